/-
  Arguments that are lists of numbers: of one that is nil; matrices; lists of lists.
-/
import Derived.Test.YtldnnjcfihjkdabDoorBL
set_option linter.unusedVariables false
namespace Go.Proofs.YtldnnjcfihjkdabDoor
open Go.ChangeShapes Go.WideShapes Go.ChangeAt Go.RowKit Go.Joins

theorem fixes_none {H : Type} {enc : TypeId × Value → H} {w : World} {v : Value} {d : DataW H} {p : List MemPlace}
    (h : DataW.Trod enc Tryd.prog w 0 (fun _ => true) true 23 v d p) : ∀ n' c, v = .slice none n' c → c = 0 := by
  intro n' c e
  subst e
  obtain ⟨fuel, h⟩ := h
  rcases Go.Deep.open_slice Tryd.underlying23 h with h0 | ⟨a, len', cap', m, n, D, Pl, hc, -⟩
  · have hc := h0.1
    simp [Value.cells] at hc
    exact hc.2
  · simp [Value.cells] at hc
end Go.Proofs.YtldnnjcfihjkdabDoor
