/-
  An argument that is a range, opened.
-/
import Derived.Test.YtoojakjbpbjeaaaEFrame
set_option linter.unusedVariables false
namespace Go.Proofs.Ytoojakjbpbjeaaa
open Go.ChangeShapes Go.WideShapes Go.ChangeAt Go.RowKit Go.Joins

theorem cellsRg : Try.prog.cellsOf 36 = 3 := by kernel_rfl
set_option maxRecDepth 100000 in
theorem open_range {H : Type} {enc : TypeId × Value → H} {w : World} {r : Reach} {b0 : Nat} {v : Value} {d : DataW H} {p : List MemPlace}
    (hv : Value.okWide Try.prog w r b0 36 v) (h : DataW.Trod enc Try.prog w 0 (fun _ => true) true 36 v d p) :
    ∃ (a b c : Int), v = .agg #[.int .i64 a, .int .i64 b, .int .i64 c] ∧ (-9223372036854775808 ≤ a ∧ a ≤ 9223372036854775807) ∧ (-9223372036854775808 ≤ b ∧ b ≤ 9223372036854775807) ∧ (-9223372036854775808 ≤ c ∧ c ≤ 9223372036854775807) := by
  obtain ⟨c0, c1, c2, y0, y1, y2, m, rfl, rfl, rfl, hy0, hy1, hy2⟩ := open_agg3 Try.underlying36 (by kernel_rfl) cellsRg hv h
  obtain ⟨a, e1, -, wa⟩ := DataW.trod_int Try.underlying3 hy0
  obtain ⟨b, e2, -, wb⟩ := DataW.trod_int Try.underlying34 hy1
  obtain ⟨c, e3, -, wc⟩ := DataW.trod_int Try.underlying34 hy2
  simp at e1 e2 e3
  subst e1 e2 e3
  exact ⟨a, b, c, rfl, bounds_i64 wa, bounds_i64 wb, bounds_i64 wc⟩
end Go.Proofs.Ytoojakjbpbjeaaa
