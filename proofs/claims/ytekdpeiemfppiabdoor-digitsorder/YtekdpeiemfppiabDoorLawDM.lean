/-
  DigitsMinus: for every text s the law regattalaw03.DigitsMinus returns true: a minus sign ahead turns a number about nought: exactly, but for the end that has no other side. No condition.
-/
import Derived.Test.YtekdpeiemfppiabDoorDAwake
import Derived.Test.YtekdpeiemfppiabDoorDMathD
set_option linter.unusedVariables false
set_option linter.unusedSimpArgs false
namespace Go.Proofs.YtekdpeiemfppiabDoor
open Go.RowKit

/-- What Parts answers, its four parts apart. -/
theorem sparts_four (l : List UInt8) (hl : l.length ≤ 9223372036854775807) : ∃ (B : Bool) (A E : List UInt8) (K : Bool), K = pOk l ∧ (K = true → B = pB l ∧ A = pA l ∧ E = bE l) ∧ ∀ W : World, Calls Tryd.prog 5 #[.string (bs l)] W fun e w' => e = .returned (.tuple #[.bool B, .string (bs A), .string (bs E), .bool K]) ∧ Below W.heap.size W w' := by
  have PT := sparts_any l hl
  cases hO : pO l
  · rw [hO] at PT
    exact ⟨false, [], [], false, by unfold pOk; rw [hO]; rfl, (fun h => by cases h), PT⟩
  · refine ⟨pB l, pA l, bE l, pOk l, rfl, fun _ => ⟨rfl, rfl, rfl⟩, ?_⟩
    intro W
    have h := PT W
    rw [if_pos hO] at h
    unfold pOk
    rw [hO]
    exact h
end Go.Proofs.YtekdpeiemfppiabDoor
