/-
  The contract of regattaref03's Parse.
-/
import Derived.Test.YtekdpeiemfppiabDoorDWalkF
set_option linter.unusedVariables false
set_option linter.unusedSimpArgs false
namespace Go.Proofs.YtekdpeiemfppiabDoor
open Go.RowKit

theorem gb_app (a b : List UInt8) (i : Nat) : gb (a ++ b) i = if i < a.length then gb a i else gb b (i - a.length) := by
  unfold gb
  by_cases h : i < a.length
  · rw [if_pos h]; simp [List.getD, List.getElem?_append_left h]
  · rw [if_neg h]; simp [List.getD, List.getElem?_append_right (Nat.le_of_not_lt h)]
theorem dig_app (a b : List UInt8) (ha : ∀ i, i < a.length → 48 ≤ gb a i ∧ gb a i ≤ 57) (hb : ∀ i, i < b.length → 48 ≤ gb b i ∧ gb b i ≤ 57) : ∀ i, i < (a ++ b).length → 48 ≤ gb (a ++ b) i ∧ gb (a ++ b) i ≤ 57 := by
  intro i hi
  rw [List.length_append] at hi
  rw [gb_app]
  split
  · exact ha i (by omega)
  · exact hb _ (by omega)

end Go.Proofs.YtekdpeiemfppiabDoor
