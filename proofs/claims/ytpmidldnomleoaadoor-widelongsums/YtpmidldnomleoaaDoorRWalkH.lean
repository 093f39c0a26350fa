/-
  The contract of regattaref01's Mul.
-/
import Derived.Test.YtpmidldnomleoaaDoorRWalkG
set_option linter.unusedVariables false
set_option linter.unusedSimpArgs false
namespace Go.Proofs.YtpmidldnomleoaaDoor
open Go.RowKit

theorem inr_64 (x : Int) (x0 : -9223372036854775808 ≤ x) (x1 : x ≤ 9223372036854775807) : InR 64 x := by
  unfold InR
  rw [show (2 : Int) ^ (64 - 1) = 9223372036854775808 from rfl]
  omega
theorem mul_bit (A Y : Int) (k : Nat) : A * (Y % 2 ^ (k + 1)) = A * (Y % 2 ^ k) + A * 2 ^ k * (Y / 2 ^ k % 2) := by
  rw [mod_succ, Int.mul_add, Int.add_comm, Int.mul_assoc A, Int.mul_comm (2 ^ k) (Y / 2 ^ k % 2)]
theorem sgn_mul (x y : Int) : (if y < 0 then -x else x) * ab y = x * y := by
  by_cases h : y < 0
  · rw [if_pos h, ab_neg y h, Int.neg_mul_neg]
  · rw [if_neg h, ab_pos y (by omega)]

theorem ab_rng (y : Int) (y0 : -9223372036854775808 ≤ y) (y1 : y ≤ 9223372036854775807) : 0 ≤ ab y ∧ ab y ≤ 9223372036854775808 := by unfold ab; split <;> omega

end Go.Proofs.YtpmidldnomleoaaDoor
