/-
  Plain arithmetic: products of two words are wide numbers.
-/
import Derived.Test.YtpmlpcejmndidabMath6
set_option linter.unusedVariables false
namespace Go.Proofs.Ytpmlpcejmndidab

theorem prod_in (a b : Int) (a0 : -9223372036854775808 ≤ a) (a1 : a ≤ 9223372036854775807) (b0 : -9223372036854775808 ≤ b) (b1 : b ≤ 9223372036854775808) : -170141183460469231731687303715884105728 ≤ a * b ∧ a * b ≤ 170141183460469231731687303715884105727 := by
  by_cases ha : 0 ≤ a
  · by_cases hb : 0 ≤ b
    · have h1 := Int.mul_nonneg ha hb
      have h2 := Int.mul_le_mul a1 b1 hb (show (0 : Int) ≤ 9223372036854775807 by omega)
      omega
    · have h1 := Int.mul_nonneg ha (show 0 ≤ -b by omega)
      have h2 := Int.mul_le_mul a1 (show -b ≤ 9223372036854775808 by omega) (show 0 ≤ -b by omega) (show (0 : Int) ≤ 9223372036854775807 by omega)
      rw [Int.mul_neg] at h1 h2
      omega
  · by_cases hb : 0 ≤ b
    · have h1 := Int.mul_nonneg (show 0 ≤ -a by omega) hb
      have h2 := Int.mul_le_mul (show -a ≤ 9223372036854775808 by omega) b1 hb (show (0 : Int) ≤ 9223372036854775808 by omega)
      rw [Int.neg_mul] at h1 h2
      omega
    · have h1 := Int.mul_nonneg (show 0 ≤ -a by omega) (show 0 ≤ -b by omega)
      have h2 := Int.mul_le_mul (show -a ≤ 9223372036854775808 by omega) (show -b ≤ 9223372036854775808 by omega) (show 0 ≤ -b by omega) (show (0 : Int) ≤ 9223372036854775808 by omega)
      rw [Int.neg_mul_neg] at h1 h2
      omega
theorem pow_le_63' (k : Nat) (hk : k ≤ 63) : (2 : Int) ^ k ≤ 9223372036854775808 := by
  have h : (2 : Nat) ^ k ≤ 2 ^ 63 := Nat.pow_le_pow_right (by omega) hk
  have h2 : (((2 : Nat) ^ k : Nat) : Int) ≤ (((2 : Nat) ^ 63 : Nat) : Int) := by omega
  rw [Int.natCast_pow] at h2
  exact h2
theorem up_in (a : Int) (k : Nat) (hk : k ≤ 63) (a0 : -9223372036854775808 ≤ a) (a1 : a ≤ 9223372036854775807) : -170141183460469231731687303715884105728 ≤ a * 2 ^ k ∧ a * 2 ^ k ≤ 170141183460469231731687303715884105727 :=
  prod_in a (2 ^ k) a0 a1 (by have := pow_pos' k; omega) (pow_le_63' k hk)

end Go.Proofs.Ytpmlpcejmndidab
