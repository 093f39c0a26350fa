/-
  Plain arithmetic: a product of two halved words.
-/
import Derived.Test.YtpmidldnomleoabMath7
set_option linter.unusedVariables false
namespace Go.Proofs.Ytpmidldnomleoab

theorem prod_small (a b : Int) (a0 : -4611686018427387904 ≤ a) (a1 : a ≤ 4611686018427387903) (b0 : -4611686018427387904 ≤ b) (b1 : b ≤ 4611686018427387903) : -21267647932558653966460912964485513216 ≤ a * b ∧ a * b ≤ 21267647932558653966460912964485513216 := by
  by_cases ha : 0 ≤ a
  · by_cases hb : 0 ≤ b
    · have h1 := Int.mul_nonneg ha hb
      have h2 := Int.mul_le_mul a1 b1 hb (show (0 : Int) ≤ 4611686018427387903 by omega)
      omega
    · have h1 := Int.mul_nonneg ha (show 0 ≤ -b by omega)
      have h2 := Int.mul_le_mul a1 (show -b ≤ 4611686018427387904 by omega) (show 0 ≤ -b by omega) (show (0 : Int) ≤ 4611686018427387903 by omega)
      rw [Int.mul_neg] at h1 h2
      omega
  · by_cases hb : 0 ≤ b
    · have h1 := Int.mul_nonneg (show 0 ≤ -a by omega) hb
      have h2 := Int.mul_le_mul (show -a ≤ 4611686018427387904 by omega) b1 hb (show (0 : Int) ≤ 4611686018427387904 by omega)
      rw [Int.neg_mul] at h1 h2
      omega
    · have h1 := Int.mul_nonneg (show 0 ≤ -a by omega) (show 0 ≤ -b by omega)
      have h2 := Int.mul_le_mul (show -a ≤ 4611686018427387904 by omega) (show -b ≤ 4611686018427387904 by omega) (show 0 ≤ -b by omega) (show (0 : Int) ≤ 4611686018427387904 by omega)
      rw [Int.neg_mul_neg] at h1 h2
      omega

theorem quo_rng (v d : Int) (v0 : -85070591730234615865843651857942052864 ≤ v) (v1 : v ≤ 85070591730234615865843651857942052864) (hd : d ≠ 0) : -170141183460469231731687303715884105728 ≤ quo v d ∧ quo v d ≤ 170141183460469231731687303715884105727 := by
  have hd1 : 1 ≤ ab d := by unfold ab; split <;> omega
  have a1 : ab v ≤ 85070591730234615865843651857942052864 := by unfold ab; split <;> omega
  have h0 : 0 ≤ ab v / ab d := Int.ediv_nonneg (ab_ge v) (by omega)
  have h1 : ab v / ab d ≤ ab v := Int.ediv_le_self _ (ab_ge v)
  have h2 : 0 ≤ quoA v d ∧ quoA v d ≤ 85070591730234615865843651857942052865 := by unfold quoA; split <;> omega
  unfold quo
  split <;> omega

end Go.Proofs.Ytpmidldnomleoab
