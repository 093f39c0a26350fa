/-
  Plain arithmetic of quotients and roots.
-/
import Derived.Test.YtekdpeiemfppiabDoorMath2
set_option linter.unusedVariables false
namespace Go.Proofs.YtekdpeiemfppiabDoor

/-- A quotient to the nearest whole number, of two the even one. -/
def quoA (v d : Int) : Int := if gu (c3 (2 * (ab v % ab d)) (ab d)) (lo (ab v / ab d)) = true then ab v / ab d + 1 else ab v / ab d
def quo (v d : Int) : Int := if (decide (v < 0) != decide (d < 0)) = true then -(quoA v d) else quoA v d

theorem div_step (v d : Int) (hd : 1 ≤ d) : v / d = (v / 18446744073709551616 / d) * 18446744073709551616 + (v / 18446744073709551616 % d * 18446744073709551616 + v % 18446744073709551616) / d := by
  have e1 : v = v / 18446744073709551616 * 18446744073709551616 + v % 18446744073709551616 := by omega
  have e2 : v / 18446744073709551616 = d * (v / 18446744073709551616 / d) + v / 18446744073709551616 % d := (Int.mul_ediv_add_emod _ _).symm
  generalize v / 18446744073709551616 = H at *
  generalize v % 18446744073709551616 = L at *
  generalize hq : H / d = q at *
  generalize H % d = r at *
  subst e1
  rw [e2, Int.add_mul, Int.add_assoc, Int.mul_assoc, Int.add_comm, Int.add_mul_ediv_left _ _ (show d ≠ 0 by omega), Int.add_comm]
theorem mod_step (v d : Int) (hd : 1 ≤ d) : v % d = (v / 18446744073709551616 % d * 18446744073709551616 + v % 18446744073709551616) % d := by
  have e1 : v = v / 18446744073709551616 * 18446744073709551616 + v % 18446744073709551616 := by omega
  have e2 : v / 18446744073709551616 = d * (v / 18446744073709551616 / d) + v / 18446744073709551616 % d := (Int.mul_ediv_add_emod _ _).symm
  generalize v / 18446744073709551616 = H at *
  generalize v % 18446744073709551616 = L at *
  generalize hq : H / d = q at *
  generalize H % d = r at *
  subst e1
  rw [e2, Int.add_mul, Int.add_assoc, Int.mul_assoc, Int.add_comm, Int.add_mul_emod_self_left]
/-- The two words of a quotient of numbers without signs. -/
theorem div_words (v d : Int) (hd : 1 ≤ d) (v0 : 0 ≤ v) (v1 : v ≤ 170141183460469231731687303715884105728) :
    sg (v / 18446744073709551616 / d) = hi (v / d) ∧ (v / 18446744073709551616 % d * 18446744073709551616 + v % 18446744073709551616) / d = lo (v / d) ∧ 0 ≤ v / 18446744073709551616 % d ∧ v / 18446744073709551616 % d < d := by
  have hs := div_step v d hd
  have m0 := Int.emod_nonneg (v / 18446744073709551616) (show d ≠ 0 by omega)
  have m1 := Int.emod_lt_of_pos (v / 18446744073709551616) (show 0 < d by omega)
  have q0 : 0 ≤ v / 18446744073709551616 / d := Int.ediv_nonneg (by omega) (by omega)
  have q1 : v / 18446744073709551616 / d ≤ v / 18446744073709551616 := Int.ediv_le_self _ (by omega)
  have L0 : 0 ≤ v % 18446744073709551616 := by omega
  have L1 : v % 18446744073709551616 < 18446744073709551616 := by omega
  generalize hH : v / 18446744073709551616 = H at *
  generalize v % 18446744073709551616 = L at *
  have t0 : 0 ≤ (H % d * 18446744073709551616 + L) / d := Int.ediv_nonneg (by omega) (by omega)
  have t1 : (H % d * 18446744073709551616 + L) / d < 18446744073709551616 := by
    apply Int.ediv_lt_of_lt_mul (by omega)
    have := Int.mul_le_mul_of_nonneg_right (show H % d + 1 ≤ d by omega) (show (0 : Int) ≤ 18446744073709551616 by omega)
    rw [Int.mul_comm 18446744073709551616 d]
    omega
  generalize (H % d * 18446744073709551616 + L) / d = t at *
  generalize H / d = q at *
  refine ⟨?_, ?_, m0, m1⟩
  · rw [hs]; unfold sg hi; omega
  · rw [hs]; unfold lo; omega

theorem ab_ge (v : Int) : 0 ≤ ab v := by unfold ab; split <;> omega
theorem ab_le (v : Int) (h0 : -170141183460469231731687303715884105728 ≤ v) (h1 : v ≤ 170141183460469231731687303715884105727) : ab v ≤ 170141183460469231731687303715884105728 := by unfold ab; split <;> omega
theorem ab_d (d : Int) (h0 : -9223372036854775808 ≤ d) (h1 : d ≤ 9223372036854775807) (hd : d ≠ 0) : 1 ≤ ab d ∧ ab d ≤ 9223372036854775808 := by unfold ab; split <;> omega
theorem lo_small (x : Int) (h0 : 0 ≤ x) (h1 : x ≤ 18446744073709551615) : lo x = x := by unfold lo; omega
/-- The high word of a number without a sign, read as one. -/
theorem hi_u (v : Int) (v0 : 0 ≤ v) (v1 : v ≤ 170141183460469231731687303715884105728) : hi v % 18446744073709551616 = v / 18446744073709551616 := by unfold hi; omega

end Go.Proofs.YtekdpeiemfppiabDoor
