/-
  Plain arithmetic of regattaref02's FromFloat.
-/
import Derived.Test.YtpmlpcejmndidabSWalkE
import Derived.Test.YtpmlpcejmndidabFMath2
set_option linter.unusedVariables false
set_option linter.unusedSimpArgs false
namespace Go.Proofs.Ytpmlpcejmndidab
open Go.RowKit

theorem far_same (X Y : Int) (hX : 18446744073709551616 ≤ X) (hY : 18446744073709551616 ≤ Y) (bel : Bool) :
    clv (if bel = true then -Y else Y) = clv (if bel = true then -X else X) ∧ ovv (if bel = true then -Y else Y) = ovv (if bel = true then -X else X) := by
  cases bel
  · have h1 := clv_hi X (by omega)
    have h2 := clv_hi Y (by omega)
    simp only [Bool.false_eq_true, if_false]
    rw [h1.1, h1.2, h2.1, h2.2]
    exact ⟨rfl, rfl⟩
  · have h1 := clv_lo (-X) (by omega)
    have h2 := clv_lo (-Y) (by omega)
    simp only [if_true]
    rw [h1.1, h1.2, h2.1, h2.2]
    exact ⟨rfl, rfl⟩
theorem fS_bel (b : Int) : fS b = if (b / 9223372036854775808 == 1) = true then -(fD b) else fD b := by
  unfold fS
  by_cases h : b / 9223372036854775808 = 1
  · rw [if_pos h, if_pos (by simpa using h)]
  · rw [if_neg h, if_neg (by simpa using h)]
theorem pow_add64 (m : Int) (t n : Nat) (h : t ≤ n) (m0 : 0 ≤ m) : m * 2 ^ t ≤ m * 2 ^ n := by
  have h1 : (2 : Nat) ^ t ≤ 2 ^ n := Nat.pow_le_pow_right (by omega) h
  have h2 : ((2 ^ t : Nat) : Int) ≤ ((2 ^ n : Nat) : Int) := Int.ofNat_le.2 h1
  rw [Int.natCast_pow, Int.natCast_pow] at h2
  exact Int.mul_le_mul_of_nonneg_left h2 m0
/-- Far up. -/
theorem ff_up (b : Int) (t : Nat) (Y : Int) (e0 : 1044 ≤ fE b) (e1 : fE b ≤ 2046) (ht : (t : Int) ≤ fE b - 1043) (hY : Y = fD b * 2 ^ t) (h : (t : Int) = fE b - 1043 ∨ 18446744073709551616 ≤ Y) (hb : Y < 36893488147419103232) :
    clv (if (b / 9223372036854775808 == 1) = true then -Y else Y) = clv (fV b) ∧ ovv (if (b / 9223372036854775808 == 1) = true then -Y else Y) = ovv (fV b) := by
  have hf := fF_rng b
  have hD : fD b = fF b + 4503599627370496 := by unfold fD; rw [if_pos (by omega)]
  have hP : fP b + 32 = fE b - 1043 := by unfold fP; rw [if_pos (by omega)]; omega
  have hV : fV b = if (b / 9223372036854775808 == 1) = true then -(fD b * 2 ^ (min (fE b - 1043) 64).toNat) else fD b * 2 ^ (min (fE b - 1043) 64).toNat := by
    unfold fV
    rw [hP, if_pos (by omega), fS_bel]
    split
    · rw [Int.neg_mul]
    · rfl
  rw [hV]
  have hD0 : 4503599627370496 ≤ fD b := by omega
  generalize fD b = D at *
  generalize fE b - 1043 = N at *
  by_cases hN : N ≤ 64
  · rcases h with h | h
    · rw [show (min N 64).toNat = t by omega, ← hY]
      exact ⟨rfl, rfl⟩
    · refine far_same _ _ ?_ h _
      have := pow_add64 D t (min N 64).toNat (by omega) (by omega)
      omega
  · have h64 : (min N 64).toNat = 64 := by omega
    rw [h64]
    have e : (2 : Int) ^ 64 = 18446744073709551616 := rfl
    rw [e]
    refine far_same _ _ (by omega) ?_ _
    rcases h with h | h
    · have := pow_add64 D 65 t (by omega) (by omega)
      have e2 : (2 : Int) ^ 65 = 36893488147419103232 := rfl
      rw [e2] at this
      omega
    · exact h
theorem ff_down (b : Int) (e1 : fP b + 32 ≤ 0) : (if (b / 9223372036854775808 == 1) = true then -(rr (fD b) (-(fP b + 32)).toNat) else rr (fD b) (-(fP b + 32)).toNat) = fV b := by
  have hD := fD_rng b
  have hV : fV b = rr (fS b) (-(fP b + 32)).toNat := by unfold fV; rw [if_neg (by omega)]
  rw [hV, fS_bel]
  cases (b / 9223372036854775808 == 1)
  · rfl
  · exact (rr_neg _ _ hD.1).symm
/-- The infinities. -/
theorem ff_inf (b : Int) (hE : fE b = 2047) (hF : fF b = 0) : clv (fV b) = (if (b / 9223372036854775808 == 1) = true then -9223372036854775808 else 9223372036854775807) ∧ ovv (fV b) = true := by
  have hD : fD b = 4503599627370496 := by unfold fD; rw [if_pos (by omega), hF]; rfl
  have hP : fP b + 32 = 1004 := by unfold fP; rw [if_pos (by omega), hE]; rfl
  have hV : fV b = if (b / 9223372036854775808 == 1) = true then -83076749736557242056487941267521536 else 83076749736557242056487941267521536 := by
    unfold fV
    rw [hP, if_pos (by omega), fS_bel, hD]
    split <;> rfl
  rw [hV]
  cases (b / 9223372036854775808 == 1)
  · exact clv_hi 83076749736557242056487941267521536 (by omega)
  · exact clv_lo (-83076749736557242056487941267521536) (by omega)
end Go.Proofs.Ytpmlpcejmndidab
