/-
  The contract of regattaref02's Float.
-/
import Derived.Test.YtpmlpcejmndidabSWalkE
import Derived.Test.YtpmlpcejmndidabFMath2
set_option linter.unusedVariables false
set_option linter.unusedSimpArgs false
namespace Go.Proofs.Ytpmlpcejmndidab
open Go.RowKit

/-- How many bits the number lost, and how long it is. -/
theorem lost_bits (m j : Nat) (hm : m ≠ 0) (h0 : j = 0 ∨ 9007199254740992 ≤ (m : Int) / 2 ^ (j - 1)) (h1 : (m : Int) / 2 ^ j < 9007199254740992) (hj : j ≠ 0) : m.log2 = 52 + j := by
  have hn : ∀ k : Nat, (m : Int) / 2 ^ k = ((m / 2 ^ k : Nat) : Int) := by intro k; push_cast; rfl
  rw [hn] at h0 h1
  have g0 : 9007199254740992 ≤ m / 2 ^ (j - 1) := by omega
  have g1 : m / 2 ^ j < 9007199254740992 := by omega
  refine log2_is m (52 + j) ?_ ?_
  · have := (Nat.le_div_iff_mul_le (Nat.two_pow_pos (j - 1))).1 g0
    rw [show 9007199254740992 = 2 ^ 53 by decide, ← Nat.pow_add, show 53 + (j - 1) = 52 + j by omega] at this
    exact this
  · have := (Nat.div_lt_iff_lt_mul (Nat.two_pow_pos j)).1 g1
    rw [show 9007199254740992 = 2 ^ 53 by decide, ← Nat.pow_add, show 53 + j = 52 + j + 1 by omega] at this
    exact this
/-- What the rounded number and its power come to. -/
theorem told_tail (m j t : Nat) (Z P : Int) (hm : m ≠ 0) (hm1 : m ≤ 9223372036854775808) (h0 : j = 0 ∨ 9007199254740992 ≤ (m : Int) / 2 ^ (j - 1)) (h1 : (m : Int) / 2 ^ j < 9007199254740992)
    (hZ : (Z = rr (m : Int) j ∧ P = 1043 + (j : Int) ∧ ¬ Z = 9007199254740992) ∨ (rr (m : Int) j = 9007199254740992 ∧ Z = 4503599627370496 ∧ P = 1044 + (j : Int)))
    (t0 : t = 0 ∨ Z * 2 ^ (t - 1) < 4503599627370496) (t1 : ¬ Z * 2 ^ t < 4503599627370496) :
    (P - (t : Int)) * 4503599627370496 + Z * 2 ^ t - 4503599627370496 = ((m.log2 : Int) + 990) * 4503599627370496 + (kp m : Int) ∧ Z * 2 ^ t ≤ 9007199254740992 ∧ 900 ≤ P - (t : Int) ∧ P - (t : Int) ≤ 1100 := by
  have hl := log2_le63 m hm hm1
  obtain ⟨k0, k1, k2⟩ := kp_rng m hm hm1
  by_cases hj : j = 0
  · subst hj
    have hr : rr (m : Int) 0 = m := by unfold rr; rw [if_pos rfl]
    rw [hr] at hZ
    rw [Int.pow_zero, Int.ediv_one] at h1
    have hl52 : m.log2 ≤ 52 := by
      have : m.log2 < 53 := (Nat.log2_lt hm).2 (by omega)
      omega
    rcases hZ with ⟨rfl, rfl, _⟩ | ⟨h, _, _⟩
    · have ht : m.log2 + t = 52 := by
        have e : ∀ s : Nat, (m : Int) * 2 ^ s = ((m * 2 ^ s : Nat) : Int) := by intro s; push_cast; rfl
        rw [e] at t1
        have hlow : (m * 2 ^ t).log2 = m.log2 + t := by
          obtain ⟨l0, l1⟩ := log2_rng m hm
          have hp := Nat.two_pow_pos t
          refine log2_is _ _ ?_ ?_
          · rw [Nat.pow_add]; exact Nat.mul_le_mul_right _ l0
          · rw [show m.log2 + t + 1 = (m.log2 + 1) + t by omega, Nat.pow_add]; exact Nat.mul_lt_mul_of_pos_right l1 hp
        have g1 : 52 ≤ (m * 2 ^ t).log2 := (Nat.le_log2 (by have := Nat.two_pow_pos t; have := Nat.mul_pos (show 0 < m by omega) this; omega)).2 (by omega)
        rcases t0 with h | h
        · omega
        · rw [e] at h
          have hne : m * 2 ^ (t - 1) ≠ 0 := by have := Nat.two_pow_pos (t - 1); have := Nat.mul_pos (show 0 < m by omega) this; omega
          have g2 : (m * 2 ^ (t - 1)).log2 < 52 := (Nat.log2_lt hne).2 (by omega)
          have hlow2 : (m * 2 ^ (t - 1)).log2 = m.log2 + (t - 1) := by
            obtain ⟨l0, l1⟩ := log2_rng m hm
            have hp := Nat.two_pow_pos (t - 1)
            refine log2_is _ _ ?_ ?_
            · rw [Nat.pow_add]; exact Nat.mul_le_mul_right _ l0
            · rw [show m.log2 + (t - 1) + 1 = (m.log2 + 1) + (t - 1) by omega, Nat.pow_add]; exact Nat.mul_lt_mul_of_pos_right l1 hp
          omega
      have hk : kp m = m * 2 ^ t := by unfold kp; rw [if_pos hl52, show 52 - m.log2 = t by omega]
      have hk' : (m : Int) * 2 ^ t = (kp m : Int) := by rw [hk]; push_cast; rfl
      have k3 := k2 hl52
      rw [hk']
      generalize kp m = K at *
      omega
    · omega
  · have hL := lost_bits m j hm h0 h1 hj
    have hk : (kp m : Int) = rr (m : Int) j := by
      have : kp m = (rr (m : Int) (m.log2 - 52)).toNat := by unfold kp; rw [if_neg (by omega)]
      rw [show m.log2 - 52 = j by omega] at this
      omega
    rw [← hk] at hZ
    have ht : t = 0 := by
      rcases t0 with h | h
      · exact h
      · exfalso
        have hp := pow_pos' (t - 1)
        have hz : 4503599627370496 ≤ Z := by rcases hZ with ⟨h', _, _⟩ | ⟨_, h', _⟩ <;> omega
        have := Int.mul_le_mul_of_nonneg_left (show (1 : Int) ≤ 2 ^ (t - 1) by omega) (show 0 ≤ Z by omega)
        omega
    subst ht
    rw [Int.pow_zero, Int.mul_one]
    generalize kp m = K at *
    rcases hZ with ⟨h', hP, _⟩ | ⟨h', h'', hP⟩
    · subst hP; omega
    · subst hP; omega
end Go.Proofs.Ytpmlpcejmndidab
