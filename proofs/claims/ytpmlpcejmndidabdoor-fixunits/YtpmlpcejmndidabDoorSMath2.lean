/-
  Plain arithmetic of regattaref02's rounding.
-/
import Derived.Test.YtpmlpcejmndidabDoorSMath
import Derived.Laws.Bits64b
set_option linter.unusedVariables false
namespace Go.Proofs.YtpmlpcejmndidabDoor

/-- By 2^n, rounded. -/
def rr (v : Int) (n : Nat) : Int := if n = 0 then v else rnd v n
/-- The bit that fell last. -/
def lastB (M : Int) (j : Nat) : Int := if j = 0 then 0 else M / 2 ^ (j - 1) % 2
/-- Whether one fell before it. -/
def restB (M : Int) (j : Nat) : Int := if M % 2 ^ (j - 1) = 0 then 0 else 1
theorem lastB_01 (M : Int) (j : Nat) : lastB M j = 0 ∨ lastB M j = 1 := by unfold lastB; split <;> omega
theorem restB_01 (M : Int) (j : Nat) : restB M j = 0 ∨ restB M j = 1 := by unfold restB; split <;> omega
theorem mod_next (a : Int) (k : Nat) : a % 2 ^ (k + 1) = a / 2 ^ k % 2 * 2 ^ k + a % 2 ^ k := by
  have hp := pow_pos' k
  have e1 := Int.mul_ediv_add_emod a (2 ^ k)
  have e2 := Int.mul_ediv_add_emod (a / 2 ^ k) 2
  have h3 := Int.emod_nonneg a (show (2 : Int) ^ k ≠ 0 by omega)
  have h4 := Int.emod_lt_of_pos a (show (0 : Int) < 2 ^ k by omega)
  rw [Int.pow_succ]
  generalize (2 : Int) ^ k = P at *
  generalize a / P = q at *
  generalize a % P = r at *
  have q0 : 0 ≤ q % 2 := by omega
  have q1 : q % 2 ≤ 1 := by omega
  generalize q % 2 = d at *
  generalize q / 2 = e at *
  have e3 : a = (P * 2) * e + (d * P + r) := by
    have : P * q = P * (2 * e + d) := by rw [e2]
    rw [Int.mul_add, ← Int.mul_assoc, Int.mul_comm P d] at this
    omega
  have n1 : d * P ≤ 1 * P := Int.mul_le_mul_of_nonneg_right q1 (by omega)
  have n0 : 0 ≤ d * P := Int.mul_nonneg q0 (by omega)
  have := Int.add_mul_emod_self_left (d * P + r) (P * 2) e
  rw [e3, Int.add_comm, this, Int.emod_eq_of_lt (by omega) (by omega)]
theorem or_00 : bits .or .u64 0 0 = 0 := by decide
theorem or_01 : bits .or .u64 0 1 = 1 := by decide
theorem or_10 : bits .or .u64 1 0 = 1 := by decide
theorem or_11 : bits .or .u64 1 1 = 1 := by decide
theorem rest_step (M : Int) (j : Nat) : bits .or .u64 (restB M j) (lastB M j) = restB M (j + 1) := by
  by_cases hj : j = 0
  · subst hj
    unfold restB lastB
    rw [if_pos rfl, if_pos (by omega)]
    exact or_00
  · have e := mod_next M (j - 1)
    rw [show j - 1 + 1 = j by omega] at e
    have hp := pow_pos' (j - 1)
    have h3 := Int.emod_nonneg M (show (2 : Int) ^ (j - 1) ≠ 0 by omega)
    unfold restB lastB
    rw [if_neg hj, show j + 1 - 1 = j by omega, e]
    rcases (show M / 2 ^ (j - 1) % 2 = 0 ∨ M / 2 ^ (j - 1) % 2 = 1 by omega) with hb | hb
    · rw [hb, Int.zero_mul, Int.zero_add]
      by_cases hr : M % 2 ^ (j - 1) = 0
      · rw [if_pos hr]; exact or_00
      · rw [if_neg hr]; exact or_10
    · rw [hb, Int.one_mul, if_neg (show ¬ (2 : Int) ^ (j - 1) + M % 2 ^ (j - 1) = 0 by omega)]
      by_cases hr : M % 2 ^ (j - 1) = 0
      · rw [if_pos hr]; exact or_01
      · rw [if_neg hr]; exact or_11
theorem lo_par (x : Int) : lo x % 2 = x % 2 := by unfold lo; omega
/-- When it goes up. -/
theorem up_iff (M : Int) (n : Nat) (m0 : 0 ≤ M) : rr M n = if lastB M n = 1 ∧ (restB M n = 1 ∨ M / 2 ^ n % 2 = 1) then M / 2 ^ n + 1 else M / 2 ^ n := by
  by_cases hn : n = 0
  · subst hn
    unfold rr lastB
    rw [if_pos rfl, if_pos rfl, if_neg (by omega), Int.pow_zero, Int.ediv_one]
  · have e := mod_next M (n - 1)
    rw [show n - 1 + 1 = n by omega] at e
    have hp := pow_pos' (n - 1)
    have h3 := Int.emod_nonneg M (show (2 : Int) ^ (n - 1) ≠ 0 by omega)
    have h4 := Int.emod_lt_of_pos M (show (0 : Int) < 2 ^ (n - 1) by omega)
    unfold rr lastB restB rnd
    rw [if_neg hn, if_neg hn]
    have hg : gu (c3 (M % 2 ^ n) (2 ^ (n - 1))) (lo (M / 2 ^ n)) = true ↔ M / 2 ^ (n - 1) % 2 = 1 ∧ ((if M % 2 ^ (n - 1) = 0 then (0 : Int) else 1) = 1 ∨ M / 2 ^ n % 2 = 1) := by
      rw [e]
      rcases (show M / 2 ^ (n - 1) % 2 = 0 ∨ M / 2 ^ (n - 1) % 2 = 1 by omega) with hb | hb
      · rw [hb, Int.zero_mul, Int.zero_add, c3_lt _ _ h4]
        constructor
        · intro h; unfold gu at h; simp at h
        · intro h; omega
      · rw [hb, Int.one_mul]
        by_cases hr : M % 2 ^ (n - 1) = 0
        · rw [if_pos hr, hr, Int.add_zero, c3_self]
          unfold gu
          rw [lo_par]
          simp
        · rw [if_neg hr, c3_gt _ _ (by omega)]
          unfold gu
          simp
    by_cases hc : M / 2 ^ (n - 1) % 2 = 1 ∧ ((if M % 2 ^ (n - 1) = 0 then (0 : Int) else 1) = 1 ∨ M / 2 ^ n % 2 = 1)
    · rw [if_pos (hg.2 hc), if_pos hc]
    · rw [if_neg (fun h => hc (hg.1 h)), if_neg hc]
/-- Rounding is the same on both sides of 0. -/
theorem rr_neg (M : Int) (n : Nat) (m0 : 0 ≤ M) : rr (-M) n = -(rr M n) := by
  unfold rr
  by_cases hn : n = 0
  · rw [if_pos hn, if_pos hn]
  · rw [if_neg hn, if_neg hn]
    have hp := pow_pos' (n - 1)
    have hP : (2 : Int) ^ n = 2 ^ (n - 1) + 2 ^ (n - 1) := by rw [← pow_two, show n - 1 + 1 = n by omega]
    have h1 := Int.mul_ediv_add_emod M (2 ^ n)
    have h3 := Int.emod_nonneg M (show (2 : Int) ^ n ≠ 0 by omega)
    have h4 := Int.emod_lt_of_pos M (show (0 : Int) < 2 ^ n by omega)
    unfold rnd
    by_cases hr : M % 2 ^ n = 0
    · have q : (-M) / 2 ^ n = -(M / 2 ^ n) := Int.neg_ediv_of_dvd (Int.dvd_of_emod_eq_zero hr)
      have m : (-M) % 2 ^ n = 0 := by
        have := Int.mul_ediv_add_emod (-M) (2 ^ n)
        rw [q, Int.mul_neg] at this
        omega
      rw [q, m, hr, c3_lt _ _ (by omega)]
      have g : ∀ l, ¬ gu (-1) l = true := by intro l; unfold gu; simp
      rw [if_neg (g _), if_neg (g _)]
    · have e5 : -M = 2 ^ n * (-(M / 2 ^ n) - 1) + (2 ^ n - M % 2 ^ n) := by rw [Int.mul_sub, Int.mul_neg, Int.mul_one]; omega
      obtain ⟨q, m⟩ := (Int.ediv_emod_unique (a := -M) (b := 2 ^ n) (r := 2 ^ n - M % 2 ^ n) (q := -(M / 2 ^ n) - 1) (by omega)).2 ⟨by omega, by omega, by omega⟩
      rw [q, m]
      generalize M % 2 ^ n = r at *
      generalize M / 2 ^ n = k at *
      generalize (2 : Int) ^ (n - 1) = H at *
      rcases (show r < H ∨ r = H ∨ H < r by omega) with h | h | h
      · rw [c3_lt r H h, c3_gt (2 ^ n - r) H (by omega)]
        have g1 : ∀ l, ¬ gu (-1) l = true := by intro l; unfold gu; simp
        have g2 : ∀ l, gu 1 l = true := by intro l; unfold gu; simp
        rw [if_pos (g2 _), if_neg (g1 _)]
        omega
      · subst h
        rw [show (2 : Int) ^ n - r = r by omega, c3_self]
        have g1 : ∀ l, (gu 0 (lo l) = true) ↔ l % 2 = 1 := by intro l; unfold gu; rw [lo_par]; simp
        by_cases hk : k % 2 = 1
        · rw [if_neg (by rw [g1]; omega), if_pos ((g1 k).2 hk)]
          omega
        · rw [if_pos ((g1 _).2 (by omega)), if_neg (by rw [g1]; exact hk)]
          omega
      · rw [c3_gt r H h, c3_lt (2 ^ n - r) H (by omega)]
        have g1 : ∀ l, ¬ gu (-1) l = true := by intro l; unfold gu; simp
        have g2 : ∀ l, gu 1 l = true := by intro l; unfold gu; simp
        rw [if_pos (g2 _), if_neg (g1 _)]
        omega
theorem rr_sign (v : Int) (n : Nat) : (if decide (v < 0) = true then -(rr (ab v) n) else rr (ab v) n) = rr v n := by
  unfold ab
  by_cases h : v < 0
  · rw [if_pos (decide_eq_true h), if_pos h, ← rr_neg (-v) n (by omega), Int.neg_neg]
  · rw [if_neg (by simpa using h), if_neg h]
end Go.Proofs.YtpmlpcejmndidabDoor
