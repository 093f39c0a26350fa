/-
  Plain arithmetic of shifts: words and powers of two.
-/
import Derived.Test.YtekdpeiemfppiabDoorMath
set_option linter.unusedVariables false
namespace Go.Proofs.YtekdpeiemfppiabDoor

/-- 2^n and 2^(64-n), for n up to 64. -/
theorem pow_split (n : Nat) (hn : n ≤ 64) : (2 : Int) ^ n * 2 ^ (64 - n) = 18446744073709551616 := by
  rw [← Int.pow_add, show n + (64 - n) = 64 by omega]; rfl
theorem pow_pos' (n : Nat) : (1 : Int) ≤ 2 ^ n := by
  have : (0 : Int) < 2 ^ n := Int.pow_pos (by omega)
  omega
theorem mod_mul_lt (a p q : Int) (hp : 1 ≤ p) (hq : 1 ≤ q) : 0 ≤ (a % q) * p ∧ (a % q) * p ≤ q * p - p := by
  have h0 : 0 ≤ a % q := Int.emod_nonneg _ (by omega)
  have h1 : a % q ≤ q - 1 := by have := Int.emod_lt_of_pos a (show 0 < q by omega); omega
  refine ⟨Int.mul_nonneg h0 (by omega), ?_⟩
  have := Int.mul_le_mul_of_nonneg_right h1 (show 0 ≤ p by omega)
  rw [Int.sub_mul, Int.one_mul] at this
  exact this
theorem mul_split (a p q B : Int) (hB : p * q = B) : a * p = (a / q) * B + (a % q) * p := by
  have h : q * (a / q) + a % q = a := Int.mul_ediv_add_emod a q
  have e : (q * (a / q) + a % q) * p = (a / q) * (p * q) + (a % q) * p := by
    rw [Int.add_mul, Int.mul_comm q, Int.mul_assoc, Int.mul_comm q p]
  rw [h, hB] at e
  exact e
theorem div_lt (a p q B : Int) (hB : p * q = B) (hp : 1 ≤ p) (hq : 1 ≤ q) (a0 : 0 ≤ a) (a1 : a < B) : 0 ≤ a / q ∧ a / q < p := by
  refine ⟨Int.ediv_nonneg a0 (by omega), Int.ediv_lt_of_lt_mul (by omega) (by rw [hB]; exact a1)⟩

/-- Times 2^n, n from 1 to 63: p = 2^n, q = 2^(64-n). -/
theorem shl_words (a0 a1 p q : Int) (hB : p * q = 18446744073709551616) (hp : 1 ≤ p) (hq : 1 ≤ q) (h0 : 0 ≤ a1) (h1 : a1 ≤ 18446744073709551615) :
    sg (a0 * p + a1 / q) = hi (nm a0 a1 * p) ∧ a1 * p % 18446744073709551616 = lo (nm a0 a1 * p) := by
  have e := mul_split a1 p q _ hB
  obtain ⟨t0, t1⟩ := mod_mul_lt a1 p q hp hq
  rw [Int.mul_comm q p, hB] at t1
  have e2 : nm a0 a1 * p = a0 * p * 18446744073709551616 + a1 * p := by unfold nm; rw [Int.add_mul, Int.mul_assoc, Int.mul_comm 18446744073709551616 p, ← Int.mul_assoc]
  rw [e2]
  generalize a0 * p = X at *
  generalize a1 * p = Y at *
  generalize (a1 % q) * p = t at *
  generalize a1 / q = s at *
  unfold sg hi lo
  omega
/-- Times 2^n, n from 64 on. -/
theorem shl_words_big (a0 a1 p : Int) : sg (a1 * p % 18446744073709551616) = hi (nm a0 a1 * (18446744073709551616 * p)) ∧ 0 = lo (nm a0 a1 * (18446744073709551616 * p)) := by
  have e2 : nm a0 a1 * (18446744073709551616 * p) = a0 * p * 340282366920938463463374607431768211456 + a1 * p * 18446744073709551616 := by
    unfold nm
    rw [Int.mul_comm 18446744073709551616 p, ← Int.mul_assoc, Int.add_mul, Int.mul_right_comm a0, Int.add_mul, Int.mul_assoc (a0 * p)]
    rfl
  rw [e2]
  generalize a0 * p = X
  generalize a1 * p = Y
  unfold sg hi lo
  omega
/-- By 2^n, n from 1 to 63. -/
theorem shr_words (a0 a1 p q : Int) (hB : p * q = 18446744073709551616) (hp : 1 ≤ p) (hq : 1 ≤ q) (g0 : -9223372036854775808 ≤ a0) (g1 : a0 ≤ 9223372036854775807) (h0 : 0 ≤ a1) (h1 : a1 ≤ 18446744073709551615) :
    a0 / p = hi (nm a0 a1 / p) ∧ a1 / p + (a0 * q) % 18446744073709551616 = lo (nm a0 a1 / p) ∧ 0 ≤ a1 / p ∧ a1 / p < q ∧ (a0 * q) % 18446744073709551616 = (a0 % p) * q ∧ 0 ≤ (a0 % p) * q := by
  have hB' : q * p = 18446744073709551616 := by rw [Int.mul_comm]; exact hB
  have e := mul_split a0 q p _ hB'
  obtain ⟨t0, t1⟩ := mod_mul_lt a0 q p hq hp
  rw [hB] at t1
  obtain ⟨d0, d1⟩ := div_lt a1 q p _ hB' hq hp h0 (by omega)
  have e2 : nm a0 a1 / p = a0 * q + a1 / p := by
    unfold nm
    rw [← hB, ← Int.mul_assoc, Int.mul_right_comm, Int.add_comm, Int.add_mul_ediv_right _ _ (by omega), Int.add_comm]
  have r0 : -9223372036854775808 ≤ a0 / p := by
    have := Int.ediv_le_ediv (show 0 < p by omega) g0
    have h2 : -9223372036854775808 ≤ -9223372036854775808 / p := by
      rw [Int.le_ediv_iff_mul_le (by omega)]
      have := Int.mul_le_mul_of_nonpos_left (a := -9223372036854775808) (by omega) hp
      omega
    omega
  have r1 : a0 / p ≤ 9223372036854775807 := by
    have h3 := Int.ediv_le_ediv (show 0 < p by omega) g1
    have h2 : 9223372036854775807 / p ≤ 9223372036854775807 := Int.ediv_le_self _ (by omega)
    omega
  rw [e2]
  generalize a0 * q = X at *
  generalize (a0 % p) * q = t at *
  generalize a0 / p = s at *
  generalize a1 / p = u at *
  unfold hi lo
  omega
theorem shr_words_big (a0 a1 p : Int) (hp : 1 ≤ p) (h0 : 0 ≤ a1) (h1 : a1 ≤ 18446744073709551615) : nm a0 a1 / (18446744073709551616 * p) = a0 / p := by
  have e : nm a0 a1 / 18446744073709551616 = a0 := by unfold nm; omega
  rw [← Int.ediv_ediv_of_nonneg (by omega), e]

/-- An 'or' of what shares no bit is a sum. -/
theorem nat_or_add (A Y n : Nat) (hA : A % 2 ^ n = 0) (hY : Y < 2 ^ n) : A ||| Y = A + Y := by
  have h := Nat.two_pow_add_eq_or_of_lt hY (A / 2 ^ n)
  rw [Nat.mul_div_cancel' (Nat.dvd_of_mod_eq_zero hA)] at h
  exact h.symm

/-- A number by 2^k, to the nearest whole one, of two the even one. -/
def rnd (v : Int) (k : Nat) : Int := if gu (c3 (v % 2 ^ k) (2 ^ (k - 1))) (lo (v / 2 ^ k)) = true then v / 2 ^ k + 1 else v / 2 ^ k
theorem pow_127 (k : Nat) (hk : k ≤ 127) : (2 : Int) ^ k ≤ 170141183460469231731687303715884105728 := by
  have h : (2 : Nat) ^ k ≤ 2 ^ 127 := Nat.pow_le_pow_right (by omega) hk
  have h2 : (((2 : Nat) ^ k : Nat) : Int) ≤ (((2 : Nat) ^ 127 : Nat) : Int) := by omega
  rw [Int.natCast_pow] at h2
  exact h2
theorem left_eq (v : Int) (k : Nat) : v - v / 2 ^ k * 2 ^ k = v % 2 ^ k := by
  have := Int.mul_ediv_add_emod v (2 ^ k)
  rw [Int.mul_comm] at this
  omega
theorem left_rng (v : Int) (k : Nat) (hk : k ≤ 127) : 0 ≤ v % 2 ^ k ∧ v % 2 ^ k ≤ 170141183460469231731687303715884105727 := by
  have hp := pow_pos' k
  have h0 := Int.emod_nonneg v (show (2 : Int) ^ k ≠ 0 by omega)
  have h1 := Int.emod_lt_of_pos v (show (0 : Int) < 2 ^ k by omega)
  have h2 := pow_127 k hk
  omega

end Go.Proofs.YtekdpeiemfppiabDoor
