/-
  Plain arithmetic of long numbers' words.
-/
import Derived.Test.YtpmlpcejmndidabDoorMath4
import Derived.Test.YtpmlpcejmndidabDoorWalkD
import Derived.Laws.Bits64b
import Derived.Lib.TrailingZeros
set_option linter.unusedVariables false
namespace Go.Proofs.YtpmlpcejmndidabDoor

def u3 (v : Int) : Int := v / 340282366920938463463374607431768211456 % 18446744073709551616
/-- The i-th word of a number; above the highest one the sign goes on. -/
def wd (v : Int) (i : Nat) : Int := v / 2 ^ (64 * i) % 18446744073709551616
theorem wd_0 (v : Int) : wd v 0 = lo v := by unfold wd lo; rw [Nat.mul_zero, Int.pow_zero, Int.ediv_one]
theorem wd_1 (v : Int) : wd v 1 = m3 v := rfl
theorem wd_2 (v : Int) : wd v 2 = u3 v := rfl
theorem u3_rng (v : Int) : 0 ≤ u3 v ∧ u3 v ≤ 18446744073709551615 := by unfold u3; omega
theorem m3_rng (v : Int) : 0 ≤ m3 v ∧ m3 v ≤ 18446744073709551615 := by unfold m3; omega
theorem wd_rng (v : Int) (i : Nat) : 0 ≤ wd v i ∧ wd v i ≤ 18446744073709551615 := by unfold wd; omega
theorem t3_u3 (v : Int) : t3 v % 18446744073709551616 = u3 v := by unfold t3 u3; omega
theorem u3_t3 (v : Int) : sg (u3 v) = t3 v := by unfold sg t3 u3; omega
theorem u3_top (v : Int) (h0 : -3138550867693340381917894711603833208051177722232017256448 ≤ v) (h1 : v ≤ 3138550867693340381917894711603833208051177722232017256447) : t3 v / 9223372036854775808 = if v < 0 then -1 else 0 := by
  by_cases h : v < 0
  · rw [if_pos h]; unfold t3; omega
  · rw [if_neg h]; unfold t3; omega
theorem wd_top (v : Int) (i : Nat) (hi : 3 ≤ i) (h0 : -3138550867693340381917894711603833208051177722232017256448 ≤ v) (h1 : v ≤ 3138550867693340381917894711603833208051177722232017256447) : wd v i = if v < 0 then 18446744073709551615 else 0 := by
  have hp : (6277101735386680763835789423207666416102355444464034512896 : Int) ≤ 2 ^ (64 * i) := by
    have h2 : (2 : Nat) ^ 192 ≤ 2 ^ (64 * i) := Nat.pow_le_pow_right (by omega) (by omega)
    have h3 : (((2 : Nat) ^ 192 : Nat) : Int) ≤ (((2 : Nat) ^ (64 * i) : Nat) : Int) := by omega
    rw [Int.natCast_pow, Int.natCast_pow] at h3
    exact h3
  unfold wd
  by_cases hn : v < 0
  · rw [if_pos hn, Int.ediv_eq_neg_one_of_neg_of_le (by omega) (by omega)]; rfl
  · rw [if_neg hn, Int.ediv_eq_zero_of_lt (by omega) (by omega)]; rfl

theorem wbit_at (N : Int) (a k : Nat) : N / 2 ^ a / 2 ^ k = N / 2 ^ (a + k) := by
  rw [Int.ediv_ediv_of_nonneg (by have := pow_pos' a; omega), Int.pow_add]
theorem mod_div_two (X : Int) (r : Nat) (hr : r < 64) : X % 18446744073709551616 / 2 ^ r % 2 = X / 2 ^ r % 2 := by
  have hp := pow_pos' r
  have e := Int.mul_ediv_add_emod X 18446744073709551616
  have e2 : (18446744073709551616 : Int) = 2 ^ r * (2 * 2 ^ (63 - r)) := by
    rw [show (2 : Int) * 2 ^ (63 - r) = 2 ^ (63 - r + 1) by rw [Int.pow_succ, Int.mul_comm], ← Int.pow_add, show r + (63 - r + 1) = 64 by omega]; rfl
  have e3 : X / 2 ^ r = 2 * 2 ^ (63 - r) * (X / 18446744073709551616) + X % 18446744073709551616 / 2 ^ r := by
    have e4 : X = 2 ^ r * (2 * 2 ^ (63 - r) * (X / 18446744073709551616)) + X % 18446744073709551616 := by
      rw [← Int.mul_assoc, ← e2]; exact e.symm
    have h5 : X / 2 ^ r = (2 ^ r * (2 * 2 ^ (63 - r) * (X / 18446744073709551616)) + X % 18446744073709551616) / 2 ^ r := congrArg (fun t => t / (2 : Int) ^ r) e4
    rw [Int.add_comm, Int.add_mul_ediv_left _ _ (show (2 : Int) ^ r ≠ 0 by omega)] at h5
    omega
  rw [e3, Int.mul_assoc]
  omega
theorem wd_bit (v : Int) (q r : Nat) (hr : r < 64) : wd v q / 2 ^ r % 2 = v / 2 ^ (64 * q + r) % 2 := by
  unfold wd
  rw [mod_div_two _ r hr, wbit_at]
theorem wand1 (z : Int) (h0 : 0 ≤ z) (h1 : z < 18446744073709551616) : bits .and .u64 z 1 = z % 2 := by
  obtain ⟨Z, rfl⟩ := Int.eq_ofNat_of_zero_le h0
  have h := bits_and_u64_nat Z 1 (by omega) (by omega)
  rw [Nat.and_one_is_mod] at h
  have e : ((Z % 2 : Nat) : Int) = (Z : Int) % 2 := by omega
  rw [← e]
  exact h
/-- One word of a number that is shifted down: a part of each of two. -/
theorem down_word (X : Int) (r : Nat) (hr : r < 64) : bits .or .u64 (X % 18446744073709551616 / 2 ^ r) (X / 18446744073709551616 % 18446744073709551616 * 2 ^ (64 - r) % 18446744073709551616) = X / 2 ^ r % 18446744073709551616 := by
  have hB := pow_split r (by omega)
  have hp := pow_pos' r
  have hq := pow_pos' (64 - r)
  generalize hP : (2 : Int) ^ r = p at *
  generalize hQ : (2 : Int) ^ (64 - r) = q at *
  have hB' : q * p = 18446744073709551616 := by rw [Int.mul_comm]; exact hB
  generalize hL : X % 18446744073709551616 = L
  have L0 : 0 ≤ L := by omega
  have L1 : L < 18446744073709551616 := by omega
  obtain ⟨d0, d1⟩ := div_lt L q p _ hB' hq hp L0 L1
  generalize hH : X / 18446744073709551616 = H
  have eX : X = H * 18446744073709551616 + L := by omega
  generalize hH2 : H % 18446744073709551616 = H2
  have e := mul_split H2 q p _ hB'
  obtain ⟨t0, t1⟩ := mod_mul_lt H2 q p hq hp
  rw [hB] at t1
  have eR : H2 * q % 18446744073709551616 = H2 % p * q := by rw [e]; omega
  have e2 : X / p = H * q + L / p := by
    rw [eX, ← hB, ← Int.mul_assoc, Int.mul_right_comm, Int.add_comm, Int.add_mul_ediv_right _ _ (by omega), Int.add_comm]
  have e3 : H * q = (H / 18446744073709551616 * q) * 18446744073709551616 + H2 * q := by
    have : H = H / 18446744073709551616 * 18446744073709551616 + H2 := by omega
    have h2 : H * q = (H / 18446744073709551616 * 18446744073709551616 + H2) * q := congrArg (fun t => t * q) this
    rw [Int.add_mul, Int.mul_right_comm] at h2
    exact h2
  rw [eR]
  have hdiv : (H2 % p * q) % 2 ^ (64 - r) = 0 := by rw [hQ]; exact Int.mul_emod_left _ _
  rw [or_u64 (H2 % p * q) (L / p) (64 - r) (by omega) hdiv t0 (by omega) d0 (by rw [hQ]; exact d1) (by omega)]
  rw [e2, e3, e]
  generalize H / 18446744073709551616 * q = A at *
  generalize H2 / p = B at *
  generalize H2 % p * q = C at *
  omega

/-- Which bits are nought ahead of the first 1. -/
structure Nought (v : Int) (k : Nat) : Prop where
  le : k ≤ 192
  low : v % 2 ^ k = 0
  one : k < 192 → v / 2 ^ k % 2 = 1
theorem ctz_word (x : Nat) (h0 : x ≠ 0) (h1 : x < 18446744073709551616) : Lib.ctz 64 x < 64 ∧ (x : Int) % 2 ^ Lib.ctz 64 x = 0 ∧ (x : Int) / 2 ^ Lib.ctz 64 x % 2 = 1 := by
  obtain ⟨m, hm, hk⟩ := Lib.ctzFrom_spec 64 x (by omega) h1
  have e : Lib.ctz 64 x = Lib.ctzFrom 64 x := by simp [Lib.ctz, h0]
  rw [e]
  generalize Lib.ctzFrom 64 x = k at *
  have hp := pow_pos' k
  have ex : (x : Int) = 2 ^ k * (2 * (m : Int) + 1) := by
    have := congrArg (Int.ofNat) hm
    simp only [Int.ofNat_eq_natCast, Int.natCast_mul, Int.natCast_add, Int.natCast_pow] at this
    exact this
  refine ⟨hk, ?_, ?_⟩
  · rw [ex]; exact Int.mul_emod_right _ _
  · rw [ex, Int.mul_ediv_cancel_left _ (by omega)]; omega
end Go.Proofs.YtpmlpcejmndidabDoor
