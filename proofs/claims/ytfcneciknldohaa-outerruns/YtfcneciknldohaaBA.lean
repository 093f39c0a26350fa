/-
  Math, Math2, Math3, Math4, Math5, SMath, SMath2, SMath3, FMath.
-/
import Derived.Laws.Bits64b
import Derived.Laws.FloatArith
/-
  Plain arithmetic of wide numbers: no program in sight. 'hi v', 'lo v': the two words of the whole number v, wrapped round to 128 bits.
-/
set_option linter.unusedVariables false
namespace Go.Proofs.Ytfcneciknldohaa

def hi (v : Int) : Int := (v / 18446744073709551616 + 9223372036854775808) % 18446744073709551616 - 9223372036854775808
def lo (v : Int) : Int := v % 18446744073709551616
/-- The number of two words. -/
def nm (h l : Int) : Int := h * 18446744073709551616 + l

theorem hi_ge (v : Int) : -9223372036854775808 ≤ hi v := by unfold hi; omega
theorem hi_le (v : Int) : hi v ≤ 9223372036854775807 := by unfold hi; omega
theorem lo_ge (v : Int) : 0 ≤ lo v := by unfold lo; omega
theorem lo_le (v : Int) : lo v ≤ 18446744073709551615 := by unfold lo; omega

theorem hi_nm (h l : Int) (h0 : -9223372036854775808 ≤ h) (h1 : h ≤ 9223372036854775807) (l0 : 0 ≤ l) (l1 : l ≤ 18446744073709551615) : hi (nm h l) = h := by unfold hi nm; omega
theorem lo_nm (h l : Int) (l0 : 0 ≤ l) (l1 : l ≤ 18446744073709551615) : lo (nm h l) = l := by unfold lo nm; omega
theorem nm_val (v : Int) (h0 : -170141183460469231731687303715884105728 ≤ v) (h1 : v ≤ 170141183460469231731687303715884105727) : nm (hi v) (lo v) = v := by unfold hi lo nm; omega
theorem nm_mod (v : Int) : (nm (hi v) (lo v) - v) % 340282366920938463463374607431768211456 = 0 := by unfold hi lo nm; omega
theorem nm_ge (h l : Int) (h0 : -9223372036854775808 ≤ h) (l0 : 0 ≤ l) : -170141183460469231731687303715884105728 ≤ nm h l := by unfold nm; omega
theorem nm_le (h l : Int) (h0 : h ≤ 9223372036854775807) (l0 : l ≤ 18446744073709551615) : nm h l ≤ 170141183460469231731687303715884105727 := by unfold nm; omega

theorem hi_congr (a b : Int) (h : (a - b) % 340282366920938463463374607431768211456 = 0) : hi a = hi b := by unfold hi; omega
theorem lo_congr (a b : Int) (h : (a - b) % 340282366920938463463374607431768211456 = 0) : lo a = lo b := by unfold lo; omega
theorem congr_of (a b : Int) (h : hi a = hi b) (l : lo a = lo b) : (a - b) % 340282366920938463463374607431768211456 = 0 := by unfold hi lo at *; omega

theorem of_hi (n : Int) (h0 : -9223372036854775808 ≤ n) (h1 : n ≤ 9223372036854775807) : n / 9223372036854775808 = hi n := by unfold hi; omega

/-- Sub64's borrow. -/
def bor (x y : Int) : Int := if x < y then 1 else 0
theorem bor_01 (x y : Int) : 0 ≤ bor x y ∧ bor x y ≤ 1 := by unfold bor; split <;> omega

theorem add_lo (a0 a1 b0 b1 : Int) : (a1 + b1) % 18446744073709551616 = lo (nm a0 a1 + nm b0 b1) := by unfold lo nm; omega
theorem add_hi (a0 a1 b0 b1 : Int) (ha0 : 0 ≤ a1) (ha1 : a1 ≤ 18446744073709551615) (hb0 : 0 ≤ b1) (hb1 : b1 ≤ 18446744073709551615) : ((a0 % 18446744073709551616 + b0 % 18446744073709551616 + (a1 + b1) / 18446744073709551616) % 18446744073709551616 + 9223372036854775808) % 18446744073709551616 - 9223372036854775808 = hi (nm a0 a1 + nm b0 b1) := by unfold hi nm; omega
theorem sub_lo (a0 a1 b0 b1 : Int) : (a1 + 18446744073709551616 - b1) % 18446744073709551616 = lo (nm a0 a1 - nm b0 b1) := by unfold lo nm; omega
theorem sub_hi (a0 a1 b0 b1 : Int) (ha0 : 0 ≤ a1) (ha1 : a1 ≤ 18446744073709551615) (hb0 : 0 ≤ b1) (hb1 : b1 ≤ 18446744073709551615) : ((a0 % 18446744073709551616 + 18446744073709551616 - b0 % 18446744073709551616 - bor a1 b1) % 18446744073709551616 + 9223372036854775808) % 18446744073709551616 - 9223372036854775808 = hi (nm a0 a1 - nm b0 b1) := by unfold hi nm bor; split <;> omega
theorem add_congr (a b : Int) : (nm (hi a) (lo a) + nm (hi b) (lo b) - (a + b)) % 340282366920938463463374607431768211456 = 0 := by unfold hi lo nm; omega
theorem sub_congr (a b : Int) : (nm (hi a) (lo a) - nm (hi b) (lo b) - (a - b)) % 340282366920938463463374607431768211456 = 0 := by unfold hi lo nm; omega

/-- Which of two is the greater. -/
def c3 (x y : Int) : Int := if x < y then -1 else if y < x then 1 else 0
theorem c3_lt (x y : Int) (h : x < y) : c3 x y = -1 := by unfold c3; rw [if_pos h]
theorem c3_gt (x y : Int) (h : y < x) : c3 x y = 1 := by unfold c3; rw [if_neg (by omega), if_pos h]
theorem c3_self (x : Int) : c3 x x = 0 := by unfold c3; rw [if_neg (by omega), if_neg (by omega)]
/-- The first that is not nought. -/
def or2 (p q : Int) : Int := if p = 0 then q else p
theorem or2_0 (q : Int) : or2 0 q = q := by unfold or2; rw [if_pos rfl]
theorem or2_ne (p q : Int) (h : p ≠ 0) : or2 p q = p := by unfold or2; rw [if_neg h]
theorem c3_nm (a0 a1 b0 b1 : Int) (ha0 : 0 ≤ a1) (ha1 : a1 ≤ 18446744073709551615) (hb0 : 0 ≤ b1) (hb1 : b1 ≤ 18446744073709551615) : or2 (c3 a0 b0) (c3 a1 b1) = c3 (nm a0 a1) (nm b0 b1) := by
  unfold or2 c3 nm
  split <;> split <;> (try split) <;> (try split) <;> (try split) <;> (try split) <;> (try split) <;> omega
theorem c3_val (a b : Int) (a0 : -170141183460469231731687303715884105728 ≤ a) (a1 : a ≤ 170141183460469231731687303715884105727) (b0 : -170141183460469231731687303715884105728 ≤ b) (b1 : b ≤ 170141183460469231731687303715884105727) : or2 (c3 (hi a) (hi b)) (c3 (lo a) (lo b)) = c3 a b := by
  rw [c3_nm _ _ _ _ (lo_ge a) (lo_le a) (lo_ge b) (lo_le b), nm_val a a0 a1, nm_val b b0 b1]

/-- A product, from the product of the two numbers taken without their signs. -/
theorem mul_pp (a b : Int) : (a * b / 18446744073709551616 + 9223372036854775808) % 18446744073709551616 - 9223372036854775808 = hi (a * b) ∧ a * b % 18446744073709551616 = lo (a * b) := ⟨rfl, rfl⟩
theorem mul_np (a b : Int) (a0 : a < 0) (b0 : 0 ≤ b) (a1 : -9223372036854775808 ≤ a) (b1 : b ≤ 9223372036854775807) : (((a % 18446744073709551616) * b / 18446744073709551616 - b) % 18446744073709551616 + 9223372036854775808) % 18446744073709551616 - 9223372036854775808 = hi (a * b) ∧ (a % 18446744073709551616) * b % 18446744073709551616 = lo (a * b) := by
  have ea : a % 18446744073709551616 = a + 18446744073709551616 := by omega
  rw [ea, Int.add_mul]
  unfold hi lo
  generalize a * b = P
  omega
theorem mul_pn (a b : Int) (a0 : 0 ≤ a) (b0 : b < 0) (a1 : a ≤ 9223372036854775807) (b1 : -9223372036854775808 ≤ b) : ((a * (b % 18446744073709551616) / 18446744073709551616 - a) % 18446744073709551616 + 9223372036854775808) % 18446744073709551616 - 9223372036854775808 = hi (a * b) ∧ a * (b % 18446744073709551616) % 18446744073709551616 = lo (a * b) := by
  have eb : b % 18446744073709551616 = b + 18446744073709551616 := by omega
  rw [eb, Int.mul_add]
  unfold hi lo
  generalize a * b = P
  omega
theorem mul_nn (a b : Int) (a0 : a < 0) (b0 : b < 0) (a1 : -9223372036854775808 ≤ a) (b1 : -9223372036854775808 ≤ b) : (((((a % 18446744073709551616) * (b % 18446744073709551616) / 18446744073709551616) - b % 18446744073709551616) % 18446744073709551616 - a % 18446744073709551616) % 18446744073709551616 + 9223372036854775808) % 18446744073709551616 - 9223372036854775808 = hi (a * b) ∧ (a % 18446744073709551616) * (b % 18446744073709551616) % 18446744073709551616 = lo (a * b) := by
  have ea : a % 18446744073709551616 = a + 18446744073709551616 := by omega
  have eb : b % 18446744073709551616 = b + 18446744073709551616 := by omega
  rw [ea, eb, Int.add_mul, Int.mul_add]
  unfold hi lo
  generalize a * b = P
  omega

/-- A number as one of 64 bits, and whether it had to be clamped. -/
def clv (v : Int) : Int := if v < -9223372036854775808 then -9223372036854775808 else if 9223372036854775807 < v then 9223372036854775807 else v
def ovv (v : Int) : Bool := decide (v < -9223372036854775808) || decide (9223372036854775807 < v)
theorem clv_in (v : Int) (h0 : -9223372036854775808 ≤ v) (h1 : v ≤ 9223372036854775807) : clv v = v ∧ ovv v = false := by
  unfold clv ovv; rw [if_neg (by omega), if_neg (by omega)]; simp; omega
theorem clv_lo (v : Int) (h0 : v < -9223372036854775808) : clv v = -9223372036854775808 ∧ ovv v = true := by
  unfold clv ovv; rw [if_pos h0]; simp; omega
theorem clv_hi (v : Int) (h0 : 9223372036854775807 < v) : clv v = 9223372036854775807 ∧ ovv v = true := by
  unfold clv ovv; rw [if_neg (by omega), if_pos h0]; simp; omega
/-- The signed reading of a word without a sign. -/
def sg (x : Int) : Int := (x + 9223372036854775808) % 18446744073709551616 - 9223372036854775808
theorem fits_in (v : Int) (h0 : -9223372036854775808 ≤ v) (h1 : v ≤ 9223372036854775807) : hi v = sg (lo v) / 9223372036854775808 ∧ sg (lo v) = v := by unfold hi lo sg; omega
theorem sg_small (l : Int) (h0 : 0 ≤ l) (h1 : l < 9223372036854775808) : sg l = l := by unfold sg; omega
theorem sg_big (l : Int) (h0 : 9223372036854775808 ≤ l) (h1 : l ≤ 18446744073709551615) : sg l = l - 18446744073709551616 := by unfold sg; omega
theorem fits_lo (v : Int) (h0 : v < -9223372036854775808) (h1 : -170141183460469231731687303715884105728 ≤ v) : ¬ hi v = sg (lo v) / 9223372036854775808 ∧ hi v < 0 := by
  have e := nm_val v h1 (by omega)
  have l0 := lo_ge v
  have l1 := lo_le v
  generalize hi v = h at *
  generalize lo v = l at *
  unfold nm at e
  by_cases hl : l < 9223372036854775808
  · rw [sg_small l l0 hl]; omega
  · rw [sg_big l (by omega) l1]; omega
theorem fits_hi (v : Int) (h0 : 9223372036854775807 < v) (h1 : v ≤ 170141183460469231731687303715884105727) : ¬ hi v = sg (lo v) / 9223372036854775808 ∧ ¬ hi v < 0 := by
  have e := nm_val v (by omega) h1
  have l0 := lo_ge v
  have l1 := lo_le v
  generalize hi v = h at *
  generalize lo v = l at *
  unfold nm at e
  by_cases hl : l < 9223372036854775808
  · rw [sg_small l l0 hl]; omega
  · rw [sg_big l (by omega) l1]; omega

/-- The rule by which all is rounded. -/
def gu (side low : Int) : Bool := decide (0 < side) || (decide (side = 0) && decide (low % 2 = 1))

/-- A number without its sign. -/
def ab (v : Int) : Int := if v < 0 then -v else v
theorem ab_neg (v : Int) (h : v < 0) : ab v = -v := by unfold ab; rw [if_pos h]
theorem ab_pos (v : Int) (h : 0 ≤ v) : ab v = v := by unfold ab; rw [if_neg (by omega)]
theorem hi_neg (v : Int) (h0 : -170141183460469231731687303715884105728 ≤ v) (h1 : v < 0) : hi v < 0 := by unfold hi; omega
theorem hi_pos (v : Int) (h0 : 0 ≤ v) (h1 : v ≤ 170141183460469231731687303715884105727) : ¬ hi v < 0 := by unfold hi; omega

/-- The three words of a long number. -/
def t3 (v : Int) : Int := (v / 340282366920938463463374607431768211456 + 9223372036854775808) % 18446744073709551616 - 9223372036854775808
def m3 (v : Int) : Int := v / 18446744073709551616 % 18446744073709551616
theorem ext_words (v : Int) (h0 : -170141183460469231731687303715884105728 ≤ v) (h1 : v ≤ 170141183460469231731687303715884105727) : hi v / 9223372036854775808 = t3 v ∧ hi v % 18446744073709551616 = m3 v := by unfold hi t3 m3; omega

end Go.Proofs.Ytfcneciknldohaa
/-
  Plain arithmetic of shifts: words and powers of two.
-/
set_option linter.unusedVariables false
namespace Go.Proofs.Ytfcneciknldohaa

/-- 2^n and 2^(64-n), for n up to 64. -/
theorem pow_split (n : Nat) (hn : n ≤ 64) : (2 : Int) ^ n * 2 ^ (64 - n) = 18446744073709551616 := by
  rw [← Int.pow_add, show n + (64 - n) = 64 by omega]; rfl
theorem pow_pos' (n : Nat) : (1 : Int) ≤ 2 ^ n := by
  have : (0 : Int) < 2 ^ n := Int.pow_pos (by omega)
  omega
theorem mod_mul_lt (a p q : Int) (hp : 1 ≤ p) (hq : 1 ≤ q) : 0 ≤ (a % q) * p ∧ (a % q) * p ≤ q * p - p := by
  have h0 : 0 ≤ a % q := Int.emod_nonneg _ (by omega)
  have h1 : a % q ≤ q - 1 := by have := Int.emod_lt_of_pos a (show 0 < q by omega); omega
  refine ⟨Int.mul_nonneg h0 (by omega), ?_⟩
  have := Int.mul_le_mul_of_nonneg_right h1 (show 0 ≤ p by omega)
  rw [Int.sub_mul, Int.one_mul] at this
  exact this
theorem mul_split (a p q B : Int) (hB : p * q = B) : a * p = (a / q) * B + (a % q) * p := by
  have h : q * (a / q) + a % q = a := Int.mul_ediv_add_emod a q
  have e : (q * (a / q) + a % q) * p = (a / q) * (p * q) + (a % q) * p := by
    rw [Int.add_mul, Int.mul_comm q, Int.mul_assoc, Int.mul_comm q p]
  rw [h, hB] at e
  exact e
theorem div_lt (a p q B : Int) (hB : p * q = B) (hp : 1 ≤ p) (hq : 1 ≤ q) (a0 : 0 ≤ a) (a1 : a < B) : 0 ≤ a / q ∧ a / q < p := by
  refine ⟨Int.ediv_nonneg a0 (by omega), Int.ediv_lt_of_lt_mul (by omega) (by rw [hB]; exact a1)⟩

/-- Times 2^n, n from 1 to 63: p = 2^n, q = 2^(64-n). -/
theorem shl_words (a0 a1 p q : Int) (hB : p * q = 18446744073709551616) (hp : 1 ≤ p) (hq : 1 ≤ q) (h0 : 0 ≤ a1) (h1 : a1 ≤ 18446744073709551615) :
    sg (a0 * p + a1 / q) = hi (nm a0 a1 * p) ∧ a1 * p % 18446744073709551616 = lo (nm a0 a1 * p) := by
  have e := mul_split a1 p q _ hB
  obtain ⟨t0, t1⟩ := mod_mul_lt a1 p q hp hq
  rw [Int.mul_comm q p, hB] at t1
  have e2 : nm a0 a1 * p = a0 * p * 18446744073709551616 + a1 * p := by unfold nm; rw [Int.add_mul, Int.mul_assoc, Int.mul_comm 18446744073709551616 p, ← Int.mul_assoc]
  rw [e2]
  generalize a0 * p = X at *
  generalize a1 * p = Y at *
  generalize (a1 % q) * p = t at *
  generalize a1 / q = s at *
  unfold sg hi lo
  omega
/-- Times 2^n, n from 64 on. -/
theorem shl_words_big (a0 a1 p : Int) : sg (a1 * p % 18446744073709551616) = hi (nm a0 a1 * (18446744073709551616 * p)) ∧ 0 = lo (nm a0 a1 * (18446744073709551616 * p)) := by
  have e2 : nm a0 a1 * (18446744073709551616 * p) = a0 * p * 340282366920938463463374607431768211456 + a1 * p * 18446744073709551616 := by
    unfold nm
    rw [Int.mul_comm 18446744073709551616 p, ← Int.mul_assoc, Int.add_mul, Int.mul_right_comm a0, Int.add_mul, Int.mul_assoc (a0 * p)]
    rfl
  rw [e2]
  generalize a0 * p = X
  generalize a1 * p = Y
  unfold sg hi lo
  omega
/-- By 2^n, n from 1 to 63. -/
theorem shr_words (a0 a1 p q : Int) (hB : p * q = 18446744073709551616) (hp : 1 ≤ p) (hq : 1 ≤ q) (g0 : -9223372036854775808 ≤ a0) (g1 : a0 ≤ 9223372036854775807) (h0 : 0 ≤ a1) (h1 : a1 ≤ 18446744073709551615) :
    a0 / p = hi (nm a0 a1 / p) ∧ a1 / p + (a0 * q) % 18446744073709551616 = lo (nm a0 a1 / p) ∧ 0 ≤ a1 / p ∧ a1 / p < q ∧ (a0 * q) % 18446744073709551616 = (a0 % p) * q ∧ 0 ≤ (a0 % p) * q := by
  have hB' : q * p = 18446744073709551616 := by rw [Int.mul_comm]; exact hB
  have e := mul_split a0 q p _ hB'
  obtain ⟨t0, t1⟩ := mod_mul_lt a0 q p hq hp
  rw [hB] at t1
  obtain ⟨d0, d1⟩ := div_lt a1 q p _ hB' hq hp h0 (by omega)
  have e2 : nm a0 a1 / p = a0 * q + a1 / p := by
    unfold nm
    rw [← hB, ← Int.mul_assoc, Int.mul_right_comm, Int.add_comm, Int.add_mul_ediv_right _ _ (by omega), Int.add_comm]
  have r0 : -9223372036854775808 ≤ a0 / p := by
    have := Int.ediv_le_ediv (show 0 < p by omega) g0
    have h2 : -9223372036854775808 ≤ -9223372036854775808 / p := by
      rw [Int.le_ediv_iff_mul_le (by omega)]
      have := Int.mul_le_mul_of_nonpos_left (a := -9223372036854775808) (by omega) hp
      omega
    omega
  have r1 : a0 / p ≤ 9223372036854775807 := by
    have h3 := Int.ediv_le_ediv (show 0 < p by omega) g1
    have h2 : 9223372036854775807 / p ≤ 9223372036854775807 := Int.ediv_le_self _ (by omega)
    omega
  rw [e2]
  generalize a0 * q = X at *
  generalize (a0 % p) * q = t at *
  generalize a0 / p = s at *
  generalize a1 / p = u at *
  unfold hi lo
  omega
theorem shr_words_big (a0 a1 p : Int) (hp : 1 ≤ p) (h0 : 0 ≤ a1) (h1 : a1 ≤ 18446744073709551615) : nm a0 a1 / (18446744073709551616 * p) = a0 / p := by
  have e : nm a0 a1 / 18446744073709551616 = a0 := by unfold nm; omega
  rw [← Int.ediv_ediv_of_nonneg (by omega), e]

/-- An 'or' of what shares no bit is a sum. -/
theorem nat_or_add (A Y n : Nat) (hA : A % 2 ^ n = 0) (hY : Y < 2 ^ n) : A ||| Y = A + Y := by
  have h := Nat.two_pow_add_eq_or_of_lt hY (A / 2 ^ n)
  rw [Nat.mul_div_cancel' (Nat.dvd_of_mod_eq_zero hA)] at h
  exact h.symm

/-- A number by 2^k, to the nearest whole one, of two the even one. -/
def rnd (v : Int) (k : Nat) : Int := if gu (c3 (v % 2 ^ k) (2 ^ (k - 1))) (lo (v / 2 ^ k)) = true then v / 2 ^ k + 1 else v / 2 ^ k
theorem pow_127 (k : Nat) (hk : k ≤ 127) : (2 : Int) ^ k ≤ 170141183460469231731687303715884105728 := by
  have h : (2 : Nat) ^ k ≤ 2 ^ 127 := Nat.pow_le_pow_right (by omega) hk
  have h2 : (((2 : Nat) ^ k : Nat) : Int) ≤ (((2 : Nat) ^ 127 : Nat) : Int) := by omega
  rw [Int.natCast_pow] at h2
  exact h2
theorem left_eq (v : Int) (k : Nat) : v - v / 2 ^ k * 2 ^ k = v % 2 ^ k := by
  have := Int.mul_ediv_add_emod v (2 ^ k)
  rw [Int.mul_comm] at this
  omega
theorem left_rng (v : Int) (k : Nat) (hk : k ≤ 127) : 0 ≤ v % 2 ^ k ∧ v % 2 ^ k ≤ 170141183460469231731687303715884105727 := by
  have hp := pow_pos' k
  have h0 := Int.emod_nonneg v (show (2 : Int) ^ k ≠ 0 by omega)
  have h1 := Int.emod_lt_of_pos v (show (0 : Int) < 2 ^ k by omega)
  have h2 := pow_127 k hk
  omega

end Go.Proofs.Ytfcneciknldohaa
/-
  Plain arithmetic of quotients and roots.
-/
set_option linter.unusedVariables false
namespace Go.Proofs.Ytfcneciknldohaa

/-- A quotient to the nearest whole number, of two the even one. -/
def quoA (v d : Int) : Int := if gu (c3 (2 * (ab v % ab d)) (ab d)) (lo (ab v / ab d)) = true then ab v / ab d + 1 else ab v / ab d
def quo (v d : Int) : Int := if (decide (v < 0) != decide (d < 0)) = true then -(quoA v d) else quoA v d

theorem div_step (v d : Int) (hd : 1 ≤ d) : v / d = (v / 18446744073709551616 / d) * 18446744073709551616 + (v / 18446744073709551616 % d * 18446744073709551616 + v % 18446744073709551616) / d := by
  have e1 : v = v / 18446744073709551616 * 18446744073709551616 + v % 18446744073709551616 := by omega
  have e2 : v / 18446744073709551616 = d * (v / 18446744073709551616 / d) + v / 18446744073709551616 % d := (Int.mul_ediv_add_emod _ _).symm
  generalize v / 18446744073709551616 = H at *
  generalize v % 18446744073709551616 = L at *
  generalize hq : H / d = q at *
  generalize H % d = r at *
  subst e1
  rw [e2, Int.add_mul, Int.add_assoc, Int.mul_assoc, Int.add_comm, Int.add_mul_ediv_left _ _ (show d ≠ 0 by omega), Int.add_comm]
theorem mod_step (v d : Int) (hd : 1 ≤ d) : v % d = (v / 18446744073709551616 % d * 18446744073709551616 + v % 18446744073709551616) % d := by
  have e1 : v = v / 18446744073709551616 * 18446744073709551616 + v % 18446744073709551616 := by omega
  have e2 : v / 18446744073709551616 = d * (v / 18446744073709551616 / d) + v / 18446744073709551616 % d := (Int.mul_ediv_add_emod _ _).symm
  generalize v / 18446744073709551616 = H at *
  generalize v % 18446744073709551616 = L at *
  generalize hq : H / d = q at *
  generalize H % d = r at *
  subst e1
  rw [e2, Int.add_mul, Int.add_assoc, Int.mul_assoc, Int.add_comm, Int.add_mul_emod_self_left]
/-- The two words of a quotient of numbers without signs. -/
theorem div_words (v d : Int) (hd : 1 ≤ d) (v0 : 0 ≤ v) (v1 : v ≤ 170141183460469231731687303715884105728) :
    sg (v / 18446744073709551616 / d) = hi (v / d) ∧ (v / 18446744073709551616 % d * 18446744073709551616 + v % 18446744073709551616) / d = lo (v / d) ∧ 0 ≤ v / 18446744073709551616 % d ∧ v / 18446744073709551616 % d < d := by
  have hs := div_step v d hd
  have m0 := Int.emod_nonneg (v / 18446744073709551616) (show d ≠ 0 by omega)
  have m1 := Int.emod_lt_of_pos (v / 18446744073709551616) (show 0 < d by omega)
  have q0 : 0 ≤ v / 18446744073709551616 / d := Int.ediv_nonneg (by omega) (by omega)
  have q1 : v / 18446744073709551616 / d ≤ v / 18446744073709551616 := Int.ediv_le_self _ (by omega)
  have L0 : 0 ≤ v % 18446744073709551616 := by omega
  have L1 : v % 18446744073709551616 < 18446744073709551616 := by omega
  generalize hH : v / 18446744073709551616 = H at *
  generalize v % 18446744073709551616 = L at *
  have t0 : 0 ≤ (H % d * 18446744073709551616 + L) / d := Int.ediv_nonneg (by omega) (by omega)
  have t1 : (H % d * 18446744073709551616 + L) / d < 18446744073709551616 := by
    apply Int.ediv_lt_of_lt_mul (by omega)
    have := Int.mul_le_mul_of_nonneg_right (show H % d + 1 ≤ d by omega) (show (0 : Int) ≤ 18446744073709551616 by omega)
    rw [Int.mul_comm 18446744073709551616 d]
    omega
  generalize (H % d * 18446744073709551616 + L) / d = t at *
  generalize H / d = q at *
  refine ⟨?_, ?_, m0, m1⟩
  · rw [hs]; unfold sg hi; omega
  · rw [hs]; unfold lo; omega

theorem ab_ge (v : Int) : 0 ≤ ab v := by unfold ab; split <;> omega
theorem ab_le (v : Int) (h0 : -170141183460469231731687303715884105728 ≤ v) (h1 : v ≤ 170141183460469231731687303715884105727) : ab v ≤ 170141183460469231731687303715884105728 := by unfold ab; split <;> omega
theorem ab_d (d : Int) (h0 : -9223372036854775808 ≤ d) (h1 : d ≤ 9223372036854775807) (hd : d ≠ 0) : 1 ≤ ab d ∧ ab d ≤ 9223372036854775808 := by unfold ab; split <;> omega
theorem lo_small (x : Int) (h0 : 0 ≤ x) (h1 : x ≤ 18446744073709551615) : lo x = x := by unfold lo; omega
/-- The high word of a number without a sign, read as one. -/
theorem hi_u (v : Int) (v0 : 0 ≤ v) (v1 : v ≤ 170141183460469231731687303715884105728) : hi v % 18446744073709551616 = v / 18446744073709551616 := by unfold hi; omega

end Go.Proofs.Ytfcneciknldohaa
/-
  Plain arithmetic of roots.
-/
set_option linter.unusedVariables false
namespace Go.Proofs.Ytfcneciknldohaa

/-- The root, bit by bit from the highest: k bits are left. -/
def rtA (v : Int) : Nat → Int → Int
  | 0, r => r
  | k + 1, r => rtA v k (if (r + 2 ^ k) * (r + 2 ^ k) ≤ v then r + 2 ^ k else r)
def rt (v : Int) : Int := rtA v 63 0

/-- What holds when k bits are left. -/
structure RtI (v : Int) (k : Nat) (r : Int) : Prop where
  low : 0 ≤ r
  mod : r % 2 ^ k = 0
  top : r + 2 ^ k ≤ 9223372036854775808
  le : r * r ≤ v
  lt : v < (r + 2 ^ k) * (r + 2 ^ k)
theorem RtI.start (v : Int) (v0 : 0 ≤ v) (v1 : v < 85070591730234615865843651857942052864) : RtI v 63 0 :=
  ⟨by omega, by omega, by omega, by omega, by omega⟩
theorem pow_two (k : Nat) : (2 : Int) ^ (k + 1) = 2 ^ k + 2 ^ k := by rw [Int.pow_succ]; omega
theorem RtI.step {v : Int} {k : Nat} {r : Int} (h : RtI v (k + 1) r) : RtI v k (if (r + 2 ^ k) * (r + 2 ^ k) ≤ v then r + 2 ^ k else r) := by
  obtain ⟨low, mod, top, le, lt⟩ := h
  have hp := pow_pos' k
  have e2 := pow_two k
  obtain ⟨c, hc⟩ := Int.dvd_of_emod_eq_zero mod
  have hm : r % 2 ^ k = 0 := by rw [hc, e2, ← Int.two_mul, Int.mul_comm 2, Int.mul_assoc]; exact Int.mul_emod_right _ _
  by_cases hl : (r + 2 ^ k) * (r + 2 ^ k) ≤ v
  · rw [if_pos hl]
    refine ⟨by omega, ?_, by omega, hl, ?_⟩
    · rw [Int.add_emod_right]; exact hm
    · rw [show r + 2 ^ k + 2 ^ k = r + 2 ^ (k + 1) by omega]; exact lt
  · rw [if_neg hl]
    exact ⟨low, hm, by omega, le, by omega⟩
theorem rtA_spec (v : Int) : ∀ (k : Nat) (r : Int), RtI v k r → RtI v 0 (rtA v k r)
  | 0, r, h => h
  | k + 1, r, h => rtA_spec v k _ h.step
theorem rt_spec (v : Int) (v0 : 0 ≤ v) (v1 : v < 85070591730234615865843651857942052864) : 0 ≤ rt v ∧ rt v ≤ 9223372036854775807 ∧ rt v * rt v ≤ v ∧ v < (rt v + 1) * (rt v + 1) := by
  obtain ⟨low, mod, top, le, lt⟩ := rtA_spec v 63 0 (RtI.start v v0 v1)
  refine ⟨low, ?_, le, lt⟩
  have : (2 : Int) ^ 0 = 1 := rfl
  unfold rt
  omega
theorem sq_rng (n : Int) (n0 : 0 ≤ n) (n1 : n ≤ 9223372036854775808) : 0 ≤ n * n ∧ n * n ≤ 85070591730234615865843651857942052864 := by
  have h := Int.mul_le_mul n1 n1 n0 (by omega : (0 : Int) ≤ 9223372036854775808)
  exact ⟨Int.mul_nonneg n0 n0, by omega⟩

theorem words_mid (v : Int) (v0 : 0 ≤ v) (v1 : v < 85070591730234615865843651857942052864) : ¬ t3 v < 0 ∧ ¬ 0 < t3 v ∧ m3 v < 4611686018427387904 ∧ 0 ≤ m3 v ∧ m3 v = hi v := by unfold t3 m3 hi; omega
theorem words_neg (v : Int) (v0 : v < 0) (v1 : -3138550867693340381917894711603833208051177722232017256448 ≤ v) : t3 v < 0 := by unfold t3; omega
theorem words_big (v : Int) (v0 : 85070591730234615865843651857942052864 ≤ v) (v1 : v < 3138550867693340381917894711603833208051177722232017256448) : ¬ t3 v < 0 ∧ (0 < t3 v ∨ (¬ 0 < t3 v ∧ ¬ m3 v < 4611686018427387904)) := by unfold t3 m3; omega

end Go.Proofs.Ytfcneciknldohaa
/-
  Plain arithmetic of a long division of two words by one, half a word at a time.
-/
set_option linter.unusedVariables false
namespace Go.Proofs.Ytfcneciknldohaa

/-- The divisor V in two halves, what is divided so far, U, below it, and the next half word u. -/
structure KG (V Y1 Y0 U u : Int) : Prop where
  v0 : 9223372036854775808 ≤ V
  v1 : V ≤ 18446744073709551615
  vv : V = Y1 * 4294967296 + Y0
  y0 : 0 ≤ Y0
  y1 : Y0 ≤ 4294967295
  u0 : 0 ≤ U
  u1 : U < V
  t0 : 0 ≤ u
  t1 : u ≤ 4294967295
/-- What holds at the head of the loop. -/
structure KI (V Y1 Y0 U u q r : Int) : Prop where
  e : q * Y1 + r = U
  q0 : 0 ≤ q
  q1 : q ≤ 4294967297
  r0 : 0 ≤ r
  r1 : r ≤ 4294967295
  lo : (U * 4294967296 + u) / V ≤ q

theorem KG.half {V Y1 Y0 U u : Int} (g : KG V Y1 Y0 U u) : 2147483648 ≤ Y1 ∧ Y1 ≤ 4294967295 := by
  obtain ⟨v0, v1, vv, y0, y1, u0, u1, t0, t1⟩ := g
  omega
theorem KG.qlt {V Y1 Y0 U u : Int} (g : KG V Y1 Y0 U u) : 0 ≤ (U * 4294967296 + u) / V ∧ (U * 4294967296 + u) / V ≤ 4294967295 := by
  obtain ⟨v0, v1, vv, y0, y1, u0, u1, t0, t1⟩ := g
  refine ⟨Int.ediv_nonneg (by omega) (by omega), ?_⟩
  have : (U * 4294967296 + u) / V < 4294967296 := Int.ediv_lt_of_lt_mul (by omega) (by omega)
  omega
theorem KG.mulV {V Y1 Y0 U u : Int} (g : KG V Y1 Y0 U u) (q : Int) : q * V = q * Y1 * 4294967296 + q * Y0 := by
  rw [g.vv, Int.mul_add, ← Int.mul_assoc]
theorem KG.le_of {V Y1 Y0 U u : Int} (g : KG V Y1 Y0 U u) (q : Int) (h : q * V ≤ U * 4294967296 + u) : q ≤ (U * 4294967296 + u) / V := by
  have := g.v0
  exact (Int.le_ediv_iff_mul_le (by omega)).2 h
theorem KG.lt_of {V Y1 Y0 U u : Int} (g : KG V Y1 Y0 U u) (q : Int) (h : U * 4294967296 + u < q * V) : (U * 4294967296 + u) / V < q := by
  have := g.v0
  exact Int.ediv_lt_of_lt_mul (by omega) h

theorem KI.start {V Y1 Y0 U u : Int} (g : KG V Y1 Y0 U u) : KI V Y1 Y0 U u (U / Y1) (U - U / Y1 * Y1) := by
  obtain ⟨h0, h1⟩ := g.half
  have hm := Int.mul_ediv_add_emod U Y1
  have m0 := Int.emod_nonneg U (show Y1 ≠ 0 by omega)
  have m1 := Int.emod_lt_of_pos U (show 0 < Y1 by omega)
  have em : U - U / Y1 * Y1 = U % Y1 := by rw [Int.mul_comm] at hm; omega
  rw [em]
  obtain ⟨v0, v1, vv, y0, y1, u0, u1, t0, t1⟩ := id g
  refine ⟨by rw [Int.mul_comm]; exact hm, Int.ediv_nonneg u0 (by omega), ?_, m0, by omega, ?_⟩
  · have : U / Y1 < 4294967298 := Int.ediv_lt_of_lt_mul (by omega) (by omega)
    omega
  · -- the guess is not below the true one
    have hq := g.mulV (U / Y1 + 1)
    have : (U * 4294967296 + u) / V < U / Y1 + 1 := by
      apply g.lt_of
      rw [hq, Int.add_mul (U / Y1) 1 Y1, Int.one_mul, Int.add_mul (U / Y1) 1 Y0, Int.one_mul]
      have e1 : U / Y1 * Y1 = U - U % Y1 := by omega
      have e2 : 0 ≤ U / Y1 * Y0 := Int.mul_nonneg (Int.ediv_nonneg u0 (by omega)) y0
      rw [e1]
      omega
    omega
/-- The test says no: it is the true one. -/
theorem KI.stop {V Y1 Y0 U u q r : Int} (g : KG V Y1 Y0 U u) (k : KI V Y1 Y0 U u q r) (h : q * Y0 ≤ 4294967296 * r + u) : q = (U * 4294967296 + u) / V := by
  have h1 := g.le_of q (by rw [g.mulV]; have := k.e; omega)
  have := k.lo
  omega
/-- The test says yes: one less. -/
theorem KI.less {V Y1 Y0 U u q r : Int} (g : KG V Y1 Y0 U u) (k : KI V Y1 Y0 U u q r) (h : 4294967296 ≤ q ∨ 4294967296 * r + u < q * Y0) : (U * 4294967296 + u) / V ≤ q - 1 := by
  rcases h with h | h
  · have := g.qlt; omega
  · have := g.lt_of q (by rw [g.mulV]; have := k.e; omega)
    omega
theorem KI.next {V Y1 Y0 U u q r : Int} (g : KG V Y1 Y0 U u) (k : KI V Y1 Y0 U u q r) (h : 4294967296 ≤ q ∨ 4294967296 * r + u < q * Y0) (hr : r + Y1 ≤ 4294967295) : KI V Y1 Y0 U u (q - 1) (r + Y1) := by
  have hl := k.less g h
  have := g.qlt
  have := g.half
  obtain ⟨e, q0, q1, r0, r1, lo⟩ := k
  exact ⟨by rw [Int.sub_mul, Int.one_mul]; omega, by omega, by omega, by omega, by omega, hl⟩
theorem KI.break {V Y1 Y0 U u q r : Int} (g : KG V Y1 Y0 U u) (k : KI V Y1 Y0 U u q r) (h : 4294967296 ≤ q ∨ 4294967296 * r + u < q * Y0) (hr : 4294967296 ≤ r + Y1) : q - 1 = (U * 4294967296 + u) / V := by
  have hl := k.less g h
  have hq := g.qlt
  have h1 : q - 1 ≤ (U * 4294967296 + u) / V := by
    apply g.le_of
    rw [g.mulV]
    have e1 : (q - 1) * Y1 = U - (r + Y1) := by rw [Int.sub_mul, Int.one_mul]; have := k.e; omega
    have e2 : (q - 1) * Y0 ≤ 4294967296 * 4294967295 := Int.mul_le_mul (by have := k.q1; omega) g.y1 g.y0 (by omega)
    rw [e1]
    have := g.t0
    omega
  omega
/-- What is left over. -/
theorem KG.left {V Y1 Y0 U u q : Int} (g : KG V Y1 Y0 U u) (hq : q = (U * 4294967296 + u) / V) : U * 4294967296 + u - q * V = (U * 4294967296 + u) % V ∧ 0 ≤ (U * 4294967296 + u) % V ∧ (U * 4294967296 + u) % V < V := by
  have := g.v0
  have hm := Int.mul_ediv_add_emod (U * 4294967296 + u) V
  rw [← hq, Int.mul_comm] at hm
  exact ⟨by omega, Int.emod_nonneg _ (by omega), Int.emod_lt_of_pos _ (by omega)⟩
theorem wrap_left (A M R : Int) (h : A - M = R) (r0 : 0 ≤ R) (r1 : R ≤ 18446744073709551615) : (A % 18446744073709551616 - M % 18446744073709551616) % 18446744073709551616 = R := by omega

/-- The whole: two steps make the quotient and what is left. -/
theorem two_steps (N y p V U T T1 T0 : Int) (hp : 1 ≤ p) (hy : 1 ≤ y) (hV : V = y * p) (hN : N * p = U * 18446744073709551616 + T) (hT : T = T1 * 4294967296 + T0) :
    N / y = (U * 4294967296 + T1) / V * 4294967296 + ((U * 4294967296 + T1) % V * 4294967296 + T0) / V ∧ N % y * p = ((U * 4294967296 + T1) % V * 4294967296 + T0) % V := by
  have hV0 : 0 < V := by rw [hV]; exact Int.mul_pos (by omega) (by omega)
  have h1 := Int.mul_ediv_add_emod (U * 4294967296 + T1) V
  have e0 : N * p = (U * 4294967296 + T1) * 4294967296 + T0 := by omega
  have e1 : N * p = V * ((U * 4294967296 + T1) / V * 4294967296) + ((U * 4294967296 + T1) % V * 4294967296 + T0) := by
    rw [e0, ← Int.mul_assoc]
    generalize V * ((U * 4294967296 + T1) / V) = A at *
    generalize (U * 4294967296 + T1) % V = B at *
    omega
  have d1 : N * p / V = N / y := by rw [hV]; exact Int.mul_ediv_mul_of_pos_left _ _ (by omega)
  have d2 : N * p % V = N % y * p := by rw [hV, Int.mul_comm N p, Int.mul_comm y p, Int.mul_emod_mul_of_pos _ _ (by omega), Int.mul_comm]
  constructor
  · rw [← d1, e1, Int.add_comm, Int.add_mul_ediv_left _ _ (by omega), Int.add_comm]
  · rw [← d2, e1, Int.add_comm, Int.add_mul_emod_self_left]

/-- The dividend brought up with the divisor: its two words. -/
theorem up_words (h l p q : Int) (hB : p * q = 18446744073709551616) (hp : 1 ≤ p) (hq : 1 ≤ q) (h0 : 0 ≤ h) (l0 : 0 ≤ l) (l1 : l ≤ 18446744073709551615) (hh : h * p ≤ 18446744073709551615) :
    (h * 18446744073709551616 + l) * p = (h * p + l / q) * 18446744073709551616 + l * p % 18446744073709551616 ∧ 0 ≤ l / q ∧ l / q < p := by
  have e := mul_split l p q _ hB
  obtain ⟨t0, t1⟩ := mod_mul_lt l p q hp hq
  rw [Int.mul_comm q p, hB] at t1
  obtain ⟨d0, d1⟩ := div_lt l p q _ hB hp hq l0 (by omega)
  refine ⟨?_, d0, d1⟩
  have e2 : (h * 18446744073709551616 + l) * p = h * p * 18446744073709551616 + l * p := by rw [Int.add_mul, Int.mul_right_comm]
  rw [e2]
  generalize h * p = X at *
  generalize l * p = Y at *
  generalize (l % q) * p = t at *
  generalize l / q = s at *
  omega
theorem up_below (h l y p q : Int) (hB : p * q = 18446744073709551616) (hp : 1 ≤ p) (hq : 1 ≤ q) (hy : h < y) (h0 : 0 ≤ h) (l0 : 0 ≤ l) (l1 : l ≤ 18446744073709551615) : h * p + l / q < y * p ∧ h * p ≤ y * p - p := by
  obtain ⟨d0, d1⟩ := div_lt l p q _ hB hp hq l0 (by omega)
  have := Int.mul_le_mul_of_nonneg_right (show h + 1 ≤ y by omega) (show 0 ≤ p by omega)
  rw [Int.add_mul, Int.one_mul] at this
  omega

end Go.Proofs.Ytfcneciknldohaa
/-
  Plain arithmetic of regattaref02's numbers: digits to the base 2^32.
-/
set_option linter.unusedVariables false
namespace Go.Proofs.Ytfcneciknldohaa

/-- The i-th digit to the base 2^32. -/
def dg (v : Int) (i : Nat) : Int := v / 2 ^ (32 * i) % 4294967296
theorem dg_rng (v : Int) (i : Nat) : 0 ≤ dg v i ∧ dg v i ≤ 4294967295 := by unfold dg; omega
/-- What a sum carries into the i-th digit. -/
def ca (a b : Int) (i : Nat) : Int := (a % 2 ^ (32 * i) + b % 2 ^ (32 * i)) / 2 ^ (32 * i)
/-- What a difference borrows of the i-th digit. -/
def bo (a b : Int) (i : Nat) : Int := -((a % 2 ^ (32 * i) - b % 2 ^ (32 * i)) / 2 ^ (32 * i))
theorem ca_zero (a b : Int) : ca a b 0 = 0 := by
  unfold ca; rw [Nat.mul_zero, Int.pow_zero]; omega
theorem bo_zero (a b : Int) : bo a b 0 = 0 := by
  unfold bo; rw [Nat.mul_zero, Int.pow_zero]; omega
theorem pow32 (i : Nat) : (2 : Int) ^ (32 * (i + 1)) = 2 ^ (32 * i) * 4294967296 := by
  rw [show 32 * (i + 1) = 32 * i + 32 by omega, Int.pow_add]; rfl
/-- A number below p·B: its upper digit and what is below. -/
theorem mod_up (a p : Int) (hp : 1 ≤ p) : a % (p * 4294967296) = a / p % 4294967296 * p + a % p := by
  have h1 := Int.mul_ediv_add_emod a p
  have h2 := Int.mul_ediv_add_emod (a / p) 4294967296
  have h3 := Int.emod_nonneg a (show p ≠ 0 by omega)
  have h4 := Int.emod_lt_of_pos a (show 0 < p by omega)
  have q0 : 0 ≤ a / p % 4294967296 := by omega
  have q1 : a / p % 4294967296 ≤ 4294967295 := by omega
  generalize a / p = q at *
  generalize q % 4294967296 = d at *
  generalize q / 4294967296 = e at *
  generalize a % p = r at *
  have e1 : a = (p * 4294967296) * e + (d * p + r) := by
    have : p * q = p * (4294967296 * e + d) := by rw [h2]
    rw [Int.mul_add, ← Int.mul_assoc, Int.mul_comm p d] at this
    omega
  have n0 : 0 ≤ d * p := Int.mul_nonneg q0 (by omega)
  have n1 : d * p ≤ 4294967295 * p := Int.mul_le_mul_of_nonneg_right q1 (by omega)
  have := Int.add_mul_emod_self_left (d * p + r) (p * 4294967296) e
  rw [e1, Int.add_comm, this, Int.emod_eq_of_lt (by omega) (by omega)]
theorem add_over (u r p : Int) (hp : 1 ≤ p) : (u * p + r) / p = u + r / p := by
  rw [Int.add_comm, Int.add_mul_ediv_right _ _ (by omega), Int.add_comm]
/-- (u·p + r) by p·B, where r by p is c: (u + c) by B. -/
theorem up_div (u r p : Int) (hp : 1 ≤ p) : (u * p + r) / (p * 4294967296) = (u + r / p) / 4294967296 := by
  rw [← add_over u r p hp, Int.ediv_ediv_of_nonneg (by omega)]
theorem sum_digit (a b : Int) (i : Nat) : (dg a i + dg b i + ca a b i) % 4294967296 = dg (a + b) i ∧ (dg a i + dg b i + ca a b i) / 4294967296 = ca a b (i + 1) := by
  have hp := pow_pos' (32 * i)
  unfold ca dg
  rw [pow32]
  generalize (2 : Int) ^ (32 * i) = p at *
  have ea := Int.mul_ediv_add_emod a p
  have eb := Int.mul_ediv_add_emod b p
  have es : (a + b) / p = a / p + b / p + (a % p + b % p) / p := by
    have e : a + b = (a / p + b / p) * p + (a % p + b % p) := by
      rw [Int.add_mul, Int.mul_comm (a / p), Int.mul_comm (b / p)]; omega
    have h := congrArg (fun t => t / p) e
    rw [add_over _ _ p (by omega)] at h
    exact h
  refine ⟨by rw [es]; omega, ?_⟩
  rw [mod_up a p (by omega), mod_up b p (by omega)]
  rw [show a / p % 4294967296 * p + a % p + (b / p % 4294967296 * p + b % p) = (a / p % 4294967296 + b / p % 4294967296) * p + (a % p + b % p) by rw [Int.add_mul]; omega, up_div _ _ p (by omega)]
theorem ca_rng (a b : Int) (i : Nat) : 0 ≤ ca a b i ∧ ca a b i ≤ 1 := by
  have hp := pow_pos' (32 * i)
  unfold ca
  generalize (2 : Int) ^ (32 * i) = p at *
  have h1 := Int.emod_nonneg a (show p ≠ 0 by omega)
  have h2 := Int.emod_lt_of_pos a (show 0 < p by omega)
  have h3 := Int.emod_nonneg b (show p ≠ 0 by omega)
  have h4 := Int.emod_lt_of_pos b (show 0 < p by omega)
  refine ⟨Int.ediv_nonneg (by omega) (by omega), ?_⟩
  have := Int.ediv_lt_of_lt_mul (a := a % p + b % p) (b := 2) (c := p) (by omega) (by omega)
  omega
theorem dif_digit (a b : Int) (i : Nat) : (dg a i + 4294967296 - dg b i - bo a b i) % 4294967296 = dg (a - b) i ∧ 1 - (dg a i + 4294967296 - dg b i - bo a b i) / 4294967296 = bo a b (i + 1) := by
  have hp := pow_pos' (32 * i)
  unfold bo dg
  rw [pow32]
  generalize (2 : Int) ^ (32 * i) = p at *
  have ea := Int.mul_ediv_add_emod a p
  have eb := Int.mul_ediv_add_emod b p
  have es : (a - b) / p = a / p - b / p + (a % p - b % p) / p := by
    have e : a - b = (a / p - b / p) * p + (a % p - b % p) := by
      rw [Int.sub_mul, Int.mul_comm (a / p), Int.mul_comm (b / p)]; omega
    have h := congrArg (fun t => t / p) e
    rw [add_over _ _ p (by omega)] at h
    exact h
  refine ⟨by rw [es]; omega, ?_⟩
  rw [mod_up a p (by omega), mod_up b p (by omega)]
  rw [show a / p % 4294967296 * p + a % p - (b / p % 4294967296 * p + b % p) = (a / p % 4294967296 - b / p % 4294967296) * p + (a % p - b % p) by rw [Int.sub_mul]; omega, up_div _ _ p (by omega)]
  omega
theorem bo_rng (a b : Int) (i : Nat) : 0 ≤ bo a b i ∧ bo a b i ≤ 1 := by
  have hp := pow_pos' (32 * i)
  unfold bo
  generalize (2 : Int) ^ (32 * i) = p at *
  have h1 := Int.emod_nonneg a (show p ≠ 0 by omega)
  have h2 := Int.emod_lt_of_pos a (show 0 < p by omega)
  have h3 := Int.emod_nonneg b (show p ≠ 0 by omega)
  have h4 := Int.emod_lt_of_pos b (show 0 < p by omega)
  have l := Int.ediv_lt_of_lt_mul (a := a % p - b % p) (b := 1) (c := p) (by omega) (by omega)
  have g : -1 ≤ (a % p - b % p) / p := by
    rw [Int.le_ediv_iff_mul_le (by omega)]
    omega
  omega
/-- By two, digit by digit, from above. -/
theorem half_digit (m : Int) (i : Nat) : (m / 2 ^ (32 * (i + 1)) % 2 * 4294967296 + dg m i) / 2 = dg (m / 2) i ∧ (m / 2 ^ (32 * (i + 1)) % 2 * 4294967296 + dg m i) % 2 = m / 2 ^ (32 * i) % 2 := by
  have hp := pow_pos' (32 * i)
  unfold dg
  rw [pow32, ← Int.ediv_ediv_of_nonneg (show (0 : Int) ≤ 2 ^ (32 * i) by omega)]
  rw [show m / 2 / 2 ^ (32 * i) = m / 2 ^ (32 * i) / 2 by rw [Int.ediv_ediv_of_nonneg (by omega), Int.ediv_ediv_of_nonneg (by omega), Int.mul_comm]]
  generalize m / 2 ^ (32 * i) = M
  omega
/-- Six digits are enough. -/
theorem top_none (m : Int) (h0 : 0 ≤ m) (h1 : m < 6277101735386680763835789423207666416102355444464034512896) : m / 2 ^ (32 * 6) = 0 := Int.ediv_eq_zero_of_lt h0 (by show m < 6277101735386680763835789423207666416102355444464034512896; exact h1)
end Go.Proofs.Ytfcneciknldohaa
/-
  Plain arithmetic of regattaref02's rounding.
-/
set_option linter.unusedVariables false
namespace Go.Proofs.Ytfcneciknldohaa

/-- By 2^n, rounded. -/
def rr (v : Int) (n : Nat) : Int := if n = 0 then v else rnd v n
/-- The bit that fell last. -/
def lastB (M : Int) (j : Nat) : Int := if j = 0 then 0 else M / 2 ^ (j - 1) % 2
/-- Whether one fell before it. -/
def restB (M : Int) (j : Nat) : Int := if M % 2 ^ (j - 1) = 0 then 0 else 1
theorem lastB_01 (M : Int) (j : Nat) : lastB M j = 0 ∨ lastB M j = 1 := by unfold lastB; split <;> omega
theorem restB_01 (M : Int) (j : Nat) : restB M j = 0 ∨ restB M j = 1 := by unfold restB; split <;> omega
theorem mod_next (a : Int) (k : Nat) : a % 2 ^ (k + 1) = a / 2 ^ k % 2 * 2 ^ k + a % 2 ^ k := by
  have hp := pow_pos' k
  have e1 := Int.mul_ediv_add_emod a (2 ^ k)
  have e2 := Int.mul_ediv_add_emod (a / 2 ^ k) 2
  have h3 := Int.emod_nonneg a (show (2 : Int) ^ k ≠ 0 by omega)
  have h4 := Int.emod_lt_of_pos a (show (0 : Int) < 2 ^ k by omega)
  rw [Int.pow_succ]
  generalize (2 : Int) ^ k = P at *
  generalize a / P = q at *
  generalize a % P = r at *
  have q0 : 0 ≤ q % 2 := by omega
  have q1 : q % 2 ≤ 1 := by omega
  generalize q % 2 = d at *
  generalize q / 2 = e at *
  have e3 : a = (P * 2) * e + (d * P + r) := by
    have : P * q = P * (2 * e + d) := by rw [e2]
    rw [Int.mul_add, ← Int.mul_assoc, Int.mul_comm P d] at this
    omega
  have n1 : d * P ≤ 1 * P := Int.mul_le_mul_of_nonneg_right q1 (by omega)
  have n0 : 0 ≤ d * P := Int.mul_nonneg q0 (by omega)
  have := Int.add_mul_emod_self_left (d * P + r) (P * 2) e
  rw [e3, Int.add_comm, this, Int.emod_eq_of_lt (by omega) (by omega)]
theorem or_00 : bits .or .u64 0 0 = 0 := by decide
theorem or_01 : bits .or .u64 0 1 = 1 := by decide
theorem or_10 : bits .or .u64 1 0 = 1 := by decide
theorem or_11 : bits .or .u64 1 1 = 1 := by decide
theorem rest_step (M : Int) (j : Nat) : bits .or .u64 (restB M j) (lastB M j) = restB M (j + 1) := by
  by_cases hj : j = 0
  · subst hj
    unfold restB lastB
    rw [if_pos rfl, if_pos (by omega)]
    exact or_00
  · have e := mod_next M (j - 1)
    rw [show j - 1 + 1 = j by omega] at e
    have hp := pow_pos' (j - 1)
    have h3 := Int.emod_nonneg M (show (2 : Int) ^ (j - 1) ≠ 0 by omega)
    unfold restB lastB
    rw [if_neg hj, show j + 1 - 1 = j by omega, e]
    rcases (show M / 2 ^ (j - 1) % 2 = 0 ∨ M / 2 ^ (j - 1) % 2 = 1 by omega) with hb | hb
    · rw [hb, Int.zero_mul, Int.zero_add]
      by_cases hr : M % 2 ^ (j - 1) = 0
      · rw [if_pos hr]; exact or_00
      · rw [if_neg hr]; exact or_10
    · rw [hb, Int.one_mul, if_neg (show ¬ (2 : Int) ^ (j - 1) + M % 2 ^ (j - 1) = 0 by omega)]
      by_cases hr : M % 2 ^ (j - 1) = 0
      · rw [if_pos hr]; exact or_01
      · rw [if_neg hr]; exact or_11
theorem lo_par (x : Int) : lo x % 2 = x % 2 := by unfold lo; omega
/-- When it goes up. -/
theorem up_iff (M : Int) (n : Nat) (m0 : 0 ≤ M) : rr M n = if lastB M n = 1 ∧ (restB M n = 1 ∨ M / 2 ^ n % 2 = 1) then M / 2 ^ n + 1 else M / 2 ^ n := by
  by_cases hn : n = 0
  · subst hn
    unfold rr lastB
    rw [if_pos rfl, if_pos rfl, if_neg (by omega), Int.pow_zero, Int.ediv_one]
  · have e := mod_next M (n - 1)
    rw [show n - 1 + 1 = n by omega] at e
    have hp := pow_pos' (n - 1)
    have h3 := Int.emod_nonneg M (show (2 : Int) ^ (n - 1) ≠ 0 by omega)
    have h4 := Int.emod_lt_of_pos M (show (0 : Int) < 2 ^ (n - 1) by omega)
    unfold rr lastB restB rnd
    rw [if_neg hn, if_neg hn]
    have hg : gu (c3 (M % 2 ^ n) (2 ^ (n - 1))) (lo (M / 2 ^ n)) = true ↔ M / 2 ^ (n - 1) % 2 = 1 ∧ ((if M % 2 ^ (n - 1) = 0 then (0 : Int) else 1) = 1 ∨ M / 2 ^ n % 2 = 1) := by
      rw [e]
      rcases (show M / 2 ^ (n - 1) % 2 = 0 ∨ M / 2 ^ (n - 1) % 2 = 1 by omega) with hb | hb
      · rw [hb, Int.zero_mul, Int.zero_add, c3_lt _ _ h4]
        constructor
        · intro h; unfold gu at h; simp at h
        · intro h; omega
      · rw [hb, Int.one_mul]
        by_cases hr : M % 2 ^ (n - 1) = 0
        · rw [if_pos hr, hr, Int.add_zero, c3_self]
          unfold gu
          rw [lo_par]
          simp
        · rw [if_neg hr, c3_gt _ _ (by omega)]
          unfold gu
          simp
    by_cases hc : M / 2 ^ (n - 1) % 2 = 1 ∧ ((if M % 2 ^ (n - 1) = 0 then (0 : Int) else 1) = 1 ∨ M / 2 ^ n % 2 = 1)
    · rw [if_pos (hg.2 hc), if_pos hc]
    · rw [if_neg (fun h => hc (hg.1 h)), if_neg hc]
/-- Rounding is the same on both sides of 0. -/
theorem rr_neg (M : Int) (n : Nat) (m0 : 0 ≤ M) : rr (-M) n = -(rr M n) := by
  unfold rr
  by_cases hn : n = 0
  · rw [if_pos hn, if_pos hn]
  · rw [if_neg hn, if_neg hn]
    have hp := pow_pos' (n - 1)
    have hP : (2 : Int) ^ n = 2 ^ (n - 1) + 2 ^ (n - 1) := by rw [← pow_two, show n - 1 + 1 = n by omega]
    have h1 := Int.mul_ediv_add_emod M (2 ^ n)
    have h3 := Int.emod_nonneg M (show (2 : Int) ^ n ≠ 0 by omega)
    have h4 := Int.emod_lt_of_pos M (show (0 : Int) < 2 ^ n by omega)
    unfold rnd
    by_cases hr : M % 2 ^ n = 0
    · have q : (-M) / 2 ^ n = -(M / 2 ^ n) := Int.neg_ediv_of_dvd (Int.dvd_of_emod_eq_zero hr)
      have m : (-M) % 2 ^ n = 0 := by
        have := Int.mul_ediv_add_emod (-M) (2 ^ n)
        rw [q, Int.mul_neg] at this
        omega
      rw [q, m, hr, c3_lt _ _ (by omega)]
      have g : ∀ l, ¬ gu (-1) l = true := by intro l; unfold gu; simp
      rw [if_neg (g _), if_neg (g _)]
    · have e5 : -M = 2 ^ n * (-(M / 2 ^ n) - 1) + (2 ^ n - M % 2 ^ n) := by rw [Int.mul_sub, Int.mul_neg, Int.mul_one]; omega
      obtain ⟨q, m⟩ := (Int.ediv_emod_unique (a := -M) (b := 2 ^ n) (r := 2 ^ n - M % 2 ^ n) (q := -(M / 2 ^ n) - 1) (by omega)).2 ⟨by omega, by omega, by omega⟩
      rw [q, m]
      generalize M % 2 ^ n = r at *
      generalize M / 2 ^ n = k at *
      generalize (2 : Int) ^ (n - 1) = H at *
      rcases (show r < H ∨ r = H ∨ H < r by omega) with h | h | h
      · rw [c3_lt r H h, c3_gt (2 ^ n - r) H (by omega)]
        have g1 : ∀ l, ¬ gu (-1) l = true := by intro l; unfold gu; simp
        have g2 : ∀ l, gu 1 l = true := by intro l; unfold gu; simp
        rw [if_pos (g2 _), if_neg (g1 _)]
        omega
      · subst h
        rw [show (2 : Int) ^ n - r = r by omega, c3_self]
        have g1 : ∀ l, (gu 0 (lo l) = true) ↔ l % 2 = 1 := by intro l; unfold gu; rw [lo_par]; simp
        by_cases hk : k % 2 = 1
        · rw [if_neg (by rw [g1]; omega), if_pos ((g1 k).2 hk)]
          omega
        · rw [if_pos ((g1 _).2 (by omega)), if_neg (by rw [g1]; exact hk)]
          omega
      · rw [c3_gt r H h, c3_lt (2 ^ n - r) H (by omega)]
        have g1 : ∀ l, ¬ gu (-1) l = true := by intro l; unfold gu; simp
        have g2 : ∀ l, gu 1 l = true := by intro l; unfold gu; simp
        rw [if_pos (g2 _), if_neg (g1 _)]
        omega
theorem rr_sign (v : Int) (n : Nat) : (if decide (v < 0) = true then -(rr (ab v) n) else rr (ab v) n) = rr v n := by
  unfold ab
  by_cases h : v < 0
  · rw [if_pos (decide_eq_true h), if_pos h, ← rr_neg (-v) n (by omega), Int.neg_neg]
  · rw [if_neg (by simpa using h), if_neg h]
end Go.Proofs.Ytfcneciknldohaa
/-
  Plain arithmetic of regattaref02's quotients, bit by bit.
-/
set_option linter.unusedVariables false
namespace Go.Proofs.Ytfcneciknldohaa

theorem qd_up (T B z : Int) (hB : 1 ≤ B) (h : B ≤ 2 * (T % B) + z) (z01 : z = 0 ∨ z = 1) : (2 * T + z) % B = 2 * (T % B) + z - B ∧ (2 * T + z) / B = 2 * (T / B) + 1 := by
  have e := Int.mul_ediv_add_emod T B
  have m0 := Int.emod_nonneg T (show B ≠ 0 by omega)
  have m1 := Int.emod_lt_of_pos T (show 0 < B by omega)
  have := (Int.ediv_emod_unique (a := 2 * T + z) (b := B) (r := 2 * (T % B) + z - B) (q := 2 * (T / B) + 1) (by omega)).2 ⟨by rw [Int.mul_add, Int.mul_left_comm]; omega, by omega, by omega⟩
  exact ⟨this.2, this.1⟩
theorem qd_down (T B z : Int) (hB : 1 ≤ B) (h : 2 * (T % B) + z < B) (z01 : z = 0 ∨ z = 1) : (2 * T + z) % B = 2 * (T % B) + z ∧ (2 * T + z) / B = 2 * (T / B) := by
  have e := Int.mul_ediv_add_emod T B
  have m0 := Int.emod_nonneg T (show B ≠ 0 by omega)
  have := (Int.ediv_emod_unique (a := 2 * T + z) (b := B) (r := 2 * (T % B) + z) (q := 2 * (T / B)) (by omega)).2 ⟨by rw [Int.mul_left_comm]; omega, by omega, by omega⟩
  exact ⟨this.2, this.1⟩
theorem down_one (M : Int) (s : Nat) : M / 2 ^ s = 2 * (M / 2 ^ (s + 1)) + M / 2 ^ s % 2 := by
  have hp := pow_pos' s
  rw [Int.pow_succ, ← Int.ediv_ediv_of_nonneg (show (0 : Int) ≤ 2 ^ s by omega)]
  omega
theorem div_turn (M D : Int) (s : Nat) (hD : 1 ≤ D) : M / 2 ^ s / D = M / D / 2 ^ s := by
  have hp := pow_pos' s
  rw [Int.ediv_ediv_of_nonneg (by omega), Int.ediv_ediv_of_nonneg (by omega), Int.mul_comm]
theorem mod_div_32 (X : Int) (r : Nat) (hr : r < 32) : X % 4294967296 / 2 ^ r % 2 = X / 2 ^ r % 2 := by
  have hp := pow_pos' r
  have e := Int.mul_ediv_add_emod X 4294967296
  have e2 : (4294967296 : Int) = 2 ^ r * (2 * 2 ^ (31 - r)) := by
    rw [show (2 : Int) * 2 ^ (31 - r) = 2 ^ (31 - r + 1) by rw [Int.pow_succ, Int.mul_comm], ← Int.pow_add, show r + (31 - r + 1) = 32 by omega]; rfl
  have e3 : X / 2 ^ r = 2 * 2 ^ (31 - r) * (X / 4294967296) + X % 4294967296 / 2 ^ r := by
    have e4 : X = 2 ^ r * (2 * 2 ^ (31 - r) * (X / 4294967296)) + X % 4294967296 := by
      rw [← Int.mul_assoc, ← e2]; exact e.symm
    have h5 : X / 2 ^ r = (2 ^ r * (2 * 2 ^ (31 - r) * (X / 4294967296)) + X % 4294967296) / 2 ^ r := congrArg (fun t => t / (2 : Int) ^ r) e4
    rw [Int.add_comm, Int.add_mul_ediv_left _ _ (show (2 : Int) ^ r ≠ 0 by omega)] at h5
    omega
  rw [e3, Int.mul_assoc]
  omega
theorem dg_bit (M : Int) (i k : Nat) (hk : k < 32) : dg M i / 2 ^ k % 2 = M / 2 ^ (32 * i + k) % 2 := by
  have hp := pow_pos' (32 * i)
  unfold dg
  rw [mod_div_32 _ k hk, Int.ediv_ediv_of_nonneg (by omega), Int.pow_add]
/-- A digit of which k bits are left to be made. -/
def pq (Q : Int) (i k : Nat) : Int := Q / 2 ^ (32 * i + k) % 2 ^ (32 - k)
theorem pq_top (Q : Int) (i : Nat) : pq Q i 32 = 0 := by unfold pq; rw [Nat.sub_self, Int.pow_zero]; omega
theorem pq_end (Q : Int) (i : Nat) : pq Q i 0 = dg Q i := rfl
theorem pq_rng (Q : Int) (i k : Nat) : 0 ≤ pq Q i k ∧ pq Q i k ≤ 4294967295 := by
  unfold pq
  have hp := pow_pos' (32 - k)
  have h2 : (2 : Int) ^ (32 - k) ≤ 4294967296 := by
    have h3 : (2 : Nat) ^ (32 - k) ≤ 2 ^ 32 := Nat.pow_le_pow_right (by omega) (by omega)
    have h4 : (((2 : Nat) ^ (32 - k) : Nat) : Int) ≤ (((2 : Nat) ^ 32 : Nat) : Int) := by omega
    rw [Int.natCast_pow, Int.natCast_pow] at h4
    exact h4
  have h0 := Int.emod_nonneg (Q / 2 ^ (32 * i + k)) (show (2 : Int) ^ (32 - k) ≠ 0 by omega)
  have h1 := Int.emod_lt_of_pos (Q / 2 ^ (32 * i + k)) (show (0 : Int) < 2 ^ (32 - k) by omega)
  omega
theorem pq_step (Q : Int) (i k : Nat) (hk : k < 32) (z : Int) (hz : Q / 2 ^ (32 * i + k) = 2 * (Q / 2 ^ (32 * i + k + 1)) + z) (z01 : z = 0 ∨ z = 1) : pq Q i k = 2 * pq Q i (k + 1) + z := by
  unfold pq
  rw [hz, show 32 * i + (k + 1) = 32 * i + k + 1 by omega, show 32 - k = (32 - (k + 1)) + 1 by omega]
  generalize Q / 2 ^ (32 * i + k + 1) = X
  rw [Int.pow_succ]
  have hp := pow_pos' (32 - (k + 1))
  generalize (2 : Int) ^ (32 - (k + 1)) = P at *
  have e := Int.mul_ediv_add_emod X P
  have m0 := Int.emod_nonneg X (show P ≠ 0 by omega)
  have m1 := Int.emod_lt_of_pos X (show 0 < P by omega)
  exact ((Int.ediv_emod_unique (a := 2 * X + z) (b := P * 2) (r := 2 * (X % P) + z) (q := X / P) (by omega)).2 ⟨by rw [Int.mul_right_comm]; omega, by omega, by omega⟩).2
/-- One bit more: what is left, and the quotient's bit. -/
theorem quo_bit (M D : Int) (i k : Nat) (hD : 1 ≤ D) (hk : k < 32) :
    (D ≤ 2 * (M / 2 ^ (32 * i + k + 1) % D) + M / 2 ^ (32 * i + k) % 2 → M / 2 ^ (32 * i + k) % D = 2 * (M / 2 ^ (32 * i + k + 1) % D) + M / 2 ^ (32 * i + k) % 2 - D ∧ pq (M / D) i k = 2 * pq (M / D) i (k + 1) + 1) ∧
    (2 * (M / 2 ^ (32 * i + k + 1) % D) + M / 2 ^ (32 * i + k) % 2 < D → M / 2 ^ (32 * i + k) % D = 2 * (M / 2 ^ (32 * i + k + 1) % D) + M / 2 ^ (32 * i + k) % 2 ∧ pq (M / D) i k = 2 * pq (M / D) i (k + 1)) := by
  have e := down_one M (32 * i + k)
  have z01 : M / 2 ^ (32 * i + k) % 2 = 0 ∨ M / 2 ^ (32 * i + k) % 2 = 1 := by omega
  have t1 := div_turn M D (32 * i + k) hD
  have t2 := div_turn M D (32 * i + k + 1) hD
  constructor
  · intro h
    obtain ⟨u1, u2⟩ := qd_up _ D _ hD h z01
    rw [← e] at u1 u2
    refine ⟨u1, pq_step _ i k hk 1 ?_ (.inr rfl)⟩
    rw [← t1, ← t2, u2]
  · intro h
    obtain ⟨u1, u2⟩ := qd_down _ D _ hD h z01
    rw [← e] at u1 u2
    refine ⟨u1, ?_⟩
    have := pq_step (M / D) i k hk 0 (by rw [← t1, ← t2, u2]; omega) (.inl rfl)
    omega
end Go.Proofs.Ytfcneciknldohaa
/-
  Plain arithmetic of floats: what fix.Float and fix.FromFloat come to.
-/
set_option linter.unusedVariables false
set_option linter.unusedSimpArgs false
namespace Go.Proofs.Ytfcneciknldohaa
open Ieee

/-- The 53 bits that a float keeps of m (2^53 where it was rounded up to the next power). -/
def kp (m : Nat) : Nat := if m.log2 ≤ 52 then m * 2 ^ (52 - m.log2) else (rr (m : Int) (m.log2 - 52)).toNat
/-- The bits of a number of steps as a float. -/
def fb (a : Int) : Nat := if a = 0 then 0 else double.word (decide (a < 0)) ((a.natAbs.log2 + 990) * 4503599627370496 + kp a.natAbs)

theorem binade_d : double.binade = 4503599627370496 := by decide
theorem inf_d : double.infRung = 9218868437227405312 := by decide
theorem sw_d : double.signWeight = 9223372036854775808 := by decide
theorem lp_d : double.leastPlace = -1074 := by decide
theorem fr_d : double.fractionBits = 52 := rfl
theorem word_d (s : Bool) (r : Nat) : double.word s r = if s = true then 9223372036854775808 + r else r := by unfold Format.word; rw [sw_d]

theorem log2_rng (m : Nat) (h : m ≠ 0) : 2 ^ m.log2 ≤ m ∧ m < 2 ^ (m.log2 + 1) := ⟨Nat.log2_self_le h, Nat.lt_log2_self⟩
theorem log2_is (m k : Nat) (h0 : 2 ^ k ≤ m) (h1 : m < 2 ^ (k + 1)) : m.log2 = k := by
  have hm : m ≠ 0 := by have := Nat.two_pow_pos k; omega
  exact (Nat.log2_eq_iff hm).2 ⟨h0, h1⟩
theorem log2_le63 (m : Nat) (h : m ≠ 0) (h1 : m ≤ 9223372036854775808) : m.log2 ≤ 63 := by
  have : m.log2 < 64 := (Nat.log2_lt h).2 (by omega)
  omega

theorem even_cut0 (s : Bool) (n : Nat) : Toward.even.cut s n 0 = n := by
  unfold Toward.cut
  simp [Nat.mod_one]
theorem even_cut (s : Bool) (n k : Nat) (hk : k ≤ n.log2 + 2) : (Toward.even.cut s n k : Int) = rr (n : Int) k := by
  by_cases h0 : k = 0
  · subst h0; rw [even_cut0]; unfold rr; rw [if_pos rfl]
  · unfold Toward.cut rr
    rw [if_neg h0, Nat.min_eq_left hk, Nat.one_shiftLeft]
    unfold rnd
    have e1 : ((n : Int) / 2 ^ k) = ((n / 2 ^ k : Nat) : Int) := by push_cast; rfl
    have e2 : ((n : Int) % 2 ^ k) = ((n % 2 ^ k : Nat) : Int) := by push_cast; rfl
    have e3 : (2 : Int) ^ (k - 1) = ((2 ^ (k - 1) : Nat) : Int) := by push_cast; rfl
    have hp : 2 ^ k = 2 ^ (k - 1) + 2 ^ (k - 1) := by
      have : 2 ^ (k - 1 + 1) = 2 ^ (k - 1) * 2 := Nat.pow_succ ..
      rw [show k - 1 + 1 = k by omega] at this
      omega
    rw [e1, e2, e3]
    dsimp only
    generalize n / 2 ^ k = q
    generalize n % 2 ^ k = r
    rw [hp]
    generalize 2 ^ (k - 1) = H
    have g1 : ∀ l, ¬ gu (-1) l = true := by intro l; unfold gu; simp
    have g2 : ∀ l, gu 1 l = true := by intro l; unfold gu; simp
    have g3 : ∀ l, (gu 0 (lo l) = true) ↔ l % 2 = 1 := by intro l; unfold gu; rw [lo_par]; simp
    by_cases c1 : H < r
    · rw [c3_gt _ _ (by omega), if_pos (g2 _)]
      rw [show (decide (H + H < 2 * r) || (H + H == 2 * r && q % 2 == 1)) = true by simp; omega]
      simp
    · by_cases c2 : H = r
      · subst c2
        rw [c3_self]
        by_cases c3 : q % 2 = 1
        · rw [show (decide (H + H < 2 * H) || (H + H == 2 * H && q % 2 == 1)) = true by simp; omega, if_pos ((g3 _).2 (by omega))]
          simp
        · rw [show (decide (H + H < 2 * H) || (H + H == 2 * H && q % 2 == 1)) = false by simp; omega, if_neg (fun h => c3 (by have := (g3 _).1 h; omega))]
          simp
      · rw [c3_lt _ _ (by omega), show (decide (H + H < 2 * r) || (H + H == 2 * r && q % 2 == 1)) = false by simp; omega, if_neg (g1 _)]
        simp

theorem kp_rng (m : Nat) (h : m ≠ 0) (h1 : m ≤ 9223372036854775808) : 4503599627370496 ≤ kp m ∧ kp m ≤ 9007199254740992 ∧ (m.log2 ≤ 52 → kp m < 9007199254740992) := by
  obtain ⟨l0, l1⟩ := log2_rng m h
  unfold kp
  split
  · rename_i hl
    have hp := Nat.two_pow_pos (52 - m.log2)
    have a0 := Nat.mul_le_mul_right (2 ^ (52 - m.log2)) l0
    have a1 := Nat.mul_lt_mul_of_pos_right l1 hp
    rw [← Nat.pow_add, show m.log2 + (52 - m.log2) = 52 by omega] at a0
    rw [← Nat.pow_add, show m.log2 + 1 + (52 - m.log2) = 53 by omega] at a1
    omega
  · rename_i hl
    have hp := Nat.two_pow_pos (m.log2 - 52)
    have d0 : 4503599627370496 ≤ m / 2 ^ (m.log2 - 52) := (Nat.le_div_iff_mul_le hp).2 (by rw [show 4503599627370496 = 2 ^ 52 by decide, ← Nat.pow_add, show 52 + (m.log2 - 52) = m.log2 by omega]; exact l0)
    have d1 : m / 2 ^ (m.log2 - 52) < 9007199254740992 := (Nat.div_lt_iff_lt_mul hp).2 (by rw [show 9007199254740992 = 2 ^ 53 by decide, ← Nat.pow_add, show 53 + (m.log2 - 52) = m.log2 + 1 by omega]; exact l1)
    have e1 : ((m : Int) / 2 ^ (m.log2 - 52)) = ((m / 2 ^ (m.log2 - 52) : Nat) : Int) := by push_cast; rfl
    have hr : rr (m : Int) (m.log2 - 52) = (m / 2 ^ (m.log2 - 52) : Nat) ∨ rr (m : Int) (m.log2 - 52) = ((m / 2 ^ (m.log2 - 52) : Nat) : Int) + 1 := by
      rw [up_iff _ _ (by omega), e1]
      split
      · exact Or.inr rfl
      · exact Or.inl rfl
    omega

theorem near_int (s : Bool) (m : Nat) (h : m ≠ 0) (h1 : m ≤ 9223372036854775808) : double.nearest s m 0 = double.word s ((m.log2 + 1022) * 4503599627370496 + kp m) := by
  have hl := log2_le63 m h h1
  obtain ⟨k0, k1, _⟩ := kp_rng m h h1
  unfold Format.nearest
  rw [if_neg h, lp_d, binade_d, inf_d, fr_d]
  have e1 : max (0 + (m.log2 : Int) - (52 : Nat)) (-1074) = (m.log2 : Int) - 52 := by omega
  dsimp only
  rw [e1]
  have e2 : ((m.log2 : Int) - 52 - -1074).toNat = m.log2 + 1022 := by omega
  rw [e2]
  have e3 : Toward.even.cut s (m <<< (0 - ((m.log2 : Int) - 52)).toNat) ((m.log2 : Int) - 52 - 0).toNat = kp m := by
    unfold kp
    by_cases hc : m.log2 ≤ 52
    · rw [if_pos hc, show (0 - ((m.log2 : Int) - 52)).toNat = 52 - m.log2 by omega, show ((m.log2 : Int) - 52 - 0).toNat = 0 by omega, even_cut0, Nat.shiftLeft_eq]
    · rw [if_neg hc, show (0 - ((m.log2 : Int) - 52)).toNat = 0 by omega, show ((m.log2 : Int) - 52 - 0).toNat = m.log2 - 52 by omega, Nat.shiftLeft_zero, ← even_cut s m (m.log2 - 52) (by omega)]
      omega
  rw [e3, Nat.min_eq_left]
  omega

theorem read_norm (s : Bool) (e M : Nat) (he : e ≤ 2045) (m0 : 4503599627370496 ≤ M) (m1 : M < 9007199254740992) : double.read (double.word s (e * 4503599627370496 + M)) = .number s M (-1074 + (e : Int)) := by
  have hs : ((double.word s (e * 4503599627370496 + M)) / 9223372036854775808 % 2 == 1) = s ∧ (double.word s (e * 4503599627370496 + M)) % 9223372036854775808 = e * 4503599627370496 + M := by
    rw [word_d]
    have hlt : e * 4503599627370496 + M < 9223372036854775808 := by omega
    generalize e * 4503599627370496 + M = r at *
    cases s
    · simp; omega
    · simp; omega
  unfold Format.read
  rw [sw_d, binade_d, inf_d, lp_d]
  dsimp only
  rw [hs.2]
  have hs1 := hs.1
  rw [if_neg (by omega), if_pos (by omega)]
  have e1 : 4503599627370496 + (e * 4503599627370496 + M) % 4503599627370496 = M := by omega
  have e2 : (e * 4503599627370496 + M) / 4503599627370496 - 1 = e := by omega
  rw [e1, e2]
  exact congrArg (fun b => Datum.number b M (-1074 + (e : Int))) (by simpa using hs1)

theorem div_norm (s : Bool) (e M : Nat) (e0 : 32 ≤ e) (he : e ≤ 2000) (m0 : 4503599627370496 ≤ M) (m1 : M < 9007199254740992) : double.div (double.word s (e * 4503599627370496 + M)) 4751297606875873280 = some (double.word s ((e - 32) * 4503599627370496 + M)) := by
  have hy : double.read 4751297606875873280 = .number false 4503599627370496 (-20) := by decide
  have lm : M.log2 = 52 := log2_is M 52 (by omega) (by omega)
  have l8 : (8 * M).log2 = 55 := log2_is (8 * M) 55 (by omega) (by omega)
  unfold Format.div
  rw [hy, read_norm s e M (by omega) m0 m1]
  have hq : Datum.quotient (double.fractionBits + 2) (.number s M (-1074 + (e : Int))) (.number false 4503599627370496 (-20)) = some (.number s (8 * M) (-1109 + (e : Int))) := by
    show (if 4503599627370496 = 0 then if M = 0 then none else some (Datum.infinity (s ^^ false)) else some (Datum.number (s ^^ false) (2 * (M <<< (52 + 2 + (4503599627370496 : Nat).log2 - M.log2) / 4503599627370496) + (M <<< (52 + 2 + (4503599627370496 : Nat).log2 - M.log2) % 4503599627370496 != 0).toNat) (-1074 + (e : Int) - -20 - ((52 + 2 + (4503599627370496 : Nat).log2 - M.log2 : Nat) : Int) - 1))) = _
    rw [if_neg (by decide), lm, show (4503599627370496 : Nat).log2 = 52 by decide]
    have e1 : M <<< (52 + 2 + 52 - 52) = 4503599627370496 * (M * 4) := by rw [Nat.shiftLeft_eq]; omega
    rw [e1, Nat.mul_div_cancel_left _ (by decide), Nat.mul_mod_right]
    have e2 : (-1074 + (e : Int) - -20 - ((52 + 2 + 52 - 52 : Nat) : Int) - 1) = -1109 + (e : Int) := by omega
    rw [e2]
    have e3 : 2 * (M * 4) + (0 != 0).toNat = 8 * M := by simp; omega
    rw [e3]
    simp
  rw [hq, Option.map_some]
  congr 1
  show double.nearest s (8 * M) (-1109 + (e : Int)) = _
  unfold Format.nearest
  rw [if_neg (by omega), lp_d, binade_d, inf_d, fr_d, l8]
  dsimp only
  have e4 : max (-1109 + (e : Int) + (55 : Nat) - (52 : Nat)) (-1074) = -1106 + (e : Int) := by omega
  rw [e4, show (-1109 + (e : Int) - (-1106 + (e : Int))).toNat = 0 by omega, show (-1106 + (e : Int) - (-1109 + (e : Int))).toNat = 3 by omega, Nat.shiftLeft_zero]
  have e5 : Toward.even.cut s (8 * M) 3 = M := by
    have h := even_cut s (8 * M) 3 (by omega)
    rw [up_iff _ _ (by omega)] at h
    rw [if_neg (by unfold lastB; rw [if_neg (by omega)]; omega)] at h
    omega
  rw [e5, Nat.min_eq_left (by omega), show (-1106 + (e : Int) - -1074).toNat = e - 32 by omega]

theorem up_rung (L X : Nat) : L * X + 2 * X = (L + 1) * X + X := by rw [Nat.succ_mul L X]; omega
/-- What fix.Float reckons. -/
theorem told_bits (a : Int) (a0 : -9223372036854775808 ≤ a) (a1 : a ≤ 9223372036854775807) : floatBits .quo .f64 (floatOfInt .f64 a) (floatOfInt .f64 4294967296) = some (fb a) := by
  have hy : floatOfInt .f64 4294967296 = 4751297606875873280 := by decide
  rw [hy]
  unfold floatBits
  show double.div _ _ = _
  by_cases hz : a = 0
  · subst hz
    decide
  · have hm : a.natAbs ≠ 0 := by omega
    have hm1 : a.natAbs ≤ 9223372036854775808 := by omega
    have hx : floatOfInt .f64 a = double.nearest (decide (a < 0)) a.natAbs 0 := rfl
    have hl := log2_le63 _ hm hm1
    obtain ⟨k0, k1, _⟩ := kp_rng _ hm hm1
    rw [hx, near_int _ _ hm hm1]
    unfold fb
    rw [if_neg hz]
    by_cases hk : kp a.natAbs < 9007199254740992
    · rw [div_norm _ _ _ (by omega) (by omega) k0 hk, show a.natAbs.log2 + 1022 - 32 = a.natAbs.log2 + 990 by omega]
    · have hK : kp a.natAbs = 2 * 4503599627370496 := by omega
      rw [hK]
      generalize a.natAbs.log2 = L at *
      rw [up_rung, up_rung, div_norm _ _ _ (by omega) (by omega) (by omega) (by omega), show L + 1022 + 1 - 32 = L + 990 + 1 by omega]

/-- A float's bits: the exponent's field, the fraction's. -/
def fE (b : Int) : Int := b / 4503599627370496 % 2048
def fF (b : Int) : Int := b % 4503599627370496
/-- Is it no number? -/
def fN (b : Int) : Bool := decide (fE b = 2047) && !decide (fF b = 0)
theorem nan_bits (b : Nat) (hb : b < 18446744073709551616) : (FloatKind.f64.format.order b b != some .eq) = fN (b : Int) := by
  show (double.order b b != some .eq) = _
  have e1 : fE (b : Int) = ((b / 4503599627370496 % 2048 : Nat) : Int) := by unfold fE; omega
  have e2 : fF (b : Int) = ((b % 4503599627370496 : Nat) : Int) := by unfold fF; omega
  unfold fN
  rw [e1, e2]
  unfold Format.order Format.read
  rw [sw_d, binade_d, inf_d, lp_d]
  dsimp only
  have c1 : ∀ n : Int, compare n n = Ordering.eq := by intro n; simp
  have c2 : ∀ n : Nat, compare n n = Ordering.eq := by intro n; simp
  by_cases h1 : b % 9223372036854775808 < 4503599627370496
  · rw [if_pos h1]
    unfold Datum.order
    simp [c1]
    omega
  · rw [if_neg h1]
    by_cases h2 : b % 9223372036854775808 < 9218868437227405312
    · rw [if_pos h2]
      unfold Datum.order
      simp [c1]
      omega
    · rw [if_neg h2]
      by_cases h3 : b % 9223372036854775808 = 9218868437227405312
      · rw [if_pos h3]
        unfold Datum.order
        simp [c2]
        omega
      · rw [if_neg h3]
        have hE : b / 4503599627370496 % 2048 = 2047 := by omega
        have hF : b % 4503599627370496 ≠ 0 := by omega
        have hF' : ¬ ((b % 4503599627370496 : Nat) : Int) = 0 := by omega
        unfold Datum.order
        rw [hE, decide_eq_false hF']
        rfl
end Go.Proofs.Ytfcneciknldohaa
