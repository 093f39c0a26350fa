/-
  Plain arithmetic of wide numbers: no program in sight. 'hi v', 'lo v': the two words of the whole number v, wrapped round to 128 bits.
-/
set_option linter.unusedVariables false
namespace Go.Proofs.YtekdpeiemfppiabDoor

def hi (v : Int) : Int := (v / 18446744073709551616 + 9223372036854775808) % 18446744073709551616 - 9223372036854775808
def lo (v : Int) : Int := v % 18446744073709551616
/-- The number of two words. -/
def nm (h l : Int) : Int := h * 18446744073709551616 + l

theorem hi_ge (v : Int) : -9223372036854775808 ≤ hi v := by unfold hi; omega
theorem hi_le (v : Int) : hi v ≤ 9223372036854775807 := by unfold hi; omega
theorem lo_ge (v : Int) : 0 ≤ lo v := by unfold lo; omega
theorem lo_le (v : Int) : lo v ≤ 18446744073709551615 := by unfold lo; omega

theorem hi_nm (h l : Int) (h0 : -9223372036854775808 ≤ h) (h1 : h ≤ 9223372036854775807) (l0 : 0 ≤ l) (l1 : l ≤ 18446744073709551615) : hi (nm h l) = h := by unfold hi nm; omega
theorem lo_nm (h l : Int) (l0 : 0 ≤ l) (l1 : l ≤ 18446744073709551615) : lo (nm h l) = l := by unfold lo nm; omega
theorem nm_val (v : Int) (h0 : -170141183460469231731687303715884105728 ≤ v) (h1 : v ≤ 170141183460469231731687303715884105727) : nm (hi v) (lo v) = v := by unfold hi lo nm; omega
theorem nm_mod (v : Int) : (nm (hi v) (lo v) - v) % 340282366920938463463374607431768211456 = 0 := by unfold hi lo nm; omega
theorem nm_ge (h l : Int) (h0 : -9223372036854775808 ≤ h) (l0 : 0 ≤ l) : -170141183460469231731687303715884105728 ≤ nm h l := by unfold nm; omega
theorem nm_le (h l : Int) (h0 : h ≤ 9223372036854775807) (l0 : l ≤ 18446744073709551615) : nm h l ≤ 170141183460469231731687303715884105727 := by unfold nm; omega

theorem hi_congr (a b : Int) (h : (a - b) % 340282366920938463463374607431768211456 = 0) : hi a = hi b := by unfold hi; omega
theorem lo_congr (a b : Int) (h : (a - b) % 340282366920938463463374607431768211456 = 0) : lo a = lo b := by unfold lo; omega
theorem congr_of (a b : Int) (h : hi a = hi b) (l : lo a = lo b) : (a - b) % 340282366920938463463374607431768211456 = 0 := by unfold hi lo at *; omega

theorem of_hi (n : Int) (h0 : -9223372036854775808 ≤ n) (h1 : n ≤ 9223372036854775807) : n / 9223372036854775808 = hi n := by unfold hi; omega

/-- Sub64's borrow. -/
def bor (x y : Int) : Int := if x < y then 1 else 0
theorem bor_01 (x y : Int) : 0 ≤ bor x y ∧ bor x y ≤ 1 := by unfold bor; split <;> omega

theorem add_lo (a0 a1 b0 b1 : Int) : (a1 + b1) % 18446744073709551616 = lo (nm a0 a1 + nm b0 b1) := by unfold lo nm; omega
theorem add_hi (a0 a1 b0 b1 : Int) (ha0 : 0 ≤ a1) (ha1 : a1 ≤ 18446744073709551615) (hb0 : 0 ≤ b1) (hb1 : b1 ≤ 18446744073709551615) : ((a0 % 18446744073709551616 + b0 % 18446744073709551616 + (a1 + b1) / 18446744073709551616) % 18446744073709551616 + 9223372036854775808) % 18446744073709551616 - 9223372036854775808 = hi (nm a0 a1 + nm b0 b1) := by unfold hi nm; omega
theorem sub_lo (a0 a1 b0 b1 : Int) : (a1 + 18446744073709551616 - b1) % 18446744073709551616 = lo (nm a0 a1 - nm b0 b1) := by unfold lo nm; omega
theorem sub_hi (a0 a1 b0 b1 : Int) (ha0 : 0 ≤ a1) (ha1 : a1 ≤ 18446744073709551615) (hb0 : 0 ≤ b1) (hb1 : b1 ≤ 18446744073709551615) : ((a0 % 18446744073709551616 + 18446744073709551616 - b0 % 18446744073709551616 - bor a1 b1) % 18446744073709551616 + 9223372036854775808) % 18446744073709551616 - 9223372036854775808 = hi (nm a0 a1 - nm b0 b1) := by unfold hi nm bor; split <;> omega
theorem add_congr (a b : Int) : (nm (hi a) (lo a) + nm (hi b) (lo b) - (a + b)) % 340282366920938463463374607431768211456 = 0 := by unfold hi lo nm; omega
theorem sub_congr (a b : Int) : (nm (hi a) (lo a) - nm (hi b) (lo b) - (a - b)) % 340282366920938463463374607431768211456 = 0 := by unfold hi lo nm; omega

/-- Which of two is the greater. -/
def c3 (x y : Int) : Int := if x < y then -1 else if y < x then 1 else 0
theorem c3_lt (x y : Int) (h : x < y) : c3 x y = -1 := by unfold c3; rw [if_pos h]
theorem c3_gt (x y : Int) (h : y < x) : c3 x y = 1 := by unfold c3; rw [if_neg (by omega), if_pos h]
theorem c3_self (x : Int) : c3 x x = 0 := by unfold c3; rw [if_neg (by omega), if_neg (by omega)]
/-- The first that is not nought. -/
def or2 (p q : Int) : Int := if p = 0 then q else p
theorem or2_0 (q : Int) : or2 0 q = q := by unfold or2; rw [if_pos rfl]
theorem or2_ne (p q : Int) (h : p ≠ 0) : or2 p q = p := by unfold or2; rw [if_neg h]
theorem c3_nm (a0 a1 b0 b1 : Int) (ha0 : 0 ≤ a1) (ha1 : a1 ≤ 18446744073709551615) (hb0 : 0 ≤ b1) (hb1 : b1 ≤ 18446744073709551615) : or2 (c3 a0 b0) (c3 a1 b1) = c3 (nm a0 a1) (nm b0 b1) := by
  unfold or2 c3 nm
  split <;> split <;> (try split) <;> (try split) <;> (try split) <;> (try split) <;> (try split) <;> omega
theorem c3_val (a b : Int) (a0 : -170141183460469231731687303715884105728 ≤ a) (a1 : a ≤ 170141183460469231731687303715884105727) (b0 : -170141183460469231731687303715884105728 ≤ b) (b1 : b ≤ 170141183460469231731687303715884105727) : or2 (c3 (hi a) (hi b)) (c3 (lo a) (lo b)) = c3 a b := by
  rw [c3_nm _ _ _ _ (lo_ge a) (lo_le a) (lo_ge b) (lo_le b), nm_val a a0 a1, nm_val b b0 b1]

/-- A product, from the product of the two numbers taken without their signs. -/
theorem mul_pp (a b : Int) : (a * b / 18446744073709551616 + 9223372036854775808) % 18446744073709551616 - 9223372036854775808 = hi (a * b) ∧ a * b % 18446744073709551616 = lo (a * b) := ⟨rfl, rfl⟩
theorem mul_np (a b : Int) (a0 : a < 0) (b0 : 0 ≤ b) (a1 : -9223372036854775808 ≤ a) (b1 : b ≤ 9223372036854775807) : (((a % 18446744073709551616) * b / 18446744073709551616 - b) % 18446744073709551616 + 9223372036854775808) % 18446744073709551616 - 9223372036854775808 = hi (a * b) ∧ (a % 18446744073709551616) * b % 18446744073709551616 = lo (a * b) := by
  have ea : a % 18446744073709551616 = a + 18446744073709551616 := by omega
  rw [ea, Int.add_mul]
  unfold hi lo
  generalize a * b = P
  omega
theorem mul_pn (a b : Int) (a0 : 0 ≤ a) (b0 : b < 0) (a1 : a ≤ 9223372036854775807) (b1 : -9223372036854775808 ≤ b) : ((a * (b % 18446744073709551616) / 18446744073709551616 - a) % 18446744073709551616 + 9223372036854775808) % 18446744073709551616 - 9223372036854775808 = hi (a * b) ∧ a * (b % 18446744073709551616) % 18446744073709551616 = lo (a * b) := by
  have eb : b % 18446744073709551616 = b + 18446744073709551616 := by omega
  rw [eb, Int.mul_add]
  unfold hi lo
  generalize a * b = P
  omega
theorem mul_nn (a b : Int) (a0 : a < 0) (b0 : b < 0) (a1 : -9223372036854775808 ≤ a) (b1 : -9223372036854775808 ≤ b) : (((((a % 18446744073709551616) * (b % 18446744073709551616) / 18446744073709551616) - b % 18446744073709551616) % 18446744073709551616 - a % 18446744073709551616) % 18446744073709551616 + 9223372036854775808) % 18446744073709551616 - 9223372036854775808 = hi (a * b) ∧ (a % 18446744073709551616) * (b % 18446744073709551616) % 18446744073709551616 = lo (a * b) := by
  have ea : a % 18446744073709551616 = a + 18446744073709551616 := by omega
  have eb : b % 18446744073709551616 = b + 18446744073709551616 := by omega
  rw [ea, eb, Int.add_mul, Int.mul_add]
  unfold hi lo
  generalize a * b = P
  omega

/-- A number as one of 64 bits, and whether it had to be clamped. -/
def clv (v : Int) : Int := if v < -9223372036854775808 then -9223372036854775808 else if 9223372036854775807 < v then 9223372036854775807 else v
def ovv (v : Int) : Bool := decide (v < -9223372036854775808) || decide (9223372036854775807 < v)
theorem clv_in (v : Int) (h0 : -9223372036854775808 ≤ v) (h1 : v ≤ 9223372036854775807) : clv v = v ∧ ovv v = false := by
  unfold clv ovv; rw [if_neg (by omega), if_neg (by omega)]; simp; omega
theorem clv_lo (v : Int) (h0 : v < -9223372036854775808) : clv v = -9223372036854775808 ∧ ovv v = true := by
  unfold clv ovv; rw [if_pos h0]; simp; omega
theorem clv_hi (v : Int) (h0 : 9223372036854775807 < v) : clv v = 9223372036854775807 ∧ ovv v = true := by
  unfold clv ovv; rw [if_neg (by omega), if_pos h0]; simp; omega
/-- The signed reading of a word without a sign. -/
def sg (x : Int) : Int := (x + 9223372036854775808) % 18446744073709551616 - 9223372036854775808
theorem fits_in (v : Int) (h0 : -9223372036854775808 ≤ v) (h1 : v ≤ 9223372036854775807) : hi v = sg (lo v) / 9223372036854775808 ∧ sg (lo v) = v := by unfold hi lo sg; omega
theorem sg_small (l : Int) (h0 : 0 ≤ l) (h1 : l < 9223372036854775808) : sg l = l := by unfold sg; omega
theorem sg_big (l : Int) (h0 : 9223372036854775808 ≤ l) (h1 : l ≤ 18446744073709551615) : sg l = l - 18446744073709551616 := by unfold sg; omega
theorem fits_lo (v : Int) (h0 : v < -9223372036854775808) (h1 : -170141183460469231731687303715884105728 ≤ v) : ¬ hi v = sg (lo v) / 9223372036854775808 ∧ hi v < 0 := by
  have e := nm_val v h1 (by omega)
  have l0 := lo_ge v
  have l1 := lo_le v
  generalize hi v = h at *
  generalize lo v = l at *
  unfold nm at e
  by_cases hl : l < 9223372036854775808
  · rw [sg_small l l0 hl]; omega
  · rw [sg_big l (by omega) l1]; omega
theorem fits_hi (v : Int) (h0 : 9223372036854775807 < v) (h1 : v ≤ 170141183460469231731687303715884105727) : ¬ hi v = sg (lo v) / 9223372036854775808 ∧ ¬ hi v < 0 := by
  have e := nm_val v (by omega) h1
  have l0 := lo_ge v
  have l1 := lo_le v
  generalize hi v = h at *
  generalize lo v = l at *
  unfold nm at e
  by_cases hl : l < 9223372036854775808
  · rw [sg_small l l0 hl]; omega
  · rw [sg_big l (by omega) l1]; omega

/-- The rule by which all is rounded. -/
def gu (side low : Int) : Bool := decide (0 < side) || (decide (side = 0) && decide (low % 2 = 1))

/-- A number without its sign. -/
def ab (v : Int) : Int := if v < 0 then -v else v
theorem ab_neg (v : Int) (h : v < 0) : ab v = -v := by unfold ab; rw [if_pos h]
theorem ab_pos (v : Int) (h : 0 ≤ v) : ab v = v := by unfold ab; rw [if_neg (by omega)]
theorem hi_neg (v : Int) (h0 : -170141183460469231731687303715884105728 ≤ v) (h1 : v < 0) : hi v < 0 := by unfold hi; omega
theorem hi_pos (v : Int) (h0 : 0 ≤ v) (h1 : v ≤ 170141183460469231731687303715884105727) : ¬ hi v < 0 := by unfold hi; omega

/-- The three words of a long number. -/
def t3 (v : Int) : Int := (v / 340282366920938463463374607431768211456 + 9223372036854775808) % 18446744073709551616 - 9223372036854775808
def m3 (v : Int) : Int := v / 18446744073709551616 % 18446744073709551616
theorem ext_words (v : Int) (h0 : -170141183460469231731687303715884105728 ≤ v) (h1 : v ≤ 170141183460469231731687303715884105727) : hi v / 9223372036854775808 = t3 v ∧ hi v % 18446744073709551616 = m3 v := by unfold hi t3 m3; omega

end Go.Proofs.YtekdpeiemfppiabDoor
