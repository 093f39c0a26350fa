/-
  Texts of this proof, joined: BA FFrame BB.
-/
import Derived.Test.YtcaficenocblfaaGreatDoorProg
import Derived.Test.YtcaficenocblfaaGreatDoorRows
import Derived.Laws.Bits64b
import Derived.Laws.FloatArith
import Derived.WalkKit
import Derived.ProofKit
import Derived.OpenShut
import Derived.ChangeOld
import Derived.Below
import Derived.Lib.SmallJoins
import Derived.WalkSpells
import Derived.WalkLawsBesides
import Derived.Deep.RegionHeld3
import Derived.Deep.DrawnRows
import Derived.Lib.Mul64
import Derived.Lib.MinMax
set_option linter.unusedVariables false
namespace Go.Proofs.YtcaficenocblfaaGreatDoor

def hi (v : Int) : Int := (v / 18446744073709551616 + 9223372036854775808) % 18446744073709551616 - 9223372036854775808
def lo (v : Int) : Int := v % 18446744073709551616
def nm (h l : Int) : Int := h * 18446744073709551616 + l

theorem hi_ge (v : Int) : -9223372036854775808 ≤ hi v := by unfold hi; omega
theorem hi_le (v : Int) : hi v ≤ 9223372036854775807 := by unfold hi; omega
theorem lo_ge (v : Int) : 0 ≤ lo v := by unfold lo; omega
theorem lo_le (v : Int) : lo v ≤ 18446744073709551615 := by unfold lo; omega

theorem nm_val (v : Int) (h0 : -170141183460469231731687303715884105728 ≤ v) (h1 : v ≤ 170141183460469231731687303715884105727) : nm (hi v) (lo v) = v := by unfold hi lo nm; omega
theorem nm_mod (v : Int) : (nm (hi v) (lo v) - v) % 340282366920938463463374607431768211456 = 0 := by unfold hi lo nm; omega
theorem hi_congr (a b : Int) (h : (a - b) % 340282366920938463463374607431768211456 = 0) : hi a = hi b := by unfold hi; omega
theorem lo_congr (a b : Int) (h : (a - b) % 340282366920938463463374607431768211456 = 0) : lo a = lo b := by unfold lo; omega
theorem of_hi (n : Int) (h0 : -9223372036854775808 ≤ n) (h1 : n ≤ 9223372036854775807) : n / 9223372036854775808 = hi n := by unfold hi; omega

def bor (x y : Int) : Int := if x < y then 1 else 0
theorem bor_01 (x y : Int) : 0 ≤ bor x y ∧ bor x y ≤ 1 := by unfold bor; split <;> omega

theorem add_lo (a0 a1 b0 b1 : Int) : (a1 + b1) % 18446744073709551616 = lo (nm a0 a1 + nm b0 b1) := by unfold lo nm; omega
theorem add_hi (a0 a1 b0 b1 : Int) (ha0 : 0 ≤ a1) (ha1 : a1 ≤ 18446744073709551615) (hb0 : 0 ≤ b1) (hb1 : b1 ≤ 18446744073709551615) : ((a0 % 18446744073709551616 + b0 % 18446744073709551616 + (a1 + b1) / 18446744073709551616) % 18446744073709551616 + 9223372036854775808) % 18446744073709551616 - 9223372036854775808 = hi (nm a0 a1 + nm b0 b1) := by unfold hi nm; omega
theorem sub_lo (a0 a1 b0 b1 : Int) : (a1 + 18446744073709551616 - b1) % 18446744073709551616 = lo (nm a0 a1 - nm b0 b1) := by unfold lo nm; omega
theorem sub_hi (a0 a1 b0 b1 : Int) (ha0 : 0 ≤ a1) (ha1 : a1 ≤ 18446744073709551615) (hb0 : 0 ≤ b1) (hb1 : b1 ≤ 18446744073709551615) : ((a0 % 18446744073709551616 + 18446744073709551616 - b0 % 18446744073709551616 - bor a1 b1) % 18446744073709551616 + 9223372036854775808) % 18446744073709551616 - 9223372036854775808 = hi (nm a0 a1 - nm b0 b1) := by unfold hi nm bor; split <;> omega
theorem add_congr (a b : Int) : (nm (hi a) (lo a) + nm (hi b) (lo b) - (a + b)) % 340282366920938463463374607431768211456 = 0 := by unfold hi lo nm; omega
theorem sub_congr (a b : Int) : (nm (hi a) (lo a) - nm (hi b) (lo b) - (a - b)) % 340282366920938463463374607431768211456 = 0 := by unfold hi lo nm; omega

def c3 (x y : Int) : Int := if x < y then -1 else if y < x then 1 else 0
theorem c3_lt (x y : Int) (h : x < y) : c3 x y = -1 := by unfold c3; rw [if_pos h]
theorem c3_gt (x y : Int) (h : y < x) : c3 x y = 1 := by unfold c3; rw [if_neg (by omega), if_pos h]
theorem c3_self (x : Int) : c3 x x = 0 := by unfold c3; rw [if_neg (by omega), if_neg (by omega)]
def or2 (p q : Int) : Int := if p = 0 then q else p
theorem or2_0 (q : Int) : or2 0 q = q := by unfold or2; rw [if_pos rfl]
theorem or2_ne (p q : Int) (h : p ≠ 0) : or2 p q = p := by unfold or2; rw [if_neg h]
theorem c3_nm (a0 a1 b0 b1 : Int) (ha0 : 0 ≤ a1) (ha1 : a1 ≤ 18446744073709551615) (hb0 : 0 ≤ b1) (hb1 : b1 ≤ 18446744073709551615) : or2 (c3 a0 b0) (c3 a1 b1) = c3 (nm a0 a1) (nm b0 b1) := by
  unfold or2 c3 nm
  split <;> split <;> (try split) <;> (try split) <;> (try split) <;> (try split) <;> (try split) <;> omega
theorem c3_val (a b : Int) (a0 : -170141183460469231731687303715884105728 ≤ a) (a1 : a ≤ 170141183460469231731687303715884105727) (b0 : -170141183460469231731687303715884105728 ≤ b) (b1 : b ≤ 170141183460469231731687303715884105727) : or2 (c3 (hi a) (hi b)) (c3 (lo a) (lo b)) = c3 a b := by
  rw [c3_nm _ _ _ _ (lo_ge a) (lo_le a) (lo_ge b) (lo_le b), nm_val a a0 a1, nm_val b b0 b1]

theorem mul_pp (a b : Int) : (a * b / 18446744073709551616 + 9223372036854775808) % 18446744073709551616 - 9223372036854775808 = hi (a * b) ∧ a * b % 18446744073709551616 = lo (a * b) := ⟨rfl, rfl⟩
theorem mul_np (a b : Int) (a0 : a < 0) (b0 : 0 ≤ b) (a1 : -9223372036854775808 ≤ a) (b1 : b ≤ 9223372036854775807) : (((a % 18446744073709551616) * b / 18446744073709551616 - b) % 18446744073709551616 + 9223372036854775808) % 18446744073709551616 - 9223372036854775808 = hi (a * b) ∧ (a % 18446744073709551616) * b % 18446744073709551616 = lo (a * b) := by
  have ea : a % 18446744073709551616 = a + 18446744073709551616 := by omega
  rw [ea, Int.add_mul]
  unfold hi lo
  generalize a * b = P
  omega
theorem mul_pn (a b : Int) (a0 : 0 ≤ a) (b0 : b < 0) (a1 : a ≤ 9223372036854775807) (b1 : -9223372036854775808 ≤ b) : ((a * (b % 18446744073709551616) / 18446744073709551616 - a) % 18446744073709551616 + 9223372036854775808) % 18446744073709551616 - 9223372036854775808 = hi (a * b) ∧ a * (b % 18446744073709551616) % 18446744073709551616 = lo (a * b) := by
  have eb : b % 18446744073709551616 = b + 18446744073709551616 := by omega
  rw [eb, Int.mul_add]
  unfold hi lo
  generalize a * b = P
  omega
theorem mul_nn (a b : Int) (a0 : a < 0) (b0 : b < 0) (a1 : -9223372036854775808 ≤ a) (b1 : -9223372036854775808 ≤ b) : (((((a % 18446744073709551616) * (b % 18446744073709551616) / 18446744073709551616) - b % 18446744073709551616) % 18446744073709551616 - a % 18446744073709551616) % 18446744073709551616 + 9223372036854775808) % 18446744073709551616 - 9223372036854775808 = hi (a * b) ∧ (a % 18446744073709551616) * (b % 18446744073709551616) % 18446744073709551616 = lo (a * b) := by
  have ea : a % 18446744073709551616 = a + 18446744073709551616 := by omega
  have eb : b % 18446744073709551616 = b + 18446744073709551616 := by omega
  rw [ea, eb, Int.add_mul, Int.mul_add]
  unfold hi lo
  generalize a * b = P
  omega

def clv (v : Int) : Int := if v < -9223372036854775808 then -9223372036854775808 else if 9223372036854775807 < v then 9223372036854775807 else v
def ovv (v : Int) : Bool := decide (v < -9223372036854775808) || decide (9223372036854775807 < v)
theorem clv_in (v : Int) (h0 : -9223372036854775808 ≤ v) (h1 : v ≤ 9223372036854775807) : clv v = v ∧ ovv v = false := by
  unfold clv ovv; rw [if_neg (by omega), if_neg (by omega)]; simp; omega
theorem clv_lo (v : Int) (h0 : v < -9223372036854775808) : clv v = -9223372036854775808 ∧ ovv v = true := by
  unfold clv ovv; rw [if_pos h0]; simp; omega
theorem clv_hi (v : Int) (h0 : 9223372036854775807 < v) : clv v = 9223372036854775807 ∧ ovv v = true := by
  unfold clv ovv; rw [if_neg (by omega), if_pos h0]; simp; omega
def sg (x : Int) : Int := (x + 9223372036854775808) % 18446744073709551616 - 9223372036854775808
theorem fits_in (v : Int) (h0 : -9223372036854775808 ≤ v) (h1 : v ≤ 9223372036854775807) : hi v = sg (lo v) / 9223372036854775808 ∧ sg (lo v) = v := by unfold hi lo sg; omega
theorem sg_small (l : Int) (h0 : 0 ≤ l) (h1 : l < 9223372036854775808) : sg l = l := by unfold sg; omega
theorem sg_big (l : Int) (h0 : 9223372036854775808 ≤ l) (h1 : l ≤ 18446744073709551615) : sg l = l - 18446744073709551616 := by unfold sg; omega
theorem fits_lo (v : Int) (h0 : v < -9223372036854775808) (h1 : -170141183460469231731687303715884105728 ≤ v) : ¬ hi v = sg (lo v) / 9223372036854775808 ∧ hi v < 0 := by
  have e := nm_val v h1 (by omega)
  have l0 := lo_ge v
  have l1 := lo_le v
  generalize hi v = h at *
  generalize lo v = l at *
  unfold nm at e
  by_cases hl : l < 9223372036854775808
  · rw [sg_small l l0 hl]; omega
  · rw [sg_big l (by omega) l1]; omega
theorem fits_hi (v : Int) (h0 : 9223372036854775807 < v) (h1 : v ≤ 170141183460469231731687303715884105727) : ¬ hi v = sg (lo v) / 9223372036854775808 ∧ ¬ hi v < 0 := by
  have e := nm_val v (by omega) h1
  have l0 := lo_ge v
  have l1 := lo_le v
  generalize hi v = h at *
  generalize lo v = l at *
  unfold nm at e
  by_cases hl : l < 9223372036854775808
  · rw [sg_small l l0 hl]; omega
  · rw [sg_big l (by omega) l1]; omega

def gu (side low : Int) : Bool := decide (0 < side) || (decide (side = 0) && decide (low % 2 = 1))

def ab (v : Int) : Int := if v < 0 then -v else v
theorem ab_neg (v : Int) (h : v < 0) : ab v = -v := by unfold ab; rw [if_pos h]
theorem ab_pos (v : Int) (h : 0 ≤ v) : ab v = v := by unfold ab; rw [if_neg (by omega)]
theorem hi_neg (v : Int) (h0 : -170141183460469231731687303715884105728 ≤ v) (h1 : v < 0) : hi v < 0 := by unfold hi; omega
theorem hi_pos (v : Int) (h0 : 0 ≤ v) (h1 : v ≤ 170141183460469231731687303715884105727) : ¬ hi v < 0 := by unfold hi; omega

def t3 (v : Int) : Int := (v / 340282366920938463463374607431768211456 + 9223372036854775808) % 18446744073709551616 - 9223372036854775808
def m3 (v : Int) : Int := v / 18446744073709551616 % 18446744073709551616
theorem ext_words (v : Int) (h0 : -170141183460469231731687303715884105728 ≤ v) (h1 : v ≤ 170141183460469231731687303715884105727) : hi v / 9223372036854775808 = t3 v ∧ hi v % 18446744073709551616 = m3 v := by unfold hi t3 m3; omega

end Go.Proofs.YtcaficenocblfaaGreatDoor
set_option linter.unusedVariables false
namespace Go.Proofs.YtcaficenocblfaaGreatDoor

theorem pow_split (n : Nat) (hn : n ≤ 64) : (2 : Int) ^ n * 2 ^ (64 - n) = 18446744073709551616 := by
  rw [← Int.pow_add, show n + (64 - n) = 64 by omega]; rfl
theorem pow_pos' (n : Nat) : (1 : Int) ≤ 2 ^ n := by
  have : (0 : Int) < 2 ^ n := Int.pow_pos (by omega)
  omega
theorem mod_mul_lt (a p q : Int) (hp : 1 ≤ p) (hq : 1 ≤ q) : 0 ≤ (a % q) * p ∧ (a % q) * p ≤ q * p - p := by
  have h0 : 0 ≤ a % q := Int.emod_nonneg _ (by omega)
  have h1 : a % q ≤ q - 1 := by have := Int.emod_lt_of_pos a (show 0 < q by omega); omega
  refine ⟨Int.mul_nonneg h0 (by omega), ?_⟩
  have := Int.mul_le_mul_of_nonneg_right h1 (show 0 ≤ p by omega)
  rw [Int.sub_mul, Int.one_mul] at this
  exact this
theorem mul_split (a p q B : Int) (hB : p * q = B) : a * p = (a / q) * B + (a % q) * p := by
  have h : q * (a / q) + a % q = a := Int.mul_ediv_add_emod a q
  have e : (q * (a / q) + a % q) * p = (a / q) * (p * q) + (a % q) * p := by
    rw [Int.add_mul, Int.mul_comm q, Int.mul_assoc, Int.mul_comm q p]
  rw [h, hB] at e
  exact e
theorem div_lt (a p q B : Int) (hB : p * q = B) (hp : 1 ≤ p) (hq : 1 ≤ q) (a0 : 0 ≤ a) (a1 : a < B) : 0 ≤ a / q ∧ a / q < p := by
  refine ⟨Int.ediv_nonneg a0 (by omega), Int.ediv_lt_of_lt_mul (by omega) (by rw [hB]; exact a1)⟩

theorem shl_words (a0 a1 p q : Int) (hB : p * q = 18446744073709551616) (hp : 1 ≤ p) (hq : 1 ≤ q) (h0 : 0 ≤ a1) (h1 : a1 ≤ 18446744073709551615) :
    sg (a0 * p + a1 / q) = hi (nm a0 a1 * p) ∧ a1 * p % 18446744073709551616 = lo (nm a0 a1 * p) := by
  have e := mul_split a1 p q _ hB
  obtain ⟨t0, t1⟩ := mod_mul_lt a1 p q hp hq
  rw [Int.mul_comm q p, hB] at t1
  have e2 : nm a0 a1 * p = a0 * p * 18446744073709551616 + a1 * p := by unfold nm; rw [Int.add_mul, Int.mul_assoc, Int.mul_comm 18446744073709551616 p, ← Int.mul_assoc]
  rw [e2]
  generalize a0 * p = X at *
  generalize a1 * p = Y at *
  generalize (a1 % q) * p = t at *
  generalize a1 / q = s at *
  unfold sg hi lo
  omega
theorem shl_words_big (a0 a1 p : Int) : sg (a1 * p % 18446744073709551616) = hi (nm a0 a1 * (18446744073709551616 * p)) ∧ 0 = lo (nm a0 a1 * (18446744073709551616 * p)) := by
  have e2 : nm a0 a1 * (18446744073709551616 * p) = a0 * p * 340282366920938463463374607431768211456 + a1 * p * 18446744073709551616 := by
    unfold nm
    rw [Int.mul_comm 18446744073709551616 p, ← Int.mul_assoc, Int.add_mul, Int.mul_right_comm a0, Int.add_mul, Int.mul_assoc (a0 * p)]
    rfl
  rw [e2]
  generalize a0 * p = X
  generalize a1 * p = Y
  unfold sg hi lo
  omega
theorem shr_words (a0 a1 p q : Int) (hB : p * q = 18446744073709551616) (hp : 1 ≤ p) (hq : 1 ≤ q) (g0 : -9223372036854775808 ≤ a0) (g1 : a0 ≤ 9223372036854775807) (h0 : 0 ≤ a1) (h1 : a1 ≤ 18446744073709551615) :
    a0 / p = hi (nm a0 a1 / p) ∧ a1 / p + (a0 * q) % 18446744073709551616 = lo (nm a0 a1 / p) ∧ 0 ≤ a1 / p ∧ a1 / p < q ∧ (a0 * q) % 18446744073709551616 = (a0 % p) * q ∧ 0 ≤ (a0 % p) * q := by
  have hB' : q * p = 18446744073709551616 := by rw [Int.mul_comm]; exact hB
  have e := mul_split a0 q p _ hB'
  obtain ⟨t0, t1⟩ := mod_mul_lt a0 q p hq hp
  rw [hB] at t1
  obtain ⟨d0, d1⟩ := div_lt a1 q p _ hB' hq hp h0 (by omega)
  have e2 : nm a0 a1 / p = a0 * q + a1 / p := by
    unfold nm
    rw [← hB, ← Int.mul_assoc, Int.mul_right_comm, Int.add_comm, Int.add_mul_ediv_right _ _ (by omega), Int.add_comm]
  have r0 : -9223372036854775808 ≤ a0 / p := by
    have := Int.ediv_le_ediv (show 0 < p by omega) g0
    have h2 : -9223372036854775808 ≤ -9223372036854775808 / p := by
      rw [Int.le_ediv_iff_mul_le (by omega)]
      have := Int.mul_le_mul_of_nonpos_left (a := -9223372036854775808) (by omega) hp
      omega
    omega
  have r1 : a0 / p ≤ 9223372036854775807 := by
    have h3 := Int.ediv_le_ediv (show 0 < p by omega) g1
    have h2 : 9223372036854775807 / p ≤ 9223372036854775807 := Int.ediv_le_self _ (by omega)
    omega
  rw [e2]
  generalize a0 * q = X at *
  generalize (a0 % p) * q = t at *
  generalize a0 / p = s at *
  generalize a1 / p = u at *
  unfold hi lo
  omega
theorem shr_words_big (a0 a1 p : Int) (hp : 1 ≤ p) (h0 : 0 ≤ a1) (h1 : a1 ≤ 18446744073709551615) : nm a0 a1 / (18446744073709551616 * p) = a0 / p := by
  have e : nm a0 a1 / 18446744073709551616 = a0 := by unfold nm; omega
  rw [← Int.ediv_ediv_of_nonneg (by omega), e]

theorem nat_or_add (A Y n : Nat) (hA : A % 2 ^ n = 0) (hY : Y < 2 ^ n) : A ||| Y = A + Y := by
  have h := Nat.two_pow_add_eq_or_of_lt hY (A / 2 ^ n)
  rw [Nat.mul_div_cancel' (Nat.dvd_of_mod_eq_zero hA)] at h
  exact h.symm

def rnd (v : Int) (k : Nat) : Int := if gu (c3 (v % 2 ^ k) (2 ^ (k - 1))) (lo (v / 2 ^ k)) = true then v / 2 ^ k + 1 else v / 2 ^ k
theorem pow_127 (k : Nat) (hk : k ≤ 127) : (2 : Int) ^ k ≤ 170141183460469231731687303715884105728 := by
  have h : (2 : Nat) ^ k ≤ 2 ^ 127 := Nat.pow_le_pow_right (by omega) hk
  have h2 : (((2 : Nat) ^ k : Nat) : Int) ≤ (((2 : Nat) ^ 127 : Nat) : Int) := by omega
  rw [Int.natCast_pow] at h2
  exact h2
theorem left_eq (v : Int) (k : Nat) : v - v / 2 ^ k * 2 ^ k = v % 2 ^ k := by
  have := Int.mul_ediv_add_emod v (2 ^ k)
  rw [Int.mul_comm] at this
  omega
theorem left_rng (v : Int) (k : Nat) (hk : k ≤ 127) : 0 ≤ v % 2 ^ k ∧ v % 2 ^ k ≤ 170141183460469231731687303715884105727 := by
  have hp := pow_pos' k
  have h0 := Int.emod_nonneg v (show (2 : Int) ^ k ≠ 0 by omega)
  have h1 := Int.emod_lt_of_pos v (show (0 : Int) < 2 ^ k by omega)
  have h2 := pow_127 k hk
  omega

end Go.Proofs.YtcaficenocblfaaGreatDoor
set_option linter.unusedVariables false
namespace Go.Proofs.YtcaficenocblfaaGreatDoor

def quoA (v d : Int) : Int := if gu (c3 (2 * (ab v % ab d)) (ab d)) (lo (ab v / ab d)) = true then ab v / ab d + 1 else ab v / ab d
def quo (v d : Int) : Int := if (decide (v < 0) != decide (d < 0)) = true then -(quoA v d) else quoA v d

theorem div_step (v d : Int) (hd : 1 ≤ d) : v / d = (v / 18446744073709551616 / d) * 18446744073709551616 + (v / 18446744073709551616 % d * 18446744073709551616 + v % 18446744073709551616) / d := by
  have e1 : v = v / 18446744073709551616 * 18446744073709551616 + v % 18446744073709551616 := by omega
  have e2 : v / 18446744073709551616 = d * (v / 18446744073709551616 / d) + v / 18446744073709551616 % d := (Int.mul_ediv_add_emod _ _).symm
  generalize v / 18446744073709551616 = H at *
  generalize v % 18446744073709551616 = L at *
  generalize hq : H / d = q at *
  generalize H % d = r at *
  subst e1
  rw [e2, Int.add_mul, Int.add_assoc, Int.mul_assoc, Int.add_comm, Int.add_mul_ediv_left _ _ (show d ≠ 0 by omega), Int.add_comm]
theorem mod_step (v d : Int) (hd : 1 ≤ d) : v % d = (v / 18446744073709551616 % d * 18446744073709551616 + v % 18446744073709551616) % d := by
  have e1 : v = v / 18446744073709551616 * 18446744073709551616 + v % 18446744073709551616 := by omega
  have e2 : v / 18446744073709551616 = d * (v / 18446744073709551616 / d) + v / 18446744073709551616 % d := (Int.mul_ediv_add_emod _ _).symm
  generalize v / 18446744073709551616 = H at *
  generalize v % 18446744073709551616 = L at *
  generalize hq : H / d = q at *
  generalize H % d = r at *
  subst e1
  rw [e2, Int.add_mul, Int.add_assoc, Int.mul_assoc, Int.add_comm, Int.add_mul_emod_self_left]
theorem div_words (v d : Int) (hd : 1 ≤ d) (v0 : 0 ≤ v) (v1 : v ≤ 170141183460469231731687303715884105728) :
    sg (v / 18446744073709551616 / d) = hi (v / d) ∧ (v / 18446744073709551616 % d * 18446744073709551616 + v % 18446744073709551616) / d = lo (v / d) ∧ 0 ≤ v / 18446744073709551616 % d ∧ v / 18446744073709551616 % d < d := by
  have hs := div_step v d hd
  have m0 := Int.emod_nonneg (v / 18446744073709551616) (show d ≠ 0 by omega)
  have m1 := Int.emod_lt_of_pos (v / 18446744073709551616) (show 0 < d by omega)
  have q0 : 0 ≤ v / 18446744073709551616 / d := Int.ediv_nonneg (by omega) (by omega)
  have q1 : v / 18446744073709551616 / d ≤ v / 18446744073709551616 := Int.ediv_le_self _ (by omega)
  have L0 : 0 ≤ v % 18446744073709551616 := by omega
  have L1 : v % 18446744073709551616 < 18446744073709551616 := by omega
  generalize hH : v / 18446744073709551616 = H at *
  generalize v % 18446744073709551616 = L at *
  have t0 : 0 ≤ (H % d * 18446744073709551616 + L) / d := Int.ediv_nonneg (by omega) (by omega)
  have t1 : (H % d * 18446744073709551616 + L) / d < 18446744073709551616 := by
    apply Int.ediv_lt_of_lt_mul (by omega)
    have := Int.mul_le_mul_of_nonneg_right (show H % d + 1 ≤ d by omega) (show (0 : Int) ≤ 18446744073709551616 by omega)
    rw [Int.mul_comm 18446744073709551616 d]
    omega
  generalize (H % d * 18446744073709551616 + L) / d = t at *
  generalize H / d = q at *
  refine ⟨?_, ?_, m0, m1⟩
  · rw [hs]; unfold sg hi; omega
  · rw [hs]; unfold lo; omega

theorem ab_ge (v : Int) : 0 ≤ ab v := by unfold ab; split <;> omega
theorem ab_le (v : Int) (h0 : -170141183460469231731687303715884105728 ≤ v) (h1 : v ≤ 170141183460469231731687303715884105727) : ab v ≤ 170141183460469231731687303715884105728 := by unfold ab; split <;> omega
theorem ab_d (d : Int) (h0 : -9223372036854775808 ≤ d) (h1 : d ≤ 9223372036854775807) (hd : d ≠ 0) : 1 ≤ ab d ∧ ab d ≤ 9223372036854775808 := by unfold ab; split <;> omega
theorem lo_small (x : Int) (h0 : 0 ≤ x) (h1 : x ≤ 18446744073709551615) : lo x = x := by unfold lo; omega
theorem hi_u (v : Int) (v0 : 0 ≤ v) (v1 : v ≤ 170141183460469231731687303715884105728) : hi v % 18446744073709551616 = v / 18446744073709551616 := by unfold hi; omega

end Go.Proofs.YtcaficenocblfaaGreatDoor
set_option linter.unusedVariables false
namespace Go.Proofs.YtcaficenocblfaaGreatDoor

def rtA (v : Int) : Nat → Int → Int
  | 0, r => r
  | k + 1, r => rtA v k (if (r + 2 ^ k) * (r + 2 ^ k) ≤ v then r + 2 ^ k else r)
def rt (v : Int) : Int := rtA v 63 0

theorem pow_two (k : Nat) : (2 : Int) ^ (k + 1) = 2 ^ k + 2 ^ k := by rw [Int.pow_succ]; omega
end Go.Proofs.YtcaficenocblfaaGreatDoor
set_option linter.unusedVariables false
namespace Go.Proofs.YtcaficenocblfaaGreatDoor

structure KG (V Y1 Y0 U u : Int) : Prop where
  v0 : 9223372036854775808 ≤ V
  v1 : V ≤ 18446744073709551615
  vv : V = Y1 * 4294967296 + Y0
  y0 : 0 ≤ Y0
  y1 : Y0 ≤ 4294967295
  u0 : 0 ≤ U
  u1 : U < V
  t0 : 0 ≤ u
  t1 : u ≤ 4294967295
structure KI (V Y1 Y0 U u q r : Int) : Prop where
  e : q * Y1 + r = U
  q0 : 0 ≤ q
  q1 : q ≤ 4294967297
  r0 : 0 ≤ r
  r1 : r ≤ 4294967295
  lo : (U * 4294967296 + u) / V ≤ q

theorem KG.half {V Y1 Y0 U u : Int} (g : KG V Y1 Y0 U u) : 2147483648 ≤ Y1 ∧ Y1 ≤ 4294967295 := by
  obtain ⟨v0, v1, vv, y0, y1, u0, u1, t0, t1⟩ := g
  omega
theorem KG.qlt {V Y1 Y0 U u : Int} (g : KG V Y1 Y0 U u) : 0 ≤ (U * 4294967296 + u) / V ∧ (U * 4294967296 + u) / V ≤ 4294967295 := by
  obtain ⟨v0, v1, vv, y0, y1, u0, u1, t0, t1⟩ := g
  refine ⟨Int.ediv_nonneg (by omega) (by omega), ?_⟩
  have : (U * 4294967296 + u) / V < 4294967296 := Int.ediv_lt_of_lt_mul (by omega) (by omega)
  omega
theorem KG.mulV {V Y1 Y0 U u : Int} (g : KG V Y1 Y0 U u) (q : Int) : q * V = q * Y1 * 4294967296 + q * Y0 := by
  rw [g.vv, Int.mul_add, ← Int.mul_assoc]
theorem KG.le_of {V Y1 Y0 U u : Int} (g : KG V Y1 Y0 U u) (q : Int) (h : q * V ≤ U * 4294967296 + u) : q ≤ (U * 4294967296 + u) / V := by
  have := g.v0
  exact (Int.le_ediv_iff_mul_le (by omega)).2 h
theorem KG.lt_of {V Y1 Y0 U u : Int} (g : KG V Y1 Y0 U u) (q : Int) (h : U * 4294967296 + u < q * V) : (U * 4294967296 + u) / V < q := by
  have := g.v0
  exact Int.ediv_lt_of_lt_mul (by omega) h

theorem KI.start {V Y1 Y0 U u : Int} (g : KG V Y1 Y0 U u) : KI V Y1 Y0 U u (U / Y1) (U - U / Y1 * Y1) := by
  obtain ⟨h0, h1⟩ := g.half
  have hm := Int.mul_ediv_add_emod U Y1
  have m0 := Int.emod_nonneg U (show Y1 ≠ 0 by omega)
  have m1 := Int.emod_lt_of_pos U (show 0 < Y1 by omega)
  have em : U - U / Y1 * Y1 = U % Y1 := by rw [Int.mul_comm] at hm; omega
  rw [em]
  obtain ⟨v0, v1, vv, y0, y1, u0, u1, t0, t1⟩ := id g
  refine ⟨by rw [Int.mul_comm]; exact hm, Int.ediv_nonneg u0 (by omega), ?_, m0, by omega, ?_⟩
  · have : U / Y1 < 4294967298 := Int.ediv_lt_of_lt_mul (by omega) (by omega)
    omega
  · -- the guess is not below the true one
    have hq := g.mulV (U / Y1 + 1)
    have : (U * 4294967296 + u) / V < U / Y1 + 1 := by
      apply g.lt_of
      rw [hq, Int.add_mul (U / Y1) 1 Y1, Int.one_mul, Int.add_mul (U / Y1) 1 Y0, Int.one_mul]
      have e1 : U / Y1 * Y1 = U - U % Y1 := by omega
      have e2 : 0 ≤ U / Y1 * Y0 := Int.mul_nonneg (Int.ediv_nonneg u0 (by omega)) y0
      rw [e1]
      omega
    omega
theorem KI.stop {V Y1 Y0 U u q r : Int} (g : KG V Y1 Y0 U u) (k : KI V Y1 Y0 U u q r) (h : q * Y0 ≤ 4294967296 * r + u) : q = (U * 4294967296 + u) / V := by
  have h1 := g.le_of q (by rw [g.mulV]; have := k.e; omega)
  have := k.lo
  omega
theorem KI.less {V Y1 Y0 U u q r : Int} (g : KG V Y1 Y0 U u) (k : KI V Y1 Y0 U u q r) (h : 4294967296 ≤ q ∨ 4294967296 * r + u < q * Y0) : (U * 4294967296 + u) / V ≤ q - 1 := by
  rcases h with h | h
  · have := g.qlt; omega
  · have := g.lt_of q (by rw [g.mulV]; have := k.e; omega)
    omega
theorem KI.next {V Y1 Y0 U u q r : Int} (g : KG V Y1 Y0 U u) (k : KI V Y1 Y0 U u q r) (h : 4294967296 ≤ q ∨ 4294967296 * r + u < q * Y0) (hr : r + Y1 ≤ 4294967295) : KI V Y1 Y0 U u (q - 1) (r + Y1) := by
  have hl := k.less g h
  have := g.qlt
  have := g.half
  obtain ⟨e, q0, q1, r0, r1, lo⟩ := k
  exact ⟨by rw [Int.sub_mul, Int.one_mul]; omega, by omega, by omega, by omega, by omega, hl⟩
theorem KI.break {V Y1 Y0 U u q r : Int} (g : KG V Y1 Y0 U u) (k : KI V Y1 Y0 U u q r) (h : 4294967296 ≤ q ∨ 4294967296 * r + u < q * Y0) (hr : 4294967296 ≤ r + Y1) : q - 1 = (U * 4294967296 + u) / V := by
  have hl := k.less g h
  have hq := g.qlt
  have h1 : q - 1 ≤ (U * 4294967296 + u) / V := by
    apply g.le_of
    rw [g.mulV]
    have e1 : (q - 1) * Y1 = U - (r + Y1) := by rw [Int.sub_mul, Int.one_mul]; have := k.e; omega
    have e2 : (q - 1) * Y0 ≤ 4294967296 * 4294967295 := Int.mul_le_mul (by have := k.q1; omega) g.y1 g.y0 (by omega)
    rw [e1]
    have := g.t0
    omega
  omega
theorem KG.left {V Y1 Y0 U u q : Int} (g : KG V Y1 Y0 U u) (hq : q = (U * 4294967296 + u) / V) : U * 4294967296 + u - q * V = (U * 4294967296 + u) % V ∧ 0 ≤ (U * 4294967296 + u) % V ∧ (U * 4294967296 + u) % V < V := by
  have := g.v0
  have hm := Int.mul_ediv_add_emod (U * 4294967296 + u) V
  rw [← hq, Int.mul_comm] at hm
  exact ⟨by omega, Int.emod_nonneg _ (by omega), Int.emod_lt_of_pos _ (by omega)⟩
theorem wrap_left (A M R : Int) (h : A - M = R) (r0 : 0 ≤ R) (r1 : R ≤ 18446744073709551615) : (A % 18446744073709551616 - M % 18446744073709551616) % 18446744073709551616 = R := by omega

theorem two_steps (N y p V U T T1 T0 : Int) (hp : 1 ≤ p) (hy : 1 ≤ y) (hV : V = y * p) (hN : N * p = U * 18446744073709551616 + T) (hT : T = T1 * 4294967296 + T0) :
    N / y = (U * 4294967296 + T1) / V * 4294967296 + ((U * 4294967296 + T1) % V * 4294967296 + T0) / V ∧ N % y * p = ((U * 4294967296 + T1) % V * 4294967296 + T0) % V := by
  have hV0 : 0 < V := by rw [hV]; exact Int.mul_pos (by omega) (by omega)
  have h1 := Int.mul_ediv_add_emod (U * 4294967296 + T1) V
  have e0 : N * p = (U * 4294967296 + T1) * 4294967296 + T0 := by omega
  have e1 : N * p = V * ((U * 4294967296 + T1) / V * 4294967296) + ((U * 4294967296 + T1) % V * 4294967296 + T0) := by
    rw [e0, ← Int.mul_assoc]
    generalize V * ((U * 4294967296 + T1) / V) = A at *
    generalize (U * 4294967296 + T1) % V = B at *
    omega
  have d1 : N * p / V = N / y := by rw [hV]; exact Int.mul_ediv_mul_of_pos_left _ _ (by omega)
  have d2 : N * p % V = N % y * p := by rw [hV, Int.mul_comm N p, Int.mul_comm y p, Int.mul_emod_mul_of_pos _ _ (by omega), Int.mul_comm]
  constructor
  · rw [← d1, e1, Int.add_comm, Int.add_mul_ediv_left _ _ (by omega), Int.add_comm]
  · rw [← d2, e1, Int.add_comm, Int.add_mul_emod_self_left]

theorem up_words (h l p q : Int) (hB : p * q = 18446744073709551616) (hp : 1 ≤ p) (hq : 1 ≤ q) (h0 : 0 ≤ h) (l0 : 0 ≤ l) (l1 : l ≤ 18446744073709551615) (hh : h * p ≤ 18446744073709551615) :
    (h * 18446744073709551616 + l) * p = (h * p + l / q) * 18446744073709551616 + l * p % 18446744073709551616 ∧ 0 ≤ l / q ∧ l / q < p := by
  have e := mul_split l p q _ hB
  obtain ⟨t0, t1⟩ := mod_mul_lt l p q hp hq
  rw [Int.mul_comm q p, hB] at t1
  obtain ⟨d0, d1⟩ := div_lt l p q _ hB hp hq l0 (by omega)
  refine ⟨?_, d0, d1⟩
  have e2 : (h * 18446744073709551616 + l) * p = h * p * 18446744073709551616 + l * p := by rw [Int.add_mul, Int.mul_right_comm]
  rw [e2]
  generalize h * p = X at *
  generalize l * p = Y at *
  generalize (l % q) * p = t at *
  generalize l / q = s at *
  omega
theorem up_below (h l y p q : Int) (hB : p * q = 18446744073709551616) (hp : 1 ≤ p) (hq : 1 ≤ q) (hy : h < y) (h0 : 0 ≤ h) (l0 : 0 ≤ l) (l1 : l ≤ 18446744073709551615) : h * p + l / q < y * p ∧ h * p ≤ y * p - p := by
  obtain ⟨d0, d1⟩ := div_lt l p q _ hB hp hq l0 (by omega)
  have := Int.mul_le_mul_of_nonneg_right (show h + 1 ≤ y by omega) (show 0 ≤ p by omega)
  rw [Int.add_mul, Int.one_mul] at this
  omega

end Go.Proofs.YtcaficenocblfaaGreatDoor
set_option linter.unusedVariables false
namespace Go.Proofs.YtcaficenocblfaaGreatDoor

def dg (v : Int) (i : Nat) : Int := v / 2 ^ (32 * i) % 4294967296
theorem dg_rng (v : Int) (i : Nat) : 0 ≤ dg v i ∧ dg v i ≤ 4294967295 := by unfold dg; omega
def ca (a b : Int) (i : Nat) : Int := (a % 2 ^ (32 * i) + b % 2 ^ (32 * i)) / 2 ^ (32 * i)
def bo (a b : Int) (i : Nat) : Int := -((a % 2 ^ (32 * i) - b % 2 ^ (32 * i)) / 2 ^ (32 * i))
theorem ca_zero (a b : Int) : ca a b 0 = 0 := by
  unfold ca; rw [Nat.mul_zero, Int.pow_zero]; omega
theorem bo_zero (a b : Int) : bo a b 0 = 0 := by
  unfold bo; rw [Nat.mul_zero, Int.pow_zero]; omega
theorem pow32 (i : Nat) : (2 : Int) ^ (32 * (i + 1)) = 2 ^ (32 * i) * 4294967296 := by
  rw [show 32 * (i + 1) = 32 * i + 32 by omega, Int.pow_add]; rfl
theorem mod_up (a p : Int) (hp : 1 ≤ p) : a % (p * 4294967296) = a / p % 4294967296 * p + a % p := by
  have h1 := Int.mul_ediv_add_emod a p
  have h2 := Int.mul_ediv_add_emod (a / p) 4294967296
  have h3 := Int.emod_nonneg a (show p ≠ 0 by omega)
  have h4 := Int.emod_lt_of_pos a (show 0 < p by omega)
  have q0 : 0 ≤ a / p % 4294967296 := by omega
  have q1 : a / p % 4294967296 ≤ 4294967295 := by omega
  generalize a / p = q at *
  generalize q % 4294967296 = d at *
  generalize q / 4294967296 = e at *
  generalize a % p = r at *
  have e1 : a = (p * 4294967296) * e + (d * p + r) := by
    have : p * q = p * (4294967296 * e + d) := by rw [h2]
    rw [Int.mul_add, ← Int.mul_assoc, Int.mul_comm p d] at this
    omega
  have n0 : 0 ≤ d * p := Int.mul_nonneg q0 (by omega)
  have n1 : d * p ≤ 4294967295 * p := Int.mul_le_mul_of_nonneg_right q1 (by omega)
  have := Int.add_mul_emod_self_left (d * p + r) (p * 4294967296) e
  rw [e1, Int.add_comm, this, Int.emod_eq_of_lt (by omega) (by omega)]
theorem add_over (u r p : Int) (hp : 1 ≤ p) : (u * p + r) / p = u + r / p := by
  rw [Int.add_comm, Int.add_mul_ediv_right _ _ (by omega), Int.add_comm]
theorem up_div (u r p : Int) (hp : 1 ≤ p) : (u * p + r) / (p * 4294967296) = (u + r / p) / 4294967296 := by
  rw [← add_over u r p hp, Int.ediv_ediv_of_nonneg (by omega)]
theorem sum_digit (a b : Int) (i : Nat) : (dg a i + dg b i + ca a b i) % 4294967296 = dg (a + b) i ∧ (dg a i + dg b i + ca a b i) / 4294967296 = ca a b (i + 1) := by
  have hp := pow_pos' (32 * i)
  unfold ca dg
  rw [pow32]
  generalize (2 : Int) ^ (32 * i) = p at *
  have ea := Int.mul_ediv_add_emod a p
  have eb := Int.mul_ediv_add_emod b p
  have es : (a + b) / p = a / p + b / p + (a % p + b % p) / p := by
    have e : a + b = (a / p + b / p) * p + (a % p + b % p) := by
      rw [Int.add_mul, Int.mul_comm (a / p), Int.mul_comm (b / p)]; omega
    have h := congrArg (fun t => t / p) e
    rw [add_over _ _ p (by omega)] at h
    exact h
  refine ⟨by rw [es]; omega, ?_⟩
  rw [mod_up a p (by omega), mod_up b p (by omega)]
  rw [show a / p % 4294967296 * p + a % p + (b / p % 4294967296 * p + b % p) = (a / p % 4294967296 + b / p % 4294967296) * p + (a % p + b % p) by rw [Int.add_mul]; omega, up_div _ _ p (by omega)]
theorem ca_rng (a b : Int) (i : Nat) : 0 ≤ ca a b i ∧ ca a b i ≤ 1 := by
  have hp := pow_pos' (32 * i)
  unfold ca
  generalize (2 : Int) ^ (32 * i) = p at *
  have h1 := Int.emod_nonneg a (show p ≠ 0 by omega)
  have h2 := Int.emod_lt_of_pos a (show 0 < p by omega)
  have h3 := Int.emod_nonneg b (show p ≠ 0 by omega)
  have h4 := Int.emod_lt_of_pos b (show 0 < p by omega)
  refine ⟨Int.ediv_nonneg (by omega) (by omega), ?_⟩
  have := Int.ediv_lt_of_lt_mul (a := a % p + b % p) (b := 2) (c := p) (by omega) (by omega)
  omega
theorem dif_digit (a b : Int) (i : Nat) : (dg a i + 4294967296 - dg b i - bo a b i) % 4294967296 = dg (a - b) i ∧ 1 - (dg a i + 4294967296 - dg b i - bo a b i) / 4294967296 = bo a b (i + 1) := by
  have hp := pow_pos' (32 * i)
  unfold bo dg
  rw [pow32]
  generalize (2 : Int) ^ (32 * i) = p at *
  have ea := Int.mul_ediv_add_emod a p
  have eb := Int.mul_ediv_add_emod b p
  have es : (a - b) / p = a / p - b / p + (a % p - b % p) / p := by
    have e : a - b = (a / p - b / p) * p + (a % p - b % p) := by
      rw [Int.sub_mul, Int.mul_comm (a / p), Int.mul_comm (b / p)]; omega
    have h := congrArg (fun t => t / p) e
    rw [add_over _ _ p (by omega)] at h
    exact h
  refine ⟨by rw [es]; omega, ?_⟩
  rw [mod_up a p (by omega), mod_up b p (by omega)]
  rw [show a / p % 4294967296 * p + a % p - (b / p % 4294967296 * p + b % p) = (a / p % 4294967296 - b / p % 4294967296) * p + (a % p - b % p) by rw [Int.sub_mul]; omega, up_div _ _ p (by omega)]
  omega
theorem bo_rng (a b : Int) (i : Nat) : 0 ≤ bo a b i ∧ bo a b i ≤ 1 := by
  have hp := pow_pos' (32 * i)
  unfold bo
  generalize (2 : Int) ^ (32 * i) = p at *
  have h1 := Int.emod_nonneg a (show p ≠ 0 by omega)
  have h2 := Int.emod_lt_of_pos a (show 0 < p by omega)
  have h3 := Int.emod_nonneg b (show p ≠ 0 by omega)
  have h4 := Int.emod_lt_of_pos b (show 0 < p by omega)
  have l := Int.ediv_lt_of_lt_mul (a := a % p - b % p) (b := 1) (c := p) (by omega) (by omega)
  have g : -1 ≤ (a % p - b % p) / p := by
    rw [Int.le_ediv_iff_mul_le (by omega)]
    omega
  omega
theorem half_digit (m : Int) (i : Nat) : (m / 2 ^ (32 * (i + 1)) % 2 * 4294967296 + dg m i) / 2 = dg (m / 2) i ∧ (m / 2 ^ (32 * (i + 1)) % 2 * 4294967296 + dg m i) % 2 = m / 2 ^ (32 * i) % 2 := by
  have hp := pow_pos' (32 * i)
  unfold dg
  rw [pow32, ← Int.ediv_ediv_of_nonneg (show (0 : Int) ≤ 2 ^ (32 * i) by omega)]
  rw [show m / 2 / 2 ^ (32 * i) = m / 2 ^ (32 * i) / 2 by rw [Int.ediv_ediv_of_nonneg (by omega), Int.ediv_ediv_of_nonneg (by omega), Int.mul_comm]]
  generalize m / 2 ^ (32 * i) = M
  omega
theorem top_none (m : Int) (h0 : 0 ≤ m) (h1 : m < 6277101735386680763835789423207666416102355444464034512896) : m / 2 ^ (32 * 6) = 0 := Int.ediv_eq_zero_of_lt h0 (by show m < 6277101735386680763835789423207666416102355444464034512896; exact h1)
end Go.Proofs.YtcaficenocblfaaGreatDoor
set_option linter.unusedVariables false
namespace Go.Proofs.YtcaficenocblfaaGreatDoor

def rr (v : Int) (n : Nat) : Int := if n = 0 then v else rnd v n
def lastB (M : Int) (j : Nat) : Int := if j = 0 then 0 else M / 2 ^ (j - 1) % 2
def restB (M : Int) (j : Nat) : Int := if M % 2 ^ (j - 1) = 0 then 0 else 1
theorem lastB_01 (M : Int) (j : Nat) : lastB M j = 0 ∨ lastB M j = 1 := by unfold lastB; split <;> omega
theorem restB_01 (M : Int) (j : Nat) : restB M j = 0 ∨ restB M j = 1 := by unfold restB; split <;> omega
theorem mod_next (a : Int) (k : Nat) : a % 2 ^ (k + 1) = a / 2 ^ k % 2 * 2 ^ k + a % 2 ^ k := by
  have hp := pow_pos' k
  have e1 := Int.mul_ediv_add_emod a (2 ^ k)
  have e2 := Int.mul_ediv_add_emod (a / 2 ^ k) 2
  have h3 := Int.emod_nonneg a (show (2 : Int) ^ k ≠ 0 by omega)
  have h4 := Int.emod_lt_of_pos a (show (0 : Int) < 2 ^ k by omega)
  rw [Int.pow_succ]
  generalize (2 : Int) ^ k = P at *
  generalize a / P = q at *
  generalize a % P = r at *
  have q0 : 0 ≤ q % 2 := by omega
  have q1 : q % 2 ≤ 1 := by omega
  generalize q % 2 = d at *
  generalize q / 2 = e at *
  have e3 : a = (P * 2) * e + (d * P + r) := by
    have : P * q = P * (2 * e + d) := by rw [e2]
    rw [Int.mul_add, ← Int.mul_assoc, Int.mul_comm P d] at this
    omega
  have n1 : d * P ≤ 1 * P := Int.mul_le_mul_of_nonneg_right q1 (by omega)
  have n0 : 0 ≤ d * P := Int.mul_nonneg q0 (by omega)
  have := Int.add_mul_emod_self_left (d * P + r) (P * 2) e
  rw [e3, Int.add_comm, this, Int.emod_eq_of_lt (by omega) (by omega)]
theorem or_00 : bits .or .u64 0 0 = 0 := by decide
theorem or_01 : bits .or .u64 0 1 = 1 := by decide
theorem or_10 : bits .or .u64 1 0 = 1 := by decide
theorem or_11 : bits .or .u64 1 1 = 1 := by decide
theorem rest_step (M : Int) (j : Nat) : bits .or .u64 (restB M j) (lastB M j) = restB M (j + 1) := by
  by_cases hj : j = 0
  · subst hj
    unfold restB lastB
    rw [if_pos rfl, if_pos (by omega)]
    exact or_00
  · have e := mod_next M (j - 1)
    rw [show j - 1 + 1 = j by omega] at e
    have hp := pow_pos' (j - 1)
    have h3 := Int.emod_nonneg M (show (2 : Int) ^ (j - 1) ≠ 0 by omega)
    unfold restB lastB
    rw [if_neg hj, show j + 1 - 1 = j by omega, e]
    rcases (show M / 2 ^ (j - 1) % 2 = 0 ∨ M / 2 ^ (j - 1) % 2 = 1 by omega) with hb | hb
    · rw [hb, Int.zero_mul, Int.zero_add]
      by_cases hr : M % 2 ^ (j - 1) = 0
      · rw [if_pos hr]; exact or_00
      · rw [if_neg hr]; exact or_10
    · rw [hb, Int.one_mul, if_neg (show ¬ (2 : Int) ^ (j - 1) + M % 2 ^ (j - 1) = 0 by omega)]
      by_cases hr : M % 2 ^ (j - 1) = 0
      · rw [if_pos hr]; exact or_01
      · rw [if_neg hr]; exact or_11
theorem lo_par (x : Int) : lo x % 2 = x % 2 := by unfold lo; omega
theorem up_iff (M : Int) (n : Nat) (m0 : 0 ≤ M) : rr M n = if lastB M n = 1 ∧ (restB M n = 1 ∨ M / 2 ^ n % 2 = 1) then M / 2 ^ n + 1 else M / 2 ^ n := by
  by_cases hn : n = 0
  · subst hn
    unfold rr lastB
    rw [if_pos rfl, if_pos rfl, if_neg (by omega), Int.pow_zero, Int.ediv_one]
  · have e := mod_next M (n - 1)
    rw [show n - 1 + 1 = n by omega] at e
    have hp := pow_pos' (n - 1)
    have h3 := Int.emod_nonneg M (show (2 : Int) ^ (n - 1) ≠ 0 by omega)
    have h4 := Int.emod_lt_of_pos M (show (0 : Int) < 2 ^ (n - 1) by omega)
    unfold rr lastB restB rnd
    rw [if_neg hn, if_neg hn]
    have hg : gu (c3 (M % 2 ^ n) (2 ^ (n - 1))) (lo (M / 2 ^ n)) = true ↔ M / 2 ^ (n - 1) % 2 = 1 ∧ ((if M % 2 ^ (n - 1) = 0 then (0 : Int) else 1) = 1 ∨ M / 2 ^ n % 2 = 1) := by
      rw [e]
      rcases (show M / 2 ^ (n - 1) % 2 = 0 ∨ M / 2 ^ (n - 1) % 2 = 1 by omega) with hb | hb
      · rw [hb, Int.zero_mul, Int.zero_add, c3_lt _ _ h4]
        constructor
        · intro h; unfold gu at h; simp at h
        · intro h; omega
      · rw [hb, Int.one_mul]
        by_cases hr : M % 2 ^ (n - 1) = 0
        · rw [if_pos hr, hr, Int.add_zero, c3_self]
          unfold gu
          rw [lo_par]
          simp
        · rw [if_neg hr, c3_gt _ _ (by omega)]
          unfold gu
          simp
    by_cases hc : M / 2 ^ (n - 1) % 2 = 1 ∧ ((if M % 2 ^ (n - 1) = 0 then (0 : Int) else 1) = 1 ∨ M / 2 ^ n % 2 = 1)
    · rw [if_pos (hg.2 hc), if_pos hc]
    · rw [if_neg (fun h => hc (hg.1 h)), if_neg hc]
theorem rr_neg (M : Int) (n : Nat) (m0 : 0 ≤ M) : rr (-M) n = -(rr M n) := by
  unfold rr
  by_cases hn : n = 0
  · rw [if_pos hn, if_pos hn]
  · rw [if_neg hn, if_neg hn]
    have hp := pow_pos' (n - 1)
    have hP : (2 : Int) ^ n = 2 ^ (n - 1) + 2 ^ (n - 1) := by rw [← pow_two, show n - 1 + 1 = n by omega]
    have h1 := Int.mul_ediv_add_emod M (2 ^ n)
    have h3 := Int.emod_nonneg M (show (2 : Int) ^ n ≠ 0 by omega)
    have h4 := Int.emod_lt_of_pos M (show (0 : Int) < 2 ^ n by omega)
    unfold rnd
    by_cases hr : M % 2 ^ n = 0
    · have q : (-M) / 2 ^ n = -(M / 2 ^ n) := Int.neg_ediv_of_dvd (Int.dvd_of_emod_eq_zero hr)
      have m : (-M) % 2 ^ n = 0 := by
        have := Int.mul_ediv_add_emod (-M) (2 ^ n)
        rw [q, Int.mul_neg] at this
        omega
      rw [q, m, hr, c3_lt _ _ (by omega)]
      have g : ∀ l, ¬ gu (-1) l = true := by intro l; unfold gu; simp
      rw [if_neg (g _), if_neg (g _)]
    · have e5 : -M = 2 ^ n * (-(M / 2 ^ n) - 1) + (2 ^ n - M % 2 ^ n) := by rw [Int.mul_sub, Int.mul_neg, Int.mul_one]; omega
      obtain ⟨q, m⟩ := (Int.ediv_emod_unique (a := -M) (b := 2 ^ n) (r := 2 ^ n - M % 2 ^ n) (q := -(M / 2 ^ n) - 1) (by omega)).2 ⟨by omega, by omega, by omega⟩
      rw [q, m]
      generalize M % 2 ^ n = r at *
      generalize M / 2 ^ n = k at *
      generalize (2 : Int) ^ (n - 1) = H at *
      rcases (show r < H ∨ r = H ∨ H < r by omega) with h | h | h
      · rw [c3_lt r H h, c3_gt (2 ^ n - r) H (by omega)]
        have g1 : ∀ l, ¬ gu (-1) l = true := by intro l; unfold gu; simp
        have g2 : ∀ l, gu 1 l = true := by intro l; unfold gu; simp
        rw [if_pos (g2 _), if_neg (g1 _)]
        omega
      · subst h
        rw [show (2 : Int) ^ n - r = r by omega, c3_self]
        have g1 : ∀ l, (gu 0 (lo l) = true) ↔ l % 2 = 1 := by intro l; unfold gu; rw [lo_par]; simp
        by_cases hk : k % 2 = 1
        · rw [if_neg (by rw [g1]; omega), if_pos ((g1 k).2 hk)]
          omega
        · rw [if_pos ((g1 _).2 (by omega)), if_neg (by rw [g1]; exact hk)]
          omega
      · rw [c3_gt r H h, c3_lt (2 ^ n - r) H (by omega)]
        have g1 : ∀ l, ¬ gu (-1) l = true := by intro l; unfold gu; simp
        have g2 : ∀ l, gu 1 l = true := by intro l; unfold gu; simp
        rw [if_pos (g2 _), if_neg (g1 _)]
        omega
theorem rr_sign (v : Int) (n : Nat) : (if decide (v < 0) = true then -(rr (ab v) n) else rr (ab v) n) = rr v n := by
  unfold ab
  by_cases h : v < 0
  · rw [if_pos (decide_eq_true h), if_pos h, ← rr_neg (-v) n (by omega), Int.neg_neg]
  · rw [if_neg (by simpa using h), if_neg h]
end Go.Proofs.YtcaficenocblfaaGreatDoor
set_option linter.unusedVariables false
namespace Go.Proofs.YtcaficenocblfaaGreatDoor

theorem qd_up (T B z : Int) (hB : 1 ≤ B) (h : B ≤ 2 * (T % B) + z) (z01 : z = 0 ∨ z = 1) : (2 * T + z) % B = 2 * (T % B) + z - B ∧ (2 * T + z) / B = 2 * (T / B) + 1 := by
  have e := Int.mul_ediv_add_emod T B
  have m0 := Int.emod_nonneg T (show B ≠ 0 by omega)
  have m1 := Int.emod_lt_of_pos T (show 0 < B by omega)
  have := (Int.ediv_emod_unique (a := 2 * T + z) (b := B) (r := 2 * (T % B) + z - B) (q := 2 * (T / B) + 1) (by omega)).2 ⟨by rw [Int.mul_add, Int.mul_left_comm]; omega, by omega, by omega⟩
  exact ⟨this.2, this.1⟩
theorem qd_down (T B z : Int) (hB : 1 ≤ B) (h : 2 * (T % B) + z < B) (z01 : z = 0 ∨ z = 1) : (2 * T + z) % B = 2 * (T % B) + z ∧ (2 * T + z) / B = 2 * (T / B) := by
  have e := Int.mul_ediv_add_emod T B
  have m0 := Int.emod_nonneg T (show B ≠ 0 by omega)
  have := (Int.ediv_emod_unique (a := 2 * T + z) (b := B) (r := 2 * (T % B) + z) (q := 2 * (T / B)) (by omega)).2 ⟨by rw [Int.mul_left_comm]; omega, by omega, by omega⟩
  exact ⟨this.2, this.1⟩
theorem down_one (M : Int) (s : Nat) : M / 2 ^ s = 2 * (M / 2 ^ (s + 1)) + M / 2 ^ s % 2 := by
  have hp := pow_pos' s
  rw [Int.pow_succ, ← Int.ediv_ediv_of_nonneg (show (0 : Int) ≤ 2 ^ s by omega)]
  omega
theorem div_turn (M D : Int) (s : Nat) (hD : 1 ≤ D) : M / 2 ^ s / D = M / D / 2 ^ s := by
  have hp := pow_pos' s
  rw [Int.ediv_ediv_of_nonneg (by omega), Int.ediv_ediv_of_nonneg (by omega), Int.mul_comm]
theorem mod_div_32 (X : Int) (r : Nat) (hr : r < 32) : X % 4294967296 / 2 ^ r % 2 = X / 2 ^ r % 2 := by
  have hp := pow_pos' r
  have e := Int.mul_ediv_add_emod X 4294967296
  have e2 : (4294967296 : Int) = 2 ^ r * (2 * 2 ^ (31 - r)) := by
    rw [show (2 : Int) * 2 ^ (31 - r) = 2 ^ (31 - r + 1) by rw [Int.pow_succ, Int.mul_comm], ← Int.pow_add, show r + (31 - r + 1) = 32 by omega]; rfl
  have e3 : X / 2 ^ r = 2 * 2 ^ (31 - r) * (X / 4294967296) + X % 4294967296 / 2 ^ r := by
    have e4 : X = 2 ^ r * (2 * 2 ^ (31 - r) * (X / 4294967296)) + X % 4294967296 := by
      rw [← Int.mul_assoc, ← e2]; exact e.symm
    have h5 : X / 2 ^ r = (2 ^ r * (2 * 2 ^ (31 - r) * (X / 4294967296)) + X % 4294967296) / 2 ^ r := congrArg (fun t => t / (2 : Int) ^ r) e4
    rw [Int.add_comm, Int.add_mul_ediv_left _ _ (show (2 : Int) ^ r ≠ 0 by omega)] at h5
    omega
  rw [e3, Int.mul_assoc]
  omega
theorem dg_bit (M : Int) (i k : Nat) (hk : k < 32) : dg M i / 2 ^ k % 2 = M / 2 ^ (32 * i + k) % 2 := by
  have hp := pow_pos' (32 * i)
  unfold dg
  rw [mod_div_32 _ k hk, Int.ediv_ediv_of_nonneg (by omega), Int.pow_add]
def pq (Q : Int) (i k : Nat) : Int := Q / 2 ^ (32 * i + k) % 2 ^ (32 - k)
theorem pq_top (Q : Int) (i : Nat) : pq Q i 32 = 0 := by unfold pq; rw [Nat.sub_self, Int.pow_zero]; omega
theorem pq_end (Q : Int) (i : Nat) : pq Q i 0 = dg Q i := rfl
theorem pq_rng (Q : Int) (i k : Nat) : 0 ≤ pq Q i k ∧ pq Q i k ≤ 4294967295 := by
  unfold pq
  have hp := pow_pos' (32 - k)
  have h2 : (2 : Int) ^ (32 - k) ≤ 4294967296 := by
    have h3 : (2 : Nat) ^ (32 - k) ≤ 2 ^ 32 := Nat.pow_le_pow_right (by omega) (by omega)
    have h4 : (((2 : Nat) ^ (32 - k) : Nat) : Int) ≤ (((2 : Nat) ^ 32 : Nat) : Int) := by omega
    rw [Int.natCast_pow, Int.natCast_pow] at h4
    exact h4
  have h0 := Int.emod_nonneg (Q / 2 ^ (32 * i + k)) (show (2 : Int) ^ (32 - k) ≠ 0 by omega)
  have h1 := Int.emod_lt_of_pos (Q / 2 ^ (32 * i + k)) (show (0 : Int) < 2 ^ (32 - k) by omega)
  omega
theorem pq_step (Q : Int) (i k : Nat) (hk : k < 32) (z : Int) (hz : Q / 2 ^ (32 * i + k) = 2 * (Q / 2 ^ (32 * i + k + 1)) + z) (z01 : z = 0 ∨ z = 1) : pq Q i k = 2 * pq Q i (k + 1) + z := by
  unfold pq
  rw [hz, show 32 * i + (k + 1) = 32 * i + k + 1 by omega, show 32 - k = (32 - (k + 1)) + 1 by omega]
  generalize Q / 2 ^ (32 * i + k + 1) = X
  rw [Int.pow_succ]
  have hp := pow_pos' (32 - (k + 1))
  generalize (2 : Int) ^ (32 - (k + 1)) = P at *
  have e := Int.mul_ediv_add_emod X P
  have m0 := Int.emod_nonneg X (show P ≠ 0 by omega)
  have m1 := Int.emod_lt_of_pos X (show 0 < P by omega)
  exact ((Int.ediv_emod_unique (a := 2 * X + z) (b := P * 2) (r := 2 * (X % P) + z) (q := X / P) (by omega)).2 ⟨by rw [Int.mul_right_comm]; omega, by omega, by omega⟩).2
theorem quo_bit (M D : Int) (i k : Nat) (hD : 1 ≤ D) (hk : k < 32) :
    (D ≤ 2 * (M / 2 ^ (32 * i + k + 1) % D) + M / 2 ^ (32 * i + k) % 2 → M / 2 ^ (32 * i + k) % D = 2 * (M / 2 ^ (32 * i + k + 1) % D) + M / 2 ^ (32 * i + k) % 2 - D ∧ pq (M / D) i k = 2 * pq (M / D) i (k + 1) + 1) ∧
    (2 * (M / 2 ^ (32 * i + k + 1) % D) + M / 2 ^ (32 * i + k) % 2 < D → M / 2 ^ (32 * i + k) % D = 2 * (M / 2 ^ (32 * i + k + 1) % D) + M / 2 ^ (32 * i + k) % 2 ∧ pq (M / D) i k = 2 * pq (M / D) i (k + 1)) := by
  have e := down_one M (32 * i + k)
  have z01 : M / 2 ^ (32 * i + k) % 2 = 0 ∨ M / 2 ^ (32 * i + k) % 2 = 1 := by omega
  have t1 := div_turn M D (32 * i + k) hD
  have t2 := div_turn M D (32 * i + k + 1) hD
  constructor
  · intro h
    obtain ⟨u1, u2⟩ := qd_up _ D _ hD h z01
    rw [← e] at u1 u2
    refine ⟨u1, pq_step _ i k hk 1 ?_ (.inr rfl)⟩
    rw [← t1, ← t2, u2]
  · intro h
    obtain ⟨u1, u2⟩ := qd_down _ D _ hD h z01
    rw [← e] at u1 u2
    refine ⟨u1, ?_⟩
    have := pq_step (M / D) i k hk 0 (by rw [← t1, ← t2, u2]; omega) (.inl rfl)
    omega
end Go.Proofs.YtcaficenocblfaaGreatDoor
set_option linter.unusedVariables false
namespace Go.Proofs.YtcaficenocblfaaGreatDoor
open Go.ChangeShapes Go.WideShapes Go.ChangeAt Go.RowKit Go.Joins

theorem own : ownKnob Tryz.prog.godebug = none := by kernel_rfl
end Go.Proofs.YtcaficenocblfaaGreatDoor
set_option linter.unusedVariables false
namespace Go.Proofs.YtcaficenocblfaaGreatDoor
open Go.RowKit

theorem run_add64_at (x y c : Int) (hx : 0 ≤ x) (hy : 0 ≤ y) (hc0 : 0 ≤ c) (hc : c ≤ 1) (w : World) :
    (callFunc 93 #[.int .u64 x, .int .u64 y, .int .u64 c]).run Tryz.prog w =
      .ok (.value (.tuple #[.int .u64 ((x + y + c) % 18446744073709551616), .int .u64 ((x + y + c) / 18446744073709551616)])) w := by
  rw [run_callFunc_extern Tryz.func93 (by kernel_rfl) (by kernel_rfl) (by kernel_rfl) (e := add64Entry) (by kernel_rfl), run_add64 x y c hx hy hc0 hc]
  rfl
theorem run_add64_0 (x y : Int) (hx : 0 ≤ x) (hy : 0 ≤ y) (w : World) :
    (callFunc 93 #[.int .u64 x, .int .u64 y, .int .u64 0]).run Tryz.prog w =
      .ok (.value (.tuple #[.int .u64 ((x + y) % 18446744073709551616), .int .u64 ((x + y) / 18446744073709551616)])) w := by
  rw [run_add64_at x y 0 hx hy (by omega) (by omega)]; simp only [Int.add_zero]

def sub64Row : Array Value → Sem Value := fun args => do
  let (x, y, b) ← Extern.MathBitsCarry.three "Sub64" args
  pure (Extern.MathBitsCarry.pair ((x + Extern.MathBitsCarry.m64 - y - b) % Extern.MathBitsCarry.m64) (if x < y + b then 1 else 0))

theorem run_sub64_nat (x y b : Nat) (hb : b ≤ 1) (w : World) :
    (sub64Row #[.int .u64 x, .int .u64 y, .int .u64 b]).run Tryz.prog w =
      .ok (.tuple #[.int .u64 (((x + 18446744073709551616 - y - b) % 18446744073709551616 : Nat) : Int), .int .u64 ((if x < y + b then 1 else 0 : Nat) : Int)]) w := by
  have : b = 0 ∨ b = 1 := by omega
  rcases this with rfl | rfl <;> rfl

theorem run_sub64_at (x y b : Int) (hx : 0 ≤ x) (hy : 0 ≤ y) (hy1 : y ≤ 18446744073709551615) (hb0 : 0 ≤ b) (hb : b ≤ 1) (w : World) :
    (callFunc 128 #[.int .u64 x, .int .u64 y, .int .u64 b]).run Tryz.prog w =
      .ok (.value (.tuple #[.int .u64 ((x + 18446744073709551616 - y - b) % 18446744073709551616), .int .u64 (bor x (y + b))])) w := by
  rw [run_callFunc_extern Tryz.func128 (by kernel_rfl) (by kernel_rfl) (by kernel_rfl) (e := sub64Row) (by kernel_rfl)]
  obtain ⟨X, rfl⟩ := Int.eq_ofNat_of_zero_le hx
  obtain ⟨Y, rfl⟩ := Int.eq_ofNat_of_zero_le hy
  obtain ⟨c, rfl⟩ := Int.eq_ofNat_of_zero_le hb0
  have e1 : (((X + 18446744073709551616 - Y - c) % 18446744073709551616 : Nat) : Int) = ((X : Int) + 18446744073709551616 - (Y : Int) - (c : Int)) % 18446744073709551616 := by omega
  have e2 : ((if X < Y + c then 1 else 0 : Nat) : Int) = bor (X : Int) ((Y : Int) + (c : Int)) := by
    unfold bor
    by_cases h : X < Y + c
    · rw [if_pos h, if_pos (by omega)]; rfl
    · rw [if_neg h, if_neg (by omega)]; rfl
  have h := run_sub64_nat X Y c (by omega) w
  rw [e1, e2] at h
  rw [h]
  rfl
theorem run_sub64_0 (x y : Int) (hx : 0 ≤ x) (hy : 0 ≤ y) (hy1 : y ≤ 18446744073709551615) (w : World) :
    (callFunc 128 #[.int .u64 x, .int .u64 y, .int .u64 0]).run Tryz.prog w =
      .ok (.value (.tuple #[.int .u64 ((x + 18446744073709551616 - y) % 18446744073709551616), .int .u64 (bor x y)])) w := by
  rw [run_sub64_at x y 0 hx hy hy1 (by omega) (by omega)]; simp only [Int.add_zero, Int.sub_zero]

theorem bel1 (w : World) (o1 : Obj) : Below w.heap.size w (w.alloc o1) := (Below.refl _ _).alloc (Nat.le_refl _) _
theorem bel2 (w : World) (o1 o2 : Obj) : Below w.heap.size w ((w.alloc o1).alloc o2) := (bel1 w o1).alloc (by simp) _
theorem bel3 (w : World) (o1 o2 o3 : Obj) : Below w.heap.size w (((w.alloc o1).alloc o2).alloc o3) := (bel2 w o1 o2).alloc (by simp; omega) _
theorem bcell {W w1 : World} (hb : Below W.heap.size W w1) : (∀ b o, b < W.heap.size → w1.cell? ⟨b, o, none⟩ = W.cell? ⟨b, o, none⟩) ∧ (∀ b o, b < W.heap.size → w1.frozen? ⟨b, o, none⟩ = W.frozen? ⟨b, o, none⟩) :=
  ⟨fun b o h => hb.cell (p := ⟨b, o, none⟩) h, fun b o h => hb.frozen (p := ⟨b, o, none⟩) h⟩

theorem u64_wrap (n : Int) : IntKind.u64.wrap n = lo n := by rw [IntKind.wrap_u64]; rfl
theorem add_hi' (a0 a1 b0 b1 : Int) (ha0 : 0 ≤ a1) (ha1 : a1 ≤ 18446744073709551615) (hb0 : 0 ≤ b1) (hb1 : b1 ≤ 18446744073709551615) : wrap64 ((IntKind.u64.wrap a0 + IntKind.u64.wrap b0 + (a1 + b1) / 18446744073709551616) % 18446744073709551616) = hi (nm a0 a1 + nm b0 b1) := by
  rw [← add_hi a0 a1 b0 b1 ha0 ha1 hb0 hb1]; simp only [IntKind.wrap_u64, wrap64]
theorem sub_hi' (a0 a1 b0 b1 : Int) (ha0 : 0 ≤ a1) (ha1 : a1 ≤ 18446744073709551615) (hb0 : 0 ≤ b1) (hb1 : b1 ≤ 18446744073709551615) : wrap64 ((IntKind.u64.wrap a0 + 18446744073709551616 - IntKind.u64.wrap b0 - bor a1 b1) % 18446744073709551616) = hi (nm a0 a1 - nm b0 b1) := by
  rw [← sub_hi a0 a1 b0 b1 ha0 ha1 hb0 hb1]; simp only [IntKind.wrap_u64, wrap64]

set_option maxHeartbeats 400000 in
theorem of_any (n : Int) (h0 : -9223372036854775808 ≤ n) (h1 : n ≤ 9223372036854775807) (w : World) :
    Calls Tryz.prog 65 #[.int .i64 n] w fun e w' => e = .returned (.agg #[.int .i64 (hi n), .int .u64 (lo n)]) ∧ Below w.heap.size w w' := by
  have e1 := of_hi n h0 h1
  go_enter Tryz.func65, Tryz.ntmps65
  go_wp2
  exact bodyPost_ret (v := .agg #[.int .i64 (hi n), .int .u64 (lo n)]) (by simp [results, Tryz.results65, go_sem, u64_wrap]) rfl ⟨rfl, (Below.refl _ _).alloc (Nat.le_refl _) _⟩

set_option maxHeartbeats 400000 in
theorem add_raw (a0 a1 b0 b1 : Int) (ha0 : 0 ≤ a1) (ha1 : a1 ≤ 18446744073709551615) (hb0 : 0 ≤ b1) (hb1 : b1 ≤ 18446744073709551615) (w : World) :
    Calls Tryz.prog 64 #[.agg #[.int .i64 a0, .int .u64 a1], .agg #[.int .i64 b0, .int .u64 b1]] w fun e w' => e = .returned (.agg #[.int .i64 (hi (nm a0 a1 + nm b0 b1)), .int .u64 (lo (nm a0 a1 + nm b0 b1))]) ∧ Below w.heap.size w w' := by
  go_enter Tryz.func64, Tryz.ntmps64
  go_wp2_with (first | simp only [run_add64_0 a1 b1 ha0 hb0] | simp only [run_add64_at (IntKind.u64.wrap a0) (IntKind.u64.wrap b0) ((a1 + b1) / 18446744073709551616) (by simp only [IntKind.wrap_u64]; omega) (by simp only [IntKind.wrap_u64]; omega) (by omega) (by omega)])
  exact bodyPost_ret (v := .agg #[.int .i64 (hi (nm a0 a1 + nm b0 b1)), .int .u64 (lo (nm a0 a1 + nm b0 b1))]) (by simp [results, Tryz.results64, go_sem]; exact ⟨add_hi' a0 a1 b0 b1 ha0 ha1 hb0 hb1, add_lo a0 a1 b0 b1⟩) rfl ⟨rfl, bel3 _ _ _ _⟩

theorem add_any (a b : Int) (w : World) :
    Calls Tryz.prog 64 #[.agg #[.int .i64 (hi a), .int .u64 (lo a)], .agg #[.int .i64 (hi b), .int .u64 (lo b)]] w fun e w' => e = .returned (.agg #[.int .i64 (hi (a + b)), .int .u64 (lo (a + b))]) ∧ Below w.heap.size w w' := by
  have h := add_raw (hi a) (lo a) (hi b) (lo b) (lo_ge a) (lo_le a) (lo_ge b) (lo_le b) w
  rw [hi_congr _ _ (add_congr a b), lo_congr _ _ (add_congr a b)] at h
  exact h

set_option maxHeartbeats 400000 in
theorem sub_raw (a0 a1 b0 b1 : Int) (ha0 : 0 ≤ a1) (ha1 : a1 ≤ 18446744073709551615) (hb0 : 0 ≤ b1) (hb1 : b1 ≤ 18446744073709551615) (w : World) :
    Calls Tryz.prog 115 #[.agg #[.int .i64 a0, .int .u64 a1], .agg #[.int .i64 b0, .int .u64 b1]] w fun e w' => e = .returned (.agg #[.int .i64 (hi (nm a0 a1 - nm b0 b1)), .int .u64 (lo (nm a0 a1 - nm b0 b1))]) ∧ Below w.heap.size w w' := by
  have k := bor_01 a1 b1
  have k0 := k.1
  have k1 := k.2
  clear k
  go_enter Tryz.func115, Tryz.ntmps115
  go_wp2_with (first | simp only [run_sub64_0 a1 b1 ha0 hb0 hb1] | simp only [run_sub64_at (IntKind.u64.wrap a0) (IntKind.u64.wrap b0) (bor a1 b1) (by simp only [IntKind.wrap_u64]; omega) (by simp only [IntKind.wrap_u64]; omega) (by simp only [IntKind.wrap_u64]; omega) k0 k1])
  exact bodyPost_ret (v := .agg #[.int .i64 (hi (nm a0 a1 - nm b0 b1)), .int .u64 (lo (nm a0 a1 - nm b0 b1))]) (by simp [results, Tryz.results115, go_sem]; exact ⟨sub_hi' a0 a1 b0 b1 ha0 ha1 hb0 hb1, sub_lo a0 a1 b0 b1⟩) rfl ⟨rfl, bel3 _ _ _ _⟩

theorem sub_any (a b : Int) (w : World) :
    Calls Tryz.prog 115 #[.agg #[.int .i64 (hi a), .int .u64 (lo a)], .agg #[.int .i64 (hi b), .int .u64 (lo b)]] w fun e w' => e = .returned (.agg #[.int .i64 (hi (a - b)), .int .u64 (lo (a - b))]) ∧ Below w.heap.size w w' := by
  have h := sub_raw (hi a) (lo a) (hi b) (lo b) (lo_ge a) (lo_le a) (lo_ge b) (lo_le b) w
  rw [hi_congr _ _ (sub_congr a b), lo_congr _ _ (sub_congr a b)] at h
  exact h

theorem sub_zero_any (a : Int) (w : World) :
    Calls Tryz.prog 115 #[.agg #[.int .i64 0, .int .u64 0], .agg #[.int .i64 (hi a), .int .u64 (lo a)]] w fun e w' => e = .returned (.agg #[.int .i64 (hi (-a)), .int .u64 (lo (-a))]) ∧ Below w.heap.size w w' := by
  have h := sub_any 0 a w
  rw [show hi 0 = 0 from rfl, show lo 0 = 0 from rfl, Int.zero_sub] at h
  exact h

set_option maxHeartbeats 400000 in
theorem neg_any (a : Int) (w : World) :
    Calls Tryz.prog 98 #[.agg #[.int .i64 (hi a), .int .u64 (lo a)]] w fun e w' => e = .returned (.agg #[.int .i64 (hi (-a)), .int .u64 (lo (-a))]) ∧ Below w.heap.size w w' := by
  go_enter Tryz.func98, Tryz.ntmps98
  go_wp2_with fail
  refine (sub_zero_any a _).mono ?_
  rintro e w1 ⟨rfl, hb⟩
  obtain ⟨hc, hf⟩ := bcell hb
  have hz := hb.size
  simp at hc hf hz
  go_wp2_with fail
  exact bodyPost_ret (v := .agg #[.int .i64 (hi (-a)), .int .u64 (lo (-a))]) (by simp [results, Tryz.results98, go_sem, hc]) rfl ⟨rfl, ((((bel2 w _ _).trans (hb.mono (by simp; omega))).setCell (by simp) _).setCell (by simp) _)⟩

end Go.Proofs.YtcaficenocblfaaGreatDoor
set_option linter.unusedVariables false
namespace Go.Proofs.YtcaficenocblfaaGreatDoor
open Go.RowKit

set_option maxHeartbeats 400000 in
theorem cmpi_any (x y : Int) (w : World) :
    Calls Tryz.prog 141 #[.int .i64 x, .int .i64 y] w fun e w' => e = .returned (.int .i64 (c3 x y)) ∧ w' = w := by
  by_cases h1 : x < y
  · rw [c3_lt x y h1]
    go_enter Tryz.func141, Tryz.ntmps141
    go_wp2
    go_ret
    exact ⟨rfl, rfl⟩
  · by_cases h2 : y < x
    · rw [c3_gt x y h2]
      go_enter Tryz.func141, Tryz.ntmps141
      go_wp2
      go_ret
      exact ⟨rfl, rfl⟩
    · have e : x = y := by omega
      subst e
      rw [c3_self x]
      go_enter Tryz.func141, Tryz.ntmps141
      go_wp2
      go_ret
      exact ⟨rfl, rfl⟩

set_option maxHeartbeats 400000 in
theorem cmpu_any (x y : Int) (w : World) :
    Calls Tryz.prog 97 #[.int .u64 x, .int .u64 y] w fun e w' => e = .returned (.int .i64 (c3 x y)) ∧ w' = w := by
  by_cases h1 : x < y
  · rw [c3_lt x y h1]
    go_enter Tryz.func97, Tryz.ntmps97
    go_wp2
    go_ret
    exact ⟨rfl, rfl⟩
  · by_cases h2 : y < x
    · rw [c3_gt x y h2]
      go_enter Tryz.func97, Tryz.ntmps97
      go_wp2
      go_ret
      exact ⟨rfl, rfl⟩
    · have e : x = y := by omega
      subst e
      rw [c3_self x]
      go_enter Tryz.func97, Tryz.ntmps97
      go_wp2
      go_ret
      exact ⟨rfl, rfl⟩

set_option maxHeartbeats 400000 in
theorem or_any (p q : Int) (b : Nat) (w : World) (c0 : w.cell? ⟨b, 0, none⟩ = some (.int .i64 p)) (c1 : w.cell? ⟨b, 1, none⟩ = some (.int .i64 q)) :
    Calls Tryz.prog 140 #[.slice (some ⟨b, 0, none⟩) 2 2] w fun e w' => e = .returned (.int .i64 (or2 p q)) ∧ w' = w := by
  by_cases hp : p = 0
  · subst hp
    rw [or2_0]
    by_cases hq : q = 0
    · subst hq
      go_enter Tryz.func140, Tryz.ntmps140
      go_wp2
      refine wp_loop_rounds 3 ?_
      rw [rounds_succ]
      go_wp2
      rw [rounds_succ]
      go_wp2
      rw [rounds_succ]
      go_wp2
      go_ret
      exact ⟨rfl, rfl⟩
    · have hq' : (q != 0) = true := by rw [bne_iff_ne]; exact hq
      go_enter Tryz.func140, Tryz.ntmps140
      go_wp2
      refine wp_loop_rounds 2 ?_
      rw [rounds_succ]
      go_wp2
      rw [rounds_succ]
      go_wp2
      go_ret
      exact ⟨rfl, rfl⟩
  · have hp' : (p != 0) = true := by rw [bne_iff_ne]; exact hp
    rw [or2_ne p q hp]
    go_enter Tryz.func140, Tryz.ntmps140
    go_wp2
    refine wp_loop_rounds 1 ?_
    rw [rounds_succ]
    go_wp2
    go_ret
    exact ⟨rfl, rfl⟩

set_option maxHeartbeats 1000000 in
theorem cmp_raw (a0 a1 b0 b1 : Int) (w : World) :
    Calls Tryz.prog 138 #[.agg #[.int .i64 a0, .int .u64 a1], .agg #[.int .i64 b0, .int .u64 b1]] w fun e w' => e = .returned (.int .i64 (or2 (c3 a0 b0) (c3 a1 b1))) ∧ Below w.heap.size w w' := by
  go_enter Tryz.func138, Tryz.ntmps138
  go_wp2_with fail
  go_region_held3 (fun w' => w'.cell? ⟨w.heap.size, 0, none⟩ = some (.int .i64 a0) ∧ w'.cell? ⟨w.heap.size, 1, none⟩ = some (.int .u64 a1) ∧ w'.cell? ⟨w.heap.size + 1, 0, none⟩ = some (.int .i64 b0) ∧ w'.cell? ⟨w.heap.size + 1, 1, none⟩ = some (.int .u64 b1)) ((simp [go_sem, World.cell?_alloc_past])) (first | (go_at_call 141; refine (cmpi_any _ _ _).mono ?_; rintro e w' ⟨rfl, rfl⟩) | (go_at_call 97; refine (cmpu_any _ _ _).mono ?_; rintro e w' ⟨rfl, rfl⟩) | (go_at_call 140; refine (or_any (c3 a0 b0) (c3 a1 b1) _ _ ?_ ?_).mono ?_; (simp [go_sem]); (simp [go_sem]); rintro e w' ⟨rfl, rfl⟩))
  all_goals go_wp2
  all_goals go_ret
  all_goals exact ⟨rfl, (bel3 _ _ _ _).drew⟩

theorem cmp_any (a b : Int) (a0 : -170141183460469231731687303715884105728 ≤ a) (a1 : a ≤ 170141183460469231731687303715884105727) (b0 : -170141183460469231731687303715884105728 ≤ b) (b1 : b ≤ 170141183460469231731687303715884105727) (w : World) :
    Calls Tryz.prog 138 #[.agg #[.int .i64 (hi a), .int .u64 (lo a)], .agg #[.int .i64 (hi b), .int .u64 (lo b)]] w fun e w' => e = .returned (.int .i64 (c3 a b)) ∧ Below w.heap.size w w' := by
  have h := cmp_raw (hi a) (lo a) (hi b) (lo b) w
  rw [c3_val a b a0 a1 b0 b1] at h
  exact h

end Go.Proofs.YtcaficenocblfaaGreatDoor
set_option linter.unusedVariables false
namespace Go.Proofs.YtcaficenocblfaaGreatDoor
open Go.RowKit

theorem mk32 (a : Nat) (ha : a < 18446744073709551616) : bits .and .u64 (a : Int) 4294967295 = ((a % 4294967296 : Nat) : Int) := by
  have h := bits_and_u64_nat a 4294967295 ha (by omega)
  have e : a &&& 4294967295 = a % 4294967296 := Nat.and_two_pow_sub_one_eq_mod a 32
  rw [e] at h
  exact h
theorem dv32 (a : Nat) : (a : Int) / 4294967296 = ((a / 4294967296 : Nat) : Int) := by omega
theorem mlN (a b : Nat) : (a : Int) * (b : Int) = ((a * b : Nat) : Int) := (Int.natCast_mul a b).symm
theorem adN (a b : Nat) : (a : Int) + (b : Int) = ((a + b : Nat) : Int) := (Int.natCast_add a b).symm
theorem wrN (a : Nat) (ha : a < 18446744073709551616) : IntKind.u64.wrap (a : Int) = (a : Int) := by rw [IntKind.wrap_u64]; omega
theorem wrM (a : Nat) : IntKind.u64.wrap (a : Int) = ((a % 18446744073709551616 : Nat) : Int) := by rw [IntKind.wrap_u64]; omega

set_option maxHeartbeats 1000000 in
theorem mul64_nat (x y : Nat) (hx : x < 18446744073709551616) (hy : y < 18446744073709551616) (w : World) :
    Calls Tryz.prog 122 #[.int .u64 x, .int .u64 y] w fun e w' => e = .returned (.tuple #[.int .u64 ((x * y / 18446744073709551616 : Nat) : Int), .int .u64 ((x * y % 18446744073709551616 : Nat) : Int)]) ∧ w' = w := by
  obtain ⟨bd, bt, bw, hhi⟩ := Lib.mul64_hi x y hx hy
  have ba := Lib.half_mul_le (a := x / 4294967296) (b := y / 4294967296) (by omega) (by omega)
  have bb := Lib.half_mul_le (a := x / 4294967296) (b := y % 4294967296) (by omega) (by omega)
  have bc := Lib.half_mul_le (a := x % 4294967296) (b := y / 4294967296) (by omega) (by omega)
  have ba' : x / 4294967296 * (y / 4294967296) < 18446744073709551616 := by omega
  have bb' : x / 4294967296 * (y % 4294967296) < 18446744073709551616 := by omega
  have bc' : x % 4294967296 * (y / 4294967296) < 18446744073709551616 := by omega
  have bh1 : x / 4294967296 * (y / 4294967296) + (x / 4294967296 * (y % 4294967296) + x % 4294967296 * (y % 4294967296) / 4294967296) / 4294967296 < 18446744073709551616 := by omega
  have bh : x / 4294967296 * (y / 4294967296) + (x / 4294967296 * (y % 4294967296) + x % 4294967296 * (y % 4294967296) / 4294967296) / 4294967296 + ((x / 4294967296 * (y % 4294967296) + x % 4294967296 * (y % 4294967296) / 4294967296) % 4294967296 + x % 4294967296 * (y / 4294967296)) / 4294967296 < 18446744073709551616 := by omega
  go_enter Tryz.func122, Tryz.ntmps122
  go_wp2
  simp only [mk32 x hx, mk32 y hy, dv32, mlN, adN, wrN _ bd, wrN _ bb', wrN _ bt, mk32 _ bt, wrN _ bc', wrN _ bw, wrN _ ba', wrN _ bh1, wrN _ bh, wrM (x * y)]
  rw [hhi]
  go_ret2
  exact ⟨rfl, rfl⟩

theorem mul64_any (x y : Int) (x0 : 0 ≤ x) (x1 : x ≤ 18446744073709551615) (y0 : 0 ≤ y) (y1 : y ≤ 18446744073709551615) (w : World) :
    Calls Tryz.prog 122 #[.int .u64 x, .int .u64 y] w fun e w' => e = .returned (.tuple #[.int .u64 (x * y / 18446744073709551616), .int .u64 (x * y % 18446744073709551616)]) ∧ w' = w := by
  obtain ⟨X, rfl⟩ := Int.eq_ofNat_of_zero_le x0
  obtain ⟨Y, rfl⟩ := Int.eq_ofNat_of_zero_le y0
  have h := mul64_nat X Y (by omega) (by omega) w
  rw [show ((X * Y / 18446744073709551616 : Nat) : Int) = (X : Int) * (Y : Int) / 18446744073709551616 by rw [mlN]; omega, show ((X * Y % 18446744073709551616 : Nat) : Int) = (X : Int) * (Y : Int) % 18446744073709551616 by rw [mlN]; omega] at h
  exact h

theorem w64 (x : Int) : wrap64 x = sg x := by unfold wrap64 sg; rfl

set_option maxHeartbeats 1000000 in
theorem mul_any (a b : Int) (a0 : -9223372036854775808 ≤ a) (a1 : a ≤ 9223372036854775807) (b0 : -9223372036854775808 ≤ b) (b1 : b ≤ 9223372036854775807) (w : World) :
    Calls Tryz.prog 107 #[.int .i64 a, .int .i64 b] w fun e w' => e = .returned (.agg #[.int .i64 (hi (a * b)), .int .u64 (lo (a * b))]) ∧ Below w.heap.size w w' := by
  by_cases ha : a < 0
  · by_cases hb : b < 0
    · go_enter Tryz.func107, Tryz.ntmps107
      go_wp2_with (go_at_call 122; refine (mul64_any _ _ ?_ ?_ ?_ ?_ _).mono ?_; (first | omega | (rw [IntKind.wrap_u64]; omega)); (first | omega | (rw [IntKind.wrap_u64]; omega)); (first | omega | (rw [IntKind.wrap_u64]; omega)); (first | omega | (rw [IntKind.wrap_u64]; omega)); rintro e w' ⟨rfl, rfl⟩)
      exact bodyPost_ret (v := .agg #[.int .i64 (hi (a * b)), .int .u64 (lo (a * b))]) (by simp [results, Tryz.results107, go_sem]; simp only [IntKind.wrap_u64, w64, sg]; exact mul_nn a b ha hb a0 b0) rfl ⟨rfl, bel1 _ _⟩
    · go_enter Tryz.func107, Tryz.ntmps107
      go_wp2_with (go_at_call 122; refine (mul64_any _ _ ?_ ?_ ?_ ?_ _).mono ?_; (first | omega | (rw [IntKind.wrap_u64]; omega)); (first | omega | (rw [IntKind.wrap_u64]; omega)); (first | omega | (rw [IntKind.wrap_u64]; omega)); (first | omega | (rw [IntKind.wrap_u64]; omega)); rintro e w' ⟨rfl, rfl⟩)
      exact bodyPost_ret (v := .agg #[.int .i64 (hi (a * b)), .int .u64 (lo (a * b))]) (by simp [results, Tryz.results107, go_sem]; simp only [IntKind.wrap_u64, w64, sg]; exact mul_np a b ha (by omega) a0 b1) rfl ⟨rfl, bel1 _ _⟩
  · by_cases hb : b < 0
    · go_enter Tryz.func107, Tryz.ntmps107
      go_wp2_with (go_at_call 122; refine (mul64_any _ _ ?_ ?_ ?_ ?_ _).mono ?_; (first | omega | (rw [IntKind.wrap_u64]; omega)); (first | omega | (rw [IntKind.wrap_u64]; omega)); (first | omega | (rw [IntKind.wrap_u64]; omega)); (first | omega | (rw [IntKind.wrap_u64]; omega)); rintro e w' ⟨rfl, rfl⟩)
      exact bodyPost_ret (v := .agg #[.int .i64 (hi (a * b)), .int .u64 (lo (a * b))]) (by simp [results, Tryz.results107, go_sem]; simp only [IntKind.wrap_u64, w64, sg]; exact mul_pn a b (by omega) hb a1 b0) rfl ⟨rfl, bel1 _ _⟩
    · go_enter Tryz.func107, Tryz.ntmps107
      go_wp2_with (go_at_call 122; refine (mul64_any _ _ ?_ ?_ ?_ ?_ _).mono ?_; (first | omega | (rw [IntKind.wrap_u64]; omega)); (first | omega | (rw [IntKind.wrap_u64]; omega)); (first | omega | (rw [IntKind.wrap_u64]; omega)); (first | omega | (rw [IntKind.wrap_u64]; omega)); rintro e w' ⟨rfl, rfl⟩)
      exact bodyPost_ret (v := .agg #[.int .i64 (hi (a * b)), .int .u64 (lo (a * b))]) (by simp [results, Tryz.results107, go_sem]; simp only [w64, sg]; exact mul_pp a b) rfl ⟨rfl, bel1 _ _⟩

set_option maxHeartbeats 400000 in
theorem clamp_any (v : Int) (h0 : -170141183460469231731687303715884105728 ≤ v) (h1 : v ≤ 170141183460469231731687303715884105727) (w : World) :
    Calls Tryz.prog 99 #[.agg #[.int .i64 (hi v), .int .u64 (lo v)]] w fun e w' => e = .returned (.tuple #[.int .i64 (clv v), .bool (ovv v)]) ∧ Below w.heap.size w w' := by
  by_cases c1 : v < -9223372036854775808
  · obtain ⟨e1, e2⟩ := clv_lo v c1
    obtain ⟨f1, f2⟩ := fits_lo v c1 h0
    rw [e1, e2]
    have f1' : (hi v == wrap64 (lo v) / 9223372036854775808) = false := by rw [beq_eq_false_iff_ne, w64]; exact f1
    clear e1 e2 f1 c1
    go_enter Tryz.func99, Tryz.ntmps99
    go_wp2
    go_ret2
    exact ⟨rfl, bel1 _ _⟩
  · by_cases c2 : 9223372036854775807 < v
    · obtain ⟨e1, e2⟩ := clv_hi v c2
      obtain ⟨f1, f2⟩ := fits_hi v c2 h1
      rw [e1, e2]
      have f1' : (hi v == wrap64 (lo v) / 9223372036854775808) = false := by rw [beq_eq_false_iff_ne, w64]; exact f1
      clear e1 e2 f1 c1 c2
      go_enter Tryz.func99, Tryz.ntmps99
      go_wp2
      go_ret2
      exact ⟨rfl, bel1 _ _⟩
    · obtain ⟨e1, e2⟩ := clv_in v (by omega) (by omega)
      obtain ⟨f1, f2⟩ := fits_in v (by omega) (by omega)
      rw [e1, e2]
      have f1' : (hi v == wrap64 (lo v) / 9223372036854775808) = true := by rw [beq_iff_eq, w64]; exact f1
      have F2 : Hid (wrap64 (lo v) = v) := by show wrap64 (lo v) = v; rw [w64]; exact f2
      clear e1 e2 f1 f2 c1 c2
      go_enter Tryz.func99, Tryz.ntmps99
      go_wp2
      go_ret2
      exact ⟨by rw [F2.out]; rfl, bel1 _ _⟩

set_option maxHeartbeats 400000 in
theorem goesUp_any (s l : Int) (l0 : 0 ≤ l) (w : World) :
    Calls Tryz.prog 96 #[.int .i64 s, .int .u64 l] w fun e w' => e = .returned (.bool (gu s l)) ∧ w' = w := by
  by_cases c1 : 0 < s
  · have e1 : gu s l = true := by unfold gu; simp [c1]
    rw [e1]
    clear e1
    go_enter Tryz.func96, Tryz.ntmps96
    go_wp2
    go_ret
    exact ⟨rfl, rfl⟩
  · by_cases c2 : s = 0
    · subst c2
      have e1 : gu 0 l = decide (l % 2 = 1) := by unfold gu; simp
      rw [e1]
      clear e1
      by_cases c3 : l % 2 = 1
      · rw [decide_eq_true c3]
        have c3' : (l % 2 == 1) = true := beq_iff_eq.2 c3
        go_enter Tryz.func96, Tryz.ntmps96
        go_wp2
        go_ret
        exact ⟨rfl, rfl⟩
      · rw [decide_eq_false c3]
        have c3' : (l % 2 == 1) = false := beq_eq_false_iff_ne.2 c3
        go_enter Tryz.func96, Tryz.ntmps96
        go_wp2
        go_ret
        exact ⟨rfl, rfl⟩
    · have e1 : gu s l = false := by unfold gu; simp [c1, c2]
      rw [e1]
      clear e1
      have c2' : (s == 0) = false := beq_eq_false_iff_ne.2 c2
      go_enter Tryz.func96, Tryz.ntmps96
      go_wp2
      go_ret
      exact ⟨rfl, rfl⟩

set_option maxHeartbeats 400000 in
theorem size_any (v : Int) (h0 : -170141183460469231731687303715884105728 ≤ v) (h1 : v ≤ 170141183460469231731687303715884105727) (w : World) :
    Calls Tryz.prog 94 #[.agg #[.int .i64 (hi v), .int .u64 (lo v)]] w fun e w' => e = .returned (.agg #[.int .i64 (hi (ab v)), .int .u64 (lo (ab v))]) ∧ Below w.heap.size w w' := by
  by_cases c1 : v < 0
  · have f := hi_neg v h0 c1
    rw [ab_neg v c1]
    clear c1 h0 h1
    go_enter Tryz.func94, Tryz.ntmps94
    go_wp2_with fail
    refine (neg_any v _).mono ?_
    rintro e w1 ⟨rfl, hb⟩
    obtain ⟨hc, hf⟩ := bcell hb
    have hz := hb.size
    simp at hc hf hz
    go_wp2_with fail
    exact bodyPost_ret (v := .agg #[.int .i64 (hi (-v)), .int .u64 (lo (-v))]) (by simp [results, Tryz.results94, go_sem, hc]) rfl ⟨rfl, ((((bel2 w _ _).trans (hb.mono (by simp; omega))).setCell (by simp) _).setCell (by simp) _)⟩
  · have f := hi_pos v (by omega) h1
    rw [ab_pos v (by omega)]
    clear c1 h0 h1
    go_enter Tryz.func94, Tryz.ntmps94
    go_wp2
    exact bodyPost_ret (v := .agg #[.int .i64 (hi v), .int .u64 (lo v)]) (by simp [results, Tryz.results94, go_sem]) rfl ⟨rfl, bel2 _ _ _⟩

set_option maxHeartbeats 400000 in
theorem extend_any (v : Int) (h0 : -170141183460469231731687303715884105728 ≤ v) (h1 : v ≤ 170141183460469231731687303715884105727) (w : World) :
    Calls Tryz.prog 81 #[.agg #[.int .i64 (hi v), .int .u64 (lo v)]] w fun e w' => e = .returned (.agg #[.int .i64 (t3 v), .int .u64 (m3 v), .int .u64 (lo v)]) ∧ Below w.heap.size w w' := by
  obtain ⟨e1, e2⟩ := ext_words v h0 h1
  have e2' : IntKind.u64.wrap (hi v) = m3 v := by rw [IntKind.wrap_u64]; exact e2
  clear h0 h1 e2
  go_enter Tryz.func81, Tryz.ntmps81
  go_wp2
  exact bodyPost_ret (v := .agg #[.int .i64 (t3 v), .int .u64 (m3 v), .int .u64 (lo v)]) (by simp [results, Tryz.results81, go_sem]) rfl ⟨rfl, bel2 _ _ _⟩

end Go.Proofs.YtcaficenocblfaaGreatDoor
set_option linter.unusedVariables false
namespace Go.Proofs.YtcaficenocblfaaGreatDoor
open Go.RowKit

theorem or_i64 (X Y : Int) (n : Nat) (hn : n ≤ 63) (hX : X % 2 ^ n = 0) (h0 : 0 ≤ Y) (h1 : Y < 2 ^ n) : bits .or .i64 X Y = sg (X + Y) := by
  have hp : (2 : Int) ^ n ∣ ((2 ^ 64 : Nat) : Int) := by
    rw [show ((2 ^ 64 : Nat) : Int) = 2 ^ n * 2 ^ (64 - n) from (pow_split n (by omega)).symm]; exact Int.dvd_mul_right _ _
  have hA : (X % ((2 ^ 64 : Nat) : Int)).toNat % 2 ^ n = 0 := by
    have h2 : X % ((2 ^ 64 : Nat) : Int) % 2 ^ n = 0 := by rw [Int.emod_emod_of_dvd _ hp]; exact hX
    have h3 : 0 ≤ X % ((2 ^ 64 : Nat) : Int) := Int.emod_nonneg _ (by decide)
    have h4 : (((X % ((2 ^ 64 : Nat) : Int)).toNat % 2 ^ n : Nat) : Int) = 0 := by
      rw [Int.natCast_emod, Int.toNat_of_nonneg h3, Int.natCast_pow]; exact h2
    omega
  have hY' : Y.toNat < 2 ^ n := by
    have : (Y.toNat : Int) < ((2 ^ n : Nat) : Int) := by rw [Int.toNat_of_nonneg h0, Int.natCast_pow]; exact h1
    omega
  have hle : (2 : Nat) ^ n ≤ 2 ^ 63 := Nat.pow_le_pow_right (by omega) hn
  have key : (BitVec.ofInt 64 X ||| BitVec.ofInt 64 Y).toNat = (X % ((2 ^ 64 : Nat) : Int)).toNat + Y.toNat := by
    rw [BitVec.toNat_or, BitVec.toNat_ofInt, BitVec.toNat_ofInt]
    have e : (Y % ((2 ^ 64 : Nat) : Int)).toNat = Y.toNat := by omega
    rw [e]
    exact nat_or_add _ _ n hA hY'
  show IntKind.i64.wrap (((BitVec.ofInt 64 X ||| BitVec.ofInt 64 Y).toNat : Nat) : Int) = _
  rw [key, IntKind.wrap_i64]
  unfold sg
  omega

theorem or_u64 (X Y : Int) (n : Nat) (hn : n ≤ 64) (hX : X % 2 ^ n = 0) (x0 : 0 ≤ X) (x1 : X < 18446744073709551616) (h0 : 0 ≤ Y) (h1 : Y < 2 ^ n) (hs : X + Y < 18446744073709551616) : bits .or .u64 Y X = Y + X := by
  have hA : X.toNat % 2 ^ n = 0 := by
    have h4 : ((X.toNat % 2 ^ n : Nat) : Int) = 0 := by
      rw [Int.natCast_emod, Int.toNat_of_nonneg x0, Int.natCast_pow]; exact hX
    omega
  have hY' : Y.toNat < 2 ^ n := by
    have : (Y.toNat : Int) < ((2 ^ n : Nat) : Int) := by rw [Int.toNat_of_nonneg h0, Int.natCast_pow]; exact h1
    omega
  have hle : (2 : Nat) ^ n ≤ 2 ^ 64 := Nat.pow_le_pow_right (by omega) hn
  have key : (BitVec.ofInt 64 Y ||| BitVec.ofInt 64 X).toNat = X.toNat + Y.toNat := by
    rw [BitVec.toNat_or, BitVec.toNat_ofInt, BitVec.toNat_ofInt]
    have e : (Y % ((2 ^ 64 : Nat) : Int)).toNat = Y.toNat := by omega
    have e2 : (X % ((2 ^ 64 : Nat) : Int)).toNat = X.toNat := by omega
    rw [e, e2, Nat.or_comm]
    exact nat_or_add _ _ n hA hY'
  show IntKind.u64.wrap (((BitVec.ofInt 64 Y ||| BitVec.ofInt 64 X).toNat : Nat) : Int) = _
  rw [key, IntKind.wrap_u64]
  omega

theorem sg_mod (x p q : Int) (hB : p * q = 18446744073709551616) (hx : x % p = 0) : sg x % p = 0 := by
  obtain ⟨c, hc⟩ := Int.dvd_of_emod_eq_zero hx
  have e : sg x = x - 18446744073709551616 * ((x + 9223372036854775808) / 18446744073709551616) := by unfold sg; omega
  rw [e, ← hB, hc, Int.mul_assoc, ← Int.mul_sub]
  exact Int.mul_emod_right _ _
theorem sg_add (x y : Int) : sg (sg x + y) = sg (x + y) := by unfold sg; omega
theorem sg_id (x : Int) (h0 : -9223372036854775808 ≤ x) (h1 : x ≤ 9223372036854775807) : sg x = x := by unfold sg; omega

theorem pow_le_63 (k : Nat) (hk : k ≤ 63) : (2 : Int) ^ k ≤ 9223372036854775808 := by
  have h : (2 : Nat) ^ k ≤ 2 ^ 63 := Nat.pow_le_pow_right (by omega) hk
  have h2 : (((2 : Nat) ^ k : Nat) : Int) ≤ (((2 : Nat) ^ 63 : Nat) : Int) := by omega
  rw [Int.natCast_pow] at h2
  exact h2

theorem shl_hi (a0 a1 : Int) (k : Nat) (hk : k ≤ 63) (h0 : 0 ≤ a1) (h1 : a1 ≤ 18446744073709551615) : bits .or .i64 (wrap64 (a0 * 2 ^ k)) (wrap64 (a1 / 2 ^ (64 - k))) = hi (nm a0 a1 * 2 ^ k) := by
  have hB := pow_split k (by omega)
  have hp := pow_pos' k
  have hq := pow_pos' (64 - k)
  obtain ⟨d0, d1⟩ := div_lt a1 _ _ _ hB hp hq h0 (by omega)
  have hl := pow_le_63 k hk
  rw [w64, w64, sg_id (a1 / 2 ^ (64 - k)) (by omega) (by omega), or_i64 _ _ k hk (sg_mod _ _ _ hB (Int.mul_emod_left _ _)) d0 d1, sg_add]
  exact (shl_words a0 a1 _ _ hB hp hq h0 h1).1
theorem shl_lo (a0 a1 : Int) (k : Nat) (hk : k ≤ 63) (h0 : 0 ≤ a1) (h1 : a1 ≤ 18446744073709551615) : IntKind.u64.wrap (a1 * 2 ^ k) = lo (nm a0 a1 * 2 ^ k) := by
  rw [IntKind.wrap_u64]
  exact (shl_words a0 a1 _ _ (pow_split k (by omega)) (pow_pos' k) (pow_pos' (64 - k)) h0 h1).2
theorem shr_lo (a0 a1 : Int) (k : Nat) (hk0 : 1 ≤ k) (hk : k ≤ 63) (g0 : -9223372036854775808 ≤ a0) (g1 : a0 ≤ 9223372036854775807) (h0 : 0 ≤ a1) (h1 : a1 ≤ 18446744073709551615) : bits .or .u64 (a1 / 2 ^ k) (IntKind.u64.wrap (IntKind.u64.wrap a0 * 2 ^ (64 - k))) = lo (nm a0 a1 / 2 ^ k) := by
  have hB := pow_split k (by omega)
  have hp := pow_pos' k
  have hq := pow_pos' (64 - k)
  obtain ⟨e1, e2, d0, d1, e3, e4⟩ := shr_words a0 a1 _ _ hB hp hq g0 g1 h0 h1
  have e5 : IntKind.u64.wrap (IntKind.u64.wrap a0 * 2 ^ (64 - k)) = a0 * 2 ^ (64 - k) % 18446744073709551616 := by
    rw [IntKind.wrap_u64, IntKind.wrap_u64, Int.mul_emod, Int.emod_emod, ← Int.mul_emod]
  have m0 := (mod_mul_lt a0 (2 ^ (64 - k)) (2 ^ k) hq hp).2
  rw [hB] at m0
  rw [e5, or_u64 _ _ (64 - k) (by omega) (by rw [e3]; exact Int.mul_emod_left _ _) (by rw [e3]; exact e4) (by rw [e3]; omega) d0 d1 (by rw [e3]; omega)]
  exact e2
theorem shr_hi (a0 a1 : Int) (k : Nat) (hk : k ≤ 63) (g0 : -9223372036854775808 ≤ a0) (g1 : a0 ≤ 9223372036854775807) (h0 : 0 ≤ a1) (h1 : a1 ≤ 18446744073709551615) : a0 / 2 ^ k = hi (nm a0 a1 / 2 ^ k) :=
  (shr_words a0 a1 _ _ (pow_split k (by omega)) (pow_pos' k) (pow_pos' (64 - k)) g0 g1 h0 h1).1

theorem pow_big (n : Int) (h : 64 ≤ n) : (2 : Int) ^ n.toNat = 18446744073709551616 * 2 ^ (n - 64).toNat := by
  rw [show n.toNat = 64 + (n - 64).toNat by omega, Int.pow_add]; rfl
theorem shl_min (a : Int) (n : Nat) : a * 2 ^ min n 64 % 18446744073709551616 = a * 2 ^ n % 18446744073709551616 := by
  by_cases h : n ≤ 64
  · rw [Nat.min_eq_left h]
  · rw [Nat.min_eq_right (by omega), show n = 64 + (n - 64) by omega, Int.pow_add, ← Int.mul_assoc, show (2 : Int) ^ 64 = 18446744073709551616 from rfl]
    rw [Int.mul_right_comm a]
    rw [Int.mul_emod_left, Int.mul_emod_left]
theorem shl_big_hi (a0 a1 : Int) (n : Int) (h : 64 ≤ n) : wrap64 (IntKind.u64.wrap (a1 * 2 ^ min (n - 64).toNat 64)) = hi (nm a0 a1 * 2 ^ n.toNat) := by
  rw [w64, IntKind.wrap_u64, shl_min, pow_big n h]
  exact (shl_words_big a0 a1 _).1
theorem shl_big_lo (a0 a1 : Int) (n : Int) (h : 64 ≤ n) : lo (nm a0 a1 * 2 ^ n.toNat) = 0 := by
  rw [pow_big n h]
  exact (shl_words_big a0 a1 _).2.symm
theorem one_le_pow (n : Nat) : (1 : Int) ≤ 2 ^ n := pow_pos' n
theorem shr_min (a : Int) (n : Nat) (g0 : -9223372036854775808 ≤ a) (g1 : a ≤ 9223372036854775807) : a / 2 ^ min n 64 = a / 2 ^ n := by
  by_cases h : n ≤ 64
  · rw [Nat.min_eq_left h]
  · rw [Nat.min_eq_right (by omega), show n = 64 + (n - 64) by omega, Int.pow_add, ← Int.ediv_ediv_of_nonneg (by decide), show (2 : Int) ^ 64 = 18446744073709551616 from rfl]
    have hp := one_le_pow (n - 64)
    have h2 : a / 18446744073709551616 = 0 ∨ a / 18446744073709551616 = -1 := by omega
    rcases h2 with h2 | h2
    · rw [h2, Int.zero_ediv]
    · rw [h2]
      have : (-1 : Int) / 2 ^ (n - 64) = -1 := Int.ediv_eq_neg_one_of_neg_of_le (by omega) (by omega)
      rw [this]
theorem shr_rng (a p : Int) (hp : 1 ≤ p) (g0 : -9223372036854775808 ≤ a) (g1 : a ≤ 9223372036854775807) : -9223372036854775808 ≤ a / p ∧ a / p ≤ 9223372036854775807 := by
  constructor
  · rw [Int.le_ediv_iff_mul_le (by omega)]
    have := Int.mul_le_mul_of_nonpos_left (a := -9223372036854775808) (by omega) hp
    omega
  · have h3 := Int.ediv_le_ediv (show 0 < p by omega) g1
    have h2 : 9223372036854775807 / p ≤ 9223372036854775807 := Int.ediv_le_self _ (by omega)
    omega

set_option maxHeartbeats 400000 in
theorem shl_mid (a0 a1 : Int) (k : Nat) (n0 : 1 ≤ k) (n1 : k ≤ 63) (h0 : 0 ≤ a1) (h1 : a1 ≤ 18446744073709551615) (w : World) :
    Calls Tryz.prog 82 #[.agg #[.int .i64 a0, .int .u64 a1], .int .i64 k] w fun e w' => e = .returned (.agg #[.int .i64 (hi (nm a0 a1 * 2 ^ k)), .int .u64 (lo (nm a0 a1 * 2 ^ k))]) ∧ Below w.heap.size w w' := by
  have hm : max (k : Int) 0 = k := by omega
  have hk : min k 64 = k := by omega
  have hk2 : min (64 - (k : Int)).toNat 64 = 64 - k := by omega
  go_enter Tryz.func82, Tryz.ntmps82
  go_wp2
  go_region
  go_wp2
  exact bodyPost_ret (v := .agg #[.int .i64 (hi (nm a0 a1 * 2 ^ k)), .int .u64 (lo (nm a0 a1 * 2 ^ k))]) (by simp [results, Tryz.results82, go_sem]; exact ⟨shl_hi a0 a1 k n1 h0 h1, shl_lo a0 a1 k n1 h0 h1⟩) rfl ⟨rfl, (bel2 _ _ _).drew⟩
set_option maxHeartbeats 400000 in
theorem shl_big (a0 a1 n : Int) (n0 : 64 ≤ n) (n1 : n ≤ 9223372036854775807) (w : World) :
    Calls Tryz.prog 82 #[.agg #[.int .i64 a0, .int .u64 a1], .int .i64 n] w fun e w' => e = .returned (.agg #[.int .i64 (hi (nm a0 a1 * 2 ^ n.toNat)), .int .u64 (lo (nm a0 a1 * 2 ^ n.toNat))]) ∧ Below w.heap.size w w' := by
  have hm : max n 0 = n := by omega
  go_enter Tryz.func82, Tryz.ntmps82
  go_wp2
  exact bodyPost_ret (v := .agg #[.int .i64 (hi (nm a0 a1 * 2 ^ n.toNat)), .int .u64 (lo (nm a0 a1 * 2 ^ n.toNat))]) (by rw [shl_big_lo a0 a1 n n0]; simp [results, Tryz.results82, go_sem]; exact shl_big_hi a0 a1 n n0) rfl ⟨rfl, bel2 _ _ _⟩
set_option maxHeartbeats 400000 in
theorem shl_none (a0 a1 n : Int) (n1 : n ≤ 0) (g0 : -9223372036854775808 ≤ a0) (g1 : a0 ≤ 9223372036854775807) (h0 : 0 ≤ a1) (h1 : a1 ≤ 18446744073709551615) (w : World) :
    Calls Tryz.prog 82 #[.agg #[.int .i64 a0, .int .u64 a1], .int .i64 n] w fun e w' => e = .returned (.agg #[.int .i64 a0, .int .u64 a1]) ∧ Below w.heap.size w w' := by
  have hm : max n 0 = 0 := by omega
  have ho : bits .or .i64 a0 (a1 / 18446744073709551616) = a0 := by rw [show a1 / 18446744073709551616 = 0 by omega, or_i64 a0 0 0 (by omega) (by omega) (by omega) (by omega), Int.add_zero, sg_id a0 g0 g1]
  go_enter Tryz.func82, Tryz.ntmps82
  go_wp2
  go_region
  go_wp2
  exact bodyPost_ret (v := .agg #[.int .i64 a0, .int .u64 a1]) (by simp [results, Tryz.results82, go_sem]) rfl ⟨rfl, (bel2 _ _ _).drew⟩

theorem mul_congr (x y p : Int) (h : (x - y) % 340282366920938463463374607431768211456 = 0) : (x * p - y * p) % 340282366920938463463374607431768211456 = 0 := by
  rw [← Int.sub_mul, Int.mul_emod, h, Int.zero_mul]; rfl

theorem shl_any (v n : Int) (n1 : n ≤ 9223372036854775807) (w : World) :
    Calls Tryz.prog 82 #[.agg #[.int .i64 (hi v), .int .u64 (lo v)], .int .i64 n] w fun e w' => e = .returned (.agg #[.int .i64 (hi (v * 2 ^ n.toNat)), .int .u64 (lo (v * 2 ^ n.toNat))]) ∧ Below w.heap.size w w' := by
  have hc := fun p => mul_congr _ _ p (nm_mod v)
  by_cases c1 : n ≤ 0
  · have h := shl_none (hi v) (lo v) n c1 (hi_ge v) (hi_le v) (lo_ge v) (lo_le v) w
    rw [show n.toNat = 0 by omega, Int.pow_zero, Int.mul_one]
    exact h
  · by_cases c2 : n ≤ 63
    · obtain ⟨k, rfl⟩ := Int.eq_ofNat_of_zero_le (show 0 ≤ n by omega)
      have h := shl_mid (hi v) (lo v) k (by omega) (by omega) (lo_ge v) (lo_le v) w
      rw [hi_congr _ _ (hc _), lo_congr _ _ (hc _)] at h
      rw [Int.toNat_natCast]
      exact h
    · have h := shl_big (hi v) (lo v) n (by omega) n1 w
      rw [hi_congr _ _ (hc _), lo_congr _ _ (hc _)] at h
      exact h

set_option maxHeartbeats 400000 in
theorem shr_mid (a0 a1 : Int) (k : Nat) (n0 : 1 ≤ k) (n1 : k ≤ 63) (g0 : -9223372036854775808 ≤ a0) (g1 : a0 ≤ 9223372036854775807) (h0 : 0 ≤ a1) (h1 : a1 ≤ 18446744073709551615) (w : World) :
    Calls Tryz.prog 137 #[.agg #[.int .i64 a0, .int .u64 a1], .int .i64 k] w fun e w' => e = .returned (.agg #[.int .i64 (hi (nm a0 a1 / 2 ^ k)), .int .u64 (lo (nm a0 a1 / 2 ^ k))]) ∧ Below w.heap.size w w' := by
  have hm : max (k : Int) 0 = k := by omega
  have hk : min k 64 = k := by omega
  have hk2 : min (64 - (k : Int)).toNat 64 = 64 - k := by omega
  go_enter Tryz.func137, Tryz.ntmps137
  go_wp2
  go_region
  go_wp2
  exact bodyPost_ret (v := .agg #[.int .i64 (hi (nm a0 a1 / 2 ^ k)), .int .u64 (lo (nm a0 a1 / 2 ^ k))]) (by simp [results, Tryz.results137, go_sem]; exact ⟨shr_hi a0 a1 k n1 g0 g1 h0 h1, shr_lo a0 a1 k n0 n1 g0 g1 h0 h1⟩) rfl ⟨rfl, (bel2 _ _ _).drew⟩
set_option maxHeartbeats 400000 in
theorem shr_none (a0 a1 n : Int) (n1 : n ≤ 0) (g0 : -9223372036854775808 ≤ a0) (g1 : a0 ≤ 9223372036854775807) (h0 : 0 ≤ a1) (h1 : a1 ≤ 18446744073709551615) (w : World) :
    Calls Tryz.prog 137 #[.agg #[.int .i64 a0, .int .u64 a1], .int .i64 n] w fun e w' => e = .returned (.agg #[.int .i64 a0, .int .u64 a1]) ∧ Below w.heap.size w w' := by
  have hm : max n 0 = 0 := by omega
  have ho : bits .or .u64 a1 (IntKind.u64.wrap (IntKind.u64.wrap a0 * 18446744073709551616)) = a1 := by
    rw [IntKind.wrap_u64 (_ * _), Int.mul_emod_left, or_u64 0 a1 64 (by omega) (by omega) (by omega) (by omega) h0 (by show a1 < 18446744073709551616; omega) (by omega), Int.add_zero]
  go_enter Tryz.func137, Tryz.ntmps137
  go_wp2
  go_region
  go_wp2
  exact bodyPost_ret (v := .agg #[.int .i64 a0, .int .u64 a1]) (by simp [results, Tryz.results137, go_sem]) rfl ⟨rfl, (bel2 _ _ _).drew⟩
set_option maxHeartbeats 400000 in
theorem shr_big (a0 a1 n : Int) (n0 : 64 ≤ n) (n1 : n ≤ 9223372036854775807) (g0 : -9223372036854775808 ≤ a0) (g1 : a0 ≤ 9223372036854775807) (h0 : 0 ≤ a1) (h1 : a1 ≤ 18446744073709551615) (w : World) :
    Calls Tryz.prog 137 #[.agg #[.int .i64 a0, .int .u64 a1], .int .i64 n] w fun e w' => e = .returned (.agg #[.int .i64 (hi (nm a0 a1 / 2 ^ n.toNat)), .int .u64 (lo (nm a0 a1 / 2 ^ n.toNat))]) ∧ Below w.heap.size w w' := by
  have hm : max n 0 = n := by omega
  have hv : Hid (a0 / 2 ^ min (n - 64).toNat 64 = nm a0 a1 / 2 ^ n.toNat) := by
    show a0 / 2 ^ min (n - 64).toNat 64 = nm a0 a1 / 2 ^ n.toNat
    rw [shr_min a0 _ g0 g1, pow_big n n0, shr_words_big a0 a1 _ (one_le_pow _) h0 h1]
  obtain ⟨r0, r1⟩ := shr_rng a0 (2 ^ min (n - 64).toNat 64) (one_le_pow _) g0 g1
  go_enter Tryz.func137, Tryz.ntmps137
  go_wp2_with fail
  refine (of_any _ r0 r1 _).mono ?_
  rw [hv.out]
  rintro e w1 ⟨rfl, hb⟩
  obtain ⟨hc, hf⟩ := bcell hb
  have hz := hb.size
  simp at hc hf hz
  clear hv r0 r1
  go_wp2_with fail
  exact bodyPost_ret (v := .agg #[.int .i64 (hi (nm a0 a1 / 2 ^ n.toNat)), .int .u64 (lo (nm a0 a1 / 2 ^ n.toNat))]) (by simp [results, Tryz.results137, go_sem, hc]) rfl ⟨rfl, ((((bel2 w _ _).trans (hb.mono (by simp; omega))).setCell (by simp) _).setCell (by simp) _)⟩

theorem shr_any (v n : Int) (n1 : n ≤ 9223372036854775807) (v0 : -170141183460469231731687303715884105728 ≤ v) (v1 : v ≤ 170141183460469231731687303715884105727) (w : World) :
    Calls Tryz.prog 137 #[.agg #[.int .i64 (hi v), .int .u64 (lo v)], .int .i64 n] w fun e w' => e = .returned (.agg #[.int .i64 (hi (v / 2 ^ n.toNat)), .int .u64 (lo (v / 2 ^ n.toNat))]) ∧ Below w.heap.size w w' := by
  have hv := nm_val v v0 v1
  by_cases c1 : n ≤ 0
  · have h := shr_none (hi v) (lo v) n c1 (hi_ge v) (hi_le v) (lo_ge v) (lo_le v) w
    rw [show n.toNat = 0 by omega, Int.pow_zero, Int.ediv_one]
    exact h
  · by_cases c2 : n ≤ 63
    · obtain ⟨k, rfl⟩ := Int.eq_ofNat_of_zero_le (show 0 ≤ n by omega)
      have h := shr_mid (hi v) (lo v) k (by omega) (by omega) (hi_ge v) (hi_le v) (lo_ge v) (lo_le v) w
      rw [hv] at h
      rw [Int.toNat_natCast]
      exact h
    · have h := shr_big (hi v) (lo v) n (by omega) n1 (hi_ge v) (hi_le v) (lo_ge v) (lo_le v) w
      rw [hv] at h
      exact h

end Go.Proofs.YtcaficenocblfaaGreatDoor
