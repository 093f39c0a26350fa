/-
  Plain arithmetic of floats: what fix.Float and fix.FromFloat come to.
-/
import Derived.Test.YtpmlpcejmndidabDoorSMath2
import Derived.Laws.FloatArith
set_option linter.unusedVariables false
set_option linter.unusedSimpArgs false
namespace Go.Proofs.YtpmlpcejmndidabDoor
open Ieee

/-- The 53 bits that a float keeps of m (2^53 where it was rounded up to the next power). -/
def kp (m : Nat) : Nat := if m.log2 ≤ 52 then m * 2 ^ (52 - m.log2) else (rr (m : Int) (m.log2 - 52)).toNat
/-- The bits of a number of steps as a float. -/
def fb (a : Int) : Nat := if a = 0 then 0 else double.word (decide (a < 0)) ((a.natAbs.log2 + 990) * 4503599627370496 + kp a.natAbs)

theorem binade_d : double.binade = 4503599627370496 := by decide
theorem inf_d : double.infRung = 9218868437227405312 := by decide
theorem sw_d : double.signWeight = 9223372036854775808 := by decide
theorem lp_d : double.leastPlace = -1074 := by decide
theorem fr_d : double.fractionBits = 52 := rfl
theorem word_d (s : Bool) (r : Nat) : double.word s r = if s = true then 9223372036854775808 + r else r := by unfold Format.word; rw [sw_d]

theorem log2_rng (m : Nat) (h : m ≠ 0) : 2 ^ m.log2 ≤ m ∧ m < 2 ^ (m.log2 + 1) := ⟨Nat.log2_self_le h, Nat.lt_log2_self⟩
theorem log2_is (m k : Nat) (h0 : 2 ^ k ≤ m) (h1 : m < 2 ^ (k + 1)) : m.log2 = k := by
  have hm : m ≠ 0 := by have := Nat.two_pow_pos k; omega
  exact (Nat.log2_eq_iff hm).2 ⟨h0, h1⟩
theorem log2_le63 (m : Nat) (h : m ≠ 0) (h1 : m ≤ 9223372036854775808) : m.log2 ≤ 63 := by
  have : m.log2 < 64 := (Nat.log2_lt h).2 (by omega)
  omega

theorem even_cut0 (s : Bool) (n : Nat) : Toward.even.cut s n 0 = n := by
  unfold Toward.cut
  simp [Nat.mod_one]
theorem even_cut (s : Bool) (n k : Nat) (hk : k ≤ n.log2 + 2) : (Toward.even.cut s n k : Int) = rr (n : Int) k := by
  by_cases h0 : k = 0
  · subst h0; rw [even_cut0]; unfold rr; rw [if_pos rfl]
  · unfold Toward.cut rr
    rw [if_neg h0, Nat.min_eq_left hk, Nat.one_shiftLeft]
    unfold rnd
    have e1 : ((n : Int) / 2 ^ k) = ((n / 2 ^ k : Nat) : Int) := by push_cast; rfl
    have e2 : ((n : Int) % 2 ^ k) = ((n % 2 ^ k : Nat) : Int) := by push_cast; rfl
    have e3 : (2 : Int) ^ (k - 1) = ((2 ^ (k - 1) : Nat) : Int) := by push_cast; rfl
    have hp : 2 ^ k = 2 ^ (k - 1) + 2 ^ (k - 1) := by
      have : 2 ^ (k - 1 + 1) = 2 ^ (k - 1) * 2 := Nat.pow_succ ..
      rw [show k - 1 + 1 = k by omega] at this
      omega
    rw [e1, e2, e3]
    dsimp only
    generalize n / 2 ^ k = q
    generalize n % 2 ^ k = r
    rw [hp]
    generalize 2 ^ (k - 1) = H
    have g1 : ∀ l, ¬ gu (-1) l = true := by intro l; unfold gu; simp
    have g2 : ∀ l, gu 1 l = true := by intro l; unfold gu; simp
    have g3 : ∀ l, (gu 0 (lo l) = true) ↔ l % 2 = 1 := by intro l; unfold gu; rw [lo_par]; simp
    by_cases c1 : H < r
    · rw [c3_gt _ _ (by omega), if_pos (g2 _)]
      rw [show (decide (H + H < 2 * r) || (H + H == 2 * r && q % 2 == 1)) = true by simp; omega]
      simp
    · by_cases c2 : H = r
      · subst c2
        rw [c3_self]
        by_cases c3 : q % 2 = 1
        · rw [show (decide (H + H < 2 * H) || (H + H == 2 * H && q % 2 == 1)) = true by simp; omega, if_pos ((g3 _).2 (by omega))]
          simp
        · rw [show (decide (H + H < 2 * H) || (H + H == 2 * H && q % 2 == 1)) = false by simp; omega, if_neg (fun h => c3 (by have := (g3 _).1 h; omega))]
          simp
      · rw [c3_lt _ _ (by omega), show (decide (H + H < 2 * r) || (H + H == 2 * r && q % 2 == 1)) = false by simp; omega, if_neg (g1 _)]
        simp

theorem kp_rng (m : Nat) (h : m ≠ 0) (h1 : m ≤ 9223372036854775808) : 4503599627370496 ≤ kp m ∧ kp m ≤ 9007199254740992 ∧ (m.log2 ≤ 52 → kp m < 9007199254740992) := by
  obtain ⟨l0, l1⟩ := log2_rng m h
  unfold kp
  split
  · rename_i hl
    have hp := Nat.two_pow_pos (52 - m.log2)
    have a0 := Nat.mul_le_mul_right (2 ^ (52 - m.log2)) l0
    have a1 := Nat.mul_lt_mul_of_pos_right l1 hp
    rw [← Nat.pow_add, show m.log2 + (52 - m.log2) = 52 by omega] at a0
    rw [← Nat.pow_add, show m.log2 + 1 + (52 - m.log2) = 53 by omega] at a1
    omega
  · rename_i hl
    have hp := Nat.two_pow_pos (m.log2 - 52)
    have d0 : 4503599627370496 ≤ m / 2 ^ (m.log2 - 52) := (Nat.le_div_iff_mul_le hp).2 (by rw [show 4503599627370496 = 2 ^ 52 by decide, ← Nat.pow_add, show 52 + (m.log2 - 52) = m.log2 by omega]; exact l0)
    have d1 : m / 2 ^ (m.log2 - 52) < 9007199254740992 := (Nat.div_lt_iff_lt_mul hp).2 (by rw [show 9007199254740992 = 2 ^ 53 by decide, ← Nat.pow_add, show 53 + (m.log2 - 52) = m.log2 + 1 by omega]; exact l1)
    have e1 : ((m : Int) / 2 ^ (m.log2 - 52)) = ((m / 2 ^ (m.log2 - 52) : Nat) : Int) := by push_cast; rfl
    have hr : rr (m : Int) (m.log2 - 52) = (m / 2 ^ (m.log2 - 52) : Nat) ∨ rr (m : Int) (m.log2 - 52) = ((m / 2 ^ (m.log2 - 52) : Nat) : Int) + 1 := by
      rw [up_iff _ _ (by omega), e1]
      split
      · exact Or.inr rfl
      · exact Or.inl rfl
    omega

theorem near_int (s : Bool) (m : Nat) (h : m ≠ 0) (h1 : m ≤ 9223372036854775808) : double.nearest s m 0 = double.word s ((m.log2 + 1022) * 4503599627370496 + kp m) := by
  have hl := log2_le63 m h h1
  obtain ⟨k0, k1, _⟩ := kp_rng m h h1
  unfold Format.nearest
  rw [if_neg h, lp_d, binade_d, inf_d, fr_d]
  have e1 : max (0 + (m.log2 : Int) - (52 : Nat)) (-1074) = (m.log2 : Int) - 52 := by omega
  dsimp only
  rw [e1]
  have e2 : ((m.log2 : Int) - 52 - -1074).toNat = m.log2 + 1022 := by omega
  rw [e2]
  have e3 : Toward.even.cut s (m <<< (0 - ((m.log2 : Int) - 52)).toNat) ((m.log2 : Int) - 52 - 0).toNat = kp m := by
    unfold kp
    by_cases hc : m.log2 ≤ 52
    · rw [if_pos hc, show (0 - ((m.log2 : Int) - 52)).toNat = 52 - m.log2 by omega, show ((m.log2 : Int) - 52 - 0).toNat = 0 by omega, even_cut0, Nat.shiftLeft_eq]
    · rw [if_neg hc, show (0 - ((m.log2 : Int) - 52)).toNat = 0 by omega, show ((m.log2 : Int) - 52 - 0).toNat = m.log2 - 52 by omega, Nat.shiftLeft_zero, ← even_cut s m (m.log2 - 52) (by omega)]
      omega
  rw [e3, Nat.min_eq_left]
  omega

theorem read_norm (s : Bool) (e M : Nat) (he : e ≤ 2045) (m0 : 4503599627370496 ≤ M) (m1 : M < 9007199254740992) : double.read (double.word s (e * 4503599627370496 + M)) = .number s M (-1074 + (e : Int)) := by
  have hs : ((double.word s (e * 4503599627370496 + M)) / 9223372036854775808 % 2 == 1) = s ∧ (double.word s (e * 4503599627370496 + M)) % 9223372036854775808 = e * 4503599627370496 + M := by
    rw [word_d]
    have hlt : e * 4503599627370496 + M < 9223372036854775808 := by omega
    generalize e * 4503599627370496 + M = r at *
    cases s
    · simp; omega
    · simp; omega
  unfold Format.read
  rw [sw_d, binade_d, inf_d, lp_d]
  dsimp only
  rw [hs.2]
  have hs1 := hs.1
  rw [if_neg (by omega), if_pos (by omega)]
  have e1 : 4503599627370496 + (e * 4503599627370496 + M) % 4503599627370496 = M := by omega
  have e2 : (e * 4503599627370496 + M) / 4503599627370496 - 1 = e := by omega
  rw [e1, e2]
  exact congrArg (fun b => Datum.number b M (-1074 + (e : Int))) (by simpa using hs1)

theorem div_norm (s : Bool) (e M : Nat) (e0 : 32 ≤ e) (he : e ≤ 2000) (m0 : 4503599627370496 ≤ M) (m1 : M < 9007199254740992) : double.div (double.word s (e * 4503599627370496 + M)) 4751297606875873280 = some (double.word s ((e - 32) * 4503599627370496 + M)) := by
  have hy : double.read 4751297606875873280 = .number false 4503599627370496 (-20) := by decide
  have lm : M.log2 = 52 := log2_is M 52 (by omega) (by omega)
  have l8 : (8 * M).log2 = 55 := log2_is (8 * M) 55 (by omega) (by omega)
  unfold Format.div
  rw [hy, read_norm s e M (by omega) m0 m1]
  have hq : Datum.quotient (double.fractionBits + 2) (.number s M (-1074 + (e : Int))) (.number false 4503599627370496 (-20)) = some (.number s (8 * M) (-1109 + (e : Int))) := by
    show (if 4503599627370496 = 0 then if M = 0 then none else some (Datum.infinity (s ^^ false)) else some (Datum.number (s ^^ false) (2 * (M <<< (52 + 2 + (4503599627370496 : Nat).log2 - M.log2) / 4503599627370496) + (M <<< (52 + 2 + (4503599627370496 : Nat).log2 - M.log2) % 4503599627370496 != 0).toNat) (-1074 + (e : Int) - -20 - ((52 + 2 + (4503599627370496 : Nat).log2 - M.log2 : Nat) : Int) - 1))) = _
    rw [if_neg (by decide), lm, show (4503599627370496 : Nat).log2 = 52 by decide]
    have e1 : M <<< (52 + 2 + 52 - 52) = 4503599627370496 * (M * 4) := by rw [Nat.shiftLeft_eq]; omega
    rw [e1, Nat.mul_div_cancel_left _ (by decide), Nat.mul_mod_right]
    have e2 : (-1074 + (e : Int) - -20 - ((52 + 2 + 52 - 52 : Nat) : Int) - 1) = -1109 + (e : Int) := by omega
    rw [e2]
    have e3 : 2 * (M * 4) + (0 != 0).toNat = 8 * M := by simp; omega
    rw [e3]
    simp
  rw [hq, Option.map_some]
  congr 1
  show double.nearest s (8 * M) (-1109 + (e : Int)) = _
  unfold Format.nearest
  rw [if_neg (by omega), lp_d, binade_d, inf_d, fr_d, l8]
  dsimp only
  have e4 : max (-1109 + (e : Int) + (55 : Nat) - (52 : Nat)) (-1074) = -1106 + (e : Int) := by omega
  rw [e4, show (-1109 + (e : Int) - (-1106 + (e : Int))).toNat = 0 by omega, show (-1106 + (e : Int) - (-1109 + (e : Int))).toNat = 3 by omega, Nat.shiftLeft_zero]
  have e5 : Toward.even.cut s (8 * M) 3 = M := by
    have h := even_cut s (8 * M) 3 (by omega)
    rw [up_iff _ _ (by omega)] at h
    rw [if_neg (by unfold lastB; rw [if_neg (by omega)]; omega)] at h
    omega
  rw [e5, Nat.min_eq_left (by omega), show (-1106 + (e : Int) - -1074).toNat = e - 32 by omega]

theorem up_rung (L X : Nat) : L * X + 2 * X = (L + 1) * X + X := by rw [Nat.succ_mul L X]; omega
/-- What fix.Float reckons. -/
theorem told_bits (a : Int) (a0 : -9223372036854775808 ≤ a) (a1 : a ≤ 9223372036854775807) : floatBits .quo .f64 (floatOfInt .f64 a) (floatOfInt .f64 4294967296) = some (fb a) := by
  have hy : floatOfInt .f64 4294967296 = 4751297606875873280 := by decide
  rw [hy]
  unfold floatBits
  show double.div _ _ = _
  by_cases hz : a = 0
  · subst hz
    decide
  · have hm : a.natAbs ≠ 0 := by omega
    have hm1 : a.natAbs ≤ 9223372036854775808 := by omega
    have hx : floatOfInt .f64 a = double.nearest (decide (a < 0)) a.natAbs 0 := rfl
    have hl := log2_le63 _ hm hm1
    obtain ⟨k0, k1, _⟩ := kp_rng _ hm hm1
    rw [hx, near_int _ _ hm hm1]
    unfold fb
    rw [if_neg hz]
    by_cases hk : kp a.natAbs < 9007199254740992
    · rw [div_norm _ _ _ (by omega) (by omega) k0 hk, show a.natAbs.log2 + 1022 - 32 = a.natAbs.log2 + 990 by omega]
    · have hK : kp a.natAbs = 2 * 4503599627370496 := by omega
      rw [hK]
      generalize a.natAbs.log2 = L at *
      rw [up_rung, up_rung, div_norm _ _ _ (by omega) (by omega) (by omega) (by omega), show L + 1022 + 1 - 32 = L + 990 + 1 by omega]

/-- A float's bits: the exponent's field, the fraction's. -/
def fE (b : Int) : Int := b / 4503599627370496 % 2048
def fF (b : Int) : Int := b % 4503599627370496
/-- Is it no number? -/
def fN (b : Int) : Bool := decide (fE b = 2047) && !decide (fF b = 0)
theorem nan_bits (b : Nat) (hb : b < 18446744073709551616) : (FloatKind.f64.format.order b b != some .eq) = fN (b : Int) := by
  show (double.order b b != some .eq) = _
  have e1 : fE (b : Int) = ((b / 4503599627370496 % 2048 : Nat) : Int) := by unfold fE; omega
  have e2 : fF (b : Int) = ((b % 4503599627370496 : Nat) : Int) := by unfold fF; omega
  unfold fN
  rw [e1, e2]
  unfold Format.order Format.read
  rw [sw_d, binade_d, inf_d, lp_d]
  dsimp only
  have c1 : ∀ n : Int, compare n n = Ordering.eq := by intro n; simp
  have c2 : ∀ n : Nat, compare n n = Ordering.eq := by intro n; simp
  by_cases h1 : b % 9223372036854775808 < 4503599627370496
  · rw [if_pos h1]
    unfold Datum.order
    simp [c1]
    omega
  · rw [if_neg h1]
    by_cases h2 : b % 9223372036854775808 < 9218868437227405312
    · rw [if_pos h2]
      unfold Datum.order
      simp [c1]
      omega
    · rw [if_neg h2]
      by_cases h3 : b % 9223372036854775808 = 9218868437227405312
      · rw [if_pos h3]
        unfold Datum.order
        simp [c2]
        omega
      · rw [if_neg h3]
        have hE : b / 4503599627370496 % 2048 = 2047 := by omega
        have hF : b % 4503599627370496 ≠ 0 := by omega
        have hF' : ¬ ((b % 4503599627370496 : Nat) : Int) = 0 := by omega
        unfold Datum.order
        rw [hE, decide_eq_false hF']
        rfl
end Go.Proofs.YtpmlpcejmndidabDoor
