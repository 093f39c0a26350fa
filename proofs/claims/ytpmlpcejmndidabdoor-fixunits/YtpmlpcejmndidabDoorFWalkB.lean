/-
  The contracts of fix's apart and FromFloat, of math.IsNaN, and of the laws' awake.
-/
import Derived.Test.YtpmlpcejmndidabDoorFWalkA
import Derived.Test.YtpmlpcejmndidabDoorFMath
import Derived.WalkLawsBesides
set_option linter.unusedVariables false
set_option linter.unusedSimpArgs false
namespace Go.Proofs.YtpmlpcejmndidabDoor
open Go.RowKit

theorem and52 (b : Int) (b0 : 0 ≤ b) (b1 : b < 18446744073709551616) : bits .and .u64 b 4503599627370495 = fF b := by
  obtain ⟨n, rfl⟩ : ∃ n : Nat, b = n := ⟨b.toNat, by omega⟩
  have h := bits_and_u64_nat n 4503599627370495 (by omega) (by omega)
  have e : n &&& 4503599627370495 = n % 4503599627370496 := Nat.and_two_pow_sub_one_eq_mod n 52
  rw [e] at h
  unfold fF
  exact h
theorem and11 (x : Int) (x0 : 0 ≤ x) (x1 : x < 4096) : bits .and .i64 x 2047 = x % 2048 := by
  obtain ⟨n, rfl⟩ : ∃ n : Nat, x = n := ⟨x.toNat, by omega⟩
  have key : (BitVec.ofInt 64 (n : Int) &&& BitVec.ofInt 64 2047).toNat = n % 2048 := by
    rw [BitVec.toNat_and, BitVec.toNat_ofInt, BitVec.toNat_ofInt]
    have e : (((n : Int) % ((2 ^ 64 : Nat) : Int))).toNat = n := by omega
    rw [e]
    exact Nat.and_two_pow_sub_one_eq_mod n 11
  show IntKind.i64.wrap (((BitVec.ofInt 64 (n : Int) &&& BitVec.ofInt 64 2047).toNat : Nat) : Int) = _
  rw [key, IntKind.wrap_i64]
  omega
theorem or52 (x : Int) (x0 : 0 ≤ x) (x1 : x < 4503599627370496) : bits .or .i64 x 4503599627370496 = x + 4503599627370496 := by
  obtain ⟨n, rfl⟩ : ∃ n : Nat, x = n := ⟨x.toNat, by omega⟩
  have key : (BitVec.ofInt 64 (n : Int) ||| BitVec.ofInt 64 4503599627370496).toNat = 4503599627370496 + n := by
    rw [BitVec.toNat_or, BitVec.toNat_ofInt, BitVec.toNat_ofInt]
    have e : (((n : Int) % ((2 ^ 64 : Nat) : Int))).toNat = n := by omega
    have e2 : (((4503599627370496 : Int) % ((2 ^ 64 : Nat) : Int))).toNat = 4503599627370496 := by decide
    rw [e, e2, Nat.or_comm]
    exact nat_or_add _ _ 52 (by decide) (by omega)
  show IntKind.i64.wrap (((BitVec.ofInt 64 (n : Int) ||| BitVec.ofInt 64 4503599627370496).toNat : Nat) : Int) = _
  rw [key, IntKind.wrap_i64]
  omega

/-- The digits without the sign, with it, and the power. -/
def fD (b : Int) : Int := if 0 < fE b then fF b + 4503599627370496 else fF b
def fS (b : Int) : Int := if b / 9223372036854775808 = 1 then -(fD b) else fD b
def fP (b : Int) : Int := if 0 < fE b then -1074 + (fE b - 1) else -1074
/-- The number of steps that a float's bits stand for (one beyond 2^64 where it is far beyond). -/
def fV (b : Int) : Int := if 0 < fP b + 32 then fS b * 2 ^ (min (fP b + 32) 64).toNat else rr (fS b) (-(fP b + 32)).toNat
theorem fF_rng (b : Int) : 0 ≤ fF b ∧ fF b < 4503599627370496 := by unfold fF; omega
theorem fE_rng (b : Int) : 0 ≤ fE b ∧ fE b ≤ 2047 := by unfold fE; omega
theorem fD_rng (b : Int) : 0 ≤ fD b ∧ fD b < 9007199254740992 := by have := fF_rng b; unfold fD; split <;> omega
theorem fS_rng (b : Int) : -9007199254740992 < fS b ∧ fS b < 9007199254740992 := by have := fD_rng b; unfold fS; split <;> omega
theorem fP_rng (b : Int) : -1074 ≤ fP b ∧ fP b ≤ 972 := by have := fE_rng b; unfold fP; split <;> omega

set_option maxHeartbeats 2000000 in
theorem apart_any (b : Int) (b0 : 0 ≤ b) (b1 : b < 18446744073709551616) (w : World) :
    Calls Tryd.prog 36 #[.int .u64 b] w fun e w' => e = .returned (.tuple #[.int .i64 (fS b), .int .i64 (fP b)]) ∧ Below w.heap.size w w' := by
  obtain ⟨f0, f1⟩ := fF_rng b
  obtain ⟨g0, g1⟩ := fE_rng b
  have e1 := and52 b b0 b1
  have e2 := and11 (b / 4503599627370496) (by omega) (by omega)
  have e3 := or52 (fF b) f0 f1
  have e4 : b / 4503599627370496 % 2048 = fE b := rfl
  rw [e4] at e2
  have q0 : 0 ≤ b / 4503599627370496 := by omega
  have q1 : b / 4503599627370496 < 4096 := by omega
  have p52 : (2 : Int) ^ (52 : Int).toNat = 4503599627370496 := rfl
  have p63 : (2 : Int) ^ (63 : Int).toNat = 9223372036854775808 := rfl
  unfold fS fP fD
  generalize fF b = F at *
  generalize fE b = E at *
  by_cases hE : 0 < E
  · by_cases hs : b / 9223372036854775808 = 1
    · rw [if_pos hs, if_pos hE, if_pos hE]
      go_enter Tryd.func36, Tryd.ntmps36
      go_wp2
      go_ret2
      exact ⟨rfl, Below.refl _ _⟩
    · rw [if_neg hs, if_pos hE, if_pos hE]
      go_enter Tryd.func36, Tryd.ntmps36
      go_wp2
      go_ret2
      exact ⟨rfl, Below.refl _ _⟩
  · by_cases hs : b / 9223372036854775808 = 1
    · rw [if_pos hs, if_neg hE, if_neg hE]
      go_enter Tryd.func36, Tryd.ntmps36
      go_wp2
      go_ret2
      exact ⟨rfl, Below.refl _ _⟩
    · rw [if_neg hs, if_neg hE, if_neg hE]
      go_enter Tryd.func36, Tryd.ntmps36
      go_wp2
      go_ret2
      exact ⟨rfl, Below.refl _ _⟩
set_option maxHeartbeats 1000000 in
theorem isnan_any (b : Nat) (hb : b < 18446744073709551616) (w : World) :
    Calls Tryd.prog 35 #[.float .f64 b] w fun e w' => e = .returned (.bool (fN (b : Int))) ∧ Below w.heap.size w w' := by
  rw [← nan_bits b hb]
  go_enter Tryd.func35, Tryd.ntmps35
  go_wp2
  go_ret
  exact ⟨rfl, Below.refl _ _⟩

theorem rnd_small (v : Int) (k : Nat) (hk : 54 < k) (v0 : -9007199254740992 < v) (v1 : v < 9007199254740992) : rnd v k = 0 := by
  have hp : (9007199254740992 : Int) ≤ 2 ^ (k - 1) := by
    have h1 : (2 : Nat) ^ 53 ≤ 2 ^ (k - 1) := Nat.pow_le_pow_right (by omega) (by omega)
    have h2 : ((2 ^ 53 : Nat) : Int) ≤ ((2 ^ (k - 1) : Nat) : Int) := Int.ofNat_le.2 h1
    have h3 : ((2 ^ 53 : Nat) : Int) = 9007199254740992 := by decide
    rw [h3, Int.natCast_pow] at h2
    exact h2
  have hP : (2 : Int) ^ k = 2 ^ (k - 1) + 2 ^ (k - 1) := by rw [← pow_two, show k - 1 + 1 = k by omega]
  unfold rnd
  rw [hP]
  generalize (2 : Int) ^ (k - 1) = H at *
  have g1 : ∀ l, ¬ gu (-1) l = true := by intro l; unfold gu; simp
  have g2 : ∀ l, gu 1 l = true := by intro l; unfold gu; simp
  by_cases hv : 0 ≤ v
  · rw [Int.ediv_eq_zero_of_lt hv (by omega), Int.emod_eq_of_lt hv (by omega), c3_lt _ _ (by omega), if_neg (g1 _)]
  · have hq : v / (H + H) = -1 ∧ v % (H + H) = v + (H + H) := (Int.ediv_emod_unique (by omega)).2 ⟨by omega, by omega, by omega⟩
    rw [hq.1, hq.2, c3_gt _ _ (by omega), if_pos (g2 _)]
    rfl

theorem fV_rng (b : Int) : -170141183460469231731687303715884105728 ≤ fV b ∧ fV b ≤ 170141183460469231731687303715884105727 := by
  obtain ⟨s0, s1⟩ := fS_rng b
  unfold fV
  split
  · have hle : (2 : Nat) ^ (min (fP b + 32) 64).toNat ≤ 2 ^ 64 := Nat.pow_le_pow_right (by omega) (by omega)
    have h2 : ((2 ^ (min (fP b + 32) 64).toNat : Nat) : Int) ≤ ((2 ^ 64 : Nat) : Int) := Int.ofNat_le.2 hle
    rw [Int.natCast_pow] at h2
    have h3 : ((2 ^ 64 : Nat) : Int) = 18446744073709551616 := by decide
    rw [h3] at h2
    have hp := pow_pos' (min (fP b + 32) 64).toNat
    have e2 : ((2 : Nat) : Int) = 2 := rfl
    rw [e2] at h2
    generalize (2 : Int) ^ (min (fP b + 32) 64).toNat = p at *
    by_cases h : 0 ≤ fS b
    · have := Int.mul_le_mul_of_nonneg_left h2 h
      have := Int.mul_nonneg h (show 0 ≤ p by omega)
      omega
    · have := Int.mul_le_mul_of_nonneg_left h2 (show 0 ≤ -(fS b) by omega)
      have := Int.mul_nonneg (show 0 ≤ -(fS b) by omega) (show 0 ≤ p by omega)
      rw [Int.neg_mul] at *
      omega
  · unfold rr
    split
    · omega
    · have := rnd_in (fS b) (-(fP b + 32)).toNat 9007199254740992 (by omega) (by omega) (by omega)
      omega

theorem run_bits64 (b : Nat) (w : World) : (callFunc 37 #[.float .f64 b]).run Tryd.prog w = .ok (.value (.int .u64 (b : Int))) w := by
  rw [run_callFunc_extern Tryd.func37 (by kernel_rfl) (by kernel_rfl) (by kernel_rfl) (e := Extern.MathFloatBits.float64bits) (by kernel_rfl)]
  rfl

set_option maxHeartbeats 1000000 in
theorem ffloat_nan (b : Nat) (hb : b < 18446744073709551616) (hN : fN (b : Int) = true) (w : World) :
    Calls Tryd.prog 12 #[.float .f64 b] w fun e w' => e = .returned (.tuple #[.int .i64 0, .bool false, .int .i64 20]) ∧ Below w.heap.size w w' := by
  have h := isnan_any b hb
  rw [hN] at h
  go_enter Tryd.func12, Tryd.ntmps12
  go_wp2_with fail
  refine (h _).mono ?_
  rintro e w1 ⟨rfl, W1⟩
  clear h
  go_wp2
  exact bodyPost_ret (v := .tuple #[.int .i64 0, .bool false, .int .i64 20]) (by simp [results, Tryd.results12, go_sem]) rfl ⟨rfl, W1⟩
set_option maxHeartbeats 2000000 in
theorem ffloat_num (b : Nat) (hb : b < 18446744073709551616) (hN : fN (b : Int) = false) (w : World) :
    Calls Tryd.prog 12 #[.float .f64 b] w fun e w' => e = .returned (.tuple #[.int .i64 (clv (fV b)), .bool (ovv (fV b)), .int .i64 0]) ∧ Below w.heap.size w w' := by
  have NH : Hid (∀ W : World, Calls Tryd.prog 35 #[.float .f64 b] W fun e w' => e = .returned (.bool false) ∧ Below W.heap.size W w') := by
    intro W; rw [← hN]; exact isnan_any b hb W
  obtain ⟨s0, s1⟩ := fS_rng b
  obtain ⟨p0, p1⟩ := fP_rng b
  obtain ⟨v0, v1⟩ := fV_rng b
  have AP := fun W => apart_any (b : Int) (by omega) (by omega) W
  obtain ⟨V, hV⟩ : ∃ V, fV b = V := ⟨_, rfl⟩
  have hV' := hV
  rw [hV] at v0 v1
  unfold fV at hV'
  rw [hV]
  clear hV hN hb
  have B64 := run_bits64 b
  generalize fS b = S at *
  generalize fP b = P at *
  have OF : Hid (∀ W : World, Calls Tryd.prog 38 #[.int .i64 S] W fun e w' => e = .returned (.agg #[.int .i64 (hi S), .int .u64 (lo S)]) ∧ Below W.heap.size W w') := fun W => of_any S (by omega) (by omega) W
  obtain ⟨U, hU⟩ : ∃ U, S * 2 ^ (min (P + 32) 64).toNat = U := ⟨_, rfl⟩
  have SH : Hid (∀ W : World, Calls Tryd.prog 34 #[.agg #[.int .i64 (hi S), .int .u64 (lo S)], .int .i64 (min (P + 32) 64)] W fun e w' => e = .returned (.agg #[.int .i64 (hi U), .int .u64 (lo U)]) ∧ Below W.heap.size W w') := by
    intro W
    rw [← hU]
    exact shl_any S (min (P + 32) 64) (by omega) W
  have RO : Hid (∀ W : World, Calls Tryd.prog 32 #[.agg #[.int .i64 (hi U), .int .u64 (lo U)], .int .i64 (-(P + 32))] W fun e w' => e = .returned (.agg #[.int .i64 (hi V), .int .u64 (lo V)]) ∧ Below W.heap.size W w') := by
    intro W
    by_cases hp : 0 < P + 32
    · rw [if_pos hp, hU] at hV'
      rw [hV']
      exact round_none _ _ _ (by omega) W
    · rw [if_neg hp] at hV'
      have hU' : U = S := by rw [← hU, show (min (P + 32) 64).toNat = 0 by omega, Int.pow_zero, Int.mul_one]
      rw [hU']
      unfold rr at hV'
      by_cases hk : (-(P + 32)).toNat = 0
      · rw [if_pos hk] at hV'
        rw [← hV']
        exact round_none _ _ _ (by omega) W
      · rw [if_neg hk] at hV'
        by_cases hk2 : (-(P + 32)).toNat ≤ 127
        · have h := round_mid S (-(P + 32)).toNat (by omega) hk2 (by omega) (by omega) W
          rw [hV', show (((-(P + 32)).toNat : Nat) : Int) = -(P + 32) by omega] at h
          exact h
        · rw [rnd_small S _ (by omega) s0 s1] at hV'
          rw [← hV']
          exact round_big _ _ _ (by omega) W
  have HO : Hid (∀ W : World, Calls Tryd.prog 29 #[.agg #[.int .i64 (hi V), .int .u64 (lo V)]] W fun e w' => e = .returned (.tuple #[.int .i64 (clv V), .bool (ovv V)]) ∧ Below W.heap.size W w') := fun W => hold_any V v0 v1 W
  clear hV' hU
  go_enter Tryd.func12, Tryd.ntmps12
  go_wp2_with fail
  refine (NH.out _).mono ?_
  rintro e w1 ⟨rfl, W1⟩
  clear NH
  go_wp2_with fail
  refine (AP _).mono ?_
  rintro e w2 ⟨rfl, hb⟩
  have W2 := bchain W1 hb
  clear hb W1 AP
  go_wp2_with fail
  refine (OF.out _).mono ?_
  rintro e w3 ⟨rfl, hb⟩
  have W3 := bchain W2 hb
  clear hb W2 OF
  go_wp2_with fail
  refine (SH.out _).mono ?_
  rintro e w4 ⟨rfl, hb⟩
  have W4 := bchain W3 hb
  clear hb W3 SH
  go_wp2_with fail
  refine (RO.out _).mono ?_
  rintro e w5 ⟨rfl, hb⟩
  have W5 := bchain W4 hb
  clear hb W4 RO
  go_wp2_with fail
  refine (HO.out _).mono ?_
  rintro e w6 ⟨rfl, hb⟩
  have W6 := bchain W5 hb
  clear hb W5 HO
  go_wp2
  exact bodyPost_ret (v := .tuple #[.int .i64 (clv V), .bool (ovv V), .int .i64 0]) (by simp [results, Tryd.results12, go_sem]) rfl ⟨rfl, W6⟩

theorem awake_V : fV (13826050856027422720 : Nat) = -2147483648 := by decide
theorem rt_two : sv 8589934592 = 6074000999 := by decide +kernel
set_option maxHeartbeats 1000000 in
theorem kawake_any (w : World) : Calls Tryd.prog 4 #[] w fun e w' => e = .returned (.bool true) ∧ Below w.heap.size w w' := by
  have A1 : Hid (∀ W : World, Calls Tryd.prog 9 #[.int .i64 9223372036854775807, .int .i64 1] W fun e w' => e = .returned (.tuple #[.int .i64 9223372036854775807, .bool true]) ∧ Below W.heap.size W w') := fun W => fadd_any 9223372036854775807 1 (by omega) (by omega) (by omega) (by omega) W
  have A2 : Hid (∀ W : World, Calls Tryd.prog 10 #[.int .i64 3, .int .i64 2147483648] W fun e w' => e = .returned (.tuple #[.int .i64 2, .bool false]) ∧ Below W.heap.size W w') := fun W => fmul_any 3 2147483648 (by omega) (by omega) (by omega) (by omega) W
  have A3 : Hid (∀ W : World, Calls Tryd.prog 11 #[.int .i64 8589934592] W fun e w' => e = .returned (.tuple #[.int .i64 6074000999, .bool false]) ∧ Below W.heap.size W w') := by
    intro W
    have h := fsqrt_any 8589934592 (by omega) (by omega) W
    rw [rt_two] at h
    exact h
  have A4 : Hid (∀ W : World, Calls Tryd.prog 12 #[.float .f64 13826050856027422720] W fun e w' => e = .returned (.tuple #[.int .i64 (-2147483648), .bool false, .int .i64 0]) ∧ Below W.heap.size W w') := by
    intro W
    have h := ffloat_num 13826050856027422720 (by omega) (by decide) W
    rw [awake_V] at h
    exact h
  go_enter Tryd.func4, Tryd.ntmps4
  go_wp2_with fail
  refine (A1.out _).mono ?_
  rintro e w1 ⟨rfl, W1⟩
  clear A1
  go_wp2_with fail
  refine (A2.out _).mono ?_
  rintro e w2 ⟨rfl, hb⟩
  have W2 := bchain W1 hb
  clear hb W1 A2
  go_wp2_with fail
  refine (A3.out _).mono ?_
  rintro e w3 ⟨rfl, hb⟩
  have W3 := bchain W2 hb
  clear hb W2 A3
  go_wp2_with fail
  refine (A4.out _).mono ?_
  rintro e w4 ⟨rfl, hb⟩
  have W4 := bchain W3 hb
  clear hb W3 A4
  go_wp2
  go_ret
  exact ⟨rfl, W4⟩
end Go.Proofs.YtpmlpcejmndidabDoor
