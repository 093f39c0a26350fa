/-
  FWalkA, FWalkB, FWalkC, FWalkD, FWalkU, FWalkV.
-/
import Derived.Test.YtfcneciknldohaaBC
import Derived.Test.YtfcneciknldohaaBA
import Derived.WalkLawsBesides
import Derived.Test.YtfcneciknldohaaBE
import Derived.Test.YtfcneciknldohaaBD
/-
  The contracts of fix's steps, hold, Add, Sub, Neg, Abs, Mul, Times, Sqrt.
-/
set_option linter.unusedVariables false
set_option linter.unusedSimpArgs false
namespace Go.Proofs.Ytfcneciknldohaa
open Go.RowKit

/-- What a number by 0 comes to. -/
def zv (v : Int) : Int := if 0 < v then 9223372036854775807 else if v < 0 then -9223372036854775808 else 0
/-- A quotient, held, or by 0. -/
def qv (v d : Int) : Int := if d = 0 then zv v else clv (quo v d)
def qo (v d : Int) : Bool := if d = 0 then true else ovv (quo v d)
theorem zv_pos (v : Int) (k : Nat) : zv (v * 2 ^ k) = zv v := by
  have hp := pow_pos' k
  unfold zv
  rcases (show 0 < v ∨ v = 0 ∨ v < 0 by omega) with h | h | h
  · have := Int.mul_pos h (show (0 : Int) < 2 ^ k by omega)
    rw [if_pos this, if_pos h]
  · subst h; rw [Int.zero_mul]
  · have := Int.mul_neg_of_neg_of_pos h (show (0 : Int) < 2 ^ k by omega)
    rw [if_neg (by omega), if_pos this, if_neg (by omega), if_pos h]

theorem clv_fit (v : Int) : -9223372036854775808 ≤ clv v ∧ clv v ≤ 9223372036854775807 := by
  unfold clv
  split
  · omega
  · split <;> omega
set_option maxHeartbeats 1000000 in
theorem steps_any (a : Int) (a0 : -9223372036854775808 ≤ a) (a1 : a ≤ 9223372036854775807) (w : World) :
    Calls Try.prog 70 #[.int .i64 a] w fun e w' => e = .returned (.agg #[.int .i64 (hi a), .int .u64 (lo a)]) ∧ Below w.heap.size w w' := by
  go_enter Try.func70, Try.ntmps70
  go_wp2_with fail
  refine (of_any a a0 a1 _).mono ?_
  rintro e w1 ⟨rfl, hb⟩
  obtain ⟨hc, hf⟩ := bcell hb
  have hz := hb.size
  simp at hc hf hz
  go_wp2_with fail
  exact bodyPost_ret (v := .agg #[.int .i64 (hi a), .int .u64 (lo a)]) (by simp [results, Try.results70, go_sem, hc]) rfl ⟨rfl, ((((bel1 w _).trans (hb.mono (by simp))).setCell (by simp) _).setCell (by simp) _)⟩
set_option maxHeartbeats 1000000 in
theorem hold_any (v : Int) (h0 : -170141183460469231731687303715884105728 ≤ v) (h1 : v ≤ 170141183460469231731687303715884105727) (w : World) :
    Calls Try.prog 69 #[.agg #[.int .i64 (hi v), .int .u64 (lo v)]] w fun e w' => e = .returned (.tuple #[.int .i64 (clv v), .bool (ovv v)]) ∧ Below w.heap.size w w' := by
  obtain ⟨c0, c1⟩ := clv_fit v
  go_enter Try.func69, Try.ntmps69
  go_wp2_with fail
  refine (clamp_any v h0 h1 _).mono ?_
  rintro e w1 ⟨rfl, hb⟩
  have W1 := bchain (bel1 w _) hb
  clear hb
  go_wp2
  go_ret2
  exact ⟨rfl, W1⟩
set_option maxHeartbeats 1000000 in
theorem fsub_any (a b : Int) (a0 : -9223372036854775808 ≤ a) (a1 : a ≤ 9223372036854775807) (b0 : -9223372036854775808 ≤ b) (b1 : b ≤ 9223372036854775807) (w : World) :
    Calls Try.prog 60 #[.int .i64 a, .int .i64 b] w fun e w' => e = .returned (.tuple #[.int .i64 (clv (a - b)), .bool (ovv (a - b))]) ∧ Below w.heap.size w w' := by
  go_enter Try.func60, Try.ntmps60
  go_wp2_with fail
  refine (steps_any a a0 a1 _).mono ?_
  rintro e w1 ⟨rfl, W1⟩
  go_wp2_with fail
  refine (steps_any b b0 b1 _).mono ?_
  rintro e w2 ⟨rfl, hb⟩
  have W2 := bchain W1 hb
  clear hb W1
  go_wp2_with fail
  refine (sub_any a b _).mono ?_
  rintro e w3 ⟨rfl, hb⟩
  have W3 := bchain W2 hb
  clear hb W2
  go_wp2_with fail
  refine (hold_any (a - b) (by omega) (by omega) _).mono ?_
  rintro e w4 ⟨rfl, hb⟩
  have W4 := bchain W3 hb
  clear hb W3
  go_wp2
  go_ret2
  exact ⟨rfl, W4⟩
theorem mul_in (a b : Int) (a0 : -9223372036854775808 ≤ a) (a1 : a ≤ 9223372036854775807) (b0 : -9223372036854775808 ≤ b) (b1 : b ≤ 9223372036854775807) : -85070591730234615865843651857942052864 ≤ a * b ∧ a * b ≤ 85070591730234615865843651857942052864 := by
  by_cases ha : a < 0
  · have h1 := Int.mul_le_mul_of_nonneg_left b0 (show 0 ≤ -a by omega)
    have h2 := Int.mul_le_mul_of_nonneg_left b1 (show 0 ≤ -a by omega)
    rw [Int.neg_mul a b] at h1 h2
    omega
  · have h1 := Int.mul_le_mul_of_nonneg_left b0 (show 0 ≤ a by omega)
    have h2 := Int.mul_le_mul_of_nonneg_left b1 (show 0 ≤ a by omega)
    omega
theorem rnd_in (v : Int) (k : Nat) (B : Int) (B0 : 1 ≤ B) (v0 : -B ≤ v) (v1 : v ≤ B) : -B - 1 ≤ rnd v k ∧ rnd v k ≤ B + 1 := by
  have hp := pow_pos' k
  have h1 : -B ≤ v / 2 ^ k := by
    rw [Int.le_ediv_iff_mul_le (by omega)]
    have := Int.mul_le_mul_of_nonneg_left (show (1 : Int) ≤ 2 ^ k by omega) (show 0 ≤ B by omega)
    rw [Int.neg_mul]; omega
  have h2 : v / 2 ^ k ≤ B := by
    by_cases h : 0 ≤ v
    · have := Int.ediv_le_self (2 ^ k) h; omega
    · have := Int.ediv_neg_of_neg_of_pos (show v < 0 by omega) (show (0 : Int) < 2 ^ k by omega); omega
  unfold rnd
  split <;> omega
/-- A root of so many steps, or 0. -/
def sv (a : Int) : Int := if a < 0 then 0 else rt (a * 4294967296)
end Go.Proofs.Ytfcneciknldohaa
/-
  The contracts of fix's apart and FromFloat, of math.IsNaN, and of the laws' awake.
-/
set_option linter.unusedVariables false
set_option linter.unusedSimpArgs false
namespace Go.Proofs.Ytfcneciknldohaa
open Go.RowKit

theorem and52 (b : Int) (b0 : 0 ≤ b) (b1 : b < 18446744073709551616) : bits .and .u64 b 4503599627370495 = fF b := by
  obtain ⟨n, rfl⟩ : ∃ n : Nat, b = n := ⟨b.toNat, by omega⟩
  have h := bits_and_u64_nat n 4503599627370495 (by omega) (by omega)
  have e : n &&& 4503599627370495 = n % 4503599627370496 := Nat.and_two_pow_sub_one_eq_mod n 52
  rw [e] at h
  unfold fF
  exact h
theorem and11 (x : Int) (x0 : 0 ≤ x) (x1 : x < 4096) : bits .and .i64 x 2047 = x % 2048 := by
  obtain ⟨n, rfl⟩ : ∃ n : Nat, x = n := ⟨x.toNat, by omega⟩
  have key : (BitVec.ofInt 64 (n : Int) &&& BitVec.ofInt 64 2047).toNat = n % 2048 := by
    rw [BitVec.toNat_and, BitVec.toNat_ofInt, BitVec.toNat_ofInt]
    have e : (((n : Int) % ((2 ^ 64 : Nat) : Int))).toNat = n := by omega
    rw [e]
    exact Nat.and_two_pow_sub_one_eq_mod n 11
  show IntKind.i64.wrap (((BitVec.ofInt 64 (n : Int) &&& BitVec.ofInt 64 2047).toNat : Nat) : Int) = _
  rw [key, IntKind.wrap_i64]
  omega
theorem or52 (x : Int) (x0 : 0 ≤ x) (x1 : x < 4503599627370496) : bits .or .i64 x 4503599627370496 = x + 4503599627370496 := by
  obtain ⟨n, rfl⟩ : ∃ n : Nat, x = n := ⟨x.toNat, by omega⟩
  have key : (BitVec.ofInt 64 (n : Int) ||| BitVec.ofInt 64 4503599627370496).toNat = 4503599627370496 + n := by
    rw [BitVec.toNat_or, BitVec.toNat_ofInt, BitVec.toNat_ofInt]
    have e : (((n : Int) % ((2 ^ 64 : Nat) : Int))).toNat = n := by omega
    have e2 : (((4503599627370496 : Int) % ((2 ^ 64 : Nat) : Int))).toNat = 4503599627370496 := by decide
    rw [e, e2, Nat.or_comm]
    exact nat_or_add _ _ 52 (by decide) (by omega)
  show IntKind.i64.wrap (((BitVec.ofInt 64 (n : Int) ||| BitVec.ofInt 64 4503599627370496).toNat : Nat) : Int) = _
  rw [key, IntKind.wrap_i64]
  omega

/-- The digits without the sign, with it, and the power. -/
def fD (b : Int) : Int := if 0 < fE b then fF b + 4503599627370496 else fF b
def fS (b : Int) : Int := if b / 9223372036854775808 = 1 then -(fD b) else fD b
def fP (b : Int) : Int := if 0 < fE b then -1074 + (fE b - 1) else -1074
/-- The number of steps that a float's bits stand for (one beyond 2^64 where it is far beyond). -/
def fV (b : Int) : Int := if 0 < fP b + 32 then fS b * 2 ^ (min (fP b + 32) 64).toNat else rr (fS b) (-(fP b + 32)).toNat
theorem fF_rng (b : Int) : 0 ≤ fF b ∧ fF b < 4503599627370496 := by unfold fF; omega
theorem fE_rng (b : Int) : 0 ≤ fE b ∧ fE b ≤ 2047 := by unfold fE; omega
theorem fD_rng (b : Int) : 0 ≤ fD b ∧ fD b < 9007199254740992 := by have := fF_rng b; unfold fD; split <;> omega
theorem fS_rng (b : Int) : -9007199254740992 < fS b ∧ fS b < 9007199254740992 := by have := fD_rng b; unfold fS; split <;> omega
theorem fP_rng (b : Int) : -1074 ≤ fP b ∧ fP b ≤ 972 := by have := fE_rng b; unfold fP; split <;> omega

theorem rnd_small (v : Int) (k : Nat) (hk : 54 < k) (v0 : -9007199254740992 < v) (v1 : v < 9007199254740992) : rnd v k = 0 := by
  have hp : (9007199254740992 : Int) ≤ 2 ^ (k - 1) := by
    have h1 : (2 : Nat) ^ 53 ≤ 2 ^ (k - 1) := Nat.pow_le_pow_right (by omega) (by omega)
    have h2 : ((2 ^ 53 : Nat) : Int) ≤ ((2 ^ (k - 1) : Nat) : Int) := Int.ofNat_le.2 h1
    have h3 : ((2 ^ 53 : Nat) : Int) = 9007199254740992 := by decide
    rw [h3, Int.natCast_pow] at h2
    exact h2
  have hP : (2 : Int) ^ k = 2 ^ (k - 1) + 2 ^ (k - 1) := by rw [← pow_two, show k - 1 + 1 = k by omega]
  unfold rnd
  rw [hP]
  generalize (2 : Int) ^ (k - 1) = H at *
  have g1 : ∀ l, ¬ gu (-1) l = true := by intro l; unfold gu; simp
  have g2 : ∀ l, gu 1 l = true := by intro l; unfold gu; simp
  by_cases hv : 0 ≤ v
  · rw [Int.ediv_eq_zero_of_lt hv (by omega), Int.emod_eq_of_lt hv (by omega), c3_lt _ _ (by omega), if_neg (g1 _)]
  · have hq : v / (H + H) = -1 ∧ v % (H + H) = v + (H + H) := (Int.ediv_emod_unique (by omega)).2 ⟨by omega, by omega, by omega⟩
    rw [hq.1, hq.2, c3_gt _ _ (by omega), if_pos (g2 _)]
    rfl

theorem fV_rng (b : Int) : -170141183460469231731687303715884105728 ≤ fV b ∧ fV b ≤ 170141183460469231731687303715884105727 := by
  obtain ⟨s0, s1⟩ := fS_rng b
  unfold fV
  split
  · have hle : (2 : Nat) ^ (min (fP b + 32) 64).toNat ≤ 2 ^ 64 := Nat.pow_le_pow_right (by omega) (by omega)
    have h2 : ((2 ^ (min (fP b + 32) 64).toNat : Nat) : Int) ≤ ((2 ^ 64 : Nat) : Int) := Int.ofNat_le.2 hle
    rw [Int.natCast_pow] at h2
    have h3 : ((2 ^ 64 : Nat) : Int) = 18446744073709551616 := by decide
    rw [h3] at h2
    have hp := pow_pos' (min (fP b + 32) 64).toNat
    have e2 : ((2 : Nat) : Int) = 2 := rfl
    rw [e2] at h2
    generalize (2 : Int) ^ (min (fP b + 32) 64).toNat = p at *
    by_cases h : 0 ≤ fS b
    · have := Int.mul_le_mul_of_nonneg_left h2 h
      have := Int.mul_nonneg h (show 0 ≤ p by omega)
      omega
    · have := Int.mul_le_mul_of_nonneg_left h2 (show 0 ≤ -(fS b) by omega)
      have := Int.mul_nonneg (show 0 ≤ -(fS b) by omega) (show 0 ≤ p by omega)
      rw [Int.neg_mul] at *
      omega
  · unfold rr
    split
    · omega
    · have := rnd_in (fS b) (-(fP b + 32)).toNat 9007199254740992 (by omega) (by omega) (by omega)
      omega

end Go.Proofs.Ytfcneciknldohaa
/-
  The contracts of the laws' like and of fix's Clamp, Floor, Whole, whole, Int.
-/
set_option linter.unusedVariables false
set_option linter.unusedSimpArgs false
namespace Go.Proofs.Ytfcneciknldohaa
open Go.RowKit

end Go.Proofs.Ytfcneciknldohaa
/-
  The contracts of fix's quotient, Div, By, Ratio.
-/
set_option linter.unusedVariables false
set_option linter.unusedSimpArgs false
namespace Go.Proofs.Ytfcneciknldohaa
open Go.RowKit

theorem quo_in (v d : Int) (hd : d ≠ 0) (B : Int) (B0 : 1 ≤ B) (v0 : -B ≤ v) (v1 : v ≤ B) : -B - 1 ≤ quo v d ∧ quo v d ≤ B + 1 := by
  have h1 : 0 ≤ ab v ∧ ab v ≤ B := by unfold ab; split <;> omega
  have h2 : 1 ≤ ab d := by unfold ab; split <;> omega
  have h3 : 0 ≤ ab v / ab d := Int.ediv_nonneg h1.1 (by omega)
  have h4 : ab v / ab d ≤ ab v := Int.ediv_le_self _ h1.1
  have h5 : 0 ≤ quoA v d ∧ quoA v d ≤ B + 1 := by unfold quoA; split <;> omega
  unfold quo
  split <;> omega
end Go.Proofs.Ytfcneciknldohaa
/-
  The contracts of fix's Unit: Take, Clear, Count.
-/
set_option linter.unusedVariables false
set_option linter.unusedSimpArgs false
namespace Go.Proofs.Ytfcneciknldohaa
open Go.RowKit

/-- From a world to one in which a unit's count is n, and whatever lay elsewhere is as it was. -/
structure Un (d : Nat) (n : Int) (w w' : World) : Prop where
  c : w'.cell? ⟨d, 0, none⟩ = some (.int .i64 n)
  f : w'.frozen? ⟨d, 0, none⟩ = false
  b : ∀ (base : Nat) (w0 : World), base ≤ d → base ≤ w.heap.size → Below base w0 w → Below base w0 w'
  o : ∀ (a : Addr) (v : Value), a.block ≠ d → w.cell? a = some v → w'.cell? a = some v
  s : w.heap.size ≤ w'.heap.size
  k : ∀ i : Nat, i < w.heap.size → i ≠ d → w'.heap[i]? = w.heap[i]?
theorem Un.same {d : Nat} {n : Int} {w : World} (c : w.cell? ⟨d, 0, none⟩ = some (.int .i64 n)) (f : w.frozen? ⟨d, 0, none⟩ = false) : Un d n w w :=
  ⟨c, f, fun _ _ _ _ h => h, fun _ _ _ h => h, Nat.le_refl _, fun _ _ _ => rfl⟩
theorem Un.set {d : Nat} {n m : Int} {w : World} (c : w.cell? ⟨d, 0, none⟩ = some (.int .i64 n)) (f : w.frozen? ⟨d, 0, none⟩ = false) : Un d m w (w.setCell ⟨d, 0, none⟩ (.int .i64 m)) where
  c := by simp [go_sem, c, f]
  f := by rw [World.frozen?_setCell]; exact f
  b := fun base w0 hd _ h => h.setCell (by dsimp only; omega) _
  o := fun a v ha h => cell_set (fun he => ha he.symm) h
  s := by simp
  k := fun i _ hn => Below.heap_setCell _ _ _ _ hn
/-- Behind whatever changes nothing that was there. -/
theorem Un.after {d : Nat} {n : Int} {w w1 w2 : World} (hb : Below w.heap.size w w1) (h : Un d n w1 w2) : Un d n w w2 where
  c := h.c
  f := h.f
  b := fun base w0 hd hs h0 => h.b base w0 hd (Nat.le_trans hs hb.size) (h0.trans (hb.mono hs))
  o := fun a v ha hc => h.o a v ha (cell_later hb hc)
  s := Nat.le_trans hb.size h.s
  k := fun i hi hn => (h.k i (Nat.lt_of_lt_of_le hi hb.size) hn).trans (hb.block i hi)
/-- Ahead of it. -/
theorem Un.ahead {d : Nat} {n : Int} {w w1 w2 : World} (h : Un d n w w1) (hb : Below w1.heap.size w1 w2) : Un d n w w2 where
  c := cell_later hb h.c
  f := frozen_later hb h.c h.f
  b := fun base w0 hd hs h0 => (h.b base w0 hd hs h0).trans (hb.mono (Nat.le_trans hs h.s))
  o := fun a v ha hc => cell_later hb (h.o a v ha hc)
  s := Nat.le_trans h.s hb.size
  k := fun i hi hn => (hb.block i (Nat.lt_of_lt_of_le hi h.s)).trans (h.k i hi hn)

/-- A result that was held counts for one. -/
def bi (o : Bool) : Int := if o = true then 1 else 0

set_option maxHeartbeats 1000000 in
theorem take_nil (a : Int) (o : Bool) (w : World) :
    Calls Try.prog 52 #[.pointer none, .int .i64 a, .bool o] w fun e w' => e = .returned (.int .i64 a) ∧ w' = w := by
  cases o
  · go_enter Try.func52, Try.ntmps52
    go_wp2
    go_ret
    exact ⟨rfl, rfl⟩
  · go_enter Try.func52, Try.ntmps52
    go_wp2
    go_ret
    exact ⟨rfl, rfl⟩
set_option maxHeartbeats 1000000 in
theorem more_any (d : Nat) (n : Int) (n0 : 0 ≤ n) (n1 : n ≤ 1000000000) (w : World) (c : w.cell? ⟨d, 0, none⟩ = some (.int .i64 n)) (f : w.frozen? ⟨d, 0, none⟩ = false) :
    Calls Try.prog 64 #[.pointer (some ⟨d, 0, none⟩)] w fun e w' => e = .returned (.tuple #[]) ∧ w' = w.setCell ⟨d, 0, none⟩ (.int .i64 (n + 1)) := by
  go_enter Try.func64, Try.ntmps64
  go_wp2
  go_end0
  exact ⟨rfl, rfl⟩
set_option maxHeartbeats 1000000 in
theorem take_un (d : Nat) (n a : Int) (o : Bool) (n0 : 0 ≤ n) (n1 : n ≤ 1000000000) (w : World) (c : w.cell? ⟨d, 0, none⟩ = some (.int .i64 n)) (f : w.frozen? ⟨d, 0, none⟩ = false) :
    Calls Try.prog 52 #[.pointer (some ⟨d, 0, none⟩), .int .i64 a, .bool o] w fun e w' => e = .returned (.int .i64 a) ∧ Un d (n + bi o) w w' := by
  have U0 : Hid (Un d n w w) := Un.same c f
  have U1 : Hid (Un d (n + 1) w (w.setCell ⟨d, 0, none⟩ (.int .i64 (n + 1)))) := Un.set c f
  cases o
  · have e0 : n + bi false = n := by unfold bi; simp
    rw [e0]
    go_enter Try.func52, Try.ntmps52
    go_wp2
    go_ret
    exact ⟨rfl, U0.out⟩
  · have e0 : n + bi true = n + 1 := by unfold bi; simp
    rw [e0]
    go_enter Try.func52, Try.ntmps52
    go_wp2_with fail
    refine (more_any d n n0 n1 _ c f).mono ?_
    rintro e w1 ⟨rfl, hw⟩
    subst hw
    go_wp2
    go_ret
    exact ⟨rfl, U1.out⟩
set_option maxHeartbeats 1000000 in
theorem count_nil (w : World) :
    Calls Try.prog 12 #[.pointer none] w fun e w' => e = .returned (.int .i64 0) ∧ w' = w := by
  go_enter Try.func12, Try.ntmps12
  go_wp2
  go_ret
  exact ⟨rfl, rfl⟩
set_option maxHeartbeats 1000000 in
theorem count_any (d : Nat) (n : Int) (w : World) (c : w.cell? ⟨d, 0, none⟩ = some (.int .i64 n)) :
    Calls Try.prog 12 #[.pointer (some ⟨d, 0, none⟩)] w fun e w' => e = .returned (.int .i64 n) ∧ w' = w := by
  go_enter Try.func12, Try.ntmps12
  go_wp2
  go_ret
  exact ⟨rfl, rfl⟩
end Go.Proofs.Ytfcneciknldohaa
/-
  The contracts of fix's Unit's reckoning methods.
-/
set_option linter.unusedVariables false
set_option linter.unusedSimpArgs false
namespace Go.Proofs.Ytfcneciknldohaa
open Go.RowKit

set_option maxHeartbeats 1000000 in
theorem tkSub_nil (a b : Int) (a0 : -9223372036854775808 ≤ a) (a1 : a ≤ 9223372036854775807) (b0 : -9223372036854775808 ≤ b) (b1 : b ≤ 9223372036854775807) (w : World) :
    Calls Try.prog 59 #[.func (.func 52) #[.pointer none] #[], .func (.func 60) #[] #[], .int .i64 a, .int .i64 b] w fun e w' => e = .returned (.int .i64 (clv (a - b))) ∧ Below w.heap.size w w' := by
  have P : Hid (∀ W : World, Calls Try.prog 60 #[.int .i64 a, .int .i64 b] W fun e w' => e = .returned (.tuple #[.int .i64 (clv (a - b)), .bool (ovv (a - b))]) ∧ Below W.heap.size W w') := fun W => fsub_any a b a0 a1 b0 b1 W
  go_enter Try.func59, Try.ntmps59
  go_wp2_with fail
  refine (P.out _).mono ?_
  rintro e w1 ⟨rfl, W1⟩
  clear P
  go_wp2_with fail
  refine (take_nil _ _ _).mono ?_
  rintro e wz ⟨rfl, hz⟩
  subst hz
  go_wp2
  go_ret
  exact ⟨rfl, W1⟩
set_option maxHeartbeats 1000000 in
theorem tkSub_un (a b : Int) (a0 : -9223372036854775808 ≤ a) (a1 : a ≤ 9223372036854775807) (b0 : -9223372036854775808 ≤ b) (b1 : b ≤ 9223372036854775807) (d : Nat) (n : Int) (n0 : 0 ≤ n) (n1 : n ≤ 1000000000) (w : World) (c : w.cell? ⟨d, 0, none⟩ = some (.int .i64 n)) (f : w.frozen? ⟨d, 0, none⟩ = false) :
    Calls Try.prog 59 #[.func (.func 52) #[.pointer (some ⟨d, 0, none⟩)] #[], .func (.func 60) #[] #[], .int .i64 a, .int .i64 b] w fun e w' => e = .returned (.int .i64 (clv (a - b))) ∧ Un d (n + bi (ovv (a - b))) w w' := by
  have P : Hid (∀ W : World, Calls Try.prog 60 #[.int .i64 a, .int .i64 b] W fun e w' => e = .returned (.tuple #[.int .i64 (clv (a - b)), .bool (ovv (a - b))]) ∧ Below W.heap.size W w') := fun W => fsub_any a b a0 a1 b0 b1 W
  go_enter Try.func59, Try.ntmps59
  go_wp2_with fail
  refine (P.out _).mono ?_
  rintro e w1 ⟨rfl, W1⟩
  clear P
  have c1 := cell_later W1 c
  have f1 := frozen_later W1 c f
  go_wp2_with fail
  refine (take_un d n _ _ n0 n1 _ c1 f1).mono ?_
  rintro e w2 ⟨rfl, hU⟩
  have hV := Un.after W1 hU
  clear hU W1 c1 f1 c f
  go_wp2
  go_ret
  exact ⟨rfl, hV⟩
set_option maxHeartbeats 1000000 in
theorem uSub_nil (a b : Int) (a0 : -9223372036854775808 ≤ a) (a1 : a ≤ 9223372036854775807) (b0 : -9223372036854775808 ≤ b) (b1 : b ≤ 9223372036854775807) (w : World) :
    Calls Try.prog 46 #[.pointer none, .int .i64 a, .int .i64 b] w fun e w' => e = .returned (.int .i64 (clv (a - b))) ∧ Below w.heap.size w w' := by
  have hmf : ∀ (fn : Fn) (first cap : Array Value) (w : World), (Instr.makeFunc fn first cap).run Try.prog w = .ok (.func fn first cap) w := fun _ _ _ _ => rfl
  go_enter Try.func46, Try.ntmps46
  go_wp2_with fail
  refine (tkSub_nil a b a0 a1 b0 b1 _).mono ?_
  rintro e w1 ⟨rfl, W1⟩
  go_wp2
  go_ret
  exact ⟨rfl, W1⟩
set_option maxHeartbeats 1000000 in
theorem uSub_un (a b : Int) (a0 : -9223372036854775808 ≤ a) (a1 : a ≤ 9223372036854775807) (b0 : -9223372036854775808 ≤ b) (b1 : b ≤ 9223372036854775807) (d : Nat) (n : Int) (n0 : 0 ≤ n) (n1 : n ≤ 1000000000) (w : World) (c : w.cell? ⟨d, 0, none⟩ = some (.int .i64 n)) (f : w.frozen? ⟨d, 0, none⟩ = false) :
    Calls Try.prog 46 #[.pointer (some ⟨d, 0, none⟩), .int .i64 a, .int .i64 b] w fun e w' => e = .returned (.int .i64 (clv (a - b))) ∧ Un d (n + bi (ovv (a - b))) w w' := by
  have hmf : ∀ (fn : Fn) (first cap : Array Value) (w : World), (Instr.makeFunc fn first cap).run Try.prog w = .ok (.func fn first cap) w := fun _ _ _ _ => rfl
  go_enter Try.func46, Try.ntmps46
  go_wp2_with fail
  refine (tkSub_un a b a0 a1 b0 b1 d n n0 n1 _ c f).mono ?_
  rintro e w1 ⟨rfl, W1⟩
  clear c f
  go_wp2
  go_ret
  exact ⟨rfl, W1⟩
end Go.Proofs.Ytfcneciknldohaa
