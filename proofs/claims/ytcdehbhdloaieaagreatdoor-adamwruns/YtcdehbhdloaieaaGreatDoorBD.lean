/-
  MathW, WalkM, WalkN, WalkO, WalkP, WalkQ, WalkR, WalkS.
-/
import Derived.Test.YtcdehbhdloaieaaGreatDoorBA
import Derived.Test.YtcdehbhdloaieaaGreatDoorBB
import Derived.Laws.Bits64b
import Derived.Lib.TrailingZeros
import Derived.Test.YtcdehbhdloaieaaGreatDoorBC
/-
  Plain arithmetic of long numbers' words.
-/
set_option linter.unusedVariables false
namespace Go.Proofs.YtcdehbhdloaieaaGreatDoor

def u3 (v : Int) : Int := v / 340282366920938463463374607431768211456 % 18446744073709551616
/-- The i-th word of a number; above the highest one the sign goes on. -/
def wd (v : Int) (i : Nat) : Int := v / 2 ^ (64 * i) % 18446744073709551616
theorem wd_0 (v : Int) : wd v 0 = lo v := by unfold wd lo; rw [Nat.mul_zero, Int.pow_zero, Int.ediv_one]
theorem wd_1 (v : Int) : wd v 1 = m3 v := rfl
theorem wd_2 (v : Int) : wd v 2 = u3 v := rfl
theorem u3_rng (v : Int) : 0 ≤ u3 v ∧ u3 v ≤ 18446744073709551615 := by unfold u3; omega
theorem m3_rng (v : Int) : 0 ≤ m3 v ∧ m3 v ≤ 18446744073709551615 := by unfold m3; omega
theorem wd_rng (v : Int) (i : Nat) : 0 ≤ wd v i ∧ wd v i ≤ 18446744073709551615 := by unfold wd; omega
theorem t3_u3 (v : Int) : t3 v % 18446744073709551616 = u3 v := by unfold t3 u3; omega
theorem u3_t3 (v : Int) : sg (u3 v) = t3 v := by unfold sg t3 u3; omega
theorem u3_top (v : Int) (h0 : -3138550867693340381917894711603833208051177722232017256448 ≤ v) (h1 : v ≤ 3138550867693340381917894711603833208051177722232017256447) : t3 v / 9223372036854775808 = if v < 0 then -1 else 0 := by
  by_cases h : v < 0
  · rw [if_pos h]; unfold t3; omega
  · rw [if_neg h]; unfold t3; omega
theorem wd_top (v : Int) (i : Nat) (hi : 3 ≤ i) (h0 : -3138550867693340381917894711603833208051177722232017256448 ≤ v) (h1 : v ≤ 3138550867693340381917894711603833208051177722232017256447) : wd v i = if v < 0 then 18446744073709551615 else 0 := by
  have hp : (6277101735386680763835789423207666416102355444464034512896 : Int) ≤ 2 ^ (64 * i) := by
    have h2 : (2 : Nat) ^ 192 ≤ 2 ^ (64 * i) := Nat.pow_le_pow_right (by omega) (by omega)
    have h3 : (((2 : Nat) ^ 192 : Nat) : Int) ≤ (((2 : Nat) ^ (64 * i) : Nat) : Int) := by omega
    rw [Int.natCast_pow, Int.natCast_pow] at h3
    exact h3
  unfold wd
  by_cases hn : v < 0
  · rw [if_pos hn, Int.ediv_eq_neg_one_of_neg_of_le (by omega) (by omega)]; rfl
  · rw [if_neg hn, Int.ediv_eq_zero_of_lt (by omega) (by omega)]; rfl

theorem wbit_at (N : Int) (a k : Nat) : N / 2 ^ a / 2 ^ k = N / 2 ^ (a + k) := by
  rw [Int.ediv_ediv_of_nonneg (by have := pow_pos' a; omega), Int.pow_add]
theorem mod_div_two (X : Int) (r : Nat) (hr : r < 64) : X % 18446744073709551616 / 2 ^ r % 2 = X / 2 ^ r % 2 := by
  have hp := pow_pos' r
  have e := Int.mul_ediv_add_emod X 18446744073709551616
  have e2 : (18446744073709551616 : Int) = 2 ^ r * (2 * 2 ^ (63 - r)) := by
    rw [show (2 : Int) * 2 ^ (63 - r) = 2 ^ (63 - r + 1) by rw [Int.pow_succ, Int.mul_comm], ← Int.pow_add, show r + (63 - r + 1) = 64 by omega]; rfl
  have e3 : X / 2 ^ r = 2 * 2 ^ (63 - r) * (X / 18446744073709551616) + X % 18446744073709551616 / 2 ^ r := by
    have e4 : X = 2 ^ r * (2 * 2 ^ (63 - r) * (X / 18446744073709551616)) + X % 18446744073709551616 := by
      rw [← Int.mul_assoc, ← e2]; exact e.symm
    have h5 : X / 2 ^ r = (2 ^ r * (2 * 2 ^ (63 - r) * (X / 18446744073709551616)) + X % 18446744073709551616) / 2 ^ r := congrArg (fun t => t / (2 : Int) ^ r) e4
    rw [Int.add_comm, Int.add_mul_ediv_left _ _ (show (2 : Int) ^ r ≠ 0 by omega)] at h5
    omega
  rw [e3, Int.mul_assoc]
  omega
theorem wd_bit (v : Int) (q r : Nat) (hr : r < 64) : wd v q / 2 ^ r % 2 = v / 2 ^ (64 * q + r) % 2 := by
  unfold wd
  rw [mod_div_two _ r hr, wbit_at]
theorem wand1 (z : Int) (h0 : 0 ≤ z) (h1 : z < 18446744073709551616) : bits .and .u64 z 1 = z % 2 := by
  obtain ⟨Z, rfl⟩ := Int.eq_ofNat_of_zero_le h0
  have h := bits_and_u64_nat Z 1 (by omega) (by omega)
  rw [Nat.and_one_is_mod] at h
  have e : ((Z % 2 : Nat) : Int) = (Z : Int) % 2 := by omega
  rw [← e]
  exact h
/-- One word of a number that is shifted down: a part of each of two. -/
theorem down_word (X : Int) (r : Nat) (hr : r < 64) : bits .or .u64 (X % 18446744073709551616 / 2 ^ r) (X / 18446744073709551616 % 18446744073709551616 * 2 ^ (64 - r) % 18446744073709551616) = X / 2 ^ r % 18446744073709551616 := by
  have hB := pow_split r (by omega)
  have hp := pow_pos' r
  have hq := pow_pos' (64 - r)
  generalize hP : (2 : Int) ^ r = p at *
  generalize hQ : (2 : Int) ^ (64 - r) = q at *
  have hB' : q * p = 18446744073709551616 := by rw [Int.mul_comm]; exact hB
  generalize hL : X % 18446744073709551616 = L
  have L0 : 0 ≤ L := by omega
  have L1 : L < 18446744073709551616 := by omega
  obtain ⟨d0, d1⟩ := div_lt L q p _ hB' hq hp L0 L1
  generalize hH : X / 18446744073709551616 = H
  have eX : X = H * 18446744073709551616 + L := by omega
  generalize hH2 : H % 18446744073709551616 = H2
  have e := mul_split H2 q p _ hB'
  obtain ⟨t0, t1⟩ := mod_mul_lt H2 q p hq hp
  rw [hB] at t1
  have eR : H2 * q % 18446744073709551616 = H2 % p * q := by rw [e]; omega
  have e2 : X / p = H * q + L / p := by
    rw [eX, ← hB, ← Int.mul_assoc, Int.mul_right_comm, Int.add_comm, Int.add_mul_ediv_right _ _ (by omega), Int.add_comm]
  have e3 : H * q = (H / 18446744073709551616 * q) * 18446744073709551616 + H2 * q := by
    have : H = H / 18446744073709551616 * 18446744073709551616 + H2 := by omega
    have h2 : H * q = (H / 18446744073709551616 * 18446744073709551616 + H2) * q := congrArg (fun t => t * q) this
    rw [Int.add_mul, Int.mul_right_comm] at h2
    exact h2
  rw [eR]
  have hdiv : (H2 % p * q) % 2 ^ (64 - r) = 0 := by rw [hQ]; exact Int.mul_emod_left _ _
  rw [or_u64 (H2 % p * q) (L / p) (64 - r) (by omega) hdiv t0 (by omega) d0 (by rw [hQ]; exact d1) (by omega)]
  rw [e2, e3, e]
  generalize H / 18446744073709551616 * q = A at *
  generalize H2 / p = B at *
  generalize H2 % p * q = C at *
  omega

/-- Which bits are nought ahead of the first 1. -/
structure Nought (v : Int) (k : Nat) : Prop where
  le : k ≤ 192
  low : v % 2 ^ k = 0
  one : k < 192 → v / 2 ^ k % 2 = 1
theorem ctz_word (x : Nat) (h0 : x ≠ 0) (h1 : x < 18446744073709551616) : Lib.ctz 64 x < 64 ∧ (x : Int) % 2 ^ Lib.ctz 64 x = 0 ∧ (x : Int) / 2 ^ Lib.ctz 64 x % 2 = 1 := by
  obtain ⟨m, hm, hk⟩ := Lib.ctzFrom_spec 64 x (by omega) h1
  have e : Lib.ctz 64 x = Lib.ctzFrom 64 x := by simp [Lib.ctz, h0]
  rw [e]
  generalize Lib.ctzFrom 64 x = k at *
  have hp := pow_pos' k
  have ex : (x : Int) = 2 ^ k * (2 * (m : Int) + 1) := by
    have := congrArg (Int.ofNat) hm
    simp only [Int.ofNat_eq_natCast, Int.natCast_mul, Int.natCast_add, Int.natCast_pow] at this
    exact this
  refine ⟨hk, ?_, ?_⟩
  · rw [ex]; exact Int.mul_emod_right _ _
  · rw [ex, Int.mul_ediv_cancel_left _ (by omega)]; omega
end Go.Proofs.YtcdehbhdloaieaaGreatDoor
/-
  Contracts of math/bits.TrailingZeros64 and of regatta/wide's wordsOf and of words' long, at and bit.
-/
set_option linter.unusedVariables false
set_option linter.unusedSimpArgs false
namespace Go.Proofs.YtcdehbhdloaieaaGreatDoor
open Go.RowKit

/-- The table that TrailingZeros64 looks into, as its initialiser lays it. -/
def TabAt (w : World) : Prop := ∀ j, j < 64 → w.cell? ⟨2, j, none⟩ = some (.int .u8 (Lib.deBruijn64tab.getD j 0))
theorem TabAt.later {w w' : World} (h : TabAt w) (hb : Below w.heap.size w w') : TabAt w' := fun j hj => cell_later hb (h j hj)

theorem tz_key (x a : Nat) (hx : x < 18446744073709551616) (hx0 : x ≠ 0) (hlow : x &&& (18446744073709551616 - x) = a) :
    IntKind.u64.wrap (bits BinOp.and IntKind.u64 (x : Int) (IntKind.u64.wrap (-(x : Int))) * 285870213051353865) / 288230376151711744 = ((a * 285870213051353865 % 18446744073709551616 / 288230376151711744 : Nat) : Int) := by
  have e1 : IntKind.u64.wrap (-(x : Int)) = ((18446744073709551616 - x : Nat) : Int) := by rw [IntKind.wrap_u64]; omega
  rw [e1, bits_and_u64_nat x _ hx (by omega), hlow, IntKind.wrap_u64]
  omega
set_option maxHeartbeats 1000000 in
theorem tz_core (x k idx : Nat) (w : World) (hx0 : ((x : Int) == 0) = false)
    (key : IntKind.u64.wrap (bits BinOp.and IntKind.u64 (x : Int) (IntKind.u64.wrap (-(x : Int))) * 285870213051353865) / 288230376151711744 = (idx : Int))
    (hi : idx < 64) (hk : k < 64) (hcell : w.cell? ⟨2, idx, none⟩ = some (.int .u8 k)) :
    Calls Tryz.prog 137 #[.int .u64 x] w fun e w' => e = .returned (.int .i64 k) ∧ w' = w := by
  go_enter Tryz.func137, Tryz.ntmps137
  go_wp2_with (simp only [key])
  go_ret
  exact ⟨rfl, rfl⟩
theorem tz_zero (w : World) :
    Calls Tryz.prog 137 #[.int .u64 0] w fun e w' => e = .returned (.int .i64 64) ∧ w' = w := by
  go_enter Tryz.func137, Tryz.ntmps137
  go_wp2
  go_ret
  exact ⟨rfl, rfl⟩
theorem tz_any (x : Int) (x0 : 1 ≤ x) (x1 : x ≤ 18446744073709551615) (w : World) (hT : TabAt w) :
    ∃ k : Nat, k < 64 ∧ x % 2 ^ k = 0 ∧ x / 2 ^ k % 2 = 1 ∧ ∀ w : World, TabAt w → Calls Tryz.prog 137 #[.int .u64 x] w fun e w' => e = .returned (.int .i64 (k : Int)) ∧ w' = w := by
  obtain ⟨X, rfl⟩ := Int.eq_ofNat_of_zero_le (show 0 ≤ x by omega)
  obtain ⟨hlow, hk⟩ := Lib.lowest_bit 64 X (by omega) (by show X < 18446744073709551616; omega)
  obtain ⟨hi, htab⟩ := Lib.deBruijn64_at _ hk
  obtain ⟨c1, c2, c3⟩ := ctz_word X (by omega) (by omega)
  refine ⟨Lib.ctz 64 X, hk, c2, c3, fun w hT => ?_⟩
  refine tz_core X (Lib.ctz 64 X) _ w (beq_eq_false_iff_ne.2 (by omega)) (tz_key X _ (by omega) (by omega) hlow) hi hk ?_
  rw [hT _ hi, htab]

theorem t3_wrap (v : Int) : IntKind.u64.wrap (t3 v) = u3 v := by rw [IntKind.wrap_u64]; exact t3_u3 v
theorem u3_wrap (v : Int) : wrap64 (u3 v) = t3 v := by rw [w64]; exact u3_t3 v

set_option maxHeartbeats 400000 in
theorem wordsOf_any (v : Int) (w : World) :
    Calls Tryz.prog 119 #[.agg #[.int .i64 (t3 v), .int .u64 (m3 v), .int .u64 (lo v)]] w fun e w' => e = .returned (.agg #[.int .u64 (lo v), .int .u64 (m3 v), .int .u64 (u3 v)]) ∧ Below w.heap.size w w' := by
  have e := t3_wrap v
  go_enter Tryz.func119, Tryz.ntmps119
  go_wp2
  exact bodyPost_ret (v := .agg #[.int .u64 (lo v), .int .u64 (m3 v), .int .u64 (u3 v)]) (by simp [results, Tryz.results119, go_sem]) rfl ⟨rfl, bel2 _ _ _⟩

set_option maxHeartbeats 400000 in
theorem wlong_any (v : Int) (w : World) :
    Calls Tryz.prog 121 #[.agg #[.int .u64 (lo v), .int .u64 (m3 v), .int .u64 (u3 v)]] w fun e w' => e = .returned (.agg #[.int .i64 (t3 v), .int .u64 (m3 v), .int .u64 (lo v)]) ∧ Below w.heap.size w w' := by
  have e := u3_wrap v
  go_enter Tryz.func121, Tryz.ntmps121
  go_wp2
  exact bodyPost_ret (v := .agg #[.int .i64 (t3 v), .int .u64 (m3 v), .int .u64 (lo v)]) (by simp [results, Tryz.results121, go_sem]) rfl ⟨rfl, bel2 _ _ _⟩

set_option maxHeartbeats 400000 in
theorem at_any (v : Int) (i : Nat) (hi : i ≤ 100) (h0 : -3138550867693340381917894711603833208051177722232017256448 ≤ v) (h1 : v ≤ 3138550867693340381917894711603833208051177722232017256447) (w : World) :
    Calls Tryz.prog 133 #[.agg #[.int .u64 (lo v), .int .u64 (m3 v), .int .u64 (u3 v)], .int .i64 (i : Int)] w fun e w' => e = .returned (.int .u64 (wd v i)) ∧ Below w.heap.size w w' := by
  rcases (show i = 0 ∨ i = 1 ∨ i = 2 ∨ 3 ≤ i by omega) with rfl | rfl | rfl | h3
  · rw [wd_0]
    go_enter Tryz.func133, Tryz.ntmps133
    go_wp2
    go_ret
    exact ⟨rfl, bel1 _ _⟩
  · rw [wd_1]
    go_enter Tryz.func133, Tryz.ntmps133
    go_wp2
    go_ret
    exact ⟨rfl, bel1 _ _⟩
  · rw [wd_2]
    go_enter Tryz.func133, Tryz.ntmps133
    go_wp2
    go_ret
    exact ⟨rfl, bel1 _ _⟩
  · have e := u3_wrap v
    have h3I : (3 : Int) ≤ (i : Int) := by omega
    have ht := u3_top v h0 h1
    have HW : Hid (wd v i = IntKind.u64.wrap (t3 v / 9223372036854775808)) := by
      show _ = _
      rw [wd_top v i h3 h0 h1, ht]
      by_cases hn : v < 0
      · rw [if_pos hn, if_pos hn]; rfl
      · rw [if_neg hn, if_neg hn]; rfl
    clear ht
    go_enter Tryz.func133, Tryz.ntmps133
    go_wp2
    go_ret
    exact ⟨by rw [HW.out]; rfl, bel1 _ _⟩

set_option maxHeartbeats 1000000 in
theorem bit_any (v : Int) (n q r : Nat) (hn : n = 64 * q + r) (hq : q ≤ 2) (hr : r < 64) (w : World) :
    Calls Tryz.prog 134 #[.agg #[.int .u64 (lo v), .int .u64 (m3 v), .int .u64 (u3 v)], .int .i64 (n : Int)] w fun e w' => e = .returned (.int .u64 (v / 2 ^ n % 2)) ∧ Below w.heap.size w w' := by
  have hb := wd_bit v q r hr
  rw [← hn] at hb
  have hw := wd_rng v q
  have hp := pow_pos' r
  have d0 : 0 ≤ wd v q / 2 ^ r := Int.ediv_nonneg hw.1 (by omega)
  have d1 : wd v q / 2 ^ r ≤ wd v q := Int.ediv_le_self _ hw.1
  have ha := wand1 (wd v q / 2 ^ r) d0 (by omega)
  rw [hb] at ha
  have t1 : (n : Int).tdiv 64 = (q : Int) := by rw [Int.tdiv_eq_ediv_of_nonneg (by omega)]; omega
  have t2 : (n : Int).tmod 64 = (r : Int) := by rw [Int.tmod_eq_emod_of_nonneg (by omega)]; omega
  have n0 : (0 : Int) ≤ (n : Int) := by omega
  have HA : Hid (bits .and .u64 (wd v q / 2 ^ r) 1 = v / 2 ^ n % 2) := ha
  clear ha hb hn d0 d1 hp hw
  rcases (show q = 0 ∨ q = 1 ∨ q = 2 by omega) with rfl | rfl | rfl
  · rw [wd_0] at HA
    go_enter Tryz.func134, Tryz.ntmps134
    go_wp2
    go_ret
    exact ⟨by rw [← HA.out]; rfl, bel1 _ _⟩
  · rw [wd_1] at HA
    go_enter Tryz.func134, Tryz.ntmps134
    go_wp2
    go_ret
    exact ⟨by rw [← HA.out]; rfl, bel1 _ _⟩
  · rw [wd_2] at HA
    go_enter Tryz.func134, Tryz.ntmps134
    go_wp2
    go_ret
    exact ⟨by rw [← HA.out]; rfl, bel1 _ _⟩
end Go.Proofs.YtcdehbhdloaieaaGreatDoor
/-
  The contract of words' plus.
-/
set_option linter.unusedVariables false
set_option linter.unusedSimpArgs false
namespace Go.Proofs.YtcdehbhdloaieaaGreatDoor
open Go.RowKit

/-- A block of three cells. -/
structure B3 (b : Nat) (x y z : Value) (w : World) : Prop where
  c0 : w.cell? ⟨b, 0, none⟩ = some x
  c1 : w.cell? ⟨b, 1, none⟩ = some y
  c2 : w.cell? ⟨b, 2, none⟩ = some z
  f0 : w.frozen? ⟨b, 0, none⟩ = false
  f1 : w.frozen? ⟨b, 1, none⟩ = false
  f2 : w.frozen? ⟨b, 2, none⟩ = false
theorem B3.new (w : World) (x y z : Value) (t : TypeId) : B3 w.heap.size x y z (w.alloc (.cells #[x, y, z] t)) where
  c0 := by simp [go_sem]
  c1 := by simp [go_sem]
  c2 := by simp [go_sem]
  f0 := by simp [go_sem]
  f1 := by simp [go_sem]
  f2 := by simp [go_sem]
theorem B3.later {b : Nat} {x y z : Value} {w w' : World} (h : B3 b x y z w) (hb : Below w.heap.size w w') : B3 b x y z w' where
  c0 := cell_later hb h.c0
  c1 := cell_later hb h.c1
  c2 := cell_later hb h.c2
  f0 := frozen_later hb h.c0 h.f0
  f1 := frozen_later hb h.c1 h.f1
  f2 := frozen_later hb h.c2 h.f2
theorem B3.lt {b : Nat} {x y z : Value} {w : World} (h : B3 b x y z w) : b < w.heap.size := World.block_lt_of_cell? _ _ h.c0

theorem B3.drew {b : Nat} {x y z : Value} {w : World} (h : B3 b x y z w) : B3 b x y z w.drew := ⟨h.c0, h.c1, h.c2, h.f0, h.f1, h.f2⟩
theorem B3.far {b : Nat} {x y z : Value} {w : World} {p : Addr} (h : B3 b x y z w) (u : Value) (hp : p.block ≠ b) : B3 b x y z (w.setCell p u) where
  c0 := cell_set hp h.c0
  c1 := cell_set hp h.c1
  c2 := cell_set hp h.c2
  f0 := by rw [World.frozen?_setCell]; exact h.f0
  f1 := by rw [World.frozen?_setCell]; exact h.f1
  f2 := by rw [World.frozen?_setCell]; exact h.f2
theorem B3.set0 {b : Nat} {x y z : Value} {w : World} (h : B3 b x y z w) (u : Value) : B3 b u y z (w.setCell ⟨b, 0, none⟩ u) := by
  have c0 := h.c0
  have c1 := h.c1
  have c2 := h.c2
  have f0 := h.f0
  have f1 := h.f1
  have f2 := h.f2
  exact ⟨by simp [go_sem, c0], by simp [go_sem, c1], by simp [go_sem, c2], by simp [go_sem, f0], by simp [go_sem, f1], by simp [go_sem, f2]⟩
theorem B3.set1 {b : Nat} {x y z : Value} {w : World} (h : B3 b x y z w) (u : Value) : B3 b x u z (w.setCell ⟨b, 1, none⟩ u) := by
  have c0 := h.c0
  have c1 := h.c1
  have c2 := h.c2
  have f0 := h.f0
  have f1 := h.f1
  have f2 := h.f2
  exact ⟨by simp [go_sem, c0], by simp [go_sem, c1], by simp [go_sem, c2], by simp [go_sem, f0], by simp [go_sem, f1], by simp [go_sem, f2]⟩
theorem B3.set2 {b : Nat} {x y z : Value} {w : World} (h : B3 b x y z w) (u : Value) : B3 b x y u (w.setCell ⟨b, 2, none⟩ u) := by
  have c0 := h.c0
  have c1 := h.c1
  have c2 := h.c2
  have f0 := h.f0
  have f1 := h.f1
  have f2 := h.f2
  exact ⟨by simp [go_sem, c0], by simp [go_sem, c1], by simp [go_sem, c2], by simp [go_sem, f0], by simp [go_sem, f1], by simp [go_sem, f2]⟩

theorem plus_words (a b : Int) : (lo a + lo b) % 18446744073709551616 = lo (a + b) ∧ (m3 a + m3 b + (lo a + lo b) / 18446744073709551616) % 18446744073709551616 = m3 (a + b) ∧ (u3 a + u3 b + (m3 a + m3 b + (lo a + lo b) / 18446744073709551616) / 18446744073709551616) % 18446744073709551616 = u3 (a + b) := by
  have h2 : ∀ v : Int, v / 340282366920938463463374607431768211456 = v / 18446744073709551616 / 18446744073709551616 := by intro v; omega
  unfold u3
  rw [h2 a, h2 b, h2 (a + b)]
  have e1 : (a + b) / 18446744073709551616 = a / 18446744073709551616 + b / 18446744073709551616 + (lo a + lo b) / 18446744073709551616 := by unfold lo; omega
  have e0 : (lo a + lo b) % 18446744073709551616 = lo (a + b) := by unfold lo; omega
  unfold m3
  rw [e1, e0]
  generalize (lo a + lo b) / 18446744073709551616 = c
  generalize a / 18446744073709551616 = p
  generalize b / 18446744073709551616 = q
  refine ⟨rfl, by omega, ?_⟩
  have e2 : (p + q + c) / 18446744073709551616 = p / 18446744073709551616 + q / 18446744073709551616 + (p % 18446744073709551616 + q % 18446744073709551616 + c) / 18446744073709551616 := by omega
  rw [e2]
  omega

set_option maxHeartbeats 1000000 in
theorem wplus_any (a b : Int) (w : World) :
    Calls Tryz.prog 120 #[.agg #[.int .u64 (lo a), .int .u64 (m3 a), .int .u64 (u3 a)], .agg #[.int .u64 (lo b), .int .u64 (m3 b), .int .u64 (u3 b)]] w fun e w' => e = .returned (.agg #[.int .u64 (lo (a + b)), .int .u64 (m3 (a + b)), .int .u64 (u3 (a + b))]) ∧ Below w.heap.size w w' := by
  obtain ⟨e0, e1, e2⟩ := plus_words a b
  have HE : Hid ((lo a + lo b) % 18446744073709551616 = lo (a + b) ∧ (m3 a + m3 b + (lo a + lo b) / 18446744073709551616) % 18446744073709551616 = m3 (a + b) ∧ (u3 a + u3 b + (m3 a + m3 b + (lo a + lo b) / 18446744073709551616) / 18446744073709551616) % 18446744073709551616 = u3 (a + b)) := ⟨e0, e1, e2⟩
  clear e0 e1 e2
  have la := lo_ge a
  have la' := lo_le a
  have lb := lo_ge b
  have lb' := lo_le b
  obtain ⟨ma, ma'⟩ := m3_rng a
  obtain ⟨mb, mb'⟩ := m3_rng b
  obtain ⟨ua, ua'⟩ := u3_rng a
  obtain ⟨ub, ub'⟩ := u3_rng b
  generalize lo a = a0 at *
  generalize m3 a = a1 at *
  generalize u3 a = a2 at *
  generalize lo b = b0 at *
  generalize m3 b = b1 at *
  generalize u3 b = b2 at *
  have A0 := ((B3.new w (.int .u64 a0) (.int .u64 a1) (.int .u64 a2) 176).later (bel1 _ (.cells #[.int .u64 b0, .int .u64 b1, .int .u64 b2] 176))).later (bel1 _ (.cells #[.int .u64 0, .int .u64 0, .int .u64 0] 176))
  have C0 := (B3.new (w.alloc (.cells #[.int .u64 a0, .int .u64 a1, .int .u64 a2] 176)) (.int .u64 b0) (.int .u64 b1) (.int .u64 b2) 176).later (bel1 _ (.cells #[.int .u64 0, .int .u64 0, .int .u64 0] 176))
  have R0 := B3.new ((w.alloc (.cells #[.int .u64 a0, .int .u64 a1, .int .u64 a2] 176)).alloc (.cells #[.int .u64 b0, .int .u64 b1, .int .u64 b2] 176)) (.int .u64 0) (.int .u64 0) (.int .u64 0) 176
  have W0 := bel3 w (.cells #[.int .u64 a0, .int .u64 a1, .int .u64 a2] 176) (.cells #[.int .u64 b0, .int .u64 b1, .int .u64 b2] 176) (.cells #[.int .u64 0, .int .u64 0, .int .u64 0] 176)
  simp only [World.size_alloc] at C0 R0
  go_enter Tryz.func120, Tryz.ntmps120
  go_wp2
  go_loopw [5, 7] (fun c i wr => ∃ (x0 x1 x2 cc : Int), c = .int .u64 cc ∧ B3 w.heap.size (.int .u64 x0) (.int .u64 x1) (.int .u64 x2) wr ∧ B3 (w.heap.size + 1) (.int .u64 b0) (.int .u64 b1) (.int .u64 b2) wr ∧ B3 (w.heap.size + 2) (.int .u64 0) (.int .u64 0) (.int .u64 0) wr ∧ Below w.heap.size w wr ∧
      ((i = .int .i64 0 ∧ x0 = a0 ∧ x1 = a1 ∧ x2 = a2 ∧ cc = 0) ∨ (i = .int .i64 1 ∧ x0 = lo (a + b) ∧ x1 = a1 ∧ x2 = a2 ∧ cc = (a0 + b0) / 18446744073709551616) ∨ (i = .int .i64 2 ∧ x0 = lo (a + b) ∧ x1 = m3 (a + b) ∧ x2 = a2 ∧ cc = (a1 + b1 + (a0 + b0) / 18446744073709551616) / 18446744073709551616) ∨ (i = .int .i64 3 ∧ x0 = lo (a + b) ∧ x1 = m3 (a + b) ∧ x2 = u3 (a + b)))) (fun _ i _ => 3 - (intOf i).toNat)
  case atStart => exact ⟨a0, a1, a2, 0, rfl, A0, C0, R0, W0, .inl ⟨rfl, rfl, rfl, rfl, rfl⟩⟩
  case round =>
    clear A0 C0 R0 W0
    obtain ⟨x0, x1, x2, cc, rfl, hA, hC, hR, hW, hcase⟩ := hrel
    have q0 := hA.c0
    have q1 := hA.c1
    have q2 := hA.c2
    have g0 := hA.f0
    have g1 := hA.f1
    have g2 := hA.f2
    have p0 := hC.c0
    have p1 := hC.c1
    have p2 := hC.c2
    have hsz := hA.lt
    have hR2 : B3 (w.heap.size + 2) (.int .u64 0) (.int .u64 0) (.int .u64 0) wr := hR
    rcases hcase with ⟨rfl, hx0, hx1, hx2, hcc⟩ | ⟨rfl, hx0, hx1, hx2, hcc⟩ | ⟨rfl, hx0, hx1, hx2, hcc⟩ | ⟨rfl, hx0, hx1, hx2⟩
    · have X0 : 0 ≤ x0 := by omega
      have HX : Hid (x0 = a0 ∧ x1 = a1 ∧ x2 = a2) := ⟨hx0, hx1, hx2⟩
      subst hcc
      clear hx0 hx1 hx2 hR
      go_upto_region 5 with fail
      go_region_with (simp only [run_add64_0 x0 b0 X0 lb])
      all_goals
        have N := hA.set0 (.int .u64 ((x0 + b0) % 18446744073709551616))
        have N2 := hC.far (p := ⟨w.heap.size, 0, none⟩) (.int .u64 ((x0 + b0) % 18446744073709551616)) (by dsimp only; omega)
        have N3 := hR2.far (p := ⟨w.heap.size, 0, none⟩) (.int .u64 ((x0 + b0) % 18446744073709551616)) (by dsimp only; omega)
        have NW : Below w.heap.size w (wr.setCell ⟨w.heap.size, 0, none⟩ (.int .u64 ((x0 + b0) % 18446744073709551616))).drew := (hW.setCell (by dsimp only; omega) _).drew
        clear hA hC hW q0 q1 q2 g0 g1 g2 p0 p1 p2
        go_wp2
        go_roundw
        case rel => exact ⟨_, _, _, _, rfl, N.drew, N2.drew, N3.drew, NW, .inr (.inl ⟨rfl, by rw [← HE.out.1, HX.out.1], HX.out.2.1, HX.out.2.2, by rw [HX.out.1]⟩)⟩
        case measure => simp [intOf]
    · have X1 : 0 ≤ x1 := by omega
      have C0 : 0 ≤ cc := by omega
      have C1 : cc ≤ 1 := by omega
      have HX : Hid (x0 = lo (a + b) ∧ x1 = a1 ∧ x2 = a2 ∧ cc = (a0 + b0) / 18446744073709551616) := ⟨hx0, hx1, hx2, hcc⟩
      clear hx0 hx1 hx2 hcc hR
      go_upto_region 5 with fail
      go_region_with (simp only [run_add64_at x1 b1 cc X1 mb C0 C1])
      all_goals
        have N := hA.set1 (.int .u64 ((x1 + b1 + cc) % 18446744073709551616))
        have N2 := hC.far (p := ⟨w.heap.size, 1, none⟩) (.int .u64 ((x1 + b1 + cc) % 18446744073709551616)) (by dsimp only; omega)
        have N3 := hR2.far (p := ⟨w.heap.size, 1, none⟩) (.int .u64 ((x1 + b1 + cc) % 18446744073709551616)) (by dsimp only; omega)
        have NW : Below w.heap.size w (wr.setCell ⟨w.heap.size, 1, none⟩ (.int .u64 ((x1 + b1 + cc) % 18446744073709551616))).drew := (hW.setCell (by dsimp only; omega) _).drew
        clear hA hC hW q0 q1 q2 g0 g1 g2 p0 p1 p2
        go_wp2
        go_roundw
        case rel => exact ⟨_, _, _, _, rfl, N.drew, N2.drew, N3.drew, NW, .inr (.inr (.inl ⟨rfl, HX.out.1, by rw [← HE.out.2.1, HX.out.2.1, HX.out.2.2.2], HX.out.2.2.1, by rw [HX.out.2.1, HX.out.2.2.2]⟩))⟩
        case measure => simp [intOf]
    · have X2 : 0 ≤ x2 := by omega
      have C0 : 0 ≤ cc := by omega
      have C1 : cc ≤ 1 := by omega
      have HX : Hid (x0 = lo (a + b) ∧ x1 = m3 (a + b) ∧ x2 = a2 ∧ cc = (a1 + b1 + (a0 + b0) / 18446744073709551616) / 18446744073709551616) := ⟨hx0, hx1, hx2, hcc⟩
      clear hx0 hx1 hx2 hcc hR
      go_upto_region 5 with fail
      go_region_with (simp only [run_add64_at x2 b2 cc X2 ub C0 C1])
      all_goals
        have N := hA.set2 (.int .u64 ((x2 + b2 + cc) % 18446744073709551616))
        have N2 := hC.far (p := ⟨w.heap.size, 2, none⟩) (.int .u64 ((x2 + b2 + cc) % 18446744073709551616)) (by dsimp only; omega)
        have N3 := hR2.far (p := ⟨w.heap.size, 2, none⟩) (.int .u64 ((x2 + b2 + cc) % 18446744073709551616)) (by dsimp only; omega)
        have NW : Below w.heap.size w (wr.setCell ⟨w.heap.size, 2, none⟩ (.int .u64 ((x2 + b2 + cc) % 18446744073709551616))).drew := (hW.setCell (by dsimp only; omega) _).drew
        clear hA hC hW q0 q1 q2 g0 g1 g2 p0 p1 p2
        go_wp2
        go_roundw
        case rel => exact ⟨_, _, _, _, rfl, N.drew, N2.drew, N3.drew, NW, .inr (.inr (.inr ⟨rfl, HX.out.1, HX.out.2.1, by rw [← HE.out.2.2, HX.out.2.2.1, HX.out.2.2.2]⟩))⟩
        case measure => simp [intOf]
    · subst hx0 hx1 hx2
      have r0 := hR.c0
      have r1 := hR.c1
      have r2 := hR.c2
      have s0 := hR.f0
      have s1 := hR.f1
      have s2 := hR.f2
      go_wp2
      exact bodyPost_ret (v := .agg #[.int .u64 (lo (a + b)), .int .u64 (m3 (a + b)), .int .u64 (u3 (a + b))]) (by simp [results, Tryz.results120, go_sem, r0, r1, r2]) rfl ⟨rfl, ((hW.setCell (by dsimp only; omega) _).setCell (by dsimp only; omega) _).setCell (by dsimp only; omega) _⟩
end Go.Proofs.YtcdehbhdloaieaaGreatDoor
/-
  The contract of words' down.
-/
set_option linter.unusedVariables false
set_option linter.unusedSimpArgs false
namespace Go.Proofs.YtcdehbhdloaieaaGreatDoor
open Go.RowKit

theorem c3_later {w w' : World} {a0 a1 a2 : Addr} {v0 v1 v2 : Value} (h : w.cell? a0 = some v0 ∧ w.cell? a1 = some v1 ∧ w.cell? a2 = some v2) (hb : Below w.heap.size w w') : w'.cell? a0 = some v0 ∧ w'.cell? a1 = some v1 ∧ w'.cell? a2 = some v2 := by
  obtain ⟨h0, h1, h2⟩ := h
  exact ⟨cell_later hb h0, cell_later hb h1, cell_later hb h2⟩
theorem hidD {a b c : World} (h : Hid (Below a.heap.size a b)) (k : Below b.heap.size b c) : Hid (Below a.heap.size a c) := bchain h.out k

theorem at_int (v J : Int) (j0 : 0 ≤ J) (j1 : J ≤ 100) (h0 : -3138550867693340381917894711603833208051177722232017256448 ≤ v) (h1 : v ≤ 3138550867693340381917894711603833208051177722232017256447) (w : World) :
    Calls Tryz.prog 133 #[.agg #[.int .u64 (lo v), .int .u64 (m3 v), .int .u64 (u3 v)], .int .i64 J] w fun e w' => e = .returned (.int .u64 (wd v J.toNat)) ∧ Below w.heap.size w w' := by
  have h := at_any v J.toNat (by omega) h0 h1 w
  rw [Int.toNat_of_nonneg j0] at h
  exact h

theorem down_at (v : Int) (n q r i : Nat) (hn : n = 64 * q + r) (hr : r < 64) : bits .or .u64 (wd v (i + q) / 2 ^ r) (wd v (i + q + 1) * 2 ^ (64 - r) % 18446744073709551616) = wd (v / 2 ^ n) i := by
  have e1 : wd v (i + q + 1) = v / 2 ^ (64 * (i + q)) / 18446744073709551616 % 18446744073709551616 := by
    unfold wd
    rw [show 64 * (i + q + 1) = 64 * (i + q) + 64 by omega, ← wbit_at]
    rfl
  have e2 : wd (v / 2 ^ n) i = v / 2 ^ (64 * (i + q)) / 2 ^ r % 18446744073709551616 := by
    unfold wd
    rw [wbit_at, wbit_at, show n + 64 * i = 64 * (i + q) + r by omega]
  rw [e1, e2]
  exact down_word _ r hr

set_option maxHeartbeats 2000000 in
theorem down_any (v : Int) (n q r : Nat) (hn : n = 64 * q + r) (hq : q ≤ 2) (hr : r < 64) (h0 : -3138550867693340381917894711603833208051177722232017256448 ≤ v) (h1 : v ≤ 3138550867693340381917894711603833208051177722232017256447) (w : World) :
    Calls Tryz.prog 130 #[.agg #[.int .u64 (lo v), .int .u64 (m3 v), .int .u64 (u3 v)], .int .i64 (n : Int)] w fun e w' => e = .returned (.agg #[.int .u64 (lo (v / 2 ^ n)), .int .u64 (m3 (v / 2 ^ n)), .int .u64 (u3 (v / 2 ^ n))]) ∧ Below w.heap.size w w' := by
  have D0 := down_at v n q r 0 hn hr
  have D1 := down_at v n q r 1 hn hr
  have D2 := down_at v n q r 2 hn hr
  rw [wd_0, Nat.zero_add] at D0
  rw [wd_1] at D1
  rw [wd_2] at D2
  have H0 : Hid (bits .or .u64 (wd v q / 2 ^ r) (IntKind.u64.wrap (wd v (q + 1) * 2 ^ (64 - r))) = lo (v / 2 ^ n)) := by show _ = _; rw [IntKind.wrap_u64]; exact D0
  have H1 : Hid (bits .or .u64 (wd v (1 + q) / 2 ^ r) (IntKind.u64.wrap (wd v (1 + q + 1) * 2 ^ (64 - r))) = m3 (v / 2 ^ n)) := by show _ = _; rw [IntKind.wrap_u64]; exact D1
  have H2 : Hid (bits .or .u64 (wd v (2 + q) / 2 ^ r) (IntKind.u64.wrap (wd v (2 + q + 1) * 2 ^ (64 - r))) = u3 (v / 2 ^ n)) := by show _ = _; rw [IntKind.wrap_u64]; exact D2
  clear D0 D1 D2
  have t1 : (n : Int).tdiv 64 = (q : Int) := by rw [Int.tdiv_eq_ediv_of_nonneg (by omega)]; omega
  have t2 : (n : Int).tmod 64 = (r : Int) := by rw [Int.tmod_eq_emod_of_nonneg (by omega)]; omega
  have n0 : (0 : Int) ≤ (n : Int) := by omega
  have rI0 : (0 : Int) ≤ (r : Int) := by omega
  have rI1 : (r : Int) ≤ 63 := by omega
  have qI : (q : Int) ≤ 2 := by omega
  clear hn hq
  generalize hX0 : lo v = a0 at *
  generalize hX1 : m3 v = a1 at *
  generalize hX2 : u3 v = a2 at *
  have AT : Hid (∀ (J : Int) (W : World), 0 ≤ J → J ≤ 100 → Calls Tryz.prog 133 #[.agg #[.int .u64 a0, .int .u64 a1, .int .u64 a2], .int .i64 J] W fun e w' => e = .returned (.int .u64 (wd v J.toNat)) ∧ Below W.heap.size W w') := by
    intro J W j0 j1
    have h := at_int v J j0 j1 h0 h1 W
    rw [hX0, hX1, hX2] at h
    exact h
  clear hX0 hX1 hX2
  have A0 := ((B3.new w (.int .u64 a0) (.int .u64 a1) (.int .u64 a2) 176).later (bel1 _ (.cells #[.int .u64 0, .int .u64 0, .int .u64 0] 176))).later (bel1 _ (.cells #[.int .u64 0, .int .u64 0, .int .u64 0] 176))
  have R0 := (B3.new (w.alloc (.cells #[.int .u64 a0, .int .u64 a1, .int .u64 a2] 176)) (.int .u64 0) (.int .u64 0) (.int .u64 0) 176).later (bel1 _ (.cells #[.int .u64 0, .int .u64 0, .int .u64 0] 176))
  have O0 := B3.new ((w.alloc (.cells #[.int .u64 a0, .int .u64 a1, .int .u64 a2] 176)).alloc (.cells #[.int .u64 0, .int .u64 0, .int .u64 0] 176)) (.int .u64 0) (.int .u64 0) (.int .u64 0) 176
  have W0 := bel3 w (.cells #[.int .u64 a0, .int .u64 a1, .int .u64 a2] 176) (.cells #[.int .u64 0, .int .u64 0, .int .u64 0] 176) (.cells #[.int .u64 0, .int .u64 0, .int .u64 0] 176)
  simp only [World.size_alloc] at O0 R0
  go_enter Tryz.func130, Tryz.ntmps130
  go_wp2
  go_loopw [8] (fun i wr => ∃ (x0 x1 x2 : Int), B3 w.heap.size (.int .u64 a0) (.int .u64 a1) (.int .u64 a2) wr ∧ B3 (w.heap.size + 1) (.int .u64 0) (.int .u64 0) (.int .u64 0) wr ∧ B3 (w.heap.size + 2) (.int .u64 x0) (.int .u64 x1) (.int .u64 x2) wr ∧ Below w.heap.size w wr ∧
      ((i = .int .i64 0 ∧ True) ∨ (i = .int .i64 1 ∧ x0 = lo (v / 2 ^ n)) ∨ (i = .int .i64 2 ∧ x0 = lo (v / 2 ^ n) ∧ x1 = m3 (v / 2 ^ n)) ∨ (i = .int .i64 3 ∧ x0 = lo (v / 2 ^ n) ∧ x1 = m3 (v / 2 ^ n) ∧ x2 = u3 (v / 2 ^ n)))) (fun i _ => 3 - (intOf i).toNat)
  case atStart => exact ⟨0, 0, 0, A0, R0, O0, W0, .inl ⟨rfl, trivial⟩⟩
  case round =>
    clear A0 R0 O0 W0
    obtain ⟨x0, x1, x2, hA, hR, hO, hW, hcase⟩ := hrel
    have hsz := hA.lt
    have hsz2 := hO.lt
    rcases hcase with ⟨rfl, -⟩ | ⟨rfl, hx0⟩ | ⟨rfl, hx0, hx1⟩ | ⟨rfl, hx0, hx1, hx2⟩
    · have k1 : IntKind.i64.wrap ((q : Int) + 1) = (q : Int) + 1 := by rw [IntKind.wrap_i64]; omega
      have k2 : IntKind.i64.wrap (64 - (r : Int)) = 64 - (r : Int) := by rw [IntKind.wrap_i64]; omega
      have k3 : (0 : Int) ≤ 64 - (r : Int) := by omega
      go_upto_region 6 with fail
      have hd1 : Below wr.heap.size wr wr.drew := (Below.refl _ _).drew
      have CA := hA.later hd1
      have CO := hO.later hd1
      have CR := hR.later hd1
      have CW : Hid (Below w.heap.size w wr.drew) := hW.drew
      have C : wr.drew.cell? ⟨w.heap.size, 0, none⟩ = some (.int .u64 a0) ∧ wr.drew.cell? ⟨w.heap.size, 1, none⟩ = some (.int .u64 a1) ∧ wr.drew.cell? ⟨w.heap.size, 2, none⟩ = some (.int .u64 a2) := ⟨CA.c0, CA.c1, CA.c2⟩
      have CC0 := CO.c0
      have CC1 := CO.c1
      have CC2 := CO.c2
      have CF0 := CO.f0
      have CF1 := CO.f1
      have CF2 := CO.f2
      clear hd1 hA hR hO hW
      go_region_held3 (fun w' => w'.cell? ⟨w.heap.size, 0, none⟩ = some (.int .u64 a0) ∧ w'.cell? ⟨w.heap.size, 1, none⟩ = some (.int .u64 a1) ∧ w'.cell? ⟨w.heap.size, 2, none⟩ = some (.int .u64 a2)) (first | exact C | exact ⟨cell_set (by dsimp only; omega) C.1, cell_set (by dsimp only; omega) C.2.1, cell_set (by dsimp only; omega) C.2.2⟩) (first
        | (go_at_call 133; refine (AT.out _ _ (by omega) (by omega)).mono ?_; rintro e wz ⟨rfl, hb⟩; replace C := c3_later C hb; replace CC0 := cell_later hb CC0; replace CC1 := cell_later hb CC1; replace CC2 := cell_later hb CC2; replace CF0 := frozen_later hb CO.c0 CF0; replace CF1 := frozen_later hb CO.c1 CF1; replace CF2 := frozen_later hb CO.c2 CF2; replace CA := CA.later hb; replace CO := CO.later hb; replace CR := CR.later hb; replace CW := hidD CW hb; clear hb))
      have N := CO.set0 (.int .u64 (bits .or .u64 (wd v q / 2 ^ r) (IntKind.u64.wrap (wd v (q + 1) * 2 ^ (64 - r)))))
      have N2 := CA.far (p := ⟨w.heap.size + 2, 0, none⟩) (.int .u64 (bits .or .u64 (wd v q / 2 ^ r) (IntKind.u64.wrap (wd v (q + 1) * 2 ^ (64 - r))))) (by dsimp only; omega)
      have N3 := CR.far (p := ⟨w.heap.size + 2, 0, none⟩) (.int .u64 (bits .or .u64 (wd v q / 2 ^ r) (IntKind.u64.wrap (wd v (q + 1) * 2 ^ (64 - r))))) (by dsimp only; omega)
      have NW : Below w.heap.size w (wz.setCell ⟨w.heap.size + 2, 0, none⟩ (.int .u64 (bits .or .u64 (wd v q / 2 ^ r) (IntKind.u64.wrap (wd v (q + 1) * 2 ^ (64 - r)))))) := CW.out.setCell (by dsimp only; omega) _
      clear CO CA CR CW C CC0 CC1 CC2 CF0 CF1 CF2
      go_wp2
      go_roundw
      case rel => exact ⟨_, _, _, N2, N3, N, NW, .inr (.inl ⟨rfl, H0.out⟩)⟩
      case measure => simp [intOf]
    · have k0 : IntKind.i64.wrap (1 + (q : Int)) = 1 + (q : Int) := by rw [IntKind.wrap_i64]; omega
      have k1 : IntKind.i64.wrap (1 + (q : Int) + 1) = 1 + (q : Int) + 1 := by rw [IntKind.wrap_i64]; omega
      have kk : (1 + (q : Int)).toNat = 1 + q := by omega
      have kk2 : (1 + (q : Int) + 1).toNat = 1 + q + 1 := by omega
      have k2 : IntKind.i64.wrap (64 - (r : Int)) = 64 - (r : Int) := by rw [IntKind.wrap_i64]; omega
      have k3 : (0 : Int) ≤ 64 - (r : Int) := by omega
      have HX : Hid (x0 = lo (v / 2 ^ n)) := hx0
      clear hx0
      go_upto_region 6 with fail
      have hd1 : Below wr.heap.size wr wr.drew := (Below.refl _ _).drew
      have CA := hA.later hd1
      have CO := hO.later hd1
      have CR := hR.later hd1
      have CW : Hid (Below w.heap.size w wr.drew) := hW.drew
      have C : wr.drew.cell? ⟨w.heap.size, 0, none⟩ = some (.int .u64 a0) ∧ wr.drew.cell? ⟨w.heap.size, 1, none⟩ = some (.int .u64 a1) ∧ wr.drew.cell? ⟨w.heap.size, 2, none⟩ = some (.int .u64 a2) := ⟨CA.c0, CA.c1, CA.c2⟩
      have CC0 := CO.c0
      have CC1 := CO.c1
      have CC2 := CO.c2
      have CF0 := CO.f0
      have CF1 := CO.f1
      have CF2 := CO.f2
      clear hd1 hA hR hO hW
      go_region_held3 (fun w' => w'.cell? ⟨w.heap.size, 0, none⟩ = some (.int .u64 a0) ∧ w'.cell? ⟨w.heap.size, 1, none⟩ = some (.int .u64 a1) ∧ w'.cell? ⟨w.heap.size, 2, none⟩ = some (.int .u64 a2)) (first | exact C | exact ⟨cell_set (by dsimp only; omega) C.1, cell_set (by dsimp only; omega) C.2.1, cell_set (by dsimp only; omega) C.2.2⟩) (first
        | (go_at_call 133; refine (AT.out _ _ (by omega) (by omega)).mono ?_; rintro e wz ⟨rfl, hb⟩; replace C := c3_later C hb; replace CC0 := cell_later hb CC0; replace CC1 := cell_later hb CC1; replace CC2 := cell_later hb CC2; replace CF0 := frozen_later hb CO.c0 CF0; replace CF1 := frozen_later hb CO.c1 CF1; replace CF2 := frozen_later hb CO.c2 CF2; replace CA := CA.later hb; replace CO := CO.later hb; replace CR := CR.later hb; replace CW := hidD CW hb; clear hb))
      have N := CO.set1 (.int .u64 (bits .or .u64 (wd v (1 + q) / 2 ^ r) (IntKind.u64.wrap (wd v (1 + q + 1) * 2 ^ (64 - r)))))
      have N2 := CA.far (p := ⟨w.heap.size + 2, 1, none⟩) (.int .u64 (bits .or .u64 (wd v (1 + q) / 2 ^ r) (IntKind.u64.wrap (wd v (1 + q + 1) * 2 ^ (64 - r))))) (by dsimp only; omega)
      have N3 := CR.far (p := ⟨w.heap.size + 2, 1, none⟩) (.int .u64 (bits .or .u64 (wd v (1 + q) / 2 ^ r) (IntKind.u64.wrap (wd v (1 + q + 1) * 2 ^ (64 - r))))) (by dsimp only; omega)
      have NW : Below w.heap.size w (wz.setCell ⟨w.heap.size + 2, 1, none⟩ (.int .u64 (bits .or .u64 (wd v (1 + q) / 2 ^ r) (IntKind.u64.wrap (wd v (1 + q + 1) * 2 ^ (64 - r)))))) := CW.out.setCell (by dsimp only; omega) _
      clear CO CA CR CW C CC0 CC1 CC2 CF0 CF1 CF2
      go_wp2
      go_roundw
      case rel => exact ⟨_, _, _, N2, N3, N, NW, .inr (.inr (.inl ⟨rfl, HX.out, H1.out⟩))⟩
      case measure => simp [intOf]
    · have k0 : IntKind.i64.wrap (2 + (q : Int)) = 2 + (q : Int) := by rw [IntKind.wrap_i64]; omega
      have k1 : IntKind.i64.wrap (2 + (q : Int) + 1) = 2 + (q : Int) + 1 := by rw [IntKind.wrap_i64]; omega
      have kk : (2 + (q : Int)).toNat = 2 + q := by omega
      have kk2 : (2 + (q : Int) + 1).toNat = 2 + q + 1 := by omega
      have k2 : IntKind.i64.wrap (64 - (r : Int)) = 64 - (r : Int) := by rw [IntKind.wrap_i64]; omega
      have k3 : (0 : Int) ≤ 64 - (r : Int) := by omega
      have HX : Hid (x0 = lo (v / 2 ^ n) ∧ x1 = m3 (v / 2 ^ n)) := ⟨hx0, hx1⟩
      clear hx0 hx1
      go_upto_region 6 with fail
      have hd1 : Below wr.heap.size wr wr.drew := (Below.refl _ _).drew
      have CA := hA.later hd1
      have CO := hO.later hd1
      have CR := hR.later hd1
      have CW : Hid (Below w.heap.size w wr.drew) := hW.drew
      have C : wr.drew.cell? ⟨w.heap.size, 0, none⟩ = some (.int .u64 a0) ∧ wr.drew.cell? ⟨w.heap.size, 1, none⟩ = some (.int .u64 a1) ∧ wr.drew.cell? ⟨w.heap.size, 2, none⟩ = some (.int .u64 a2) := ⟨CA.c0, CA.c1, CA.c2⟩
      have CC0 := CO.c0
      have CC1 := CO.c1
      have CC2 := CO.c2
      have CF0 := CO.f0
      have CF1 := CO.f1
      have CF2 := CO.f2
      clear hd1 hA hR hO hW
      go_region_held3 (fun w' => w'.cell? ⟨w.heap.size, 0, none⟩ = some (.int .u64 a0) ∧ w'.cell? ⟨w.heap.size, 1, none⟩ = some (.int .u64 a1) ∧ w'.cell? ⟨w.heap.size, 2, none⟩ = some (.int .u64 a2)) (first | exact C | exact ⟨cell_set (by dsimp only; omega) C.1, cell_set (by dsimp only; omega) C.2.1, cell_set (by dsimp only; omega) C.2.2⟩) (first
        | (go_at_call 133; refine (AT.out _ _ (by omega) (by omega)).mono ?_; rintro e wz ⟨rfl, hb⟩; replace C := c3_later C hb; replace CC0 := cell_later hb CC0; replace CC1 := cell_later hb CC1; replace CC2 := cell_later hb CC2; replace CF0 := frozen_later hb CO.c0 CF0; replace CF1 := frozen_later hb CO.c1 CF1; replace CF2 := frozen_later hb CO.c2 CF2; replace CA := CA.later hb; replace CO := CO.later hb; replace CR := CR.later hb; replace CW := hidD CW hb; clear hb))
      have N := CO.set2 (.int .u64 (bits .or .u64 (wd v (2 + q) / 2 ^ r) (IntKind.u64.wrap (wd v (2 + q + 1) * 2 ^ (64 - r)))))
      have N2 := CA.far (p := ⟨w.heap.size + 2, 2, none⟩) (.int .u64 (bits .or .u64 (wd v (2 + q) / 2 ^ r) (IntKind.u64.wrap (wd v (2 + q + 1) * 2 ^ (64 - r))))) (by dsimp only; omega)
      have N3 := CR.far (p := ⟨w.heap.size + 2, 2, none⟩) (.int .u64 (bits .or .u64 (wd v (2 + q) / 2 ^ r) (IntKind.u64.wrap (wd v (2 + q + 1) * 2 ^ (64 - r))))) (by dsimp only; omega)
      have NW : Below w.heap.size w (wz.setCell ⟨w.heap.size + 2, 2, none⟩ (.int .u64 (bits .or .u64 (wd v (2 + q) / 2 ^ r) (IntKind.u64.wrap (wd v (2 + q + 1) * 2 ^ (64 - r)))))) := CW.out.setCell (by dsimp only; omega) _
      clear CO CA CR CW C CC0 CC1 CC2 CF0 CF1 CF2
      go_wp2
      go_roundw
      case rel => exact ⟨_, _, _, N2, N3, N, NW, .inr (.inr (.inr ⟨rfl, HX.out.1, HX.out.2, H2.out⟩))⟩
      case measure => simp [intOf]
    · subst hx0 hx1 hx2
      have q0 := hO.c0
      have q1 := hO.c1
      have q2 := hO.c2
      have r0 := hR.c0
      have r1 := hR.c1
      have r2 := hR.c2
      have s0 := hR.f0
      have s1 := hR.f1
      have s2 := hR.f2
      go_wp2
      exact bodyPost_ret (v := .agg #[.int .u64 (lo (v / 2 ^ n)), .int .u64 (m3 (v / 2 ^ n)), .int .u64 (u3 (v / 2 ^ n))]) (by simp [results, Tryz.results130, go_sem, r0, r1, r2]) rfl ⟨rfl, ((hW.setCell (by dsimp only; omega) _).setCell (by dsimp only; omega) _).setCell (by dsimp only; omega) _⟩
end Go.Proofs.YtcdehbhdloaieaaGreatDoor
/-
  The contracts of words' noughts and side.
-/
set_option linter.unusedVariables false
set_option linter.unusedSimpArgs false
namespace Go.Proofs.YtcdehbhdloaieaaGreatDoor
open Go.RowKit

/-- How many of a word's lowest bits are nought, of 0 all. -/
def zc (x : Int) : Nat := if x = 0 then 64 else Lib.ctz 64 x.toNat
def cnt (v : Int) : Nat := if lo v = 0 then (if m3 v = 0 then 128 + zc (u3 v) else 64 + zc (m3 v)) else zc (lo v)
theorem zc_zero : zc 0 = 64 := rfl
theorem zc_word (x : Int) (x0 : 0 ≤ x) (x1 : x ≤ 18446744073709551615) (hx : x ≠ 0) : zc x < 64 ∧ x % 2 ^ zc x = 0 ∧ x / 2 ^ zc x % 2 = 1 := by
  obtain ⟨X, rfl⟩ := Int.eq_ofNat_of_zero_le x0
  have h := ctz_word X (by omega) (by omega)
  unfold zc
  rw [if_neg hx, Int.toNat_natCast]
  exact h
theorem zc_le (x : Int) (x0 : 0 ≤ x) (x1 : x ≤ 18446744073709551615) : zc x ≤ 64 := by
  by_cases hx : x = 0
  · subst hx; decide
  · have := (zc_word x x0 x1 hx).1; omega
theorem tz_all (x : Int) (x0 : 0 ≤ x) (x1 : x ≤ 18446744073709551615) (w : World) (hT : TabAt w) :
    Calls Tryz.prog 137 #[.int .u64 x] w fun e w' => e = .returned (.int .i64 (zc x : Int)) ∧ w' = w := by
  by_cases hx : x = 0
  · subst hx
    exact tz_zero w
  · obtain ⟨X, rfl⟩ := Int.eq_ofNat_of_zero_le x0
    obtain ⟨hlow, hk⟩ := Lib.lowest_bit 64 X (by omega) (by show X < 18446744073709551616; omega)
    obtain ⟨hi, htab⟩ := Lib.deBruijn64_at _ hk
    unfold zc
    rw [if_neg hx, Int.toNat_natCast]
    refine tz_core X (Lib.ctz 64 X) _ w (beq_eq_false_iff_ne.2 (by omega)) (tz_key X _ (by omega) (by omega) hlow) hi hk ?_
    rw [hT _ hi, htab]
theorem nought_shift (V v : Int) (s k : Nat) (h : v = 2 ^ s * V) (h0 : V % 2 ^ k = 0) (h1 : V / 2 ^ k % 2 = 1) : v % 2 ^ (s + k) = 0 ∧ v / 2 ^ (s + k) % 2 = 1 := by
  have hp := pow_pos' s
  rw [h, Int.pow_add, Int.mul_emod_mul_of_pos _ _ (by omega), h0, Int.mul_zero, Int.mul_ediv_mul_of_pos _ _ (by omega)]
  exact ⟨rfl, h1⟩
theorem emod_word (V : Int) (k : Nat) (hk : k ≤ 64) : V % 18446744073709551616 % 2 ^ k = V % 2 ^ k :=
  Int.emod_emod_of_dvd _ (by rw [← pow_split k hk]; exact Int.dvd_mul_right _ _)
theorem cnt_spec (v : Int) : Nought v (cnt v) := by
  have e2 : v / 340282366920938463463374607431768211456 = v / 18446744073709551616 / 18446744073709551616 := by omega
  unfold cnt
  by_cases h0 : lo v = 0
  · rw [if_pos h0]
    by_cases h1 : m3 v = 0
    · rw [if_pos h1]
      by_cases h2 : u3 v = 0
      · rw [h2, zc_zero]
        refine ⟨by omega, ?_, by omega⟩
        show v % 6277101735386680763835789423207666416102355444464034512896 = 0
        unfold lo at h0
        unfold m3 at h1
        unfold u3 at h2
        omega
      · have hr := u3_rng v
        obtain ⟨z0, z1, z2⟩ := zc_word (u3 v) hr.1 hr.2 h2
        have y1 := emod_word (v / 340282366920938463463374607431768211456) (zc (u3 v)) (by omega)
        have y2 := mod_div_two (v / 340282366920938463463374607431768211456) (zc (u3 v)) z0
        have ev : v = 2 ^ 128 * (v / 340282366920938463463374607431768211456) := by
          show v = 340282366920938463463374607431768211456 * (v / 340282366920938463463374607431768211456)
          unfold lo at h0
          unfold m3 at h1
          omega
        have eu : v / 340282366920938463463374607431768211456 % 18446744073709551616 = u3 v := rfl
        rw [eu] at y1 y2
        obtain ⟨n1, n2⟩ := nought_shift _ v 128 (zc (u3 v)) ev (by rw [← y1]; exact z1) (by rw [← y2]; exact z2)
        exact ⟨by omega, n1, fun _ => n2⟩
    · rw [if_neg h1]
      have hr := m3_rng v
      obtain ⟨z0, z1, z2⟩ := zc_word (m3 v) hr.1 hr.2 h1
      have y1 := emod_word (v / 18446744073709551616) (zc (m3 v)) (by omega)
      have y2 := mod_div_two (v / 18446744073709551616) (zc (m3 v)) z0
      have ev : v = 2 ^ 64 * (v / 18446744073709551616) := by
        show v = 18446744073709551616 * (v / 18446744073709551616)
        unfold lo at h0
        omega
      have eu : v / 18446744073709551616 % 18446744073709551616 = m3 v := rfl
      rw [eu] at y1 y2
      obtain ⟨n1, n2⟩ := nought_shift _ v 64 (zc (m3 v)) ev (by rw [← y1]; exact z1) (by rw [← y2]; exact z2)
      exact ⟨by omega, n1, fun _ => n2⟩
  · rw [if_neg h0]
    obtain ⟨z0, z1, z2⟩ := zc_word (lo v) (lo_ge v) (lo_le v) h0
    have y1 := emod_word v (zc (lo v)) (by omega)
    have y2 := mod_div_two v (zc (lo v)) z0
    have eu : v % 18446744073709551616 = lo v := rfl
    rw [eu] at y1 y2
    exact ⟨by omega, by rw [← y1]; exact z1, fun _ => by rw [← y2]; exact z2⟩

set_option maxHeartbeats 1000000 in
theorem noughts_any (v : Int) (w : World) (hT : TabAt w) :
    Calls Tryz.prog 135 #[.agg #[.int .u64 (lo v), .int .u64 (m3 v), .int .u64 (u3 v)]] w fun e w' => e = .returned (.int .i64 (cnt v : Int)) ∧ Below w.heap.size w w' := by
  have TB := hT.later (bel1 w (.cells #[.int .u64 (lo v), .int .u64 (m3 v), .int .u64 (u3 v)] 176))
  have B := B3.new w (.int .u64 (lo v)) (.int .u64 (m3 v)) (.int .u64 (u3 v)) 176
  have W0 := bel1 w (.cells #[.int .u64 (lo v), .int .u64 (m3 v), .int .u64 (u3 v)] 176)
  have a0 := lo_ge v
  have a1 := lo_le v
  have b0 := m3_rng v
  have c0 := u3_rng v
  have za := zc_le (lo v) a0 a1
  have zb := zc_le (m3 v) b0.1 b0.2
  have zd := zc_le (u3 v) c0.1 c0.2
  have HC : Hid (cnt v = if lo v = 0 then (if m3 v = 0 then 128 + zc (u3 v) else 64 + zc (m3 v)) else zc (lo v)) := rfl
  have TA : Hid (∀ (W : World), TabAt W → Calls Tryz.prog 137 #[.int .u64 (lo v)] W fun e w' => e = .returned (.int .i64 (zc (lo v) : Int)) ∧ w' = W) := fun W h => tz_all (lo v) a0 a1 W h
  have TM : Hid (∀ (W : World), TabAt W → Calls Tryz.prog 137 #[.int .u64 (m3 v)] W fun e w' => e = .returned (.int .i64 (zc (m3 v) : Int)) ∧ w' = W) := fun W h => tz_all (m3 v) b0.1 b0.2 W h
  have TU : Hid (∀ (W : World), TabAt W → Calls Tryz.prog 137 #[.int .u64 (u3 v)] W fun e w' => e = .returned (.int .i64 (zc (u3 v) : Int)) ∧ w' = W) := fun W h => tz_all (u3 v) c0.1 c0.2 W h
  generalize cnt v = N at *
  go_enter Tryz.func135, Tryz.ntmps135
  go_wp2
  generalize w.alloc (.cells #[.int .u64 (lo v), .int .u64 (m3 v), .int .u64 (u3 v)] 176) = w1 at *
  have q0 := B.c0
  have q1 := B.c1
  have q2 := B.c2
  clear B
  generalize lo v = x0 at *
  generalize m3 v = x1 at *
  generalize u3 v = x2 at *
  go_loopw [3, 5] (fun c i wr => wr = w1 ∧ ((i = .int .i64 0 ∧ c = .int .i64 0) ∨ (i = .int .i64 1 ∧ c = .int .i64 64 ∧ Hid (x0 = 0)) ∨ (i = .int .i64 2 ∧ c = .int .i64 128 ∧ Hid (x0 = 0) ∧ Hid (x1 = 0)) ∨ (i = .int .i64 3 ∧ c = .int .i64 192 ∧ Hid (x0 = 0) ∧ Hid (x1 = 0) ∧ Hid (x2 = 0)))) (fun _ i _ => 3 - (intOf i).toNat)
  case atStart => exact ⟨rfl, .inl ⟨rfl, rfl⟩⟩
  case round =>
    obtain ⟨hw, hcase⟩ := hrel
    subst hw
    rcases hcase with ⟨rfl, rfl⟩ | ⟨rfl, rfl, hx0⟩ | ⟨rfl, rfl, hx0, hx1⟩ | ⟨rfl, rfl, hx0, hx1, hx2⟩
    · go_wp2_with fail
      refine (TA.out _ TB).mono ?_
      rintro e w2 ⟨rfl, hw2⟩
      subst hw2
      by_cases hz : x0 = 0
      · subst hz
        rw [zc_zero]
        go_wp2
        go_roundw
        case rel => exact ⟨by first | rfl | trivial, .inr (.inl ⟨rfl, rfl, trivial⟩)⟩
        case measure => simp [intOf]
      · have hzb : (x0 == 0) = false := beq_eq_false_iff_ne.2 hz
        have HN : Hid (N = zc x0) := by show _ = _; rw [HC.out, if_neg hz]
        clear HC
        go_wp2
        go_ret
        exact ⟨by rw [HN.out]; rfl, W0⟩
    · have HN : Hid (x1 ≠ 0 → N = 64 + zc x1) := by intro h; rw [HC.out, if_pos hx0.out, if_neg h]
      go_wp2_with fail
      refine (TM.out _ TB).mono ?_
      rintro e w2 ⟨rfl, hw2⟩
      subst hw2
      by_cases hz : x1 = 0
      · subst hz
        rw [zc_zero]
        go_wp2
        go_roundw
        case rel => exact ⟨by first | rfl | trivial, .inr (.inr (.inl ⟨rfl, rfl, hx0, trivial⟩))⟩
        case measure => simp [intOf]
      · have hzb : (x1 == 0) = false := beq_eq_false_iff_ne.2 hz
        have HN2 : Hid ((N : Int) = 64 + (zc x1 : Int)) := by show _ = _; rw [HN.out hz]; omega
        clear HC HN
        go_wp2
        go_ret
        exact ⟨by rw [HN2.out]; rfl, W0⟩
    · have HN : Hid (N = 128 + zc x2) := by show _ = _; rw [HC.out, if_pos hx0.out, if_pos hx1.out]
      go_wp2_with fail
      refine (TU.out _ TB).mono ?_
      rintro e w2 ⟨rfl, hw2⟩
      subst hw2
      by_cases hz : x2 = 0
      · subst hz
        rw [zc_zero]
        go_wp2
        go_roundw
        case rel => exact ⟨by first | rfl | trivial, .inr (.inr (.inr ⟨rfl, rfl, hx0, hx1, trivial⟩))⟩
        case measure => simp [intOf]
      · have hzb : (x2 == 0) = false := beq_eq_false_iff_ne.2 hz
        have HN2 : Hid ((N : Int) = 128 + (zc x2 : Int)) := by show _ = _; rw [HN.out]; omega
        clear HC HN
        go_wp2
        go_ret
        exact ⟨by rw [HN2.out]; rfl, W0⟩
    · have HN : Hid (N = 192) := by show _ = _; rw [HC.out, if_pos hx0.out, if_pos hx1.out, hx2.out]; rfl
      go_wp2
      go_ret
      exact ⟨by rw [HN.out]; rfl, W0⟩

/-- Where the n lowest bits lie: below a half, at it, above it. -/
def sd (v : Int) (n : Nat) : Int := if n = 0 then -1 else c3 (v % 2 ^ n) (2 ^ (n - 1))
theorem wmod_succ (a : Int) (k : Nat) : a % 2 ^ (k + 1) = a / 2 ^ k % 2 * 2 ^ k + a % 2 ^ k := by
  have hp := pow_pos' k
  have e1 := Int.mul_ediv_add_emod a (2 ^ k)
  have e2 := Int.mul_ediv_add_emod (a / 2 ^ k) 2
  have m0 := Int.emod_nonneg a (show (2 : Int) ^ k ≠ 0 by omega)
  have m1 := Int.emod_lt_of_pos a (show (0 : Int) < 2 ^ k by omega)
  have e3 : a = (a / 2 ^ k % 2 * 2 ^ k + a % 2 ^ k) + 2 ^ (k + 1) * (a / 2 ^ k / 2) := by
    have h := congrArg (fun t => 2 ^ k * t) e2
    have h2 : (2 : Int) ^ k * (2 * (a / 2 ^ k / 2) + a / 2 ^ k % 2) = 2 ^ k * (a / 2 ^ k) := h
    have hs : (2 : Int) ^ k * 2 = 2 ^ (k + 1) := (Int.pow_succ 2 k).symm
    rw [Int.mul_add, ← Int.mul_assoc, hs, Int.mul_comm (2 ^ k) (a / 2 ^ k % 2)] at h2
    omega
  have b0 : a / 2 ^ k % 2 = 0 ∨ a / 2 ^ k % 2 = 1 := by omega
  have r0 : 0 ≤ a / 2 ^ k % 2 * 2 ^ k + a % 2 ^ k ∧ a / 2 ^ k % 2 * 2 ^ k + a % 2 ^ k < 2 ^ (k + 1) := by
    rw [pow_two]
    rcases b0 with h | h <;> rw [h] <;> omega
  have e4 := congrArg (fun t => t % (2 : Int) ^ (k + 1)) e3
  have e5 : a % 2 ^ (k + 1) = ((a / 2 ^ k % 2 * 2 ^ k + a % 2 ^ k) + 2 ^ (k + 1) * (a / 2 ^ k / 2)) % 2 ^ (k + 1) := e4
  rw [Int.add_mul_emod_self_left, Int.emod_eq_of_lt r0.1 r0.2] at e5
  exact e5
theorem bit_low (v : Int) (m k : Nat) (hk : k < m) (h : v % 2 ^ m = 0) : v / 2 ^ k % 2 = 0 := by
  obtain ⟨c, hc⟩ := Int.dvd_of_emod_eq_zero h
  have hp := pow_pos' k
  have e : (2 : Int) ^ m = 2 ^ k * (2 * 2 ^ (m - k - 1)) := by
    rw [show (2 : Int) * 2 ^ (m - k - 1) = 2 ^ (m - k - 1 + 1) by rw [Int.pow_succ, Int.mul_comm], ← Int.pow_add]; congr 1; omega
  rw [hc, e, Int.mul_assoc, Int.mul_ediv_cancel_left _ (by omega), Int.mul_assoc]
  exact Int.mul_emod_right _ _
theorem sd_bit0 (v : Int) (n : Nat) (n0 : 1 ≤ n) (h : v / 2 ^ (n - 1) % 2 = 0) : sd v n = -1 := by
  unfold sd
  rw [if_neg (by omega)]
  have hp := pow_pos' (n - 1)
  have m1 := Int.emod_lt_of_pos v (show (0 : Int) < 2 ^ (n - 1) by omega)
  have e := wmod_succ v (n - 1)
  rw [h, Int.zero_mul, Int.zero_add, show n - 1 + 1 = n by omega] at e
  rw [e]
  exact c3_lt _ _ m1
theorem sd_bit1 (v : Int) (n : Nat) (n0 : 1 ≤ n) (n1 : n ≤ 191) (h : v / 2 ^ (n - 1) % 2 = 1) : (cnt v = n - 1 ∧ sd v n = 0) ∨ (cnt v ≠ n - 1 ∧ sd v n = 1) := by
  obtain ⟨k0, k1, k2⟩ := cnt_spec v
  generalize cnt v = k at *
  unfold sd
  rw [if_neg (by omega)]
  have hp := pow_pos' (n - 1)
  have m0 := Int.emod_nonneg v (show (2 : Int) ^ (n - 1) ≠ 0 by omega)
  have e := wmod_succ v (n - 1)
  rw [h, Int.one_mul, show n - 1 + 1 = n by omega] at e
  rw [e]
  by_cases hz : v % 2 ^ (n - 1) = 0
  · refine .inl ⟨?_, by rw [hz, Int.add_zero]; exact c3_self _⟩
    rcases (show k < n - 1 ∨ k = n - 1 ∨ n - 1 < k by omega) with hk | hk | hk
    · have := bit_low v (n - 1) k hk hz
      have := k2 (by omega)
      omega
    · exact hk
    · have := bit_low v k (n - 1) hk k1
      omega
  · refine .inr ⟨?_, c3_gt _ _ (by omega)⟩
    intro hk
    rw [hk] at k1
    exact hz k1

set_option maxHeartbeats 1000000 in
theorem side_any (v : Int) (n : Nat) (n1 : n ≤ 191) (w : World) (hT : TabAt w) :
    Calls Tryz.prog 131 #[.agg #[.int .u64 (lo v), .int .u64 (m3 v), .int .u64 (u3 v)], .int .i64 (n : Int)] w fun e w' => e = .returned (.int .i64 (sd v n)) ∧ Below w.heap.size w w' := by
  have TB := hT.later (bel1 w (.cells #[.int .u64 (lo v), .int .u64 (m3 v), .int .u64 (u3 v)] 176))
  have B := B3.new w (.int .u64 (lo v)) (.int .u64 (m3 v)) (.int .u64 (u3 v)) 176
  have W0 := bel1 w (.cells #[.int .u64 (lo v), .int .u64 (m3 v), .int .u64 (u3 v)] 176)
  by_cases hn : n = 0
  · subst hn
    rw [show sd v 0 = -1 from rfl]
    go_enter Tryz.func131, Tryz.ntmps131
    go_wp2
    go_ret
    exact ⟨rfl, W0⟩
  · have hb := fun W => bit_any v (n - 1) ((n - 1) / 64) ((n - 1) % 64) (by omega) (by omega) (by omega) W
    rw [show ((n - 1 : Nat) : Int) = (n : Int) - 1 by omega] at hb
    have hnz : ((n : Int) == 0) = false := beq_eq_false_iff_ne.2 (by omega)
    have NO : Hid (∀ W : World, TabAt W → Calls Tryz.prog 135 #[.agg #[.int .u64 (lo v), .int .u64 (m3 v), .int .u64 (u3 v)]] W fun e w' => e = .returned (.int .i64 (cnt v : Int)) ∧ Below W.heap.size W w') := fun W h => noughts_any v W h
    rcases (show v / 2 ^ (n - 1) % 2 = 0 ∨ v / 2 ^ (n - 1) % 2 = 1 by omega) with h | h
    · rw [sd_bit0 v n (by omega) h]
      rw [h] at hb
      have HB : Hid (∀ W : World, Calls Tryz.prog 134 #[.agg #[.int .u64 (lo v), .int .u64 (m3 v), .int .u64 (u3 v)], .int .i64 ((n : Int) - 1)] W fun e w' => e = .returned (.int .u64 0) ∧ Below W.heap.size W w') := hb
      clear hb h
      go_enter Tryz.func131, Tryz.ntmps131
      go_wp2_with fail
      refine (HB.out _).mono ?_
      rintro e w1 ⟨rfl, hb1⟩
      have W1 := bchain W0 hb1
      clear hb1
      go_wp2
      go_ret
      exact ⟨rfl, W1⟩
    · have hs := sd_bit1 v n (by omega) n1 h
      rw [h] at hb
      have HB : Hid (∀ W : World, Calls Tryz.prog 134 #[.agg #[.int .u64 (lo v), .int .u64 (m3 v), .int .u64 (u3 v)], .int .i64 ((n : Int) - 1)] W fun e w' => e = .returned (.int .u64 1) ∧ Below W.heap.size W w') := hb
      clear hb h
      have hcl : cnt v ≤ 192 := (cnt_spec v).le
      rcases hs with ⟨hc, hs⟩ | ⟨hc, hs⟩
      · rw [hs]
        have hce : ((cnt v : Int) == (n : Int) - 1) = true := beq_iff_eq.2 (by omega)
        have HCE : Hid ((cnt v : Int) = (n : Int) - 1) := by show _ = _; omega
        clear hs hc
        go_enter Tryz.func131, Tryz.ntmps131
        go_wp2_with fail
        refine (HB.out _).mono ?_
        rintro e w1 ⟨rfl, hb1⟩
        have W1 := bchain W0 hb1
        have B1 := B.later hb1
        have T1 := TB.later hb1
        have q0 := B1.c0
        have q1 := B1.c1
        have q2 := B1.c2
        clear hb1 B TB
        go_wp2_with fail
        refine (NO.out _ T1).mono ?_
        rintro e w2 ⟨rfl, hb2⟩
        have W2 := bchain W1 hb2
        clear hb2
        go_wp2
        go_ret
        exact ⟨rfl, W2⟩
      · rw [hs]
        have hce : ((cnt v : Int) == (n : Int) - 1) = false := beq_eq_false_iff_ne.2 (by omega)
        clear hs hc
        go_enter Tryz.func131, Tryz.ntmps131
        go_wp2_with fail
        refine (HB.out _).mono ?_
        rintro e w1 ⟨rfl, hb1⟩
        have W1 := bchain W0 hb1
        have B1 := B.later hb1
        have T1 := TB.later hb1
        have q0 := B1.c0
        have q1 := B1.c1
        have q2 := B1.c2
        clear hb1 B TB
        go_wp2_with fail
        refine (NO.out _ T1).mono ?_
        rintro e w2 ⟨rfl, hb2⟩
        have W2 := bchain W1 hb2
        clear hb2
        go_wp2
        go_ret
        exact ⟨rfl, W2⟩
end Go.Proofs.YtcdehbhdloaieaaGreatDoor
/-
  The contracts of words' rounded and of regatta/wide's Near.
-/
set_option linter.unusedVariables false
set_option linter.unusedSimpArgs false
namespace Go.Proofs.YtcdehbhdloaieaaGreatDoor
open Go.RowKit

/-- A number by 2^n, to the nearest whole one, of two the even one; by 2^0 itself. -/
def rl (v : Int) (n : Nat) : Int := if gu (sd v n) (lo (v / 2 ^ n)) = true then v / 2 ^ n + 1 else v / 2 ^ n
theorem rl_zero (v : Int) : rl v 0 = v := by
  unfold rl
  rw [show sd v 0 = -1 from rfl, if_neg (by unfold gu; simp), Int.pow_zero, Int.ediv_one]
theorem rl_pos (v : Int) (n : Nat) (n0 : 1 ≤ n) : rl v n = rnd v n := by
  unfold rl rnd sd
  rw [if_neg (show ¬ n = 0 by omega)]
theorem TabAt.regrown {w : World} (h : TabAt w) (d : Nat) (os : Array Obj) : TabAt (Go.Sort.grow (redrawn w d) os) := fun j hj => cell_regrown (h j hj) d os

set_option maxHeartbeats 2000000 in
theorem rounded_any (v : Int) (n : Nat) (n1 : n ≤ 191) (h0 : -3138550867693340381917894711603833208051177722232017256448 ≤ v) (h1 : v ≤ 3138550867693340381917894711603833208051177722232017256447) (w : World) (hT : TabAt w) :
    Calls Tryz.prog 122 #[.agg #[.int .u64 (lo v), .int .u64 (m3 v), .int .u64 (u3 v)], .int .i64 (n : Int)] w fun e w' => e = .returned (.agg #[.int .u64 (lo (rl v n)), .int .u64 (m3 (rl v n)), .int .u64 (u3 (rl v n))]) ∧ Below w.heap.size w w' := by
  have DN : Hid (∀ W : World, Calls Tryz.prog 130 #[.agg #[.int .u64 (lo v), .int .u64 (m3 v), .int .u64 (u3 v)], .int .i64 (n : Int)] W fun e w' => e = .returned (.agg #[.int .u64 (lo (v / 2 ^ n)), .int .u64 (m3 (v / 2 ^ n)), .int .u64 (u3 (v / 2 ^ n))]) ∧ Below W.heap.size W w') := fun W => down_any v n (n / 64) (n % 64) (by omega) (by omega) (by omega) h0 h1 W
  have HR : Hid (rl v n = if gu (sd v n) (lo (v / 2 ^ n)) = true then v / 2 ^ n + 1 else v / 2 ^ n) := rfl
  have hld := lo_ge (v / 2 ^ n)
  generalize hdn : v / 2 ^ n = dn at *
  clear hdn
  have PL := fun W => wplus_any dn 1 W
  rw [show lo 1 = 1 from rfl, show m3 1 = 0 from rfl, show u3 1 = 0 from rfl] at PL
  have PLH : Hid (∀ W : World, Calls Tryz.prog 120 #[.agg #[.int .u64 (lo dn), .int .u64 (m3 dn), .int .u64 (u3 dn)], .agg #[.int .u64 1, .int .u64 0, .int .u64 0]] W fun e w' => e = .returned (.agg #[.int .u64 (lo (dn + 1)), .int .u64 (m3 (dn + 1)), .int .u64 (u3 (dn + 1))]) ∧ Below W.heap.size W w') := PL
  have SD : Hid (∀ W : World, TabAt W → Calls Tryz.prog 131 #[.agg #[.int .u64 (lo v), .int .u64 (m3 v), .int .u64 (u3 v)], .int .i64 (n : Int)] W fun e w' => e = .returned (.int .i64 (sd v n)) ∧ Below W.heap.size W w') := fun W h => side_any v n n1 W h
  clear PL
  have A0 := (B3.new w (.int .u64 (lo v)) (.int .u64 (m3 v)) (.int .u64 (u3 v)) 176).later (bel1 _ (.cells #[.int .u64 0, .int .u64 0, .int .u64 0] 176))
  have R0 := B3.new (w.alloc (.cells #[.int .u64 (lo v), .int .u64 (m3 v), .int .u64 (u3 v)] 176)) (.int .u64 0) (.int .u64 0) (.int .u64 0) 176
  have W0 := bel2 w (.cells #[.int .u64 (lo v), .int .u64 (m3 v), .int .u64 (u3 v)] 176) (.cells #[.int .u64 0, .int .u64 0, .int .u64 0] 176)
  have T0 := hT.later W0
  simp only [World.size_alloc] at R0
  go_enter Tryz.func122, Tryz.ntmps122
  go_wp2_with fail
  refine (DN.out _).mono ?_
  rintro e w1 ⟨rfl, hb⟩
  have A1 := A0.later hb
  have R1 := R0.later hb
  have W1 := bchain W0 hb
  have T1 := T0.later hb
  have hb2 := bel1 w1 (.cells #[.int .u64 (lo dn), .int .u64 (m3 dn), .int .u64 (u3 dn)] 176)
  have O2 := B3.new w1 (.int .u64 (lo dn)) (.int .u64 (m3 dn)) (.int .u64 (u3 dn)) 176
  have A2 := A1.later hb2
  have R2 := R1.later hb2
  have W2 := bchain W1 hb2
  have T2 := T1.later hb2
  have hdR := R1.lt
  clear hb hb2 A0 R0 W0 T0 A1 R1 W1 T1 DN hT
  go_upto_region 2 with fail
  generalize w1.alloc (.cells #[.int .u64 (lo dn), .int .u64 (m3 dn), .int .u64 (u3 dn)] 176) = w2 at *
  generalize w1.heap.size = d at *
  have z0 := fun x y => cell_regrown A2.c0 x y
  have z1 := fun x y => cell_regrown A2.c1 x y
  have z2 := fun x y => cell_regrown A2.c2 x y
  have z3 := fun x y => cell_regrown O2.c0 x y
  refine wp_region_quiet_below (by kernel_rfl) (by kernel_rfl) ?_
  repeat (quiet_step (first | (go_at_call 131; exact Calls.regrown_of (SD.out _ (T2.regrown _ _))) | (go_at_call 114; exact Calls.regrown_same (goesUp_any _ _ hld _))))
  refine wpQuiet_nil ?_
  intro wd hw'
  have hB2 : Below w2.heap.size w2 wd := by obtain ⟨⟨dq, osq⟩, rfl⟩ := hw'; exact below_regrown w2 dq osq
  have O3 := O2.later hB2
  have R3 := R2.later hB2
  have W3 := bchain W2 hB2
  clear hw' hB2 z0 z1 z2 z3 A2 O2 R2 W2 T2 SD
  by_cases hG : gu (sd v n) (lo dn) = true
  · have HE : Hid (rl v n = dn + 1) := by show _ = _; rw [HR.out, if_pos hG]
    rw [hG]
    clear hG HR
    have q0 := O3.c0
    have q1 := O3.c1
    have q2 := O3.c2
    go_wp2_with fail
    refine (PLH.out _).mono ?_
    rintro e w4 ⟨rfl, hb⟩
    have O4 := O3.later hb
    have R4 := R3.later hb
    have W4 := bchain W3 hb
    clear hb O3 R3 W3 q0 q1 q2 PLH
    have q0 := O4.c0
    have q1 := O4.c1
    have q2 := O4.c2
    have g0 := O4.f0
    have g1 := O4.f1
    have g2 := O4.f2
    have r0 := R4.c0
    have r1 := R4.c1
    have r2 := R4.c2
    have s0 := R4.f0
    have s1 := R4.f1
    have s2 := R4.f2
    have hsz := W4.size
    go_wp2
    exact bodyPost_ret (v := .agg #[.int .u64 (lo (rl v n)), .int .u64 (m3 (rl v n)), .int .u64 (u3 (rl v n))]) (by rw [HE.out]; simp [results, Tryz.results122, go_sem, q0, q1, q2, r0, r1, r2]) rfl ⟨rfl, (((((W4.setCell (by dsimp only; omega) _).setCell (by dsimp only; omega) _).setCell (by dsimp only; omega) _).setCell (by dsimp only; omega) _).setCell (by dsimp only; omega) _).setCell (by dsimp only; omega) _⟩
  · have HE : Hid (rl v n = dn) := by show _ = _; rw [HR.out, if_neg hG]
    have hG' : gu (sd v n) (lo dn) = false := by simpa using hG
    rw [hG']
    clear hG hG' HR PLH
    have q0 := O3.c0
    have q1 := O3.c1
    have q2 := O3.c2
    have r0 := R3.c0
    have r1 := R3.c1
    have r2 := R3.c2
    have s0 := R3.f0
    have s1 := R3.f1
    have s2 := R3.f2
    go_wp2
    exact bodyPost_ret (v := .agg #[.int .u64 (lo (rl v n)), .int .u64 (m3 (rl v n)), .int .u64 (u3 (rl v n))]) (by rw [HE.out]; simp [results, Tryz.results122, go_sem, r0, r1, r2]) rfl ⟨rfl, ((W3.setCell (by dsimp only; omega) _).setCell (by dsimp only; omega) _).setCell (by dsimp only; omega) _⟩
end Go.Proofs.YtcdehbhdloaieaaGreatDoor
/-
  The contract of regatta/wide's Near.
-/
set_option linter.unusedVariables false
set_option linter.unusedSimpArgs false
namespace Go.Proofs.YtcdehbhdloaieaaGreatDoor
open Go.RowKit

set_option maxHeartbeats 400000 in
theorem clamped_fits (l : Int) (b : Bool) (w : World) :
    Calls Tryz.prog 123 #[.int .i64 l, .bool b, .bool true] w fun e w' => e = .returned (.tuple #[.int .i64 l, .bool false]) ∧ w' = w := by
  go_enter Tryz.func123, Tryz.ntmps123
  go_wp2
  go_ret2
  exact ⟨rfl, rfl⟩
set_option maxHeartbeats 400000 in
theorem clamped_low (l : Int) (w : World) :
    Calls Tryz.prog 123 #[.int .i64 l, .bool true, .bool false] w fun e w' => e = .returned (.tuple #[.int .i64 (-9223372036854775808), .bool true]) ∧ w' = w := by
  go_enter Tryz.func123, Tryz.ntmps123
  go_wp2
  go_ret2
  exact ⟨rfl, rfl⟩
set_option maxHeartbeats 400000 in
theorem clamped_high (l : Int) (w : World) :
    Calls Tryz.prog 123 #[.int .i64 l, .bool false, .bool false] w fun e w' => e = .returned (.tuple #[.int .i64 9223372036854775807, .bool true]) ∧ w' = w := by
  go_enter Tryz.func123, Tryz.ntmps123
  go_wp2
  go_ret2
  exact ⟨rfl, rfl⟩

theorem rl_rng (v : Int) (n : Nat) (h0 : -3138550867693340381917894711603833208051177722232017256448 ≤ v) (h1 : v ≤ 3138550867693340381917894711603833208051177722232017256447) : -3138550867693340381917894711603833208051177722232017256448 ≤ rl v n ∧ rl v n ≤ 3138550867693340381917894711603833208051177722232017256447 := by
  by_cases hn : n = 0
  · subst hn; rw [rl_zero]; exact ⟨h0, h1⟩
  · have hp : (2 : Int) ≤ 2 ^ n := by
      have := pow_two (n - 1)
      have := pow_pos' (n - 1)
      rw [show n - 1 + 1 = n by omega] at *
      omega
    have a1 : v / 2 ^ n ≤ 1569275433846670190958947355801916604025588861116008628223 := by
      have := Int.ediv_le_ediv (show (0 : Int) < 2 ^ n by omega) h1
      have h2 : (3138550867693340381917894711603833208051177722232017256447 : Int) / 2 ^ n ≤ 1569275433846670190958947355801916604025588861116008628223 := by
        apply Int.le_of_lt_add_one
        apply Int.ediv_lt_of_lt_mul (by omega)
        have := Int.mul_le_mul_of_nonneg_left hp (show (0 : Int) ≤ 1569275433846670190958947355801916604025588861116008628224 by omega)
        omega
      omega
    have a0 : -1569275433846670190958947355801916604025588861116008628224 ≤ v / 2 ^ n := by
      rw [Int.le_ediv_iff_mul_le (by omega)]
      have := Int.mul_le_mul_of_nonpos_left (a := -1569275433846670190958947355801916604025588861116008628224) (by omega) hp
      omega
    unfold rl
    split <;> omega
/-- A long number that fits 64 bits is its lowest word; of one that doesn't another word is other. -/
theorem long_fits (r : Int) (h0 : -9223372036854775808 ≤ r) (h1 : r ≤ 9223372036854775807) : sg (lo r) = r := (fits_in r h0 h1).2
theorem long_out (r : Int) (r0 : -3138550867693340381917894711603833208051177722232017256448 ≤ r) (r1 : r ≤ 3138550867693340381917894711603833208051177722232017256447) (h : ¬ (-9223372036854775808 ≤ r ∧ r ≤ 9223372036854775807)) :
    ¬ t3 r = t3 (sg (lo r)) ∨ (t3 r = t3 (sg (lo r)) ∧ ¬ m3 r = m3 (sg (lo r))) := by
  have hs : -9223372036854775808 ≤ sg (lo r) ∧ sg (lo r) ≤ 9223372036854775807 := by unfold sg; omega
  have hd : (sg (lo r) - r) % 18446744073709551616 = 0 := by unfold sg lo; omega
  generalize sg (lo r) = L at *
  by_cases ht : t3 r = t3 L
  · refine .inr ⟨ht, ?_⟩
    intro hm
    have e1 : r / 340282366920938463463374607431768211456 = L / 340282366920938463463374607431768211456 := by unfold t3 at ht; omega
    have e2 : r / 18446744073709551616 % 18446744073709551616 = L / 18446744073709551616 % 18446744073709551616 := hm
    have x1 : r / 340282366920938463463374607431768211456 = r / 18446744073709551616 / 18446744073709551616 := by omega
    have x2 : L / 340282366920938463463374607431768211456 = L / 18446744073709551616 / 18446744073709551616 := by omega
    rw [x1, x2] at e1
    have e3 : r / 18446744073709551616 = L / 18446744073709551616 := by omega
    have e4 : r = L := by omega
    omega
  · exact .inl ht
theorem t3_sign (r : Int) (r0 : -3138550867693340381917894711603833208051177722232017256448 ≤ r) (r1 : r ≤ 3138550867693340381917894711603833208051177722232017256447) : (r < 0 → t3 r < 0) ∧ (0 ≤ r → 0 ≤ t3 r) := by unfold t3; omega

set_option maxHeartbeats 400000 in
theorem near_big (t m l n : Int) (hn : 191 < n) (w : World) :
    Calls Tryz.prog 104 #[.agg #[.int .i64 t, .int .u64 m, .int .u64 l], .int .i64 n] w fun e w' => e = .returned (.tuple #[.int .i64 0, .bool false]) ∧ Below w.heap.size w w' := by
  have hm : max n 0 = n := by omega
  go_enter Tryz.func104, Tryz.ntmps104
  go_wp2
  go_ret2
  exact ⟨rfl, bel1 _ _⟩

set_option maxHeartbeats 2000000 in
theorem near_mid (v n : Int) (k : Nat) (hk : max n 0 = (k : Int)) (k1 : k ≤ 191) (h0 : -3138550867693340381917894711603833208051177722232017256448 ≤ v) (h1 : v ≤ 3138550867693340381917894711603833208051177722232017256447) (w : World) (hT : TabAt w) :
    Calls Tryz.prog 104 #[.agg #[.int .i64 (t3 v), .int .u64 (m3 v), .int .u64 (lo v)], .int .i64 n] w fun e w' => e = .returned (.tuple #[.int .i64 (clv (rl v k)), .bool (ovv (rl v k))]) ∧ Below w.heap.size w w' := by
  have RD : Hid (∀ W : World, TabAt W → Calls Tryz.prog 122 #[.agg #[.int .u64 (lo v), .int .u64 (m3 v), .int .u64 (u3 v)], .int .i64 (k : Int)] W fun e w' => e = .returned (.agg #[.int .u64 (lo (rl v k)), .int .u64 (m3 (rl v k)), .int .u64 (u3 (rl v k))]) ∧ Below W.heap.size W w') := fun W h => rounded_any v k k1 h0 h1 W h
  obtain ⟨r0, r1⟩ := rl_rng v k h0 h1
  generalize rl v k = r at *
  have hk191 : ¬ (191 : Int) < (k : Int) := by omega
  have B0 := B3.new w (.int .i64 (t3 v)) (.int .u64 (m3 v)) (.int .u64 (lo v)) 124
  have W0 := bel1 w (.cells #[.int .i64 (t3 v), .int .u64 (m3 v), .int .u64 (lo v)] 124)
  have T0 := hT.later W0
  have hs : -9223372036854775808 ≤ sg (lo r) ∧ sg (lo r) ≤ 9223372036854775807 := by unfold sg; omega
  obtain ⟨s0, s1⟩ := hs
  have hin := long_fits r
  have hout := long_out r r0 r1
  have hsg := t3_sign r r0 r1
  have hl : lo (sg (lo r)) = lo r := by unfold sg lo; omega
  have hw : wrap64 (lo r) = sg (lo r) := w64 _
  generalize sg (lo r) = L at *
  go_enter Tryz.func104, Tryz.ntmps104
  go_wp2_with fail
  refine (wordsOf_any v _).mono ?_
  rintro e w1 ⟨rfl, hb⟩
  have W1 := bchain W0 hb
  have T1 := T0.later hb
  clear hb W0 T0 hT B0
  go_wp2_with fail
  refine (RD.out _ T1).mono ?_
  rintro e w2 ⟨rfl, hb⟩
  have W2 := bchain W1 hb
  clear hb W1 T1 RD
  go_wp2_with fail
  refine (wlong_any r _).mono ?_
  rintro e w3 ⟨rfl, hb⟩
  have W3 := bchain W2 hb
  clear hb W2
  have N4 := B3.new w3 (.int .i64 (t3 r)) (.int .u64 (m3 r)) (.int .u64 (lo r)) 124
  have W4 := bchain W3 (bel1 w3 (.cells #[.int .i64 (t3 r), .int .u64 (m3 r), .int .u64 (lo r)] 124))
  clear W3
  go_upto_region 6 with fail
  generalize w3.alloc (.cells #[.int .i64 (t3 r), .int .u64 (m3 r), .int .u64 (lo r)] 124) = w4 at *
  generalize w3.heap.size = d at *
  have z0 := fun x y => cell_regrown N4.c0 x y
  have z1 := fun x y => cell_regrown N4.c1 x y
  have z2 := fun x y => cell_regrown N4.c2 x y
  rw [hw]
  clear hw
  by_cases hi : -9223372036854775808 ≤ r ∧ r ≤ 9223372036854775807
  · obtain rfl : L = r := hin hi.1 hi.2
    obtain ⟨e1, e2⟩ := clv_in L hi.1 hi.2
    have HV : Hid (clv L = L ∧ ovv L = false) := ⟨e1, e2⟩
    clear hin hout hl hsg e1 e2 hi
    refine wp_region_quiet_below (by kernel_rfl) (by kernel_rfl) ?_
    repeat (quiet_step (first | (go_at_call 112; exact Calls.regrown_of (of_any L s0 s1 _)) | (go_at_call 76; exact Calls.regrown_of (extend_any L (by omega) (by omega) _)) | (go_at_call 123; exact Calls.regrown_same (clamped_fits _ _ _))))
    refine wpQuiet_nil ?_
    intro wd hw'
    have hB2 : Below w4.heap.size w4 wd := by obtain ⟨⟨dq, osq⟩, rfl⟩ := hw'; exact below_regrown w4 dq osq
    have W5 := bchain W4 hB2
    clear hw' hB2
    go_wp2
    go_ret2
    exact ⟨by rw [HV.out.1, HV.out.2]; rfl, W5⟩
  · have ho := hout hi
    clear hin hout hl
    by_cases hneg : r < 0
    · have ht := hsg.1 hneg
      obtain ⟨e1, e2⟩ := clv_lo r (by omega)
      have HV : Hid (clv r = -9223372036854775808 ∧ ovv r = true) := ⟨e1, e2⟩
      clear hsg e1 e2 hi
      rcases ho with ho | ⟨hp, ho⟩
      · have hob : (t3 r == t3 L) = false := beq_eq_false_iff_ne.2 ho
        refine wp_region_quiet_below (by kernel_rfl) (by kernel_rfl) ?_
        repeat (quiet_step (first | (go_at_call 112; exact Calls.regrown_of (of_any L s0 s1 _)) | (go_at_call 76; exact Calls.regrown_of (extend_any L (by omega) (by omega) _)) | (go_at_call 123; exact Calls.regrown_same (clamped_low _ _))))
        refine wpQuiet_nil ?_
        intro wd hw'
        have hB2 : Below w4.heap.size w4 wd := by obtain ⟨⟨dq, osq⟩, rfl⟩ := hw'; exact below_regrown w4 dq osq
        have W5 := bchain W4 hB2
        clear hw' hB2
        go_wp2
        go_ret2
        exact ⟨by rw [HV.out.1, HV.out.2]; rfl, W5⟩
      · have hob : (m3 r == m3 L) = false := beq_eq_false_iff_ne.2 ho
        have hpb : (t3 r == t3 L) = true := beq_iff_eq.2 hp
        clear hp
        refine wp_region_quiet_below (by kernel_rfl) (by kernel_rfl) ?_
        repeat (quiet_step (first | (go_at_call 112; exact Calls.regrown_of (of_any L s0 s1 _)) | (go_at_call 76; exact Calls.regrown_of (extend_any L (by omega) (by omega) _)) | (go_at_call 123; exact Calls.regrown_same (clamped_low _ _))))
        refine wpQuiet_nil ?_
        intro wd hw'
        have hB2 : Below w4.heap.size w4 wd := by obtain ⟨⟨dq, osq⟩, rfl⟩ := hw'; exact below_regrown w4 dq osq
        have W5 := bchain W4 hB2
        clear hw' hB2
        go_wp2
        go_ret2
        exact ⟨by rw [HV.out.1, HV.out.2]; rfl, W5⟩
    · have ht := hsg.2 (by omega)
      have hdt : decide (t3 r < 0) = false := decide_eq_false (by omega)
      obtain ⟨e1, e2⟩ := clv_hi r (by omega)
      have HV : Hid (clv r = 9223372036854775807 ∧ ovv r = true) := ⟨e1, e2⟩
      clear hsg e1 e2 hi
      rcases ho with ho | ⟨hp, ho⟩
      · have hob : (t3 r == t3 L) = false := beq_eq_false_iff_ne.2 ho
        refine wp_region_quiet_below (by kernel_rfl) (by kernel_rfl) ?_
        repeat (quiet_step (first | (go_at_call 112; exact Calls.regrown_of (of_any L s0 s1 _)) | (go_at_call 76; exact Calls.regrown_of (extend_any L (by omega) (by omega) _)) | (go_at_call 123; exact Calls.regrown_same (clamped_high _ _))))
        refine wpQuiet_nil ?_
        intro wd hw'
        have hB2 : Below w4.heap.size w4 wd := by obtain ⟨⟨dq, osq⟩, rfl⟩ := hw'; exact below_regrown w4 dq osq
        have W5 := bchain W4 hB2
        clear hw' hB2
        go_wp2
        go_ret2
        exact ⟨by rw [HV.out.1, HV.out.2]; rfl, W5⟩
      · have hob : (m3 r == m3 L) = false := beq_eq_false_iff_ne.2 ho
        have hpb : (t3 r == t3 L) = true := beq_iff_eq.2 hp
        clear hp
        refine wp_region_quiet_below (by kernel_rfl) (by kernel_rfl) ?_
        repeat (quiet_step (first | (go_at_call 112; exact Calls.regrown_of (of_any L s0 s1 _)) | (go_at_call 76; exact Calls.regrown_of (extend_any L (by omega) (by omega) _)) | (go_at_call 123; exact Calls.regrown_same (clamped_high _ _))))
        refine wpQuiet_nil ?_
        intro wd hw'
        have hB2 : Below w4.heap.size w4 wd := by obtain ⟨⟨dq, osq⟩, rfl⟩ := hw'; exact below_regrown w4 dq osq
        have W5 := bchain W4 hB2
        clear hw' hB2
        go_wp2
        go_ret2
        exact ⟨by rw [HV.out.1, HV.out.2]; rfl, W5⟩
end Go.Proofs.YtcdehbhdloaieaaGreatDoor
/-
  The contract of regatta/wide's Plus.
-/
set_option linter.unusedVariables false
set_option linter.unusedSimpArgs false
namespace Go.Proofs.YtcdehbhdloaieaaGreatDoor
open Go.RowKit

/-- Two long numbers' cells. -/
def C6 (w' : World) (p : Nat) (ta ma la tb mb lb : Int) : Prop := w'.cell? ⟨p, 0, none⟩ = some (.int .i64 ta) ∧ w'.cell? ⟨p, 1, none⟩ = some (.int .u64 ma) ∧ w'.cell? ⟨p, 2, none⟩ = some (.int .u64 la) ∧ w'.cell? ⟨p + 1, 0, none⟩ = some (.int .i64 tb) ∧ w'.cell? ⟨p + 1, 1, none⟩ = some (.int .u64 mb) ∧ w'.cell? ⟨p + 1, 2, none⟩ = some (.int .u64 lb)
theorem C6.out {w' : World} {p : Nat} {ta ma la tb mb lb : Int} (h : C6 w' p ta ma la tb mb lb) : w'.cell? ⟨p, 0, none⟩ = some (.int .i64 ta) ∧ w'.cell? ⟨p, 1, none⟩ = some (.int .u64 ma) ∧ w'.cell? ⟨p, 2, none⟩ = some (.int .u64 la) ∧ w'.cell? ⟨p + 1, 0, none⟩ = some (.int .i64 tb) ∧ w'.cell? ⟨p + 1, 1, none⟩ = some (.int .u64 mb) ∧ w'.cell? ⟨p + 1, 2, none⟩ = some (.int .u64 lb) := h
theorem c6_later {w w' : World} {p : Nat} {ta ma la tb mb lb : Int} (h : C6 w p ta ma la tb mb lb) (hb : Below w.heap.size w w') : C6 w' p ta ma la tb mb lb := by
  obtain ⟨h0, h1, h2, h3, h4, h5⟩ := h
  exact ⟨cell_later hb h0, cell_later hb h1, cell_later hb h2, cell_later hb h3, cell_later hb h4, cell_later hb h5⟩
theorem c6_set {w : World} {p : Nat} {ta ma la tb mb lb : Int} (h : C6 w p ta ma la tb mb lb) (o : Nat) (x : Value) : C6 (w.setCell ⟨p + 1 + 1, o, none⟩ x) p ta ma la tb mb lb := by
  obtain ⟨h0, h1, h2, h3, h4, h5⟩ := h
  exact ⟨cell_set (by dsimp only; omega) h0, cell_set (by dsimp only; omega) h1, cell_set (by dsimp only; omega) h2, cell_set (by dsimp only; omega) h3, cell_set (by dsimp only; omega) h4, cell_set (by dsimp only; omega) h5⟩

set_option maxHeartbeats 1000000 in
/-- Plus, its callees' answers given. -/
theorem plus_of (ta ma la ua tb mb lb ub ts ms ls us : Int) (w : World)
    (CA : Hid (∀ W : World, Calls Tryz.prog 119 #[.agg #[.int .i64 ta, .int .u64 ma, .int .u64 la]] W fun e w' => e = .returned (.agg #[.int .u64 la, .int .u64 ma, .int .u64 ua]) ∧ Below W.heap.size W w'))
    (CB : Hid (∀ W : World, Calls Tryz.prog 119 #[.agg #[.int .i64 tb, .int .u64 mb, .int .u64 lb]] W fun e w' => e = .returned (.agg #[.int .u64 lb, .int .u64 mb, .int .u64 ub]) ∧ Below W.heap.size W w'))
    (CP : Hid (∀ W : World, Calls Tryz.prog 120 #[.agg #[.int .u64 la, .int .u64 ma, .int .u64 ua], .agg #[.int .u64 lb, .int .u64 mb, .int .u64 ub]] W fun e w' => e = .returned (.agg #[.int .u64 ls, .int .u64 ms, .int .u64 us]) ∧ Below W.heap.size W w'))
    (CL : Hid (∀ W : World, Calls Tryz.prog 121 #[.agg #[.int .u64 ls, .int .u64 ms, .int .u64 us]] W fun e w' => e = .returned (.agg #[.int .i64 ts, .int .u64 ms, .int .u64 ls]) ∧ Below W.heap.size W w')) :
    Calls Tryz.prog 98 #[.agg #[.int .i64 ta, .int .u64 ma, .int .u64 la], .agg #[.int .i64 tb, .int .u64 mb, .int .u64 lb]] w fun e w' => e = .returned (.agg #[.int .i64 ts, .int .u64 ms, .int .u64 ls]) ∧ Below w.heap.size w w' := by
  have A0 := ((B3.new w (.int .i64 ta) (.int .u64 ma) (.int .u64 la) 124).later (bel1 _ (.cells #[.int .i64 tb, .int .u64 mb, .int .u64 lb] 124))).later (bel1 _ (.cells #[.int .i64 0, .int .u64 0, .int .u64 0] 124))
  have C0 := (B3.new (w.alloc (.cells #[.int .i64 ta, .int .u64 ma, .int .u64 la] 124)) (.int .i64 tb) (.int .u64 mb) (.int .u64 lb) 124).later (bel1 _ (.cells #[.int .i64 0, .int .u64 0, .int .u64 0] 124))
  have R0 := B3.new ((w.alloc (.cells #[.int .i64 ta, .int .u64 ma, .int .u64 la] 124)).alloc (.cells #[.int .i64 tb, .int .u64 mb, .int .u64 lb] 124)) (.int .i64 0) (.int .u64 0) (.int .u64 0) 124
  have W0 := bel3 w (.cells #[.int .i64 ta, .int .u64 ma, .int .u64 la] 124) (.cells #[.int .i64 tb, .int .u64 mb, .int .u64 lb] 124) (.cells #[.int .i64 0, .int .u64 0, .int .u64 0] 124)
  simp only [World.size_alloc] at C0 R0
  go_enter Tryz.func98, Tryz.ntmps98
  go_upto_region 1 with fail
  generalize ((w.alloc (.cells #[.int .i64 ta, .int .u64 ma, .int .u64 la] 124)).alloc (.cells #[.int .i64 tb, .int .u64 mb, .int .u64 lb] 124)).alloc (.cells #[.int .i64 0, .int .u64 0, .int .u64 0] 124) = w1 at *
  have hd1 : Below w1.heap.size w1 w1.drew := (Below.refl _ _).drew
  have CO := R0.later hd1
  have CA0 := A0.later hd1
  have CB0 := C0.later hd1
  have CW : Hid (Below w.heap.size w w1.drew) := W0.drew
  have C : C6 w1.drew w.heap.size ta ma la tb mb lb := ⟨CA0.c0, CA0.c1, CA0.c2, CB0.c0, CB0.c1, CB0.c2⟩
  have CC0 := CO.c0
  have CC1 := CO.c1
  have CC2 := CO.c2
  have CF0 := CO.f0
  have CF1 := CO.f1
  have CF2 := CO.f2
  clear hd1 A0 C0 R0 W0 CA0 CB0
  go_region_held3 (fun w' => w'.cell? ⟨w.heap.size, 0, none⟩ = some (.int .i64 ta) ∧ w'.cell? ⟨w.heap.size, 1, none⟩ = some (.int .u64 ma) ∧ w'.cell? ⟨w.heap.size, 2, none⟩ = some (.int .u64 la) ∧ w'.cell? ⟨w.heap.size + 1, 0, none⟩ = some (.int .i64 tb) ∧ w'.cell? ⟨w.heap.size + 1, 1, none⟩ = some (.int .u64 mb) ∧ w'.cell? ⟨w.heap.size + 1, 2, none⟩ = some (.int .u64 lb))
    (first | exact C.out | exact (c6_set (c6_set (c6_set C _ _) _ _) _ _).out)
    (first
      | (go_at_call 119; (first | (refine (CA.out _).mono ?_; clear CA) | (refine (CB.out _).mono ?_; clear CB)); rintro e wz ⟨rfl, hb⟩; replace C := c6_later C hb; replace CC0 := cell_later hb CC0; replace CC1 := cell_later hb CC1; replace CC2 := cell_later hb CC2; replace CF0 := frozen_later hb CO.c0 CF0; replace CF1 := frozen_later hb CO.c1 CF1; replace CF2 := frozen_later hb CO.c2 CF2; replace CO := CO.later hb; replace CW := hidD CW hb; clear hb)
      | (go_at_call 120; refine (CP.out _).mono ?_; rintro e wz ⟨rfl, hb⟩; replace C := c6_later C hb; replace CC0 := cell_later hb CC0; replace CC1 := cell_later hb CC1; replace CC2 := cell_later hb CC2; replace CF0 := frozen_later hb CO.c0 CF0; replace CF1 := frozen_later hb CO.c1 CF1; replace CF2 := frozen_later hb CO.c2 CF2; replace CO := CO.later hb; replace CW := hidD CW hb; clear hb)
      | (go_at_call 121; refine (CL.out _).mono ?_; rintro e wz ⟨rfl, hb⟩; replace C := c6_later C hb; replace CC0 := cell_later hb CC0; replace CC1 := cell_later hb CC1; replace CC2 := cell_later hb CC2; replace CF0 := frozen_later hb CO.c0 CF0; replace CF1 := frozen_later hb CO.c1 CF1; replace CF2 := frozen_later hb CO.c2 CF2; replace CO := CO.later hb; replace CW := hidD CW hb; clear hb))
  have W5 := CW.out
  have S0 := ((CO.set0 (.int .i64 ts)).set1 (.int .u64 ms)).set2 (.int .u64 ls)
  have s0 := S0.c0
  have s1 := S0.c1
  have s2 := S0.c2
  clear C CC0 CC1 CC2 CF0 CF1 CF2 CO CW CP CL S0
  go_wp2
  exact bodyPost_ret (v := .agg #[.int .i64 ts, .int .u64 ms, .int .u64 ls]) (by simp [results, Tryz.results98, go_sem, s0, s1, s2]) rfl ⟨rfl, ((W5.setCell (by dsimp only; omega) _).setCell (by dsimp only; omega) _).setCell (by dsimp only; omega) _⟩

theorem plus_any (a b : Int) (w : World) :
    Calls Tryz.prog 98 #[.agg #[.int .i64 (t3 a), .int .u64 (m3 a), .int .u64 (lo a)], .agg #[.int .i64 (t3 b), .int .u64 (m3 b), .int .u64 (lo b)]] w fun e w' => e = .returned (.agg #[.int .i64 (t3 (a + b)), .int .u64 (m3 (a + b)), .int .u64 (lo (a + b))]) ∧ Below w.heap.size w w' :=
  plus_of (t3 a) (m3 a) (lo a) (u3 a) (t3 b) (m3 b) (lo b) (u3 b) (t3 (a + b)) (m3 (a + b)) (lo (a + b)) (u3 (a + b)) w (fun W => wordsOf_any a W) (fun W => wordsOf_any b W) (fun W => wplus_any a b W) (fun W => wlong_any (a + b) W)
end Go.Proofs.YtcdehbhdloaieaaGreatDoor
