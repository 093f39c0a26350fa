/-
  MathW, WalkM, WalkN, WalkO, WalkP, WalkQ, WalkR, WalkS.
-/
import Derived.Test.YtfcneciknldohaaBA
import Derived.Test.YtfcneciknldohaaBB
import Derived.Laws.Bits64b
import Derived.Lib.TrailingZeros
import Derived.Test.YtfcneciknldohaaBC
/-
  Plain arithmetic of long numbers' words.
-/
set_option linter.unusedVariables false
namespace Go.Proofs.Ytfcneciknldohaa

def u3 (v : Int) : Int := v / 340282366920938463463374607431768211456 % 18446744073709551616
/-- The i-th word of a number; above the highest one the sign goes on. -/
def wd (v : Int) (i : Nat) : Int := v / 2 ^ (64 * i) % 18446744073709551616
theorem wd_0 (v : Int) : wd v 0 = lo v := by unfold wd lo; rw [Nat.mul_zero, Int.pow_zero, Int.ediv_one]
theorem wd_1 (v : Int) : wd v 1 = m3 v := rfl
theorem wd_2 (v : Int) : wd v 2 = u3 v := rfl
theorem u3_rng (v : Int) : 0 ≤ u3 v ∧ u3 v ≤ 18446744073709551615 := by unfold u3; omega
theorem m3_rng (v : Int) : 0 ≤ m3 v ∧ m3 v ≤ 18446744073709551615 := by unfold m3; omega
theorem wd_rng (v : Int) (i : Nat) : 0 ≤ wd v i ∧ wd v i ≤ 18446744073709551615 := by unfold wd; omega
theorem t3_u3 (v : Int) : t3 v % 18446744073709551616 = u3 v := by unfold t3 u3; omega
theorem u3_t3 (v : Int) : sg (u3 v) = t3 v := by unfold sg t3 u3; omega
theorem u3_top (v : Int) (h0 : -3138550867693340381917894711603833208051177722232017256448 ≤ v) (h1 : v ≤ 3138550867693340381917894711603833208051177722232017256447) : t3 v / 9223372036854775808 = if v < 0 then -1 else 0 := by
  by_cases h : v < 0
  · rw [if_pos h]; unfold t3; omega
  · rw [if_neg h]; unfold t3; omega
theorem wd_top (v : Int) (i : Nat) (hi : 3 ≤ i) (h0 : -3138550867693340381917894711603833208051177722232017256448 ≤ v) (h1 : v ≤ 3138550867693340381917894711603833208051177722232017256447) : wd v i = if v < 0 then 18446744073709551615 else 0 := by
  have hp : (6277101735386680763835789423207666416102355444464034512896 : Int) ≤ 2 ^ (64 * i) := by
    have h2 : (2 : Nat) ^ 192 ≤ 2 ^ (64 * i) := Nat.pow_le_pow_right (by omega) (by omega)
    have h3 : (((2 : Nat) ^ 192 : Nat) : Int) ≤ (((2 : Nat) ^ (64 * i) : Nat) : Int) := by omega
    rw [Int.natCast_pow, Int.natCast_pow] at h3
    exact h3
  unfold wd
  by_cases hn : v < 0
  · rw [if_pos hn, Int.ediv_eq_neg_one_of_neg_of_le (by omega) (by omega)]; rfl
  · rw [if_neg hn, Int.ediv_eq_zero_of_lt (by omega) (by omega)]; rfl

theorem wbit_at (N : Int) (a k : Nat) : N / 2 ^ a / 2 ^ k = N / 2 ^ (a + k) := by
  rw [Int.ediv_ediv_of_nonneg (by have := pow_pos' a; omega), Int.pow_add]
theorem mod_div_two (X : Int) (r : Nat) (hr : r < 64) : X % 18446744073709551616 / 2 ^ r % 2 = X / 2 ^ r % 2 := by
  have hp := pow_pos' r
  have e := Int.mul_ediv_add_emod X 18446744073709551616
  have e2 : (18446744073709551616 : Int) = 2 ^ r * (2 * 2 ^ (63 - r)) := by
    rw [show (2 : Int) * 2 ^ (63 - r) = 2 ^ (63 - r + 1) by rw [Int.pow_succ, Int.mul_comm], ← Int.pow_add, show r + (63 - r + 1) = 64 by omega]; rfl
  have e3 : X / 2 ^ r = 2 * 2 ^ (63 - r) * (X / 18446744073709551616) + X % 18446744073709551616 / 2 ^ r := by
    have e4 : X = 2 ^ r * (2 * 2 ^ (63 - r) * (X / 18446744073709551616)) + X % 18446744073709551616 := by
      rw [← Int.mul_assoc, ← e2]; exact e.symm
    have h5 : X / 2 ^ r = (2 ^ r * (2 * 2 ^ (63 - r) * (X / 18446744073709551616)) + X % 18446744073709551616) / 2 ^ r := congrArg (fun t => t / (2 : Int) ^ r) e4
    rw [Int.add_comm, Int.add_mul_ediv_left _ _ (show (2 : Int) ^ r ≠ 0 by omega)] at h5
    omega
  rw [e3, Int.mul_assoc]
  omega
theorem wd_bit (v : Int) (q r : Nat) (hr : r < 64) : wd v q / 2 ^ r % 2 = v / 2 ^ (64 * q + r) % 2 := by
  unfold wd
  rw [mod_div_two _ r hr, wbit_at]
theorem wand1 (z : Int) (h0 : 0 ≤ z) (h1 : z < 18446744073709551616) : bits .and .u64 z 1 = z % 2 := by
  obtain ⟨Z, rfl⟩ := Int.eq_ofNat_of_zero_le h0
  have h := bits_and_u64_nat Z 1 (by omega) (by omega)
  rw [Nat.and_one_is_mod] at h
  have e : ((Z % 2 : Nat) : Int) = (Z : Int) % 2 := by omega
  rw [← e]
  exact h
/-- One word of a number that is shifted down: a part of each of two. -/
theorem down_word (X : Int) (r : Nat) (hr : r < 64) : bits .or .u64 (X % 18446744073709551616 / 2 ^ r) (X / 18446744073709551616 % 18446744073709551616 * 2 ^ (64 - r) % 18446744073709551616) = X / 2 ^ r % 18446744073709551616 := by
  have hB := pow_split r (by omega)
  have hp := pow_pos' r
  have hq := pow_pos' (64 - r)
  generalize hP : (2 : Int) ^ r = p at *
  generalize hQ : (2 : Int) ^ (64 - r) = q at *
  have hB' : q * p = 18446744073709551616 := by rw [Int.mul_comm]; exact hB
  generalize hL : X % 18446744073709551616 = L
  have L0 : 0 ≤ L := by omega
  have L1 : L < 18446744073709551616 := by omega
  obtain ⟨d0, d1⟩ := div_lt L q p _ hB' hq hp L0 L1
  generalize hH : X / 18446744073709551616 = H
  have eX : X = H * 18446744073709551616 + L := by omega
  generalize hH2 : H % 18446744073709551616 = H2
  have e := mul_split H2 q p _ hB'
  obtain ⟨t0, t1⟩ := mod_mul_lt H2 q p hq hp
  rw [hB] at t1
  have eR : H2 * q % 18446744073709551616 = H2 % p * q := by rw [e]; omega
  have e2 : X / p = H * q + L / p := by
    rw [eX, ← hB, ← Int.mul_assoc, Int.mul_right_comm, Int.add_comm, Int.add_mul_ediv_right _ _ (by omega), Int.add_comm]
  have e3 : H * q = (H / 18446744073709551616 * q) * 18446744073709551616 + H2 * q := by
    have : H = H / 18446744073709551616 * 18446744073709551616 + H2 := by omega
    have h2 : H * q = (H / 18446744073709551616 * 18446744073709551616 + H2) * q := congrArg (fun t => t * q) this
    rw [Int.add_mul, Int.mul_right_comm] at h2
    exact h2
  rw [eR]
  have hdiv : (H2 % p * q) % 2 ^ (64 - r) = 0 := by rw [hQ]; exact Int.mul_emod_left _ _
  rw [or_u64 (H2 % p * q) (L / p) (64 - r) (by omega) hdiv t0 (by omega) d0 (by rw [hQ]; exact d1) (by omega)]
  rw [e2, e3, e]
  generalize H / 18446744073709551616 * q = A at *
  generalize H2 / p = B at *
  generalize H2 % p * q = C at *
  omega

/-- Which bits are nought ahead of the first 1. -/
structure Nought (v : Int) (k : Nat) : Prop where
  le : k ≤ 192
  low : v % 2 ^ k = 0
  one : k < 192 → v / 2 ^ k % 2 = 1
theorem ctz_word (x : Nat) (h0 : x ≠ 0) (h1 : x < 18446744073709551616) : Lib.ctz 64 x < 64 ∧ (x : Int) % 2 ^ Lib.ctz 64 x = 0 ∧ (x : Int) / 2 ^ Lib.ctz 64 x % 2 = 1 := by
  obtain ⟨m, hm, hk⟩ := Lib.ctzFrom_spec 64 x (by omega) h1
  have e : Lib.ctz 64 x = Lib.ctzFrom 64 x := by simp [Lib.ctz, h0]
  rw [e]
  generalize Lib.ctzFrom 64 x = k at *
  have hp := pow_pos' k
  have ex : (x : Int) = 2 ^ k * (2 * (m : Int) + 1) := by
    have := congrArg (Int.ofNat) hm
    simp only [Int.ofNat_eq_natCast, Int.natCast_mul, Int.natCast_add, Int.natCast_pow] at this
    exact this
  refine ⟨hk, ?_, ?_⟩
  · rw [ex]; exact Int.mul_emod_right _ _
  · rw [ex, Int.mul_ediv_cancel_left _ (by omega)]; omega
end Go.Proofs.Ytfcneciknldohaa
/-
  Contracts of math/bits.TrailingZeros64 and of regatta/wide's wordsOf and of words' long, at and bit.
-/
set_option linter.unusedVariables false
set_option linter.unusedSimpArgs false
namespace Go.Proofs.Ytfcneciknldohaa
open Go.RowKit

theorem tz_key (x a : Nat) (hx : x < 18446744073709551616) (hx0 : x ≠ 0) (hlow : x &&& (18446744073709551616 - x) = a) :
    IntKind.u64.wrap (bits BinOp.and IntKind.u64 (x : Int) (IntKind.u64.wrap (-(x : Int))) * 285870213051353865) / 288230376151711744 = ((a * 285870213051353865 % 18446744073709551616 / 288230376151711744 : Nat) : Int) := by
  have e1 : IntKind.u64.wrap (-(x : Int)) = ((18446744073709551616 - x : Nat) : Int) := by rw [IntKind.wrap_u64]; omega
  rw [e1, bits_and_u64_nat x _ hx (by omega), hlow, IntKind.wrap_u64]
  omega
theorem t3_wrap (v : Int) : IntKind.u64.wrap (t3 v) = u3 v := by rw [IntKind.wrap_u64]; exact t3_u3 v
theorem u3_wrap (v : Int) : wrap64 (u3 v) = t3 v := by rw [w64]; exact u3_t3 v

end Go.Proofs.Ytfcneciknldohaa
/-
  The contract of words' plus.
-/
set_option linter.unusedVariables false
set_option linter.unusedSimpArgs false
namespace Go.Proofs.Ytfcneciknldohaa
open Go.RowKit

/-- A block of three cells. -/
structure B3 (b : Nat) (x y z : Value) (w : World) : Prop where
  c0 : w.cell? ⟨b, 0, none⟩ = some x
  c1 : w.cell? ⟨b, 1, none⟩ = some y
  c2 : w.cell? ⟨b, 2, none⟩ = some z
  f0 : w.frozen? ⟨b, 0, none⟩ = false
  f1 : w.frozen? ⟨b, 1, none⟩ = false
  f2 : w.frozen? ⟨b, 2, none⟩ = false
theorem B3.new (w : World) (x y z : Value) (t : TypeId) : B3 w.heap.size x y z (w.alloc (.cells #[x, y, z] t)) where
  c0 := by simp [go_sem]
  c1 := by simp [go_sem]
  c2 := by simp [go_sem]
  f0 := by simp [go_sem]
  f1 := by simp [go_sem]
  f2 := by simp [go_sem]
theorem B3.later {b : Nat} {x y z : Value} {w w' : World} (h : B3 b x y z w) (hb : Below w.heap.size w w') : B3 b x y z w' where
  c0 := cell_later hb h.c0
  c1 := cell_later hb h.c1
  c2 := cell_later hb h.c2
  f0 := frozen_later hb h.c0 h.f0
  f1 := frozen_later hb h.c1 h.f1
  f2 := frozen_later hb h.c2 h.f2
theorem B3.lt {b : Nat} {x y z : Value} {w : World} (h : B3 b x y z w) : b < w.heap.size := World.block_lt_of_cell? _ _ h.c0

theorem B3.drew {b : Nat} {x y z : Value} {w : World} (h : B3 b x y z w) : B3 b x y z w.drew := ⟨h.c0, h.c1, h.c2, h.f0, h.f1, h.f2⟩
theorem B3.far {b : Nat} {x y z : Value} {w : World} {p : Addr} (h : B3 b x y z w) (u : Value) (hp : p.block ≠ b) : B3 b x y z (w.setCell p u) where
  c0 := cell_set hp h.c0
  c1 := cell_set hp h.c1
  c2 := cell_set hp h.c2
  f0 := by rw [World.frozen?_setCell]; exact h.f0
  f1 := by rw [World.frozen?_setCell]; exact h.f1
  f2 := by rw [World.frozen?_setCell]; exact h.f2
theorem B3.set0 {b : Nat} {x y z : Value} {w : World} (h : B3 b x y z w) (u : Value) : B3 b u y z (w.setCell ⟨b, 0, none⟩ u) := by
  have c0 := h.c0
  have c1 := h.c1
  have c2 := h.c2
  have f0 := h.f0
  have f1 := h.f1
  have f2 := h.f2
  exact ⟨by simp [go_sem, c0], by simp [go_sem, c1], by simp [go_sem, c2], by simp [go_sem, f0], by simp [go_sem, f1], by simp [go_sem, f2]⟩
theorem B3.set1 {b : Nat} {x y z : Value} {w : World} (h : B3 b x y z w) (u : Value) : B3 b x u z (w.setCell ⟨b, 1, none⟩ u) := by
  have c0 := h.c0
  have c1 := h.c1
  have c2 := h.c2
  have f0 := h.f0
  have f1 := h.f1
  have f2 := h.f2
  exact ⟨by simp [go_sem, c0], by simp [go_sem, c1], by simp [go_sem, c2], by simp [go_sem, f0], by simp [go_sem, f1], by simp [go_sem, f2]⟩
theorem B3.set2 {b : Nat} {x y z : Value} {w : World} (h : B3 b x y z w) (u : Value) : B3 b x y u (w.setCell ⟨b, 2, none⟩ u) := by
  have c0 := h.c0
  have c1 := h.c1
  have c2 := h.c2
  have f0 := h.f0
  have f1 := h.f1
  have f2 := h.f2
  exact ⟨by simp [go_sem, c0], by simp [go_sem, c1], by simp [go_sem, c2], by simp [go_sem, f0], by simp [go_sem, f1], by simp [go_sem, f2]⟩

theorem plus_words (a b : Int) : (lo a + lo b) % 18446744073709551616 = lo (a + b) ∧ (m3 a + m3 b + (lo a + lo b) / 18446744073709551616) % 18446744073709551616 = m3 (a + b) ∧ (u3 a + u3 b + (m3 a + m3 b + (lo a + lo b) / 18446744073709551616) / 18446744073709551616) % 18446744073709551616 = u3 (a + b) := by
  have h2 : ∀ v : Int, v / 340282366920938463463374607431768211456 = v / 18446744073709551616 / 18446744073709551616 := by intro v; omega
  unfold u3
  rw [h2 a, h2 b, h2 (a + b)]
  have e1 : (a + b) / 18446744073709551616 = a / 18446744073709551616 + b / 18446744073709551616 + (lo a + lo b) / 18446744073709551616 := by unfold lo; omega
  have e0 : (lo a + lo b) % 18446744073709551616 = lo (a + b) := by unfold lo; omega
  unfold m3
  rw [e1, e0]
  generalize (lo a + lo b) / 18446744073709551616 = c
  generalize a / 18446744073709551616 = p
  generalize b / 18446744073709551616 = q
  refine ⟨rfl, by omega, ?_⟩
  have e2 : (p + q + c) / 18446744073709551616 = p / 18446744073709551616 + q / 18446744073709551616 + (p % 18446744073709551616 + q % 18446744073709551616 + c) / 18446744073709551616 := by omega
  rw [e2]
  omega

end Go.Proofs.Ytfcneciknldohaa
/-
  The contract of words' down.
-/
set_option linter.unusedVariables false
set_option linter.unusedSimpArgs false
namespace Go.Proofs.Ytfcneciknldohaa
open Go.RowKit

theorem c3_later {w w' : World} {a0 a1 a2 : Addr} {v0 v1 v2 : Value} (h : w.cell? a0 = some v0 ∧ w.cell? a1 = some v1 ∧ w.cell? a2 = some v2) (hb : Below w.heap.size w w') : w'.cell? a0 = some v0 ∧ w'.cell? a1 = some v1 ∧ w'.cell? a2 = some v2 := by
  obtain ⟨h0, h1, h2⟩ := h
  exact ⟨cell_later hb h0, cell_later hb h1, cell_later hb h2⟩
theorem hidD {a b c : World} (h : Hid (Below a.heap.size a b)) (k : Below b.heap.size b c) : Hid (Below a.heap.size a c) := bchain h.out k

theorem down_at (v : Int) (n q r i : Nat) (hn : n = 64 * q + r) (hr : r < 64) : bits .or .u64 (wd v (i + q) / 2 ^ r) (wd v (i + q + 1) * 2 ^ (64 - r) % 18446744073709551616) = wd (v / 2 ^ n) i := by
  have e1 : wd v (i + q + 1) = v / 2 ^ (64 * (i + q)) / 18446744073709551616 % 18446744073709551616 := by
    unfold wd
    rw [show 64 * (i + q + 1) = 64 * (i + q) + 64 by omega, ← wbit_at]
    rfl
  have e2 : wd (v / 2 ^ n) i = v / 2 ^ (64 * (i + q)) / 2 ^ r % 18446744073709551616 := by
    unfold wd
    rw [wbit_at, wbit_at, show n + 64 * i = 64 * (i + q) + r by omega]
  rw [e1, e2]
  exact down_word _ r hr

end Go.Proofs.Ytfcneciknldohaa
/-
  The contracts of words' noughts and side.
-/
set_option linter.unusedVariables false
set_option linter.unusedSimpArgs false
namespace Go.Proofs.Ytfcneciknldohaa
open Go.RowKit

/-- How many of a word's lowest bits are nought, of 0 all. -/
def zc (x : Int) : Nat := if x = 0 then 64 else Lib.ctz 64 x.toNat
def cnt (v : Int) : Nat := if lo v = 0 then (if m3 v = 0 then 128 + zc (u3 v) else 64 + zc (m3 v)) else zc (lo v)
theorem zc_zero : zc 0 = 64 := rfl
theorem zc_word (x : Int) (x0 : 0 ≤ x) (x1 : x ≤ 18446744073709551615) (hx : x ≠ 0) : zc x < 64 ∧ x % 2 ^ zc x = 0 ∧ x / 2 ^ zc x % 2 = 1 := by
  obtain ⟨X, rfl⟩ := Int.eq_ofNat_of_zero_le x0
  have h := ctz_word X (by omega) (by omega)
  unfold zc
  rw [if_neg hx, Int.toNat_natCast]
  exact h
theorem zc_le (x : Int) (x0 : 0 ≤ x) (x1 : x ≤ 18446744073709551615) : zc x ≤ 64 := by
  by_cases hx : x = 0
  · subst hx; decide
  · have := (zc_word x x0 x1 hx).1; omega
theorem nought_shift (V v : Int) (s k : Nat) (h : v = 2 ^ s * V) (h0 : V % 2 ^ k = 0) (h1 : V / 2 ^ k % 2 = 1) : v % 2 ^ (s + k) = 0 ∧ v / 2 ^ (s + k) % 2 = 1 := by
  have hp := pow_pos' s
  rw [h, Int.pow_add, Int.mul_emod_mul_of_pos _ _ (by omega), h0, Int.mul_zero, Int.mul_ediv_mul_of_pos _ _ (by omega)]
  exact ⟨rfl, h1⟩
theorem emod_word (V : Int) (k : Nat) (hk : k ≤ 64) : V % 18446744073709551616 % 2 ^ k = V % 2 ^ k :=
  Int.emod_emod_of_dvd _ (by rw [← pow_split k hk]; exact Int.dvd_mul_right _ _)
theorem cnt_spec (v : Int) : Nought v (cnt v) := by
  have e2 : v / 340282366920938463463374607431768211456 = v / 18446744073709551616 / 18446744073709551616 := by omega
  unfold cnt
  by_cases h0 : lo v = 0
  · rw [if_pos h0]
    by_cases h1 : m3 v = 0
    · rw [if_pos h1]
      by_cases h2 : u3 v = 0
      · rw [h2, zc_zero]
        refine ⟨by omega, ?_, by omega⟩
        show v % 6277101735386680763835789423207666416102355444464034512896 = 0
        unfold lo at h0
        unfold m3 at h1
        unfold u3 at h2
        omega
      · have hr := u3_rng v
        obtain ⟨z0, z1, z2⟩ := zc_word (u3 v) hr.1 hr.2 h2
        have y1 := emod_word (v / 340282366920938463463374607431768211456) (zc (u3 v)) (by omega)
        have y2 := mod_div_two (v / 340282366920938463463374607431768211456) (zc (u3 v)) z0
        have ev : v = 2 ^ 128 * (v / 340282366920938463463374607431768211456) := by
          show v = 340282366920938463463374607431768211456 * (v / 340282366920938463463374607431768211456)
          unfold lo at h0
          unfold m3 at h1
          omega
        have eu : v / 340282366920938463463374607431768211456 % 18446744073709551616 = u3 v := rfl
        rw [eu] at y1 y2
        obtain ⟨n1, n2⟩ := nought_shift _ v 128 (zc (u3 v)) ev (by rw [← y1]; exact z1) (by rw [← y2]; exact z2)
        exact ⟨by omega, n1, fun _ => n2⟩
    · rw [if_neg h1]
      have hr := m3_rng v
      obtain ⟨z0, z1, z2⟩ := zc_word (m3 v) hr.1 hr.2 h1
      have y1 := emod_word (v / 18446744073709551616) (zc (m3 v)) (by omega)
      have y2 := mod_div_two (v / 18446744073709551616) (zc (m3 v)) z0
      have ev : v = 2 ^ 64 * (v / 18446744073709551616) := by
        show v = 18446744073709551616 * (v / 18446744073709551616)
        unfold lo at h0
        omega
      have eu : v / 18446744073709551616 % 18446744073709551616 = m3 v := rfl
      rw [eu] at y1 y2
      obtain ⟨n1, n2⟩ := nought_shift _ v 64 (zc (m3 v)) ev (by rw [← y1]; exact z1) (by rw [← y2]; exact z2)
      exact ⟨by omega, n1, fun _ => n2⟩
  · rw [if_neg h0]
    obtain ⟨z0, z1, z2⟩ := zc_word (lo v) (lo_ge v) (lo_le v) h0
    have y1 := emod_word v (zc (lo v)) (by omega)
    have y2 := mod_div_two v (zc (lo v)) z0
    have eu : v % 18446744073709551616 = lo v := rfl
    rw [eu] at y1 y2
    exact ⟨by omega, by rw [← y1]; exact z1, fun _ => by rw [← y2]; exact z2⟩

/-- Where the n lowest bits lie: below a half, at it, above it. -/
def sd (v : Int) (n : Nat) : Int := if n = 0 then -1 else c3 (v % 2 ^ n) (2 ^ (n - 1))
theorem wmod_succ (a : Int) (k : Nat) : a % 2 ^ (k + 1) = a / 2 ^ k % 2 * 2 ^ k + a % 2 ^ k := by
  have hp := pow_pos' k
  have e1 := Int.mul_ediv_add_emod a (2 ^ k)
  have e2 := Int.mul_ediv_add_emod (a / 2 ^ k) 2
  have m0 := Int.emod_nonneg a (show (2 : Int) ^ k ≠ 0 by omega)
  have m1 := Int.emod_lt_of_pos a (show (0 : Int) < 2 ^ k by omega)
  have e3 : a = (a / 2 ^ k % 2 * 2 ^ k + a % 2 ^ k) + 2 ^ (k + 1) * (a / 2 ^ k / 2) := by
    have h := congrArg (fun t => 2 ^ k * t) e2
    have h2 : (2 : Int) ^ k * (2 * (a / 2 ^ k / 2) + a / 2 ^ k % 2) = 2 ^ k * (a / 2 ^ k) := h
    have hs : (2 : Int) ^ k * 2 = 2 ^ (k + 1) := (Int.pow_succ 2 k).symm
    rw [Int.mul_add, ← Int.mul_assoc, hs, Int.mul_comm (2 ^ k) (a / 2 ^ k % 2)] at h2
    omega
  have b0 : a / 2 ^ k % 2 = 0 ∨ a / 2 ^ k % 2 = 1 := by omega
  have r0 : 0 ≤ a / 2 ^ k % 2 * 2 ^ k + a % 2 ^ k ∧ a / 2 ^ k % 2 * 2 ^ k + a % 2 ^ k < 2 ^ (k + 1) := by
    rw [pow_two]
    rcases b0 with h | h <;> rw [h] <;> omega
  have e4 := congrArg (fun t => t % (2 : Int) ^ (k + 1)) e3
  have e5 : a % 2 ^ (k + 1) = ((a / 2 ^ k % 2 * 2 ^ k + a % 2 ^ k) + 2 ^ (k + 1) * (a / 2 ^ k / 2)) % 2 ^ (k + 1) := e4
  rw [Int.add_mul_emod_self_left, Int.emod_eq_of_lt r0.1 r0.2] at e5
  exact e5
theorem bit_low (v : Int) (m k : Nat) (hk : k < m) (h : v % 2 ^ m = 0) : v / 2 ^ k % 2 = 0 := by
  obtain ⟨c, hc⟩ := Int.dvd_of_emod_eq_zero h
  have hp := pow_pos' k
  have e : (2 : Int) ^ m = 2 ^ k * (2 * 2 ^ (m - k - 1)) := by
    rw [show (2 : Int) * 2 ^ (m - k - 1) = 2 ^ (m - k - 1 + 1) by rw [Int.pow_succ, Int.mul_comm], ← Int.pow_add]; congr 1; omega
  rw [hc, e, Int.mul_assoc, Int.mul_ediv_cancel_left _ (by omega), Int.mul_assoc]
  exact Int.mul_emod_right _ _
theorem sd_bit0 (v : Int) (n : Nat) (n0 : 1 ≤ n) (h : v / 2 ^ (n - 1) % 2 = 0) : sd v n = -1 := by
  unfold sd
  rw [if_neg (by omega)]
  have hp := pow_pos' (n - 1)
  have m1 := Int.emod_lt_of_pos v (show (0 : Int) < 2 ^ (n - 1) by omega)
  have e := wmod_succ v (n - 1)
  rw [h, Int.zero_mul, Int.zero_add, show n - 1 + 1 = n by omega] at e
  rw [e]
  exact c3_lt _ _ m1
theorem sd_bit1 (v : Int) (n : Nat) (n0 : 1 ≤ n) (n1 : n ≤ 191) (h : v / 2 ^ (n - 1) % 2 = 1) : (cnt v = n - 1 ∧ sd v n = 0) ∨ (cnt v ≠ n - 1 ∧ sd v n = 1) := by
  obtain ⟨k0, k1, k2⟩ := cnt_spec v
  generalize cnt v = k at *
  unfold sd
  rw [if_neg (by omega)]
  have hp := pow_pos' (n - 1)
  have m0 := Int.emod_nonneg v (show (2 : Int) ^ (n - 1) ≠ 0 by omega)
  have e := wmod_succ v (n - 1)
  rw [h, Int.one_mul, show n - 1 + 1 = n by omega] at e
  rw [e]
  by_cases hz : v % 2 ^ (n - 1) = 0
  · refine .inl ⟨?_, by rw [hz, Int.add_zero]; exact c3_self _⟩
    rcases (show k < n - 1 ∨ k = n - 1 ∨ n - 1 < k by omega) with hk | hk | hk
    · have := bit_low v (n - 1) k hk hz
      have := k2 (by omega)
      omega
    · exact hk
    · have := bit_low v k (n - 1) hk k1
      omega
  · refine .inr ⟨?_, c3_gt _ _ (by omega)⟩
    intro hk
    rw [hk] at k1
    exact hz k1

end Go.Proofs.Ytfcneciknldohaa
/-
  The contracts of words' rounded and of regatta/wide's Near.
-/
set_option linter.unusedVariables false
set_option linter.unusedSimpArgs false
namespace Go.Proofs.Ytfcneciknldohaa
open Go.RowKit

/-- A number by 2^n, to the nearest whole one, of two the even one; by 2^0 itself. -/
def rl (v : Int) (n : Nat) : Int := if gu (sd v n) (lo (v / 2 ^ n)) = true then v / 2 ^ n + 1 else v / 2 ^ n
theorem rl_zero (v : Int) : rl v 0 = v := by
  unfold rl
  rw [show sd v 0 = -1 from rfl, if_neg (by unfold gu; simp), Int.pow_zero, Int.ediv_one]
theorem rl_pos (v : Int) (n : Nat) (n0 : 1 ≤ n) : rl v n = rnd v n := by
  unfold rl rnd sd
  rw [if_neg (show ¬ n = 0 by omega)]
end Go.Proofs.Ytfcneciknldohaa
/-
  The contract of regatta/wide's Near.
-/
set_option linter.unusedVariables false
set_option linter.unusedSimpArgs false
namespace Go.Proofs.Ytfcneciknldohaa
open Go.RowKit

set_option maxHeartbeats 400000 in
theorem clamped_fits (l : Int) (b : Bool) (w : World) :
    Calls Try.prog 63 #[.int .i64 l, .bool b, .bool true] w fun e w' => e = .returned (.tuple #[.int .i64 l, .bool false]) ∧ w' = w := by
  go_enter Try.func63, Try.ntmps63
  go_wp2
  go_ret2
  exact ⟨rfl, rfl⟩
set_option maxHeartbeats 400000 in
theorem clamped_low (l : Int) (w : World) :
    Calls Try.prog 63 #[.int .i64 l, .bool true, .bool false] w fun e w' => e = .returned (.tuple #[.int .i64 (-9223372036854775808), .bool true]) ∧ w' = w := by
  go_enter Try.func63, Try.ntmps63
  go_wp2
  go_ret2
  exact ⟨rfl, rfl⟩
set_option maxHeartbeats 400000 in
theorem clamped_high (l : Int) (w : World) :
    Calls Try.prog 63 #[.int .i64 l, .bool false, .bool false] w fun e w' => e = .returned (.tuple #[.int .i64 9223372036854775807, .bool true]) ∧ w' = w := by
  go_enter Try.func63, Try.ntmps63
  go_wp2
  go_ret2
  exact ⟨rfl, rfl⟩

theorem rl_rng (v : Int) (n : Nat) (h0 : -3138550867693340381917894711603833208051177722232017256448 ≤ v) (h1 : v ≤ 3138550867693340381917894711603833208051177722232017256447) : -3138550867693340381917894711603833208051177722232017256448 ≤ rl v n ∧ rl v n ≤ 3138550867693340381917894711603833208051177722232017256447 := by
  by_cases hn : n = 0
  · subst hn; rw [rl_zero]; exact ⟨h0, h1⟩
  · have hp : (2 : Int) ≤ 2 ^ n := by
      have := pow_two (n - 1)
      have := pow_pos' (n - 1)
      rw [show n - 1 + 1 = n by omega] at *
      omega
    have a1 : v / 2 ^ n ≤ 1569275433846670190958947355801916604025588861116008628223 := by
      have := Int.ediv_le_ediv (show (0 : Int) < 2 ^ n by omega) h1
      have h2 : (3138550867693340381917894711603833208051177722232017256447 : Int) / 2 ^ n ≤ 1569275433846670190958947355801916604025588861116008628223 := by
        apply Int.le_of_lt_add_one
        apply Int.ediv_lt_of_lt_mul (by omega)
        have := Int.mul_le_mul_of_nonneg_left hp (show (0 : Int) ≤ 1569275433846670190958947355801916604025588861116008628224 by omega)
        omega
      omega
    have a0 : -1569275433846670190958947355801916604025588861116008628224 ≤ v / 2 ^ n := by
      rw [Int.le_ediv_iff_mul_le (by omega)]
      have := Int.mul_le_mul_of_nonpos_left (a := -1569275433846670190958947355801916604025588861116008628224) (by omega) hp
      omega
    unfold rl
    split <;> omega
/-- A long number that fits 64 bits is its lowest word; of one that doesn't another word is other. -/
theorem long_fits (r : Int) (h0 : -9223372036854775808 ≤ r) (h1 : r ≤ 9223372036854775807) : sg (lo r) = r := (fits_in r h0 h1).2
theorem long_out (r : Int) (r0 : -3138550867693340381917894711603833208051177722232017256448 ≤ r) (r1 : r ≤ 3138550867693340381917894711603833208051177722232017256447) (h : ¬ (-9223372036854775808 ≤ r ∧ r ≤ 9223372036854775807)) :
    ¬ t3 r = t3 (sg (lo r)) ∨ (t3 r = t3 (sg (lo r)) ∧ ¬ m3 r = m3 (sg (lo r))) := by
  have hs : -9223372036854775808 ≤ sg (lo r) ∧ sg (lo r) ≤ 9223372036854775807 := by unfold sg; omega
  have hd : (sg (lo r) - r) % 18446744073709551616 = 0 := by unfold sg lo; omega
  generalize sg (lo r) = L at *
  by_cases ht : t3 r = t3 L
  · refine .inr ⟨ht, ?_⟩
    intro hm
    have e1 : r / 340282366920938463463374607431768211456 = L / 340282366920938463463374607431768211456 := by unfold t3 at ht; omega
    have e2 : r / 18446744073709551616 % 18446744073709551616 = L / 18446744073709551616 % 18446744073709551616 := hm
    have x1 : r / 340282366920938463463374607431768211456 = r / 18446744073709551616 / 18446744073709551616 := by omega
    have x2 : L / 340282366920938463463374607431768211456 = L / 18446744073709551616 / 18446744073709551616 := by omega
    rw [x1, x2] at e1
    have e3 : r / 18446744073709551616 = L / 18446744073709551616 := by omega
    have e4 : r = L := by omega
    omega
  · exact .inl ht
theorem t3_sign (r : Int) (r0 : -3138550867693340381917894711603833208051177722232017256448 ≤ r) (r1 : r ≤ 3138550867693340381917894711603833208051177722232017256447) : (r < 0 → t3 r < 0) ∧ (0 ≤ r → 0 ≤ t3 r) := by unfold t3; omega

end Go.Proofs.Ytfcneciknldohaa
/-
  The contract of regatta/wide's Plus.
-/
set_option linter.unusedVariables false
set_option linter.unusedSimpArgs false
namespace Go.Proofs.Ytfcneciknldohaa
open Go.RowKit

/-- Two long numbers' cells. -/
def C6 (w' : World) (p : Nat) (ta ma la tb mb lb : Int) : Prop := w'.cell? ⟨p, 0, none⟩ = some (.int .i64 ta) ∧ w'.cell? ⟨p, 1, none⟩ = some (.int .u64 ma) ∧ w'.cell? ⟨p, 2, none⟩ = some (.int .u64 la) ∧ w'.cell? ⟨p + 1, 0, none⟩ = some (.int .i64 tb) ∧ w'.cell? ⟨p + 1, 1, none⟩ = some (.int .u64 mb) ∧ w'.cell? ⟨p + 1, 2, none⟩ = some (.int .u64 lb)
theorem C6.out {w' : World} {p : Nat} {ta ma la tb mb lb : Int} (h : C6 w' p ta ma la tb mb lb) : w'.cell? ⟨p, 0, none⟩ = some (.int .i64 ta) ∧ w'.cell? ⟨p, 1, none⟩ = some (.int .u64 ma) ∧ w'.cell? ⟨p, 2, none⟩ = some (.int .u64 la) ∧ w'.cell? ⟨p + 1, 0, none⟩ = some (.int .i64 tb) ∧ w'.cell? ⟨p + 1, 1, none⟩ = some (.int .u64 mb) ∧ w'.cell? ⟨p + 1, 2, none⟩ = some (.int .u64 lb) := h
theorem c6_later {w w' : World} {p : Nat} {ta ma la tb mb lb : Int} (h : C6 w p ta ma la tb mb lb) (hb : Below w.heap.size w w') : C6 w' p ta ma la tb mb lb := by
  obtain ⟨h0, h1, h2, h3, h4, h5⟩ := h
  exact ⟨cell_later hb h0, cell_later hb h1, cell_later hb h2, cell_later hb h3, cell_later hb h4, cell_later hb h5⟩
theorem c6_set {w : World} {p : Nat} {ta ma la tb mb lb : Int} (h : C6 w p ta ma la tb mb lb) (o : Nat) (x : Value) : C6 (w.setCell ⟨p + 1 + 1, o, none⟩ x) p ta ma la tb mb lb := by
  obtain ⟨h0, h1, h2, h3, h4, h5⟩ := h
  exact ⟨cell_set (by dsimp only; omega) h0, cell_set (by dsimp only; omega) h1, cell_set (by dsimp only; omega) h2, cell_set (by dsimp only; omega) h3, cell_set (by dsimp only; omega) h4, cell_set (by dsimp only; omega) h5⟩

end Go.Proofs.Ytfcneciknldohaa
