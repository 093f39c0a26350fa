/-
  WalkA, WalkB, WalkC, WalkD.
-/
import Derived.Test.YtaifihfiompgaaaProg
import Derived.Test.YtaifihfiompgaaaBA
import Derived.WalkKit
import Derived.WalkSpells
import Derived.WalkLawsBesides
import Derived.Deep.RegionHeld3
import Derived.Deep.DrawnRows
import Derived.Lib.Mul64
import Derived.Laws.Bits64b
import Derived.Lib.MinMax
/-
  Contracts of math/bits' Add64 and Sub64 (as the model runs them) and of regatta/wide's Of, Add, Sub, Neg: each on every number, no condition.
-/
set_option linter.unusedVariables false
namespace Go.Proofs.Ytaifihfiompgaaa
open Go.RowKit

def sub64Row : Array Value → Sem Value := fun args => do
  let (x, y, b) ← Extern.MathBitsCarry.three "Sub64" args
  pure (Extern.MathBitsCarry.pair ((x + Extern.MathBitsCarry.m64 - y - b) % Extern.MathBitsCarry.m64) (if x < y + b then 1 else 0))

theorem run_sub64_nat (x y b : Nat) (hb : b ≤ 1) (w : World) :
    (sub64Row #[.int .u64 x, .int .u64 y, .int .u64 b]).run Try.prog w =
      .ok (.tuple #[.int .u64 (((x + 18446744073709551616 - y - b) % 18446744073709551616 : Nat) : Int), .int .u64 ((if x < y + b then 1 else 0 : Nat) : Int)]) w := by
  have : b = 0 ∨ b = 1 := by omega
  rcases this with rfl | rfl <;> rfl

theorem bel1 (w : World) (o1 : Obj) : Below w.heap.size w (w.alloc o1) := (Below.refl _ _).alloc (Nat.le_refl _) _
theorem bel2 (w : World) (o1 o2 : Obj) : Below w.heap.size w ((w.alloc o1).alloc o2) := (bel1 w o1).alloc (by simp) _
theorem bel3 (w : World) (o1 o2 o3 : Obj) : Below w.heap.size w (((w.alloc o1).alloc o2).alloc o3) := (bel2 w o1 o2).alloc (by simp; omega) _
theorem bel4 (w : World) (o1 o2 o3 o4 : Obj) : Below w.heap.size w ((((w.alloc o1).alloc o2).alloc o3).alloc o4) := (bel3 w o1 o2 o3).alloc (by simp; omega) _
theorem bcell {W w1 : World} (hb : Below W.heap.size W w1) : (∀ b o, b < W.heap.size → w1.cell? ⟨b, o, none⟩ = W.cell? ⟨b, o, none⟩) ∧ (∀ b o, b < W.heap.size → w1.frozen? ⟨b, o, none⟩ = W.frozen? ⟨b, o, none⟩) :=
  ⟨fun b o h => hb.cell (p := ⟨b, o, none⟩) h, fun b o h => hb.frozen (p := ⟨b, o, none⟩) h⟩

theorem u64_wrap (n : Int) : IntKind.u64.wrap n = lo n := by rw [IntKind.wrap_u64]; rfl
theorem add_hi' (a0 a1 b0 b1 : Int) (ha0 : 0 ≤ a1) (ha1 : a1 ≤ 18446744073709551615) (hb0 : 0 ≤ b1) (hb1 : b1 ≤ 18446744073709551615) : wrap64 ((IntKind.u64.wrap a0 + IntKind.u64.wrap b0 + (a1 + b1) / 18446744073709551616) % 18446744073709551616) = hi (nm a0 a1 + nm b0 b1) := by
  rw [← add_hi a0 a1 b0 b1 ha0 ha1 hb0 hb1]; simp only [IntKind.wrap_u64, wrap64]
theorem sub_hi' (a0 a1 b0 b1 : Int) (ha0 : 0 ≤ a1) (ha1 : a1 ≤ 18446744073709551615) (hb0 : 0 ≤ b1) (hb1 : b1 ≤ 18446744073709551615) : wrap64 ((IntKind.u64.wrap a0 + 18446744073709551616 - IntKind.u64.wrap b0 - bor a1 b1) % 18446744073709551616) = hi (nm a0 a1 - nm b0 b1) := by
  rw [← sub_hi a0 a1 b0 b1 ha0 ha1 hb0 hb1]; simp only [IntKind.wrap_u64, wrap64]

end Go.Proofs.Ytaifihfiompgaaa
/-
  Contracts of cmp.Compare at int64 and uint64, of cmp.Or at two ints and of regatta/wide's Cmp.
-/
set_option linter.unusedVariables false
namespace Go.Proofs.Ytaifihfiompgaaa
open Go.RowKit

end Go.Proofs.Ytaifihfiompgaaa
/-
  Contracts of math/bits.Mul64 and of regatta/wide's Mul, clamped, Clamp, goesUp, size, Extend.
-/
set_option linter.unusedVariables false
namespace Go.Proofs.Ytaifihfiompgaaa
open Go.RowKit

theorem mk32 (a : Nat) (ha : a < 18446744073709551616) : bits .and .u64 (a : Int) 4294967295 = ((a % 4294967296 : Nat) : Int) := by
  have h := bits_and_u64_nat a 4294967295 ha (by omega)
  have e : a &&& 4294967295 = a % 4294967296 := Nat.and_two_pow_sub_one_eq_mod a 32
  rw [e] at h
  exact h
theorem dv32 (a : Nat) : (a : Int) / 4294967296 = ((a / 4294967296 : Nat) : Int) := by omega
theorem mlN (a b : Nat) : (a : Int) * (b : Int) = ((a * b : Nat) : Int) := (Int.natCast_mul a b).symm
theorem adN (a b : Nat) : (a : Int) + (b : Int) = ((a + b : Nat) : Int) := (Int.natCast_add a b).symm
theorem wrN (a : Nat) (ha : a < 18446744073709551616) : IntKind.u64.wrap (a : Int) = (a : Int) := by rw [IntKind.wrap_u64]; omega
theorem wrM (a : Nat) : IntKind.u64.wrap (a : Int) = ((a % 18446744073709551616 : Nat) : Int) := by rw [IntKind.wrap_u64]; omega

theorem w64 (x : Int) : wrap64 x = sg x := by unfold wrap64 sg; rfl

end Go.Proofs.Ytaifihfiompgaaa
/-
  Contracts of regatta/wide's Shl and Shr.
-/
set_option linter.unusedVariables false
namespace Go.Proofs.Ytaifihfiompgaaa
open Go.RowKit

theorem or_i64 (X Y : Int) (n : Nat) (hn : n ≤ 63) (hX : X % 2 ^ n = 0) (h0 : 0 ≤ Y) (h1 : Y < 2 ^ n) : bits .or .i64 X Y = sg (X + Y) := by
  have hp : (2 : Int) ^ n ∣ ((2 ^ 64 : Nat) : Int) := by
    rw [show ((2 ^ 64 : Nat) : Int) = 2 ^ n * 2 ^ (64 - n) from (pow_split n (by omega)).symm]; exact Int.dvd_mul_right _ _
  have hA : (X % ((2 ^ 64 : Nat) : Int)).toNat % 2 ^ n = 0 := by
    have h2 : X % ((2 ^ 64 : Nat) : Int) % 2 ^ n = 0 := by rw [Int.emod_emod_of_dvd _ hp]; exact hX
    have h3 : 0 ≤ X % ((2 ^ 64 : Nat) : Int) := Int.emod_nonneg _ (by decide)
    have h4 : (((X % ((2 ^ 64 : Nat) : Int)).toNat % 2 ^ n : Nat) : Int) = 0 := by
      rw [Int.natCast_emod, Int.toNat_of_nonneg h3, Int.natCast_pow]; exact h2
    omega
  have hY' : Y.toNat < 2 ^ n := by
    have : (Y.toNat : Int) < ((2 ^ n : Nat) : Int) := by rw [Int.toNat_of_nonneg h0, Int.natCast_pow]; exact h1
    omega
  have hle : (2 : Nat) ^ n ≤ 2 ^ 63 := Nat.pow_le_pow_right (by omega) hn
  have key : (BitVec.ofInt 64 X ||| BitVec.ofInt 64 Y).toNat = (X % ((2 ^ 64 : Nat) : Int)).toNat + Y.toNat := by
    rw [BitVec.toNat_or, BitVec.toNat_ofInt, BitVec.toNat_ofInt]
    have e : (Y % ((2 ^ 64 : Nat) : Int)).toNat = Y.toNat := by omega
    rw [e]
    exact nat_or_add _ _ n hA hY'
  show IntKind.i64.wrap (((BitVec.ofInt 64 X ||| BitVec.ofInt 64 Y).toNat : Nat) : Int) = _
  rw [key, IntKind.wrap_i64]
  unfold sg
  omega

theorem or_u64 (X Y : Int) (n : Nat) (hn : n ≤ 64) (hX : X % 2 ^ n = 0) (x0 : 0 ≤ X) (x1 : X < 18446744073709551616) (h0 : 0 ≤ Y) (h1 : Y < 2 ^ n) (hs : X + Y < 18446744073709551616) : bits .or .u64 Y X = Y + X := by
  have hA : X.toNat % 2 ^ n = 0 := by
    have h4 : ((X.toNat % 2 ^ n : Nat) : Int) = 0 := by
      rw [Int.natCast_emod, Int.toNat_of_nonneg x0, Int.natCast_pow]; exact hX
    omega
  have hY' : Y.toNat < 2 ^ n := by
    have : (Y.toNat : Int) < ((2 ^ n : Nat) : Int) := by rw [Int.toNat_of_nonneg h0, Int.natCast_pow]; exact h1
    omega
  have hle : (2 : Nat) ^ n ≤ 2 ^ 64 := Nat.pow_le_pow_right (by omega) hn
  have key : (BitVec.ofInt 64 Y ||| BitVec.ofInt 64 X).toNat = X.toNat + Y.toNat := by
    rw [BitVec.toNat_or, BitVec.toNat_ofInt, BitVec.toNat_ofInt]
    have e : (Y % ((2 ^ 64 : Nat) : Int)).toNat = Y.toNat := by omega
    have e2 : (X % ((2 ^ 64 : Nat) : Int)).toNat = X.toNat := by omega
    rw [e, e2, Nat.or_comm]
    exact nat_or_add _ _ n hA hY'
  show IntKind.u64.wrap (((BitVec.ofInt 64 Y ||| BitVec.ofInt 64 X).toNat : Nat) : Int) = _
  rw [key, IntKind.wrap_u64]
  omega

theorem sg_mod (x p q : Int) (hB : p * q = 18446744073709551616) (hx : x % p = 0) : sg x % p = 0 := by
  obtain ⟨c, hc⟩ := Int.dvd_of_emod_eq_zero hx
  have e : sg x = x - 18446744073709551616 * ((x + 9223372036854775808) / 18446744073709551616) := by unfold sg; omega
  rw [e, ← hB, hc, Int.mul_assoc, ← Int.mul_sub]
  exact Int.mul_emod_right _ _
theorem sg_add (x y : Int) : sg (sg x + y) = sg (x + y) := by unfold sg; omega
theorem sg_id (x : Int) (h0 : -9223372036854775808 ≤ x) (h1 : x ≤ 9223372036854775807) : sg x = x := by unfold sg; omega

theorem pow_le_63 (k : Nat) (hk : k ≤ 63) : (2 : Int) ^ k ≤ 9223372036854775808 := by
  have h : (2 : Nat) ^ k ≤ 2 ^ 63 := Nat.pow_le_pow_right (by omega) hk
  have h2 : (((2 : Nat) ^ k : Nat) : Int) ≤ (((2 : Nat) ^ 63 : Nat) : Int) := by omega
  rw [Int.natCast_pow] at h2
  exact h2

theorem shl_hi (a0 a1 : Int) (k : Nat) (hk : k ≤ 63) (h0 : 0 ≤ a1) (h1 : a1 ≤ 18446744073709551615) : bits .or .i64 (wrap64 (a0 * 2 ^ k)) (wrap64 (a1 / 2 ^ (64 - k))) = hi (nm a0 a1 * 2 ^ k) := by
  have hB := pow_split k (by omega)
  have hp := pow_pos' k
  have hq := pow_pos' (64 - k)
  obtain ⟨d0, d1⟩ := div_lt a1 _ _ _ hB hp hq h0 (by omega)
  have hl := pow_le_63 k hk
  rw [w64, w64, sg_id (a1 / 2 ^ (64 - k)) (by omega) (by omega), or_i64 _ _ k hk (sg_mod _ _ _ hB (Int.mul_emod_left _ _)) d0 d1, sg_add]
  exact (shl_words a0 a1 _ _ hB hp hq h0 h1).1
theorem shl_lo (a0 a1 : Int) (k : Nat) (hk : k ≤ 63) (h0 : 0 ≤ a1) (h1 : a1 ≤ 18446744073709551615) : IntKind.u64.wrap (a1 * 2 ^ k) = lo (nm a0 a1 * 2 ^ k) := by
  rw [IntKind.wrap_u64]
  exact (shl_words a0 a1 _ _ (pow_split k (by omega)) (pow_pos' k) (pow_pos' (64 - k)) h0 h1).2
theorem shr_lo (a0 a1 : Int) (k : Nat) (hk0 : 1 ≤ k) (hk : k ≤ 63) (g0 : -9223372036854775808 ≤ a0) (g1 : a0 ≤ 9223372036854775807) (h0 : 0 ≤ a1) (h1 : a1 ≤ 18446744073709551615) : bits .or .u64 (a1 / 2 ^ k) (IntKind.u64.wrap (IntKind.u64.wrap a0 * 2 ^ (64 - k))) = lo (nm a0 a1 / 2 ^ k) := by
  have hB := pow_split k (by omega)
  have hp := pow_pos' k
  have hq := pow_pos' (64 - k)
  obtain ⟨e1, e2, d0, d1, e3, e4⟩ := shr_words a0 a1 _ _ hB hp hq g0 g1 h0 h1
  have e5 : IntKind.u64.wrap (IntKind.u64.wrap a0 * 2 ^ (64 - k)) = a0 * 2 ^ (64 - k) % 18446744073709551616 := by
    rw [IntKind.wrap_u64, IntKind.wrap_u64, Int.mul_emod, Int.emod_emod, ← Int.mul_emod]
  have m0 := (mod_mul_lt a0 (2 ^ (64 - k)) (2 ^ k) hq hp).2
  rw [hB] at m0
  rw [e5, or_u64 _ _ (64 - k) (by omega) (by rw [e3]; exact Int.mul_emod_left _ _) (by rw [e3]; exact e4) (by rw [e3]; omega) d0 d1 (by rw [e3]; omega)]
  exact e2
theorem shr_hi (a0 a1 : Int) (k : Nat) (hk : k ≤ 63) (g0 : -9223372036854775808 ≤ a0) (g1 : a0 ≤ 9223372036854775807) (h0 : 0 ≤ a1) (h1 : a1 ≤ 18446744073709551615) : a0 / 2 ^ k = hi (nm a0 a1 / 2 ^ k) :=
  (shr_words a0 a1 _ _ (pow_split k (by omega)) (pow_pos' k) (pow_pos' (64 - k)) g0 g1 h0 h1).1

theorem pow_big (n : Int) (h : 64 ≤ n) : (2 : Int) ^ n.toNat = 18446744073709551616 * 2 ^ (n - 64).toNat := by
  rw [show n.toNat = 64 + (n - 64).toNat by omega, Int.pow_add]; rfl
/-- Beyond 64 bits nothing more is left out of a word. -/
theorem shl_min (a : Int) (n : Nat) : a * 2 ^ min n 64 % 18446744073709551616 = a * 2 ^ n % 18446744073709551616 := by
  by_cases h : n ≤ 64
  · rw [Nat.min_eq_left h]
  · rw [Nat.min_eq_right (by omega), show n = 64 + (n - 64) by omega, Int.pow_add, ← Int.mul_assoc, show (2 : Int) ^ 64 = 18446744073709551616 from rfl]
    rw [Int.mul_right_comm a]
    rw [Int.mul_emod_left, Int.mul_emod_left]
theorem shl_big_hi (a0 a1 : Int) (n : Int) (h : 64 ≤ n) : wrap64 (IntKind.u64.wrap (a1 * 2 ^ min (n - 64).toNat 64)) = hi (nm a0 a1 * 2 ^ n.toNat) := by
  rw [w64, IntKind.wrap_u64, shl_min, pow_big n h]
  exact (shl_words_big a0 a1 _).1
theorem shl_big_lo (a0 a1 : Int) (n : Int) (h : 64 ≤ n) : lo (nm a0 a1 * 2 ^ n.toNat) = 0 := by
  rw [pow_big n h]
  exact (shl_words_big a0 a1 _).2.symm
theorem one_le_pow (n : Nat) : (1 : Int) ≤ 2 ^ n := pow_pos' n
theorem shr_min (a : Int) (n : Nat) (g0 : -9223372036854775808 ≤ a) (g1 : a ≤ 9223372036854775807) : a / 2 ^ min n 64 = a / 2 ^ n := by
  by_cases h : n ≤ 64
  · rw [Nat.min_eq_left h]
  · rw [Nat.min_eq_right (by omega), show n = 64 + (n - 64) by omega, Int.pow_add, ← Int.ediv_ediv_of_nonneg (by decide), show (2 : Int) ^ 64 = 18446744073709551616 from rfl]
    have hp := one_le_pow (n - 64)
    have h2 : a / 18446744073709551616 = 0 ∨ a / 18446744073709551616 = -1 := by omega
    rcases h2 with h2 | h2
    · rw [h2, Int.zero_ediv]
    · rw [h2]
      have : (-1 : Int) / 2 ^ (n - 64) = -1 := Int.ediv_eq_neg_one_of_neg_of_le (by omega) (by omega)
      rw [this]
theorem shr_rng (a p : Int) (hp : 1 ≤ p) (g0 : -9223372036854775808 ≤ a) (g1 : a ≤ 9223372036854775807) : -9223372036854775808 ≤ a / p ∧ a / p ≤ 9223372036854775807 := by
  constructor
  · rw [Int.le_ediv_iff_mul_le (by omega)]
    have := Int.mul_le_mul_of_nonpos_left (a := -9223372036854775808) (by omega) hp
    omega
  · have h3 := Int.ediv_le_ediv (show 0 < p by omega) g1
    have h2 : 9223372036854775807 / p ≤ 9223372036854775807 := Int.ediv_le_self _ (by omega)
    omega

theorem mul_congr (x y p : Int) (h : (x - y) % 340282366920938463463374607431768211456 = 0) : (x * p - y * p) % 340282366920938463463374607431768211456 = 0 := by
  rw [← Int.sub_mul, Int.mul_emod, h, Int.zero_mul]; rfl

end Go.Proofs.Ytaifihfiompgaaa
