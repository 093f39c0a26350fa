/-
  Contracts of regatta/wide's Shl and Shr.
-/
import Derived.Test.YtekdpeiemfppiabDoorWalkC
import Derived.Test.YtekdpeiemfppiabDoorMath2
import Derived.Lib.MinMax
set_option linter.unusedVariables false
namespace Go.Proofs.YtekdpeiemfppiabDoor
open Go.RowKit

theorem or_i64 (X Y : Int) (n : Nat) (hn : n ≤ 63) (hX : X % 2 ^ n = 0) (h0 : 0 ≤ Y) (h1 : Y < 2 ^ n) : bits .or .i64 X Y = sg (X + Y) := by
  have hp : (2 : Int) ^ n ∣ ((2 ^ 64 : Nat) : Int) := by
    rw [show ((2 ^ 64 : Nat) : Int) = 2 ^ n * 2 ^ (64 - n) from (pow_split n (by omega)).symm]; exact Int.dvd_mul_right _ _
  have hA : (X % ((2 ^ 64 : Nat) : Int)).toNat % 2 ^ n = 0 := by
    have h2 : X % ((2 ^ 64 : Nat) : Int) % 2 ^ n = 0 := by rw [Int.emod_emod_of_dvd _ hp]; exact hX
    have h3 : 0 ≤ X % ((2 ^ 64 : Nat) : Int) := Int.emod_nonneg _ (by decide)
    have h4 : (((X % ((2 ^ 64 : Nat) : Int)).toNat % 2 ^ n : Nat) : Int) = 0 := by
      rw [Int.natCast_emod, Int.toNat_of_nonneg h3, Int.natCast_pow]; exact h2
    omega
  have hY' : Y.toNat < 2 ^ n := by
    have : (Y.toNat : Int) < ((2 ^ n : Nat) : Int) := by rw [Int.toNat_of_nonneg h0, Int.natCast_pow]; exact h1
    omega
  have hle : (2 : Nat) ^ n ≤ 2 ^ 63 := Nat.pow_le_pow_right (by omega) hn
  have key : (BitVec.ofInt 64 X ||| BitVec.ofInt 64 Y).toNat = (X % ((2 ^ 64 : Nat) : Int)).toNat + Y.toNat := by
    rw [BitVec.toNat_or, BitVec.toNat_ofInt, BitVec.toNat_ofInt]
    have e : (Y % ((2 ^ 64 : Nat) : Int)).toNat = Y.toNat := by omega
    rw [e]
    exact nat_or_add _ _ n hA hY'
  show IntKind.i64.wrap (((BitVec.ofInt 64 X ||| BitVec.ofInt 64 Y).toNat : Nat) : Int) = _
  rw [key, IntKind.wrap_i64]
  unfold sg
  omega

theorem or_u64 (X Y : Int) (n : Nat) (hn : n ≤ 64) (hX : X % 2 ^ n = 0) (x0 : 0 ≤ X) (x1 : X < 18446744073709551616) (h0 : 0 ≤ Y) (h1 : Y < 2 ^ n) (hs : X + Y < 18446744073709551616) : bits .or .u64 Y X = Y + X := by
  have hA : X.toNat % 2 ^ n = 0 := by
    have h4 : ((X.toNat % 2 ^ n : Nat) : Int) = 0 := by
      rw [Int.natCast_emod, Int.toNat_of_nonneg x0, Int.natCast_pow]; exact hX
    omega
  have hY' : Y.toNat < 2 ^ n := by
    have : (Y.toNat : Int) < ((2 ^ n : Nat) : Int) := by rw [Int.toNat_of_nonneg h0, Int.natCast_pow]; exact h1
    omega
  have hle : (2 : Nat) ^ n ≤ 2 ^ 64 := Nat.pow_le_pow_right (by omega) hn
  have key : (BitVec.ofInt 64 Y ||| BitVec.ofInt 64 X).toNat = X.toNat + Y.toNat := by
    rw [BitVec.toNat_or, BitVec.toNat_ofInt, BitVec.toNat_ofInt]
    have e : (Y % ((2 ^ 64 : Nat) : Int)).toNat = Y.toNat := by omega
    have e2 : (X % ((2 ^ 64 : Nat) : Int)).toNat = X.toNat := by omega
    rw [e, e2, Nat.or_comm]
    exact nat_or_add _ _ n hA hY'
  show IntKind.u64.wrap (((BitVec.ofInt 64 Y ||| BitVec.ofInt 64 X).toNat : Nat) : Int) = _
  rw [key, IntKind.wrap_u64]
  omega

theorem sg_mod (x p q : Int) (hB : p * q = 18446744073709551616) (hx : x % p = 0) : sg x % p = 0 := by
  obtain ⟨c, hc⟩ := Int.dvd_of_emod_eq_zero hx
  have e : sg x = x - 18446744073709551616 * ((x + 9223372036854775808) / 18446744073709551616) := by unfold sg; omega
  rw [e, ← hB, hc, Int.mul_assoc, ← Int.mul_sub]
  exact Int.mul_emod_right _ _
theorem sg_add (x y : Int) : sg (sg x + y) = sg (x + y) := by unfold sg; omega
theorem sg_id (x : Int) (h0 : -9223372036854775808 ≤ x) (h1 : x ≤ 9223372036854775807) : sg x = x := by unfold sg; omega

theorem pow_le_63 (k : Nat) (hk : k ≤ 63) : (2 : Int) ^ k ≤ 9223372036854775808 := by
  have h : (2 : Nat) ^ k ≤ 2 ^ 63 := Nat.pow_le_pow_right (by omega) hk
  have h2 : (((2 : Nat) ^ k : Nat) : Int) ≤ (((2 : Nat) ^ 63 : Nat) : Int) := by omega
  rw [Int.natCast_pow] at h2
  exact h2

theorem shl_hi (a0 a1 : Int) (k : Nat) (hk : k ≤ 63) (h0 : 0 ≤ a1) (h1 : a1 ≤ 18446744073709551615) : bits .or .i64 (wrap64 (a0 * 2 ^ k)) (wrap64 (a1 / 2 ^ (64 - k))) = hi (nm a0 a1 * 2 ^ k) := by
  have hB := pow_split k (by omega)
  have hp := pow_pos' k
  have hq := pow_pos' (64 - k)
  obtain ⟨d0, d1⟩ := div_lt a1 _ _ _ hB hp hq h0 (by omega)
  have hl := pow_le_63 k hk
  rw [w64, w64, sg_id (a1 / 2 ^ (64 - k)) (by omega) (by omega), or_i64 _ _ k hk (sg_mod _ _ _ hB (Int.mul_emod_left _ _)) d0 d1, sg_add]
  exact (shl_words a0 a1 _ _ hB hp hq h0 h1).1
theorem shl_lo (a0 a1 : Int) (k : Nat) (hk : k ≤ 63) (h0 : 0 ≤ a1) (h1 : a1 ≤ 18446744073709551615) : IntKind.u64.wrap (a1 * 2 ^ k) = lo (nm a0 a1 * 2 ^ k) := by
  rw [IntKind.wrap_u64]
  exact (shl_words a0 a1 _ _ (pow_split k (by omega)) (pow_pos' k) (pow_pos' (64 - k)) h0 h1).2
theorem shr_lo (a0 a1 : Int) (k : Nat) (hk0 : 1 ≤ k) (hk : k ≤ 63) (g0 : -9223372036854775808 ≤ a0) (g1 : a0 ≤ 9223372036854775807) (h0 : 0 ≤ a1) (h1 : a1 ≤ 18446744073709551615) : bits .or .u64 (a1 / 2 ^ k) (IntKind.u64.wrap (IntKind.u64.wrap a0 * 2 ^ (64 - k))) = lo (nm a0 a1 / 2 ^ k) := by
  have hB := pow_split k (by omega)
  have hp := pow_pos' k
  have hq := pow_pos' (64 - k)
  obtain ⟨e1, e2, d0, d1, e3, e4⟩ := shr_words a0 a1 _ _ hB hp hq g0 g1 h0 h1
  have e5 : IntKind.u64.wrap (IntKind.u64.wrap a0 * 2 ^ (64 - k)) = a0 * 2 ^ (64 - k) % 18446744073709551616 := by
    rw [IntKind.wrap_u64, IntKind.wrap_u64, Int.mul_emod, Int.emod_emod, ← Int.mul_emod]
  have m0 := (mod_mul_lt a0 (2 ^ (64 - k)) (2 ^ k) hq hp).2
  rw [hB] at m0
  rw [e5, or_u64 _ _ (64 - k) (by omega) (by rw [e3]; exact Int.mul_emod_left _ _) (by rw [e3]; exact e4) (by rw [e3]; omega) d0 d1 (by rw [e3]; omega)]
  exact e2
theorem shr_hi (a0 a1 : Int) (k : Nat) (hk : k ≤ 63) (g0 : -9223372036854775808 ≤ a0) (g1 : a0 ≤ 9223372036854775807) (h0 : 0 ≤ a1) (h1 : a1 ≤ 18446744073709551615) : a0 / 2 ^ k = hi (nm a0 a1 / 2 ^ k) :=
  (shr_words a0 a1 _ _ (pow_split k (by omega)) (pow_pos' k) (pow_pos' (64 - k)) g0 g1 h0 h1).1

theorem pow_big (n : Int) (h : 64 ≤ n) : (2 : Int) ^ n.toNat = 18446744073709551616 * 2 ^ (n - 64).toNat := by
  rw [show n.toNat = 64 + (n - 64).toNat by omega, Int.pow_add]; rfl
/-- Beyond 64 bits nothing more is left out of a word. -/
theorem shl_min (a : Int) (n : Nat) : a * 2 ^ min n 64 % 18446744073709551616 = a * 2 ^ n % 18446744073709551616 := by
  by_cases h : n ≤ 64
  · rw [Nat.min_eq_left h]
  · rw [Nat.min_eq_right (by omega), show n = 64 + (n - 64) by omega, Int.pow_add, ← Int.mul_assoc, show (2 : Int) ^ 64 = 18446744073709551616 from rfl]
    rw [Int.mul_right_comm a]
    rw [Int.mul_emod_left, Int.mul_emod_left]
theorem shl_big_hi (a0 a1 : Int) (n : Int) (h : 64 ≤ n) : wrap64 (IntKind.u64.wrap (a1 * 2 ^ min (n - 64).toNat 64)) = hi (nm a0 a1 * 2 ^ n.toNat) := by
  rw [w64, IntKind.wrap_u64, shl_min, pow_big n h]
  exact (shl_words_big a0 a1 _).1
theorem shl_big_lo (a0 a1 : Int) (n : Int) (h : 64 ≤ n) : lo (nm a0 a1 * 2 ^ n.toNat) = 0 := by
  rw [pow_big n h]
  exact (shl_words_big a0 a1 _).2.symm
theorem one_le_pow (n : Nat) : (1 : Int) ≤ 2 ^ n := pow_pos' n
theorem shr_min (a : Int) (n : Nat) (g0 : -9223372036854775808 ≤ a) (g1 : a ≤ 9223372036854775807) : a / 2 ^ min n 64 = a / 2 ^ n := by
  by_cases h : n ≤ 64
  · rw [Nat.min_eq_left h]
  · rw [Nat.min_eq_right (by omega), show n = 64 + (n - 64) by omega, Int.pow_add, ← Int.ediv_ediv_of_nonneg (by decide), show (2 : Int) ^ 64 = 18446744073709551616 from rfl]
    have hp := one_le_pow (n - 64)
    have h2 : a / 18446744073709551616 = 0 ∨ a / 18446744073709551616 = -1 := by omega
    rcases h2 with h2 | h2
    · rw [h2, Int.zero_ediv]
    · rw [h2]
      have : (-1 : Int) / 2 ^ (n - 64) = -1 := Int.ediv_eq_neg_one_of_neg_of_le (by omega) (by omega)
      rw [this]
theorem shr_rng (a p : Int) (hp : 1 ≤ p) (g0 : -9223372036854775808 ≤ a) (g1 : a ≤ 9223372036854775807) : -9223372036854775808 ≤ a / p ∧ a / p ≤ 9223372036854775807 := by
  constructor
  · rw [Int.le_ediv_iff_mul_le (by omega)]
    have := Int.mul_le_mul_of_nonpos_left (a := -9223372036854775808) (by omega) hp
    omega
  · have h3 := Int.ediv_le_ediv (show 0 < p by omega) g1
    have h2 : 9223372036854775807 / p ≤ 9223372036854775807 := Int.ediv_le_self _ (by omega)
    omega

set_option maxHeartbeats 400000 in
theorem shl_mid (a0 a1 : Int) (k : Nat) (n0 : 1 ≤ k) (n1 : k ≤ 63) (h0 : 0 ≤ a1) (h1 : a1 ≤ 18446744073709551615) (w : World) :
    Calls Tryd.prog 10 #[.agg #[.int .i64 a0, .int .u64 a1], .int .i64 k] w fun e w' => e = .returned (.agg #[.int .i64 (hi (nm a0 a1 * 2 ^ k)), .int .u64 (lo (nm a0 a1 * 2 ^ k))]) ∧ Below w.heap.size w w' := by
  have hm : max (k : Int) 0 = k := by omega
  have hk : min k 64 = k := by omega
  have hk2 : min (64 - (k : Int)).toNat 64 = 64 - k := by omega
  go_enter Tryd.func10, Tryd.ntmps10
  go_wp2
  go_region
  go_wp2
  exact bodyPost_ret (v := .agg #[.int .i64 (hi (nm a0 a1 * 2 ^ k)), .int .u64 (lo (nm a0 a1 * 2 ^ k))]) (by simp [results, Tryd.results10, go_sem]; exact ⟨shl_hi a0 a1 k n1 h0 h1, shl_lo a0 a1 k n1 h0 h1⟩) rfl ⟨rfl, (bel2 _ _ _).drew⟩
set_option maxHeartbeats 400000 in
theorem shl_big (a0 a1 n : Int) (n0 : 64 ≤ n) (n1 : n ≤ 9223372036854775807) (w : World) :
    Calls Tryd.prog 10 #[.agg #[.int .i64 a0, .int .u64 a1], .int .i64 n] w fun e w' => e = .returned (.agg #[.int .i64 (hi (nm a0 a1 * 2 ^ n.toNat)), .int .u64 (lo (nm a0 a1 * 2 ^ n.toNat))]) ∧ Below w.heap.size w w' := by
  have hm : max n 0 = n := by omega
  go_enter Tryd.func10, Tryd.ntmps10
  go_wp2
  exact bodyPost_ret (v := .agg #[.int .i64 (hi (nm a0 a1 * 2 ^ n.toNat)), .int .u64 (lo (nm a0 a1 * 2 ^ n.toNat))]) (by rw [shl_big_lo a0 a1 n n0]; simp [results, Tryd.results10, go_sem]; exact shl_big_hi a0 a1 n n0) rfl ⟨rfl, bel2 _ _ _⟩
set_option maxHeartbeats 400000 in
theorem shl_none (a0 a1 n : Int) (n1 : n ≤ 0) (g0 : -9223372036854775808 ≤ a0) (g1 : a0 ≤ 9223372036854775807) (h0 : 0 ≤ a1) (h1 : a1 ≤ 18446744073709551615) (w : World) :
    Calls Tryd.prog 10 #[.agg #[.int .i64 a0, .int .u64 a1], .int .i64 n] w fun e w' => e = .returned (.agg #[.int .i64 a0, .int .u64 a1]) ∧ Below w.heap.size w w' := by
  have hm : max n 0 = 0 := by omega
  have ho : bits .or .i64 a0 (a1 / 18446744073709551616) = a0 := by rw [show a1 / 18446744073709551616 = 0 by omega, or_i64 a0 0 0 (by omega) (by omega) (by omega) (by omega), Int.add_zero, sg_id a0 g0 g1]
  go_enter Tryd.func10, Tryd.ntmps10
  go_wp2
  go_region
  go_wp2
  exact bodyPost_ret (v := .agg #[.int .i64 a0, .int .u64 a1]) (by simp [results, Tryd.results10, go_sem]) rfl ⟨rfl, (bel2 _ _ _).drew⟩

theorem mul_congr (x y p : Int) (h : (x - y) % 340282366920938463463374607431768211456 = 0) : (x * p - y * p) % 340282366920938463463374607431768211456 = 0 := by
  rw [← Int.sub_mul, Int.mul_emod, h, Int.zero_mul]; rfl

theorem shl_any (v n : Int) (n1 : n ≤ 9223372036854775807) (w : World) :
    Calls Tryd.prog 10 #[.agg #[.int .i64 (hi v), .int .u64 (lo v)], .int .i64 n] w fun e w' => e = .returned (.agg #[.int .i64 (hi (v * 2 ^ n.toNat)), .int .u64 (lo (v * 2 ^ n.toNat))]) ∧ Below w.heap.size w w' := by
  have hc := fun p => mul_congr _ _ p (nm_mod v)
  by_cases c1 : n ≤ 0
  · have h := shl_none (hi v) (lo v) n c1 (hi_ge v) (hi_le v) (lo_ge v) (lo_le v) w
    rw [show n.toNat = 0 by omega, Int.pow_zero, Int.mul_one]
    exact h
  · by_cases c2 : n ≤ 63
    · obtain ⟨k, rfl⟩ := Int.eq_ofNat_of_zero_le (show 0 ≤ n by omega)
      have h := shl_mid (hi v) (lo v) k (by omega) (by omega) (lo_ge v) (lo_le v) w
      rw [hi_congr _ _ (hc _), lo_congr _ _ (hc _)] at h
      rw [Int.toNat_natCast]
      exact h
    · have h := shl_big (hi v) (lo v) n (by omega) n1 w
      rw [hi_congr _ _ (hc _), lo_congr _ _ (hc _)] at h
      exact h

set_option maxHeartbeats 400000 in
theorem shr_mid (a0 a1 : Int) (k : Nat) (n0 : 1 ≤ k) (n1 : k ≤ 63) (g0 : -9223372036854775808 ≤ a0) (g1 : a0 ≤ 9223372036854775807) (h0 : 0 ≤ a1) (h1 : a1 ≤ 18446744073709551615) (w : World) :
    Calls Tryd.prog 29 #[.agg #[.int .i64 a0, .int .u64 a1], .int .i64 k] w fun e w' => e = .returned (.agg #[.int .i64 (hi (nm a0 a1 / 2 ^ k)), .int .u64 (lo (nm a0 a1 / 2 ^ k))]) ∧ Below w.heap.size w w' := by
  have hm : max (k : Int) 0 = k := by omega
  have hk : min k 64 = k := by omega
  have hk2 : min (64 - (k : Int)).toNat 64 = 64 - k := by omega
  go_enter Tryd.func29, Tryd.ntmps29
  go_wp2
  go_region
  go_wp2
  exact bodyPost_ret (v := .agg #[.int .i64 (hi (nm a0 a1 / 2 ^ k)), .int .u64 (lo (nm a0 a1 / 2 ^ k))]) (by simp [results, Tryd.results29, go_sem]; exact ⟨shr_hi a0 a1 k n1 g0 g1 h0 h1, shr_lo a0 a1 k n0 n1 g0 g1 h0 h1⟩) rfl ⟨rfl, (bel2 _ _ _).drew⟩
set_option maxHeartbeats 400000 in
theorem shr_none (a0 a1 n : Int) (n1 : n ≤ 0) (g0 : -9223372036854775808 ≤ a0) (g1 : a0 ≤ 9223372036854775807) (h0 : 0 ≤ a1) (h1 : a1 ≤ 18446744073709551615) (w : World) :
    Calls Tryd.prog 29 #[.agg #[.int .i64 a0, .int .u64 a1], .int .i64 n] w fun e w' => e = .returned (.agg #[.int .i64 a0, .int .u64 a1]) ∧ Below w.heap.size w w' := by
  have hm : max n 0 = 0 := by omega
  have ho : bits .or .u64 a1 (IntKind.u64.wrap (IntKind.u64.wrap a0 * 18446744073709551616)) = a1 := by
    rw [IntKind.wrap_u64 (_ * _), Int.mul_emod_left, or_u64 0 a1 64 (by omega) (by omega) (by omega) (by omega) h0 (by show a1 < 18446744073709551616; omega) (by omega), Int.add_zero]
  go_enter Tryd.func29, Tryd.ntmps29
  go_wp2
  go_region
  go_wp2
  exact bodyPost_ret (v := .agg #[.int .i64 a0, .int .u64 a1]) (by simp [results, Tryd.results29, go_sem]) rfl ⟨rfl, (bel2 _ _ _).drew⟩
set_option maxHeartbeats 400000 in
theorem shr_big (a0 a1 n : Int) (n0 : 64 ≤ n) (n1 : n ≤ 9223372036854775807) (g0 : -9223372036854775808 ≤ a0) (g1 : a0 ≤ 9223372036854775807) (h0 : 0 ≤ a1) (h1 : a1 ≤ 18446744073709551615) (w : World) :
    Calls Tryd.prog 29 #[.agg #[.int .i64 a0, .int .u64 a1], .int .i64 n] w fun e w' => e = .returned (.agg #[.int .i64 (hi (nm a0 a1 / 2 ^ n.toNat)), .int .u64 (lo (nm a0 a1 / 2 ^ n.toNat))]) ∧ Below w.heap.size w w' := by
  have hm : max n 0 = n := by omega
  have hv : Hid (a0 / 2 ^ min (n - 64).toNat 64 = nm a0 a1 / 2 ^ n.toNat) := by
    show a0 / 2 ^ min (n - 64).toNat 64 = nm a0 a1 / 2 ^ n.toNat
    rw [shr_min a0 _ g0 g1, pow_big n n0, shr_words_big a0 a1 _ (one_le_pow _) h0 h1]
  obtain ⟨r0, r1⟩ := shr_rng a0 (2 ^ min (n - 64).toNat 64) (one_le_pow _) g0 g1
  go_enter Tryd.func29, Tryd.ntmps29
  go_wp2_with fail
  refine (of_any _ r0 r1 _).mono ?_
  rw [hv.out]
  rintro e w1 ⟨rfl, hb⟩
  obtain ⟨hc, hf⟩ := bcell hb
  have hz := hb.size
  simp at hc hf hz
  clear hv r0 r1
  go_wp2_with fail
  exact bodyPost_ret (v := .agg #[.int .i64 (hi (nm a0 a1 / 2 ^ n.toNat)), .int .u64 (lo (nm a0 a1 / 2 ^ n.toNat))]) (by simp [results, Tryd.results29, go_sem, hc]) rfl ⟨rfl, ((((bel2 w _ _).trans (hb.mono (by simp; omega))).setCell (by simp) _).setCell (by simp) _)⟩

theorem shr_any (v n : Int) (n1 : n ≤ 9223372036854775807) (v0 : -170141183460469231731687303715884105728 ≤ v) (v1 : v ≤ 170141183460469231731687303715884105727) (w : World) :
    Calls Tryd.prog 29 #[.agg #[.int .i64 (hi v), .int .u64 (lo v)], .int .i64 n] w fun e w' => e = .returned (.agg #[.int .i64 (hi (v / 2 ^ n.toNat)), .int .u64 (lo (v / 2 ^ n.toNat))]) ∧ Below w.heap.size w w' := by
  have hv := nm_val v v0 v1
  by_cases c1 : n ≤ 0
  · have h := shr_none (hi v) (lo v) n c1 (hi_ge v) (hi_le v) (lo_ge v) (lo_le v) w
    rw [show n.toNat = 0 by omega, Int.pow_zero, Int.ediv_one]
    exact h
  · by_cases c2 : n ≤ 63
    · obtain ⟨k, rfl⟩ := Int.eq_ofNat_of_zero_le (show 0 ≤ n by omega)
      have h := shr_mid (hi v) (lo v) k (by omega) (by omega) (hi_ge v) (hi_le v) (lo_ge v) (lo_le v) w
      rw [hv] at h
      rw [Int.toNat_natCast]
      exact h
    · have h := shr_big (hi v) (lo v) n (by omega) n1 (hi_ge v) (hi_le v) (lo_ge v) (lo_le v) w
      rw [hv] at h
      exact h

end Go.Proofs.YtekdpeiemfppiabDoor
