/-
  The contracts of rand's within, halfBits, lowest, swapped and of a round.
-/
import Derived.Test.YtaifihfiompgaaaHWalkC
import Derived.Laws.Bits64b
import Derived.Deep.DeepFit
set_option linter.unusedVariables false
set_option linter.unusedSimpArgs false
namespace Go.Proofs.Ytaifihfiompgaaa
open Go.RowKit

set_option maxHeartbeats 1000000 in
theorem within_yes (n i : Int) (n1 : 1 ≤ n) (n2 : n ≤ 65536) (i0 : 0 ≤ i) (i1 : i < n) (w : World) :
    Calls Try.prog 27 #[.int .i64 n, .int .i64 i] w fun e w' => e = .returned (.bool true) ∧ w' = w := by
  go_enter Try.func27, Try.ntmps27
  go_wp2
  go_ret
  exact ⟨rfl, rfl⟩
set_option maxHeartbeats 1000000 in
theorem within_no (n i : Int) (h : n < 1 ∨ 65536 < n ∨ i < 0 ∨ n ≤ i) (w : World) :
    Calls Try.prog 27 #[.int .i64 n, .int .i64 i] w fun e w' => e = .returned (.bool false) ∧ w' = w := by
  have H4 : Hid (n < 1 ∨ (¬ n < 1 ∧ 65536 < n) ∨ (¬ n < 1 ∧ ¬ 65536 < n ∧ i < 0) ∨ (¬ n < 1 ∧ ¬ 65536 < n ∧ ¬ i < 0 ∧ n ≤ i)) := by show _ ∨ _; omega
  clear h
  rcases H4.out with h | ⟨h1, h⟩ | ⟨h1, h2, h⟩ | ⟨h1, h2, h3, h⟩
  all_goals
    clear H4
    go_enter Try.func27, Try.ntmps27
    go_wp2
    go_ret
    exact ⟨by first | rfl | (simp; omega) | simp, rfl⟩
set_option maxHeartbeats 1000000 in
theorem swapped_any (x y : Int) (w : World) :
    Calls Try.prog 35 #[.agg #[.int .i64 x, .int .i64 y]] w fun e w' => e = .returned (.agg #[.int .i64 y, .int .i64 x]) ∧ Below w.heap.size w w' := by
  have hb0 := bel2 w (.cells #[.int .i64 x, .int .i64 y] 69) (.cells #[.int .i64 y, .int .i64 x] 69)
  go_enter Try.func35, Try.ntmps35
  go_wp2
  exact bodyPost_ret (v := .agg #[.int .i64 y, .int .i64 x]) (by simp [results, Try.results35, go_sem]) rfl ⟨rfl, hb0⟩
theorem and_low (X k : Nat) (hX : X < 18446744073709551616) (hk : k ≤ 8) : bits .and .u64 (X : Int) ((2 ^ k - 1 : Nat) : Int) = ((X % 2 ^ k : Nat) : Int) := by
  have h2 : 2 ^ k ≤ 2 ^ 8 := Nat.pow_le_pow_right (by omega) hk
  rw [bits_and_u64_nat _ _ hX (by omega), Nat.and_two_pow_sub_one_eq_mod]
set_option maxHeartbeats 1000000 in
theorem lowest_any (k X : Nat) (hk : k ≤ 8) (hX : X < 18446744073709551616) (w : World) :
    Calls Try.prog 34 #[.int .i64 (k : Int), .int .u64 (X : Int)] w fun e w' => e = .returned (.int .i64 ((X % 2 ^ k : Nat) : Int)) ∧ w' = w := by
  have h2 : 2 ^ k ≤ 2 ^ 8 := Nat.pow_le_pow_right (by omega) hk
  have h3 : 0 < 2 ^ k := Nat.two_pow_pos k
  have e0 : min k 64 = k := by omega
  have hA := and_low X k hX hk
  have hlt : X % 2 ^ k < 2 ^ k := Nat.mod_lt _ h3
  have hk0 : (0 : Int) ≤ (k : Int) := by omega
  have e1 : IntKind.u64.wrap ((2 : Int) ^ k) = (2 : Int) ^ k := by rw [IntKind.wrap_u64, show (2 : Int) ^ k = ((2 ^ k : Nat) : Int) by rw [Int.natCast_pow]; rfl]; omega
  have e2 : IntKind.u64.wrap ((2 : Int) ^ k - 1) = ((2 ^ k - 1 : Nat) : Int) := by rw [IntKind.wrap_u64, show (2 : Int) ^ k = ((2 ^ k : Nat) : Int) by rw [Int.natCast_pow]; rfl]; omega
  obtain ⟨Y, hY⟩ : ∃ Y, 2 ^ k - 1 = Y := ⟨_, rfl⟩
  obtain ⟨M, hM⟩ : ∃ M, X % 2 ^ k = M := ⟨_, rfl⟩
  rw [hY] at hA e2
  rw [hM] at hA hlt
  rw [hM]
  have e3 : Hid (wrap64 (M : Int) = (M : Int)) := by show _ = _; rw [w64, sg_id _ (by omega) (by omega)]
  clear hY hM h2 h3 hlt
  go_enter Try.func34, Try.ntmps34
  go_wp2
  go_ret
  exact ⟨by show Ending.returned (Value.int .i64 (wrap64 (M : Int))) = _; rw [e3.out], rfl⟩
theorem pow4 (k : Nat) : 2 ^ (2 * k) = 2 ^ k * 2 ^ k := by rw [Nat.two_mul, Nat.pow_add]
set_option maxRecDepth 100000 in
set_option maxHeartbeats 2000000 in
theorem halfBits_any (n : Nat) (n0 : 1 ≤ n) (n1 : n ≤ 65536) (w : World) :
    Calls Try.prog 28 #[.int .i64 (n : Int)] w fun e w' => ∃ k : Nat, e = .returned (.int .i64 (k : Int)) ∧ k ≤ 8 ∧ Hf n k ∧ w' = w := by
  go_enter Try.func28, Try.ntmps28
  go_upto_region 2 with fail
  go_loopw [3] (fun s3 wr => ∃ k : Nat, 1 ≤ k ∧ k ≤ 8 ∧ s3 = .int .i64 (k : Int) ∧ Hid (k = 1 ∨ 2 ^ (k - 1) * 2 ^ (k - 1) < n) ∧ wr = w) (fun s3 _ => 9 - (intOf s3).toNat)
  case atStart => exact ⟨1, by omega, by omega, rfl, Or.inl rfl, rfl⟩
  case round =>
    obtain ⟨k, k1, k8, rfl, HP, rfl⟩ := hrel
    have h256 : 2 ^ k ≤ 2 ^ 8 := Nat.pow_le_pow_right (by omega) k8
    have hpp : 2 ^ k * 2 ^ k ≤ 65536 := Nat.mul_le_mul h256 h256
    have eW : Hid (wrap64 ((2 : Int) ^ (2 * k)) = ((2 ^ k * 2 ^ k : Nat) : Int)) := by
      show _ = _
      rw [w64, show (2 : Int) ^ (2 * k) = ((2 ^ (2 * k) : Nat) : Int) by rw [Int.natCast_pow]; rfl, pow4, sg_id _ (by omega) (by omega)]
    have Hpp : Hid (2 ^ k * 2 ^ k ≤ 65536) := hpp
    clear h256 hpp
    go_wp2
    · rename_i hlt
      rw [eW.out] at hlt
      have hlt2 : 2 ^ k * 2 ^ k < n := by omega
      have hk8 : k ≠ 8 := fun e => by subst e; omega
      exact ⟨⟨k + 1, by omega, by omega, by go_num, Or.inr (by rw [Nat.add_sub_cancel]; exact hlt2), trivial⟩, by simp [intOf]; omega⟩
    · rename_i hge
      rw [eW.out] at hge
      go_ret
      exact ⟨k, rfl, k8, ⟨k1, by omega, HP.out⟩, rfl⟩
set_option maxRecDepth 100000 in
set_option maxHeartbeats 2000000 in
theorem round_any (s : Nat) (a b c : Int) (k t u l Bb Bk Bt : Nat) (hk : Ky s a b c) (hk8 : k ≤ 8) (ht : t < 4) (hu : u < 256) (hl : l < 256) (w : World)
    (cb : w.cell? ⟨Bb, 0, none⟩ = some (.int .i64 (k : Int))) (ck : K4 Bk (.int .u64 (s : Int)) (.int .i64 a) (.int .i64 b) (.int .i64 c) w) (ct : w.cell? ⟨Bt, 0, none⟩ = some (.int .i64 (t : Int))) :
    Calls Try.prog 37 #[.agg #[.int .i64 (u : Int), .int .i64 (l : Int)], .pointer (some ⟨Bb, 0, none⟩), .pointer (some ⟨Bk, 0, none⟩), .pointer (some ⟨Bt, 0, none⟩)] w fun e w' => e = .returned (.agg #[.int .i64 (l : Int), .int .i64 ((u ^^^ rfN s a b c (2 ^ k) t l : Nat) : Int)]) ∧ Below w.heap.size w w' := by
  have CW : Hid (∀ W : World, Calls Try.prog 38 #[.agg #[.int .u64 (s : Int), .int .i64 a, .int .i64 b, .int .i64 c], .int .i64 (1024 * (t : Int) + (l : Int))] W fun e w' => e = .returned (.int .u64 ((wdN s a b c (1024 * (t : Int) + (l : Int)) : Nat) : Int)) ∧ Below W.heap.size W w') := fun W => pWord_any s a b c _ hk (by omega) (by omega) W
  have hlt := wdN_lt s a b c (1024 * (t : Int) + (l : Int))
  have hfl := rfN_lt s a b c (2 ^ k) t l (Nat.two_pow_pos k)
  have h256 : 2 ^ k ≤ 2 ^ 8 := Nat.pow_le_pow_right (by omega) hk8
  have CL : Hid (∀ W : World, Calls Try.prog 34 #[.int .i64 (k : Int), .int .u64 ((wdN s a b c (1024 * (t : Int) + (l : Int)) : Nat) : Int)] W fun e w' => e = .returned (.int .i64 ((rfN s a b c (2 ^ k) t l : Nat) : Int)) ∧ w' = W) := fun W => lowest_any k _ hk8 hlt W
  generalize wdN s a b c (1024 * (t : Int) + (l : Int)) = X at *
  have hX := xor63 u (rfN s a b c (2 ^ k) t l) (by omega) (by omega)
  generalize rfN s a b c (2 ^ k) t l = F at *
  generalize u ^^^ F = Q at *
  clear hk hfl h256 hlt
  have e1 : IntKind.i64.wrap (1024 * (t : Int)) = 1024 * (t : Int) := by rw [IntKind.wrap_i64]; omega
  have e2 : IntKind.i64.wrap (1024 * (t : Int) + (l : Int)) = 1024 * (t : Int) + (l : Int) := by rw [IntKind.wrap_i64]; omega
  have lb : Bb < w.heap.size := World.block_lt_of_cell? _ _ cb
  have lk : Bk < w.heap.size := World.block_lt_of_cell? _ _ ck.c0
  have lt : Bt < w.heap.size := World.block_lt_of_cell? _ _ ct
  have H1 := (Bx.new w (.int .i64 (u : Int)) (.int .i64 (l : Int)) 69).later (bel1 _ (.cells #[.int .i64 0, .int .i64 0] 69))
  have H2 := Bx.new (w.alloc (.cells #[.int .i64 (u : Int), .int .i64 (l : Int)] 69)) (.int .i64 0) (.int .i64 0) 69
  rw [World.size_alloc] at H2
  have hB0 : Hid (Below w.heap.size w ((w.alloc (.cells #[.int .i64 (u : Int), .int .i64 (l : Int)] 69)).alloc (.cells #[.int .i64 0, .int .i64 0] 69))) := bel2 w _ _
  have cb1 := cell_later hB0.out cb
  have ct1 := cell_later hB0.out ct
  have ck1 := ck.later hB0.out
  clear cb ct ck
  go_enter Try.func37, Try.ntmps37
  go_upto_region 2 with fail
  generalize ((w.alloc (.cells #[.int .i64 (u : Int), .int .i64 (l : Int)] 69)).alloc (.cells #[.int .i64 0, .int .i64 0] 69)) = w1 at *
  have hd1 : Below w1.heap.size w1 w1.drew := (Below.refl _ _).drew
  have CW0 : Hid (Below w.heap.size w w1.drew) := bchain hB0.out hd1
  have A := ck1.later hd1
  have V := cell_later hd1 cb1
  have T := cell_later hd1 ct1
  have Hh := H1.later hd1
  have Rr := H2.later hd1
  have y0 := Rr.c0
  have y1 := Rr.c1
  have y2 := Rr.f0
  have y3 := Rr.f1
  clear hd1 cb1 ct1 ck1 H1 H2 hB0
  go_region_held3 (fun w' => w'.cell? ⟨w.heap.size, 0, none⟩ = some (.int .i64 (u : Int)) ∧ w'.cell? ⟨w.heap.size, 1, none⟩ = some (.int .i64 (l : Int)) ∧ w'.cell? ⟨Bb, 0, none⟩ = some (.int .i64 (k : Int)) ∧ w'.cell? ⟨Bt, 0, none⟩ = some (.int .i64 (t : Int)) ∧ w'.cell? ⟨Bk, 0, none⟩ = some (.int .u64 (s : Int)) ∧ w'.cell? ⟨Bk, 1, none⟩ = some (.int .i64 a) ∧ w'.cell? ⟨Bk, 2, none⟩ = some (.int .i64 b) ∧ w'.cell? ⟨Bk, 3, none⟩ = some (.int .i64 c))
    (first | exact ⟨Hh.c0, Hh.c1, V, T, A.c0, A.c1, A.c2, A.c3⟩ | (have A' := (A.far (p := ⟨w.heap.size + 1, 0, none⟩) (.int .i64 (l : Int)) (by dsimp only; omega)).far (p := ⟨w.heap.size + 1, 1, none⟩) (.int .i64 (Q : Int)) (by dsimp only; omega); exact ⟨cell_set (by dsimp only; omega) (cell_set (by dsimp only; omega) Hh.c0), cell_set (by dsimp only; omega) (cell_set (by dsimp only; omega) Hh.c1), cell_set (by dsimp only; omega) (cell_set (by dsimp only; omega) V), cell_set (by dsimp only; omega) (cell_set (by dsimp only; omega) T), A'.c0, A'.c1, A'.c2, A'.c3⟩))
    (first
      | (go_at_call 38; go_fit (CW.out _); rintro e wz ⟨rfl, hb⟩; replace A := A.later hb; replace V := cell_later hb V; replace T := cell_later hb T; replace Hh := Hh.later hb; replace Rr := Rr.later hb; replace y0 := Rr.c0; replace y1 := Rr.c1; replace y2 := Rr.f0; replace y3 := Rr.f1; replace CW0 := hidD CW0 hb; clear hb)
      | (go_at_call 34; go_fit (CL.out _); rintro e wy ⟨rfl, hy⟩; subst hy))
  have R5 := Rr.set (.int .i64 (l : Int)) (.int .i64 (Q : Int))
  have B5 := (CW0.out.setCell (p := ⟨w.heap.size + 1, 0, none⟩) (by dsimp only; omega) (.int .i64 (l : Int))).setCell (p := ⟨w.heap.size + 1, 1, none⟩) (by dsimp only; omega) (.int .i64 (Q : Int))
  have HB5 : Hid (Below w.heap.size w _) := B5
  clear B5 A V T Hh Rr y0 y1 y2 y3 CW0
  generalize ((World.setCell _ (⟨w.heap.size + 1, 0, none⟩ : Addr) (Value.int .i64 (l : Int))).setCell (⟨w.heap.size + 1, 1, none⟩ : Addr) (Value.int .i64 (Q : Int))) = w5 at *
  have z0 := R5.c0
  have z1 := R5.c1
  go_wp2
  exact bodyPost_ret (v := .agg #[.int .i64 (l : Int), .int .i64 (Q : Int)]) (by simp [results, Try.results37, go_sem, z0, z1]) rfl ⟨rfl, HB5.out⟩
end Go.Proofs.Ytaifihfiompgaaa
