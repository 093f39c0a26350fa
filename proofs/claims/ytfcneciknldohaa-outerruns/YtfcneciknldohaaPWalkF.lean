/-
  The contract of the closure in vec's Axpy.
-/
import Derived.Test.YtfcneciknldohaaPWalkE
set_option linter.unusedVariables false
set_option linter.unusedSimpArgs false
namespace Go.Proofs.Ytfcneciknldohaa
open Go.RowKit

theorem ax_in (k x y : Int) (k0 : -9223372036854775808 ≤ k) (k1 : k ≤ 9223372036854775807) (x0 : -9223372036854775808 ≤ x) (x1 : x ≤ 9223372036854775807) (y0 : -9223372036854775808 ≤ y) (y1 : y ≤ 9223372036854775807) : -170141183460469231731687303715884105728 + 1000 ≤ y * 4294967296 + k * x ∧ y * 4294967296 + k * x ≤ 170141183460469231731687303715884105727 - 1000 := by
  obtain ⟨p0, p1⟩ := mul_in k x k0 k1 x0 x1
  generalize k * x = p at *
  omega
theorem cc_set2 {W : World} {a b : Addr} {x y u v : Value} {B i j : Nat} (h : W.cell? a = some x ∧ W.cell? b = some y) (ha : a.block < B) (hb : b.block < B) : ((W.setCell ⟨B, i, none⟩ u).setCell ⟨B, j, none⟩ v).cell? a = some x ∧ ((W.setCell ⟨B, i, none⟩ u).setCell ⟨B, j, none⟩ v).cell? b = some y :=
  ⟨cell_set (by dsimp only; omega) (cell_set (by dsimp only; omega) h.1), cell_set (by dsimp only; omega) (cell_set (by dsimp only; omega) h.2)⟩
theorem B2.drew {b : Nat} {x y : Value} {w : World} (h : B2 b x y w) : B2 b x y w.drew := ⟨h.c0, h.c1, h.f0, h.f1⟩
theorem cc_drew {w : World} {a b : Addr} {x y : Value} (h : w.cell? a = some x ∧ w.cell? b = some y) : w.drew.cell? a = some x ∧ w.drew.cell? b = some y := h
theorem cc_ad {w wz : World} {o : Obj} {a b : Addr} {x y : Value} (h : w.drew.cell? a = some x ∧ w.drew.cell? b = some y) (hb : Below (w.alloc o).drew.heap.size (w.alloc o).drew wz) : wz.cell? a = some x ∧ wz.cell? b = some y := by
  have h' : w.cell? a = some x ∧ w.cell? b = some y := h
  have h2 := cc_later h' (bel1 w o)
  have h3 : (w.alloc o).drew.cell? a = some x ∧ (w.alloc o).drew.cell? b = some y := h2
  exact cc_later h3 hb
theorem below_ad {w wz : World} {o : Obj} (hb : Below (w.alloc o).drew.heap.size (w.alloc o).drew wz) : Hid (Below w.heap.size w wz) := bchain ((bel1 w o).drew) hb
theorem B2.ad {w wz : World} {x y : Value} {t : TypeId} (hb : Below (w.alloc (.cells #[x, y] t)).drew.heap.size (w.alloc (.cells #[x, y] t)).drew wz) : B2 w.heap.size x y wz := ((B2.new w x y t).later ((Below.refl _ _).drew)).later hb

set_option maxHeartbeats 4000000 in
theorem ax1_un (k x y : Int) (k0 : -9223372036854775808 ≤ k) (k1 : k ≤ 9223372036854775807) (x0 : -9223372036854775808 ≤ x) (x1 : x ≤ 9223372036854775807) (y0 : -9223372036854775808 ≤ y) (y1 : y ≤ 9223372036854775807) (bk bu : Nat) (d : Nat) (c : Int) (c0 : 0 ≤ c) (c1 : c ≤ 1000000000) (w : World) (hc : w.cell? ⟨d, 0, none⟩ = some (.int .i64 c)) (hf : w.frozen? ⟨d, 0, none⟩ = false) (ck : w.cell? ⟨bk, 0, none⟩ = some (.int .i64 k)) (cu : w.cell? ⟨bu, 0, none⟩ = some (.pointer (some ⟨d, 0, none⟩))) :
    Calls Try.prog 32 #[.int .i64 x, .int .i64 y, .pointer (some ⟨bk, 0, none⟩), .pointer (some ⟨bu, 0, none⟩)] w fun e w' => e = .returned (.int .i64 (clv (rr (k * x + y * 4294967296) 32))) ∧ Un d (c + bi (ovv (rr (k * x + y * 4294967296) 32))) w w' := by
  obtain ⟨v0, v1⟩ := ax_in k x y k0 k1 x0 x1 y0 y1
  have CO : Hid (∀ W : World, Calls Try.prog 35 #[.int .i64 y] W fun e w' => e = .returned (.agg #[.int .i64 (hi (y)), .int .u64 (lo (y))]) ∧ Below W.heap.size W w') := fun W => of_any y y0 y1 W
  have CS : Hid (∀ W : World, Calls Try.prog 34 #[.agg #[.int .i64 (hi (y)), .int .u64 (lo (y))], .int .i64 32] W fun e w' => e = .returned (.agg #[.int .i64 (hi (y * 4294967296)), .int .u64 (lo (y * 4294967296))]) ∧ Below W.heap.size W w') := fun W => shl_any y 32 (by omega) W
  have CM : Hid (∀ W : World, Calls Try.prog 36 #[.int .i64 k, .int .i64 x] W fun e w' => e = .returned (.agg #[.int .i64 (hi (k * x)), .int .u64 (lo (k * x))]) ∧ Below W.heap.size W w') := fun W => mul_any k x k0 k1 x0 x1 W
  have CA : Hid (∀ W : World, Calls Try.prog 33 #[.agg #[.int .i64 (hi (y * 4294967296)), .int .u64 (lo (y * 4294967296))], .agg #[.int .i64 (hi (k * x)), .int .u64 (lo (k * x))]] W fun e w' => e = .returned (.agg #[.int .i64 (hi (y * 4294967296 + k * x)), .int .u64 (lo (y * 4294967296 + k * x))]) ∧ Below W.heap.size W w') := fun W => add_any (y * 4294967296) (k * x) W
  rw [show rr (k * x + y * 4294967296) 32 = rnd (y * 4294967296 + k * x) 32 by unfold rr; rw [if_neg (by omega), Int.add_comm]]
  generalize y * 4294967296 + k * x = V at *
  obtain ⟨r0, r1⟩ := rnd_in V 32 170141183460469231731687303715884104728 (by omega) (by omega) (by omega)
  have CR : Hid (∀ W : World, Calls Try.prog 38 #[.agg #[.int .i64 (hi (V)), .int .u64 (lo (V))], .int .i64 32] W fun e w' => e = .returned (.agg #[.int .i64 (hi (rnd V 32)), .int .u64 (lo (rnd V 32))]) ∧ Below W.heap.size W w') := fun W => round_mid V 32 (by omega) (by omega) (by omega) (by omega) W
  have CH : Hid (∀ W : World, W.cell? ⟨d, 0, none⟩ = some (.int .i64 c) → W.frozen? ⟨d, 0, none⟩ = false → Calls Try.prog 37 #[.pointer (some ⟨d, 0, none⟩), .agg #[.int .i64 (hi (rnd V 32)), .int .u64 (lo (rnd V 32))]] W fun e w' => e = .returned (.int .i64 (clv (rnd V 32))) ∧ Un d (c + bi (ovv (rnd V 32))) W w') := fun W a b => vhold_un (rnd V 32) (by omega) (by omega) d c c0 c1 W a b
  obtain ⟨z0, z1⟩ := clv_fit (rnd V 32)
  generalize clv (rnd V 32) = X at *
  generalize bi (ovv (rnd V 32)) = Z at *
  generalize hi (rnd V 32) = rh at *
  generalize lo (rnd V 32) = rl' at *
  generalize hi V = vh at *
  generalize lo V = vl at *
  generalize hi (k * x) = ph at *
  generalize lo (k * x) = pl at *
  generalize hi (y * 4294967296) = sh at *
  generalize lo (y * 4294967296) = sl at *
  generalize hi y = yh at *
  generalize lo y = yl at *
  clear v0 v1 r0 r1
  have A : w.drew.cell? ⟨bk, 0, none⟩ = some (.int .i64 k) ∧ w.drew.cell? ⟨bu, 0, none⟩ = some (.pointer (some ⟨d, 0, none⟩)) := ⟨ck, cu⟩
  have CW : Hid (Below w.heap.size w w.drew) := (Below.refl _ _).drew
  have hk := World.block_lt_of_cell? _ _ ck
  have hu := World.block_lt_of_cell? _ _ cu
  dsimp only at hk hu
  have HC : Hid (w.cell? ⟨d, 0, none⟩ = some (.int .i64 c) ∧ w.frozen? ⟨d, 0, none⟩ = false) := ⟨hc, hf⟩
  clear ck cu hc hf
  go_enter Try.func32, Try.ntmps32
  go_upto_region 1 with fail
  go_region_held3 (fun w' => w'.cell? ⟨bk, 0, none⟩ = some (.int .i64 k) ∧ w'.cell? ⟨bu, 0, none⟩ = some (.pointer (some ⟨d, 0, none⟩)))
    (first | exact A | exact cc_later A (bel1 _ _) | exact ⟨cell_set (by dsimp only; omega) (cell_set (by dsimp only; omega) A.1), cell_set (by dsimp only; omega) (cell_set (by dsimp only; omega) A.2)⟩ | go_keep)
    (first
      | (go_at_call 35; refine (CO.out _).mono ?_; rintro e wz ⟨rfl, hb⟩; first | (replace A := cc_later A hb; replace CW := hidD CW hb; (try (clear d0 d1 e0 e1; replace D := D.later hb; have d0 := D.c0; have d1 := D.c1; have e0 := D.f0; have e1 := D.f1)); clear hb) | (have hbb := CW.out.size; have D := (B2.new _ (.int .i64 0) (.int .u64 0) 77).later hb; replace A := cc_later (cc_later A (bel1 _ _)) hb; replace CW := hidD (hidD CW (bel1 _ _)) hb; clear hb; have d0 := D.c0; have d1 := D.c1; have e0 := D.f0; have e1 := D.f1) | (have hbb : w.heap.size ≤ w.heap.size := Nat.le_refl _; have D := B2.ad hb; replace A := cc_ad A hb; replace CW := below_ad hb; clear hb; have d0 := D.c0; have d1 := D.c1; have e0 := D.f0; have e1 := D.f1))
      | (go_at_call 34; refine (CS.out _).mono ?_; rintro e wz ⟨rfl, hb⟩; first | (replace A := cc_later A hb; replace CW := hidD CW hb; (try (clear d0 d1 e0 e1; replace D := D.later hb; have d0 := D.c0; have d1 := D.c1; have e0 := D.f0; have e1 := D.f1)); clear hb) | (have hbb := CW.out.size; have D := (B2.new _ (.int .i64 0) (.int .u64 0) 77).later hb; replace A := cc_later (cc_later A (bel1 _ _)) hb; replace CW := hidD (hidD CW (bel1 _ _)) hb; clear hb; have d0 := D.c0; have d1 := D.c1; have e0 := D.f0; have e1 := D.f1) | (have hbb : w.heap.size ≤ w.heap.size := Nat.le_refl _; have D := B2.ad hb; replace A := cc_ad A hb; replace CW := below_ad hb; clear hb; have d0 := D.c0; have d1 := D.c1; have e0 := D.f0; have e1 := D.f1))
      | (go_at_call 36; refine (CM.out _).mono ?_; rintro e wz ⟨rfl, hb⟩; first | (replace A := cc_later A hb; replace CW := hidD CW hb; (try (clear d0 d1 e0 e1; replace D := D.later hb; have d0 := D.c0; have d1 := D.c1; have e0 := D.f0; have e1 := D.f1)); clear hb) | (have hbb := CW.out.size; have D := (B2.new _ (.int .i64 0) (.int .u64 0) 77).later hb; replace A := cc_later (cc_later A (bel1 _ _)) hb; replace CW := hidD (hidD CW (bel1 _ _)) hb; clear hb; have d0 := D.c0; have d1 := D.c1; have e0 := D.f0; have e1 := D.f1) | (have hbb : w.heap.size ≤ w.heap.size := Nat.le_refl _; have D := B2.ad hb; replace A := cc_ad A hb; replace CW := below_ad hb; clear hb; have d0 := D.c0; have d1 := D.c1; have e0 := D.f0; have e1 := D.f1))
      | (go_at_call 33; refine (CA.out _).mono ?_; rintro e wz ⟨rfl, hb⟩; first | (replace A := cc_later A hb; replace CW := hidD CW hb; (try (clear d0 d1 e0 e1; replace D := D.later hb; have d0 := D.c0; have d1 := D.c1; have e0 := D.f0; have e1 := D.f1)); clear hb) | (have hbb := CW.out.size; have D := (B2.new _ (.int .i64 0) (.int .u64 0) 77).later hb; replace A := cc_later (cc_later A (bel1 _ _)) hb; replace CW := hidD (hidD CW (bel1 _ _)) hb; clear hb; have d0 := D.c0; have d1 := D.c1; have e0 := D.f0; have e1 := D.f1) | (have hbb : w.heap.size ≤ w.heap.size := Nat.le_refl _; have D := B2.ad hb; replace A := cc_ad A hb; replace CW := below_ad hb; clear hb; have d0 := D.c0; have d1 := D.c1; have e0 := D.f0; have e1 := D.f1)))
  all_goals
    first
      | (have E := ((D.set0 (.int .i64 vh)).set1 (.int .u64 vl)).drew
         have W5 : Hid (Below w.heap.size w _) := ((CW.out.setCell (p := ⟨_, 0, none⟩) hbb (.int .i64 vh)).setCell (p := ⟨_, 1, none⟩) hbb (.int .u64 vl)).drew
         have A5 := cc_drew (cc_set2 (i := 0) (j := 1) (u := .int .i64 vh) (v := .int .u64 vl) A (Nat.lt_of_lt_of_le hk hbb) (Nat.lt_of_lt_of_le hu hbb))
         clear D d0 d1 e0 e1 hbb)
      | (have E := (B2.new wz (.int .i64 vh) (.int .u64 vl) 77).drew
         have W5 : Hid (Below w.heap.size w _) := (bchain CW.out (bel1 wz (.cells #[.int .i64 vh, .int .u64 vl] 77))).drew
         have A5 := cc_drew (cc_later A (bel1 wz (.cells #[.int .i64 vh, .int .u64 vl] 77))))
    clear A CW CO CS CM CA hk hu
    have y0 := E.c0
    have y1 := E.c1
    have a5 := A5.2
    have c6 := cell_later W5.out HC.out.1
    have f6 := frozen_later W5.out HC.out.1 HC.out.2
    go_upto_region 2 with fail
    go_region_with (first
      | (go_at_call 38; refine (CR.out _).mono ?_; rintro e wq ⟨rfl, hb⟩; clear y0 y1 a5; replace E := E.later hb; replace A5 := cc_later A5 hb; replace W5 := hidD W5 hb; have f7 := frozen_later hb c6 f6; have c7 := cell_later hb c6; clear c6 f6; have c6 := c7; have f6 := f7; clear c7 f7; clear hb; have y0 := E.c0; have y1 := E.c1; have a5 := A5.2)
      | (go_at_call 37; refine (CH.out _ c6 f6).mono ?_; rintro e wq ⟨rfl, hU⟩; have hV := Un.after W5.out hU; clear hU y0 y1 a5 E A5 W5 c6 f6 CR))
  all_goals
    go_wp2
    go_ret
    exact ⟨rfl, hV⟩

set_option maxHeartbeats 4000000 in
theorem ax1_nil (k x y : Int) (k0 : -9223372036854775808 ≤ k) (k1 : k ≤ 9223372036854775807) (x0 : -9223372036854775808 ≤ x) (x1 : x ≤ 9223372036854775807) (y0 : -9223372036854775808 ≤ y) (y1 : y ≤ 9223372036854775807) (bk bu : Nat) (w : World) (ck : w.cell? ⟨bk, 0, none⟩ = some (.int .i64 k)) (cu : w.cell? ⟨bu, 0, none⟩ = some (.pointer none)) :
    Calls Try.prog 32 #[.int .i64 x, .int .i64 y, .pointer (some ⟨bk, 0, none⟩), .pointer (some ⟨bu, 0, none⟩)] w fun e w' => e = .returned (.int .i64 (clv (rr (k * x + y * 4294967296) 32))) ∧ Below w.heap.size w w' := by
  obtain ⟨v0, v1⟩ := ax_in k x y k0 k1 x0 x1 y0 y1
  have CO : Hid (∀ W : World, Calls Try.prog 35 #[.int .i64 y] W fun e w' => e = .returned (.agg #[.int .i64 (hi (y)), .int .u64 (lo (y))]) ∧ Below W.heap.size W w') := fun W => of_any y y0 y1 W
  have CS : Hid (∀ W : World, Calls Try.prog 34 #[.agg #[.int .i64 (hi (y)), .int .u64 (lo (y))], .int .i64 32] W fun e w' => e = .returned (.agg #[.int .i64 (hi (y * 4294967296)), .int .u64 (lo (y * 4294967296))]) ∧ Below W.heap.size W w') := fun W => shl_any y 32 (by omega) W
  have CM : Hid (∀ W : World, Calls Try.prog 36 #[.int .i64 k, .int .i64 x] W fun e w' => e = .returned (.agg #[.int .i64 (hi (k * x)), .int .u64 (lo (k * x))]) ∧ Below W.heap.size W w') := fun W => mul_any k x k0 k1 x0 x1 W
  have CA : Hid (∀ W : World, Calls Try.prog 33 #[.agg #[.int .i64 (hi (y * 4294967296)), .int .u64 (lo (y * 4294967296))], .agg #[.int .i64 (hi (k * x)), .int .u64 (lo (k * x))]] W fun e w' => e = .returned (.agg #[.int .i64 (hi (y * 4294967296 + k * x)), .int .u64 (lo (y * 4294967296 + k * x))]) ∧ Below W.heap.size W w') := fun W => add_any (y * 4294967296) (k * x) W
  rw [show rr (k * x + y * 4294967296) 32 = rnd (y * 4294967296 + k * x) 32 by unfold rr; rw [if_neg (by omega), Int.add_comm]]
  generalize y * 4294967296 + k * x = V at *
  obtain ⟨r0, r1⟩ := rnd_in V 32 170141183460469231731687303715884104728 (by omega) (by omega) (by omega)
  have CR : Hid (∀ W : World, Calls Try.prog 38 #[.agg #[.int .i64 (hi (V)), .int .u64 (lo (V))], .int .i64 32] W fun e w' => e = .returned (.agg #[.int .i64 (hi (rnd V 32)), .int .u64 (lo (rnd V 32))]) ∧ Below W.heap.size W w') := fun W => round_mid V 32 (by omega) (by omega) (by omega) (by omega) W
  have CH : Hid (∀ W : World, Calls Try.prog 37 #[.pointer none, .agg #[.int .i64 (hi (rnd V 32)), .int .u64 (lo (rnd V 32))]] W fun e w' => e = .returned (.int .i64 (clv (rnd V 32))) ∧ Below W.heap.size W w') := fun W => vhold_nil (rnd V 32) (by omega) (by omega) W
  obtain ⟨z0, z1⟩ := clv_fit (rnd V 32)
  generalize clv (rnd V 32) = X at *
  skip
  generalize hi (rnd V 32) = rh at *
  generalize lo (rnd V 32) = rl' at *
  generalize hi V = vh at *
  generalize lo V = vl at *
  generalize hi (k * x) = ph at *
  generalize lo (k * x) = pl at *
  generalize hi (y * 4294967296) = sh at *
  generalize lo (y * 4294967296) = sl at *
  generalize hi y = yh at *
  generalize lo y = yl at *
  clear v0 v1 r0 r1
  have A : w.drew.cell? ⟨bk, 0, none⟩ = some (.int .i64 k) ∧ w.drew.cell? ⟨bu, 0, none⟩ = some (.pointer none) := ⟨ck, cu⟩
  have CW : Hid (Below w.heap.size w w.drew) := (Below.refl _ _).drew
  have hk := World.block_lt_of_cell? _ _ ck
  have hu := World.block_lt_of_cell? _ _ cu
  dsimp only at hk hu
  have HC : Hid (True) := trivial
  clear ck cu
  go_enter Try.func32, Try.ntmps32
  go_upto_region 1 with fail
  go_region_held3 (fun w' => w'.cell? ⟨bk, 0, none⟩ = some (.int .i64 k) ∧ w'.cell? ⟨bu, 0, none⟩ = some (.pointer none))
    (first | exact A | exact cc_later A (bel1 _ _) | exact ⟨cell_set (by dsimp only; omega) (cell_set (by dsimp only; omega) A.1), cell_set (by dsimp only; omega) (cell_set (by dsimp only; omega) A.2)⟩ | go_keep)
    (first
      | (go_at_call 35; refine (CO.out _).mono ?_; rintro e wz ⟨rfl, hb⟩; first | (replace A := cc_later A hb; replace CW := hidD CW hb; (try (clear d0 d1 e0 e1; replace D := D.later hb; have d0 := D.c0; have d1 := D.c1; have e0 := D.f0; have e1 := D.f1)); clear hb) | (have hbb := CW.out.size; have D := (B2.new _ (.int .i64 0) (.int .u64 0) 77).later hb; replace A := cc_later (cc_later A (bel1 _ _)) hb; replace CW := hidD (hidD CW (bel1 _ _)) hb; clear hb; have d0 := D.c0; have d1 := D.c1; have e0 := D.f0; have e1 := D.f1) | (have hbb : w.heap.size ≤ w.heap.size := Nat.le_refl _; have D := B2.ad hb; replace A := cc_ad A hb; replace CW := below_ad hb; clear hb; have d0 := D.c0; have d1 := D.c1; have e0 := D.f0; have e1 := D.f1))
      | (go_at_call 34; refine (CS.out _).mono ?_; rintro e wz ⟨rfl, hb⟩; first | (replace A := cc_later A hb; replace CW := hidD CW hb; (try (clear d0 d1 e0 e1; replace D := D.later hb; have d0 := D.c0; have d1 := D.c1; have e0 := D.f0; have e1 := D.f1)); clear hb) | (have hbb := CW.out.size; have D := (B2.new _ (.int .i64 0) (.int .u64 0) 77).later hb; replace A := cc_later (cc_later A (bel1 _ _)) hb; replace CW := hidD (hidD CW (bel1 _ _)) hb; clear hb; have d0 := D.c0; have d1 := D.c1; have e0 := D.f0; have e1 := D.f1) | (have hbb : w.heap.size ≤ w.heap.size := Nat.le_refl _; have D := B2.ad hb; replace A := cc_ad A hb; replace CW := below_ad hb; clear hb; have d0 := D.c0; have d1 := D.c1; have e0 := D.f0; have e1 := D.f1))
      | (go_at_call 36; refine (CM.out _).mono ?_; rintro e wz ⟨rfl, hb⟩; first | (replace A := cc_later A hb; replace CW := hidD CW hb; (try (clear d0 d1 e0 e1; replace D := D.later hb; have d0 := D.c0; have d1 := D.c1; have e0 := D.f0; have e1 := D.f1)); clear hb) | (have hbb := CW.out.size; have D := (B2.new _ (.int .i64 0) (.int .u64 0) 77).later hb; replace A := cc_later (cc_later A (bel1 _ _)) hb; replace CW := hidD (hidD CW (bel1 _ _)) hb; clear hb; have d0 := D.c0; have d1 := D.c1; have e0 := D.f0; have e1 := D.f1) | (have hbb : w.heap.size ≤ w.heap.size := Nat.le_refl _; have D := B2.ad hb; replace A := cc_ad A hb; replace CW := below_ad hb; clear hb; have d0 := D.c0; have d1 := D.c1; have e0 := D.f0; have e1 := D.f1))
      | (go_at_call 33; refine (CA.out _).mono ?_; rintro e wz ⟨rfl, hb⟩; first | (replace A := cc_later A hb; replace CW := hidD CW hb; (try (clear d0 d1 e0 e1; replace D := D.later hb; have d0 := D.c0; have d1 := D.c1; have e0 := D.f0; have e1 := D.f1)); clear hb) | (have hbb := CW.out.size; have D := (B2.new _ (.int .i64 0) (.int .u64 0) 77).later hb; replace A := cc_later (cc_later A (bel1 _ _)) hb; replace CW := hidD (hidD CW (bel1 _ _)) hb; clear hb; have d0 := D.c0; have d1 := D.c1; have e0 := D.f0; have e1 := D.f1) | (have hbb : w.heap.size ≤ w.heap.size := Nat.le_refl _; have D := B2.ad hb; replace A := cc_ad A hb; replace CW := below_ad hb; clear hb; have d0 := D.c0; have d1 := D.c1; have e0 := D.f0; have e1 := D.f1)))
  all_goals
    first
      | (have E := ((D.set0 (.int .i64 vh)).set1 (.int .u64 vl)).drew
         have W5 : Hid (Below w.heap.size w _) := ((CW.out.setCell (p := ⟨_, 0, none⟩) hbb (.int .i64 vh)).setCell (p := ⟨_, 1, none⟩) hbb (.int .u64 vl)).drew
         have A5 := cc_drew (cc_set2 (i := 0) (j := 1) (u := .int .i64 vh) (v := .int .u64 vl) A (Nat.lt_of_lt_of_le hk hbb) (Nat.lt_of_lt_of_le hu hbb))
         clear D d0 d1 e0 e1 hbb)
      | (have E := (B2.new wz (.int .i64 vh) (.int .u64 vl) 77).drew
         have W5 : Hid (Below w.heap.size w _) := (bchain CW.out (bel1 wz (.cells #[.int .i64 vh, .int .u64 vl] 77))).drew
         have A5 := cc_drew (cc_later A (bel1 wz (.cells #[.int .i64 vh, .int .u64 vl] 77))))
    clear A CW CO CS CM CA hk hu
    have y0 := E.c0
    have y1 := E.c1
    have a5 := A5.2
    skip
    go_upto_region 2 with fail
    go_region_with (first
      | (go_at_call 38; refine (CR.out _).mono ?_; rintro e wq ⟨rfl, hb⟩; clear y0 y1 a5; replace E := E.later hb; replace A5 := cc_later A5 hb; replace W5 := hidD W5 hb; clear hb; have y0 := E.c0; have y1 := E.c1; have a5 := A5.2)
      | (go_at_call 37; refine (CH.out _).mono ?_; rintro e wq ⟨rfl, hb⟩; have hV := bchain W5.out hb; clear hb y0 y1 a5 E A5 W5 CR))
  all_goals
    go_wp2
    go_ret
    exact ⟨rfl, hV⟩

end Go.Proofs.Ytfcneciknldohaa
