/-
  Texts of this proof, joined: LWalkE LWalkF LWalkE2 LWalkF2 LMath3.
-/
import Derived.Test.YtcaficenocblfaaGreatDoorSU11
import Derived.Test.YtcaficenocblfaaGreatDoorSU12
import Derived.Deep.RegionHeld3
set_option linter.unusedVariables false
set_option linter.unusedSimpArgs false
namespace Go.Proofs.YtcaficenocblfaaGreatDoor
open Go.RowKit

set_option maxRecDepth 100000 in
set_option maxHeartbeats 2000000 in
theorem lack_any (y t : Int) (y0 : -9223372036854775808 ≤ y) (y1 : y ≤ 9223372036854775807) (t0 : -9223372036854775808 ≤ t) (t1 : t ≤ 9223372036854775807) (d : Nat) (c : Int) (c0 : 0 ≤ c) (c1 : c ≤ 999999000) (w : World) (hc : w.cell? ⟨d, 0, none⟩ = some (.int .i64 c)) (hf : w.frozen? ⟨d, 0, none⟩ = false) :
    Calls Tryz.prog 74 #[.pointer (some ⟨d, 0, none⟩), .int .i64 y, .int .i64 t] w fun e w' => e = .returned (.int .i64 (clv (4294967296 - clv (rr (t * y) 32)))) ∧ Un d (c + bi (ovv (rr (t * y) 32)) + bi (ovv (4294967296 - clv (rr (t * y) 32)))) w w' := by
  have e32 : rr (t * y) 32 = rnd (t * y) 32 := rfl
  rw [e32]
  obtain ⟨mr1, mr2⟩ := clv_rng (rnd (t * y) 32)
  have C1 : Hid (∀ W : World, Calls Tryz.prog 46 #[.int .i64 t, .int .i64 y] W fun e w' => e = .returned (.tuple #[.int .i64 (clv (rnd (t * y) 32)), .bool (ovv (rnd (t * y) 32))]) ∧ Below W.heap.size W w') := rfmul_any t y t0 t1 y0 y1
  have HU0 : Hid (Un d c w w) := Un.same hc hf
  clear hc hf e32
  generalize ovv (rnd (t * y) 32) = mo at *
  generalize clv (rnd (t * y) 32) = mv at *
  have C2 : Hid (∀ W : World, Calls Tryz.prog 73 #[.int .i64 4294967296, .int .i64 mv] W fun e w' => e = .returned (.tuple #[.int .i64 (clv (4294967296 - mv)), .bool (ovv (4294967296 - mv))]) ∧ Below W.heap.size W w') := rfsub_any 4294967296 mv (by omega) (by omega) mr1 mr2
  generalize ovv (4294967296 - mv) = ho at *
  generalize clv (4294967296 - mv) = hv at *
  have b1 := bi_rng mo
  have b2 := bi_rng ho
  go_enter Tryz.func74, Tryz.ntmps74
  go_wp2_with fail
  refine (C1.out _).mono ?_
  rintro e w1 ⟨rfl, hb⟩
  have HU1 : Hid (Un d c w w1) := HU0.out.ahead hb
  clear hb HU0 C1
  go_wp2_with fail
  refine (utake_any d c mv mo c0 (by omega) w1 HU1.out.c HU1.out.f).mono ?_
  rintro e w2 ⟨rfl, hu⟩
  have HU2 : Hid (Un d (c + bi mo) w w2) := HU1.out.chain hu
  clear hu HU1
  go_wp2_with fail
  refine (C2.out _).mono ?_
  rintro e w3 ⟨rfl, hb⟩
  have HU3 : Hid (Un d (c + bi mo) w w3) := HU2.out.ahead hb
  clear hb HU2 C2
  go_wp2_with fail
  refine (utake_any d (c + bi mo) hv ho (by omega) (by omega) w3 HU3.out.c HU3.out.f).mono ?_
  rintro e w4 ⟨rfl, hu⟩
  have HU4 : Hid (Un d (c + bi mo + bi ho) w w4) := HU3.out.chain hu
  clear hu HU3
  go_wp2
  go_ret
  exact ⟨rfl, HU4.out⟩
set_option maxRecDepth 100000 in
set_option maxHeartbeats 4000000 in
theorem slope_sq (va vb : Value) (n : Nat) (f g : Nat → Int) (d : Nat) (c : Int) (hn : n ≤ 70000) (c0 : 0 ≤ c) (c1 : c ≤ 900000000) (w : World) (hA : Ar w va n f) (hB : Ar w vb n g) (nA : Nb va d) (nB : Nb vb d) (hc : w.cell? ⟨d, 0, none⟩ = some (.int .i64 c)) (hf : w.frozen? ⟨d, 0, none⟩ = false) :
    Calls Tryz.prog 44 #[.pointer (some ⟨d, 0, none⟩), .int .i64 1, va, vb] w fun e w' => ∃ v', e = .returned v' ∧ Ar w' v' n (slX true f g) ∧ Ow w.heap.size v' ∧ Un d (c + slC true f g n) w w' := by
  obtain ⟨i0, hi, hz0, hz1, hz2⟩ := info_parts dinfo_i64
  have hd := World.block_lt_of_cell? _ _ hc
  obtain ⟨adr, cap, b, o, rfl, x1, x2, x3, x4⟩ := hA
  obtain ⟨adq, caq, bq, oq, rfl, y1, y2, y3, y4⟩ := hB
  unfold maxLen at *
  have HA : Hid (∀ j, j < n → adr = some ⟨b, o, none⟩ ∧ b ≠ d ∧ w.cell? ⟨b, o + j, none⟩ = some (.int .i64 (f j)) ∧ -9223372036854775808 ≤ f j ∧ f j ≤ 9223372036854775807) := fun j hj => by
    have e := x3 (by omega)
    refine ⟨e, ?_, x4 j hj⟩
    subst e
    exact nA _ _ _ rfl (by omega)
  have HB : Hid (∀ j, j < n → adq = some ⟨bq, oq, none⟩ ∧ bq ≠ d ∧ w.cell? ⟨bq, oq + j, none⟩ = some (.int .i64 (g j)) ∧ -9223372036854775808 ≤ g j ∧ g j ≤ 9223372036854775807) := fun j hj => by
    have e := y3 (by omega)
    refine ⟨e, ?_, y4 j hj⟩
    subst e
    exact nB _ _ _ rfl (by omega)
  have U0 : Hid (Un d c w w) := Un.same hc hf
  clear x3 x4 nA hc hf y3 y4 nB
  obtain ⟨RX, hRX⟩ : ∃ r : Nat → Int, r = slX true f g := ⟨_, rfl⟩
  obtain ⟨RO, hRO⟩ : ∃ r : Nat → Bool, r = dsO f g := ⟨_, rfl⟩
  have HR : Hid (∀ i, clv (f i - g i) = RX i ∧ ovv (f i - g i) = RO i) := fun i => by rw [hRX, hRO]; exact ⟨(slX_sq f g i).symm, rfl⟩
  have HG : Hid (∀ i, -9223372036854775808 ≤ RX i ∧ RX i ≤ 9223372036854775807) := fun i => by rw [hRX]; exact slX_rng _ _ _ _
  have hsC : slC true f g n = cntV RO n := by rw [hRO]; exact slC_sq f g n
  rw [hsC, ← hRX]
  clear hRX hRO hsC
  go_enter Tryz.func44, Tryz.ntmps44
  go_wp2
  go_loopw [9, 10] (fun so si wr => ∃ j : Nat, j ≤ n ∧ si = .int .i64 (j : Int) ∧ wr.ownsRow w.heap.size 2 1 so j (il RX j) ∧ Hid (Un d (c + cntV RO j) w wr)) (fun _ si _ => n - (intOf si).toNat)
  case atStart => exact ⟨0, by omega, rfl, World.ownsRow_nil _ _ _ _, by show Un d (c + 0) w w; rw [Int.add_zero]; exact U0.out⟩
  case round =>
    obtain ⟨j, hj, rfl, hown, hU⟩ := hrel
    by_cases hlt : j < n
    · have hjI : (j : Int) < (n : Int) := by omega
      obtain ⟨ea, na, ca, a0, a1⟩ := HA.out j hlt
      subst ea
      have cA : wr.cell? ⟨b, o + j, none⟩ = some (.int .i64 (f j)) := hU.out.o _ _ na ca
      obtain ⟨eb, nb, cb, b0, b1⟩ := HB.out j hlt
      subst eb
      have cB : wr.cell? ⟨bq, oq + j, none⟩ = some (.int .i64 (g j)) := hU.out.o _ _ nb cb
      have hcr := cnt_rng RO j
      obtain ⟨rx, ro⟩ := HR.out j
      have HC : Hid (Un d (c + cntV RO j) w wr ∧ wr.ownsRow w.heap.size 2 1 u9 j (il RX j)) := ⟨hU.out, hown⟩
      have CM : Hid (∀ W : World, Calls Tryz.prog 73 #[.int .i64 (f j), .int .i64 (g j)] W fun e w' => e = .returned (.tuple #[.int .i64 (RX j), .bool (RO j)]) ∧ Below W.heap.size W w') := by
        intro W
        rw [← rx, ← ro]
        exact rfsub_any (f j) (g j) a0 a1 b0 b1 W
      clear rx ro ca cb hU hown
      go_upto_region 6 with fail
      have CC : wr.drew.cell? ⟨b, o + j, none⟩ = some (.int .i64 (f j)) ∧ wr.drew.cell? ⟨bq, oq + j, none⟩ = some (.int .i64 (g j)) := ⟨cA, cB⟩
      have HD : Hid (Un d (c + cntV RO j) w wr.drew ∧ wr.drew.ownsRow w.heap.size 2 1 u9 j (il RX j)) := ⟨HC.out.1.ahead ((Below.refl _ _).drew), own_later HC.out.2 ((Below.refl _ _).drew)⟩
      clear HC cA cB
      go_region_held3 (fun w' => w'.cell? ⟨b, o + j, none⟩ = some (.int .i64 (f j)) ∧ w'.cell? ⟨bq, oq + j, none⟩ = some (.int .i64 (g j))) (exact CC) (first
        | (go_at_call 73; refine (CM.out _).mono ?_; rintro e wz ⟨rfl, hb⟩; replace CC := cc_later CC hb; replace HD := hidUO HD hb; clear hb))
      clear CC
      have ct := HD.out.1.c
      have ft := HD.out.1.f
      go_wp2_with fail
      refine (utake_any d (c + cntV RO j) (RX j) (RO j) (by omega) (by omega) _ ct ft).mono ?_
      rintro e w2 ⟨rfl, hU2⟩
      have hown2 : w2.ownsRow w.heap.size 2 1 u9 j (il RX j) := own_un HD.out.2 hU2 hd
      have HU2 : Hid (Un d (c + cntV RO (j + 1)) w w2) := by
        have e : c + cntV RO (j + 1) = c + cntV RO j + bi (RO j) := by show c + (cntV RO j + bi (RO j)) = _; omega
        show Un _ _ _ _
        rw [e]
        exact HD.out.1.chain hU2
      have hsz : w.heap.size ≤ w2.heap.size := HU2.out.s
      clear ct ft hU2 HD
      go_wp2_with (at_builtin; refine wpList_append_own _ rfl _ _ 45 rfl w.heap.size 2 i0 (.int .i64 0) 1 8 Tryz.underlying45 hi hz0 hz1 hz2 rfl (by decide) _ _ _ rfl (hown2.alloc _) ⟨w2.heap.size, 0, none⟩ 1 1 [.int .i64 (RX j)] rfl rfl (cell_one_new _ _ _) (ints_oneCell .i64 [RX j]) (by unfold maxLen; omega) (by omega) (by simp; omega) ?_; intro v' w3 hown' hgrow hnil)
      have hown3 : w3.ownsRow w.heap.size 2 1 v' (j + 1) (il RX (j + 1)) := by rw [il_succ]; exact hown'
      have HU3 : Hid (Un d (c + cntV RO (j + 1)) w w3) := HU2.out.grow hd hgrow (fun k hk => (hown2.lt k hk).1)
      clear hown' hgrow hnil hown2 HU2
      go_wp2
      go_roundw
      case rel => exact ⟨j + 1, by omega, by go_num, hown3, HU3⟩
      case measure => simp [intOf]; omega
    · obtain rfl : j = n := by omega
      have HQ : Hid (Ar wr u9 j RX ∧ Ow w.heap.size u9) := ar_of_own hown (fun k hk => HG.out k)
      have hjj : ¬ (j : Int) < (j : Int) := by omega
      clear hown
      go_wp2
      go_ret
      exact ⟨_, rfl, HQ.out.1, HQ.out.2, hU.out⟩
end Go.Proofs.YtcaficenocblfaaGreatDoor
set_option linter.unusedVariables false
set_option linter.unusedSimpArgs false
namespace Go.Proofs.YtcaficenocblfaaGreatDoor
open Go.RowKit

set_option maxRecDepth 100000 in
set_option maxHeartbeats 8000000 in
theorem loss_sq (va vb : Value) (n : Nat) (f g : Nat → Int) (d : Nat) (c : Int) (hn : n ≤ 70000) (c0 : 0 ≤ c) (c1 : c ≤ 900000000) (w : World) (hA : Ar w va n f) (hB : Ar w vb n g) (nA : Nb va d) (nB : Nb vb d) (hc : w.cell? ⟨d, 0, none⟩ = some (.int .i64 c)) (hf : w.frozen? ⟨d, 0, none⟩ = false) :
    Calls Tryz.prog 43 #[.pointer (some ⟨d, 0, none⟩), .int .i64 1, va, vb] w fun e w' => e = .returned (.int .i64 (lsX true f g n)) ∧ Un d (c + lsC true f g n) w w' := by
  have hd := World.block_lt_of_cell? _ _ hc
  obtain ⟨adr, cap, b, o, rfl, x1, x2, x3, x4⟩ := hA
  obtain ⟨adq, caq, bq, oq, rfl, y1, y2, y3, y4⟩ := hB
  unfold maxLen at *
  have HA : Hid (∀ j, j < n → adr = some ⟨b, o, none⟩ ∧ b ≠ d ∧ w.cell? ⟨b, o + j, none⟩ = some (.int .i64 (f j)) ∧ -9223372036854775808 ≤ f j ∧ f j ≤ 9223372036854775807) := fun j hj => by
    have e := x3 (by omega)
    refine ⟨e, ?_, x4 j hj⟩
    subst e
    exact nA _ _ _ rfl (by omega)
  have HB : Hid (∀ j, j < n → adq = some ⟨bq, oq, none⟩ ∧ bq ≠ d ∧ w.cell? ⟨bq, oq + j, none⟩ = some (.int .i64 (g j)) ∧ -9223372036854775808 ≤ g j ∧ g j ≤ 9223372036854775807) := fun j hj => by
    have e := y3 (by omega)
    refine ⟨e, ?_, y4 j hj⟩
    subst e
    exact nB _ _ _ rfl (by omega)
  have U0 : Hid (Un d c w w) := Un.same hc hf
  clear x3 x4 nA hc hf y3 y4 nB
  obtain ⟨LP, hLP0⟩ : ∃ x : Int, lsP true f g n = x := ⟨_, rfl⟩
  have hLP : Hid (cntV (dsO f g) n = LP) := by show _ = _; rw [← lsP_sq]; exact hLP0
  obtain ⟨RX, hRX⟩ : ∃ x : Int, lsX true f g n = x := ⟨_, rfl⟩
  obtain ⟨RO, hRO⟩ : ∃ x : Bool, ovv (lsS true f g n) = x := ⟨_, rfl⟩
  have HR : Hid (clv (rr (dotV (dsX f g) (dsX f g) n) 33) = RX ∧ ovv (rr (dotV (dsX f g) (dsX f g) n) 33) = RO) := by show _ ∧ _; rw [← lsS_sq]; exact ⟨hRX, hRO⟩
  have hCC : lsC true f g n = LP + bi RO := by unfold lsC; rw [hLP0, hRO]
  rw [hCC, hRX]
  clear hRX hRO hLP0 hCC
  have HDs : Hid (∀ i, clv (f i - g i) = dsX f g i ∧ ovv (f i - g i) = dsO f g i) := fun i => ⟨rfl, rfl⟩
  have HDr : Hid (∀ i, -9223372036854775808 ≤ dsX f g i ∧ dsX f g i ≤ 9223372036854775807) := fun i => clv_rng _
  generalize dsX f g = DX at *
  generalize dsO f g = DO at *
  go_enter Tryz.func43, Tryz.ntmps43
  go_wp2
  go_loopw [10] (fun si wr => ∃ (j : Nat) (p q : Int), j ≤ n ∧ si = .int .i64 (j : Int) ∧ B12 w.heap.size (dg p) (dg q) wr ∧ Hid (Sm p q (dotV DX DX j) ((j : Int) * 85070591730234615865843651857942052864)) ∧ Hid (Un d (c + cntV DO j) w wr)) (fun si _ => n - (intOf si).toNat)
  case atStart =>
    refine ⟨0, 0, 0, by omega, rfl, ?_, ⟨by omega, by omega, by omega, by omega, rfl⟩, by show Un d (c + 0) w _; rw [Int.add_zero]; exact U0.out.ahead (bel1 _ _)⟩
    have h := B12.new w (dg 0) (dg 0) 116
    simp only [dg_zero] at h
    exact B12.noughts h
  case round =>
    obtain ⟨j, p, q, hj, rfl, hS, hSm, hU⟩ := hrel
    by_cases hlt : j < n
    · have hjI : (j : Int) < (n : Int) := by omega
      obtain ⟨ea, na, ca, a0, a1⟩ := HA.out j hlt
      subst ea
      have cA : wr.cell? ⟨b, o + j, none⟩ = some (.int .i64 (f j)) := hU.out.o _ _ na ca
      obtain ⟨eb, nb, cb, b0, b1⟩ := HB.out j hlt
      subst eb
      have cB : wr.cell? ⟨bq, oq + j, none⟩ = some (.int .i64 (g j)) := hU.out.o _ _ nb cb
      have hcr := cnt_rng DO j
      obtain ⟨rx, ro⟩ := HDs.out j
      obtain ⟨r0, r1⟩ := HDr.out j
      have CS : Hid (∀ W : World, Calls Tryz.prog 73 #[.int .i64 (f j), .int .i64 (g j)] W fun e w' => e = .returned (.tuple #[.int .i64 (DX j), .bool (DO j)]) ∧ Below W.heap.size W w') := by
        intro W
        rw [← rx, ← ro]
        exact rfsub_any (f j) (g j) a0 a1 b0 b1 W
      have CM : Hid (∀ W : World, Calls Tryz.prog 70 #[.agg #[.int .u64 (dg (p) 0), .int .u64 (dg (p) 1), .int .u64 (dg (p) 2), .int .u64 (dg (p) 3), .int .u64 (dg (p) 4), .int .u64 (dg (p) 5), .int .u64 (dg (q) 0), .int .u64 (dg (q) 1), .int .u64 (dg (q) 2), .int .u64 (dg (q) 3), .int .u64 (dg (q) 4), .int .u64 (dg (q) 5)], .int .i64 (DX j), .int .i64 (DX j)] W fun e w' => ∃ p' q', e = .returned (.agg #[.int .u64 (dg (p') 0), .int .u64 (dg (p') 1), .int .u64 (dg (p') 2), .int .u64 (dg (p') 3), .int .u64 (dg (p') 4), .int .u64 (dg (p') 5), .int .u64 (dg (q') 0), .int .u64 (dg (q') 1), .int .u64 (dg (q') 2), .int .u64 (dg (q') 3), .int .u64 (dg (q') 4), .int .u64 (dg (q') 5)]) ∧ Sm p' q' (dotV DX DX (j + 1)) (((j + 1 : Nat) : Int) * 85070591730234615865843651857942052864) ∧ Below W.heap.size W w') := by
        intro W
        refine (smul_any p q _ _ (DX j) (DX j) hSm.out r0 r1 r0 r1 W).mono ?_
        rintro e w' ⟨p', q', rfl, h, hb⟩
        exact ⟨p', q', rfl, sm_mono h (by omega), hb⟩
      have HC : Hid (Un d (c + cntV DO j) w wr ∧ B12 w.heap.size (dg p) (dg q) wr) := ⟨hU.out, hS⟩
      clear rx ro ca cb hU hS hSm r0 r1
      go_upto_region 6 with fail
      have CC : wr.drew.cell? ⟨b, o + j, none⟩ = some (.int .i64 (f j)) ∧ wr.drew.cell? ⟨bq, oq + j, none⟩ = some (.int .i64 (g j)) := ⟨cA, cB⟩
      have HD : Hid (Un d (c + cntV DO j) w wr.drew ∧ B12 w.heap.size (dg p) (dg q) wr.drew) := ⟨HC.out.1.ahead ((Below.refl _ _).drew), HC.out.2.later ((Below.refl _ _).drew)⟩
      clear HC cA cB
      go_region_held3 (fun w' => w'.cell? ⟨b, o + j, none⟩ = some (.int .i64 (f j)) ∧ w'.cell? ⟨bq, oq + j, none⟩ = some (.int .i64 (g j))) (exact CC) (first
        | (go_at_call 73; refine (CS.out _).mono ?_; rintro e wz ⟨rfl, hb⟩; replace CC := cc_later CC hb; replace HD : Hid (Un d (c + cntV DO j) w wz ∧ B12 w.heap.size (dg p) (dg q) wz) := ⟨HD.out.1.ahead hb, HD.out.2.later hb⟩; clear hb))
      clear CC CS
      have ct := HD.out.1.c
      have ft := HD.out.1.f
      go_wp2_with fail
      refine (utake_any d (c + cntV DO j) (DX j) (DO j) (by omega) (by omega) _ ct ft).mono ?_
      rintro e w2 ⟨rfl, hU2⟩
      have hS2 : B12 w.heap.size (dg p) (dg q) w2 := HD.out.2.un hU2 (by omega)
      have HU2 : Hid (Un d (c + cntV DO (j + 1)) w w2) := by
        have e : c + cntV DO (j + 1) = c + cntV DO j + bi (DO j) := by show c + (cntV DO j + bi (DO j)) = _; omega
        show Un _ _ _ _
        rw [e]
        exact HD.out.1.chain hU2
      clear ct ft hU2 HD
      have x0 : w2.cell? ⟨w.heap.size, 0, none⟩ = some (.int .u64 (dg p 0)) := hS2.c 0 (by omega); have x1 : w2.cell? ⟨w.heap.size, 1, none⟩ = some (.int .u64 (dg p 1)) := hS2.c 1 (by omega); have x2 : w2.cell? ⟨w.heap.size, 2, none⟩ = some (.int .u64 (dg p 2)) := hS2.c 2 (by omega); have x3 : w2.cell? ⟨w.heap.size, 3, none⟩ = some (.int .u64 (dg p 3)) := hS2.c 3 (by omega); have x4 : w2.cell? ⟨w.heap.size, 4, none⟩ = some (.int .u64 (dg p 4)) := hS2.c 4 (by omega); have x5 : w2.cell? ⟨w.heap.size, 5, none⟩ = some (.int .u64 (dg p 5)) := hS2.c 5 (by omega); have x6 : w2.cell? ⟨w.heap.size, 6, none⟩ = some (.int .u64 (dg q 0)) := hS2.d 0 (by omega); have x7 : w2.cell? ⟨w.heap.size, 7, none⟩ = some (.int .u64 (dg q 1)) := hS2.d 1 (by omega); have x8 : w2.cell? ⟨w.heap.size, 8, none⟩ = some (.int .u64 (dg q 2)) := hS2.d 2 (by omega); have x9 : w2.cell? ⟨w.heap.size, 9, none⟩ = some (.int .u64 (dg q 3)) := hS2.d 3 (by omega); have x10 : w2.cell? ⟨w.heap.size, 10, none⟩ = some (.int .u64 (dg q 4)) := hS2.d 4 (by omega); have x11 : w2.cell? ⟨w.heap.size, 11, none⟩ = some (.int .u64 (dg q 5)) := hS2.d 5 (by omega); have xf0 : w2.frozen? ⟨w.heap.size, 0, none⟩ = false := hS2.f 0 (by omega); have xf1 : w2.frozen? ⟨w.heap.size, 1, none⟩ = false := hS2.f 1 (by omega); have xf2 : w2.frozen? ⟨w.heap.size, 2, none⟩ = false := hS2.f 2 (by omega); have xf3 : w2.frozen? ⟨w.heap.size, 3, none⟩ = false := hS2.f 3 (by omega); have xf4 : w2.frozen? ⟨w.heap.size, 4, none⟩ = false := hS2.f 4 (by omega); have xf5 : w2.frozen? ⟨w.heap.size, 5, none⟩ = false := hS2.f 5 (by omega); have xf6 : w2.frozen? ⟨w.heap.size, 6, none⟩ = false := hS2.g 0 (by omega); have xf7 : w2.frozen? ⟨w.heap.size, 7, none⟩ = false := hS2.g 1 (by omega); have xf8 : w2.frozen? ⟨w.heap.size, 8, none⟩ = false := hS2.g 2 (by omega); have xf9 : w2.frozen? ⟨w.heap.size, 9, none⟩ = false := hS2.g 3 (by omega); have xf10 : w2.frozen? ⟨w.heap.size, 10, none⟩ = false := hS2.g 4 (by omega); have xf11 : w2.frozen? ⟨w.heap.size, 11, none⟩ = false := hS2.g 5 (by omega)
      go_wp2_with fail
      refine (CM.out _).mono ?_
      rintro e w3 ⟨p', q', rfl, hSm, hb⟩
      clear x0 x1 x2 x3 x4 x5 x6 x7 x8 x9 x10 x11 xf0 xf1 xf2 xf3 xf4 xf5 xf6 xf7 xf8 xf9 xf10 xf11
      have hS3 := hS2.later hb
      have HU3 : Hid (Un d (c + cntV DO (j + 1)) w w3) := HU2.out.ahead hb
      have HSm : Hid (Sm p' q' (dotV DX DX (j + 1)) (((j + 1 : Nat) : Int) * 85070591730234615865843651857942052864)) := hSm
      clear hb hS2 HU2 hSm CM
      have D5 := (hS3.allP (dg p')).allN (dg q')
      have HU5 : Hid (Un d (c + cntV DO (j + 1)) w _) := un6N (un6 HU3.out hd (Nat.le_refl _) (dg p')) hd (Nat.le_refl _) (dg q')
      have x0 : w3.cell? ⟨w.heap.size, 0, none⟩ = some (.int .u64 (dg p 0)) := hS3.c 0 (by omega); have x1 : w3.cell? ⟨w.heap.size, 1, none⟩ = some (.int .u64 (dg p 1)) := hS3.c 1 (by omega); have x2 : w3.cell? ⟨w.heap.size, 2, none⟩ = some (.int .u64 (dg p 2)) := hS3.c 2 (by omega); have x3 : w3.cell? ⟨w.heap.size, 3, none⟩ = some (.int .u64 (dg p 3)) := hS3.c 3 (by omega); have x4 : w3.cell? ⟨w.heap.size, 4, none⟩ = some (.int .u64 (dg p 4)) := hS3.c 4 (by omega); have x5 : w3.cell? ⟨w.heap.size, 5, none⟩ = some (.int .u64 (dg p 5)) := hS3.c 5 (by omega); have x6 : w3.cell? ⟨w.heap.size, 6, none⟩ = some (.int .u64 (dg q 0)) := hS3.d 0 (by omega); have x7 : w3.cell? ⟨w.heap.size, 7, none⟩ = some (.int .u64 (dg q 1)) := hS3.d 1 (by omega); have x8 : w3.cell? ⟨w.heap.size, 8, none⟩ = some (.int .u64 (dg q 2)) := hS3.d 2 (by omega); have x9 : w3.cell? ⟨w.heap.size, 9, none⟩ = some (.int .u64 (dg q 3)) := hS3.d 3 (by omega); have x10 : w3.cell? ⟨w.heap.size, 10, none⟩ = some (.int .u64 (dg q 4)) := hS3.d 4 (by omega); have x11 : w3.cell? ⟨w.heap.size, 11, none⟩ = some (.int .u64 (dg q 5)) := hS3.d 5 (by omega); have xf0 : w3.frozen? ⟨w.heap.size, 0, none⟩ = false := hS3.f 0 (by omega); have xf1 : w3.frozen? ⟨w.heap.size, 1, none⟩ = false := hS3.f 1 (by omega); have xf2 : w3.frozen? ⟨w.heap.size, 2, none⟩ = false := hS3.f 2 (by omega); have xf3 : w3.frozen? ⟨w.heap.size, 3, none⟩ = false := hS3.f 3 (by omega); have xf4 : w3.frozen? ⟨w.heap.size, 4, none⟩ = false := hS3.f 4 (by omega); have xf5 : w3.frozen? ⟨w.heap.size, 5, none⟩ = false := hS3.f 5 (by omega); have xf6 : w3.frozen? ⟨w.heap.size, 6, none⟩ = false := hS3.g 0 (by omega); have xf7 : w3.frozen? ⟨w.heap.size, 7, none⟩ = false := hS3.g 1 (by omega); have xf8 : w3.frozen? ⟨w.heap.size, 8, none⟩ = false := hS3.g 2 (by omega); have xf9 : w3.frozen? ⟨w.heap.size, 9, none⟩ = false := hS3.g 3 (by omega); have xf10 : w3.frozen? ⟨w.heap.size, 10, none⟩ = false := hS3.g 4 (by omega); have xf11 : w3.frozen? ⟨w.heap.size, 11, none⟩ = false := hS3.g 5 (by omega)
      clear hS3 HU3
      go_wp2
      go_roundw
      case rel => exact ⟨j + 1, p', q', by omega, by go_num, D5, HSm, HU5⟩
      case measure => simp [intOf]; omega
    · obtain rfl : j = n := by omega
      have hjI : ¬ (j : Int) < (j : Int) := by omega
      have CE : Hid (∀ W : World, Calls Tryz.prog 72 #[.agg #[.int .u64 (dg (p) 0), .int .u64 (dg (p) 1), .int .u64 (dg (p) 2), .int .u64 (dg (p) 3), .int .u64 (dg (p) 4), .int .u64 (dg (p) 5), .int .u64 (dg (q) 0), .int .u64 (dg (q) 1), .int .u64 (dg (q) 2), .int .u64 (dg (q) 3), .int .u64 (dg (q) 4), .int .u64 (dg (q) 5)], .int .i64 33] W fun e w' => e = .returned (.tuple #[.int .i64 RX, .bool RO]) ∧ Below W.heap.size W w') := by
        intro W
        rw [← HR.out.1, ← HR.out.2]
        exact sround_of p q _ _ 33 (by omega) hSm.out (by omega) W
      have hcr := cnt_rng DO j
      have cR := hU.out.c
      have fR := hU.out.f
      clear hSm HR
      have x0 : wr.cell? ⟨w.heap.size, 0, none⟩ = some (.int .u64 (dg p 0)) := hS.c 0 (by omega); have x1 : wr.cell? ⟨w.heap.size, 1, none⟩ = some (.int .u64 (dg p 1)) := hS.c 1 (by omega); have x2 : wr.cell? ⟨w.heap.size, 2, none⟩ = some (.int .u64 (dg p 2)) := hS.c 2 (by omega); have x3 : wr.cell? ⟨w.heap.size, 3, none⟩ = some (.int .u64 (dg p 3)) := hS.c 3 (by omega); have x4 : wr.cell? ⟨w.heap.size, 4, none⟩ = some (.int .u64 (dg p 4)) := hS.c 4 (by omega); have x5 : wr.cell? ⟨w.heap.size, 5, none⟩ = some (.int .u64 (dg p 5)) := hS.c 5 (by omega); have x6 : wr.cell? ⟨w.heap.size, 6, none⟩ = some (.int .u64 (dg q 0)) := hS.d 0 (by omega); have x7 : wr.cell? ⟨w.heap.size, 7, none⟩ = some (.int .u64 (dg q 1)) := hS.d 1 (by omega); have x8 : wr.cell? ⟨w.heap.size, 8, none⟩ = some (.int .u64 (dg q 2)) := hS.d 2 (by omega); have x9 : wr.cell? ⟨w.heap.size, 9, none⟩ = some (.int .u64 (dg q 3)) := hS.d 3 (by omega); have x10 : wr.cell? ⟨w.heap.size, 10, none⟩ = some (.int .u64 (dg q 4)) := hS.d 4 (by omega); have x11 : wr.cell? ⟨w.heap.size, 11, none⟩ = some (.int .u64 (dg q 5)) := hS.d 5 (by omega); have xf0 : wr.frozen? ⟨w.heap.size, 0, none⟩ = false := hS.f 0 (by omega); have xf1 : wr.frozen? ⟨w.heap.size, 1, none⟩ = false := hS.f 1 (by omega); have xf2 : wr.frozen? ⟨w.heap.size, 2, none⟩ = false := hS.f 2 (by omega); have xf3 : wr.frozen? ⟨w.heap.size, 3, none⟩ = false := hS.f 3 (by omega); have xf4 : wr.frozen? ⟨w.heap.size, 4, none⟩ = false := hS.f 4 (by omega); have xf5 : wr.frozen? ⟨w.heap.size, 5, none⟩ = false := hS.f 5 (by omega); have xf6 : wr.frozen? ⟨w.heap.size, 6, none⟩ = false := hS.g 0 (by omega); have xf7 : wr.frozen? ⟨w.heap.size, 7, none⟩ = false := hS.g 1 (by omega); have xf8 : wr.frozen? ⟨w.heap.size, 8, none⟩ = false := hS.g 2 (by omega); have xf9 : wr.frozen? ⟨w.heap.size, 9, none⟩ = false := hS.g 3 (by omega); have xf10 : wr.frozen? ⟨w.heap.size, 10, none⟩ = false := hS.g 4 (by omega); have xf11 : wr.frozen? ⟨w.heap.size, 11, none⟩ = false := hS.g 5 (by omega)
      clear hS
      go_wp2_with fail
      refine (CE.out _).mono ?_
      rintro e w2 ⟨rfl, hb⟩
      clear x0 x1 x2 x3 x4 x5 x6 x7 x8 x9 x10 x11 xf0 xf1 xf2 xf3 xf4 xf5 xf6 xf7 xf8 xf9 xf10 xf11
      have HU2 := hU.out.ahead hb
      have HU3 : Hid (Un d (c + LP) w w2) := by have h := HU2; rw [hLP.out] at h; exact h
      clear HU2 hb cR fR CE hU
      have c2 := HU3.out.c
      have f2 := HU3.out.f
      have hLr : 0 ≤ LP ∧ LP ≤ 200000 := by rw [← hLP.out]; omega
      clear hcr hLP
      go_wp2_with fail
      refine (utake_any d (c + LP) RX RO (by omega) (by omega) _ c2 f2).mono ?_
      rintro e w3 ⟨rfl, hU3⟩
      have U4 : Hid (Un d (c + (LP + bi RO)) w w3) := by show Un _ _ _ _; rw [← Int.add_assoc]; exact HU3.out.chain hU3
      clear hU3 c2 f2 HU3
      go_wp2
      go_ret
      exact ⟨rfl, U4.out⟩
end Go.Proofs.YtcaficenocblfaaGreatDoor
set_option linter.unusedVariables false
set_option linter.unusedSimpArgs false
namespace Go.Proofs.YtcaficenocblfaaGreatDoor
open Go.RowKit

def hsC (f g : Nat → Int) (j : Nat) : Int := cntV (mpO f g) j + cntV (hgO f g) j + cntV (slO f g) j
theorem hsC_succ (f g : Nat → Int) (j : Nat) : hsC f g (j + 1) = hsC f g j + bi (mpO f g j) + bi (hgO f g j) + bi (slO f g j) := by
  show cntV (mpO f g) j + bi (mpO f g j) + (cntV (hgO f g) j + bi (hgO f g j)) + (cntV (slO f g) j + bi (slO f g j)) = cntV (mpO f g) j + cntV (hgO f g) j + cntV (slO f g) j + _ + _ + _
  omega
theorem hsC_rng (f g : Nat → Int) (j : Nat) : 0 ≤ hsC f g j ∧ hsC f g j ≤ 3 * (j : Int) := by
  have h1 := cnt_rng (mpO f g) j
  have h2 := cnt_rng (hgO f g) j
  have h3 := cnt_rng (slO f g) j
  unfold hsC
  omega
set_option maxRecDepth 100000 in
set_option maxHeartbeats 4000000 in
theorem slope_hg (va vb : Value) (n : Nat) (f g : Nat → Int) (d : Nat) (c : Int) (hn : n ≤ 70000) (c0 : 0 ≤ c) (c1 : c ≤ 900000000) (w : World) (hA : Ar w va n f) (hB : Ar w vb n g) (nA : Nb va d) (nB : Nb vb d) (hc : w.cell? ⟨d, 0, none⟩ = some (.int .i64 c)) (hf : w.frozen? ⟨d, 0, none⟩ = false) :
    Calls Tryz.prog 44 #[.pointer (some ⟨d, 0, none⟩), .int .i64 2, va, vb] w fun e w' => ∃ v', e = .returned v' ∧ Ar w' v' n (slX false f g) ∧ Ow w.heap.size v' ∧ Un d (c + slC false f g n) w w' := by
  obtain ⟨i0, hi, hz0, hz1, hz2⟩ := info_parts dinfo_i64
  have hd := World.block_lt_of_cell? _ _ hc
  obtain ⟨adr, cap, b, o, rfl, x1, x2, x3, x4⟩ := hA
  obtain ⟨adq, caq, bq, oq, rfl, y1, y2, y3, y4⟩ := hB
  unfold maxLen at *
  have HA : Hid (∀ j, j < n → adr = some ⟨b, o, none⟩ ∧ b ≠ d ∧ w.cell? ⟨b, o + j, none⟩ = some (.int .i64 (f j)) ∧ -9223372036854775808 ≤ f j ∧ f j ≤ 9223372036854775807) := fun j hj => by
    have e := x3 (by omega)
    refine ⟨e, ?_, x4 j hj⟩
    subst e
    exact nA _ _ _ rfl (by omega)
  have HB : Hid (∀ j, j < n → adq = some ⟨bq, oq, none⟩ ∧ bq ≠ d ∧ w.cell? ⟨bq, oq + j, none⟩ = some (.int .i64 (g j)) ∧ -9223372036854775808 ≤ g j ∧ g j ≤ 9223372036854775807) := fun j hj => by
    have e := y3 (by omega)
    refine ⟨e, ?_, y4 j hj⟩
    subst e
    exact nB _ _ _ rfl (by omega)
  have U0 : Hid (Un d c w w) := Un.same hc hf
  clear x3 x4 nA hc hf y3 y4 nB
  have HR : Hid (∀ i, slX false f g i = if 0 < hgX f g i then clv (0 - g i) else 0) := fun i => slX_hg f g i
  have HRO : Hid (∀ i, slO f g i = if 0 < hgX f g i then ovv (0 - g i) else false) := fun i => slO_hg f g i
  have HG : Hid (∀ i, -9223372036854775808 ≤ slX false f g i ∧ slX false f g i ≤ 9223372036854775807) := fun i => slX_rng _ _ _ _
  have hsC0 : slC false f g n = hsC f g n := slC_hg f g n
  rw [hsC0]
  clear hsC0
  have HLk : Hid (∀ (j : Nat) (W : World), j < n → 0 ≤ c + hsC f g j → c + hsC f g j ≤ 999999000 → W.cell? ⟨d, 0, none⟩ = some (.int .i64 (c + hsC f g j)) → W.frozen? ⟨d, 0, none⟩ = false → Calls Tryz.prog 74 #[.pointer (some ⟨d, 0, none⟩), .int .i64 (f j), .int .i64 (g j)] W fun e w' => e = .returned (.int .i64 (hgX f g j)) ∧ Un d (c + hsC f g j + bi (mpO f g j) + bi (hgO f g j)) W w') := fun j W hj h0 h1 hc hf => lack_any (f j) (g j) (HA.out j hj).2.2.2.1 (HA.out j hj).2.2.2.2 (HB.out j hj).2.2.2.1 (HB.out j hj).2.2.2.2 d _ h0 h1 W hc hf
  generalize slX false f g = RX at *
  go_enter Tryz.func44, Tryz.ntmps44
  go_wp2
  go_loopw [9, 10] (fun so si wr => ∃ j : Nat, j ≤ n ∧ si = .int .i64 (j : Int) ∧ wr.ownsRow w.heap.size 2 1 so j (il RX j) ∧ Hid (Un d (c + hsC f g j) w wr)) (fun _ si _ => n - (intOf si).toNat)
  case atStart => exact ⟨0, by omega, rfl, World.ownsRow_nil _ _ _ _, by show Un d (c + 0) w w; rw [Int.add_zero]; exact U0.out⟩
  case round =>
    obtain ⟨j, hj, rfl, hown, hU⟩ := hrel
    by_cases hlt : j < n
    · have hjI : (j : Int) < (n : Int) := by omega
      obtain ⟨ea, na, ca, a0, a1⟩ := HA.out j hlt
      subst ea
      have cA : wr.cell? ⟨b, o + j, none⟩ = some (.int .i64 (f j)) := hU.out.o _ _ na ca
      obtain ⟨eb, nb, cb, b0, b1⟩ := HB.out j hlt
      subst eb
      have cB : wr.cell? ⟨bq, oq + j, none⟩ = some (.int .i64 (g j)) := hU.out.o _ _ nb cb
      have hcr := hsC_rng f g j
      have rx := HR.out j
      have ro := HRO.out j
      have hsu := hsC_succ f g j
      have CM : Hid (∀ W : World, Calls Tryz.prog 73 #[.int .i64 0, .int .i64 (g j)] W fun e w' => e = .returned (.tuple #[.int .i64 (clv (0 - g j)), .bool (ovv (0 - g j))]) ∧ Below W.heap.size W w') := rfsub_any 0 (g j) (by omega) (by omega) b0 b1
      have CL : Hid (∀ (W : World), W.cell? ⟨d, 0, none⟩ = some (.int .i64 (c + hsC f g j)) → W.frozen? ⟨d, 0, none⟩ = false → Calls Tryz.prog 74 #[.pointer (some ⟨d, 0, none⟩), .int .i64 (f j), .int .i64 (g j)] W fun e w' => e = .returned (.int .i64 (hgX f g j)) ∧ Un d (c + hsC f g j + bi (mpO f g j) + bi (hgO f g j)) W w') := fun W hc hf => HLk.out j W hlt (by omega) (by omega) hc hf
      have bm := bi_rng (mpO f g j)
      have bh := bi_rng (hgO f g j)
      generalize hsC f g (j + 1) = C2 at *
      have Hsu : Hid (C2 = hsC f g j + bi (mpO f g j) + bi (hgO f g j) + bi (slO f g j)) := hsu
      have HC2 : Hid (∀ W W' : World, Un d (c + C2) W W' → Un d (c + hsC f g (j + 1)) W W') := fun W W' h => by rw [hsC_succ, ← Hsu.out]; exact h
      have HC : Hid (Un d (c + hsC f g j) w wr ∧ wr.ownsRow w.heap.size 2 1 u9 j (il RX j)) := ⟨hU.out, hown⟩
      clear hsu ca cb hU hown
      generalize hsC f g j = C1 at *
      go_upto_region 8 with fail
      have CC : wr.drew.cell? ⟨b, o + j, none⟩ = some (.int .i64 (f j)) ∧ wr.drew.cell? ⟨bq, oq + j, none⟩ = some (.int .i64 (g j)) := ⟨cA, cB⟩
      have HD : Hid (∃ C, Un d C w wr.drew ∧ wr.drew.ownsRow w.heap.size 2 1 u9 j (il RX j)) := ⟨_, HC.out.1.ahead ((Below.refl _ _).drew), own_later HC.out.2 ((Below.refl _ _).drew)⟩
      have HE : Hid (Un d (c + C1) w wr.drew ∧ wr.drew.ownsRow w.heap.size 2 1 u9 j (il RX j)) := ⟨HC.out.1.ahead ((Below.refl _ _).drew), own_later HC.out.2 ((Below.refl _ _).drew)⟩
      clear HC cA cB HD
      go_region_held3 (fun w' => w'.cell? ⟨b, o + j, none⟩ = some (.int .i64 (f j)) ∧ w'.cell? ⟨bq, oq + j, none⟩ = some (.int .i64 (g j))) (exact CC) (first
        | (go_at_call 74; refine (CL.out _ HE.out.1.c HE.out.1.f).mono ?_; rintro e wz ⟨rfl, hu⟩; replace CC := And.intro (hu.o _ _ na CC.1) (hu.o _ _ nb CC.2); have HF : Hid (Un d (c + C1 + bi (mpO f g j) + bi (hgO f g j)) w wz ∧ wz.ownsRow w.heap.size 2 1 u9 j (il RX j)) := ⟨HE.out.1.chain hu, own_un HE.out.2 hu hd⟩; clear hu HE CL))
      have cB2 := CC.2
      clear CC
      by_cases hp : 0 < hgX f g j
      · rw [if_pos hp] at rx ro
        have Hrx : Hid (RX j = clv (0 - g j) ∧ slO f g j = ovv (0 - g j)) := ⟨rx, ro⟩
        clear HR HRO HLk rx ro
        go_wp2_with fail
        refine (CM.out _).mono ?_
        rintro e wy ⟨rfl, hb⟩
        have HG2 : Hid (Un d (c + C1 + bi (mpO f g j) + bi (hgO f g j)) w wy ∧ wy.ownsRow w.heap.size 2 1 u9 j (il RX j)) := hidUO HF hb
        clear HF hb CM cB2
        have ct := HG2.out.1.c
        have ft := HG2.out.1.f
        rw [← Hrx.out.1, ← Hrx.out.2]
        clear Hrx
        go_wp2_with fail
        refine (utake_any d (c + C1 + bi (mpO f g j) + bi (hgO f g j)) (RX j) (slO f g j) (by omega) (by omega) _ ct ft).mono ?_
        rintro e w2 ⟨rfl, hU2⟩
        have hown2 : w2.ownsRow w.heap.size 2 1 u9 j (il RX j) := own_un HG2.out.2 hU2 hd
        have HU2 : Hid (Un d (c + C2) w w2) := by
          have e : c + C2 = c + C1 + bi (mpO f g j) + bi (hgO f g j) + bi (slO f g j) := by have := Hsu.out; omega
          show Un _ _ _ _
          rw [e]
          exact HG2.out.1.chain hU2
        have hsz : w.heap.size ≤ w2.heap.size := HU2.out.s
        clear ct ft hU2 HG2
        go_wp2_with (at_builtin; refine wpList_append_own _ rfl _ _ 45 rfl w.heap.size 2 i0 (.int .i64 0) 1 8 Tryz.underlying45 hi hz0 hz1 hz2 rfl (by decide) _ _ _ rfl (hown2.alloc _) ⟨w2.heap.size, 0, none⟩ 1 1 [.int .i64 (RX j)] rfl rfl (cell_one_new _ _ _) (ints_oneCell .i64 [RX j]) (by unfold maxLen; omega) (by omega) (by simp; omega) ?_; intro v' w3 hown' hgrow hnil)
        have hown3 : w3.ownsRow w.heap.size 2 1 v' (j + 1) (il RX (j + 1)) := by rw [il_succ]; exact hown'
        have HU3 : Hid (Un d (c + hsC f g (j + 1)) w w3) := HC2.out _ _ (HU2.out.grow hd hgrow (fun k hk => (hown2.lt k hk).1))
        clear hown' hgrow hnil hown2 HU2
        go_wp2
        go_roundw
        case rel => exact ⟨j + 1, by omega, by go_num, hown3, HU3⟩
        case measure => simp [intOf]; omega
      · rw [if_neg hp] at rx ro
        have HU2 : Hid (Un d (c + C2) w wz) := by
          have e : c + C2 = c + C1 + bi (mpO f g j) + bi (hgO f g j) := by
            have h := Hsu.out
            rw [ro] at h
            have : bi false = 0 := rfl
            omega
          show Un _ _ _ _
          rw [e]
          exact HF.out.1
        have hown2 := HF.out.2
        have hsz : w.heap.size ≤ wz.heap.size := HU2.out.s
        have Hrx : Hid (RX j = 0) := rx
        clear HF CM cB2 rx ro
        go_wp2_with (at_builtin; refine wpList_append_own _ rfl _ _ 45 rfl w.heap.size 2 i0 (.int .i64 0) 1 8 Tryz.underlying45 hi hz0 hz1 hz2 rfl (by decide) _ _ _ rfl (hown2.alloc _) ⟨wz.heap.size, 0, none⟩ 1 1 [.int .i64 0] rfl rfl (cell_one_new _ _ _) (ints_oneCell .i64 [0]) (by unfold maxLen; omega) (by omega) (by simp; omega) ?_; intro v' w3 hown' hgrow hnil)
        have hown3 : w3.ownsRow w.heap.size 2 1 v' (j + 1) (il RX (j + 1)) := by rw [il_succ, Hrx.out]; exact hown'
        have HU3 : Hid (Un d (c + hsC f g (j + 1)) w w3) := HC2.out _ _ (HU2.out.grow hd hgrow (fun k hk => (hown2.lt k hk).1))
        clear hown' hgrow hnil hown2 HU2
        go_wp2
        go_roundw
        case rel => exact ⟨j + 1, by omega, by go_num, hown3, HU3⟩
        case measure => simp [intOf]; omega
    · obtain rfl : j = n := by omega
      have HQ : Hid (Ar wr u9 j RX ∧ Ow w.heap.size u9) := ar_of_own hown (fun k hk => HG.out k)
      have hjj : ¬ (j : Int) < (j : Int) := by omega
      clear hown
      go_wp2
      go_ret
      exact ⟨_, rfl, HQ.out.1, HQ.out.2, hU.out⟩
end Go.Proofs.YtcaficenocblfaaGreatDoor
set_option linter.unusedVariables false
set_option linter.unusedSimpArgs false
namespace Go.Proofs.YtcaficenocblfaaGreatDoor
open Go.RowKit

def hlC (f g : Nat → Int) (j : Nat) : Int := cntV (mpO f g) j + cntV (hgO f g) j
theorem hlC_succ (f g : Nat → Int) (j : Nat) : hlC f g (j + 1) = hlC f g j + bi (mpO f g j) + bi (hgO f g j) := by
  show cntV (mpO f g) j + bi (mpO f g j) + (cntV (hgO f g) j + bi (hgO f g j)) = cntV (mpO f g) j + cntV (hgO f g) j + _ + _
  omega
theorem hlC_rng (f g : Nat → Int) (j : Nat) : 0 ≤ hlC f g j ∧ hlC f g j ≤ 2 * (j : Int) := by
  have h1 := cnt_rng (mpO f g) j
  have h2 := cnt_rng (hgO f g) j
  unfold hlC
  omega
theorem posV_pos (f : Nat → Int) (j : Nat) (h : 0 < f j) : sumV (posV f) (j + 1) = sumV (posV f) j + f j := by
  show sumV (posV f) j + posV f j = _
  unfold posV
  rw [if_pos h]
theorem posV_neg (f : Nat → Int) (j : Nat) (h : ¬ 0 < f j) : sumV (posV f) (j + 1) = sumV (posV f) j := by
  show sumV (posV f) j + posV f j = _
  have e : posV f j = 0 := by unfold posV; rw [if_neg h]
  rw [e, Int.add_zero]
set_option maxRecDepth 100000 in
set_option maxHeartbeats 8000000 in
theorem loss_hg (va vb : Value) (n : Nat) (f g : Nat → Int) (d : Nat) (c : Int) (hn : n ≤ 70000) (c0 : 0 ≤ c) (c1 : c ≤ 900000000) (w : World) (hA : Ar w va n f) (hB : Ar w vb n g) (nA : Nb va d) (nB : Nb vb d) (hc : w.cell? ⟨d, 0, none⟩ = some (.int .i64 c)) (hf : w.frozen? ⟨d, 0, none⟩ = false) :
    Calls Tryz.prog 43 #[.pointer (some ⟨d, 0, none⟩), .int .i64 2, va, vb] w fun e w' => e = .returned (.int .i64 (lsX false f g n)) ∧ Un d (c + lsC false f g n) w w' := by
  have hd := World.block_lt_of_cell? _ _ hc
  obtain ⟨adr, cap, b, o, rfl, x1, x2, x3, x4⟩ := hA
  obtain ⟨adq, caq, bq, oq, rfl, y1, y2, y3, y4⟩ := hB
  unfold maxLen at *
  have HA : Hid (∀ j, j < n → adr = some ⟨b, o, none⟩ ∧ b ≠ d ∧ w.cell? ⟨b, o + j, none⟩ = some (.int .i64 (f j)) ∧ -9223372036854775808 ≤ f j ∧ f j ≤ 9223372036854775807) := fun j hj => by
    have e := x3 (by omega)
    refine ⟨e, ?_, x4 j hj⟩
    subst e
    exact nA _ _ _ rfl (by omega)
  have HB : Hid (∀ j, j < n → adq = some ⟨bq, oq, none⟩ ∧ bq ≠ d ∧ w.cell? ⟨bq, oq + j, none⟩ = some (.int .i64 (g j)) ∧ -9223372036854775808 ≤ g j ∧ g j ≤ 9223372036854775807) := fun j hj => by
    have e := y3 (by omega)
    refine ⟨e, ?_, y4 j hj⟩
    subst e
    exact nB _ _ _ rfl (by omega)
  have U0 : Hid (Un d c w w) := Un.same hc hf
  clear x3 x4 nA hc hf y3 y4 nB
  obtain ⟨LP, hLP0⟩ : ∃ x : Int, lsP false f g n = x := ⟨_, rfl⟩
  have hLP : Hid (hlC f g n = LP) := by show _ = _; rw [← hLP0, lsP_hg]; rfl
  obtain ⟨RX, hRX⟩ : ∃ x : Int, lsX false f g n = x := ⟨_, rfl⟩
  obtain ⟨RO, hRO⟩ : ∃ x : Bool, ovv (lsS false f g n) = x := ⟨_, rfl⟩
  have HR : Hid (clv (rr (sumV (posV (hgX f g)) n) 0) = RX ∧ ovv (rr (sumV (posV (hgX f g)) n) 0) = RO) := by
    show _ ∧ _
    have e : rr (sumV (posV (hgX f g)) n) 0 = sumV (posV (hgX f g)) n := by unfold rr; rw [if_pos rfl]
    rw [e, ← lsS_hg]
    exact ⟨hRX, hRO⟩
  have hCC : lsC false f g n = LP + bi RO := by unfold lsC; rw [hLP0, hRO]
  rw [hCC, hRX]
  clear hRX hRO hLP0 hCC
  have HLk : Hid (∀ (j : Nat) (W : World), j < n → 0 ≤ c + hlC f g j → c + hlC f g j ≤ 999999000 → W.cell? ⟨d, 0, none⟩ = some (.int .i64 (c + hlC f g j)) → W.frozen? ⟨d, 0, none⟩ = false → Calls Tryz.prog 74 #[.pointer (some ⟨d, 0, none⟩), .int .i64 (f j), .int .i64 (g j)] W fun e w' => e = .returned (.int .i64 (hgX f g j)) ∧ Un d (c + hlC f g j + bi (mpO f g j) + bi (hgO f g j)) W w') := fun j W hj h0 h1 hc hf => lack_any (f j) (g j) (HA.out j hj).2.2.2.1 (HA.out j hj).2.2.2.2 (HB.out j hj).2.2.2.1 (HB.out j hj).2.2.2.2 d _ h0 h1 W hc hf
  have HHr : Hid (∀ i, -9223372036854775808 ≤ hgX f g i ∧ hgX f g i ≤ 9223372036854775807) := fun i => clv_rng _
  go_enter Tryz.func43, Tryz.ntmps43
  go_wp2
  go_loopw [10] (fun si wr => ∃ (j : Nat) (p q : Int), j ≤ n ∧ si = .int .i64 (j : Int) ∧ B12 w.heap.size (dg p) (dg q) wr ∧ Hid (Sm p q (sumV (posV (hgX f g)) j) ((j : Int) * 9223372036854775808)) ∧ Hid (Un d (c + hlC f g j) w wr)) (fun si _ => n - (intOf si).toNat)
  case atStart =>
    refine ⟨0, 0, 0, by omega, rfl, ?_, ⟨by omega, by omega, by omega, by omega, rfl⟩, by show Un d (c + 0) w _; rw [Int.add_zero]; exact U0.out.ahead (bel1 _ _)⟩
    have h := B12.new w (dg 0) (dg 0) 116
    simp only [dg_zero] at h
    exact B12.noughts h
  case round =>
    obtain ⟨j, p, q, hj, rfl, hS, hSm, hU⟩ := hrel
    by_cases hlt : j < n
    · have hjI : (j : Int) < (n : Int) := by omega
      obtain ⟨ea, na, ca, a0, a1⟩ := HA.out j hlt
      subst ea
      have cA : wr.cell? ⟨b, o + j, none⟩ = some (.int .i64 (f j)) := hU.out.o _ _ na ca
      obtain ⟨eb, nb, cb, b0, b1⟩ := HB.out j hlt
      subst eb
      have cB : wr.cell? ⟨bq, oq + j, none⟩ = some (.int .i64 (g j)) := hU.out.o _ _ nb cb
      have hcr := hlC_rng f g j
      have CL : Hid (∀ (W : World), W.cell? ⟨d, 0, none⟩ = some (.int .i64 (c + hlC f g j)) → W.frozen? ⟨d, 0, none⟩ = false → Calls Tryz.prog 74 #[.pointer (some ⟨d, 0, none⟩), .int .i64 (f j), .int .i64 (g j)] W fun e w' => e = .returned (.int .i64 (hgX f g j)) ∧ Un d (c + hlC f g (j + 1)) W w') := fun W hc hf => by
        have h := HLk.out j W hlt (by omega) (by omega) hc hf
        have e : c + hlC f g (j + 1) = c + hlC f g j + bi (mpO f g j) + bi (hgO f g j) := by rw [hlC_succ]; omega
        rw [e]
        exact h
      obtain ⟨r0, r1⟩ := HHr.out j
      have HC : Hid (Un d (c + hlC f g j) w wr ∧ B12 w.heap.size (dg p) (dg q) wr) := ⟨hU.out, hS⟩
      have HSm : Hid (Sm p q (sumV (posV (hgX f g)) j) ((j : Int) * 9223372036854775808)) := hSm
      clear ca cb hU hS hSm
      go_upto_region 9 with fail
      have CC : wr.drew.cell? ⟨b, o + j, none⟩ = some (.int .i64 (f j)) ∧ wr.drew.cell? ⟨bq, oq + j, none⟩ = some (.int .i64 (g j)) := ⟨cA, cB⟩
      have HD : Hid (Un d (c + hlC f g j) w wr.drew ∧ B12 w.heap.size (dg p) (dg q) wr.drew) := ⟨HC.out.1.ahead ((Below.refl _ _).drew), HC.out.2.later ((Below.refl _ _).drew)⟩
      clear HC cA cB
      go_region_held3 (fun w' => w'.cell? ⟨b, o + j, none⟩ = some (.int .i64 (f j)) ∧ w'.cell? ⟨bq, oq + j, none⟩ = some (.int .i64 (g j))) (exact CC) (first
        | (go_at_call 74; refine (CL.out _ HD.out.1.c HD.out.1.f).mono ?_; rintro e wz ⟨rfl, hu⟩; replace CC := And.intro (hu.o _ _ na CC.1) (hu.o _ _ nb CC.2); have HF : Hid (Un d (c + hlC f g (j + 1)) w wz ∧ B12 w.heap.size (dg p) (dg q) wz) := ⟨HD.out.1.chain hu, HD.out.2.un hu (by omega)⟩; clear hu HD CL))
      clear CC
      by_cases hp : 0 < hgX f g j
      · have CM : Hid (∀ W : World, Calls Tryz.prog 49 #[.agg #[.int .u64 (dg (p) 0), .int .u64 (dg (p) 1), .int .u64 (dg (p) 2), .int .u64 (dg (p) 3), .int .u64 (dg (p) 4), .int .u64 (dg (p) 5), .int .u64 (dg (q) 0), .int .u64 (dg (q) 1), .int .u64 (dg (q) 2), .int .u64 (dg (q) 3), .int .u64 (dg (q) 4), .int .u64 (dg (q) 5)], .int .i64 (hgX f g j), .int .i64 0] W fun e w' => ∃ p' q', e = .returned (.agg #[.int .u64 (dg (p') 0), .int .u64 (dg (p') 1), .int .u64 (dg (p') 2), .int .u64 (dg (p') 3), .int .u64 (dg (p') 4), .int .u64 (dg (p') 5), .int .u64 (dg (q') 0), .int .u64 (dg (q') 1), .int .u64 (dg (q') 2), .int .u64 (dg (q') 3), .int .u64 (dg (q') 4), .int .u64 (dg (q') 5)]) ∧ Sm p' q' (sumV (posV (hgX f g)) (j + 1)) (((j + 1 : Nat) : Int) * 9223372036854775808) ∧ Below W.heap.size W w') := by
          intro W
          refine (sadd_any p q _ _ (hgX f g j) 0 (by omega) HSm.out r0 r1 W).mono ?_
          rintro e w' ⟨p', q', rfl, h, hb⟩
          refine ⟨p', q', rfl, ?_, hb⟩
          have e1 : hgX f g j * 2 ^ (32 * 0) = hgX f g j := by simp
          have e2 : (9223372036854775808 : Int) * 2 ^ (32 * 0) = 9223372036854775808 := by simp
          rw [e1, e2] at h
          rw [posV_pos _ _ hp]
          exact sm_mono h (by omega)
        have hS2 := HF.out.2
        have HU2 : Hid (Un d (c + hlC f g (j + 1)) w wz) := HF.out.1
        clear HF HSm r0 r1
        generalize hgX f g j = hv at *
        have x0 : wz.cell? ⟨w.heap.size, 0, none⟩ = some (.int .u64 (dg p 0)) := hS2.c 0 (by omega); have x1 : wz.cell? ⟨w.heap.size, 1, none⟩ = some (.int .u64 (dg p 1)) := hS2.c 1 (by omega); have x2 : wz.cell? ⟨w.heap.size, 2, none⟩ = some (.int .u64 (dg p 2)) := hS2.c 2 (by omega); have x3 : wz.cell? ⟨w.heap.size, 3, none⟩ = some (.int .u64 (dg p 3)) := hS2.c 3 (by omega); have x4 : wz.cell? ⟨w.heap.size, 4, none⟩ = some (.int .u64 (dg p 4)) := hS2.c 4 (by omega); have x5 : wz.cell? ⟨w.heap.size, 5, none⟩ = some (.int .u64 (dg p 5)) := hS2.c 5 (by omega); have x6 : wz.cell? ⟨w.heap.size, 6, none⟩ = some (.int .u64 (dg q 0)) := hS2.d 0 (by omega); have x7 : wz.cell? ⟨w.heap.size, 7, none⟩ = some (.int .u64 (dg q 1)) := hS2.d 1 (by omega); have x8 : wz.cell? ⟨w.heap.size, 8, none⟩ = some (.int .u64 (dg q 2)) := hS2.d 2 (by omega); have x9 : wz.cell? ⟨w.heap.size, 9, none⟩ = some (.int .u64 (dg q 3)) := hS2.d 3 (by omega); have x10 : wz.cell? ⟨w.heap.size, 10, none⟩ = some (.int .u64 (dg q 4)) := hS2.d 4 (by omega); have x11 : wz.cell? ⟨w.heap.size, 11, none⟩ = some (.int .u64 (dg q 5)) := hS2.d 5 (by omega); have xf0 : wz.frozen? ⟨w.heap.size, 0, none⟩ = false := hS2.f 0 (by omega); have xf1 : wz.frozen? ⟨w.heap.size, 1, none⟩ = false := hS2.f 1 (by omega); have xf2 : wz.frozen? ⟨w.heap.size, 2, none⟩ = false := hS2.f 2 (by omega); have xf3 : wz.frozen? ⟨w.heap.size, 3, none⟩ = false := hS2.f 3 (by omega); have xf4 : wz.frozen? ⟨w.heap.size, 4, none⟩ = false := hS2.f 4 (by omega); have xf5 : wz.frozen? ⟨w.heap.size, 5, none⟩ = false := hS2.f 5 (by omega); have xf6 : wz.frozen? ⟨w.heap.size, 6, none⟩ = false := hS2.g 0 (by omega); have xf7 : wz.frozen? ⟨w.heap.size, 7, none⟩ = false := hS2.g 1 (by omega); have xf8 : wz.frozen? ⟨w.heap.size, 8, none⟩ = false := hS2.g 2 (by omega); have xf9 : wz.frozen? ⟨w.heap.size, 9, none⟩ = false := hS2.g 3 (by omega); have xf10 : wz.frozen? ⟨w.heap.size, 10, none⟩ = false := hS2.g 4 (by omega); have xf11 : wz.frozen? ⟨w.heap.size, 11, none⟩ = false := hS2.g 5 (by omega)
        go_wp2_with fail
        refine (CM.out _).mono ?_
        rintro e w3 ⟨p', q', rfl, hSm, hb⟩
        clear x0 x1 x2 x3 x4 x5 x6 x7 x8 x9 x10 x11 xf0 xf1 xf2 xf3 xf4 xf5 xf6 xf7 xf8 xf9 xf10 xf11
        have hS3 := hS2.later hb
        have HU3 : Hid (Un d (c + hlC f g (j + 1)) w w3) := HU2.out.ahead hb
        have HSm2 : Hid (Sm p' q' (sumV (posV (hgX f g)) (j + 1)) (((j + 1 : Nat) : Int) * 9223372036854775808)) := hSm
        clear hb hS2 HU2 hSm CM
        have D5 := (hS3.allP (dg p')).allN (dg q')
        have HU5 : Hid (Un d (c + hlC f g (j + 1)) w _) := un6N (un6 HU3.out hd (Nat.le_refl _) (dg p')) hd (Nat.le_refl _) (dg q')
        have x0 : w3.cell? ⟨w.heap.size, 0, none⟩ = some (.int .u64 (dg p 0)) := hS3.c 0 (by omega); have x1 : w3.cell? ⟨w.heap.size, 1, none⟩ = some (.int .u64 (dg p 1)) := hS3.c 1 (by omega); have x2 : w3.cell? ⟨w.heap.size, 2, none⟩ = some (.int .u64 (dg p 2)) := hS3.c 2 (by omega); have x3 : w3.cell? ⟨w.heap.size, 3, none⟩ = some (.int .u64 (dg p 3)) := hS3.c 3 (by omega); have x4 : w3.cell? ⟨w.heap.size, 4, none⟩ = some (.int .u64 (dg p 4)) := hS3.c 4 (by omega); have x5 : w3.cell? ⟨w.heap.size, 5, none⟩ = some (.int .u64 (dg p 5)) := hS3.c 5 (by omega); have x6 : w3.cell? ⟨w.heap.size, 6, none⟩ = some (.int .u64 (dg q 0)) := hS3.d 0 (by omega); have x7 : w3.cell? ⟨w.heap.size, 7, none⟩ = some (.int .u64 (dg q 1)) := hS3.d 1 (by omega); have x8 : w3.cell? ⟨w.heap.size, 8, none⟩ = some (.int .u64 (dg q 2)) := hS3.d 2 (by omega); have x9 : w3.cell? ⟨w.heap.size, 9, none⟩ = some (.int .u64 (dg q 3)) := hS3.d 3 (by omega); have x10 : w3.cell? ⟨w.heap.size, 10, none⟩ = some (.int .u64 (dg q 4)) := hS3.d 4 (by omega); have x11 : w3.cell? ⟨w.heap.size, 11, none⟩ = some (.int .u64 (dg q 5)) := hS3.d 5 (by omega); have xf0 : w3.frozen? ⟨w.heap.size, 0, none⟩ = false := hS3.f 0 (by omega); have xf1 : w3.frozen? ⟨w.heap.size, 1, none⟩ = false := hS3.f 1 (by omega); have xf2 : w3.frozen? ⟨w.heap.size, 2, none⟩ = false := hS3.f 2 (by omega); have xf3 : w3.frozen? ⟨w.heap.size, 3, none⟩ = false := hS3.f 3 (by omega); have xf4 : w3.frozen? ⟨w.heap.size, 4, none⟩ = false := hS3.f 4 (by omega); have xf5 : w3.frozen? ⟨w.heap.size, 5, none⟩ = false := hS3.f 5 (by omega); have xf6 : w3.frozen? ⟨w.heap.size, 6, none⟩ = false := hS3.g 0 (by omega); have xf7 : w3.frozen? ⟨w.heap.size, 7, none⟩ = false := hS3.g 1 (by omega); have xf8 : w3.frozen? ⟨w.heap.size, 8, none⟩ = false := hS3.g 2 (by omega); have xf9 : w3.frozen? ⟨w.heap.size, 9, none⟩ = false := hS3.g 3 (by omega); have xf10 : w3.frozen? ⟨w.heap.size, 10, none⟩ = false := hS3.g 4 (by omega); have xf11 : w3.frozen? ⟨w.heap.size, 11, none⟩ = false := hS3.g 5 (by omega)
        clear hS3 HU3
        go_wp2
        go_roundw
        case rel => exact ⟨j + 1, p', q', by omega, by go_num, D5, HSm2, HU5⟩
        case measure => simp [intOf]; omega
      · have HSm2 : Hid (Sm p q (sumV (posV (hgX f g)) (j + 1)) (((j + 1 : Nat) : Int) * 9223372036854775808)) := by
          show Sm _ _ _ _
          rw [posV_neg _ _ hp]
          exact sm_mono HSm.out (by omega)
        have hS2 := HF.out.2
        have HU2 : Hid (Un d (c + hlC f g (j + 1)) w wz) := HF.out.1
        clear HF HSm
        go_wp2
        go_roundw
        case rel => exact ⟨j + 1, p, q, by omega, by go_num, hS2, HSm2, HU2⟩
        case measure => simp [intOf]; omega
    · obtain rfl : j = n := by omega
      have hjI : ¬ (j : Int) < (j : Int) := by omega
      have CE : Hid (∀ W : World, Calls Tryz.prog 72 #[.agg #[.int .u64 (dg (p) 0), .int .u64 (dg (p) 1), .int .u64 (dg (p) 2), .int .u64 (dg (p) 3), .int .u64 (dg (p) 4), .int .u64 (dg (p) 5), .int .u64 (dg (q) 0), .int .u64 (dg (q) 1), .int .u64 (dg (q) 2), .int .u64 (dg (q) 3), .int .u64 (dg (q) 4), .int .u64 (dg (q) 5)], .int .i64 0] W fun e w' => e = .returned (.tuple #[.int .i64 RX, .bool RO]) ∧ Below W.heap.size W w') := by
        intro W
        rw [← HR.out.1, ← HR.out.2]
        exact sround_of p q _ _ 0 (by omega) hSm.out (by omega) W
      have hcr := hlC_rng f g j
      have cR := hU.out.c
      have fR := hU.out.f
      clear hSm HR
      have x0 : wr.cell? ⟨w.heap.size, 0, none⟩ = some (.int .u64 (dg p 0)) := hS.c 0 (by omega); have x1 : wr.cell? ⟨w.heap.size, 1, none⟩ = some (.int .u64 (dg p 1)) := hS.c 1 (by omega); have x2 : wr.cell? ⟨w.heap.size, 2, none⟩ = some (.int .u64 (dg p 2)) := hS.c 2 (by omega); have x3 : wr.cell? ⟨w.heap.size, 3, none⟩ = some (.int .u64 (dg p 3)) := hS.c 3 (by omega); have x4 : wr.cell? ⟨w.heap.size, 4, none⟩ = some (.int .u64 (dg p 4)) := hS.c 4 (by omega); have x5 : wr.cell? ⟨w.heap.size, 5, none⟩ = some (.int .u64 (dg p 5)) := hS.c 5 (by omega); have x6 : wr.cell? ⟨w.heap.size, 6, none⟩ = some (.int .u64 (dg q 0)) := hS.d 0 (by omega); have x7 : wr.cell? ⟨w.heap.size, 7, none⟩ = some (.int .u64 (dg q 1)) := hS.d 1 (by omega); have x8 : wr.cell? ⟨w.heap.size, 8, none⟩ = some (.int .u64 (dg q 2)) := hS.d 2 (by omega); have x9 : wr.cell? ⟨w.heap.size, 9, none⟩ = some (.int .u64 (dg q 3)) := hS.d 3 (by omega); have x10 : wr.cell? ⟨w.heap.size, 10, none⟩ = some (.int .u64 (dg q 4)) := hS.d 4 (by omega); have x11 : wr.cell? ⟨w.heap.size, 11, none⟩ = some (.int .u64 (dg q 5)) := hS.d 5 (by omega); have xf0 : wr.frozen? ⟨w.heap.size, 0, none⟩ = false := hS.f 0 (by omega); have xf1 : wr.frozen? ⟨w.heap.size, 1, none⟩ = false := hS.f 1 (by omega); have xf2 : wr.frozen? ⟨w.heap.size, 2, none⟩ = false := hS.f 2 (by omega); have xf3 : wr.frozen? ⟨w.heap.size, 3, none⟩ = false := hS.f 3 (by omega); have xf4 : wr.frozen? ⟨w.heap.size, 4, none⟩ = false := hS.f 4 (by omega); have xf5 : wr.frozen? ⟨w.heap.size, 5, none⟩ = false := hS.f 5 (by omega); have xf6 : wr.frozen? ⟨w.heap.size, 6, none⟩ = false := hS.g 0 (by omega); have xf7 : wr.frozen? ⟨w.heap.size, 7, none⟩ = false := hS.g 1 (by omega); have xf8 : wr.frozen? ⟨w.heap.size, 8, none⟩ = false := hS.g 2 (by omega); have xf9 : wr.frozen? ⟨w.heap.size, 9, none⟩ = false := hS.g 3 (by omega); have xf10 : wr.frozen? ⟨w.heap.size, 10, none⟩ = false := hS.g 4 (by omega); have xf11 : wr.frozen? ⟨w.heap.size, 11, none⟩ = false := hS.g 5 (by omega)
      clear hS
      go_wp2_with fail
      refine (CE.out _).mono ?_
      rintro e w2 ⟨rfl, hb⟩
      clear x0 x1 x2 x3 x4 x5 x6 x7 x8 x9 x10 x11 xf0 xf1 xf2 xf3 xf4 xf5 xf6 xf7 xf8 xf9 xf10 xf11
      have HU2 := hU.out.ahead hb
      have HU3 : Hid (Un d (c + LP) w w2) := by have h := HU2; rw [hLP.out] at h; exact h
      clear HU2 hb cR fR CE hU
      have c2 := HU3.out.c
      have f2 := HU3.out.f
      have hLr : 0 ≤ LP ∧ LP ≤ 200000 := by rw [← hLP.out]; omega
      clear hcr hLP
      go_wp2_with fail
      refine (utake_any d (c + LP) RX RO (by omega) (by omega) _ c2 f2).mono ?_
      rintro e w3 ⟨rfl, hU3⟩
      have U4 : Hid (Un d (c + (LP + bi RO)) w w3) := by show Un _ _ _ _; rw [← Int.add_assoc]; exact HU3.out.chain hU3
      clear hU3 c2 f2 HU3
      go_wp2
      go_ret
      exact ⟨rfl, U4.out⟩
end Go.Proofs.YtcaficenocblfaaGreatDoor
set_option linter.unusedVariables false
set_option linter.unusedSimpArgs false
namespace Go.Proofs.YtcaficenocblfaaGreatDoor
open Go.RowKit

theorem wt_rng (z : Nat → Nat) (l u i : Nat) (hu : u < z (l + 1)) (hi : i < z l) : fsN z l ≤ wtN z l u i ∧ wtN z l u i < fsN z l + z l * z (l + 1) := by
  have h : (u + 1) * z l ≤ z (l + 1) * z l := Nat.mul_le_mul_right _ hu
  rw [Nat.succ_mul, Nat.mul_comm (z (l + 1))] at h
  unfold wtN
  omega
theorem of_rng (z : Nat → Nat) (l u : Nat) (hu : u < z (l + 1)) : fsN z l + z l * z (l + 1) ≤ ofN z l u ∧ ofN z l u < fsN z (l + 1) := ⟨by unfold ofN; omega, ofN_lt z l u hu⟩
theorem wt_inj (z : Nat → Nat) (l u i u' i' : Nat) (hi : i < z l) (hi' : i' < z l) (h : wtN z l u i = wtN z l u' i') : u = u' ∧ i = i' := by
  unfold wtN at h
  have e : u * z l + i = u' * z l + i' := by omega
  have h1 : (u * z l + i) / z l = u := by rw [Nat.mul_comm, Nat.mul_add_div (by omega), Nat.div_eq_of_lt hi, Nat.add_zero]
  have h2 : (u' * z l + i') / z l = u' := by rw [Nat.mul_comm, Nat.mul_add_div (by omega), Nat.div_eq_of_lt hi', Nat.add_zero]
  rw [e, h2] at h1
  subst h1
  exact ⟨rfl, by omega⟩
def upd (F : Nat → Int) (j : Nat) (v : Int) (k : Nat) : Int := if k = j then v else F k
theorem upd_ne {F : Nat → Int} {j k : Nat} {v : Int} (h : k ≠ j) : upd F j v k = F k := by unfold upd; rw [if_neg h]
theorem upd_eq (F : Nat → Int) (j : Nat) (v : Int) : upd F j v j = v := by unfold upd; rw [if_pos rfl]
def GrL (z : Nat → Nat) (m : Nat) (V S : Nat → Nat → Int) (l : Nat) (F : Nat → Int) : Prop := ∀ l', l ≤ l' → l' + 1 < m → ∀ u, u < z (l' + 1) → (∀ i, i < z l' → F (wtN z l' u i) = gwX (S l') (V l') u i) ∧ F (ofN z l' u) = S l' u
def GrR (z : Nat → Nat) (V S : Nat → Nat → Int) (l n : Nat) (F : Nat → Int) : Prop := ∀ u, u < n → (∀ i, i < z l → F (wtN z l u i) = gwX (S l) (V l) u i) ∧ F (ofN z l u) = S l u
def GrC (z : Nat → Nat) (V S : Nat → Nat → Int) (l n i : Nat) (F : Nat → Int) : Prop := ∀ i', i' < i → F (wtN z l n i') = gwX (S l) (V l) n i'
theorem grL_all {z : Nat → Nat} {m : Nat} {V S : Nat → Nat → Int} {F : Nat → Int} (h : GrL z m V S 0 F) : Grd z m V S F := fun l hl u hu => h l (Nat.zero_le _) hl u hu
theorem grL_none (z : Nat → Nat) (m : Nat) (V S : Nat → Nat → Int) (F : Nat → Int) (l : Nat) (hl : m ≤ l + 1) : GrL z m V S l F := fun l' h1 h2 => by omega
theorem grL_set {z : Nat → Nat} {m : Nat} {V S : Nat → Nat → Int} {F : Nat → Int} {l j : Nat} {v : Int} (h : GrL z m V S (l + 1) F) (hj : j < fsN z (l + 1)) : GrL z m V S (l + 1) (upd F j v) := fun l' h1 h2 u hu => by
  have hm := fsN_mono z h1
  refine ⟨fun i hi => ?_, ?_⟩
  · have := (wt_rng z l' u i hu hi).1
    rw [upd_ne (by omega)]
    exact (h l' h1 h2 u hu).1 i hi
  · have := (of_rng z l' u hu).1
    rw [upd_ne (by omega)]
    exact (h l' h1 h2 u hu).2
theorem grR_setW {z : Nat → Nat} {V S : Nat → Nat → Int} {F : Nat → Int} {l n i : Nat} {v : Int} (h : GrR z V S l n F) (hn : n < z (l + 1)) (hi : i < z l) : GrR z V S l n (upd F (wtN z l n i) v) := fun u hu => by
  refine ⟨fun i' hi' => ?_, ?_⟩
  · rw [upd_ne (fun e => by have := (wt_inj z l u i' n i hi' hi e).1; omega)]
    exact (h u hu).1 i' hi'
  · have h1 := (of_rng z l u (by omega)).1
    have h2 := (wt_rng z l n i hn hi).2
    rw [upd_ne (by omega)]
    exact (h u hu).2
theorem grC_setW {z : Nat → Nat} {V S : Nat → Nat → Int} {F : Nat → Int} {l n i : Nat} (h : GrC z V S l n i F) (hi : i < z l) : GrC z V S l n (i + 1) (upd F (wtN z l n i) (gwX (S l) (V l) n i)) := fun i' hi' => by
  by_cases e : i' = i
  · rw [e, upd_eq]
  · rw [upd_ne (fun e2 => e (wt_inj z l n i' n i (by omega) hi e2).2)]
    exact h i' (by omega)
theorem grR_setO {z : Nat → Nat} {V S : Nat → Nat → Int} {F : Nat → Int} {l n : Nat} (h : GrR z V S l n F) (hc : GrC z V S l n (z l) F) (hn : n < z (l + 1)) : GrR z V S l (n + 1) (upd F (ofN z l n) (S l n)) := fun u hu => by
  have h0 := (of_rng z l n hn).1
  rcases Nat.lt_or_ge u n with h1 | h1
  · refine ⟨fun i hi => ?_, ?_⟩
    · have := (wt_rng z l u i (by omega) hi).2
      rw [upd_ne (by omega)]
      exact (h u h1).1 i hi
    · rw [upd_ne (by unfold ofN; omega)]
      exact (h u h1).2
  · obtain rfl : u = n := by omega
    refine ⟨fun i hi => ?_, by rw [upd_eq]⟩
    have := (wt_rng z l u i hn hi).2
    rw [upd_ne (by omega)]
    exact hc i hi
theorem grL_row {z : Nat → Nat} {m : Nat} {V S : Nat → Nat → Int} {F : Nat → Int} {l : Nat} (h : GrL z m V S (l + 1) F) (hr : GrR z V S l (z (l + 1)) F) : GrL z m V S l F := fun l' h1 h2 => by
  rcases Nat.lt_or_ge l l' with h3 | h3
  · exact h l' h3 h2
  · obtain rfl : l' = l := by omega
    exact hr
theorem grC_rng (s v : Nat → Int) (n u : Nat) (hn : n ≤ 64) : 0 ≤ grC s v n u ∧ grC s v n u ≤ 64 * (u : Int) := by
  induction u with
  | zero => exact ⟨Int.le_refl _, Int.le_refl _⟩
  | succ u ih =>
    have h := cnt_rng (gwO s v u) n
    show 0 ≤ grC s v n u + cntV (gwO s v u) n ∧ grC s v n u + cntV (gwO s v u) n ≤ _
    omega
theorem bkC_rng (z : Nat → Nat) (m : Nat) (p : Nat → Int) (V S : Nat → Nat → Int) (k : Nat) (hz : ∀ i, i < m → z i ≤ 64) (hk : k + 1 ≤ m) : 0 ≤ bkC z m p V S k ∧ bkC z m p V S k ≤ 4160 * (k : Int) := by
  induction k with
  | zero => exact ⟨Int.le_refl _, Int.le_refl _⟩
  | succ k ih =>
    have h0 := ih (by omega)
    have hz1 := hz (m - 2 - k) (by omega)
    have hz2 := hz (m - 1 - k) (by omega)
    have h1 := grC_rng (S (m - 2 - k)) (V (m - 2 - k)) (z (m - 2 - k)) (z (m - 1 - k)) hz1
    have h2 := cnt_rng (ahO z p (S (m - 2 - k)) (V (m - 2 - k)) (m - 2 - k)) (z (m - 2 - k))
    show 0 ≤ bkC z m p V S k + grC (S (m - 2 - k)) (V (m - 2 - k)) (z (m - 2 - k)) (z (m - 1 - k)) + (if m - 2 - k = 0 then 0 else cntV (ahO z p (S (m - 2 - k)) (V (m - 2 - k)) (m - 2 - k)) (z (m - 2 - k))) ∧ _ + _ + _ ≤ _
    split <;> omega
theorem lsC_rng (s : Bool) (y t : Nat → Int) (n : Nat) : 0 ≤ lsC s y t n ∧ lsC s y t n ≤ 2 * (n : Int) + 1 := by
  have h1 := cnt_rng (dsO y t) n
  have h2 := cnt_rng (mpO y t) n
  have h3 := cnt_rng (hgO y t) n
  have h4 := bi_rng (ovv (lsS s y t n))
  unfold lsC lsP
  split <;> omega
theorem slC_rng (s : Bool) (y t : Nat → Int) (n : Nat) : 0 ≤ slC s y t n ∧ slC s y t n ≤ 3 * (n : Int) := by
  have h1 := cnt_rng (dsO y t) n
  have h2 := cnt_rng (mpO y t) n
  have h3 := cnt_rng (hgO y t) n
  have h4 := cnt_rng (slO y t) n
  unfold slC
  split <;> omega
def lsK (s : Bool) : Int := if s = true then 1 else 2
theorem loss_any (s : Bool) (va vb : Value) (n : Nat) (f g : Nat → Int) (d : Nat) (c : Int) (hn : n ≤ 70000) (c0 : 0 ≤ c) (c1 : c ≤ 900000000) (w : World) (hA : Ar w va n f) (hB : Ar w vb n g) (nA : Nb va d) (nB : Nb vb d) (hc : w.cell? ⟨d, 0, none⟩ = some (.int .i64 c)) (hf : w.frozen? ⟨d, 0, none⟩ = false) :
    Calls Tryz.prog 43 #[.pointer (some ⟨d, 0, none⟩), .int .i64 (lsK s), va, vb] w fun e w' => e = .returned (.int .i64 (lsX s f g n)) ∧ Un d (c + lsC s f g n) w w' := by
  cases s
  · exact loss_hg va vb n f g d c hn c0 c1 w hA hB nA nB hc hf
  · exact loss_sq va vb n f g d c hn c0 c1 w hA hB nA nB hc hf
theorem slope_any (s : Bool) (va vb : Value) (n : Nat) (f g : Nat → Int) (d : Nat) (c : Int) (hn : n ≤ 70000) (c0 : 0 ≤ c) (c1 : c ≤ 900000000) (w : World) (hA : Ar w va n f) (hB : Ar w vb n g) (nA : Nb va d) (nB : Nb vb d) (hc : w.cell? ⟨d, 0, none⟩ = some (.int .i64 c)) (hf : w.frozen? ⟨d, 0, none⟩ = false) :
    Calls Tryz.prog 44 #[.pointer (some ⟨d, 0, none⟩), .int .i64 (lsK s), va, vb] w fun e w' => ∃ v', e = .returned v' ∧ Ar w' v' n (slX s f g) ∧ Ow w.heap.size v' ∧ Un d (c + slC s f g n) w w' := by
  cases s
  · exact slope_hg va vb n f g d c hn c0 c1 w hA hB nA nB hc hf
  · exact slope_sq va vb n f g d c hn c0 c1 w hA hB nA nB hc hf
theorem Ar.put {w : World} {v : Value} {n : Nat} {f : Nat → Int} (h : Ar w v n f) {p : Addr} (hN : Nb v p.block) (u : Value) : Ar (w.setCell p u) v n f := by
  refine h.stay (fun a n' cap e hn => Below.heap_setCell _ _ _ _ ?_)
  exact hN a n' cap e hn
end Go.Proofs.YtcaficenocblfaaGreatDoor
