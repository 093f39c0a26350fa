/-
  The contracts of sched: rates and powers.
-/
import Derived.Test.YtcdehbhdloaieaaGreatDoorQWalkA
set_option linter.unusedVariables false
set_option linter.unusedSimpArgs false
namespace Go.Proofs.YtcdehbhdloaieaaGreatDoor
open Go.RowKit

set_option maxRecDepth 100000 in
set_option maxHeartbeats 4000000 in
theorem checkRates_yes (B W : Int) (v : Value) (n : Nat) (at' fa : Nat → Int) (w : World) (hA : Drp w v n at' fa) (h : RO B W n at' fa) :
    Calls Tryz.prog 59 #[.agg #[.int .i64 B, .int .i64 W, v]] w fun e w' => e = .returned (.int .i64 0) ∧ Below w.heap.size w w' := by
  have CD : Hid (∀ W' : World, Below w.heap.size w W' → Calls Tryz.prog 91 #[v] W' fun e w' => e = .returned (.bool true) ∧ Below W'.heap.size W' w') := fun W' hb => (rightDrops_any v n at' fa W' (hA.later hb)).mono (fun e w' h' => ⟨h'.1.yes h.2.2.2, h'.2⟩)
  have CW : Hid (∀ W' : World, Calls Tryz.prog 61 #[.int .i64 W, .int .i64 0, .int .i64 1048576] W' fun e w' => e = .returned (.bool true) ∧ w' = W') := fun W' => by
    have h' := within_any W 0 1048576 W'
    rw [wiB_yes ⟨h.2.1, h.2.2.1⟩] at h'
    exact h'
  have hB : ¬ B < 0 := by have := h.1; omega
  obtain ⟨adr, cap, b, o, rfl, k1, k2, -, -⟩ := hA
  clear h
  obtain ⟨w1, hw1⟩ : ∃ w1, w1 = w.alloc (.cells #[.int .i64 B, .int .i64 W, .slice adr n cap] 25) := ⟨_, rfl⟩
  have HB1 : Hid (Below w.heap.size w w1) := by rw [hw1]; exact bel1 _ _
  have HQ := Q3.new w (.int .i64 B) (.int .i64 W) (.slice adr n cap) 25
  rw [← hw1] at HQ
  go_enter Tryz.func59, Tryz.ntmps59
  go_upto_region 1 with fail
  rw [← hw1]
  clear hw1
  have x0 := HQ.c0
  have x1 := HQ.c1
  have x2 := HQ.c2
  go_wp2_with (first
    | (go_at_call 61; refine (CW.out _).mono ?_; rintro e wz ⟨rfl, hz⟩; subst hz)
    | (go_at_call 91; refine (CD.out _ HB1.out).mono ?_; rintro e wz ⟨rfl, hb⟩; have HB2 : Hid (Below w.heap.size w wz) := bchain HB1.out hb; clear hb HQ x0 x1 x2))
  go_ret
  exact ⟨rfl, HB2.out⟩
set_option maxRecDepth 100000 in
set_option maxHeartbeats 4000000 in
theorem checkRates_no (B W : Int) (v : Value) (n : Nat) (at' fa : Nat → Int) (w : World) (hA : Drp w v n at' fa) (h : ¬ RO B W n at' fa) :
    Calls Tryz.prog 59 #[.agg #[.int .i64 B, .int .i64 W, v]] w fun e w' => e = .returned (.int .i64 80) ∧ Below w.heap.size w w' := by
  have CD : Hid (∀ W' : World, Below w.heap.size w W' → ¬ RD n at' fa → Calls Tryz.prog 91 #[v] W' fun e w' => e = .returned (.bool false) ∧ Below W'.heap.size W' w') := fun W' hb hn => (rightDrops_any v n at' fa W' (hA.later hb)).mono (fun e w' h' => ⟨h'.1.no hn, h'.2⟩)
  have CW : Hid (∀ W' : World, Calls Tryz.prog 61 #[.int .i64 W, .int .i64 0, .int .i64 1048576] W' fun e w' => e = .returned (.bool (wiB W 0 1048576)) ∧ w' = W') := fun W' => within_any W 0 1048576 W'
  have HN : Hid (0 ≤ B → 0 ≤ W → W ≤ 1048576 → ¬ RD n at' fa) := fun a b c d => h ⟨a, b, c, d⟩
  obtain ⟨adr, cap, b, o, rfl, k1, k2, -, -⟩ := hA
  clear h
  obtain ⟨w1, hw1⟩ : ∃ w1, w1 = w.alloc (.cells #[.int .i64 B, .int .i64 W, .slice adr n cap] 25) := ⟨_, rfl⟩
  have HB1 : Hid (Below w.heap.size w w1) := by rw [hw1]; exact bel1 _ _
  have HQ := Q3.new w (.int .i64 B) (.int .i64 W) (.slice adr n cap) 25
  rw [← hw1] at HQ
  go_enter Tryz.func59, Tryz.ntmps59
  go_upto_region 1 with fail
  rw [← hw1]
  clear hw1
  have x0 := HQ.c0
  have x1 := HQ.c1
  have x2 := HQ.c2
  by_cases hB : B < 0
  · clear CD CW HN
    go_wp2
    go_ret
    exact ⟨rfl, HB1.out⟩
  by_cases hW : 0 ≤ W ∧ W ≤ 1048576
  · rw [wiB_yes hW] at CW
    have HN2 : Hid (¬ RD n at' fa) := HN.out (by omega) hW.1 hW.2
    clear HN hW
    go_wp2_with (first
      | (go_at_call 61; refine (CW.out _).mono ?_; rintro e wz ⟨rfl, hz⟩; subst hz)
      | (go_at_call 91; refine (CD.out _ HB1.out HN2.out).mono ?_; rintro e wz ⟨rfl, hb⟩; have HB2 : Hid (Below w.heap.size w wz) := bchain HB1.out hb; clear hb HQ x0 x1 x2))
    go_ret
    exact ⟨rfl, HB2.out⟩
  · rw [wiB_no hW] at CW
    clear HN hW CD
    go_wp2_with (go_at_call 61; refine (CW.out _).mono ?_; rintro e wz ⟨rfl, hz⟩; subst hz)
    go_ret
    exact ⟨rfl, HB1.out⟩
set_option maxRecDepth 100000 in
set_option maxHeartbeats 4000000 in
theorem dropped_any (x : Int) (v : Value) (n : Nat) (at' fa : Nat → Int) (t : Int) (w : World) (hA : Drp w v n at' fa) (hR : RD n at' fa) (x0 : 0 ≤ x) (x1 : x ≤ 9223372036854775807) :
    Calls Tryz.prog 63 #[.int .i64 x, v, .int .i64 t] w fun e w' => e = .returned (.int .i64 (drN x at' fa t n)) ∧ Below w.heap.size w w' := by
  obtain ⟨adr, cap, b, o, rfl, k1, k2, k3, k4⟩ := hA
  unfold maxLen at k2
  have HC : Hid (∀ k, k < n → w.cell? ⟨b, o + k * 2, none⟩ = some (.int .i64 (at' k)) ∧ w.cell? ⟨b, o + k * 2 + 1, none⟩ = some (.int .i64 (fa k))) := fun k hk => (k4 k hk).1
  have HK : Hid (0 < n → adr = some ⟨b, o, none⟩) := k3
  have HR : Hid (RD n at' fa) := hR
  have HX : Hid (0 ≤ x ∧ x ≤ 9223372036854775807) := ⟨x0, x1⟩
  have hn : n ≤ 16 := hR.1
  clear k3 k4 hR x0 x1
  go_enter Tryz.func63, Tryz.ntmps63
  go_wp2
  go_loopw [0, 11] (fun s0 si wr => ∃ (j : Nat) (y : Int), j ≤ n ∧ si = .int .i64 (j : Int) ∧ s0 = .int .i64 y ∧ Hid (y = drN x at' fa t j) ∧ Hid (Below w.heap.size w wr)) (fun _ si _ => n - (intOf si).toNat)
  case atStart => exact ⟨0, x, by omega, rfl, rfl, rfl, Below.refl _ _⟩
  case round =>
    obtain ⟨j, y, hj, rfl, rfl, HY, HW⟩ := hrel
    by_cases hlt : j < n
    · have hjI : (j : Int) < (n : Int) := by omega
      have ea := HK.out (by omega)
      subst ea
      have c0 := cell_later HW.out (HC.out j hlt).1
      have c1 := cell_later HW.out (HC.out j hlt).2
      have HB2 : Hid (Below w.heap.size w (wr.alloc (.cells #[.int .i64 (at' j), .int .i64 (fa j)] 78))) := bchain HW.out (bel1 _ _)
      have HF := (HR.out.2 j hlt).1
      have hx := HX.out
      have HY1 := drN_in x t HR.out hx.1 hx.2 j (by omega)
      rw [← HY.out] at HY1
      have CM : Hid (∀ W' : World, Calls Tryz.prog 78 #[.int .i64 y, .int .i64 (fa j)] W' fun e w' => e = .returned (.tuple #[.int .i64 (fmV y (fa j)), .bool (ovv (rnd (y * fa j) 32))]) ∧ Below W'.heap.size W' w') := fun W' => fmul_any y (fa j) (by omega) (by omega) (by omega) (by omega) W'
      have HS1 : Hid (at' j ≤ t → fmV y (fa j) = drN x at' fa t (j + 1)) := fun h => by
        show _ = (if at' j ≤ t then fmV (drN x at' fa t j) (fa j) else drN x at' fa t j)
        rw [if_pos h, HY.out]
      have HS2 : Hid (t < at' j → y = drN x at' fa t n) := fun h => by rw [HY.out]; exact drN_stay' x t HR.out j hlt h
      clear HY HF HY1 hx
      generalize fmV y (fa j) = z at *
      generalize ovv (rnd (y * fa j) 32) = ob at *
      generalize fa j = f at *
      generalize at' j = a at *
      by_cases ha : t < a
      · have HE := HS2.out ha
        clear HS1 HS2 CM
        go_wp2
        go_ret
        exact ⟨by rw [← HE]; rfl, HB2.out⟩
      · have HE : Hid (z = drN x at' fa t (j + 1)) := HS1.out (by omega)
        clear HS1 HS2
        go_wp2_with (go_at_call 78; refine (CM.out _).mono ?_; rintro e wz ⟨rfl, hb⟩; have HB3 : Hid (Below w.heap.size w wz) := bchain HB2.out hb; clear hb)
        go_roundw
        case rel => exact ⟨j + 1, z, by omega, by go_num, rfl, HE, HB3⟩
        case measure => simp [intOf]; omega
    · obtain rfl : j = n := by omega
      have hjI : ¬ (j : Int) < (j : Int) := by omega
      have HE : Hid (drN x at' fa t j = y) := HY.out.symm
      clear HY
      go_wp2
      go_ret
      exact ⟨by rw [HE.out]; rfl, HW.out⟩
set_option maxRecDepth 100000 in
set_option maxHeartbeats 4000000 in
theorem warm_any (B W : Int) (v : Value) (t : Int) (w : World) (adr : Option Addr) (n cap : Nat) (hv : v = .slice adr n cap) (B0 : 0 ≤ B) (B1 : B ≤ 9223372036854775807) (t0 : 1 ≤ t) (tW : t ≤ W) (W1 : W ≤ 1048576) :
    Calls Tryz.prog 62 #[.agg #[.int .i64 B, .int .i64 W, v], .int .i64 t] w fun e w' => e = .returned (.int .i64 (wmV B W t)) ∧ Below w.heap.size w w' := by
  subst hv
  have HV : 0 ≤ B * t ∧ B * t ≤ 9223372036854775807 * 1048576 := ⟨Int.mul_nonneg B0 (by omega), Int.mul_le_mul B1 (by omega) (by omega) (by omega)⟩
  have CM : Hid (∀ W' : World, Calls Tryz.prog 74 #[.int .i64 B, .int .i64 t] W' fun e w' => e = .returned (.agg #[.int .i64 (hi (B * t)), .int .u64 (lo (B * t))]) ∧ Below W'.heap.size W' w') := fun W' => mul_any B t (by omega) (by omega) (by omega) (by omega) W'
  have CQ : Hid (∀ W' : World, Calls Tryz.prog 92 #[.agg #[.int .i64 (hi (B * t)), .int .u64 (lo (B * t))], .int .i64 W] W' fun e w' => e = .returned (.tuple #[.agg #[.int .i64 (hi (wmV B W t)), .int .u64 (lo (wmV B W t))], .bool true]) ∧ Below W'.heap.size W' w') := fun W' => quo_any (B * t) W (by omega) (by omega) (by omega) (by omega) (by omega) W'
  have HQ := wmV_in B W t B0 t0 tW
  have hc : IntKind.i64.wrap (lo (wmV B W t)) = wmV B W t := by
    rw [IntKind.wrap_i64]
    unfold lo
    omega
  generalize wmV B W t = q at *
  generalize lo q = lq at *
  generalize hi q = hq at *
  generalize lo (B * t) = lm at *
  generalize hi (B * t) = hm at *
  clear HV HQ
  obtain ⟨w1, hw1⟩ : ∃ w1, w1 = w.alloc (.cells #[.int .i64 B, .int .i64 W, .slice adr n cap] 25) := ⟨_, rfl⟩
  have HB1 : Hid (Below w.heap.size w w1) := by rw [hw1]; exact bel1 _ _
  have HQ := Q3.new w (.int .i64 B) (.int .i64 W) (.slice adr n cap) 25
  rw [← hw1] at HQ
  go_enter Tryz.func62, Tryz.ntmps62
  go_upto_region 1 with fail
  rw [← hw1]
  clear hw1
  have hbD : Below w1.heap.size w1 w1.drew := (Below.refl _ _).drew
  have CWl : Hid (Below w.heap.size w w1.drew) := bchain HB1.out hbD
  refine wp_region_held_drew (S := fun w' => w'.cell? ⟨w.heap.size, 0, none⟩ = some (.int .i64 B) ∧ w'.cell? ⟨w.heap.size, 1, none⟩ = some (.int .i64 W)) (by kernel_rfl) ⟨cell_drew HQ.c0, cell_drew HQ.c1⟩ (fun HS => ?_)
  clear hbD HQ HB1
  generalize w1.drew = w2 at *
  refine wpAnyH_take (i := 0) (v := ?v1) rfl (by kernel_rfl) (by kernel_rfl) (by kernel_rfl) (fun _ _ _ h => h) (Or.inl ⟨by kernel_rfl, ?h1⟩) HS ?r1
  case h1 => (rintro w ⟨s0, s1⟩; go_simp) <;> with_reducible rfl
  try simp only [Act.put, List.getElem_toArray, List.getElem_cons_succ, List.getElem_cons_zero, List.setIfInBounds_toArray, List.set_cons_zero, List.set_cons_succ]
  refine wpAnyH_take (i := 1) (v := ?v2) rfl (by kernel_rfl) (by kernel_rfl) (by kernel_rfl) (fun _ _ _ h => h) (Or.inl ⟨by kernel_rfl, ?h2⟩) HS ?r2
  case h2 => (rintro w ⟨s0, s1⟩; go_simp) <;> with_reducible rfl
  try simp only [Act.put, List.getElem_toArray, List.getElem_cons_succ, List.getElem_cons_zero, List.setIfInBounds_toArray, List.set_cons_zero, List.set_cons_succ]
  refine wpAnyH_take (i := 2) (v := ?v3) rfl (by kernel_rfl) (by kernel_rfl) (by kernel_rfl) (fun _ _ _ h => h) (Or.inl ⟨by kernel_rfl, ?h3⟩) HS ?r3
  case h3 => (rintro w ⟨s0, s1⟩; go_simp) <;> with_reducible rfl
  try simp only [Act.put, List.getElem_toArray, List.getElem_cons_succ, List.getElem_cons_zero, List.setIfInBounds_toArray, List.set_cons_zero, List.set_cons_succ]
  refine wpAnyH_take (i := 4) (v := ?v4) rfl (by kernel_rfl) (by kernel_rfl) (by kernel_rfl) (fun _ _ _ h => h) (Or.inl ⟨by kernel_rfl, ?h4⟩) HS ?r4
  case h4 => (rintro w ⟨s0, s1⟩; go_simp) <;> with_reducible rfl
  try simp only [Act.put, List.getElem_toArray, List.getElem_cons_succ, List.getElem_cons_zero, List.setIfInBounds_toArray, List.set_cons_zero, List.set_cons_succ]
  refine wpAnyH_take (i := 5) (v := ?v5) rfl (by kernel_rfl) (by kernel_rfl) (by kernel_rfl) (fun _ _ _ h => h) (Or.inl ⟨by kernel_rfl, ?h5⟩) HS ?r5
  case h5 => (rintro w ⟨s0, s1⟩; go_simp) <;> with_reducible rfl
  try simp only [Act.put, List.getElem_toArray, List.getElem_cons_succ, List.getElem_cons_zero, List.setIfInBounds_toArray, List.set_cons_zero, List.set_cons_succ]
  have HSp := HS
  refine wpAnyH_ready (rs := [3, 10]) (by kernel_rfl) (by simp) ?_
  refine AllReadyH.cons rfl (fun K hK => ?_) (AllReadyH.cons rfl (fun K hK => ?_) AllReadyH.nil)
  · go_simp
    refine (CM.out _).mono ?_
    rintro e w4 ⟨rfl, hb⟩
    refine hK.out _ _ ⟨cell_later hb HS.1, cell_later hb HS.2⟩ (fun HS => ?_)
    clear hK K
    replace CWl := hidD CWl hb
    clear hb
    have HSp := HS
    refine wpAnyH_ready (rs := [6, 10]) (by kernel_rfl) (by simp) ?_
    refine AllReadyH.cons rfl (fun K hK => ?_) (AllReadyH.cons rfl (fun K hK => ?_) AllReadyH.nil)
    · go_simp
      refine (CQ.out _).mono ?_
      rintro e w5 ⟨rfl, hb⟩
      refine hK.out _ _ ⟨cell_later hb HS.1, cell_later hb HS.2⟩ (fun HS => ?_)
      clear hK K
      replace CWl := hidD CWl hb
      clear hb
      refine wpAnyH_take (i := 7) (v := ?v6) rfl (by kernel_rfl) (by kernel_rfl) (by kernel_rfl) (fun _ _ _ h => h) (Or.inl ⟨by kernel_rfl, ?h6⟩) HS ?r6
      case h6 => (rintro w ⟨s0, s1⟩; go_simp) <;> with_reducible rfl
      try simp only [Act.put, List.getElem_toArray, List.getElem_cons_succ, List.getElem_cons_zero, List.setIfInBounds_toArray, List.set_cons_zero, List.set_cons_succ]
      refine wpAnyH_take (i := 8) (v := ?v7) rfl (by kernel_rfl) (by kernel_rfl) (by kernel_rfl) (fun _ _ _ h => h) (Or.inl ⟨by kernel_rfl, ?h7⟩) HS ?r7
      case h7 => (rintro w ⟨s0, s1⟩; go_simp) <;> with_reducible rfl
      try simp only [Act.put, List.getElem_toArray, List.getElem_cons_succ, List.getElem_cons_zero, List.setIfInBounds_toArray, List.set_cons_zero, List.set_cons_succ]
      refine wpAnyH_take (i := 9) (v := ?v8) rfl (by kernel_rfl) (by kernel_rfl) (by kernel_rfl) (fun _ _ _ h => h) (Or.inl ⟨by kernel_rfl, ?h8⟩) HS ?r8
      case h8 => (rintro w ⟨s0, s1⟩; go_simp) <;> with_reducible rfl
      try simp only [Act.put, List.getElem_toArray, List.getElem_cons_succ, List.getElem_cons_zero, List.setIfInBounds_toArray, List.set_cons_zero, List.set_cons_succ]
      have HSp := HS
      refine wpAnyH_ready (rs := [10]) (by kernel_rfl) (by simp) ?_
      refine AllReadyH.cons rfl (fun K hK => ?_) AllReadyH.nil
      go_simp
      refine hK.out _ _ ⟨cell_later (bel1 _ _) HS.1, cell_later (bel1 _ _) HS.2⟩ (fun HS => ?_)
      clear hK K
      have Y := Bx.new w5 (.int .i64 0) (.int .u64 0) 131
      have hgw : w.heap.size < w5.heap.size := World.block_lt_of_cell? _ _ HSp.1
      replace CWl := hidD CWl (bel1 w5 (.cells #[.int .i64 0, .int .u64 0] 131))
      generalize w5.alloc (.cells #[.int .i64 0, .int .u64 0] 131) = w6 at *
      generalize w5.heap.size = g at *
      have y0 := Y.c0
      have y1 := Y.c1
      have y2 := Y.f0
      have y3 := Y.f1
      refine wpAnyH_ready (rs := [11]) (by kernel_rfl) (by simp) ?_
      refine AllReadyH.cons rfl (fun K hK => ?_) AllReadyH.nil
      go_simp
      refine hK.out _ _ ⟨cell_set (by dsimp only; omega) (cell_set (by dsimp only; omega) HS.1), cell_set (by dsimp only; omega) (cell_set (by dsimp only; omega) HS.2)⟩ (fun HS => ?_)
      clear hK K
      refine wpAnyH_take (i := 12) (v := ?v9) rfl (by kernel_rfl) (by kernel_rfl) (by kernel_rfl) (fun _ _ _ h => h) (Or.inl ⟨by kernel_rfl, ?h9⟩) HS ?r9
      case h9 => (rintro w ⟨s0, s1⟩; go_simp) <;> with_reducible rfl
      try simp only [Act.put, List.getElem_toArray, List.getElem_cons_succ, List.getElem_cons_zero, List.setIfInBounds_toArray, List.set_cons_zero, List.set_cons_succ]
      refine wpAnyH_done (by kernel_rfl) ?_ _
      have z1 := (Y.set (.int .i64 hq) (.int .u64 lq)).c1
      have HZ : Hid (Below w.heap.size w ((w6.setCell ⟨g, 0, none⟩ (.int .i64 hq)).setCell ⟨g, 1, none⟩ (.int .u64 lq))) := (CWl.out.setCell (by dsimp only; omega) _).setCell (by dsimp only; omega) _
      clear CWl HS Y y0 y1 y2 y3
      generalize ((w6.setCell ⟨g, 0, none⟩ (.int .i64 hq)).setCell ⟨g, 1, none⟩ (.int .u64 lq)) = wf at *
      go_wp2
      go_ret
      exact ⟨rfl, HZ.out⟩
    · go_simp
      refine hK.out _ _ ⟨cell_later (bel1 _ _) HS.1, cell_later (bel1 _ _) HS.2⟩ (fun HS => ?_)
      clear hK K
      have Y := Bx.new w4 (.int .i64 0) (.int .u64 0) 131
      have hgw : w.heap.size < w4.heap.size := World.block_lt_of_cell? _ _ HSp.1
      replace CWl := hidD CWl (bel1 w4 (.cells #[.int .i64 0, .int .u64 0] 131))
      generalize w4.alloc (.cells #[.int .i64 0, .int .u64 0] 131) = w7 at *
      generalize w4.heap.size = g at *
      refine wpAnyH_ready (rs := [6]) (by kernel_rfl) (by simp) ?_
      refine AllReadyH.cons rfl (fun K hK => ?_) AllReadyH.nil
      go_simp
      refine (CQ.out _).mono ?_
      rintro e w8 ⟨rfl, hb⟩
      refine hK.out _ _ ⟨cell_later hb HS.1, cell_later hb HS.2⟩ (fun HS => ?_)
      clear hK K
      replace CWl := hidD CWl hb
      replace Y := Y.later hb
      clear hb
      refine wpAnyH_take (i := 7) (v := ?v10) rfl (by kernel_rfl) (by kernel_rfl) (by kernel_rfl) (fun _ _ _ h => h) (Or.inl ⟨by kernel_rfl, ?h10⟩) HS ?r10
      case h10 => (rintro w ⟨s0, s1⟩; go_simp) <;> with_reducible rfl
      try simp only [Act.put, List.getElem_toArray, List.getElem_cons_succ, List.getElem_cons_zero, List.setIfInBounds_toArray, List.set_cons_zero, List.set_cons_succ]
      refine wpAnyH_take (i := 8) (v := ?v11) rfl (by kernel_rfl) (by kernel_rfl) (by kernel_rfl) (fun _ _ _ h => h) (Or.inl ⟨by kernel_rfl, ?h11⟩) HS ?r11
      case h11 => (rintro w ⟨s0, s1⟩; go_simp) <;> with_reducible rfl
      try simp only [Act.put, List.getElem_toArray, List.getElem_cons_succ, List.getElem_cons_zero, List.setIfInBounds_toArray, List.set_cons_zero, List.set_cons_succ]
      refine wpAnyH_take (i := 9) (v := ?v12) rfl (by kernel_rfl) (by kernel_rfl) (by kernel_rfl) (fun _ _ _ h => h) (Or.inl ⟨by kernel_rfl, ?h12⟩) HS ?r12
      case h12 => (rintro w ⟨s0, s1⟩; go_simp) <;> with_reducible rfl
      try simp only [Act.put, List.getElem_toArray, List.getElem_cons_succ, List.getElem_cons_zero, List.setIfInBounds_toArray, List.set_cons_zero, List.set_cons_succ]
      have y0 := Y.c0
      have y1 := Y.c1
      have y2 := Y.f0
      have y3 := Y.f1
      refine wpAnyH_ready (rs := [11]) (by kernel_rfl) (by simp) ?_
      refine AllReadyH.cons rfl (fun K hK => ?_) AllReadyH.nil
      go_simp
      refine hK.out _ _ ⟨cell_set (by dsimp only; omega) (cell_set (by dsimp only; omega) HS.1), cell_set (by dsimp only; omega) (cell_set (by dsimp only; omega) HS.2)⟩ (fun HS => ?_)
      clear hK K
      refine wpAnyH_take (i := 12) (v := ?v13) rfl (by kernel_rfl) (by kernel_rfl) (by kernel_rfl) (fun _ _ _ h => h) (Or.inl ⟨by kernel_rfl, ?h13⟩) HS ?r13
      case h13 => (rintro w ⟨s0, s1⟩; go_simp) <;> with_reducible rfl
      try simp only [Act.put, List.getElem_toArray, List.getElem_cons_succ, List.getElem_cons_zero, List.setIfInBounds_toArray, List.set_cons_zero, List.set_cons_succ]
      refine wpAnyH_done (by kernel_rfl) ?_ _
      have z1 := (Y.set (.int .i64 hq) (.int .u64 lq)).c1
      have HZ : Hid (Below w.heap.size w ((w8.setCell ⟨g, 0, none⟩ (.int .i64 hq)).setCell ⟨g, 1, none⟩ (.int .u64 lq))) := (CWl.out.setCell (by dsimp only; omega) _).setCell (by dsimp only; omega) _
      clear CWl HS Y y0 y1 y2 y3
      generalize ((w8.setCell ⟨g, 0, none⟩ (.int .i64 hq)).setCell ⟨g, 1, none⟩ (.int .u64 lq)) = wf at *
      go_wp2
      go_ret
      exact ⟨rfl, HZ.out⟩
  · go_simp
    refine hK.out _ _ ⟨cell_later (bel1 _ _) HS.1, cell_later (bel1 _ _) HS.2⟩ (fun HS => ?_)
    clear hK K
    have Y := Bx.new w2 (.int .i64 0) (.int .u64 0) 131
    have hgw : w.heap.size < w2.heap.size := World.block_lt_of_cell? _ _ HSp.1
    replace CWl := hidD CWl (bel1 w2 (.cells #[.int .i64 0, .int .u64 0] 131))
    generalize w2.alloc (.cells #[.int .i64 0, .int .u64 0] 131) = w9 at *
    generalize w2.heap.size = g at *
    refine wpAnyH_ready (rs := [3]) (by kernel_rfl) (by simp) ?_
    refine AllReadyH.cons rfl (fun K hK => ?_) AllReadyH.nil
    go_simp
    refine (CM.out _).mono ?_
    rintro e w10 ⟨rfl, hb⟩
    refine hK.out _ _ ⟨cell_later hb HS.1, cell_later hb HS.2⟩ (fun HS => ?_)
    clear hK K
    replace CWl := hidD CWl hb
    replace Y := Y.later hb
    clear hb
    refine wpAnyH_ready (rs := [6]) (by kernel_rfl) (by simp) ?_
    refine AllReadyH.cons rfl (fun K hK => ?_) AllReadyH.nil
    go_simp
    refine (CQ.out _).mono ?_
    rintro e w11 ⟨rfl, hb⟩
    refine hK.out _ _ ⟨cell_later hb HS.1, cell_later hb HS.2⟩ (fun HS => ?_)
    clear hK K
    replace CWl := hidD CWl hb
    replace Y := Y.later hb
    clear hb
    refine wpAnyH_take (i := 7) (v := ?v14) rfl (by kernel_rfl) (by kernel_rfl) (by kernel_rfl) (fun _ _ _ h => h) (Or.inl ⟨by kernel_rfl, ?h14⟩) HS ?r14
    case h14 => (rintro w ⟨s0, s1⟩; go_simp) <;> with_reducible rfl
    try simp only [Act.put, List.getElem_toArray, List.getElem_cons_succ, List.getElem_cons_zero, List.setIfInBounds_toArray, List.set_cons_zero, List.set_cons_succ]
    refine wpAnyH_take (i := 8) (v := ?v15) rfl (by kernel_rfl) (by kernel_rfl) (by kernel_rfl) (fun _ _ _ h => h) (Or.inl ⟨by kernel_rfl, ?h15⟩) HS ?r15
    case h15 => (rintro w ⟨s0, s1⟩; go_simp) <;> with_reducible rfl
    try simp only [Act.put, List.getElem_toArray, List.getElem_cons_succ, List.getElem_cons_zero, List.setIfInBounds_toArray, List.set_cons_zero, List.set_cons_succ]
    refine wpAnyH_take (i := 9) (v := ?v16) rfl (by kernel_rfl) (by kernel_rfl) (by kernel_rfl) (fun _ _ _ h => h) (Or.inl ⟨by kernel_rfl, ?h16⟩) HS ?r16
    case h16 => (rintro w ⟨s0, s1⟩; go_simp) <;> with_reducible rfl
    try simp only [Act.put, List.getElem_toArray, List.getElem_cons_succ, List.getElem_cons_zero, List.setIfInBounds_toArray, List.set_cons_zero, List.set_cons_succ]
    have y0 := Y.c0
    have y1 := Y.c1
    have y2 := Y.f0
    have y3 := Y.f1
    refine wpAnyH_ready (rs := [11]) (by kernel_rfl) (by simp) ?_
    refine AllReadyH.cons rfl (fun K hK => ?_) AllReadyH.nil
    go_simp
    refine hK.out _ _ ⟨cell_set (by dsimp only; omega) (cell_set (by dsimp only; omega) HS.1), cell_set (by dsimp only; omega) (cell_set (by dsimp only; omega) HS.2)⟩ (fun HS => ?_)
    clear hK K
    refine wpAnyH_take (i := 12) (v := ?v17) rfl (by kernel_rfl) (by kernel_rfl) (by kernel_rfl) (fun _ _ _ h => h) (Or.inl ⟨by kernel_rfl, ?h17⟩) HS ?r17
    case h17 => (rintro w ⟨s0, s1⟩; go_simp) <;> with_reducible rfl
    try simp only [Act.put, List.getElem_toArray, List.getElem_cons_succ, List.getElem_cons_zero, List.setIfInBounds_toArray, List.set_cons_zero, List.set_cons_succ]
    refine wpAnyH_done (by kernel_rfl) ?_ _
    have z1 := (Y.set (.int .i64 hq) (.int .u64 lq)).c1
    have HZ : Hid (Below w.heap.size w ((w11.setCell ⟨g, 0, none⟩ (.int .i64 hq)).setCell ⟨g, 1, none⟩ (.int .u64 lq))) := (CWl.out.setCell (by dsimp only; omega) _).setCell (by dsimp only; omega) _
    clear CWl HS Y y0 y1 y2 y3
    generalize ((w11.setCell ⟨g, 0, none⟩ (.int .i64 hq)).setCell ⟨g, 1, none⟩ (.int .u64 lq)) = wf at *
    go_wp2
    go_ret
    exact ⟨rfl, HZ.out⟩
set_option maxRecDepth 100000 in
set_option maxHeartbeats 4000000 in
theorem power_any (b : Int) (T : Nat) (w : World) (b0 : 0 ≤ b) (b1 : b < 4294967296) (hT : T ≤ 1048576) :
    Calls Tryz.prog 93 #[.int .i64 b, .int .i64 (T : Int)] w fun e w' => e = .returned (.int .i64 (pwN b T)) ∧ Below w.heap.size w w' := by
  have HP : Hid (∀ j, 0 ≤ pwN b j ∧ pwN b j ≤ 4294967296) := pwN_in b b0 b1
  go_enter Tryz.func93, Tryz.ntmps93
  go_wp2
  go_loopw [5, 9] (fun s5 si wr => ∃ (j : Nat) (y : Int), j ≤ T ∧ si = .int .i64 (j : Int) ∧ s5 = .int .i64 y ∧ Hid (y = pwN b j) ∧ Hid (Below w.heap.size w wr)) (fun _ si _ => T - (intOf si).toNat)
  case atStart => exact ⟨0, _, by omega, rfl, rfl, rfl, Below.refl _ _⟩
  case round =>
    obtain ⟨j, y, hj, rfl, rfl, HY, HW⟩ := hrel
    by_cases hlt : j < T
    · have hjI : (j : Int) < (T : Int) := by omega
      have hy := HP.out j
      rw [← HY.out] at hy
      have CM : Hid (∀ W' : World, Calls Tryz.prog 78 #[.int .i64 y, .int .i64 b] W' fun e w' => e = .returned (.tuple #[.int .i64 (fmV y b), .bool (ovv (rnd (y * b) 32))]) ∧ Below W'.heap.size W' w') := fun W' => fmul_any y b (by omega) (by omega) (by omega) (by omega) W'
      have HE : Hid (fmV y b = pwN b (j + 1)) := by show fmV y b = fmV (pwN b j) b; rw [HY.out]
      have HS : Hid (fmV y b = y → pwN b T = y) := fun h => by rw [HY.out] at h ⊢; exact (pwN_stay' b j T (by omega) h).symm
      clear HY hy
      generalize fmV y b = z at *
      generalize ovv (rnd (y * b) 32) = ob at *
      by_cases hz : z = y
      · subst hz
        have HE2 := HS.out rfl
        clear HS HE
        go_wp2_with (go_at_call 78; refine (CM.out _).mono ?_; rintro e wz ⟨rfl, hb⟩; have HB3 : Hid (Below w.heap.size w wz) := bchain HW.out hb; clear hb)
        go_ret
        exact ⟨by rw [HE2]; rfl, HB3.out⟩
      · clear HS
        go_wp2_with (go_at_call 78; refine (CM.out _).mono ?_; rintro e wz ⟨rfl, hb⟩; have HB3 : Hid (Below w.heap.size w wz) := bchain HW.out hb; clear hb)
        go_roundw
        case rel => exact ⟨j + 1, z, by omega, by go_num, rfl, HE, HB3⟩
        case measure => simp [intOf]; omega
    · obtain rfl : j = T := by omega
      have hjI : ¬ (j : Int) < (j : Int) := by omega
      have HE : Hid (pwN b j = y) := HY.out.symm
      clear HY
      go_wp2
      go_ret
      exact ⟨by rw [HE.out]; rfl, HW.out⟩
end Go.Proofs.YtcdehbhdloaieaaGreatDoor
