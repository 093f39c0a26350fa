/-
  The document's rate of a step (regattaref08); the laws' own rates and pace.
-/
import Derived.Test.YtcdehbhdloaieaaGreatDoorQRefB
import Derived.Test.YtcdehbhdloaieaaGreatDoorBI
set_option linter.unusedVariables false
set_option linter.unusedSimpArgs false
namespace Go.Proofs.YtcdehbhdloaieaaGreatDoor
open Go.RowKit

set_option maxRecDepth 100000 in
set_option maxHeartbeats 8000000 in
theorem refRate_any (B W : Int) (v : Value) (n : Nat) (at' fa : Nat → Int) (t : Int) (w : World) (hA : Drp w v n at' fa) (h : RO B W n at' fa) (B1 : B ≤ 9223372036854775807) (t0 : 1 ≤ t) (t1 : t ≤ 1048576) :
    Calls Tryz.prog 24 #[.agg #[.int .i64 B, .int .i64 W, v], .int .i64 t] w fun e w' => e = .returned (.int .i64 (rtV B W n at' fa t)) ∧ Below w.heap.size w w' := by
  obtain ⟨adr, cap, b, o, rfl, k1, k2, k3, k4⟩ := hA
  unfold maxLen at k2
  have HC : Hid (∀ k, k < n → w.cell? ⟨b, o + k * 2, none⟩ = some (.int .i64 (at' k)) ∧ w.cell? ⟨b, o + k * 2 + 1, none⟩ = some (.int .i64 (fa k))) := fun k hk => (k4 k hk).1
  have HK : Hid (0 < n → adr = some ⟨b, o, none⟩) := k3
  have HR : Hid (RD n at' fa) := h.2.2.2
  have hn : n ≤ 16 := h.2.2.2.1
  have hin := bsV_in B W t h.1 t0
  have HX : Hid (0 ≤ bsV B W t ∧ bsV B W t ≤ 9223372036854775807) := ⟨hin.1, by omega⟩
  obtain ⟨w1, hw1⟩ : ∃ w1, w1 = w.alloc (.cells #[.int .i64 B, .int .i64 W, .slice adr n cap] 47) := ⟨_, rfl⟩
  have HB1 : Hid (Below w.heap.size w w1) := by rw [hw1]; exact bel1 _ _
  have HQ := Q3.new w (.int .i64 B) (.int .i64 W) (.slice adr n cap) 47
  rw [← hw1] at HQ
  have HQ1 : Hid (Q3 w.heap.size (.int .i64 B) (.int .i64 W) (.slice adr n cap) w1) := HQ
  have key : ∀ (X : Int) (a9 : Act) (w2 : World), True := fun _ _ _ => trivial
  unfold rtV
  clear k3 k4 hin key
  obtain ⟨X, hX⟩ : ∃ X, bsV B W t = X := ⟨_, rfl⟩
  rw [hX] at HX
  rw [hX]
  by_cases htW : t ≤ W
  · have HV : 0 ≤ B * t ∧ B * t ≤ 9223372036854775807 * 1048576 := ⟨Int.mul_nonneg h.1 (by omega), Int.mul_le_mul B1 (by omega) (by omega) (by omega)⟩
    have CM : Hid (∀ W' : World, Calls Tryz.prog 49 #[.agg #[.int .u64 0, .int .u64 0, .int .u64 0, .int .u64 0, .int .u64 0, .int .u64 0, .int .u64 0, .int .u64 0, .int .u64 0, .int .u64 0, .int .u64 0, .int .u64 0], .int .i64 B, .int .i64 t] W' fun e w' => ∃ p' q', e = .returned (.agg #[.int .u64 (dg (p') 0), .int .u64 (dg (p') 1), .int .u64 (dg (p') 2), .int .u64 (dg (p') 3), .int .u64 (dg (p') 4), .int .u64 (dg (p') 5), .int .u64 (dg (q') 0), .int .u64 (dg (q') 1), .int .u64 (dg (q') 2), .int .u64 (dg (q') 3), .int .u64 (dg (q') 4), .int .u64 (dg (q') 5)]) ∧ Sm p' q' (B * t) 85070591730234615865843651857942052864 ∧ Below W'.heap.size W' w') := fun W' => smul_zero B t (by have := h.1; omega) (by omega) (by omega) (by omega) W'
    have CQ : Hid (∀ (p q : Int), Sm p q (B * t) 85070591730234615865843651857942052864 → ∀ W' : World, Calls Tryz.prog 50 #[.agg #[.int .u64 (dg (p) 0), .int .u64 (dg (p) 1), .int .u64 (dg (p) 2), .int .u64 (dg (p) 3), .int .u64 (dg (p) 4), .int .u64 (dg (p) 5), .int .u64 (dg (q) 0), .int .u64 (dg (q) 1), .int .u64 (dg (q) 2), .int .u64 (dg (q) 3), .int .u64 (dg (q) 4), .int .u64 (dg (q) 5)], .int .i64 W] W' fun e w' => e = .returned (.tuple #[.int .i64 X, .bool (ovv (quo (B * t) W))]) ∧ Below W'.heap.size W' w') := fun p q hs W' => by
      have h' := squo_any p q _ _ W hs (by omega) (by have := h.2; omega) (by have := h.2; omega) (by omega) W'
      have hw : quo (B * t) W = X := by rw [← hX]; unfold bsV; rw [if_pos htW]; rfl
      rw [hw, (clv_in X (by have := HX.out; omega) (by have := HX.out; omega)).1] at h'
      rw [hw]
      exact h'
    generalize ovv (quo (B * t) W) = ob at *
    clear h HV hX
    go_enter Tryz.func24, Tryz.ntmps24
    go_upto_region 1 with fail
    rw [← hw1]
    clear hw1
    have x0 := HQ.c0
    have x1 := HQ.c1
    clear HQ
    go_upto_region 3 with fail
    have hbD : Below w1.heap.size w1 w1.drew := (Below.refl _ _).drew
    have HW2 : Hid (Below w.heap.size w w1.drew) := bchain HB1.out hbD
    have HQ2 : Hid (Q3 w.heap.size (.int .i64 B) (.int .i64 W) (.slice adr n cap) w1.drew) := HQ1.out.later hbD
    refine wp_region_held_drew (S := fun w' => w'.cell? ⟨w.heap.size, 0, none⟩ = some (.int .i64 B) ∧ w'.cell? ⟨w.heap.size, 1, none⟩ = some (.int .i64 W)) (by kernel_rfl) ⟨HQ2.out.c0, HQ2.out.c1⟩ (fun HS => ?_)
    clear hbD HQ1 HB1 x0 x1
    generalize w1.drew = wd at *
    refine wpAnyH_take (i := 0) (v := ?v1) rfl (by kernel_rfl) (by kernel_rfl) (by kernel_rfl) (fun _ _ _ h => h) (Or.inl ⟨by kernel_rfl, ?h1⟩) HS ?r1
    case h1 => (rintro w ⟨s0, s1⟩; go_simp) <;> with_reducible rfl
    try simp only [Act.put, List.getElem_toArray, List.getElem_cons_succ, List.getElem_cons_zero, List.setIfInBounds_toArray, List.set_cons_zero, List.set_cons_succ]
    refine wpAnyH_take (i := 1) (v := ?v2) rfl (by kernel_rfl) (by kernel_rfl) (by kernel_rfl) (fun _ _ _ h => h) (Or.inl ⟨by kernel_rfl, ?h2⟩) HS ?r2
    case h2 => (rintro w ⟨s0, s1⟩; go_simp) <;> with_reducible rfl
    try simp only [Act.put, List.getElem_toArray, List.getElem_cons_succ, List.getElem_cons_zero, List.setIfInBounds_toArray, List.set_cons_zero, List.set_cons_succ]
    refine wpAnyH_take (i := 2) (v := ?v3) rfl (by kernel_rfl) (by kernel_rfl) (by kernel_rfl) (fun _ _ _ h => h) (Or.inl ⟨by kernel_rfl, ?h3⟩) HS ?r3
    case h3 => (rintro w ⟨s0, s1⟩; go_simp) <;> with_reducible rfl
    try simp only [Act.put, List.getElem_toArray, List.getElem_cons_succ, List.getElem_cons_zero, List.setIfInBounds_toArray, List.set_cons_zero, List.set_cons_succ]
    refine wpAnyH_take (i := 3) (v := ?v4) rfl (by kernel_rfl) (by kernel_rfl) (by kernel_rfl) (fun _ _ _ h => h) (Or.inl ⟨by kernel_rfl, ?h4⟩) HS ?r4
    case h4 => (rintro w ⟨s0, s1⟩; go_simp) <;> with_reducible rfl
    try simp only [Act.put, List.getElem_toArray, List.getElem_cons_succ, List.getElem_cons_zero, List.setIfInBounds_toArray, List.set_cons_zero, List.set_cons_succ]
    refine wpAnyH_take (i := 5) (v := ?v5) rfl (by kernel_rfl) (by kernel_rfl) (by kernel_rfl) (fun _ _ _ h => h) (Or.inl ⟨by kernel_rfl, ?h5⟩) HS ?r5
    case h5 => (rintro w ⟨s0, s1⟩; go_simp) <;> with_reducible rfl
    try simp only [Act.put, List.getElem_toArray, List.getElem_cons_succ, List.getElem_cons_zero, List.setIfInBounds_toArray, List.set_cons_zero, List.set_cons_succ]
    refine wpAnyH_take (i := 6) (v := ?v6) rfl (by kernel_rfl) (by kernel_rfl) (by kernel_rfl) (fun _ _ _ h => h) (Or.inl ⟨by kernel_rfl, ?h6⟩) HS ?r6
    case h6 => (rintro w ⟨s0, s1⟩; go_simp) <;> with_reducible rfl
    try simp only [Act.put, List.getElem_toArray, List.getElem_cons_succ, List.getElem_cons_zero, List.setIfInBounds_toArray, List.set_cons_zero, List.set_cons_succ]
    refine wpAnyH_ready (rs := [4]) (by kernel_rfl) (by simp) ?_
    refine AllReadyH.cons rfl (fun K hK => ?_) AllReadyH.nil
    go_simp
    refine (CM.out _).mono ?_
    rintro e w3 ⟨p', q', rfl, hS, hb⟩
    refine hK.out _ _ ⟨cell_later hb HS.1, cell_later hb HS.2⟩ (fun HS => ?_)
    clear hK K
    have HW3 : Hid (Below w.heap.size w w3) := bchain HW2.out hb
    have HQ3 : Hid (Q3 w.heap.size (.int .i64 B) (.int .i64 W) (.slice adr n cap) w3) := HQ2.out.later hb
    have CQ3 : Hid (∀ W' : World, Calls Tryz.prog 50 #[.agg #[.int .u64 (dg (p') 0), .int .u64 (dg (p') 1), .int .u64 (dg (p') 2), .int .u64 (dg (p') 3), .int .u64 (dg (p') 4), .int .u64 (dg (p') 5), .int .u64 (dg (q') 0), .int .u64 (dg (q') 1), .int .u64 (dg (q') 2), .int .u64 (dg (q') 3), .int .u64 (dg (q') 4), .int .u64 (dg (q') 5)], .int .i64 W] W' fun e w' => e = .returned (.tuple #[.int .i64 X, .bool ob]) ∧ Below W'.heap.size W' w') := CQ.out p' q' hS
    clear hb HW2 HQ2 hS CQ
    refine wpAnyH_ready (rs := [7]) (by kernel_rfl) (by simp) ?_
    refine AllReadyH.cons rfl (fun K hK => ?_) AllReadyH.nil
    go_simp
    refine (CQ3.out _).mono ?_
    rintro e w4 ⟨rfl, hb⟩
    refine hK.out _ _ ⟨cell_later hb HS.1, cell_later hb HS.2⟩ (fun HS => ?_)
    clear hK K
    have HW4 : Hid (Below w.heap.size w w4) := bchain HW3.out hb
    have HQ4 : Hid (Q3 w.heap.size (.int .i64 B) (.int .i64 W) (.slice adr n cap) w4) := HQ3.out.later hb
    clear hb HW3 HQ3 CQ3 CM
    refine wpAnyH_take (i := 8) (v := ?v7) rfl (by kernel_rfl) (by kernel_rfl) (by kernel_rfl) (fun _ _ _ h => h) (Or.inl ⟨by kernel_rfl, ?h7⟩) HS ?r7
    case h7 => (rintro w ⟨s0, s1⟩; go_simp) <;> with_reducible rfl
    try simp only [Act.put, List.getElem_toArray, List.getElem_cons_succ, List.getElem_cons_zero, List.setIfInBounds_toArray, List.set_cons_zero, List.set_cons_succ]
    refine wpAnyH_take (i := 9) (v := ?v8) rfl (by kernel_rfl) (by kernel_rfl) (by kernel_rfl) (fun _ _ _ h => h) (Or.inl ⟨by kernel_rfl, ?h8⟩) HS ?r8
    case h8 => (rintro w ⟨s0, s1⟩; go_simp) <;> with_reducible rfl
    try simp only [Act.put, List.getElem_toArray, List.getElem_cons_succ, List.getElem_cons_zero, List.setIfInBounds_toArray, List.set_cons_zero, List.set_cons_succ]
    refine wpAnyH_take (i := 10) (v := ?v9) rfl (by kernel_rfl) (by kernel_rfl) (by kernel_rfl) (fun _ _ _ h => h) (Or.inl ⟨by kernel_rfl, ?h9⟩) HS ?r9
    case h9 => (rintro w ⟨s0, s1⟩; go_simp) <;> with_reducible rfl
    try simp only [Act.put, List.getElem_toArray, List.getElem_cons_succ, List.getElem_cons_zero, List.setIfInBounds_toArray, List.set_cons_zero, List.set_cons_succ]
    refine wpAnyH_take (i := 11) (v := ?v10) rfl (by kernel_rfl) (by kernel_rfl) (by kernel_rfl) (fun _ _ _ h => h) (Or.inl ⟨by kernel_rfl, ?h10⟩) HS ?r10
    case h10 => (rintro w ⟨s0, s1⟩; go_simp) <;> with_reducible rfl
    try simp only [Act.put, List.getElem_toArray, List.getElem_cons_succ, List.getElem_cons_zero, List.setIfInBounds_toArray, List.set_cons_zero, List.set_cons_succ]
    refine wpAnyH_done (by kernel_rfl) ?_ _
    clear HS
    go_upto_region 5 with fail
    go_loopw [5, 6] (fun s5 si wr => ∃ (j : Nat) (y : Int), j ≤ n ∧ si = .int .i64 (j : Int) ∧ s5 = .int .i64 y ∧ Hid (y = drN X at' fa t j) ∧ Hid (Q3 w.heap.size (.int .i64 B) (.int .i64 W) (.slice adr n cap) wr) ∧ Hid (Below w.heap.size w wr)) (fun _ si _ => n - (intOf si).toNat)
    case atStart => exact ⟨0, X, by omega, rfl, rfl, rfl, HQ4, HW4⟩
    case round =>
      obtain ⟨j, y, hj, rfl, rfl, HY, HQr, HW⟩ := hrel
      have x2 := HQr.out.c2
      by_cases hlt : j < n
      · have hjI : (j : Int) < (n : Int) := by omega
        have ea := HK.out (by omega)
        subst ea
        have c0 := cell_later HW.out (HC.out j hlt).1
        have c1 := cell_later HW.out (HC.out j hlt).2
        have HF := (HR.out.2 j hlt).1
        have hx := HX.out
        have HY1 := drN_in X t HR.out hx.1 hx.2 j (by omega)
        rw [← HY.out] at HY1
        have CM : Hid (∀ W' : World, Calls Tryz.prog 51 #[.int .i64 y, .int .i64 (fa j)] W' fun e w' => e = .returned (.tuple #[.int .i64 (fmV y (fa j)), .bool (ovv (rnd (y * fa j) 32))]) ∧ Below W'.heap.size W' w') := fun W' => rfmul_any y (fa j) (by omega) (by omega) (by omega) (by omega) W'
        have HS1 : Hid (at' j ≤ t → fmV y (fa j) = drN X at' fa t (j + 1)) := fun h => by
          show _ = (if at' j ≤ t then fmV (drN X at' fa t j) (fa j) else drN X at' fa t j)
          rw [if_pos h, HY.out]
        have HS2 : Hid (¬ at' j ≤ t → y = drN X at' fa t (j + 1)) := fun h => by
          show _ = (if at' j ≤ t then fmV (drN X at' fa t j) (fa j) else drN X at' fa t j)
          rw [if_neg h, HY.out]
        clear HY HF HY1 hx
        generalize fmV y (fa j) = z at *
        generalize ovv (rnd (y * fa j) 32) = oc at *
        generalize fa j = f at *
        generalize at' j = a at *
        by_cases ha : a ≤ t
        · have HE : Hid (z = drN X at' fa t (j + 1)) := HS1.out ha
          clear HS1 HS2
          go_wp2_with (go_at_call 51; refine (CM.out _).mono ?_; rintro e wz ⟨rfl, hb⟩; have HB3 : Hid (Below w.heap.size w wz) := bchain HW.out hb; have HQ3 : Hid (Q3 w.heap.size (.int .i64 B) (.int .i64 W) (.slice (some ⟨b, o, none⟩) n cap) wz) := HQr.out.later hb; clear hb c0 c1 x2)
          go_roundw
          case rel => exact ⟨j + 1, z, by omega, by go_num, rfl, HE, HQ3, HB3⟩
          case measure => simp [intOf]; omega
        · have HE : Hid (y = drN X at' fa t (j + 1)) := HS2.out ha
          clear HS1 HS2 CM
          go_wp2
          go_roundw
          case rel => exact ⟨j + 1, y, by omega, by go_num, rfl, HE, HQr, HW⟩
          case measure => simp [intOf]; omega
      · obtain rfl : j = n := by omega
        have hjI : ¬ (j : Int) < (j : Int) := by omega
        have HE : Hid (drN X at' fa t j = y) := HY.out.symm
        clear HY
        go_wp2
        go_ret
        exact ⟨by rw [HE.out]; rfl, HW.out⟩
  · have hX2 : B = X := by rw [← hX]; exact (if_neg htW).symm
    subst hX2
    clear h hX
    go_enter Tryz.func24, Tryz.ntmps24
    go_upto_region 1 with fail
    rw [← hw1]
    clear hw1
    have x0 := HQ.c0
    have x1 := HQ.c1
    clear HQ
    go_upto_region 5 with fail
    clear x0 x1
    go_loopw [5, 6] (fun s5 si wr => ∃ (j : Nat) (y : Int), j ≤ n ∧ si = .int .i64 (j : Int) ∧ s5 = .int .i64 y ∧ Hid (y = drN B at' fa t j) ∧ Hid (Q3 w.heap.size (.int .i64 B) (.int .i64 W) (.slice adr n cap) wr) ∧ Hid (Below w.heap.size w wr)) (fun _ si _ => n - (intOf si).toNat)
    case atStart => exact ⟨0, B, by omega, rfl, rfl, rfl, HQ1, HB1⟩
    case round =>
      obtain ⟨j, y, hj, rfl, rfl, HY, HQr, HW⟩ := hrel
      have x2 := HQr.out.c2
      by_cases hlt : j < n
      · have hjI : (j : Int) < (n : Int) := by omega
        have ea := HK.out (by omega)
        subst ea
        have c0 := cell_later HW.out (HC.out j hlt).1
        have c1 := cell_later HW.out (HC.out j hlt).2
        have HF := (HR.out.2 j hlt).1
        have hx := HX.out
        have HY1 := drN_in B t HR.out hx.1 hx.2 j (by omega)
        rw [← HY.out] at HY1
        have CM : Hid (∀ W' : World, Calls Tryz.prog 51 #[.int .i64 y, .int .i64 (fa j)] W' fun e w' => e = .returned (.tuple #[.int .i64 (fmV y (fa j)), .bool (ovv (rnd (y * fa j) 32))]) ∧ Below W'.heap.size W' w') := fun W' => rfmul_any y (fa j) (by omega) (by omega) (by omega) (by omega) W'
        have HS1 : Hid (at' j ≤ t → fmV y (fa j) = drN B at' fa t (j + 1)) := fun h => by
          show _ = (if at' j ≤ t then fmV (drN B at' fa t j) (fa j) else drN B at' fa t j)
          rw [if_pos h, HY.out]
        have HS2 : Hid (¬ at' j ≤ t → y = drN B at' fa t (j + 1)) := fun h => by
          show _ = (if at' j ≤ t then fmV (drN B at' fa t j) (fa j) else drN B at' fa t j)
          rw [if_neg h, HY.out]
        clear HY HF HY1 hx
        generalize fmV y (fa j) = z at *
        generalize ovv (rnd (y * fa j) 32) = oc at *
        generalize fa j = f at *
        generalize at' j = a at *
        by_cases ha : a ≤ t
        · have HE : Hid (z = drN B at' fa t (j + 1)) := HS1.out ha
          clear HS1 HS2
          go_wp2_with (go_at_call 51; refine (CM.out _).mono ?_; rintro e wz ⟨rfl, hb⟩; have HB3 : Hid (Below w.heap.size w wz) := bchain HW.out hb; have HQ3 : Hid (Q3 w.heap.size (.int .i64 B) (.int .i64 W) (.slice (some ⟨b, o, none⟩) n cap) wz) := HQr.out.later hb; clear hb c0 c1 x2)
          go_roundw
          case rel => exact ⟨j + 1, z, by omega, by go_num, rfl, HE, HQ3, HB3⟩
          case measure => simp [intOf]; omega
        · have HE : Hid (y = drN B at' fa t (j + 1)) := HS2.out ha
          clear HS1 HS2 CM
          go_wp2
          go_roundw
          case rel => exact ⟨j + 1, y, by omega, by go_num, rfl, HE, HQr, HW⟩
          case measure => simp [intOf]; omega
      · obtain rfl : j = n := by omega
        have hjI : ¬ (j : Int) < (j : Int) := by omega
        have HE : Hid (drN B at' fa t j = y) := HY.out.symm
        clear HY
        go_wp2
        go_ret
        exact ⟨by rw [HE.out]; rfl, HW.out⟩
end Go.Proofs.YtcdehbhdloaieaaGreatDoor
