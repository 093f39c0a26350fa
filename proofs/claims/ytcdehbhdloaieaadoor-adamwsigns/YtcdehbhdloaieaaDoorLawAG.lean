/-
  AdamwSigns: for every rate and gradient the law regattalaw09.AdamwSigns returns true: the first step goes against the gradient, by about the rate.
-/
import Derived.Test.YtcdehbhdloaieaaDoorAAwake
import Derived.Deep.QuietTactic
import Derived.BigQuiet
set_option linter.unusedVariables false
set_option linter.unusedSimpArgs false
namespace Go.Proofs.YtcdehbhdloaieaaDoor
open Go.RowKit

set_option maxRecDepth 100000 in
set_option maxHeartbeats 8000000 in
theorem adamwSigns_any (rate g : Int) (r0 : -9223372036854775808 ≤ rate) (r1 : rate ≤ 9223372036854775807) (g0 : -9223372036854775808 ≤ g) (g1 : g ≤ 9223372036854775807) (w : World) (hT : TabAt w) :
    Calls Tryd.prog 6 #[.int .i64 rate, .int .i64 g] w fun e w' => e = .returned (.bool true) ∧ Below w.heap.size w w' := by
  have CA := awake9_any w hT
  have HT : Hid (TabAt w) := hT
  clear hT
  go_enter Tryd.func6, Tryd.ntmps6
  go_wp2_with fail
  refine CA.mono ?_
  rintro e w1 ⟨rfl, hb⟩
  have HB1 : Hid (Below w.heap.size w w1) := hb
  clear CA hb
  by_cases k1 : rate ≤ 0
  · go_wp2
    go_ret
    exact ⟨rfl, HB1.out⟩
  by_cases k2 : 4294967296 < rate
  · go_wp2
    go_ret
    exact ⟨rfl, HB1.out⟩
  by_cases k3 : 4294967296000 < g
  · go_wp2
    go_ret
    exact ⟨rfl, HB1.out⟩
  by_cases k4 : g < -4294967296000
  · go_wp2
    go_ret
    exact ⟨rfl, HB1.out⟩
  by_cases k5 : -4294967296 < g ∧ g < 4294967296
  · obtain ⟨k5, k6⟩ := k5
    go_wp2
    go_ret
    exact ⟨rfl, HB1.out⟩
  obtain ⟨G, hG⟩ : ∃ G : Int, (g = G ∨ g = -G) ∧ 4294967296 ≤ G ∧ G ≤ 4294967296000 := by
    by_cases h : g < 0
    · exact ⟨-g, by omega, by omega, by omega⟩
    · exact ⟨g, by omega, by omega, by omega⟩
  have hs := signs9 rate g G (by omega) (by omega) hG.2.1 hG.2.2 hG.1
  have CS : Hid (∀ (W : World) (m1 m2 bp bg : Nat), TabAt W → Ar W (.slice (some ⟨m1, 0, none⟩) 1 1) 1 (fun _ => 0) → Ar W (.slice (some ⟨m2, 0, none⟩) 1 1) 1 (fun _ => 0) → Ar W (.slice (some ⟨bp, 0, none⟩) 1 1) 1 (fun _ => 0) → Ar W (.slice (some ⟨bg, 0, none⟩) 1 1) 1 (fun _ => g) → Calls Tryd.prog 12 #[.pointer none, .agg #[.int .i64 rate, .int .i64 0, .slice none 0 0, .int .i64 0, .int .i64 0, .int .i64 1, .int .i64 0, .int .i64 0], .agg #[.slice (some ⟨m1, 0, none⟩) 1 1, .slice (some ⟨m2, 0, none⟩) 1 1, .int .i64 0], .slice (some ⟨bp, 0, none⟩) 1 1, .slice (some ⟨bg, 0, none⟩) 1 1] W fun e w' => ∃ g1 g2 g3 : Nat, e = .returned (.tuple #[.agg #[.slice (some ⟨g1, 0, none⟩) 1 1, .slice (some ⟨g2, 0, none⟩) 1 1, .int .i64 1], .slice (some ⟨g3, 0, none⟩) 1 1, .int .i64 0]) ∧ Ar w' (.slice (some ⟨g3, 0, none⟩) 1 1) 1 (fun _ => aY (stp1 rate) 0 0 0 g) ∧ Below W.heap.size W w') := by
    intro W m1 m2 bp bg ht h1 h2 h3 h4
    refine (step9_ok rate 0 (.slice none 0 0) 0 (fun _ => 0) (fun _ => 0) 0 0 1 0 0 0 _ _ _ _ 1 _ _ _ _ none 0 W (simple_right9 _ (by omega) _ _) ⟨by omega, by omega, by omega, by omega⟩ (by omega) (by omega) (by omega) (by omega) (by omega) (drp_none9 W _ _) h1 h2 h3 h4 (nv_none _) (nv_none _) (nv_none _) (nv_none _) (Or.inl rfl) ht).mono ?_
    rintro e w' ⟨g1, g2, g3, he, q1, q2, q3, q4, q5⟩
    rw [cpF_none9, stp_first9] at q3
    refine ⟨g1, g2, g3, he, q3, ?_⟩
    rcases q5 with ⟨-, q5⟩ | ⟨d, q5, -⟩
    · exact q5
    · cases q5
  generalize aY (stp1 rate) 0 0 0 g = y at *
  have k5b : g ≤ -4294967296 ∨ 4294967296 ≤ g := by omega
  have hy : -4294967296 ≤ y ∧ y ≤ 4294967296 := by
    rcases hG.1 with h | h
    · have := hs.1 h; omega
    · have := hs.2 h; omega
  have HF : Hid (max y (-y) ≤ rate ∧ 0 ≤ max y (-y) ∧ rate - max y (-y) ≤ 4) := by
    rcases hG.1 with h | h
    · have := hs.1 h; exact ⟨by omega, by omega, by omega⟩
    · have := hs.2 h; exact ⟨by omega, by omega, by omega⟩
  have HY : Hid ((0 < g → y ≤ 0) ∧ (g < 0 → 0 ≤ y)) := by
    rcases hG.1 with h | h
    · have := hs.1 h; exact ⟨fun _ => by omega, fun _ => by omega⟩
    · have := hs.2 h; exact ⟨fun _ => by omega, fun _ => by omega⟩
  clear hs hG k5
  have k3' : ¬ (4294967296000 < g) := k3
  have HK5 : Hid (¬ (-4294967296 < g ∧ g < 4294967296)) := by show ¬ _; omega
  have CB : Hid (∀ W : World, Calls Tryd.prog 10 #[.int .i64 1] W fun e w' => ∃ g1 g2 : Nat, e = .returned (.tuple #[.agg #[.slice (some ⟨g1, 0, none⟩) 1 1, .slice (some ⟨g2, 0, none⟩) 1 1, .int .i64 0], .int .i64 0]) ∧ No9 W 1 g1 g2 w') := fun W => begin9_ok 1 (by omega) W
  have hgo : (-4294967296 < g → 4294967296 ≤ g) := by omega
  by_cases k7 : -4294967296 < g
  · have k8 : ¬ g < 4294967296 := by omega
    have gp : 0 < g := by omega
    clear hgo k5b HK5
    go_wp2_with fail
    refine (simple9_any _).mono ?_
    rintro e w2 ⟨rfl, hb⟩
    obtain ⟨w3, hw3⟩ : ∃ w3, w3 = w2.alloc (.cells #[.int .i64 429496729, .int .i64 0, .slice none 0 0, .int .i64 0, .int .i64 0, .int .i64 1, .int .i64 0, .int .i64 0] 27) := ⟨_, rfl⟩
    have hb3 : Below w.heap.size w w3 := by rw [hw3]; exact bchain (bchain HB1.out hb) (bel1 _ _)
    have hx0 : w3.cell? ⟨w2.heap.size, 0, none⟩ = some (.int .i64 429496729) := by rw [hw3]; simp [go_sem]
    have hf0 : w3.frozen? ⟨w2.heap.size, 0, none⟩ = false := by rw [hw3]; simp [go_sem]
    have HX : Q8 w2.heap.size (.int .i64 429496729) (.int .i64 0) (.slice none 0 0) (.int .i64 0) (.int .i64 0) (.int .i64 1) (.int .i64 0) (.int .i64 0) w3 := by rw [hw3]; exact Q8.new _ _ _ _ _ _ _ _ _ _
    have hle : w.heap.size ≤ w2.heap.size := (bchain HB1.out hb).size
    go_upto_region 6 with fail
    rw [← hw3]
    clear hw3 hb HB1
    generalize w2.heap.size = bx at *
    obtain ⟨w4, hw4⟩ : ∃ w4, w4 = w3.setCell ⟨bx, 0, none⟩ (.int .i64 rate) := ⟨_, rfl⟩
    have HB4 : Hid (Below w.heap.size w w4) := by rw [hw4]; exact hb3.setCell hle _
    have HX4 : Q8 bx (.int .i64 rate) (.int .i64 0) (.slice none 0 0) (.int .i64 0) (.int .i64 0) (.int .i64 1) (.int .i64 0) (.int .i64 0) w4 := by
      rw [hw4]
      exact ⟨World.cell?_setCell_same' _ _ _ (by rw [HX.c0]; rfl), (World.cell?_setCell_other _ _ _ _ (by simp)).trans HX.c1, (World.cell?_setCell_other _ _ _ _ (by simp)).trans HX.c2, (World.cell?_setCell_other _ _ _ _ (by simp)).trans HX.c3, (World.cell?_setCell_other _ _ _ _ (by simp)).trans HX.c4, (World.cell?_setCell_other _ _ _ _ (by simp)).trans HX.c5, (World.cell?_setCell_other _ _ _ _ (by simp)).trans HX.c6, (World.cell?_setCell_other _ _ _ _ (by simp)).trans HX.c7⟩
    go_upto_region 7 with fail
    rw [← hw4]
    clear hw4 hb3 hx0 hf0 HX hle
    go_wp2_with fail
    refine (CB.out _).mono ?_
    rintro e w5 ⟨m1, m2, rfl, hN⟩
    obtain ⟨w6, hw6⟩ : ∃ w6, w6 = w5.alloc (.cells #[.slice (some ⟨m1, 0, none⟩) 1 1, .slice (some ⟨m2, 0, none⟩) 1 1, .int .i64 0] 38) := ⟨_, rfl⟩
    obtain ⟨w7, hw7⟩ : ∃ w7, w7 = (w6.alloc (.cells #[.int .i64 0] 22)).alloc (.cells #[.int .i64 g] 22) := ⟨_, rfl⟩
    have hb6 : Below w5.heap.size w5 w6 := by rw [hw6]; exact bel1 _ _
    have hb7 : Below w6.heap.size w6 w7 := by rw [hw7]; exact bel2 _ _ _
    have HX6 : Q8 bx (.int .i64 rate) (.int .i64 0) (.slice none 0 0) (.int .i64 0) (.int .i64 0) (.int .i64 1) (.int .i64 0) (.int .i64 0) w6 := (HX4.later hN.b).later hb6
    have HS6 : Y3 w5.heap.size (.slice (some ⟨m1, 0, none⟩) 1 1) (.slice (some ⟨m2, 0, none⟩) 1 1) (.int .i64 0) w6 := by rw [hw6]; exact Y3.new _ _ _ _ _
    have HB7 : Hid (Below w.heap.size w w7) := bchain (bchain (bchain HB4.out hN.b) hb6) hb7
    have HM : Hid (Ar w7 (.slice (some ⟨m1, 0, none⟩) 1 1) 1 (fun _ => 0) ∧ Ar w7 (.slice (some ⟨m2, 0, none⟩) 1 1) 1 (fun _ => 0)) := ⟨((no9_ar hN (by omega)).1.later hb6).later hb7, ((no9_ar hN (by omega)).2.later hb6).later hb7⟩
    have HP : Hid (Ar w7 (.slice (some ⟨w6.heap.size, 0, none⟩) 1 1) 1 (fun _ => 0)) := by rw [hw7]; exact (one_ar9 w6 0 (by omega) (by omega) 22).later (bel1 _ _)
    have HG : Hid (Ar w7 (.slice (some ⟨w6.heap.size + 1, 0, none⟩) 1 1) 1 (fun _ => g)) := by rw [hw7]; have h := one_ar9 (w6.alloc (.cells #[.int .i64 0] 22)) g (by omega) (by omega) 22; rw [World.size_alloc] at h; exact h
    have HCS := CS.out w7 m1 m2 w6.heap.size (w6.heap.size + 1) (HT.out.later HB7.out) HM.out.1 HM.out.2 HP.out HG.out
    clear hN hb6 hb7 HX4 HB4 CB CS HM HP HG
    go_upto_region 8 with fail
    rw [← hw6]
    clear hw6
    generalize w5.heap.size = bs at *
    obtain ⟨x0, x1, x2, x3, x4, x5, x6, x7⟩ := HX6
    have y0 := HS6.c0
    have y1 := HS6.c1
    have y2 := HS6.c2
    clear HS6
    go_wp2_with (rw [← hw7]; refine HCS.mono ?_; rintro e w8 ⟨g1', g2', g3, rfl, hA, hb⟩; have HB8 : Hid (Below w.heap.size w w8) := bchain HB7.out hb; have HA : Hid (Ar w8 (.slice (some ⟨g3, 0, none⟩) 1 1) 1 (fun _ => y)) := hA; clear hb hA HCS hw7)
    obtain ⟨w9, hw9⟩ : ∃ w9, w9 = w8.alloc (.cells #[.slice (some ⟨g1', 0, none⟩) 1 1, .slice (some ⟨g2', 0, none⟩) 1 1, .int .i64 1] 38) := ⟨_, rfl⟩
    have c9 : w9.cell? ⟨g3, 0, none⟩ = some (.int .i64 y) := by
      obtain ⟨b, o, e, h', -, -⟩ := (HA.out.later (bel1 w8 (.cells #[.slice (some ⟨g1', 0, none⟩) 1 1, .slice (some ⟨g2', 0, none⟩) 1 1, .int .i64 1] 38))).at 0 (by omega)
      cases e
      rw [hw9]
      exact h'
    have HB9 : Hid (Below w.heap.size w w9.drew) := by rw [hw9]; exact (bchain HB8.out (bel1 _ _)).drew
    rw [← hw9]
    clear hw9 HB8 HA HB7 x0 x1 x2 x3 x4 x5 x6 x7 y0 y1 y2 HT
    have wn : IntKind.i64.wrap (-y) = -y := by rw [IntKind.wrap_i64]; omega
    refine wp_region_held_drew (S := fun W' => W'.cell? ⟨g3, 0, none⟩ = some (.int .i64 y)) (by kernel_rfl) (cell_drew c9) (fun HS => ?_)
    clear c9
    generalize w9.drew = q0 at *
    refine wpAnyH_take (i := 0) (v := ?_) rfl (by kernel_rfl) (by kernel_rfl) (by kernel_rfl) (fun _ _ _ h => h) (Or.inl ⟨by kernel_rfl, ?_⟩) HS ?_
    rotate_left
    · (rintro w cy; go_simp) <;> with_reducible rfl
    try simp only [Act.put, List.getElem_toArray, List.getElem_cons_succ, List.getElem_cons_zero, List.setIfInBounds_toArray, List.set_cons_zero, List.set_cons_succ]
    refine wpAnyH_take (i := 1) (v := ?_) rfl (by kernel_rfl) (by kernel_rfl) (by kernel_rfl) (fun _ _ _ h => h) (Or.inl ⟨by kernel_rfl, ?_⟩) HS ?_
    rotate_left
    · (rintro w cy; go_simp) <;> with_reducible rfl
    try simp only [Act.put, List.getElem_toArray, List.getElem_cons_succ, List.getElem_cons_zero, List.setIfInBounds_toArray, List.set_cons_zero, List.set_cons_succ]
    refine wpAnyH_take (i := 2) (v := ?_) rfl (by kernel_rfl) (by kernel_rfl) (by kernel_rfl) (fun _ _ _ h => h) (Or.inl ⟨by kernel_rfl, ?_⟩) HS ?_
    rotate_left
    · (rintro w cy; go_simp) <;> with_reducible rfl
    try simp only [Act.put, List.getElem_toArray, List.getElem_cons_succ, List.getElem_cons_zero, List.setIfInBounds_toArray, List.set_cons_zero, List.set_cons_succ]
    refine wpAnyH_take (i := 3) (v := ?_) rfl (by kernel_rfl) (by kernel_rfl) (by kernel_rfl) (fun _ _ _ h => h) (Or.inl ⟨by kernel_rfl, ?_⟩) HS ?_
    rotate_left
    · (rintro w cy; go_simp) <;> with_reducible rfl
    try simp only [Act.put, List.getElem_toArray, List.getElem_cons_succ, List.getElem_cons_zero, List.setIfInBounds_toArray, List.set_cons_zero, List.set_cons_succ]
    refine wpAnyH_take (i := 4) (v := ?_) rfl (by kernel_rfl) (by kernel_rfl) (by kernel_rfl) (fun _ _ _ h => h) (Or.inl ⟨by kernel_rfl, ?_⟩) HS ?_
    rotate_left
    · (rintro w cy; go_simp) <;> with_reducible rfl
    try simp only [Act.put, List.getElem_toArray, List.getElem_cons_succ, List.getElem_cons_zero, List.setIfInBounds_toArray, List.set_cons_zero, List.set_cons_succ]
    refine wpAnyH_take (i := 5) (v := ?_) rfl (by kernel_rfl) (by kernel_rfl) (by kernel_rfl) (fun _ _ _ h => h) (Or.inl ⟨by kernel_rfl, ?_⟩) HS ?_
    rotate_left
    · (rintro w cy; go_simp) <;> with_reducible rfl
    try simp only [Act.put, List.getElem_toArray, List.getElem_cons_succ, List.getElem_cons_zero, List.setIfInBounds_toArray, List.set_cons_zero, List.set_cons_succ]
    refine wpAnyH_take (i := 6) (v := ?_) rfl (by kernel_rfl) (by kernel_rfl) (by kernel_rfl) (fun _ _ _ h => h) (Or.inl ⟨by kernel_rfl, ?_⟩) HS ?_
    rotate_left
    · (rintro w cy; go_simp) <;> with_reducible rfl
    try simp only [Act.put, List.getElem_toArray, List.getElem_cons_succ, List.getElem_cons_zero, List.setIfInBounds_toArray, List.set_cons_zero, List.set_cons_succ]
    refine wpAnyH_ready (rs := [7]) (by kernel_rfl) (by simp) ?_
    refine AllReadyH.cons rfl (fun K hK => ?_) AllReadyH.nil
    go_simp
    refine hK.out _ _ HS (fun HS => ?_)
    clear hK K
    refine wpAnyH_take (i := 8) (v := ?_) rfl (by kernel_rfl) (by kernel_rfl) (by kernel_rfl) (fun _ _ _ h => h) (Or.inl ⟨by kernel_rfl, ?_⟩) HS ?_
    rotate_left
    · (rintro w cy; go_simp) <;> with_reducible rfl
    try simp only [Act.put, List.getElem_toArray, List.getElem_cons_succ, List.getElem_cons_zero, List.setIfInBounds_toArray, List.set_cons_zero, List.set_cons_succ]
    refine wpAnyH_done (by kernel_rfl) ?_ _
    have f1 := HF.out.1
    have f2 := HF.out.2.1
    have f3 := HF.out.2.2
    generalize max y (-y) = F at *
    have ws : IntKind.i64.wrap (rate - F) = rate - F := by rw [IntKind.wrap_i64]; omega
    clear HF wn
    have hy0 := HY.out.1 gp
    clear HY
    go_wp2
    go_quiet (fail)
    go_wp2
    go_ret
    exact ⟨rfl, below_drewN HB9.out _⟩
  · have gn : ¬ 0 < g := by omega
    have gnb : decide (0 < g) = false := by simp; omega
    clear hgo k5b HK5
    go_wp2_with fail
    refine (simple9_any _).mono ?_
    rintro e w2 ⟨rfl, hb⟩
    obtain ⟨w3, hw3⟩ : ∃ w3, w3 = w2.alloc (.cells #[.int .i64 429496729, .int .i64 0, .slice none 0 0, .int .i64 0, .int .i64 0, .int .i64 1, .int .i64 0, .int .i64 0] 27) := ⟨_, rfl⟩
    have hb3 : Below w.heap.size w w3 := by rw [hw3]; exact bchain (bchain HB1.out hb) (bel1 _ _)
    have hx0 : w3.cell? ⟨w2.heap.size, 0, none⟩ = some (.int .i64 429496729) := by rw [hw3]; simp [go_sem]
    have hf0 : w3.frozen? ⟨w2.heap.size, 0, none⟩ = false := by rw [hw3]; simp [go_sem]
    have HX : Q8 w2.heap.size (.int .i64 429496729) (.int .i64 0) (.slice none 0 0) (.int .i64 0) (.int .i64 0) (.int .i64 1) (.int .i64 0) (.int .i64 0) w3 := by rw [hw3]; exact Q8.new _ _ _ _ _ _ _ _ _ _
    have hle : w.heap.size ≤ w2.heap.size := (bchain HB1.out hb).size
    go_upto_region 6 with fail
    rw [← hw3]
    clear hw3 hb HB1
    generalize w2.heap.size = bx at *
    obtain ⟨w4, hw4⟩ : ∃ w4, w4 = w3.setCell ⟨bx, 0, none⟩ (.int .i64 rate) := ⟨_, rfl⟩
    have HB4 : Hid (Below w.heap.size w w4) := by rw [hw4]; exact hb3.setCell hle _
    have HX4 : Q8 bx (.int .i64 rate) (.int .i64 0) (.slice none 0 0) (.int .i64 0) (.int .i64 0) (.int .i64 1) (.int .i64 0) (.int .i64 0) w4 := by
      rw [hw4]
      exact ⟨World.cell?_setCell_same' _ _ _ (by rw [HX.c0]; rfl), (World.cell?_setCell_other _ _ _ _ (by simp)).trans HX.c1, (World.cell?_setCell_other _ _ _ _ (by simp)).trans HX.c2, (World.cell?_setCell_other _ _ _ _ (by simp)).trans HX.c3, (World.cell?_setCell_other _ _ _ _ (by simp)).trans HX.c4, (World.cell?_setCell_other _ _ _ _ (by simp)).trans HX.c5, (World.cell?_setCell_other _ _ _ _ (by simp)).trans HX.c6, (World.cell?_setCell_other _ _ _ _ (by simp)).trans HX.c7⟩
    go_upto_region 7 with fail
    rw [← hw4]
    clear hw4 hb3 hx0 hf0 HX hle
    go_wp2_with fail
    refine (CB.out _).mono ?_
    rintro e w5 ⟨m1, m2, rfl, hN⟩
    obtain ⟨w6, hw6⟩ : ∃ w6, w6 = w5.alloc (.cells #[.slice (some ⟨m1, 0, none⟩) 1 1, .slice (some ⟨m2, 0, none⟩) 1 1, .int .i64 0] 38) := ⟨_, rfl⟩
    obtain ⟨w7, hw7⟩ : ∃ w7, w7 = (w6.alloc (.cells #[.int .i64 0] 22)).alloc (.cells #[.int .i64 g] 22) := ⟨_, rfl⟩
    have hb6 : Below w5.heap.size w5 w6 := by rw [hw6]; exact bel1 _ _
    have hb7 : Below w6.heap.size w6 w7 := by rw [hw7]; exact bel2 _ _ _
    have HX6 : Q8 bx (.int .i64 rate) (.int .i64 0) (.slice none 0 0) (.int .i64 0) (.int .i64 0) (.int .i64 1) (.int .i64 0) (.int .i64 0) w6 := (HX4.later hN.b).later hb6
    have HS6 : Y3 w5.heap.size (.slice (some ⟨m1, 0, none⟩) 1 1) (.slice (some ⟨m2, 0, none⟩) 1 1) (.int .i64 0) w6 := by rw [hw6]; exact Y3.new _ _ _ _ _
    have HB7 : Hid (Below w.heap.size w w7) := bchain (bchain (bchain HB4.out hN.b) hb6) hb7
    have HM : Hid (Ar w7 (.slice (some ⟨m1, 0, none⟩) 1 1) 1 (fun _ => 0) ∧ Ar w7 (.slice (some ⟨m2, 0, none⟩) 1 1) 1 (fun _ => 0)) := ⟨((no9_ar hN (by omega)).1.later hb6).later hb7, ((no9_ar hN (by omega)).2.later hb6).later hb7⟩
    have HP : Hid (Ar w7 (.slice (some ⟨w6.heap.size, 0, none⟩) 1 1) 1 (fun _ => 0)) := by rw [hw7]; exact (one_ar9 w6 0 (by omega) (by omega) 22).later (bel1 _ _)
    have HG : Hid (Ar w7 (.slice (some ⟨w6.heap.size + 1, 0, none⟩) 1 1) 1 (fun _ => g)) := by rw [hw7]; have h := one_ar9 (w6.alloc (.cells #[.int .i64 0] 22)) g (by omega) (by omega) 22; rw [World.size_alloc] at h; exact h
    have HCS := CS.out w7 m1 m2 w6.heap.size (w6.heap.size + 1) (HT.out.later HB7.out) HM.out.1 HM.out.2 HP.out HG.out
    clear hN hb6 hb7 HX4 HB4 CB CS HM HP HG
    go_upto_region 8 with fail
    rw [← hw6]
    clear hw6
    generalize w5.heap.size = bs at *
    obtain ⟨x0, x1, x2, x3, x4, x5, x6, x7⟩ := HX6
    have y0 := HS6.c0
    have y1 := HS6.c1
    have y2 := HS6.c2
    clear HS6
    go_wp2_with (rw [← hw7]; refine HCS.mono ?_; rintro e w8 ⟨g1', g2', g3, rfl, hA, hb⟩; have HB8 : Hid (Below w.heap.size w w8) := bchain HB7.out hb; have HA : Hid (Ar w8 (.slice (some ⟨g3, 0, none⟩) 1 1) 1 (fun _ => y)) := hA; clear hb hA HCS hw7)
    obtain ⟨w9, hw9⟩ : ∃ w9, w9 = w8.alloc (.cells #[.slice (some ⟨g1', 0, none⟩) 1 1, .slice (some ⟨g2', 0, none⟩) 1 1, .int .i64 1] 38) := ⟨_, rfl⟩
    have c9 : w9.cell? ⟨g3, 0, none⟩ = some (.int .i64 y) := by
      obtain ⟨b, o, e, h', -, -⟩ := (HA.out.later (bel1 w8 (.cells #[.slice (some ⟨g1', 0, none⟩) 1 1, .slice (some ⟨g2', 0, none⟩) 1 1, .int .i64 1] 38))).at 0 (by omega)
      cases e
      rw [hw9]
      exact h'
    have HB9 : Hid (Below w.heap.size w w9.drew) := by rw [hw9]; exact (bchain HB8.out (bel1 _ _)).drew
    rw [← hw9]
    clear hw9 HB8 HA HB7 x0 x1 x2 x3 x4 x5 x6 x7 y0 y1 y2 HT
    have wn : IntKind.i64.wrap (-y) = -y := by rw [IntKind.wrap_i64]; omega
    refine wp_region_held_drew (S := fun W' => W'.cell? ⟨g3, 0, none⟩ = some (.int .i64 y)) (by kernel_rfl) (cell_drew c9) (fun HS => ?_)
    clear c9
    generalize w9.drew = q0 at *
    refine wpAnyH_take (i := 0) (v := ?_) rfl (by kernel_rfl) (by kernel_rfl) (by kernel_rfl) (fun _ _ _ h => h) (Or.inl ⟨by kernel_rfl, ?_⟩) HS ?_
    rotate_left
    · (rintro w cy; go_simp) <;> with_reducible rfl
    try simp only [Act.put, List.getElem_toArray, List.getElem_cons_succ, List.getElem_cons_zero, List.setIfInBounds_toArray, List.set_cons_zero, List.set_cons_succ]
    refine wpAnyH_take (i := 1) (v := ?_) rfl (by kernel_rfl) (by kernel_rfl) (by kernel_rfl) (fun _ _ _ h => h) (Or.inl ⟨by kernel_rfl, ?_⟩) HS ?_
    rotate_left
    · (rintro w cy; go_simp) <;> with_reducible rfl
    try simp only [Act.put, List.getElem_toArray, List.getElem_cons_succ, List.getElem_cons_zero, List.setIfInBounds_toArray, List.set_cons_zero, List.set_cons_succ]
    refine wpAnyH_take (i := 2) (v := ?_) rfl (by kernel_rfl) (by kernel_rfl) (by kernel_rfl) (fun _ _ _ h => h) (Or.inl ⟨by kernel_rfl, ?_⟩) HS ?_
    rotate_left
    · (rintro w cy; go_simp) <;> with_reducible rfl
    try simp only [Act.put, List.getElem_toArray, List.getElem_cons_succ, List.getElem_cons_zero, List.setIfInBounds_toArray, List.set_cons_zero, List.set_cons_succ]
    refine wpAnyH_take (i := 3) (v := ?_) rfl (by kernel_rfl) (by kernel_rfl) (by kernel_rfl) (fun _ _ _ h => h) (Or.inl ⟨by kernel_rfl, ?_⟩) HS ?_
    rotate_left
    · (rintro w cy; go_simp) <;> with_reducible rfl
    try simp only [Act.put, List.getElem_toArray, List.getElem_cons_succ, List.getElem_cons_zero, List.setIfInBounds_toArray, List.set_cons_zero, List.set_cons_succ]
    refine wpAnyH_take (i := 4) (v := ?_) rfl (by kernel_rfl) (by kernel_rfl) (by kernel_rfl) (fun _ _ _ h => h) (Or.inl ⟨by kernel_rfl, ?_⟩) HS ?_
    rotate_left
    · (rintro w cy; go_simp) <;> with_reducible rfl
    try simp only [Act.put, List.getElem_toArray, List.getElem_cons_succ, List.getElem_cons_zero, List.setIfInBounds_toArray, List.set_cons_zero, List.set_cons_succ]
    refine wpAnyH_take (i := 5) (v := ?_) rfl (by kernel_rfl) (by kernel_rfl) (by kernel_rfl) (fun _ _ _ h => h) (Or.inl ⟨by kernel_rfl, ?_⟩) HS ?_
    rotate_left
    · (rintro w cy; go_simp) <;> with_reducible rfl
    try simp only [Act.put, List.getElem_toArray, List.getElem_cons_succ, List.getElem_cons_zero, List.setIfInBounds_toArray, List.set_cons_zero, List.set_cons_succ]
    refine wpAnyH_take (i := 6) (v := ?_) rfl (by kernel_rfl) (by kernel_rfl) (by kernel_rfl) (fun _ _ _ h => h) (Or.inl ⟨by kernel_rfl, ?_⟩) HS ?_
    rotate_left
    · (rintro w cy; go_simp) <;> with_reducible rfl
    try simp only [Act.put, List.getElem_toArray, List.getElem_cons_succ, List.getElem_cons_zero, List.setIfInBounds_toArray, List.set_cons_zero, List.set_cons_succ]
    refine wpAnyH_ready (rs := [7]) (by kernel_rfl) (by simp) ?_
    refine AllReadyH.cons rfl (fun K hK => ?_) AllReadyH.nil
    go_simp
    refine hK.out _ _ HS (fun HS => ?_)
    clear hK K
    refine wpAnyH_take (i := 8) (v := ?_) rfl (by kernel_rfl) (by kernel_rfl) (by kernel_rfl) (fun _ _ _ h => h) (Or.inl ⟨by kernel_rfl, ?_⟩) HS ?_
    rotate_left
    · (rintro w cy; go_simp) <;> with_reducible rfl
    try simp only [Act.put, List.getElem_toArray, List.getElem_cons_succ, List.getElem_cons_zero, List.setIfInBounds_toArray, List.set_cons_zero, List.set_cons_succ]
    refine wpAnyH_done (by kernel_rfl) ?_ _
    have f1 := HF.out.1
    have f2 := HF.out.2.1
    have f3 := HF.out.2.2
    generalize max y (-y) = F at *
    have ws : IntKind.i64.wrap (rate - F) = rate - F := by rw [IntKind.wrap_i64]; omega
    clear HF wn
    have hy0 := HY.out.2 (by omega)
    clear HY
    by_cases yz : y = 0
    · have yb : (y == 0) = true := by simp [yz]
      have yc : y ≤ 0 := by omega
      clear yz
      go_wp2
      go_quiet (fail)
      go_wp2
      go_ret
      exact ⟨rfl, below_drewN HB9.out _⟩
    have yb : (y == 0) = false := by simp [yz]
    have yc : decide (y ≤ 0) = false := by simp; omega
    have yd : ¬ y ≤ 0 := by omega
    clear yz
    go_wp2
    go_quiet (fail)
    go_wp2
    go_ret
    exact ⟨rfl, below_drewN HB9.out _⟩
end Go.Proofs.YtcdehbhdloaieaaDoor
