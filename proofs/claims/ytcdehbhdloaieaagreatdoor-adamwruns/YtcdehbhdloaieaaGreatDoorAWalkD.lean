/-
  The contracts of adamw's noughts, Begin and stepOf.
-/
import Derived.Test.YtcdehbhdloaieaaGreatDoorAWalkC
set_option linter.unusedVariables false
set_option linter.unusedSimpArgs false
namespace Go.Proofs.YtcdehbhdloaieaaGreatDoor
open Go.RowKit

/-- Two rows of noughts in memory of their own. -/
structure No9 (w : World) (n g1 g2 : Nat) (w' : World) : Prop where
  r1 : Rw g1 n (fun _ => .int .i64 0) w'
  r2 : Rw g2 n (fun _ => .int .i64 0) w'
  l1 : w.heap.size ≤ g1 ∧ g1 < w'.heap.size
  l2 : w.heap.size ≤ g2 ∧ g2 < w'.heap.size
  ne : g1 ≠ g2
  b : Below w.heap.size w w'
set_option maxRecDepth 100000 in
set_option maxHeartbeats 4000000 in
theorem nought9_any (n : Nat) (hn : n ≤ 65536) (w : World) :
    Calls Tryz.prog 21 #[.int .i64 (n : Int)] w fun e w' => ∃ g1 g2 : Nat, e = .returned (.agg #[.slice (some ⟨g1, 0, none⟩) n n, .slice (some ⟨g2, 0, none⟩) n n, .int .i64 0]) ∧ No9 w n g1 g2 w' := by
  have hmk := make_fx n (by omega)
  obtain ⟨w1, hw1⟩ : ∃ w1, w1 = w.alloc (.cells #[.slice none 0 0, .slice none 0 0, .int .i64 0] 30) := ⟨_, rfl⟩
  have hb1 : Below w.heap.size w w1 := by rw [hw1]; exact bel1 _ _
  have hY1 : Y3 w.heap.size (.slice none 0 0) (.slice none 0 0) (.int .i64 0) w1 := by rw [hw1]; exact Y3.new _ _ _ _ _
  go_enter Tryz.func21, Tryz.ntmps21
  go_upto_region 1 with fail
  rw [← hw1]
  clear hw1
  have hbD : Below w1.heap.size w1 w1.drew := (Below.refl _ _).drew
  have HB : Hid (Below w.heap.size w w1.drew) := bchain hb1 hbD
  have HY : Hid (Y3 w.heap.size (.slice none 0 0) (.slice none 0 0) (.int .i64 0) w1.drew) := hY1.later hbD
  refine wp_region_held_drew (S := fun _ => True) (by kernel_rfl) trivial (fun HS => ?_)
  clear hbD hb1 hY1
  generalize w1.drew = q0 at *
  refine wpAnyH_take (i := 0) (v := ?_) rfl (by kernel_rfl) (by kernel_rfl) (by kernel_rfl) (fun _ _ _ h => h) (Or.inl ⟨by kernel_rfl, ?_⟩) HS ?_
  rotate_left
  · (rintro w -; go_simp) <;> with_reducible rfl
  try simp only [Act.put, List.getElem_toArray, List.getElem_cons_succ, List.getElem_cons_zero, List.setIfInBounds_toArray, List.set_cons_zero, List.set_cons_succ]
  refine wpAnyH_take (i := 2) (v := ?_) rfl (by kernel_rfl) (by kernel_rfl) (by kernel_rfl) (fun _ _ _ h => h) (Or.inl ⟨by kernel_rfl, ?_⟩) HS ?_
  rotate_left
  · (rintro w -; go_simp) <;> with_reducible rfl
  try simp only [Act.put, List.getElem_toArray, List.getElem_cons_succ, List.getElem_cons_zero, List.setIfInBounds_toArray, List.set_cons_zero, List.set_cons_succ]
  refine wpAnyH_ready (rs := [1, 3]) (by kernel_rfl) (by simp) ?_
  refine AllReadyH.cons rfl (fun K hK => ?_) (AllReadyH.cons rfl (fun K hK => ?_) AllReadyH.nil)
  · go_simp
    refine hK.out _ _ trivial (fun HS => ?_)
    clear hK K
    have HR1 : Hid (Rw q0.heap.size n (fun _ => .int .i64 0) (q0.alloc (.cells (madeCells #[.int .i64 0] n) 22))) := Rw.made q0 (.int .i64 0) n 22
    have HX1 : Hid (w.heap.size < q0.heap.size ∧ q0.heap.size < (q0.alloc (.cells (madeCells #[.int .i64 0] n) 22)).heap.size) := ⟨HY.out.lt, by rw [World.size_alloc]; omega⟩
    replace HB : Hid (Below w.heap.size w (q0.alloc (.cells (madeCells #[.int .i64 0] n) 22))) := bchain HB.out (bel1 _ _)
    replace HY : Hid (Y3 w.heap.size (.slice none 0 0) (.slice none 0 0) (.int .i64 0) (q0.alloc (.cells (madeCells #[.int .i64 0] n) 22))) := HY.out.later (bel1 _ _)
    generalize q0.alloc (.cells (madeCells #[.int .i64 0] n) 22) = q1 at *
    generalize q0.heap.size = g1 at *
    refine wpAnyH_ready (rs := [3]) (by kernel_rfl) (by simp) ?_
    refine AllReadyH.cons rfl (fun K hK => ?_) AllReadyH.nil
    go_simp
    refine hK.out _ _ trivial (fun HS => ?_)
    clear hK K
    have HR2 : Hid (Rw q1.heap.size n (fun _ => .int .i64 0) (q1.alloc (.cells (madeCells #[.int .i64 0] n) 22))) := Rw.made q1 (.int .i64 0) n 22
    replace HR1 : Hid (Rw g1 n (fun _ => .int .i64 0) (q1.alloc (.cells (madeCells #[.int .i64 0] n) 22))) := HR1.out.later (bel1 _ _)
    have HX2 : Hid (g1 < q1.heap.size ∧ q1.heap.size < (q1.alloc (.cells (madeCells #[.int .i64 0] n) 22)).heap.size) := ⟨HX1.out.2, by rw [World.size_alloc]; omega⟩
    replace HB : Hid (Below w.heap.size w (q1.alloc (.cells (madeCells #[.int .i64 0] n) 22))) := bchain HB.out (bel1 _ _)
    replace HY : Hid (Y3 w.heap.size (.slice none 0 0) (.slice none 0 0) (.int .i64 0) (q1.alloc (.cells (madeCells #[.int .i64 0] n) 22))) := HY.out.later (bel1 _ _)
    generalize q1.alloc (.cells (madeCells #[.int .i64 0] n) 22) = q2 at *
    generalize q1.heap.size = g2 at *
    refine wpAnyH_take (i := 4) (v := ?_) rfl (by kernel_rfl) (by kernel_rfl) (by kernel_rfl) (fun _ _ _ h => h) (Or.inl ⟨by kernel_rfl, ?_⟩) HS ?_
    rotate_left
    · (rintro w -; go_simp) <;> with_reducible rfl
    try simp only [Act.put, List.getElem_toArray, List.getElem_cons_succ, List.getElem_cons_zero, List.setIfInBounds_toArray, List.set_cons_zero, List.set_cons_succ]
    have y0 := HY.out.c0
    have y1 := HY.out.c1
    have y2 := HY.out.c2
    have f0 := HY.out.f0
    have f1 := HY.out.f1
    have f2 := HY.out.f2
    refine wpAnyH_ready (rs := [5]) (by kernel_rfl) (by simp) ?_
    refine AllReadyH.cons rfl (fun K hK => ?_) AllReadyH.nil
    go_simp
    refine hK.out _ _ trivial (fun HS => ?_)
    clear hK K
    refine wpAnyH_done (by kernel_rfl) ?_ _
    clear HS hmk
    have HZ : Hid (Y3 w.heap.size (.slice (some ⟨g1, 0, none⟩) n n) (.slice (some ⟨g2, 0, none⟩) n n) (.int .i64 0) (((q2.setCell ⟨w.heap.size, 0, none⟩ (.slice (some ⟨g1, 0, none⟩) n n)).setCell ⟨w.heap.size, 1, none⟩ (.slice (some ⟨g2, 0, none⟩) n n)).setCell ⟨w.heap.size, 2, none⟩ (.int .i64 0))) := ((HY.out.set0 _).set1 _).set2 _
    have hg : w.heap.size < g1 ∧ w.heap.size < g2 ∧ g1 < q2.heap.size ∧ g2 < q2.heap.size ∧ g1 ≠ g2 := by have h1 := HX1.out; have h2 := HX2.out; omega
    have HN : Hid (No9 w n g1 g2 (((q2.setCell ⟨w.heap.size, 0, none⟩ (.slice (some ⟨g1, 0, none⟩) n n)).setCell ⟨w.heap.size, 1, none⟩ (.slice (some ⟨g2, 0, none⟩) n n)).setCell ⟨w.heap.size, 2, none⟩ (.int .i64 0))) := ⟨((HR1.out.far _ (by dsimp only; omega)).far _ (by dsimp only; omega)).far _ (by dsimp only; omega), ((HR2.out.far _ (by dsimp only; omega)).far _ (by dsimp only; omega)).far _ (by dsimp only; omega), ⟨by omega, by simp only [World.size_setCell]; omega⟩, ⟨by omega, by simp only [World.size_setCell]; omega⟩, by omega, ((HB.out.setCell (Nat.le_refl _) _).setCell (Nat.le_refl _) _).setCell (Nat.le_refl _) _⟩
    clear y0 y1 y2 f0 f1 f2 HY HB HR1 HR2 HX1 HX2 hg
    generalize (((q2.setCell ⟨w.heap.size, 0, none⟩ (.slice (some ⟨g1, 0, none⟩) n n)).setCell ⟨w.heap.size, 1, none⟩ (.slice (some ⟨g2, 0, none⟩) n n)).setCell ⟨w.heap.size, 2, none⟩ (.int .i64 0)) = wE at *
    have z0 := HZ.out.c0
    have z1 := HZ.out.c1
    have z2 := HZ.out.c2
    go_wp2
    exact bodyPost_ret (v := .agg #[.slice (some ⟨g1, 0, none⟩) n n, .slice (some ⟨g2, 0, none⟩) n n, .int .i64 0]) (by simp [results, Tryz.results21, go_sem, z0, z1, z2]) rfl ⟨g1, g2, rfl, HN.out⟩
  · go_simp
    refine hK.out _ _ trivial (fun HS => ?_)
    clear hK K
    have HR1 : Hid (Rw q0.heap.size n (fun _ => .int .i64 0) (q0.alloc (.cells (madeCells #[.int .i64 0] n) 22))) := Rw.made q0 (.int .i64 0) n 22
    have HX1 : Hid (w.heap.size < q0.heap.size ∧ q0.heap.size < (q0.alloc (.cells (madeCells #[.int .i64 0] n) 22)).heap.size) := ⟨HY.out.lt, by rw [World.size_alloc]; omega⟩
    replace HB : Hid (Below w.heap.size w (q0.alloc (.cells (madeCells #[.int .i64 0] n) 22))) := bchain HB.out (bel1 _ _)
    replace HY : Hid (Y3 w.heap.size (.slice none 0 0) (.slice none 0 0) (.int .i64 0) (q0.alloc (.cells (madeCells #[.int .i64 0] n) 22))) := HY.out.later (bel1 _ _)
    generalize q0.alloc (.cells (madeCells #[.int .i64 0] n) 22) = q1 at *
    generalize q0.heap.size = g2 at *
    refine wpAnyH_ready (rs := [1]) (by kernel_rfl) (by simp) ?_
    refine AllReadyH.cons rfl (fun K hK => ?_) AllReadyH.nil
    go_simp
    refine hK.out _ _ trivial (fun HS => ?_)
    clear hK K
    have HR2 : Hid (Rw q1.heap.size n (fun _ => .int .i64 0) (q1.alloc (.cells (madeCells #[.int .i64 0] n) 22))) := Rw.made q1 (.int .i64 0) n 22
    replace HR1 : Hid (Rw g2 n (fun _ => .int .i64 0) (q1.alloc (.cells (madeCells #[.int .i64 0] n) 22))) := HR1.out.later (bel1 _ _)
    have HX2 : Hid (g2 < q1.heap.size ∧ q1.heap.size < (q1.alloc (.cells (madeCells #[.int .i64 0] n) 22)).heap.size) := ⟨HX1.out.2, by rw [World.size_alloc]; omega⟩
    replace HB : Hid (Below w.heap.size w (q1.alloc (.cells (madeCells #[.int .i64 0] n) 22))) := bchain HB.out (bel1 _ _)
    replace HY : Hid (Y3 w.heap.size (.slice none 0 0) (.slice none 0 0) (.int .i64 0) (q1.alloc (.cells (madeCells #[.int .i64 0] n) 22))) := HY.out.later (bel1 _ _)
    generalize q1.alloc (.cells (madeCells #[.int .i64 0] n) 22) = q2 at *
    generalize q1.heap.size = g1 at *
    refine wpAnyH_take (i := 4) (v := ?_) rfl (by kernel_rfl) (by kernel_rfl) (by kernel_rfl) (fun _ _ _ h => h) (Or.inl ⟨by kernel_rfl, ?_⟩) HS ?_
    rotate_left
    · (rintro w -; go_simp) <;> with_reducible rfl
    try simp only [Act.put, List.getElem_toArray, List.getElem_cons_succ, List.getElem_cons_zero, List.setIfInBounds_toArray, List.set_cons_zero, List.set_cons_succ]
    have y0 := HY.out.c0
    have y1 := HY.out.c1
    have y2 := HY.out.c2
    have f0 := HY.out.f0
    have f1 := HY.out.f1
    have f2 := HY.out.f2
    refine wpAnyH_ready (rs := [5]) (by kernel_rfl) (by simp) ?_
    refine AllReadyH.cons rfl (fun K hK => ?_) AllReadyH.nil
    go_simp
    refine hK.out _ _ trivial (fun HS => ?_)
    clear hK K
    refine wpAnyH_done (by kernel_rfl) ?_ _
    clear HS hmk
    have HZ : Hid (Y3 w.heap.size (.slice (some ⟨g1, 0, none⟩) n n) (.slice (some ⟨g2, 0, none⟩) n n) (.int .i64 0) (((q2.setCell ⟨w.heap.size, 0, none⟩ (.slice (some ⟨g1, 0, none⟩) n n)).setCell ⟨w.heap.size, 1, none⟩ (.slice (some ⟨g2, 0, none⟩) n n)).setCell ⟨w.heap.size, 2, none⟩ (.int .i64 0))) := ((HY.out.set0 _).set1 _).set2 _
    have hg : w.heap.size < g1 ∧ w.heap.size < g2 ∧ g1 < q2.heap.size ∧ g2 < q2.heap.size ∧ g1 ≠ g2 := by have h1 := HX1.out; have h2 := HX2.out; omega
    have HN : Hid (No9 w n g1 g2 (((q2.setCell ⟨w.heap.size, 0, none⟩ (.slice (some ⟨g1, 0, none⟩) n n)).setCell ⟨w.heap.size, 1, none⟩ (.slice (some ⟨g2, 0, none⟩) n n)).setCell ⟨w.heap.size, 2, none⟩ (.int .i64 0))) := ⟨((HR2.out.far _ (by dsimp only; omega)).far _ (by dsimp only; omega)).far _ (by dsimp only; omega), ((HR1.out.far _ (by dsimp only; omega)).far _ (by dsimp only; omega)).far _ (by dsimp only; omega), ⟨by omega, by simp only [World.size_setCell]; omega⟩, ⟨by omega, by simp only [World.size_setCell]; omega⟩, by omega, ((HB.out.setCell (Nat.le_refl _) _).setCell (Nat.le_refl _) _).setCell (Nat.le_refl _) _⟩
    clear y0 y1 y2 f0 f1 f2 HY HB HR1 HR2 HX1 HX2 hg
    generalize (((q2.setCell ⟨w.heap.size, 0, none⟩ (.slice (some ⟨g1, 0, none⟩) n n)).setCell ⟨w.heap.size, 1, none⟩ (.slice (some ⟨g2, 0, none⟩) n n)).setCell ⟨w.heap.size, 2, none⟩ (.int .i64 0)) = wE at *
    have z0 := HZ.out.c0
    have z1 := HZ.out.c1
    have z2 := HZ.out.c2
    go_wp2
    exact bodyPost_ret (v := .agg #[.slice (some ⟨g1, 0, none⟩) n n, .slice (some ⟨g2, 0, none⟩) n n, .int .i64 0]) (by simp [results, Tryz.results21, go_sem, z0, z1, z2]) rfl ⟨g1, g2, rfl, HN.out⟩
set_option maxRecDepth 100000 in
set_option maxHeartbeats 4000000 in
theorem begin9_ok (n : Nat) (hn : n ≤ 65536) (w : World) :
    Calls Tryz.prog 15 #[.int .i64 (n : Int)] w fun e w' => ∃ g1 g2 : Nat, e = .returned (.tuple #[.agg #[.slice (some ⟨g1, 0, none⟩) n n, .slice (some ⟨g2, 0, none⟩) n n, .int .i64 0], .int .i64 0]) ∧ No9 w n g1 g2 w' := by
  have CN : Hid (∀ W : World, Calls Tryz.prog 21 #[.int .i64 (n : Int)] W fun e w' => ∃ g1 g2 : Nat, e = .returned (.agg #[.slice (some ⟨g1, 0, none⟩) n n, .slice (some ⟨g2, 0, none⟩) n n, .int .i64 0]) ∧ No9 W n g1 g2 w') := fun W => nought9_any n hn W
  have q0 : ¬ (n : Int) < 0 := by omega
  have q1 : ¬ (65536 : Int) < (n : Int) := by omega
  obtain ⟨w1, hw1⟩ : ∃ w1, w1 = w.alloc (.cells #[.slice none 0 0, .slice none 0 0, .int .i64 0] 30) := ⟨_, rfl⟩
  have HB1 : Hid (Below w.heap.size w w1) := by rw [hw1]; exact bel1 _ _
  have hY1 : Y3 w.heap.size (.slice none 0 0) (.slice none 0 0) (.int .i64 0) w1 := by rw [hw1]; exact Y3.new _ _ _ _ _
  go_enter Tryz.func15, Tryz.ntmps15
  go_upto_region 1 with fail
  rw [← hw1]
  clear hw1
  go_wp2_with fail
  refine (CN.out _).mono ?_
  rintro e w2 ⟨g1, g2, rfl, hN⟩
  have hY2 := hY1.later hN.b
  have HN : Hid (No9 w1 n g1 g2 w2) := hN
  have hlt := hY1.lt
  clear hN CN hY1
  have y0 := hY2.c0
  have y1 := hY2.c1
  have y2 := hY2.c2
  have f0 := hY2.f0
  have f1 := hY2.f1
  have f2 := hY2.f2
  have HY2 : Hid (Y3 w.heap.size (.slice none 0 0) (.slice none 0 0) (.int .i64 0) w2) := hY2
  clear hY2
  go_wp2
  have HZ := ((HY2.out.set0 (.slice (some ⟨g1, 0, none⟩) n n)).set1 (.slice (some ⟨g2, 0, none⟩) n n)).set2 (.int .i64 0)
  have z0 := HZ.c0
  have z1 := HZ.c1
  have z2 := HZ.c2
  have h1 := HN.out.l1
  have h2 := HN.out.l2
  exact bodyPost_ret (v := .tuple #[.agg #[.slice (some ⟨g1, 0, none⟩) n n, .slice (some ⟨g2, 0, none⟩) n n, .int .i64 0], .int .i64 0]) (by simp [results, Tryz.results15, go_sem, z0, z1, z2]) rfl ⟨g1, g2, rfl, ((HN.out.r1.far _ (by dsimp only; omega)).far _ (by dsimp only; omega)).far _ (by dsimp only; omega), ((HN.out.r2.far _ (by dsimp only; omega)).far _ (by dsimp only; omega)).far _ (by dsimp only; omega), ⟨by omega, by simp only [World.size_setCell]; omega⟩, ⟨by omega, by simp only [World.size_setCell]; omega⟩, HN.out.ne, (((bchain HB1.out HN.out.b).setCell (Nat.le_refl _) _).setCell (Nat.le_refl _) _).setCell (Nat.le_refl _) _⟩
set_option maxRecDepth 100000 in
theorem begin9_no (n : Int) (hn : ¬ (0 ≤ n ∧ n ≤ 65536)) (w : World) :
    Calls Tryz.prog 15 #[.int .i64 n] w fun e w' => e = .returned (.tuple #[.agg #[.slice none 0 0, .slice none 0 0, .int .i64 0], .int .i64 2]) ∧ Below w.heap.size w w' := by
  have hY1 := Y3.new w (.slice none 0 0) (.slice none 0 0) (.int .i64 0) 30
  have HB : Hid (Below w.heap.size w (w.alloc (.cells #[.slice none 0 0, .slice none 0 0, .int .i64 0] 30))) := bel1 _ _
  by_cases q0 : n < 0
  · go_enter Tryz.func15, Tryz.ntmps15
    go_wp2
    have z0 := hY1.c0
    have z1 := hY1.c1
    have z2 := hY1.c2
    exact bodyPost_ret (v := .tuple #[.agg #[.slice none 0 0, .slice none 0 0, .int .i64 0], .int .i64 2]) (by simp [results, Tryz.results15, go_sem, z0, z1, z2]) rfl ⟨rfl, HB.out⟩
  · have q1 : (65536 : Int) < n := by omega
    go_enter Tryz.func15, Tryz.ntmps15
    go_wp2
    have z0 := hY1.c0
    have z1 := hY1.c1
    have z2 := hY1.c2
    exact bodyPost_ret (v := .tuple #[.agg #[.slice none 0 0, .slice none 0 0, .int .i64 0], .int .i64 2]) (by simp [results, Tryz.results15, go_sem, z0, z1, z2]) rfl ⟨rfl, HB.out⟩
/-- Twelve cells of a step. -/
def z12 : Nat → Value := fun k => if k = 2 then .slice none 0 0 else .int .i64 0
set_option maxRecDepth 100000 in
set_option maxHeartbeats 8000000 in
theorem stepOf_of (B W : Int) (adr : Option Addr) (n cap : Nat) (b1 b2 ep dc cl t rt o1 o2 e1 e2 : Int) (w : World)
    (CR : Hid (∀ W' : World, Below w.heap.size w W' → Calls Tryz.prog 37 #[.agg #[.int .i64 B, .int .i64 W, .slice adr n cap], .int .i64 t] W' fun e w' => e = .returned (.tuple #[.int .i64 rt, .int .i64 0]) ∧ Below W'.heap.size W' w'))
    (C1 : Hid (∀ W' : World, Calls Tryz.prog 38 #[.int .i64 b1, .int .i64 t] W' fun e w' => e = .returned (.tuple #[.int .i64 o1, .int .i64 e1]) ∧ Below W'.heap.size W' w'))
    (C2 : Hid (∀ W' : World, Calls Tryz.prog 38 #[.int .i64 b2, .int .i64 t] W' fun e w' => e = .returned (.tuple #[.int .i64 o2, .int .i64 e2]) ∧ Below W'.heap.size W' w')) :
    Calls Tryz.prog 19 #[.agg #[.int .i64 B, .int .i64 W, .slice adr n cap, .int .i64 b1, .int .i64 b2, .int .i64 ep, .int .i64 dc, .int .i64 cl], .int .i64 t] w fun e w' => e = .returned (.agg #[.int .i64 B, .int .i64 W, .slice adr n cap, .int .i64 b1, .int .i64 b2, .int .i64 ep, .int .i64 dc, .int .i64 cl, .int .i64 t, .int .i64 rt, .int .i64 o1, .int .i64 o2]) ∧ Below w.heap.size w w' := by
  obtain ⟨w1, hw1⟩ : ∃ w1, w1 = (w.alloc (.cells #[.int .i64 B, .int .i64 W, .slice adr n cap, .int .i64 b1, .int .i64 b2, .int .i64 ep, .int .i64 dc, .int .i64 cl] 27)).alloc (.cells #[.int .i64 0, .int .i64 0, .slice none 0 0, .int .i64 0, .int .i64 0, .int .i64 0, .int .i64 0, .int .i64 0, .int .i64 0, .int .i64 0, .int .i64 0, .int .i64 0] 69) := ⟨_, rfl⟩
  have HB1 : Hid (Below w.heap.size w w1) := by rw [hw1]; exact bel2 _ _ _
  have HX : Q8 w.heap.size (.int .i64 B) (.int .i64 W) (.slice adr n cap) (.int .i64 b1) (.int .i64 b2) (.int .i64 ep) (.int .i64 dc) (.int .i64 cl) w1 := by rw [hw1]; exact (Q8.new w _ _ _ _ _ _ _ _ _).later (bel1 _ _)
  have HZ : Hid (Rw (w.heap.size + 1) 12 z12 w1) := by
    rw [hw1]
    refine ⟨fun k hk => ?_, fun k hk => ?_⟩
    · rcases (show k = 0 ∨ k = 1 ∨ k = 2 ∨ k = 3 ∨ k = 4 ∨ k = 5 ∨ k = 6 ∨ k = 7 ∨ k = 8 ∨ k = 9 ∨ k = 10 ∨ k = 11 by omega) with rfl | rfl | rfl | rfl | rfl | rfl | rfl | rfl | rfl | rfl | rfl | rfl <;> simp [go_sem, z12]
    · rcases (show k = 0 ∨ k = 1 ∨ k = 2 ∨ k = 3 ∨ k = 4 ∨ k = 5 ∨ k = 6 ∨ k = 7 ∨ k = 8 ∨ k = 9 ∨ k = 10 ∨ k = 11 by omega) with rfl | rfl | rfl | rfl | rfl | rfl | rfl | rfl | rfl | rfl | rfl | rfl <;> simp [go_sem]
  go_enter Tryz.func19, Tryz.ntmps19
  go_upto_region 1 with fail
  rw [← hw1]
  clear hw1
  have x0 := HX.c0
  have x1 := HX.c1
  have x2 := HX.c2
  go_wp2_with fail
  refine (CR.out _ HB1.out).mono ?_
  rintro e w2 ⟨rfl, hb⟩
  have HB2 : Hid (Below w.heap.size w w2) := bchain HB1.out hb
  replace HX := HX.later hb
  replace HZ : Hid (Rw (w.heap.size + 1) 12 z12 w2) := HZ.out.later hb
  clear hb CR HB1 x0 x1 x2
  have x3 := HX.c3
  go_wp2_with fail
  refine (C1.out _).mono ?_
  rintro e w3 ⟨rfl, hb⟩
  have HB3 : Hid (Below w.heap.size w w3) := bchain HB2.out hb
  replace HX := HX.later hb
  replace HZ : Hid (Rw (w.heap.size + 1) 12 z12 w3) := HZ.out.later hb
  clear hb C1 HB2 x3
  have x4 := HX.c4
  go_wp2_with fail
  refine (C2.out _).mono ?_
  rintro e w4 ⟨rfl, hb⟩
  have HB4 : Hid (Below w.heap.size w w4) := bchain HB3.out hb
  replace HX := HX.later hb
  replace HZ : Hid (Rw (w.heap.size + 1) 12 z12 w4) := HZ.out.later hb
  clear hb C2 HB3 x4
  obtain ⟨gz, hgz⟩ : ∃ x, w.heap.size + 1 = x := ⟨_, rfl⟩
  simp only [hgz] at HZ ⊢
  have hle : w.heap.size ≤ gz := by omega
  clear hgz
  have x0 := HX.c0
  have x1 := HX.c1
  have x2 := HX.c2
  have x3 := HX.c3
  have x4 := HX.c4
  have x5 := HX.c5
  have x6 := HX.c6
  have x7 := HX.c7
  have y0 := HZ.out.c 0 (by omega)
  have f0 := HZ.out.f 0 (by omega)
  have y1 := HZ.out.c 1 (by omega)
  have f1 := HZ.out.f 1 (by omega)
  have y2 := HZ.out.c 2 (by omega)
  have f2 := HZ.out.f 2 (by omega)
  have y3 := HZ.out.c 3 (by omega)
  have f3 := HZ.out.f 3 (by omega)
  have y4 := HZ.out.c 4 (by omega)
  have f4 := HZ.out.f 4 (by omega)
  have y5 := HZ.out.c 5 (by omega)
  have f5 := HZ.out.f 5 (by omega)
  have y6 := HZ.out.c 6 (by omega)
  have f6 := HZ.out.f 6 (by omega)
  have y7 := HZ.out.c 7 (by omega)
  have f7 := HZ.out.f 7 (by omega)
  have y8 := HZ.out.c 8 (by omega)
  have f8 := HZ.out.f 8 (by omega)
  have y9 := HZ.out.c 9 (by omega)
  have f9 := HZ.out.f 9 (by omega)
  have y10 := HZ.out.c 10 (by omega)
  have f10 := HZ.out.f 10 (by omega)
  have y11 := HZ.out.c 11 (by omega)
  have f11 := HZ.out.f 11 (by omega)
  simp only [z12, if_neg (show ¬ (0 : Nat) = 2 by omega), if_neg (show ¬ (1 : Nat) = 2 by omega), if_pos (show (2 : Nat) = 2 from rfl), if_neg (show ¬ (3 : Nat) = 2 by omega), if_neg (show ¬ (4 : Nat) = 2 by omega), if_neg (show ¬ (5 : Nat) = 2 by omega), if_neg (show ¬ (6 : Nat) = 2 by omega), if_neg (show ¬ (7 : Nat) = 2 by omega), if_neg (show ¬ (8 : Nat) = 2 by omega), if_neg (show ¬ (9 : Nat) = 2 by omega), if_neg (show ¬ (10 : Nat) = 2 by omega), if_neg (show ¬ (11 : Nat) = 2 by omega)] at y0 y1 y2 y3 y4 y5 y6 y7 y8 y9 y10 y11
  clear HX
  go_wp2
  have HW := ((((((((((((HZ.out.set 0 (.int .i64 B)).set 1 (.int .i64 W)).set 2 (.slice adr n cap)).set 3 (.int .i64 b1)).set 4 (.int .i64 b2)).set 5 (.int .i64 ep)).set 6 (.int .i64 dc)).set 7 (.int .i64 cl)).set 8 (.int .i64 t)).set 9 (.int .i64 rt)).set 10 (.int .i64 o1)).set 11 (.int .i64 o2))
  have z0 := HW.c 0 (by omega)
  have z1 := HW.c 1 (by omega)
  have z2 := HW.c 2 (by omega)
  have z3 := HW.c 3 (by omega)
  have z4 := HW.c 4 (by omega)
  have z5 := HW.c 5 (by omega)
  have z6 := HW.c 6 (by omega)
  have z7 := HW.c 7 (by omega)
  have z8 := HW.c 8 (by omega)
  have z9 := HW.c 9 (by omega)
  have z10 := HW.c 10 (by omega)
  have z11 := HW.c 11 (by omega)
  simp only [Nat.reduceEqDiff, if_true, if_false, ↓reduceIte] at z0 z1 z2 z3 z4 z5 z6 z7 z8 z9 z10 z11
  exact bodyPost_ret (v := .agg #[.int .i64 B, .int .i64 W, .slice adr n cap, .int .i64 b1, .int .i64 b2, .int .i64 ep, .int .i64 dc, .int .i64 cl, .int .i64 t, .int .i64 rt, .int .i64 o1, .int .i64 o2]) (by simp [results, Tryz.results19, go_sem, z0, z1, z2, z3, z4, z5, z6, z7, z8, z9, z10, z11]) rfl ⟨rfl, ((((((((((((HB4.out.setCell hle _).setCell hle _).setCell hle _).setCell hle _).setCell hle _).setCell hle _).setCell hle _).setCell hle _).setCell hle _).setCell hle _).setCell hle _).setCell hle _)⟩
theorem stepOf_any (B W : Int) (v : Value) (n : Nat) (at' fa : Nat → Int) (b1 b2 ep dc cl t : Int) (w : World) (hA : Drp w v n at' fa) (hI : InR9 B W n at' fa b1 b2 ep dc cl) (B1 : B ≤ 9223372036854775807) (t0 : 1 ≤ t) (t1 : t ≤ 1048576) :
    Calls Tryz.prog 19 #[.agg #[.int .i64 B, .int .i64 W, v, .int .i64 b1, .int .i64 b2, .int .i64 ep, .int .i64 dc, .int .i64 cl], .int .i64 t] w fun e w' => e = .returned (.agg #[.int .i64 B, .int .i64 W, v, .int .i64 b1, .int .i64 b2, .int .i64 ep, .int .i64 dc, .int .i64 cl, .int .i64 t, .int .i64 (rtV B W n at' fa t), .int .i64 (4294967296 - pwN b1 t.toNat), .int .i64 (4294967296 - pwN b2 t.toNat)]) ∧ Below w.heap.size w w' := by
  have hR : ∀ W' : World, Below w.heap.size w W' → _ := fun W' hb => rate_ok B W v n at' fa t W' (hA.later hb) hI.1 B1 t0 t1
  obtain ⟨adr, cap, b, o, rfl, -, -, -, -⟩ := hA
  have e1 : bsA b1 t = 4294967296 - pwN b1 t.toNat := by unfold bsA; rw [if_pos hI.2.1, if_pos (by omega)]
  have e2 : bsA b2 t = 4294967296 - pwN b2 t.toNat := by unfold bsA; rw [if_pos hI.2.2.1, if_pos (by omega)]
  refine stepOf_of B W adr n cap b1 b2 ep dc cl t _ _ _ (pwE b1 t) (pwE b2 t) w hR (fun W' => ?_) (fun W' => ?_)
  · have h := bias_any b1 t W'
    rw [e1] at h
    exact h
  · have h := bias_any b2 t W'
    rw [e2] at h
    exact h
end Go.Proofs.YtcdehbhdloaieaaGreatDoor
