/-
  AdamwRuns: for every inner, parameters and list of gradients the law regattalaw09.AdamwRuns returns true: many steps, one behind the other, lead where the document's do.
-/
import Derived.Test.YtcdehbhdloaieaaGreatDoorABase
import Derived.Test.YtcdehbhdloaieaaGreatDoorAAwake
import Derived.Deep.RegionHeld3
set_option linter.unusedVariables false
set_option linter.unusedSimpArgs false
namespace Go.Proofs.YtcdehbhdloaieaaGreatDoor
open Go.RowKit

theorem make_is9 (n : Nat) (hn : n ≤ 1000000) (w : World) : (Instr.makeSlice 52 (.int .i64 (n : Int)) (.int .i64 (n : Int))).run Tryz.prog w = .ok (.slice (some ⟨w.heap.size, 0, none⟩) n n) (w.alloc (.cells (madeCells #[.int .i64 0] n) 2)) := by
  obtain ⟨i0, hi, hz0, hz1, hz2⟩ := info_parts dinfo_i64
  have h := run_make (P := Tryz.prog) w 52 2 i0 (.int .i64 0) Tryz.underlying52 hi hz0 .i64 .i64 (n : Int) (n : Int) (by omega) (by omega) (by rw [hz2]; omega) (by omega)
  rw [hz1, Nat.mul_one] at h
  exact h
set_option maxRecDepth 100000 in
set_option maxHeartbeats 4000000 in
theorem refBegin9 (n : Nat) (hn : n ≤ 65536) (w : World) :
    Calls Tryz.prog 16 #[.int .i64 (n : Int)] w fun e w' => ∃ g1 g2 : Nat, e = .returned (.agg #[.slice (some ⟨g1, 0, none⟩) n n, .slice (some ⟨g2, 0, none⟩) n n, .int .i64 0]) ∧ No9 w n g1 g2 w' := by
  have hmk := make_is9 n (by omega)
  obtain ⟨w1, hw1⟩ : ∃ w1, w1 = w.alloc (.cells #[.slice none 0 0, .slice none 0 0, .int .i64 0] 54) := ⟨_, rfl⟩
  have hb1 : Below w.heap.size w w1 := by rw [hw1]; exact bel1 _ _
  have hY1 : Y3 w.heap.size (.slice none 0 0) (.slice none 0 0) (.int .i64 0) w1 := by rw [hw1]; exact Y3.new _ _ _ _ _
  go_enter Tryz.func16, Tryz.ntmps16
  go_upto_region 1 with fail
  rw [← hw1]
  clear hw1
  have hbD : Below w1.heap.size w1 w1.drew := (Below.refl _ _).drew
  have HB : Hid (Below w.heap.size w w1.drew) := bchain hb1 hbD
  have HY : Hid (Y3 w.heap.size (.slice none 0 0) (.slice none 0 0) (.int .i64 0) w1.drew) := hY1.later hbD
  refine wp_region_held_drew (S := fun _ => True) (by kernel_rfl) trivial (fun HS => ?_)
  clear hbD hb1 hY1
  generalize w1.drew = q0 at *
  refine wpAnyH_take (i := 0) (v := ?_) rfl (by kernel_rfl) (by kernel_rfl) (by kernel_rfl) (fun _ _ _ h => h) (Or.inl ⟨by kernel_rfl, ?_⟩) HS ?_
  rotate_left
  · (rintro w -; go_simp) <;> with_reducible rfl
  try simp only [Act.put, List.getElem_toArray, List.getElem_cons_succ, List.getElem_cons_zero, List.setIfInBounds_toArray, List.set_cons_zero, List.set_cons_succ]
  refine wpAnyH_take (i := 2) (v := ?_) rfl (by kernel_rfl) (by kernel_rfl) (by kernel_rfl) (fun _ _ _ h => h) (Or.inl ⟨by kernel_rfl, ?_⟩) HS ?_
  rotate_left
  · (rintro w -; go_simp) <;> with_reducible rfl
  try simp only [Act.put, List.getElem_toArray, List.getElem_cons_succ, List.getElem_cons_zero, List.setIfInBounds_toArray, List.set_cons_zero, List.set_cons_succ]
  refine wpAnyH_ready (rs := [1, 3]) (by kernel_rfl) (by simp) ?_
  refine AllReadyH.cons rfl (fun K hK => ?_) (AllReadyH.cons rfl (fun K hK => ?_) AllReadyH.nil)
  · go_simp
    refine hK.out _ _ trivial (fun HS => ?_)
    clear hK K
    have HR1 : Hid (Rw q0.heap.size n (fun _ => .int .i64 0) (q0.alloc (.cells (madeCells #[.int .i64 0] n) 2))) := Rw.made q0 (.int .i64 0) n 2
    have HX1 : Hid (w.heap.size < q0.heap.size ∧ q0.heap.size < (q0.alloc (.cells (madeCells #[.int .i64 0] n) 2)).heap.size) := ⟨HY.out.lt, by rw [World.size_alloc]; omega⟩
    replace HB : Hid (Below w.heap.size w (q0.alloc (.cells (madeCells #[.int .i64 0] n) 2))) := bchain HB.out (bel1 _ _)
    replace HY : Hid (Y3 w.heap.size (.slice none 0 0) (.slice none 0 0) (.int .i64 0) (q0.alloc (.cells (madeCells #[.int .i64 0] n) 2))) := HY.out.later (bel1 _ _)
    generalize q0.alloc (.cells (madeCells #[.int .i64 0] n) 2) = q1 at *
    generalize q0.heap.size = g1 at *
    refine wpAnyH_ready (rs := [3]) (by kernel_rfl) (by simp) ?_
    refine AllReadyH.cons rfl (fun K hK => ?_) AllReadyH.nil
    go_simp
    refine hK.out _ _ trivial (fun HS => ?_)
    clear hK K
    have HR2 : Hid (Rw q1.heap.size n (fun _ => .int .i64 0) (q1.alloc (.cells (madeCells #[.int .i64 0] n) 2))) := Rw.made q1 (.int .i64 0) n 2
    replace HR1 : Hid (Rw g1 n (fun _ => .int .i64 0) (q1.alloc (.cells (madeCells #[.int .i64 0] n) 2))) := HR1.out.later (bel1 _ _)
    have HX2 : Hid (g1 < q1.heap.size ∧ q1.heap.size < (q1.alloc (.cells (madeCells #[.int .i64 0] n) 2)).heap.size) := ⟨HX1.out.2, by rw [World.size_alloc]; omega⟩
    replace HB : Hid (Below w.heap.size w (q1.alloc (.cells (madeCells #[.int .i64 0] n) 2))) := bchain HB.out (bel1 _ _)
    replace HY : Hid (Y3 w.heap.size (.slice none 0 0) (.slice none 0 0) (.int .i64 0) (q1.alloc (.cells (madeCells #[.int .i64 0] n) 2))) := HY.out.later (bel1 _ _)
    generalize q1.alloc (.cells (madeCells #[.int .i64 0] n) 2) = q2 at *
    generalize q1.heap.size = g2 at *
    refine wpAnyH_take (i := 4) (v := ?_) rfl (by kernel_rfl) (by kernel_rfl) (by kernel_rfl) (fun _ _ _ h => h) (Or.inl ⟨by kernel_rfl, ?_⟩) HS ?_
    rotate_left
    · (rintro w -; go_simp) <;> with_reducible rfl
    try simp only [Act.put, List.getElem_toArray, List.getElem_cons_succ, List.getElem_cons_zero, List.setIfInBounds_toArray, List.set_cons_zero, List.set_cons_succ]
    have y0 := HY.out.c0
    have y1 := HY.out.c1
    have y2 := HY.out.c2
    have f0 := HY.out.f0
    have f1 := HY.out.f1
    have f2 := HY.out.f2
    refine wpAnyH_ready (rs := [5]) (by kernel_rfl) (by simp) ?_
    refine AllReadyH.cons rfl (fun K hK => ?_) AllReadyH.nil
    go_simp
    refine hK.out _ _ trivial (fun HS => ?_)
    clear hK K
    refine wpAnyH_done (by kernel_rfl) ?_ _
    clear HS hmk
    have HZ : Hid (Y3 w.heap.size (.slice (some ⟨g1, 0, none⟩) n n) (.slice (some ⟨g2, 0, none⟩) n n) (.int .i64 0) (((q2.setCell ⟨w.heap.size, 0, none⟩ (.slice (some ⟨g1, 0, none⟩) n n)).setCell ⟨w.heap.size, 1, none⟩ (.slice (some ⟨g2, 0, none⟩) n n)).setCell ⟨w.heap.size, 2, none⟩ (.int .i64 0))) := ((HY.out.set0 _).set1 _).set2 _
    have hg : w.heap.size < g1 ∧ w.heap.size < g2 ∧ g1 < q2.heap.size ∧ g2 < q2.heap.size ∧ g1 ≠ g2 := by have h1 := HX1.out; have h2 := HX2.out; omega
    have HN : Hid (No9 w n g1 g2 (((q2.setCell ⟨w.heap.size, 0, none⟩ (.slice (some ⟨g1, 0, none⟩) n n)).setCell ⟨w.heap.size, 1, none⟩ (.slice (some ⟨g2, 0, none⟩) n n)).setCell ⟨w.heap.size, 2, none⟩ (.int .i64 0))) := ⟨((HR1.out.far _ (by dsimp only; omega)).far _ (by dsimp only; omega)).far _ (by dsimp only; omega), ((HR2.out.far _ (by dsimp only; omega)).far _ (by dsimp only; omega)).far _ (by dsimp only; omega), ⟨by omega, by simp only [World.size_setCell]; omega⟩, ⟨by omega, by simp only [World.size_setCell]; omega⟩, by omega, ((HB.out.setCell (Nat.le_refl _) _).setCell (Nat.le_refl _) _).setCell (Nat.le_refl _) _⟩
    clear y0 y1 y2 f0 f1 f2 HY HB HR1 HR2 HX1 HX2 hg
    generalize (((q2.setCell ⟨w.heap.size, 0, none⟩ (.slice (some ⟨g1, 0, none⟩) n n)).setCell ⟨w.heap.size, 1, none⟩ (.slice (some ⟨g2, 0, none⟩) n n)).setCell ⟨w.heap.size, 2, none⟩ (.int .i64 0)) = wE at *
    have z0 := HZ.out.c0
    have z1 := HZ.out.c1
    have z2 := HZ.out.c2
    go_wp2
    exact bodyPost_ret (v := .agg #[.slice (some ⟨g1, 0, none⟩) n n, .slice (some ⟨g2, 0, none⟩) n n, .int .i64 0]) (by simp [results, Tryz.results16, go_sem, z0, z1, z2]) rfl ⟨g1, g2, rfl, HN.out⟩
  · go_simp
    refine hK.out _ _ trivial (fun HS => ?_)
    clear hK K
    have HR1 : Hid (Rw q0.heap.size n (fun _ => .int .i64 0) (q0.alloc (.cells (madeCells #[.int .i64 0] n) 2))) := Rw.made q0 (.int .i64 0) n 2
    have HX1 : Hid (w.heap.size < q0.heap.size ∧ q0.heap.size < (q0.alloc (.cells (madeCells #[.int .i64 0] n) 2)).heap.size) := ⟨HY.out.lt, by rw [World.size_alloc]; omega⟩
    replace HB : Hid (Below w.heap.size w (q0.alloc (.cells (madeCells #[.int .i64 0] n) 2))) := bchain HB.out (bel1 _ _)
    replace HY : Hid (Y3 w.heap.size (.slice none 0 0) (.slice none 0 0) (.int .i64 0) (q0.alloc (.cells (madeCells #[.int .i64 0] n) 2))) := HY.out.later (bel1 _ _)
    generalize q0.alloc (.cells (madeCells #[.int .i64 0] n) 2) = q1 at *
    generalize q0.heap.size = g2 at *
    refine wpAnyH_ready (rs := [1]) (by kernel_rfl) (by simp) ?_
    refine AllReadyH.cons rfl (fun K hK => ?_) AllReadyH.nil
    go_simp
    refine hK.out _ _ trivial (fun HS => ?_)
    clear hK K
    have HR2 : Hid (Rw q1.heap.size n (fun _ => .int .i64 0) (q1.alloc (.cells (madeCells #[.int .i64 0] n) 2))) := Rw.made q1 (.int .i64 0) n 2
    replace HR1 : Hid (Rw g2 n (fun _ => .int .i64 0) (q1.alloc (.cells (madeCells #[.int .i64 0] n) 2))) := HR1.out.later (bel1 _ _)
    have HX2 : Hid (g2 < q1.heap.size ∧ q1.heap.size < (q1.alloc (.cells (madeCells #[.int .i64 0] n) 2)).heap.size) := ⟨HX1.out.2, by rw [World.size_alloc]; omega⟩
    replace HB : Hid (Below w.heap.size w (q1.alloc (.cells (madeCells #[.int .i64 0] n) 2))) := bchain HB.out (bel1 _ _)
    replace HY : Hid (Y3 w.heap.size (.slice none 0 0) (.slice none 0 0) (.int .i64 0) (q1.alloc (.cells (madeCells #[.int .i64 0] n) 2))) := HY.out.later (bel1 _ _)
    generalize q1.alloc (.cells (madeCells #[.int .i64 0] n) 2) = q2 at *
    generalize q1.heap.size = g1 at *
    refine wpAnyH_take (i := 4) (v := ?_) rfl (by kernel_rfl) (by kernel_rfl) (by kernel_rfl) (fun _ _ _ h => h) (Or.inl ⟨by kernel_rfl, ?_⟩) HS ?_
    rotate_left
    · (rintro w -; go_simp) <;> with_reducible rfl
    try simp only [Act.put, List.getElem_toArray, List.getElem_cons_succ, List.getElem_cons_zero, List.setIfInBounds_toArray, List.set_cons_zero, List.set_cons_succ]
    have y0 := HY.out.c0
    have y1 := HY.out.c1
    have y2 := HY.out.c2
    have f0 := HY.out.f0
    have f1 := HY.out.f1
    have f2 := HY.out.f2
    refine wpAnyH_ready (rs := [5]) (by kernel_rfl) (by simp) ?_
    refine AllReadyH.cons rfl (fun K hK => ?_) AllReadyH.nil
    go_simp
    refine hK.out _ _ trivial (fun HS => ?_)
    clear hK K
    refine wpAnyH_done (by kernel_rfl) ?_ _
    clear HS hmk
    have HZ : Hid (Y3 w.heap.size (.slice (some ⟨g1, 0, none⟩) n n) (.slice (some ⟨g2, 0, none⟩) n n) (.int .i64 0) (((q2.setCell ⟨w.heap.size, 0, none⟩ (.slice (some ⟨g1, 0, none⟩) n n)).setCell ⟨w.heap.size, 1, none⟩ (.slice (some ⟨g2, 0, none⟩) n n)).setCell ⟨w.heap.size, 2, none⟩ (.int .i64 0))) := ((HY.out.set0 _).set1 _).set2 _
    have hg : w.heap.size < g1 ∧ w.heap.size < g2 ∧ g1 < q2.heap.size ∧ g2 < q2.heap.size ∧ g1 ≠ g2 := by have h1 := HX1.out; have h2 := HX2.out; omega
    have HN : Hid (No9 w n g1 g2 (((q2.setCell ⟨w.heap.size, 0, none⟩ (.slice (some ⟨g1, 0, none⟩) n n)).setCell ⟨w.heap.size, 1, none⟩ (.slice (some ⟨g2, 0, none⟩) n n)).setCell ⟨w.heap.size, 2, none⟩ (.int .i64 0))) := ⟨((HR2.out.far _ (by dsimp only; omega)).far _ (by dsimp only; omega)).far _ (by dsimp only; omega), ((HR1.out.far _ (by dsimp only; omega)).far _ (by dsimp only; omega)).far _ (by dsimp only; omega), ⟨by omega, by simp only [World.size_setCell]; omega⟩, ⟨by omega, by simp only [World.size_setCell]; omega⟩, by omega, ((HB.out.setCell (Nat.le_refl _) _).setCell (Nat.le_refl _) _).setCell (Nat.le_refl _) _⟩
    clear y0 y1 y2 f0 f1 f2 HY HB HR1 HR2 HX1 HX2 hg
    generalize (((q2.setCell ⟨w.heap.size, 0, none⟩ (.slice (some ⟨g1, 0, none⟩) n n)).setCell ⟨w.heap.size, 1, none⟩ (.slice (some ⟨g2, 0, none⟩) n n)).setCell ⟨w.heap.size, 2, none⟩ (.int .i64 0)) = wE at *
    have z0 := HZ.out.c0
    have z1 := HZ.out.c1
    have z2 := HZ.out.c2
    go_wp2
    exact bodyPost_ret (v := .agg #[.slice (some ⟨g1, 0, none⟩) n n, .slice (some ⟨g2, 0, none⟩) n n, .int .i64 0]) (by simp [results, Tryz.results16, go_sem, z0, z1, z2]) rfl ⟨g1, g2, rfl, HN.out⟩
theorem Ux.un9r {d : Nat} {c : Int} {w w' : World} (h : Ux (some ⟨d, 0, none⟩) c w w') : Un d c w w' := by
  rcases h with ⟨h, -⟩ | ⟨d', h, -, hU⟩
  · cases h
  · cases h
    exact hU
theorem uc_far {w : World} {d : Nat} {c : Int} (h : Uc w d c) (p : Addr) (u : Value) (hp : p.block ≠ d) : Uc (w.setCell p u) d c := ⟨cell_set hp h.1, by rw [World.frozen?_setCell]; exact h.2⟩
theorem Q8.un9r {b : Nat} {x0 x1 x2 x3 x4 x5 x6 x7 : Value} {w w' : World} {d : Nat} {c : Int} (h : Q8 b x0 x1 x2 x3 x4 x5 x6 x7 w) (hU : Un d c w w') (hn : b ≠ d) : Q8 b x0 x1 x2 x3 x4 x5 x6 x7 w' := h.blk (hU.k b h.lt hn)
theorem Q8.far9r {b : Nat} {x0 x1 x2 x3 x4 x5 x6 x7 : Value} {w : World} (h : Q8 b x0 x1 x2 x3 x4 x5 x6 x7 w) (p : Addr) (u : Value) (hp : p.block ≠ b) : Q8 b x0 x1 x2 x3 x4 x5 x6 x7 (w.setCell p u) := h.blk (Below.heap_setCell _ _ _ _ (fun e => hp e.symm))
theorem units9r {w w' : World} (hW : Below w.heap.size w w') (t t' : TypeId) : L2 w w'.heap.size (w'.heap.size + 1) 0 0 ((w'.alloc (.cells #[.int .i64 0] t)).alloc (.cells #[.int .i64 0] t')) := by
  refine ⟨bchain hW (bel2 _ _ _), ⟨?_, ?_⟩, ⟨?_, ?_⟩⟩
  all_goals simp [go_sem]
/-- A list of lists of numbers in memory. -/
def Lt9 (w : World) (v : Value) (K : Nat) (ns : Nat → Nat) (fs : Nat → Nat → Int) : Prop := ∃ (adr : Option Addr) (cap b o : Nat), v = .slice adr K cap ∧ K ≤ cap ∧ cap ≤ maxLen ∧ (0 < K → adr = some ⟨b, o, none⟩) ∧ ∀ j, j < K → ∃ (ad : Option Addr) (ca : Nat), w.cell? ⟨b, o + j, none⟩ = some (.slice ad (ns j) ca) ∧ Ar w (.slice ad (ns j) ca) (ns j) (fs j)
/-- A list is apart from the units and the two states. -/
def Na (du dv bs bt : Nat) (v : Value) : Prop := Nb v du ∧ Nb v dv ∧ Nb v bs ∧ Nb v bt
theorem na_ow {du dv bs bt B : Nat} {v : Value} (h : Ow B v) (d : du < B ∧ dv < B ∧ bs < B ∧ bt < B) : Na du dv bs bt v := ⟨h.nb d.1, h.nb d.2.1, h.nb d.2.2.1, h.nb d.2.2.2⟩
structure D4 (w : World) (du dv bs bt : Nat) : Prop where
  l1 : w.heap.size < du
  l2 : w.heap.size < dv
  l3 : w.heap.size < bs
  l4 : w.heap.size < bt
  uv : du ≠ dv
  ub : du ≠ bs
  ut : du ≠ bt
  vb : dv ≠ bs
  vt : dv ≠ bt
  bt' : bs ≠ bt
/-- Where the law is: the program's state and the document's. -/
structure R9 (w : World) (du dv bs bt : Nat) (cu cv : Int) (Sh : World → Prop) (vM vV vp uM uV uq : Value) (n : Nat) (M V P M' V' P' : Nat → Int) (k1 k2 : Int) (W : World) : Prop where
  L : L2 w du dv cu cv W
  X : Sh W
  S : Y3 bs vM vV (.int .i64 k1) W
  T : Y3 bt uM uV (.int .i64 k2) W
  a1 : Ar W vM n M
  a2 : Ar W vV n V
  a3 : Ar W vp n P
  b1 : Ar W uM n M'
  b2 : Ar W uV n V'
  b3 : Ar W uq n P'
  n1 : Na du dv bs bt vM
  n2 : Na du dv bs bt vV
  n3 : Na du dv bs bt vp
  m1 : Na du dv bs bt uM
  m2 : Na du dv bs bt uV
  m3 : Na du dv bs bt uq
theorem R9.later {w : World} {du dv bs bt : Nat} {cu cv : Int} {Sh : World → Prop} {vM vV vp uM uV uq : Value} {n : Nat} {M V P M' V' P' : Nat → Int} {k1 k2 : Int} {W : World} {W' : World} (h : R9 w du dv bs bt cu cv Sh vM vV vp uM uV uq n M V P M' V' P' k1 k2 W) (hb : Below W.heap.size W W') (hS : Sh W') : R9 w du dv bs bt cu cv Sh vM vV vp uM uV uq n M V P M' V' P' k1 k2 W' := ⟨h.L.later hb, hS, h.S.later hb, h.T.later hb, h.a1.later hb, h.a2.later hb, h.a3.later hb, h.b1.later hb, h.b2.later hb, h.b3.later hb, h.n1, h.n2, h.n3, h.m1, h.m2, h.m3⟩
theorem R9.lts {w : World} {du dv bs bt : Nat} {cu cv : Int} {Sh : World → Prop} {vM vV vp uM uV uq : Value} {n : Nat} {M V P M' V' P' : Nat → Int} {k1 k2 : Int} {W : World} (h : R9 w du dv bs bt cu cv Sh vM vV vp uM uV uq n M V P M' V' P' k1 k2 W) : du < W.heap.size ∧ dv < W.heap.size ∧ bs < W.heap.size ∧ bt < W.heap.size := ⟨World.block_lt_of_cell? _ _ h.L.u.1, World.block_lt_of_cell? _ _ h.L.v.1, h.S.lt, h.T.lt⟩
theorem R9.stepU {w : World} {du dv bs bt : Nat} {cu cv : Int} {Sh : World → Prop} {vM vV vp uM uV uq : Value} {n : Nat} {M V P M' V' P' : Nat → Int} {k1 k2 : Int} {W : World} {W' : World} {c' k' : Int} {sM sV sP : Value} {FM FV FY : Nat → Int} (h : R9 w du dv bs bt cu cv Sh vM vV vp uM uV uq n M V P M' V' P' k1 k2 W) (d : D4 w du dv bs bt) (hU : Un du c' W W') (q1 : Ar W' sM n FM) (q2 : Ar W' sV n FV) (q3 : Ar W' sP n FY) (hO : Ow W.heap.size sM ∧ Ow W.heap.size sV ∧ Ow W.heap.size sP) (hS : Sh ((((W').setCell ⟨bs, 0, none⟩ sM).setCell ⟨bs, 1, none⟩ sV).setCell ⟨bs, 2, none⟩ (.int .i64 k'))) : R9 w du dv bs bt c' cv Sh sM sV sP uM uV uq n FM FV FY M' V' P' k' k2 ((((W').setCell ⟨bs, 0, none⟩ sM).setCell ⟨bs, 1, none⟩ sV).setCell ⟨bs, 2, none⟩ (.int .i64 k')) := by
  have e1 := na_ow hO.1 h.lts
  have e2 := na_ow hO.2.1 h.lts
  have e3 := na_ow hO.2.2 h.lts
  have l3 : w.heap.size ≤ bs := Nat.le_of_lt d.l3
  have hL := h.L.unu hU (Nat.le_of_lt d.l1) d.uv
  have g1 : bs ≠ du := fun e => d.ub e.symm
  have g2 : bs ≠ dv := fun e => d.vb e.symm
  exact ⟨⟨((hL.B.setCell l3 _).setCell l3 _).setCell l3 _, uc_far (uc_far (uc_far (hL.u) ⟨bs, 0, none⟩ _ g1) ⟨bs, 1, none⟩ _ g1) ⟨bs, 2, none⟩ _ g1, uc_far (uc_far (uc_far (hL.v) ⟨bs, 0, none⟩ _ g2) ⟨bs, 1, none⟩ _ g2) ⟨bs, 2, none⟩ _ g2⟩, hS, (((h.S.un hU g1).set0 _).set1 _).set2 _, (((h.T.un hU (fun e => d.ut e.symm)).far ⟨bs, 0, none⟩ _ d.bt').far ⟨bs, 1, none⟩ _ d.bt').far ⟨bs, 2, none⟩ _ d.bt', (((q1).set9 ⟨bs, 0, none⟩ _ e1.2.2.1).set9 ⟨bs, 1, none⟩ _ e1.2.2.1).set9 ⟨bs, 2, none⟩ _ e1.2.2.1, (((q2).set9 ⟨bs, 0, none⟩ _ e2.2.2.1).set9 ⟨bs, 1, none⟩ _ e2.2.2.1).set9 ⟨bs, 2, none⟩ _ e2.2.2.1, (((q3).set9 ⟨bs, 0, none⟩ _ e3.2.2.1).set9 ⟨bs, 1, none⟩ _ e3.2.2.1).set9 ⟨bs, 2, none⟩ _ e3.2.2.1, (((h.b1.un h.m1.1 hU).set9 ⟨bs, 0, none⟩ _ h.m1.2.2.1).set9 ⟨bs, 1, none⟩ _ h.m1.2.2.1).set9 ⟨bs, 2, none⟩ _ h.m1.2.2.1, (((h.b2.un h.m2.1 hU).set9 ⟨bs, 0, none⟩ _ h.m2.2.2.1).set9 ⟨bs, 1, none⟩ _ h.m2.2.2.1).set9 ⟨bs, 2, none⟩ _ h.m2.2.2.1, (((h.b3.un h.m3.1 hU).set9 ⟨bs, 0, none⟩ _ h.m3.2.2.1).set9 ⟨bs, 1, none⟩ _ h.m3.2.2.1).set9 ⟨bs, 2, none⟩ _ h.m3.2.2.1, e1, e2, e3, h.m1, h.m2, h.m3⟩
theorem R9.stepV {w : World} {du dv bs bt : Nat} {cu cv : Int} {Sh : World → Prop} {vM vV vp uM uV uq : Value} {n : Nat} {M V P M' V' P' : Nat → Int} {k1 k2 : Int} {W : World} {W' : World} {c' k' : Int} {sM sV sP : Value} {FM FV FY : Nat → Int} (h : R9 w du dv bs bt cu cv Sh vM vV vp uM uV uq n M V P M' V' P' k1 k2 W) (d : D4 w du dv bs bt) (hU : Un dv c' W W') (q1 : Ar W' sM n FM) (q2 : Ar W' sV n FV) (q3 : Ar W' sP n FY) (hO : Ow W.heap.size sM ∧ Ow W.heap.size sV ∧ Ow W.heap.size sP) (hS : Sh ((((W').setCell ⟨bt, 0, none⟩ sM).setCell ⟨bt, 1, none⟩ sV).setCell ⟨bt, 2, none⟩ (.int .i64 k'))) : R9 w du dv bs bt cu c' Sh vM vV vp sM sV sP n M V P FM FV FY k1 k' ((((W').setCell ⟨bt, 0, none⟩ sM).setCell ⟨bt, 1, none⟩ sV).setCell ⟨bt, 2, none⟩ (.int .i64 k')) := by
  have e1 := na_ow hO.1 h.lts
  have e2 := na_ow hO.2.1 h.lts
  have e3 := na_ow hO.2.2 h.lts
  have l4 : w.heap.size ≤ bt := Nat.le_of_lt d.l4
  have hL := h.L.unv hU (Nat.le_of_lt d.l2) d.uv
  have g1 : bt ≠ du := fun e => d.ut e.symm
  have g2 : bt ≠ dv := fun e => d.vt e.symm
  have g3 : bt ≠ bs := fun e => d.bt' e.symm
  exact ⟨⟨((hL.B.setCell l4 _).setCell l4 _).setCell l4 _, uc_far (uc_far (uc_far (hL.u) ⟨bt, 0, none⟩ _ g1) ⟨bt, 1, none⟩ _ g1) ⟨bt, 2, none⟩ _ g1, uc_far (uc_far (uc_far (hL.v) ⟨bt, 0, none⟩ _ g2) ⟨bt, 1, none⟩ _ g2) ⟨bt, 2, none⟩ _ g2⟩, hS, (((h.S.un hU (fun e => d.vb e.symm)).far ⟨bt, 0, none⟩ _ g3).far ⟨bt, 1, none⟩ _ g3).far ⟨bt, 2, none⟩ _ g3, (((h.T.un hU g2).set0 _).set1 _).set2 _, (((h.a1.un h.n1.2.1 hU).set9 ⟨bt, 0, none⟩ _ h.n1.2.2.2).set9 ⟨bt, 1, none⟩ _ h.n1.2.2.2).set9 ⟨bt, 2, none⟩ _ h.n1.2.2.2, (((h.a2.un h.n2.2.1 hU).set9 ⟨bt, 0, none⟩ _ h.n2.2.2.2).set9 ⟨bt, 1, none⟩ _ h.n2.2.2.2).set9 ⟨bt, 2, none⟩ _ h.n2.2.2.2, (((h.a3.un h.n3.2.1 hU).set9 ⟨bt, 0, none⟩ _ h.n3.2.2.2).set9 ⟨bt, 1, none⟩ _ h.n3.2.2.2).set9 ⟨bt, 2, none⟩ _ h.n3.2.2.2, (((q1).set9 ⟨bt, 0, none⟩ _ e1.2.2.2).set9 ⟨bt, 1, none⟩ _ e1.2.2.2).set9 ⟨bt, 2, none⟩ _ e1.2.2.2, (((q2).set9 ⟨bt, 0, none⟩ _ e2.2.2.2).set9 ⟨bt, 1, none⟩ _ e2.2.2.2).set9 ⟨bt, 2, none⟩ _ e2.2.2.2, (((q3).set9 ⟨bt, 0, none⟩ _ e3.2.2.2).set9 ⟨bt, 1, none⟩ _ e3.2.2.2).set9 ⟨bt, 2, none⟩ _ e3.2.2.2, h.n1, h.n2, h.n3, e1, e2, e3⟩
theorem ow_at9r {B g n : Nat} (h : B ≤ g) : Ow B (.slice (some ⟨g, 0, none⟩) n n) := fun a m c e _ => by cases e; exact h
/-- Both steps at once: what they answer hangs on the numbers alone. -/
theorem both9 (B W : Int) (nD : Nat) (at' fa : Nat → Int) (b1 b2 ep dc cl : Int) (hI : InR9 B W nD at' fa b1 b2 ep dc cl) (hbd : bd9 B ep dc cl) (n : Nat) (hn : n ≤ 20) (M V P G : Nat → Int) (k c : Int) (k0 : 0 ≤ k) (k1 : k < 1000) (c0 : 0 ≤ c) (c1 : c ≤ 100000) : ∃ (FM FV FY : Nat → Int) (c' : Int), (c ≤ c' ∧ c' ≤ c + 300) ∧
    (∀ (du : Nat) (vD vM vV vp vg : Value) (w : World), Drp w vD nD at' fa → Ar w vM n M → Ar w vV n V → Ar w vp n P → Ar w vg n G → Nb vM du → Nb vV du → Nb vp du → Nb vg du → Uc w du c → TabAt w → Calls Tryz.prog 7 #[.pointer (some ⟨du, 0, none⟩), .agg #[.int .i64 B, .int .i64 W, vD, .int .i64 b1, .int .i64 b2, .int .i64 ep, .int .i64 dc, .int .i64 cl], .agg #[vM, vV, .int .i64 k], vp, vg] w fun e w' => ∃ (iM iV iP : Option Addr) (jM jV jP : Nat), e = .returned (.tuple #[.agg #[.slice iM n jM, .slice iV n jV, .int .i64 (k + 1)], .slice iP n jP, .int .i64 0]) ∧ (Ar w' (.slice iM n jM) n FM ∧ Ar w' (.slice iV n jV) n FV ∧ Ar w' (.slice iP n jP) n FY) ∧ (Ow w.heap.size (.slice iM n jM) ∧ Ow w.heap.size (.slice iV n jV) ∧ Ow w.heap.size (.slice iP n jP)) ∧ Un du c' w w') ∧
    (∀ (dv : Nat) (vD vM vV vp vg : Value) (w : World), Drp w vD nD at' fa → Ar w vM n M → Ar w vV n V → Ar w vp n P → Ar w vg n G → Nb vM dv → Nb vV dv → Nb vp dv → Nb vg dv → Uc w dv c → Calls Tryz.prog 11 #[.pointer (some ⟨dv, 0, none⟩), .agg #[.int .i64 B, .int .i64 W, vD, .int .i64 b1, .int .i64 b2, .int .i64 ep, .int .i64 dc, .int .i64 cl], .agg #[vM, vV, .int .i64 k], vp, vg] w fun e w' => ∃ (iM iV iP : Option Addr) (jM jV jP : Nat), e = .returned (.tuple #[.agg #[.slice iM n jM, .slice iV n jV, .int .i64 (k + 1)], .slice iP n jP]) ∧ (Ar w' (.slice iM n jM) n FM ∧ Ar w' (.slice iV n jV) n FV ∧ Ar w' (.slice iP n jP) n FY) ∧ (Ow w.heap.size (.slice iM n jM) ∧ Ow w.heap.size (.slice iV n jV) ∧ Ow w.heap.size (.slice iP n jP)) ∧ Un dv c' w w') := by
  have hcp := cpN_in cl n G
  have has := aS_rng (stpV B W nD at' fa b1 b2 ep dc (k + 1)) M V P (cpF cl n G) n
  refine ⟨fun i => aM (stpV B W nD at' fa b1 b2 ep dc (k + 1)) (M i) (cpF cl n G i), fun i => aV (stpV B W nD at' fa b1 b2 ep dc (k + 1)) (V i) (cpF cl n G i), fun i => aY (stpV B W nD at' fa b1 b2 ep dc (k + 1)) (M i) (V i) (P i) (cpF cl n G i), c + (cpN cl n (G) + aS (stpV B W nD at' fa b1 b2 ep dc (k + 1)) (M) (V) (P) (cpF cl n (G)) n), by omega, fun du vD vM vV vp vg w hD hM hV hP hG nM nV nP nG hU hT => ?_, fun dv vD vM vV vp vg w hD hM hV hP hG nM nV nP nG hU => ?_⟩
  · refine (step9_ok B W vD nD at' fa b1 b2 ep dc cl k vM vV vp vg n M V P G (some ⟨du, 0, none⟩) c w hI hbd k0 (by omega) (by omega) c0 (by omega) hD hM hV hP hG (nv_some nM) (nv_some nV) (nv_some nP) (nv_some nG) (Or.inr ⟨du, rfl, hU⟩) hT).mono ?_
    rintro e w' ⟨g1, g2, g3, he, q1, q2, q3, q4, q5⟩
    exact ⟨_, _, _, _, _, _, he, ⟨q1, q2, q3⟩, ⟨ow_at9r q4.1, ow_at9r q4.2.1, ow_at9r q4.2.2⟩, q5.un9r⟩
  · refine (refStep_any B W vD nD at' fa b1 b2 ep dc cl k vM vV vp vg n M V P G dv c hI hbd.1 hbd.2.1 hbd.2.2.1 hbd.2.2.2 k0 (by omega) (by omega) c0 (by omega) w hD hM hV hP hG nM nV nP nG hU.1 hU.2).mono ?_
    rintro e w' ⟨uM, uV, uP, he, q1, q2, q3, q4, q5⟩
    obtain ⟨iM, jM, _, _, rfl, -, -, -, -⟩ := id q1
    obtain ⟨iV, jV, _, _, rfl, -, -, -, -⟩ := id q2
    obtain ⟨iP, jP, _, _, rfl, -, -, -, -⟩ := id q3
    exact ⟨_, _, _, _, _, _, he, ⟨q1, q2, q3⟩, q4, q5⟩
set_option maxRecDepth 100000 in
set_option maxHeartbeats 32000000 in
theorem adamwRuns_any (B W : Int) (vD : Value) (nD : Nat) (at' fa : Nat → Int) (b1 b2 ep dc cl : Int) (vp vl : Value) (n K : Nat) (P0 : Nat → Int) (ns : Nat → Nat) (fs : Nat → Nat → Int) (w : World) (hD : Drp w vD nD at' fa) (hbd : bd9 B ep dc cl) (hP : Ar w vp n P0) (hLt : Lt9 w vl K ns fs) (hT : TabAt w) :
    Calls Tryz.prog 4 #[.agg #[.int .i64 B, .int .i64 W, vD, .int .i64 b1, .int .i64 b2, .int .i64 ep, .int .i64 dc, .int .i64 cl], vp, vl] w fun e w' => e = .returned (.bool true) ∧ Below w.heap.size w w' := by
  have HAll : Hid (Drp w vD nD at' fa ∧ bd9 B ep dc cl ∧ Ar w vp n P0 ∧ TabAt w) := ⟨hD, hbd, hP, hT⟩
  have CA : Hid (∀ W' : World, Below w.heap.size w W' → Calls Tryz.prog 5 #[] W' fun e w' => e = .returned (.bool true) ∧ Below W'.heap.size W' w') := fun W' hb => awake9_any W' (hT.later hb)
  have CI : Hid (nD ≤ 1000 → ∀ W' : World, Below w.heap.size w W' → Calls Tryz.prog 8 #[.agg #[.int .i64 B, .int .i64 W, vD, .int .i64 b1, .int .i64 b2, .int .i64 ep, .int .i64 dc, .int .i64 cl]] W' fun e w' => ∃ (ad8 : Option Addr) (ca8 : Nat), e = .returned (.agg #[.int .i64 B, .int .i64 W, .slice ad8 nD ca8, .int .i64 b1, .int .i64 b2, .int .i64 ep, .int .i64 dc, .int .i64 cl]) ∧ Drp w' (.slice ad8 nD ca8) nD at' fa ∧ Below W'.heap.size W' w') := fun hn W' hb => (inner9_any B W _ nD at' fa b1 b2 ep dc cl hn W' (hD.later hb)).mono (fun e w' ⟨v', h1, h2, h3⟩ => by obtain ⟨ad, ca, _, _, rfl, -, -, -, -⟩ := id h2; exact ⟨ad, ca, h1, h2, h3⟩)
  obtain ⟨adr, cap, bD, oD, rfl, d1, d2, -, -⟩ := hD
  obtain ⟨adp, capp, bp, op, rfl, p1, p2, -, -⟩ := hP
  obtain ⟨adl, cal, bl, ol, rfl, l1, l2, l3, l4⟩ := hLt
  unfold maxLen at d2 p2 l2
  have HLs : Hid ((0 < K → adl = some ⟨bl, ol, none⟩) ∧ ∀ j, j < K → ∃ (ad : Option Addr) (ca : Nat), w.cell? ⟨bl, ol + j, none⟩ = some (.slice ad (ns j) ca) ∧ Ar w (.slice ad (ns j) ca) (ns j) (fs j)) := ⟨l3, l4⟩
  clear hT hbd l3 l4
  obtain ⟨w1, hw1⟩ : ∃ w1, w1 = w.alloc (.cells #[.int .i64 B, .int .i64 W, .slice adr nD cap, .int .i64 b1, .int .i64 b2, .int .i64 ep, .int .i64 dc, .int .i64 cl] 27) := ⟨_, rfl⟩
  have HB1 : Hid (Below w.heap.size w w1) := by rw [hw1]; exact bel1 _ _
  have HX : Q8 w.heap.size (.int .i64 B) (.int .i64 W) (.slice adr nD cap) (.int .i64 b1) (.int .i64 b2) (.int .i64 ep) (.int .i64 dc) (.int .i64 cl) w1 := by rw [hw1]; exact Q8.new w _ _ _ _ _ _ _ _ _
  go_enter Tryz.func4, Tryz.ntmps4
  go_upto_region 1 with fail
  rw [← hw1]
  clear hw1
  go_wp2_with fail
  refine (CA.out _ HB1.out).mono ?_
  rintro e w2 ⟨rfl, hb⟩
  have HB2 : Hid (Below w.heap.size w w2) := bchain HB1.out hb
  replace HX := HX.later hb
  clear hb CA HB1
  have x0 := HX.c0
  have x1 := HX.c1
  have x2 := HX.c2
  have x3 := HX.c3
  have x4 := HX.c4
  have x5 := HX.c5
  have x6 := HX.c6
  have x7 := HX.c7
  by_cases hnD : 40 < nD
  · have hnI : (40 : Int) < (nD : Int) := by omega
    go_wp2
    go_ret
    exact ⟨rfl, HB2.out⟩
  have hnI : ¬ (40 : Int) < (nD : Int) := by omega
  by_cases hn : 20 < n
  · have hnp : (20 : Int) < (n : Int) := by omega
    go_wp2
    go_ret
    exact ⟨rfl, HB2.out⟩
  have hnp : ¬ (20 : Int) < (n : Int) := by omega
  by_cases hK : 20 < K
  · have hKp : (20 : Int) < (K : Int) := by omega
    go_wp2
    go_ret
    exact ⟨rfl, HB2.out⟩
  have hKp : ¬ (20 : Int) < (K : Int) := by omega
  have CI2 : Hid (∀ W' : World, Below w.heap.size w W' → Calls Tryz.prog 8 #[.agg #[.int .i64 B, .int .i64 W, .slice adr nD cap, .int .i64 b1, .int .i64 b2, .int .i64 ep, .int .i64 dc, .int .i64 cl]] W' fun e w' => ∃ (ad8 : Option Addr) (ca8 : Nat), e = .returned (.agg #[.int .i64 B, .int .i64 W, .slice ad8 nD ca8, .int .i64 b1, .int .i64 b2, .int .i64 ep, .int .i64 dc, .int .i64 cl]) ∧ Drp w' (.slice ad8 nD ca8) nD at' fa ∧ Below W'.heap.size W' w') := CI.out (by omega)
  clear CI
  go_wp2_with fail
  refine (CI2.out _ HB2.out).mono ?_
  rintro e w3 ⟨ad3, ca3, rfl, hD3, hb⟩
  have HB3 : Hid (Below w.heap.size w w3) := bchain HB2.out hb
  replace HX := HX.later hb
  clear hb HB2 x0 x1 x2 x3 x4 x5 x6 x7
  go_wp2_with fail
  refine (refInner_any B W _ nD at' fa b1 b2 ep dc cl _ hD3).mono ?_
  rintro e w4 ⟨hTl, hb⟩
  have HB4 : Hid (Below w.heap.size w w4) := bchain HB3.out hb
  replace HX := HX.later hb
  clear hb HB3 hD3
  by_cases hI : InR9 B W nD at' fa b1 b2 ep dc cl
  · have e0 := hTl.yes hI
    subst e0
    have HI : Hid (InR9 B W nD at' fa b1 b2 ep dc cl) := hI
    clear hTl hI
    go_wp2_with fail
    refine (begin9_ok n (by omega) _).mono ?_
    rintro e w5' ⟨m1, m2, rfl, hNo⟩
    obtain ⟨w5, hw5⟩ : ∃ w5, w5 = w5'.alloc (.cells #[.slice (some ⟨m1, 0, none⟩) n n, .slice (some ⟨m2, 0, none⟩) n n, .int .i64 0] 30) := ⟨_, rfl⟩
    have hb5 : Below w5'.heap.size w5' w5 := by rw [hw5]; exact bel1 _ _
    have hB5 : Below w.heap.size w w5 := bchain (bchain HB4.out hNo.b) hb5
    have HX5 : Q8 w.heap.size (.int .i64 B) (.int .i64 W) (.slice adr nD cap) (.int .i64 b1) (.int .i64 b2) (.int .i64 ep) (.int .i64 dc) (.int .i64 cl) w5 := (HX.later hNo.b).later hb5
    have HS5 : Y3 w5'.heap.size (.slice (some ⟨m1, 0, none⟩) n n) (.slice (some ⟨m2, 0, none⟩) n n) (.int .i64 0) w5 := by rw [hw5]; exact Y3.new _ _ _ _ _
    have HM5 := no9_ar hNo (by omega)
    have hlt5 : w.heap.size < w5'.heap.size := (HX.later hNo.b).lt
    have hm5 : m1 < w5'.heap.size ∧ m2 < w5'.heap.size := ⟨hNo.l1.2, hNo.l2.2⟩
    have hs5 : w5.heap.size = w5'.heap.size + 1 := by rw [hw5]; simp only [World.size_alloc]
    obtain ⟨w6, hw6⟩ : ∃ w6, w6 = (w5.alloc (.cells #[.int .i64 0] 38)).alloc (.cells #[.int .i64 0] 41) := ⟨_, rfl⟩
    have hb6 : Below w5.heap.size w5 w6 := by rw [hw6]; exact bel2 _ _ _
    have HL6 : L2 w w5.heap.size (w5.heap.size + 1) 0 0 w6 := by rw [hw6]; exact units9r hB5 _ _
    have hs6 : w6.heap.size = w5.heap.size + 1 + 1 := by rw [hw6]; simp only [World.size_alloc]
    have hA1 := (HM5.1.later hb5).later hb6
    have hA2 := (HM5.2.later hb5).later hb6
    have HX6 := HX5.later hb6
    have HS6 := HS5.later hb6
    clear hNo hb5 hB5 HX HX5 HS5 HM5 HB4 hb6
    go_upto_region 9 with fail
    rw [← hw5, ← hw6]
    clear hw5 hw6
    obtain ⟨bs, hbs⟩ : ∃ x, w5'.heap.size = x := ⟨_, rfl⟩
    obtain ⟨du, hdu⟩ : ∃ x, bs + 1 = x := ⟨_, rfl⟩
    obtain ⟨dv, hdv⟩ : ∃ x, du + 1 = x := ⟨_, rfl⟩
    rw [hbs] at HS6 hlt5 hm5 hs5
    rw [hdu] at hs5
    rw [hs5] at HL6 hs6
    rw [hdv] at HL6 hs6
    try simp only [hbs, hdu, hdv]
    clear hbs
    have HJ6 : Hid (L2 w du dv 0 0 w6 ∧ Q8 w.heap.size (.int .i64 B) (.int .i64 W) (.slice adr nD cap) (.int .i64 b1) (.int .i64 b2) (.int .i64 ep) (.int .i64 dc) (.int .i64 cl) w6 ∧ Y3 bs (.slice (some ⟨m1, 0, none⟩) n n) (.slice (some ⟨m2, 0, none⟩) n n) (.int .i64 0) w6 ∧ Ar w6 (.slice (some ⟨m1, 0, none⟩) n n) n (fun _ => 0) ∧ Ar w6 (.slice (some ⟨m2, 0, none⟩) n n) n (fun _ => 0)) := ⟨HL6, HX6, HS6, hA1, hA2⟩
    have HO6 : Hid (w.heap.size < bs ∧ bs < du ∧ du < dv ∧ dv < w6.heap.size ∧ m1 < bs ∧ m2 < bs) := ⟨hlt5, by omega, by omega, by omega, hm5.1, hm5.2⟩
    clear HL6 HX6 HS6 hA1 hA2 hlt5 hm5 hs5 hs6 hdv hdu
    go_wp2_with fail
    refine (refBegin9 n (by omega) _).mono ?_
    rintro e w7 ⟨f1, f2, rfl, hNo⟩
    have HN7 : Hid (No9 w6 n f1 f2 w7) := hNo
    clear hNo
    go_wp2_with fail
    refine (plain9_any _ n P0 (by omega) _ (HAll.out.2.2.1.later (bchain HJ6.out.1.B HN7.out.b))).mono ?_
    rintro e w8 ⟨vq, rfl, hA8, hO8, hb8⟩
    obtain ⟨iq, jq, _, _, rfl, -, -, -, -⟩ := id hA8
    obtain ⟨w9, hw9⟩ : ∃ w9, w9 = w8.alloc (.cells #[.slice (some ⟨f1, 0, none⟩) n n, .slice (some ⟨f2, 0, none⟩) n n, .int .i64 0] 54) := ⟨_, rfl⟩
    have hb9 : Below w8.heap.size w8 w9 := by rw [hw9]; exact bel1 _ _
    have hall := bchain (bchain HN7.out.b hb8) hb9
    have hj := HJ6.out
    have ho := HO6.out
    have hno := HN7.out
    have hsz7 : w7.heap.size ≤ w8.heap.size := hb8.size
    have HD : Hid (D4 w du dv bs w8.heap.size) := ⟨by omega, by omega, by omega, by have := hno.l1; omega, by omega, by omega, by have := hno.l1; omega, by omega, by have := hno.l1; omega, by have := hno.l1; omega⟩
    have hna : ∀ (g : Nat), g < bs → g < w8.heap.size → Na du dv bs w8.heap.size (.slice (some ⟨g, 0, none⟩) n n) := fun g h1 h2 => ⟨fun a m c e _ => by cases e; show g ≠ du; omega, fun a m c e _ => by cases e; show g ≠ dv; omega, fun a m c e _ => by cases e; show g ≠ bs; omega, fun a m c e _ => by cases e; show g ≠ w8.heap.size; omega⟩
    have hnf : ∀ (g : Nat), w6.heap.size ≤ g → g < w8.heap.size → Na du dv bs w8.heap.size (.slice (some ⟨g, 0, none⟩) n n) := fun g h1 h2 => ⟨fun a m c e _ => by cases e; show g ≠ du; omega, fun a m c e _ => by cases e; show g ≠ dv; omega, fun a m c e _ => by cases e; show g ≠ bs; omega, fun a m c e _ => by cases e; show g ≠ w8.heap.size; omega⟩
    have hfz := no9_ar hno (by omega)
    have HL0 : Hid (R9 w du dv bs w8.heap.size 0 0 (fun W' => Q8 w.heap.size (.int .i64 B) (.int .i64 W) (.slice adr nD cap) (.int .i64 b1) (.int .i64 b2) (.int .i64 ep) (.int .i64 dc) (.int .i64 cl) W') (.slice (some ⟨m1, 0, none⟩) n n) (.slice (some ⟨m2, 0, none⟩) n n) (.slice adp n capp) (.slice (some ⟨f1, 0, none⟩) n n) (.slice (some ⟨f2, 0, none⟩) n n) (.slice iq n jq) n (fun _ => 0) (fun _ => 0) P0 (fun _ => 0) (fun _ => 0) P0 ((0 : Nat) : Int) ((0 : Nat) : Int) w9) := by
      refine ⟨hj.1.later hall, hj.2.1.later hall, hj.2.2.1.later hall, by rw [hw9]; exact Y3.new _ _ _ _ _, hj.2.2.2.1.later hall, hj.2.2.2.2.later hall, HAll.out.2.2.1.later (bchain hj.1.B hall), (hfz.1.later hb8).later hb9, (hfz.2.later hb8).later hb9, hA8.later hb9, hna m1 (by omega) (by have := hno.l1; omega), hna m2 (by omega) (by have := hno.l1; omega), ?_, hnf f1 hno.l1.1 (by have := hno.l1; omega), hnf f2 hno.l2.1 (by have := hno.l2; omega), ?_⟩
      · exact ⟨HAll.out.2.2.1.nb (by omega), HAll.out.2.2.1.nb (by omega), HAll.out.2.2.1.nb (by omega), HAll.out.2.2.1.nb (by have := hno.l1; omega)⟩
      · exact ⟨hO8.nb (by have := hno.l1; omega), hO8.nb (by have := hno.l1; omega), hO8.nb (by have := hno.l1; omega), hA8.nb (Nat.le_refl _)⟩
    clear hfz hna hnf hno ho hj hall hb9 hb8 hO8 hA8 HN7 HO6 HJ6 hsz7
    go_upto_region 10 with fail
    rw [← hw9]
    clear hw9
    generalize w8.heap.size = bt at *
    go_wp2
    go_loopw [1, 8, 12, 57] (fun s1 s8 s12 s57 wr => ∃ (k : Nat) (c : Int) (M V P : Nat → Int) (iM iV ip iu iw iq : Option Addr) (jM jV jp ju jw jq : Nat), k ≤ K ∧ s1 = .slice ip n jp ∧ s8 = .int .i64 0 ∧ s12 = .slice iq n jq ∧ s57 = .int .i64 (k : Int) ∧ Hid (0 ≤ c ∧ c ≤ 300 * (k : Int)) ∧ Hid (R9 w du dv bs bt c c (fun W' => Q8 w.heap.size (.int .i64 B) (.int .i64 W) (.slice adr nD cap) (.int .i64 b1) (.int .i64 b2) (.int .i64 ep) (.int .i64 dc) (.int .i64 cl) W') (.slice iM n jM) (.slice iV n jV) (.slice ip n jp) (.slice iu n ju) (.slice iw n jw) (.slice iq n jq) n M V P M V P (k : Int) (k : Int) wr)) (fun _ _ _ s57 _ => K - (intOf s57).toNat)
    case atStart => exact ⟨0, 0, _, _, _, _, _, _, _, _, _, _, _, _, _, _, _, by omega, rfl, rfl, rfl, rfl, ⟨by omega, by omega⟩, HL0⟩
    case round =>
      clear HL0
      obtain ⟨k, c, M, V, P, iM, iV, ip, iu, iw, iq, jM, jV, jp, ju, jw, jq, hk, rfl, rfl, rfl, rfl, HC, HL⟩ := hrel
      by_cases hlt : k < K
      · have hkI : (k : Int) < (K : Int) := by omega
        have el := HLs.out.1 (by omega)
        subst el
        obtain ⟨ag, cg, hcg, hAg⟩ := HLs.out.2 k hlt
        have cgr : wr.cell? ⟨bl, ol + k, none⟩ = some (.slice ag (ns k) cg) := cell_later HL.out.L.B hcg
        clear hcg
        by_cases hgn : ns k = n
        · have HAg : Hid (Ar w (.slice ag n cg) n (fs k)) := by rw [hgn] at hAg; exact hAg
          rw [hgn] at cgr
          clear hAg hgn
          obtain ⟨FM, FV, FY, c', hc', hU1, hV1⟩ := both9 B W nD at' fa b1 b2 ep dc cl HI.out HAll.out.2.1 n (by omega) M V P (fs k) (k : Int) c (by omega) (by omega) HC.out.1 (by have := HC.out.2; omega)
          have HC2 : Hid (0 ≤ c' ∧ c' ≤ 300 * ((k : Int) + 1)) := ⟨by have := HC.out; omega, by have := HC.out; omega⟩
          have CU := hU1 du (.slice adr nD cap) (.slice iM n jM) (.slice iV n jV) (.slice ip n jp) (.slice ag n cg) wr (HAll.out.1.later HL.out.L.B) HL.out.a1 HL.out.a2 HL.out.a3 (HAg.out.later HL.out.L.B) HL.out.n1.1 HL.out.n2.1 HL.out.n3.1 (HAg.out.nb (Nat.le_of_lt HD.out.l1)) HL.out.L.u (HAll.out.2.2.2.later HL.out.L.B)
          have HV1 : Hid (∀ (vD vM vV vp vg : Value) (w : World), Drp w vD nD at' fa → Ar w vM n M → Ar w vV n V → Ar w vp n P → Ar w vg n (fs k) → Nb vM dv → Nb vV dv → Nb vp dv → Nb vg dv → Uc w dv c → Calls Tryz.prog 11 #[.pointer (some ⟨dv, 0, none⟩), .agg #[.int .i64 B, .int .i64 W, vD, .int .i64 b1, .int .i64 b2, .int .i64 ep, .int .i64 dc, .int .i64 cl], .agg #[vM, vV, .int .i64 (k : Int)], vp, vg] w fun e w' => ∃ (iM iV iP : Option Addr) (jM jV jP : Nat), e = .returned (.tuple #[.agg #[.slice iM n jM, .slice iV n jV, .int .i64 ((k : Int) + 1)], .slice iP n jP]) ∧ (Ar w' (.slice iM n jM) n FM ∧ Ar w' (.slice iV n jV) n FV ∧ Ar w' (.slice iP n jP) n FY) ∧ (Ow w.heap.size (.slice iM n jM) ∧ Ow w.heap.size (.slice iV n jV) ∧ Ow w.heap.size (.slice iP n jP)) ∧ Un dv c' w w') := hV1 dv
          clear hU1 hV1 hc' HC
          have hne : ((n : Int) != (n : Int)) = false := by simp
          obtain ⟨x0, x1, x2, x3, x4, x5, x6, x7⟩ := HL.out.X
          have y0 := HL.out.S.c0
          have y1 := HL.out.S.c1
          have y2 := HL.out.S.c2
          go_wp2_with fail
          refine CU.mono ?_
          rintro e q0' ⟨sM, sV, sP, tM, tV, tP, rfl, hA, hO, hU⟩
          clear CU x0 x1 x2 x3 x4 x5 x6 x7 y0 y1 y2
          obtain ⟨y0, y1, y2, z0, z1, z2⟩ := HL.out.S.un hU (fun e => HD.out.ub e.symm)
          have hds := HD.out.l3
          have hdu := HD.out.l1
          have HL2 : Hid (R9 w du dv bs bt c' c (fun W' => Q8 w.heap.size (.int .i64 B) (.int .i64 W) (.slice adr nD cap) (.int .i64 b1) (.int .i64 b2) (.int .i64 ep) (.int .i64 dc) (.int .i64 cl) W') (.slice sM n tM) (.slice sV n tV) (.slice sP n tP) (.slice iu n ju) (.slice iw n jw) (.slice iq n jq) n FM FV FY M V P ((k : Int) + 1) (k : Int) ((((q0').setCell ⟨bs, 0, none⟩ (.slice sM n tM)).setCell ⟨bs, 1, none⟩ (.slice sV n tV)).setCell ⟨bs, 2, none⟩ (.int .i64 ((k : Int) + 1)))) := HL.out.stepU HD.out hU hA.1 hA.2.1 hA.2.2 hO ((((HL.out.X.un9r hU (by omega)).far9r ⟨bs, 0, none⟩ _ (by dsimp only; omega)).far9r ⟨bs, 1, none⟩ _ (by dsimp only; omega)).far9r ⟨bs, 2, none⟩ _ (by dsimp only; omega))
          clear hA hO hU HL hds hdu cgr
          go_upto_region 16 with fail
          clear y0 y1 y2 z0 z1 z2
          generalize ((((q0').setCell ⟨bs, 0, none⟩ (.slice sM n tM)).setCell ⟨bs, 1, none⟩ (.slice sV n tV)).setCell ⟨bs, 2, none⟩ (.int .i64 ((k : Int) + 1))) = w11 at *
          have hbD : Below w11.heap.size w11 w11.drew := (Below.refl _ _).drew
          replace HL2 : Hid (R9 w du dv bs bt c' c (fun W' => Q8 w.heap.size (.int .i64 B) (.int .i64 W) (.slice adr nD cap) (.int .i64 b1) (.int .i64 b2) (.int .i64 ep) (.int .i64 dc) (.int .i64 cl) W') (.slice sM n tM) (.slice sV n tV) (.slice sP n tP) (.slice iu n ju) (.slice iw n jw) (.slice iq n jq) n FM FV FY M V P ((k : Int) + 1) (k : Int) w11.drew) := HL2.out.later hbD (HL2.out.X.later hbD)
          refine wp_region_held_drew (S := fun W' => Q8 w.heap.size (.int .i64 B) (.int .i64 W) (.slice adr nD cap) (.int .i64 b1) (.int .i64 b2) (.int .i64 ep) (.int .i64 dc) (.int .i64 cl) W') (by kernel_rfl) HL2.out.X (fun HS => ?_)
          clear hbD
          generalize w11.drew = q0 at *
          refine wpAnyH_take (i := 0) (v := ?_) rfl (by kernel_rfl) (by kernel_rfl) (by kernel_rfl) (fun _ _ _ h => h) (Or.inl ⟨by kernel_rfl, ?_⟩) HS ?_
          rotate_left
          · (rintro w ⟨x0, x1, x2, x3, x4, x5, x6, x7⟩; go_simp) <;> with_reducible rfl
          try simp only [Act.put, List.getElem_toArray, List.getElem_cons_succ, List.getElem_cons_zero, List.setIfInBounds_toArray, List.set_cons_zero, List.set_cons_succ]
          refine wpAnyH_take (i := 1) (v := ?_) rfl (by kernel_rfl) (by kernel_rfl) (by kernel_rfl) (fun _ _ _ h => h) (Or.inl ⟨by kernel_rfl, ?_⟩) HS ?_
          rotate_left
          · (rintro w ⟨x0, x1, x2, x3, x4, x5, x6, x7⟩; go_simp) <;> with_reducible rfl
          try simp only [Act.put, List.getElem_toArray, List.getElem_cons_succ, List.getElem_cons_zero, List.setIfInBounds_toArray, List.set_cons_zero, List.set_cons_succ]
          refine wpAnyH_take (i := 4) (v := ?_) rfl (by kernel_rfl) (by kernel_rfl) (by kernel_rfl) (fun _ _ _ h => h) (Or.inl ⟨by kernel_rfl, ?_⟩) HS ?_
          rotate_left
          · (rintro w ⟨x0, x1, x2, x3, x4, x5, x6, x7⟩; go_simp) <;> with_reducible rfl
          try simp only [Act.put, List.getElem_toArray, List.getElem_cons_succ, List.getElem_cons_zero, List.setIfInBounds_toArray, List.set_cons_zero, List.set_cons_succ]
          refine wpAnyH_take (i := 5) (v := ?_) rfl (by kernel_rfl) (by kernel_rfl) (by kernel_rfl) (fun _ _ _ h => h) (Or.inl ⟨by kernel_rfl, ?_⟩) HS ?_
          rotate_left
          · (rintro w ⟨x0, x1, x2, x3, x4, x5, x6, x7⟩; go_simp) <;> with_reducible rfl
          try simp only [Act.put, List.getElem_toArray, List.getElem_cons_succ, List.getElem_cons_zero, List.setIfInBounds_toArray, List.set_cons_zero, List.set_cons_succ]
          refine wpAnyH_ready (rs := [2, 3]) (by kernel_rfl) (by simp) ?_
          refine AllReadyH.cons rfl (fun K hK => ?o1) (AllReadyH.cons rfl (fun K hK => ?o2) AllReadyH.nil)
          case' o1 =>
            go_simp
            refine (CI2.out _ HL2.out.L.B).mono ?_
            rintro e q1 ⟨ad8, ca8, rfl, hD8, hb⟩
            refine hK.out _ _ (HS.later hb) (fun HS => ?_)
            clear hK K
            replace HL2 : Hid (R9 w du dv bs bt c' c (fun W' => Q8 w.heap.size (.int .i64 B) (.int .i64 W) (.slice adr nD cap) (.int .i64 b1) (.int .i64 b2) (.int .i64 ep) (.int .i64 dc) (.int .i64 cl) W') (.slice sM n tM) (.slice sV n tV) (.slice sP n tP) (.slice iu n ju) (.slice iw n jw) (.slice iq n jq) n FM FV FY M V P ((k : Int) + 1) (k : Int) q1) := HL2.out.later hb (HL2.out.X.later hb)
            have HIn : Hid (Drp q1 (.slice ad8 nD ca8) nD at' fa) := hD8
            clear hb hD8
            refine wpAnyH_ready (rs := [3, 6]) (by kernel_rfl) (by simp) ?_
            refine AllReadyH.cons rfl (fun K hK => ?o3) (AllReadyH.cons rfl (fun K hK => ?o4) AllReadyH.nil)
            case' o3 =>
              have y0 := HL2.out.T.c0
              have y1 := HL2.out.T.c1
              have y2 := HL2.out.T.c2
              go_simp
              refine hK.out _ _ HS (fun HS => ?_)
              clear hK K y0 y1 y2
              refine wpAnyH_ready (rs := [6]) (by kernel_rfl) (by simp) ?_
              refine AllReadyH.cons rfl (fun K hK => ?o5) AllReadyH.nil
              case' o5 =>
                go_simp
                refine (plain9_any _ n (fs k) (by omega) _ (HAg.out.later HL2.out.L.B)).mono ?_
                rintro e q2 ⟨vg', rfl, hA2, hO2, hb⟩
                obtain ⟨ig, jg, _, _, rfl, -, -, -, -⟩ := id hA2
                refine hK.out _ _ (HS.later hb) (fun HS => ?_)
                clear hK K
                have HG2 : Hid (Ar q2 (.slice ig n jg) n (fs k) ∧ Nb (.slice ig n jg) dv) := ⟨hA2, hO2.nb HL2.out.lts.2.1⟩
                replace HL2 : Hid (R9 w du dv bs bt c' c (fun W' => Q8 w.heap.size (.int .i64 B) (.int .i64 W) (.slice adr nD cap) (.int .i64 b1) (.int .i64 b2) (.int .i64 ep) (.int .i64 dc) (.int .i64 cl) W') (.slice sM n tM) (.slice sV n tV) (.slice sP n tP) (.slice iu n ju) (.slice iw n jw) (.slice iq n jq) n FM FV FY M V P ((k : Int) + 1) (k : Int) q2) := HL2.out.later hb (HL2.out.X.later hb)
                replace HIn : Hid (Drp q2 (.slice ad8 nD ca8) nD at' fa) := HIn.out.later hb
                clear hb hA2 hO2
            case' o4 =>
              go_simp
              refine (plain9_any _ n (fs k) (by omega) _ (HAg.out.later HL2.out.L.B)).mono ?_
              rintro e q2 ⟨vg', rfl, hA2, hO2, hb⟩
              obtain ⟨ig, jg, _, _, rfl, -, -, -, -⟩ := id hA2
              refine hK.out _ _ (HS.later hb) (fun HS => ?_)
              clear hK K
              have HG2 : Hid (Ar q2 (.slice ig n jg) n (fs k) ∧ Nb (.slice ig n jg) dv) := ⟨hA2, hO2.nb HL2.out.lts.2.1⟩
              replace HL2 : Hid (R9 w du dv bs bt c' c (fun W' => Q8 w.heap.size (.int .i64 B) (.int .i64 W) (.slice adr nD cap) (.int .i64 b1) (.int .i64 b2) (.int .i64 ep) (.int .i64 dc) (.int .i64 cl) W') (.slice sM n tM) (.slice sV n tV) (.slice sP n tP) (.slice iu n ju) (.slice iw n jw) (.slice iq n jq) n FM FV FY M V P ((k : Int) + 1) (k : Int) q2) := HL2.out.later hb (HL2.out.X.later hb)
              replace HIn : Hid (Drp q2 (.slice ad8 nD ca8) nD at' fa) := HIn.out.later hb
              clear hb hA2 hO2
              refine wpAnyH_ready (rs := [3]) (by kernel_rfl) (by simp) ?_
              refine AllReadyH.cons rfl (fun K hK => ?o6) AllReadyH.nil
              case' o6 =>
                have y0 := HL2.out.T.c0
                have y1 := HL2.out.T.c1
                have y2 := HL2.out.T.c2
                go_simp
                refine hK.out _ _ HS (fun HS => ?_)
                clear hK K y0 y1 y2
          case' o2 =>
            have y0 := HL2.out.T.c0
            have y1 := HL2.out.T.c1
            have y2 := HL2.out.T.c2
            go_simp
            refine hK.out _ _ HS (fun HS => ?_)
            clear hK K y0 y1 y2
            refine wpAnyH_ready (rs := [2]) (by kernel_rfl) (by simp) ?_
            refine AllReadyH.cons rfl (fun K hK => ?o7) AllReadyH.nil
            case' o7 =>
              go_simp
              refine (CI2.out _ HL2.out.L.B).mono ?_
              rintro e q1 ⟨ad8, ca8, rfl, hD8, hb⟩
              refine hK.out _ _ (HS.later hb) (fun HS => ?_)
              clear hK K
              replace HL2 : Hid (R9 w du dv bs bt c' c (fun W' => Q8 w.heap.size (.int .i64 B) (.int .i64 W) (.slice adr nD cap) (.int .i64 b1) (.int .i64 b2) (.int .i64 ep) (.int .i64 dc) (.int .i64 cl) W') (.slice sM n tM) (.slice sV n tV) (.slice sP n tP) (.slice iu n ju) (.slice iw n jw) (.slice iq n jq) n FM FV FY M V P ((k : Int) + 1) (k : Int) q1) := HL2.out.later hb (HL2.out.X.later hb)
              have HIn : Hid (Drp q1 (.slice ad8 nD ca8) nD at' fa) := hD8
              clear hb hD8
              refine wpAnyH_ready (rs := [6]) (by kernel_rfl) (by simp) ?_
              refine AllReadyH.cons rfl (fun K hK => ?o8) AllReadyH.nil
              case' o8 =>
                go_simp
                refine (plain9_any _ n (fs k) (by omega) _ (HAg.out.later HL2.out.L.B)).mono ?_
                rintro e q2 ⟨vg', rfl, hA2, hO2, hb⟩
                obtain ⟨ig, jg, _, _, rfl, -, -, -, -⟩ := id hA2
                refine hK.out _ _ (HS.later hb) (fun HS => ?_)
                clear hK K
                have HG2 : Hid (Ar q2 (.slice ig n jg) n (fs k) ∧ Nb (.slice ig n jg) dv) := ⟨hA2, hO2.nb HL2.out.lts.2.1⟩
                replace HL2 : Hid (R9 w du dv bs bt c' c (fun W' => Q8 w.heap.size (.int .i64 B) (.int .i64 W) (.slice adr nD cap) (.int .i64 b1) (.int .i64 b2) (.int .i64 ep) (.int .i64 dc) (.int .i64 cl) W') (.slice sM n tM) (.slice sV n tV) (.slice sP n tP) (.slice iu n ju) (.slice iw n jw) (.slice iq n jq) n FM FV FY M V P ((k : Int) + 1) (k : Int) q2) := HL2.out.later hb (HL2.out.X.later hb)
                replace HIn : Hid (Drp q2 (.slice ad8 nD ca8) nD at' fa) := HIn.out.later hb
                clear hb hA2 hO2
          all_goals
            refine wpAnyH_ready (rs := [7]) (by kernel_rfl) (by simp) ?_
            refine AllReadyH.cons rfl (fun K hK => ?_) AllReadyH.nil
            go_simp
            refine (HV1.out _ _ _ _ _ _ HIn.out HL2.out.b1 HL2.out.b2 HL2.out.b3 HG2.out.1 HL2.out.m1.2.1 HL2.out.m2.2.1 HL2.out.m3.2.1 HG2.out.2 HL2.out.L.v).mono ?_
            rintro e q3 ⟨rM, rV, rP, oM, oV, oP, rfl, hA, hO, hU⟩
            refine hK.out _ _ (HS.un9r hU (by have := HD.out.l2; omega)) (fun HS => ?_)
            clear hK K
            have hd4 := HD.out.l4
            have hd2 := HD.out.l2
            have HY : Hid (Y3 bt (.slice iu n ju) (.slice iw n jw) (.int .i64 (k : Int)) q3) := HL2.out.T.un hU (fun e => HD.out.vt e.symm)
            have HL3 : Hid (R9 w du dv bs bt c' c' (fun W' => Q8 w.heap.size (.int .i64 B) (.int .i64 W) (.slice adr nD cap) (.int .i64 b1) (.int .i64 b2) (.int .i64 ep) (.int .i64 dc) (.int .i64 cl) W') (.slice sM n tM) (.slice sV n tV) (.slice sP n tP) (.slice rM n oM) (.slice rV n oV) (.slice rP n oP) n FM FV FY FM FV FY ((k : Int) + 1) ((k : Int) + 1) ((((q3).setCell ⟨bt, 0, none⟩ (.slice rM n oM)).setCell ⟨bt, 1, none⟩ (.slice rV n oV)).setCell ⟨bt, 2, none⟩ (.int .i64 ((k : Int) + 1)))) := HL2.out.stepV HD.out hU hA.1 hA.2.1 hA.2.2 hO ((((HL2.out.X.un9r hU (by omega)).far9r ⟨bt, 0, none⟩ _ (by dsimp only; omega)).far9r ⟨bt, 1, none⟩ _ (by dsimp only; omega)).far9r ⟨bt, 2, none⟩ _ (by dsimp only; omega))
            clear hA hO hU HL2 HIn HG2
            refine wpAnyH_take (i := 8) (v := ?_) rfl (by kernel_rfl) (by kernel_rfl) (by kernel_rfl) (fun _ _ _ h => h) (Or.inl ⟨by kernel_rfl, ?_⟩) HS ?_
            rotate_left
            · (rintro w ⟨x0, x1, x2, x3, x4, x5, x6, x7⟩; go_simp) <;> with_reducible rfl
            try simp only [Act.put, List.getElem_toArray, List.getElem_cons_succ, List.getElem_cons_zero, List.setIfInBounds_toArray, List.set_cons_zero, List.set_cons_succ]
            refine wpAnyH_take (i := 9) (v := ?_) rfl (by kernel_rfl) (by kernel_rfl) (by kernel_rfl) (fun _ _ _ h => h) (Or.inl ⟨by kernel_rfl, ?_⟩) HS ?_
            rotate_left
            · (rintro w ⟨x0, x1, x2, x3, x4, x5, x6, x7⟩; go_simp) <;> with_reducible rfl
            try simp only [Act.put, List.getElem_toArray, List.getElem_cons_succ, List.getElem_cons_zero, List.setIfInBounds_toArray, List.set_cons_zero, List.set_cons_succ]
            refine wpAnyH_take (i := 10) (v := ?_) rfl (by kernel_rfl) (by kernel_rfl) (by kernel_rfl) (fun _ _ _ h => h) (Or.inl ⟨by kernel_rfl, ?_⟩) HS ?_
            rotate_left
            · (rintro w ⟨x0, x1, x2, x3, x4, x5, x6, x7⟩; go_simp) <;> with_reducible rfl
            try simp only [Act.put, List.getElem_toArray, List.getElem_cons_succ, List.getElem_cons_zero, List.setIfInBounds_toArray, List.set_cons_zero, List.set_cons_succ]
            obtain ⟨y0, y1, y2, f0, f1, f2⟩ := HY.out
            refine wpAnyH_ready (rs := [11]) (by kernel_rfl) (by simp) ?_
            refine AllReadyH.cons rfl (fun K hK => ?_) AllReadyH.nil
            go_simp
            refine hK.out _ _ (((HS.far9r ⟨bt, 0, none⟩ _ (by dsimp only; omega)).far9r ⟨bt, 1, none⟩ _ (by dsimp only; omega)).far9r ⟨bt, 2, none⟩ _ (by dsimp only; omega)) (fun HS => ?_)
            clear hK K y0 y1 y2 f0 f1 f2 HY hd4 hd2
            refine wpAnyH_take (i := 12) (v := ?_) rfl (by kernel_rfl) (by kernel_rfl) (by kernel_rfl) (fun _ _ _ h => h) (Or.inl ⟨by kernel_rfl, ?_⟩) HS ?_
            rotate_left
            · (rintro w ⟨x0, x1, x2, x3, x4, x5, x6, x7⟩; go_simp) <;> with_reducible rfl
            try simp only [Act.put, List.getElem_toArray, List.getElem_cons_succ, List.getElem_cons_zero, List.setIfInBounds_toArray, List.set_cons_zero, List.set_cons_succ]
            refine wpAnyH_done (by kernel_rfl) ?_ _
            clear HS
            generalize ((((q3).setCell ⟨bt, 0, none⟩ (.slice rM n oM)).setCell ⟨bt, 1, none⟩ (.slice rV n oV)).setCell ⟨bt, 2, none⟩ (.int .i64 ((k : Int) + 1))) = wE at *
            go_wp2_with fail
            refine (plain9_any _ n FY (by omega) _ HL3.out.a3).mono ?_
            rintro e wF ⟨vF, rfl, hAF, -, hb⟩
            replace HL3 : Hid (R9 w du dv bs bt c' c' (fun W' => Q8 w.heap.size (.int .i64 B) (.int .i64 W) (.slice adr nD cap) (.int .i64 b1) (.int .i64 b2) (.int .i64 ep) (.int .i64 dc) (.int .i64 cl) W') (.slice sM n tM) (.slice sV n tV) (.slice sP n tP) (.slice rM n oM) (.slice rV n oV) (.slice rP n oP) n FM FV FY FM FV FY ((k : Int) + 1) ((k : Int) + 1) wF) := HL3.out.later hb (HL3.out.X.later hb)
            obtain ⟨iF, jF, _, _, rfl, -, -, -, -⟩ := id hAF
            have CSm := same_yes _ _ n FY (by omega) wF hAF HL3.out.b3
            clear hb hAF
            go_wp2_with fail
            refine CSm.mono ?_
            rintro e wG ⟨rfl, hb⟩
            replace HL3 : Hid (R9 w du dv bs bt c' c' (fun W' => Q8 w.heap.size (.int .i64 B) (.int .i64 W) (.slice adr nD cap) (.int .i64 b1) (.int .i64 b2) (.int .i64 ep) (.int .i64 dc) (.int .i64 cl) W') (.slice sM n tM) (.slice sV n tV) (.slice sP n tP) (.slice rM n oM) (.slice rV n oV) (.slice rP n oP) n FM FV FY FM FV FY ((k : Int) + 1) ((k : Int) + 1) wG) := HL3.out.later hb (HL3.out.X.later hb)
            clear hb CSm
            have s2 := HL3.out.S.c2
            have t2 := HL3.out.T.c2
            have hkk : (((k : Int) + 1) != ((k : Int) + 1)) = false := by simp
            go_wp2
            go_roundw
            case rel => exact ⟨k + 1, c', FM, FV, FY, _, _, _, _, _, _, _, _, _, _, _, _, by omega, rfl, rfl, rfl, by go_num, by rw [show (((k + 1 : Nat)) : Int) = (k : Int) + 1 by omega]; exact HC2, by rw [show (((k + 1 : Nat)) : Int) = (k : Int) + 1 by omega]; exact HL3⟩
            case measure => simp [intOf]; omega
        · have hne : ((ns k : Int) != (n : Int)) = true := by simp; omega
          have HBr : Hid (Below w.heap.size w wr) := HL.out.L.B
          clear hgn hAg HL
          go_wp2
          go_ret
          exact ⟨rfl, HBr.out⟩
      · obtain rfl : k = K := by omega
        have hkI : ¬ (k : Int) < (k : Int) := by omega
        go_upto_region 20 with fail
        have hbD : Below wr.heap.size wr wr.drew := (Below.refl _ _).drew
        replace HL : Hid (R9 w du dv bs bt c c (fun W' => Q8 w.heap.size (.int .i64 B) (.int .i64 W) (.slice adr nD cap) (.int .i64 b1) (.int .i64 b2) (.int .i64 ep) (.int .i64 dc) (.int .i64 cl) W') (.slice iM n jM) (.slice iV n jV) (.slice ip n jp) (.slice iu n ju) (.slice iw n jw) (.slice iq n jq) n M V P M V P (k : Int) (k : Int) wr.drew) := HL.out.later hbD (HL.out.X.later hbD)
        refine wp_region_held_drew (S := fun W' => Y3 bs (.slice iM n jM) (.slice iV n jV) (.int .i64 (k : Int)) W' ∧ Y3 bt (.slice iu n ju) (.slice iw n jw) (.int .i64 (k : Int)) W' ∧ W'.cell? ⟨dv, 0, none⟩ = some (.int .i64 c)) (by kernel_rfl) ⟨HL.out.S, HL.out.T, HL.out.L.v.1⟩ (fun HS => ?_)
        clear hbD
        generalize wr.drew = q0 at *
        refine wpAnyH_take (i := 0) (v := ?_) rfl (by kernel_rfl) (by kernel_rfl) (by kernel_rfl) (fun _ _ _ h => h) (Or.inl ⟨by kernel_rfl, ?_⟩) HS ?_
        rotate_left
        · (rintro w ⟨⟨s0, s1, s2, s3, s4, s5⟩, ⟨r0, r1, r2, r3, r4, r5⟩, cdv⟩; go_simp) <;> with_reducible rfl
        try simp only [Act.put, List.getElem_toArray, List.getElem_cons_succ, List.getElem_cons_zero, List.setIfInBounds_toArray, List.set_cons_zero, List.set_cons_succ]
        refine wpAnyH_take (i := 1) (v := ?_) rfl (by kernel_rfl) (by kernel_rfl) (by kernel_rfl) (fun _ _ _ h => h) (Or.inl ⟨by kernel_rfl, ?_⟩) HS ?_
        rotate_left
        · (rintro w ⟨⟨s0, s1, s2, s3, s4, s5⟩, ⟨r0, r1, r2, r3, r4, r5⟩, cdv⟩; go_simp) <;> with_reducible rfl
        try simp only [Act.put, List.getElem_toArray, List.getElem_cons_succ, List.getElem_cons_zero, List.setIfInBounds_toArray, List.set_cons_zero, List.set_cons_succ]
        refine wpAnyH_take (i := 3) (v := ?_) rfl (by kernel_rfl) (by kernel_rfl) (by kernel_rfl) (fun _ _ _ h => h) (Or.inl ⟨by kernel_rfl, ?_⟩) HS ?_
        rotate_left
        · (rintro w ⟨⟨s0, s1, s2, s3, s4, s5⟩, ⟨r0, r1, r2, r3, r4, r5⟩, cdv⟩; go_simp) <;> with_reducible rfl
        try simp only [Act.put, List.getElem_toArray, List.getElem_cons_succ, List.getElem_cons_zero, List.setIfInBounds_toArray, List.set_cons_zero, List.set_cons_succ]
        refine wpAnyH_take (i := 4) (v := ?_) rfl (by kernel_rfl) (by kernel_rfl) (by kernel_rfl) (fun _ _ _ h => h) (Or.inl ⟨by kernel_rfl, ?_⟩) HS ?_
        rotate_left
        · (rintro w ⟨⟨s0, s1, s2, s3, s4, s5⟩, ⟨r0, r1, r2, r3, r4, r5⟩, cdv⟩; go_simp) <;> with_reducible rfl
        try simp only [Act.put, List.getElem_toArray, List.getElem_cons_succ, List.getElem_cons_zero, List.setIfInBounds_toArray, List.set_cons_zero, List.set_cons_succ]
        refine wpAnyH_ready (rs := [2]) (by kernel_rfl) (by simp) ?_
        refine AllReadyH.cons rfl (fun K hK => ?_) AllReadyH.nil
        go_simp
        refine (plain9_any _ n M (by omega) q0 HL.out.a1).mono ?_
        rintro e p0p ⟨t1, rfl, hA1, -, hb⟩
        refine hK.out _ _ ⟨HS.1.later hb, HS.2.1.later hb, cell_later hb HS.2.2⟩ (fun HS => ?_)
        clear hK K
        replace HL : Hid (R9 w du dv bs bt c c (fun W' => Q8 w.heap.size (.int .i64 B) (.int .i64 W) (.slice adr nD cap) (.int .i64 b1) (.int .i64 b2) (.int .i64 ep) (.int .i64 dc) (.int .i64 cl) W') (.slice iM n jM) (.slice iV n jV) (.slice ip n jp) (.slice iu n ju) (.slice iw n jw) (.slice iq n jq) n M V P M V P (k : Int) (k : Int) p0p) := HL.out.later hb (HL.out.X.later hb)
        clear hb
        have CS := same_yes _ _ n M (by omega) p0p hA1 HL.out.b1
        clear hA1
        refine wpAnyH_ready (rs := [5]) (by kernel_rfl) (by simp) ?_
        refine AllReadyH.cons rfl (fun K hK => ?_) AllReadyH.nil
        go_simp
        refine (CS).mono ?_
        rintro e p0s ⟨rfl, hb⟩
        refine hK.out _ _ ⟨HS.1.later hb, HS.2.1.later hb, cell_later hb HS.2.2⟩ (fun HS => ?_)
        clear hK K
        replace HL : Hid (R9 w du dv bs bt c c (fun W' => Q8 w.heap.size (.int .i64 B) (.int .i64 W) (.slice adr nD cap) (.int .i64 b1) (.int .i64 b2) (.int .i64 ep) (.int .i64 dc) (.int .i64 cl) W') (.slice iM n jM) (.slice iV n jV) (.slice ip n jp) (.slice iu n ju) (.slice iw n jw) (.slice iq n jq) n M V P M V P (k : Int) (k : Int) p0s) := HL.out.later hb (HL.out.X.later hb)
        clear hb CS
        refine wpAnyH_take (i := 6) (v := ?_) rfl (by kernel_rfl) (by kernel_rfl) (by kernel_rfl) (fun _ _ _ h => h) (Or.inl ⟨by kernel_rfl, ?_⟩) HS ?_
        rotate_left
        · (rintro w ⟨⟨s0, s1, s2, s3, s4, s5⟩, ⟨r0, r1, r2, r3, r4, r5⟩, cdv⟩; go_simp) <;> with_reducible rfl
        try simp only [Act.put, List.getElem_toArray, List.getElem_cons_succ, List.getElem_cons_zero, List.setIfInBounds_toArray, List.set_cons_zero, List.set_cons_succ]
        refine wpAnyH_take (i := 7) (v := ?_) rfl (by kernel_rfl) (by kernel_rfl) (by kernel_rfl) (fun _ _ _ h => h) (Or.inl ⟨by kernel_rfl, ?_⟩) HS ?_
        rotate_left
        · (rintro w ⟨⟨s0, s1, s2, s3, s4, s5⟩, ⟨r0, r1, r2, r3, r4, r5⟩, cdv⟩; go_simp) <;> with_reducible rfl
        try simp only [Act.put, List.getElem_toArray, List.getElem_cons_succ, List.getElem_cons_zero, List.setIfInBounds_toArray, List.set_cons_zero, List.set_cons_succ]
        refine wpAnyH_take (i := 8) (v := ?_) rfl (by kernel_rfl) (by kernel_rfl) (by kernel_rfl) (fun _ _ _ h => h) (Or.inl ⟨by kernel_rfl, ?_⟩) HS ?_
        rotate_left
        · (rintro w ⟨⟨s0, s1, s2, s3, s4, s5⟩, ⟨r0, r1, r2, r3, r4, r5⟩, cdv⟩; go_simp) <;> with_reducible rfl
        try simp only [Act.put, List.getElem_toArray, List.getElem_cons_succ, List.getElem_cons_zero, List.setIfInBounds_toArray, List.set_cons_zero, List.set_cons_succ]
        refine wpAnyH_take (i := 10) (v := ?_) rfl (by kernel_rfl) (by kernel_rfl) (by kernel_rfl) (fun _ _ _ h => h) (Or.inl ⟨by kernel_rfl, ?_⟩) HS ?_
        rotate_left
        · (rintro w ⟨⟨s0, s1, s2, s3, s4, s5⟩, ⟨r0, r1, r2, r3, r4, r5⟩, cdv⟩; go_simp) <;> with_reducible rfl
        try simp only [Act.put, List.getElem_toArray, List.getElem_cons_succ, List.getElem_cons_zero, List.setIfInBounds_toArray, List.set_cons_zero, List.set_cons_succ]
        refine wpAnyH_take (i := 11) (v := ?_) rfl (by kernel_rfl) (by kernel_rfl) (by kernel_rfl) (fun _ _ _ h => h) (Or.inl ⟨by kernel_rfl, ?_⟩) HS ?_
        rotate_left
        · (rintro w ⟨⟨s0, s1, s2, s3, s4, s5⟩, ⟨r0, r1, r2, r3, r4, r5⟩, cdv⟩; go_simp) <;> with_reducible rfl
        try simp only [Act.put, List.getElem_toArray, List.getElem_cons_succ, List.getElem_cons_zero, List.setIfInBounds_toArray, List.set_cons_zero, List.set_cons_succ]
        refine wpAnyH_ready (rs := [9]) (by kernel_rfl) (by simp) ?_
        refine AllReadyH.cons rfl (fun K hK => ?_) AllReadyH.nil
        go_simp
        refine (plain9_any _ n V (by omega) p0s HL.out.a2).mono ?_
        rintro e p1p ⟨t1, rfl, hA1, -, hb⟩
        refine hK.out _ _ ⟨HS.1.later hb, HS.2.1.later hb, cell_later hb HS.2.2⟩ (fun HS => ?_)
        clear hK K
        replace HL : Hid (R9 w du dv bs bt c c (fun W' => Q8 w.heap.size (.int .i64 B) (.int .i64 W) (.slice adr nD cap) (.int .i64 b1) (.int .i64 b2) (.int .i64 ep) (.int .i64 dc) (.int .i64 cl) W') (.slice iM n jM) (.slice iV n jV) (.slice ip n jp) (.slice iu n ju) (.slice iw n jw) (.slice iq n jq) n M V P M V P (k : Int) (k : Int) p1p) := HL.out.later hb (HL.out.X.later hb)
        clear hb
        have CS := same_yes _ _ n V (by omega) p1p hA1 HL.out.b2
        clear hA1
        refine wpAnyH_ready (rs := [12]) (by kernel_rfl) (by simp) ?_
        refine AllReadyH.cons rfl (fun K hK => ?_) AllReadyH.nil
        go_simp
        refine (CS).mono ?_
        rintro e p1s ⟨rfl, hb⟩
        refine hK.out _ _ ⟨HS.1.later hb, HS.2.1.later hb, cell_later hb HS.2.2⟩ (fun HS => ?_)
        clear hK K
        replace HL : Hid (R9 w du dv bs bt c c (fun W' => Q8 w.heap.size (.int .i64 B) (.int .i64 W) (.slice adr nD cap) (.int .i64 b1) (.int .i64 b2) (.int .i64 ep) (.int .i64 dc) (.int .i64 cl) W') (.slice iM n jM) (.slice iV n jV) (.slice ip n jp) (.slice iu n ju) (.slice iw n jw) (.slice iq n jq) n M V P M V P (k : Int) (k : Int) p1s) := HL.out.later hb (HL.out.X.later hb)
        clear hb CS
        refine wpAnyH_take (i := 13) (v := ?_) rfl (by kernel_rfl) (by kernel_rfl) (by kernel_rfl) (fun _ _ _ h => h) (Or.inl ⟨by kernel_rfl, ?_⟩) HS ?_
        rotate_left
        · (rintro w ⟨⟨s0, s1, s2, s3, s4, s5⟩, ⟨r0, r1, r2, r3, r4, r5⟩, cdv⟩; go_simp) <;> with_reducible rfl
        try simp only [Act.put, List.getElem_toArray, List.getElem_cons_succ, List.getElem_cons_zero, List.setIfInBounds_toArray, List.set_cons_zero, List.set_cons_succ]
        refine wpAnyH_take (i := 14) (v := ?_) rfl (by kernel_rfl) (by kernel_rfl) (by kernel_rfl) (fun _ _ _ h => h) (Or.inl ⟨by kernel_rfl, ?_⟩) HS ?_
        rotate_left
        · (rintro w ⟨⟨s0, s1, s2, s3, s4, s5⟩, ⟨r0, r1, r2, r3, r4, r5⟩, cdv⟩; go_simp) <;> with_reducible rfl
        try simp only [Act.put, List.getElem_toArray, List.getElem_cons_succ, List.getElem_cons_zero, List.setIfInBounds_toArray, List.set_cons_zero, List.set_cons_succ]
        refine wpAnyH_take (i := 15) (v := ?_) rfl (by kernel_rfl) (by kernel_rfl) (by kernel_rfl) (fun _ _ _ h => h) (Or.inl ⟨by kernel_rfl, ?_⟩) HS ?_
        rotate_left
        · (rintro w ⟨⟨s0, s1, s2, s3, s4, s5⟩, ⟨r0, r1, r2, r3, r4, r5⟩, cdv⟩; go_simp) <;> with_reducible rfl
        try simp only [Act.put, List.getElem_toArray, List.getElem_cons_succ, List.getElem_cons_zero, List.setIfInBounds_toArray, List.set_cons_zero, List.set_cons_succ]
        refine wpAnyH_take (i := 17) (v := ?_) rfl (by kernel_rfl) (by kernel_rfl) (by kernel_rfl) (fun _ _ _ h => h) (Or.inl ⟨by kernel_rfl, ?_⟩) HS ?_
        rotate_left
        · (rintro w ⟨⟨s0, s1, s2, s3, s4, s5⟩, ⟨r0, r1, r2, r3, r4, r5⟩, cdv⟩; go_simp) <;> with_reducible rfl
        try simp only [Act.put, List.getElem_toArray, List.getElem_cons_succ, List.getElem_cons_zero, List.setIfInBounds_toArray, List.set_cons_zero, List.set_cons_succ]
        refine wpAnyH_take (i := 18) (v := ?_) rfl (by kernel_rfl) (by kernel_rfl) (by kernel_rfl) (fun _ _ _ h => h) (Or.inl ⟨by kernel_rfl, ?_⟩) HS ?_
        rotate_left
        · (rintro w ⟨⟨s0, s1, s2, s3, s4, s5⟩, ⟨r0, r1, r2, r3, r4, r5⟩, cdv⟩; go_simp) <;> with_reducible rfl
        try simp only [Act.put, List.getElem_toArray, List.getElem_cons_succ, List.getElem_cons_zero, List.setIfInBounds_toArray, List.set_cons_zero, List.set_cons_succ]
        refine wpAnyH_take (i := 19) (v := ?_) rfl (by kernel_rfl) (by kernel_rfl) (by kernel_rfl) (fun _ _ _ h => h) (Or.inl ⟨by kernel_rfl, ?_⟩) HS ?_
        rotate_left
        · (rintro w ⟨⟨s0, s1, s2, s3, s4, s5⟩, ⟨r0, r1, r2, r3, r4, r5⟩, cdv⟩; go_simp) <;> with_reducible rfl
        try simp only [Act.put, List.getElem_toArray, List.getElem_cons_succ, List.getElem_cons_zero, List.setIfInBounds_toArray, List.set_cons_zero, List.set_cons_succ]
        refine wpAnyH_take (i := 20) (v := ?_) rfl (by kernel_rfl) (by kernel_rfl) (by kernel_rfl) (fun _ _ _ h => h) (Or.inl ⟨by kernel_rfl, ?_⟩) HS ?_
        rotate_left
        · (rintro w ⟨⟨s0, s1, s2, s3, s4, s5⟩, ⟨r0, r1, r2, r3, r4, r5⟩, cdv⟩; go_simp) <;> with_reducible rfl
        try simp only [Act.put, List.getElem_toArray, List.getElem_cons_succ, List.getElem_cons_zero, List.setIfInBounds_toArray, List.set_cons_zero, List.set_cons_succ]
        refine wpAnyH_ready (rs := [16]) (by kernel_rfl) (by simp) ?_
        refine AllReadyH.cons rfl (fun K hK => ?_) AllReadyH.nil
        go_simp
        refine (count_any du c p1s HL.out.L.u.1).mono ?_
        rintro e wz ⟨rfl, rfl⟩
        refine hK.out _ _ HS (fun HS => ?_)
        clear hK K
        refine wpAnyH_take (i := 21) (v := ?_) rfl (by kernel_rfl) (by kernel_rfl) (by kernel_rfl) (fun _ _ _ h => h) (Or.inl ⟨by kernel_rfl, ?_⟩) HS ?_
        rotate_left
        · (rintro w ⟨⟨s0, s1, s2, s3, s4, s5⟩, ⟨r0, r1, r2, r3, r4, r5⟩, cdv⟩; go_simp) <;> with_reducible rfl
        try simp only [Act.put, List.getElem_toArray, List.getElem_cons_succ, List.getElem_cons_zero, List.setIfInBounds_toArray, List.set_cons_zero, List.set_cons_succ]
        refine wpAnyH_take (i := 22) (v := ?_) rfl (by kernel_rfl) (by kernel_rfl) (by kernel_rfl) (fun _ _ _ h => h) (Or.inl ⟨by kernel_rfl, ?_⟩) HS ?_
        rotate_left
        · (rintro w ⟨⟨s0, s1, s2, s3, s4, s5⟩, ⟨r0, r1, r2, r3, r4, r5⟩, cdv⟩; go_simp) <;> with_reducible rfl
        try simp only [Act.put, List.getElem_toArray, List.getElem_cons_succ, List.getElem_cons_zero, List.setIfInBounds_toArray, List.set_cons_zero, List.set_cons_succ]
        refine wpAnyH_take (i := 23) (v := ?_) rfl (by kernel_rfl) (by kernel_rfl) (by kernel_rfl) (fun _ _ _ h => h) (Or.inl ⟨by kernel_rfl, ?_⟩) HS ?_
        rotate_left
        · (rintro w ⟨⟨s0, s1, s2, s3, s4, s5⟩, ⟨r0, r1, r2, r3, r4, r5⟩, cdv⟩; go_simp) <;> with_reducible rfl
        try simp only [Act.put, List.getElem_toArray, List.getElem_cons_succ, List.getElem_cons_zero, List.setIfInBounds_toArray, List.set_cons_zero, List.set_cons_succ]
        refine wpAnyH_done (by kernel_rfl) ?_ _
        clear HS
        go_wp2
        go_ret
        exact ⟨rfl, HL.out.L.B⟩
  · have e0 := hTl.no hI
    subst e0
    clear hTl hI
    go_wp2
    go_ret
    exact ⟨rfl, HB4.out⟩
end Go.Proofs.YtcdehbhdloaieaaGreatDoor
