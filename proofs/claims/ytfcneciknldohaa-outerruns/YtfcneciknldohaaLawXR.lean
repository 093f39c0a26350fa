/-
  OuterRuns: for every rule, every parameters and every list of deltas the law regattalaw10.OuterRuns returns true: from the beginning on, step by step, all is the document's, the count of held results too.
-/
import Derived.Test.YtfcneciknldohaaLawXS
import Derived.Test.YtfcneciknldohaaOFrame
set_option linter.unusedVariables false
set_option linter.unusedSimpArgs false
namespace Go.Proofs.Ytfcneciknldohaa
open Go.RowKit

theorem make_is10 (n : Nat) (hn : n ≤ 1000000) (w : World) : (Instr.makeSlice 43 (.int .i64 (n : Int)) (.int .i64 (n : Int))).run Try.prog w = .ok (.slice (some ⟨w.heap.size, 0, none⟩) n n) (w.alloc (.cells (madeCells #[.int .i64 0] n) 2)) := by
  obtain ⟨i0, hi, hz0, hz1, hz2⟩ := info_parts dinfo_i64
  have h := run_make (P := Try.prog) w 43 2 i0 (.int .i64 0) Try.underlying43 hi hz0 .i64 .i64 (n : Int) (n : Int) (by omega) (by omega) (by rw [hz2]; omega) (by omega)
  rw [hz1, Nat.mul_one] at h
  exact h
/-- Ahead of the steps: the rule in its box, the program's outer in its own. -/
structure I10 (w : World) (b0 bo : Nat) (r m vP vB : Value) (n : Nat) (P : Nat → Int) (W : World) : Prop where
  B : Below w.heap.size w W
  X : Y2 b0 r m W
  S : Y2 bo vP vB W
  a1 : Ar W vP n P
  a2 : Ar W vB n (fun _ => 0)
theorem I10.later {w : World} {b0 bo : Nat} {r m vP vB : Value} {n : Nat} {P : Nat → Int} {W W' : World} (h : I10 w b0 bo r m vP vB n P W) (hb : Below W.heap.size W W') : I10 w b0 bo r m vP vB n P W' := ⟨bchain h.B hb, h.X.later hb, h.S.later hb, h.a1.later hb, h.a2.later hb⟩
/-- A block that is none of them. -/
structure J10 (w : World) (b0 bo : Nat) (vP vB : Value) (bt : Nat) : Prop where
  w0 : w.heap.size ≤ bt
  x : bt ≠ b0
  s : bo < bt
  a : Nb vP bt
  b : Nb vB bt
theorem I10.fresh {w : World} {b0 bo : Nat} {r m vP vB : Value} {n : Nat} {P : Nat → Int} {W : World} (h : I10 w b0 bo r m vP vB n P W) : J10 w b0 bo vP vB W.heap.size := ⟨h.B.size, fun e => by have := h.X.lt; omega, h.S.lt, h.a1.nb (Nat.le_refl _), h.a2.nb (Nat.le_refl _)⟩
theorem I10.far {w : World} {b0 bo : Nat} {r m vP vB : Value} {n : Nat} {P : Nat → Int} {W : World} (h : I10 w b0 bo r m vP vB n P W) {p : Addr} (f : J10 w b0 bo vP vB p.block) (u : Value) : I10 w b0 bo r m vP vB n P (W.setCell p u) := ⟨h.B.setCell f.w0 u, h.X.far p u f.x, h.S.far p u (by have := f.s; omega), h.a1.set10 p u f.a, h.a2.set10 p u f.b⟩
/-- A list that lies apart from the units and the boxes. -/
def Na10 (du dv bo bt : Nat) (v : Value) : Prop := Nb v du ∧ Nb v dv ∧ Nb v bo ∧ Nb v bt
theorem na10_ow {du dv bo bt B : Nat} {v : Value} (h : Ow B v) (d : du < B ∧ dv < B ∧ bo < B ∧ bt < B) : Na10 du dv bo bt v := ⟨ow_apart h d.1, ow_apart h d.2.1, ow_apart h d.2.2.1, ow_apart h d.2.2.2⟩
structure D5 (w : World) (b0 du dv bo bt : Nat) : Prop where
  w : w.heap.size ≤ du ∧ w.heap.size ≤ dv ∧ w.heap.size ≤ bo ∧ w.heap.size ≤ bt
  ne : du ≠ dv
  b : b0 ≠ du ∧ b0 ≠ dv ∧ b0 ≠ bo ∧ b0 ≠ bt
  o : bo ≠ du ∧ bo ≠ dv ∧ bo ≠ bt
  t : bt ≠ du ∧ bt ≠ dv
/-- Between two steps. -/
structure R10 (w : World) (b0 du dv bo bt : Nat) (cu cv : Int) (r m vP vB uP uB : Value) (n : Nat) (P B P' B' : Nat → Int) (W : World) : Prop where
  L : L2 w du dv cu cv W
  X : Y2 b0 r m W
  S : Y2 bo vP vB W
  T : Y2 bt uP uB W
  a1 : Ar W vP n P
  a2 : Ar W vB n B
  b1 : Ar W uP n P'
  b2 : Ar W uB n B'
  n1 : Na10 du dv bo bt vP
  n2 : Na10 du dv bo bt vB
  m1 : Na10 du dv bo bt uP
  m2 : Na10 du dv bo bt uB
theorem R10.later {w : World} {b0 du dv bo bt : Nat} {cu cv : Int} {r m vP vB uP uB : Value} {n : Nat} {P B P' B' : Nat → Int} {W W' : World} (h : R10 w b0 du dv bo bt cu cv r m vP vB uP uB n P B P' B' W) (hb : Below W.heap.size W W') : R10 w b0 du dv bo bt cu cv r m vP vB uP uB n P B P' B' W' := ⟨h.L.later hb, h.X.later hb, h.S.later hb, h.T.later hb, h.a1.later hb, h.a2.later hb, h.b1.later hb, h.b2.later hb, h.n1, h.n2, h.m1, h.m2⟩
theorem R10.lts {w : World} {b0 du dv bo bt : Nat} {cu cv : Int} {r m vP vB uP uB : Value} {n : Nat} {P B P' B' : Nat → Int} {W : World} (h : R10 w b0 du dv bo bt cu cv r m vP vB uP uB n P B P' B' W) : du < W.heap.size ∧ dv < W.heap.size ∧ bo < W.heap.size ∧ bt < W.heap.size := ⟨World.block_lt_of_cell? _ _ h.L.u.1, World.block_lt_of_cell? _ _ h.L.v.1, h.S.lt, h.T.lt⟩
theorem L2.far10 {w : World} {du dv : Nat} {cu cv : Int} {W : World} (h : L2 w du dv cu cv W) (p : Addr) (u : Value) (h0 : w.heap.size ≤ p.block) (h1 : p.block ≠ du) (h2 : p.block ≠ dv) : L2 w du dv cu cv (W.setCell p u) := ⟨h.B.setCell h0 u, h.u.far10 p u h1, h.v.far10 p u h2⟩
theorem Ar.put2 {w : World} {v : Value} {n : Nat} {f : Nat → Int} (h : Ar w v n f) (b : Nat) (x y : Value) (hn : Nb v b) : Ar ((w.setCell ⟨b, 0, none⟩ x).setCell ⟨b, 1, none⟩ y) v n f := (h.set10 _ _ hn).set10 _ _ hn
theorem Y2.put2 {b : Nat} {x y : Value} {w : World} (h : Y2 b x y w) (q : Nat) (u v : Value) (hq : q ≠ b) : Y2 b x y ((w.setCell ⟨q, 0, none⟩ u).setCell ⟨q, 1, none⟩ v) := (h.far _ _ hq).far _ _ hq
theorem R10.stepU {w : World} {b0 du dv bo bt : Nat} {cu cv c' : Int} {r m vP vB uP uB v1 v2 : Value} {n : Nat} {P B P' B' F1 F2 : Nat → Int} {W W' : World} (h : R10 w b0 du dv bo bt cu cv r m vP vB uP uB n P B P' B' W) (d : D5 w b0 du dv bo bt) (hU : Un du c' W W') (q1 : Ar W' v1 n F1) (q2 : Ar W' v2 n F2) (o1 : Ow W.heap.size v1) (o2 : Ow W.heap.size v2) : R10 w b0 du dv bo bt c' cv r m v1 v2 uP uB n F1 F2 P' B' ((W'.setCell ⟨bo, 0, none⟩ v1).setCell ⟨bo, 1, none⟩ v2) := by
  have hl := h.lts
  have e1 := na10_ow o1 hl
  have e2 := na10_ow o2 hl
  exact ⟨((h.L.unu hU d.w.1 d.ne).far10 _ _ d.w.2.2.1 d.o.1 d.o.2.1).far10 _ _ d.w.2.2.1 d.o.1 d.o.2.1, (h.X.un hU d.b.1).put2 bo _ _ (fun e => d.b.2.2.1 e.symm), ((h.S.un hU d.o.1).set0 _).set1 _, (h.T.un hU d.t.1).put2 bo _ _ d.o.2.2, q1.put2 bo _ _ e1.2.2.1, q2.put2 bo _ _ e2.2.2.1, (h.b1.un h.m1.1 hU).put2 bo _ _ h.m1.2.2.1, (h.b2.un h.m2.1 hU).put2 bo _ _ h.m2.2.2.1, e1, e2, h.m1, h.m2⟩
theorem R10.stepV {w : World} {b0 du dv bo bt : Nat} {cu cv c' : Int} {r m vP vB uP uB v1 v2 : Value} {n : Nat} {P B P' B' F1 F2 : Nat → Int} {W W' : World} (h : R10 w b0 du dv bo bt cu cv r m vP vB uP uB n P B P' B' W) (d : D5 w b0 du dv bo bt) (hU : Un dv c' W W') (q1 : Ar W' v1 n F1) (q2 : Ar W' v2 n F2) (o1 : Ow W.heap.size v1) (o2 : Ow W.heap.size v2) : R10 w b0 du dv bo bt cu c' r m vP vB v1 v2 n P B F1 F2 ((W'.setCell ⟨bt, 0, none⟩ v1).setCell ⟨bt, 1, none⟩ v2) := by
  have hl := h.lts
  have e1 := na10_ow o1 hl
  have e2 := na10_ow o2 hl
  exact ⟨((h.L.unv hU d.w.2.1 d.ne).far10 _ _ d.w.2.2.2 d.t.1 d.t.2).far10 _ _ d.w.2.2.2 d.t.1 d.t.2, (h.X.un hU d.b.2.1).put2 bt _ _ (fun e => d.b.2.2.2 e.symm), (h.S.un hU d.o.2.1).put2 bt _ _ (fun e => d.o.2.2 e.symm), ((h.T.un hU d.t.2).set0 _).set1 _, (h.a1.un h.n1.2.1 hU).put2 bt _ _ h.n1.2.2.2, (h.a2.un h.n2.2.1 hU).put2 bt _ _ h.n2.2.2.2, q1.put2 bt _ _ e1.2.2.2, q2.put2 bt _ _ e2.2.2.2, h.n1, h.n2, e1, e2⟩
set_option maxRecDepth 100000 in
set_option maxHeartbeats 32000000 in
theorem outerRuns_any (r m : Int) (vp vl : Value) (n K : Nat) (f : Nat → Int) (ns : Nat → Nat) (fs : Nat → Nat → Int) (r1 : r ≤ 9223372036854775807) (w : World) (hP : Ar w vp n f) (hL : Lt10 w vl K ns fs) :
    Calls Try.prog 4 #[.agg #[.int .i64 r, .int .i64 m], vp, vl] w fun e w' => e = .returned (.bool true) ∧ Below w.heap.size w w' := by
  have HP : Hid (Ar w vp n f) := hP
  obtain ⟨ap, cp, bp, op, rfl, i1, i2, -, -⟩ := hP
  obtain ⟨al, cl, bl, ol, rfl, j1, j2, j3, j4⟩ := hL
  have HLt : Hid ((0 < K → al = some ⟨bl, ol, none⟩) ∧ ∀ j, j < K → ∃ (ad : Option Addr) (ca : Nat), w.cell? ⟨bl, ol + j, none⟩ = some (.slice ad (ns j) ca) ∧ Ar w (.slice ad (ns j) ca) (ns j) (fs j)) := ⟨j3, j4⟩
  unfold maxLen at i2 j2
  clear j3 j4
  obtain ⟨w0, hw0⟩ : ∃ w0, w0 = w.alloc (.cells #[.int .i64 r, .int .i64 m] 24) := ⟨_, rfl⟩
  have HB0 : Hid (Below w.heap.size w w0) := by rw [hw0]; exact bel1 _ _
  have HX : Y2 w.heap.size (.int .i64 r) (.int .i64 m) w0 := by rw [hw0]; exact Y2.new w _ _ _
  obtain ⟨rg, hrg⟩ : ∃ rg : Bool, rg = true ↔ ruO r m := by
    by_cases h : ruO r m
    · exact ⟨true, fun _ => h, fun _ => rfl⟩
    · exact ⟨false, fun e => (by cases e), fun e => absurd e h⟩
  have CR : Hid (∀ W : World, Calls Try.prog 11 #[.int .i64 r, .int .i64 m] W fun e w' => e = .returned (.bool rg) ∧ w' = W) := fun W => refRight10 r m rg hrg W
  have Hrg : Hid (rg = true ↔ ruO r m) := hrg
  clear hrg
  go_enter Try.func4, Try.ntmps4
  go_upto_region 1 with fail
  rw [← hw0]
  clear hw0
  go_wp2_with fail
  refine (awake10_any _).mono ?_
  rintro e w1 ⟨rfl, hb⟩
  have HW1 : Hid (Below w.heap.size w w1) := bchain HB0.out hb
  replace HX := HX.later hb
  clear hb HB0
  have x0 := HX.c0
  have x1 := HX.c1
  by_cases hn : 20 < n
  · have hn' : (20 : Int) < (n : Int) := by omega
    go_wp2
    go_ret
    exact ⟨rfl, HW1.out⟩
  have hn' : ¬ (20 : Int) < (n : Int) := by omega
  by_cases hK : 30 < K
  · have hK' : (30 : Int) < (K : Int) := by omega
    go_wp2
    go_ret
    exact ⟨rfl, HW1.out⟩
  have hK' : ¬ (30 : Int) < (K : Int) := by omega
  go_wp2_with fail
  refine (CR.out _).mono ?_
  rintro e w2 ⟨rfl, rfl⟩
  clear CR
  cases rg
  · go_wp2
    go_ret
    exact ⟨rfl, HW1.out⟩
  have HR : Hid (ruO r m) := Hrg.out.1 rfl
  have HNn : Hid (n ≤ 20 ∧ K ≤ 30) := by show n ≤ 20 ∧ K ≤ 30; omega
  clear Hrg
  have CB : Hid (∀ W : World, Below w.heap.size w W → Calls Try.prog 16 #[.slice ap n cp] W fun e w' => ∃ (a1 a2 : Option Addr) (c1 c2 : Nat), e = .returned (.tuple #[.agg #[.slice a1 n c1, .slice a2 n c2], .int .i64 0]) ∧ Bg10 W (.slice a1 n c1) (.slice a2 n c2) n f w') := fun W hb => begin10_ok _ n f (by omega) W (HP.out.later hb)
  have CP : Hid (∀ (W : World) (v : Value) (F : Nat → Int), Ar W v n F → Calls Try.prog 14 #[v] W fun e w' => ∃ v', e = .returned v' ∧ Ar w' v' n F ∧ Ow W.heap.size v' ∧ Below W.heap.size W w') := fun W v F h => plain10_any v n F (by omega) W h
  have CL : Hid (∀ (W : World) (v1 v2 v3 v4 : Value) (F H : Nat → Int), Ar W v1 n F → Ar W v2 n H → Ar W v3 n F → Ar W v4 n H → Calls Try.prog 15 #[.agg #[v1, v2], .agg #[v3, v4]] W fun e w' => e = .returned (.bool true) ∧ Below W.heap.size W w') := fun W v1 v2 v3 v4 F H h1 h2 h3 h4 => like10_yes v1 v2 v3 v4 n F H (by omega) W h1 h2 h3 h4
  go_wp2_with fail
  refine (CB.out _ HW1.out).mono ?_
  rintro e w4 ⟨a1, a2, z1, z2, rfl, hG1, hG2, hGo, hb⟩
  obtain ⟨w5, hw5⟩ : ∃ w5, w5 = w4.alloc (.cells #[.slice a1 n z1, .slice a2 n z2] 27) := ⟨_, rfl⟩
  have HI : Hid (I10 w w.heap.size w4.heap.size (.int .i64 r) (.int .i64 m) (.slice a1 n z1) (.slice a2 n z2) n f w5) := by rw [hw5]; exact ⟨bchain (bchain HW1.out hb) (bel1 _ _), (HX.later hb).later (bel1 _ _), Y2.new _ _ _ _, hG1.later (bel1 _ _), hG2.later (bel1 _ _)⟩
  have HV : Hid ((Nb (.slice a1 n z1) w4.heap.size ∧ Nb (.slice a2 n z2) w4.heap.size) ∧ w.heap.size < w4.heap.size) := ⟨⟨hG1.nb (Nat.le_refl _), hG2.nb (Nat.le_refl _)⟩, (HX.later hb).lt⟩
  clear hG1 hG2 hGo hb CB HW1 HX x0 x1
  go_upto_region 6 with fail
  rw [← hw5]
  clear hw5
  generalize w4.heap.size = bo at *
  have hmk := make_is10 n (by omega)
  have hbD : Below w5.heap.size w5 w5.drew := (Below.refl _ _).drew
  replace HI : Hid (I10 w w.heap.size bo (.int .i64 r) (.int .i64 m) (.slice a1 n z1) (.slice a2 n z2) n f w5.drew) := HI.out.later hbD
  go_cut [9] (fun s9 wc => ∃ (bt : Nat) (u1 u2 : Option Addr) (k1 k2 : Nat), s9 = .pointer (some ⟨bt, 0, none⟩) ∧ Hid (Y2 bt (.slice u1 n k1) (.slice u2 n k2) wc ∧ Ar wc (.slice u1 n k1) n f ∧ Ar wc (.slice u2 n k2) n (fun _ => 0)) ∧ Hid (I10 w w.heap.size bo (.int .i64 r) (.int .i64 m) (.slice a1 n z1) (.slice a2 n z2) n f wc) ∧ Hid (J10 w w.heap.size bo (.slice a1 n z1) (.slice a2 n z2) bt ∧ (Nb (.slice u1 n k1) bt ∧ Nb (.slice u2 n k2) bt) ∧ Nb (.slice u1 n k1) bo ∧ Nb (.slice u2 n k2) bo))
  case first =>
    refine wp_region_held_drew (S := fun _ => True) (by kernel_rfl) trivial (fun HS => ?_)
    clear hbD
    generalize w5.drew = q0 at *
    refine wpAnyH_take (i := 0) (v := ?_) rfl (by kernel_rfl) (by kernel_rfl) (by kernel_rfl) (fun _ _ _ h => h) (Or.inl ⟨by kernel_rfl, ?_⟩) HS ?_
    rotate_left
    · (rintro w -; go_simp) <;> with_reducible rfl
    try simp only [Act.put, List.getElem_toArray, List.getElem_cons_succ, List.getElem_cons_zero, List.setIfInBounds_toArray, List.set_cons_zero, List.set_cons_succ]
    refine wpAnyH_take (i := 2) (v := ?_) rfl (by kernel_rfl) (by kernel_rfl) (by kernel_rfl) (fun _ _ _ h => h) (Or.inl ⟨by kernel_rfl, ?_⟩) HS ?_
    rotate_left
    · (rintro w -; go_simp) <;> with_reducible rfl
    try simp only [Act.put, List.getElem_toArray, List.getElem_cons_succ, List.getElem_cons_zero, List.setIfInBounds_toArray, List.set_cons_zero, List.set_cons_succ]
    refine wpAnyH_take (i := 3) (v := ?_) rfl (by kernel_rfl) (by kernel_rfl) (by kernel_rfl) (fun _ _ _ h => h) (Or.inl ⟨by kernel_rfl, ?_⟩) HS ?_
    rotate_left
    · (rintro w -; go_simp) <;> with_reducible rfl
    try simp only [Act.put, List.getElem_toArray, List.getElem_cons_succ, List.getElem_cons_zero, List.setIfInBounds_toArray, List.set_cons_zero, List.set_cons_succ]
    refine wpAnyH_ready (rs := [1, 4, 6]) (by kernel_rfl) (by simp) ?_
    refine AllReadyH.cons rfl (fun K hK => ?_) (AllReadyH.cons rfl (fun K hK => ?_) (AllReadyH.cons rfl (fun K hK => ?_) AllReadyH.nil))
    · go_simp
      refine (CP.out _ _ f (HP.out.later HI.out.B)).mono ?_
      rintro e q1 ⟨pv, rfl, hA, hO, hb⟩
      obtain ⟨u1, k1, pb1, po1, rfl, -, -, -, -⟩ := id hA
      refine hK.out _ _ trivial (fun HS => ?_)
      clear hK K
      have hlt := HI.out.S.lt
      have H1 : Hid (Ar q1 (.slice u1 n k1) n f ∧ Nb (.slice u1 n k1) bo) := ⟨hA, ow_apart hO hlt⟩
      replace HI : Hid (I10 w w.heap.size bo (.int .i64 r) (.int .i64 m) (.slice a1 n z1) (.slice a2 n z2) n f q1) := HI.out.later hb
      clear hA hO hb hlt
      try simp only [Act.put, List.getElem_toArray, List.getElem_cons_succ, List.getElem_cons_zero, List.setIfInBounds_toArray, List.set_cons_zero, List.set_cons_succ]
      refine wpAnyH_ready (rs := [4, 6]) (by kernel_rfl) (by simp) ?_
      refine AllReadyH.cons rfl (fun K hK => ?_) (AllReadyH.cons rfl (fun K hK => ?_) AllReadyH.nil)
      · go_simp
        refine hK.out _ _ trivial (fun HS => ?_)
        clear hK K
        have hlt := HI.out.S.lt
        have H4 : Hid (Ar (q1.alloc (.cells (madeCells #[.int .i64 0] n) 2)) (.slice (some ⟨q1.heap.size, 0, none⟩) n n) n (fun _ => 0) ∧ Nb (.slice (some ⟨q1.heap.size, 0, none⟩) n n) bo) := ⟨made_ar q1 n (by omega) _, ow_apart (ow_made (Nat.le_refl _)) hlt⟩
        replace HI : Hid (I10 w w.heap.size bo (.int .i64 r) (.int .i64 m) (.slice a1 n z1) (.slice a2 n z2) n f (q1.alloc (.cells (madeCells #[.int .i64 0] n) 2))) := HI.out.later (bel1 _ _)
        replace H1 : Hid (Ar (q1.alloc (.cells (madeCells #[.int .i64 0] n) 2)) (.slice u1 n k1) n f ∧ Nb (.slice u1 n k1) bo) := ⟨H1.out.1.later (bel1 _ _), H1.out.2⟩
        clear hlt
        generalize q1.alloc (.cells (madeCells #[.int .i64 0] n) 2) = q2 at *
        generalize q1.heap.size = bg at *
        try simp only [Act.put, List.getElem_toArray, List.getElem_cons_succ, List.getElem_cons_zero, List.setIfInBounds_toArray, List.set_cons_zero, List.set_cons_succ]
        refine wpAnyH_take (i := 5) (v := ?_) rfl (by kernel_rfl) (by kernel_rfl) (by kernel_rfl) (fun _ _ _ h => h) (Or.inl ⟨by kernel_rfl, ?_⟩) HS ?_
        rotate_left
        · (rintro w -; go_simp) <;> with_reducible rfl
        try simp only [Act.put, List.getElem_toArray, List.getElem_cons_succ, List.getElem_cons_zero, List.setIfInBounds_toArray, List.set_cons_zero, List.set_cons_succ]
        refine wpAnyH_ready (rs := [6]) (by kernel_rfl) (by simp) ?_
        refine AllReadyH.cons rfl (fun K hK => ?_) AllReadyH.nil
        go_simp
        refine hK.out _ _ trivial (fun HS => ?_)
        clear hK K
        have HJ : Hid (J10 w w.heap.size bo (.slice a1 n z1) (.slice a2 n z2) q2.heap.size) := HI.out.fresh
        have HT : Hid (Y2 q2.heap.size (.slice none 0 0) (.slice none 0 0) (q2.alloc (.cells #[.slice none 0 0, .slice none 0 0] 45))) := Y2.new _ _ _ _
        have N1 : Hid (Nb (.slice u1 n k1) q2.heap.size) := H1.out.1.nb (Nat.le_refl _)
        have N4 : Hid (Nb (.slice (some ⟨bg, 0, none⟩) n n) q2.heap.size) := H4.out.1.nb (Nat.le_refl _)
        replace HI : Hid (I10 w w.heap.size bo (.int .i64 r) (.int .i64 m) (.slice a1 n z1) (.slice a2 n z2) n f (q2.alloc (.cells #[.slice none 0 0, .slice none 0 0] 45))) := HI.out.later (bel1 _ _)
        replace H1 : Hid (Ar (q2.alloc (.cells #[.slice none 0 0, .slice none 0 0] 45)) (.slice u1 n k1) n f ∧ Nb (.slice u1 n k1) bo) := ⟨H1.out.1.later (bel1 _ _), H1.out.2⟩
        replace H4 : Hid (Ar (q2.alloc (.cells #[.slice none 0 0, .slice none 0 0] 45)) (.slice (some ⟨bg, 0, none⟩) n n) n (fun _ => 0) ∧ Nb (.slice (some ⟨bg, 0, none⟩) n n) bo) := ⟨H4.out.1.later (bel1 _ _), H4.out.2⟩
        generalize q2.alloc (.cells #[.slice none 0 0, .slice none 0 0] 45) = q3 at *
        generalize q2.heap.size = bt at *
        try simp only [Act.put, List.getElem_toArray, List.getElem_cons_succ, List.getElem_cons_zero, List.setIfInBounds_toArray, List.set_cons_zero, List.set_cons_succ]
        have t0 := HT.out.c0
        have t1 := HT.out.c1
        have f0 := HT.out.f0
        have f1 := HT.out.f1
        have K1 : Hid (Y2 bt (.slice u1 n k1) (.slice (some ⟨bg, 0, none⟩) n n) ((q3.setCell ⟨bt, 0, none⟩ (.slice u1 n k1)).setCell ⟨bt, 1, none⟩ (.slice (some ⟨bg, 0, none⟩) n n)) ∧ Ar ((q3.setCell ⟨bt, 0, none⟩ (.slice u1 n k1)).setCell ⟨bt, 1, none⟩ (.slice (some ⟨bg, 0, none⟩) n n)) (.slice u1 n k1) n f ∧ Ar ((q3.setCell ⟨bt, 0, none⟩ (.slice u1 n k1)).setCell ⟨bt, 1, none⟩ (.slice (some ⟨bg, 0, none⟩) n n)) (.slice (some ⟨bg, 0, none⟩) n n) n (fun _ => 0)) := ⟨(HT.out.set0 _).set1 _, H1.out.1.put2 bt _ _ N1.out, H4.out.1.put2 bt _ _ N4.out⟩
        have K2 : Hid (I10 w w.heap.size bo (.int .i64 r) (.int .i64 m) (.slice a1 n z1) (.slice a2 n z2) n f ((q3.setCell ⟨bt, 0, none⟩ (.slice u1 n k1)).setCell ⟨bt, 1, none⟩ (.slice (some ⟨bg, 0, none⟩) n n))) := (HI.out.far (p := ⟨bt, 0, none⟩) HJ.out _).far (p := ⟨bt, 1, none⟩) HJ.out _
        have K3 : Hid (J10 w w.heap.size bo (.slice a1 n z1) (.slice a2 n z2) bt ∧ (Nb (.slice u1 n k1) bt ∧ Nb (.slice (some ⟨bg, 0, none⟩) n n) bt) ∧ Nb (.slice u1 n k1) bo ∧ Nb (.slice (some ⟨bg, 0, none⟩) n n) bo) := ⟨HJ.out, ⟨N1.out, N4.out⟩, H1.out.2, H4.out.2⟩
        clear HT H1 H4 HI HJ N1 N4
        refine wpAnyH_ready (rs := [7]) (by kernel_rfl) (by simp) ?_
        refine AllReadyH.cons rfl (fun K hK => ?_) AllReadyH.nil
        go_simp
        refine hK.out _ _ trivial (fun HS => ?_)
        clear hK K t0 t1 f0 f1
        refine wpAnyH_done (by kernel_rfl) ?_ _
        clear HS
        generalize ((q3.setCell ⟨bt, 0, none⟩ (.slice u1 n k1)).setCell ⟨bt, 1, none⟩ (.slice (some ⟨bg, 0, none⟩) n n)) = wE at *
        go_wp2
        go_meet
        case rel => exact ⟨bt, u1, some ⟨bg, 0, none⟩, k1, n, rfl, K1, K2, K3⟩
      · go_simp
        refine hK.out _ _ trivial (fun HS => ?_)
        clear hK K
        have HJ : Hid (J10 w w.heap.size bo (.slice a1 n z1) (.slice a2 n z2) q1.heap.size) := HI.out.fresh
        have HT : Hid (Y2 q1.heap.size (.slice none 0 0) (.slice none 0 0) (q1.alloc (.cells #[.slice none 0 0, .slice none 0 0] 45))) := Y2.new _ _ _ _
        have N1 : Hid (Nb (.slice u1 n k1) q1.heap.size) := H1.out.1.nb (Nat.le_refl _)
        replace HI : Hid (I10 w w.heap.size bo (.int .i64 r) (.int .i64 m) (.slice a1 n z1) (.slice a2 n z2) n f (q1.alloc (.cells #[.slice none 0 0, .slice none 0 0] 45))) := HI.out.later (bel1 _ _)
        replace H1 : Hid (Ar (q1.alloc (.cells #[.slice none 0 0, .slice none 0 0] 45)) (.slice u1 n k1) n f ∧ Nb (.slice u1 n k1) bo) := ⟨H1.out.1.later (bel1 _ _), H1.out.2⟩
        generalize q1.alloc (.cells #[.slice none 0 0, .slice none 0 0] 45) = q2 at *
        generalize q1.heap.size = bt at *
        try simp only [Act.put, List.getElem_toArray, List.getElem_cons_succ, List.getElem_cons_zero, List.setIfInBounds_toArray, List.set_cons_zero, List.set_cons_succ]
        refine wpAnyH_ready (rs := [4]) (by kernel_rfl) (by simp) ?_
        refine AllReadyH.cons rfl (fun K hK => ?_) AllReadyH.nil
        go_simp
        refine hK.out _ _ trivial (fun HS => ?_)
        clear hK K
        have hlt := HI.out.S.lt
        have H4 : Hid (Ar (q2.alloc (.cells (madeCells #[.int .i64 0] n) 2)) (.slice (some ⟨q2.heap.size, 0, none⟩) n n) n (fun _ => 0) ∧ Nb (.slice (some ⟨q2.heap.size, 0, none⟩) n n) bo) := ⟨made_ar q2 n (by omega) _, ow_apart (ow_made (Nat.le_refl _)) hlt⟩
        have N4 : Hid (Nb (.slice (some ⟨q2.heap.size, 0, none⟩) n n) bt) := ow_apart (ow_made (Nat.le_refl _)) HT.out.lt
        replace HI : Hid (I10 w w.heap.size bo (.int .i64 r) (.int .i64 m) (.slice a1 n z1) (.slice a2 n z2) n f (q2.alloc (.cells (madeCells #[.int .i64 0] n) 2))) := HI.out.later (bel1 _ _)
        replace H1 : Hid (Ar (q2.alloc (.cells (madeCells #[.int .i64 0] n) 2)) (.slice u1 n k1) n f ∧ Nb (.slice u1 n k1) bo) := ⟨H1.out.1.later (bel1 _ _), H1.out.2⟩
        replace HT : Hid (Y2 bt (.slice none 0 0) (.slice none 0 0) (q2.alloc (.cells (madeCells #[.int .i64 0] n) 2))) := HT.out.later (bel1 _ _)
        clear hlt
        generalize q2.alloc (.cells (madeCells #[.int .i64 0] n) 2) = q3 at *
        generalize q2.heap.size = bg at *
        try simp only [Act.put, List.getElem_toArray, List.getElem_cons_succ, List.getElem_cons_zero, List.setIfInBounds_toArray, List.set_cons_zero, List.set_cons_succ]
        refine wpAnyH_take (i := 5) (v := ?_) rfl (by kernel_rfl) (by kernel_rfl) (by kernel_rfl) (fun _ _ _ h => h) (Or.inl ⟨by kernel_rfl, ?_⟩) HS ?_
        rotate_left
        · (rintro w -; go_simp) <;> with_reducible rfl
        try simp only [Act.put, List.getElem_toArray, List.getElem_cons_succ, List.getElem_cons_zero, List.setIfInBounds_toArray, List.set_cons_zero, List.set_cons_succ]
        have t0 := HT.out.c0
        have t1 := HT.out.c1
        have f0 := HT.out.f0
        have f1 := HT.out.f1
        have K1 : Hid (Y2 bt (.slice u1 n k1) (.slice (some ⟨bg, 0, none⟩) n n) ((q3.setCell ⟨bt, 0, none⟩ (.slice u1 n k1)).setCell ⟨bt, 1, none⟩ (.slice (some ⟨bg, 0, none⟩) n n)) ∧ Ar ((q3.setCell ⟨bt, 0, none⟩ (.slice u1 n k1)).setCell ⟨bt, 1, none⟩ (.slice (some ⟨bg, 0, none⟩) n n)) (.slice u1 n k1) n f ∧ Ar ((q3.setCell ⟨bt, 0, none⟩ (.slice u1 n k1)).setCell ⟨bt, 1, none⟩ (.slice (some ⟨bg, 0, none⟩) n n)) (.slice (some ⟨bg, 0, none⟩) n n) n (fun _ => 0)) := ⟨(HT.out.set0 _).set1 _, H1.out.1.put2 bt _ _ N1.out, H4.out.1.put2 bt _ _ N4.out⟩
        have K2 : Hid (I10 w w.heap.size bo (.int .i64 r) (.int .i64 m) (.slice a1 n z1) (.slice a2 n z2) n f ((q3.setCell ⟨bt, 0, none⟩ (.slice u1 n k1)).setCell ⟨bt, 1, none⟩ (.slice (some ⟨bg, 0, none⟩) n n))) := (HI.out.far (p := ⟨bt, 0, none⟩) HJ.out _).far (p := ⟨bt, 1, none⟩) HJ.out _
        have K3 : Hid (J10 w w.heap.size bo (.slice a1 n z1) (.slice a2 n z2) bt ∧ (Nb (.slice u1 n k1) bt ∧ Nb (.slice (some ⟨bg, 0, none⟩) n n) bt) ∧ Nb (.slice u1 n k1) bo ∧ Nb (.slice (some ⟨bg, 0, none⟩) n n) bo) := ⟨HJ.out, ⟨N1.out, N4.out⟩, H1.out.2, H4.out.2⟩
        clear HT H1 H4 HI HJ N1 N4
        refine wpAnyH_ready (rs := [7]) (by kernel_rfl) (by simp) ?_
        refine AllReadyH.cons rfl (fun K hK => ?_) AllReadyH.nil
        go_simp
        refine hK.out _ _ trivial (fun HS => ?_)
        clear hK K t0 t1 f0 f1
        refine wpAnyH_done (by kernel_rfl) ?_ _
        clear HS
        generalize ((q3.setCell ⟨bt, 0, none⟩ (.slice u1 n k1)).setCell ⟨bt, 1, none⟩ (.slice (some ⟨bg, 0, none⟩) n n)) = wE at *
        go_wp2
        go_meet
        case rel => exact ⟨bt, u1, some ⟨bg, 0, none⟩, k1, n, rfl, K1, K2, K3⟩
    · go_simp
      refine hK.out _ _ trivial (fun HS => ?_)
      clear hK K
      have hlt := HI.out.S.lt
      have H4 : Hid (Ar (q0.alloc (.cells (madeCells #[.int .i64 0] n) 2)) (.slice (some ⟨q0.heap.size, 0, none⟩) n n) n (fun _ => 0) ∧ Nb (.slice (some ⟨q0.heap.size, 0, none⟩) n n) bo) := ⟨made_ar q0 n (by omega) _, ow_apart (ow_made (Nat.le_refl _)) hlt⟩
      replace HI : Hid (I10 w w.heap.size bo (.int .i64 r) (.int .i64 m) (.slice a1 n z1) (.slice a2 n z2) n f (q0.alloc (.cells (madeCells #[.int .i64 0] n) 2))) := HI.out.later (bel1 _ _)
      clear hlt
      generalize q0.alloc (.cells (madeCells #[.int .i64 0] n) 2) = q1 at *
      generalize q0.heap.size = bg at *
      try simp only [Act.put, List.getElem_toArray, List.getElem_cons_succ, List.getElem_cons_zero, List.setIfInBounds_toArray, List.set_cons_zero, List.set_cons_succ]
      refine wpAnyH_ready (rs := [1, 6]) (by kernel_rfl) (by simp) ?_
      refine AllReadyH.cons rfl (fun K hK => ?_) (AllReadyH.cons rfl (fun K hK => ?_) AllReadyH.nil)
      · go_simp
        refine (CP.out _ _ f (HP.out.later HI.out.B)).mono ?_
        rintro e q2 ⟨pv, rfl, hA, hO, hb⟩
        obtain ⟨u1, k1, pb1, po1, rfl, -, -, -, -⟩ := id hA
        refine hK.out _ _ trivial (fun HS => ?_)
        clear hK K
        have hlt := HI.out.S.lt
        have H1 : Hid (Ar q2 (.slice u1 n k1) n f ∧ Nb (.slice u1 n k1) bo) := ⟨hA, ow_apart hO hlt⟩
        replace HI : Hid (I10 w w.heap.size bo (.int .i64 r) (.int .i64 m) (.slice a1 n z1) (.slice a2 n z2) n f q2) := HI.out.later hb
        replace H4 : Hid (Ar q2 (.slice (some ⟨bg, 0, none⟩) n n) n (fun _ => 0) ∧ Nb (.slice (some ⟨bg, 0, none⟩) n n) bo) := ⟨H4.out.1.later hb, H4.out.2⟩
        clear hA hO hb hlt
        try simp only [Act.put, List.getElem_toArray, List.getElem_cons_succ, List.getElem_cons_zero, List.setIfInBounds_toArray, List.set_cons_zero, List.set_cons_succ]
        refine wpAnyH_take (i := 5) (v := ?_) rfl (by kernel_rfl) (by kernel_rfl) (by kernel_rfl) (fun _ _ _ h => h) (Or.inl ⟨by kernel_rfl, ?_⟩) HS ?_
        rotate_left
        · (rintro w -; go_simp) <;> with_reducible rfl
        try simp only [Act.put, List.getElem_toArray, List.getElem_cons_succ, List.getElem_cons_zero, List.setIfInBounds_toArray, List.set_cons_zero, List.set_cons_succ]
        refine wpAnyH_ready (rs := [6]) (by kernel_rfl) (by simp) ?_
        refine AllReadyH.cons rfl (fun K hK => ?_) AllReadyH.nil
        go_simp
        refine hK.out _ _ trivial (fun HS => ?_)
        clear hK K
        have HJ : Hid (J10 w w.heap.size bo (.slice a1 n z1) (.slice a2 n z2) q2.heap.size) := HI.out.fresh
        have HT : Hid (Y2 q2.heap.size (.slice none 0 0) (.slice none 0 0) (q2.alloc (.cells #[.slice none 0 0, .slice none 0 0] 45))) := Y2.new _ _ _ _
        have N1 : Hid (Nb (.slice u1 n k1) q2.heap.size) := H1.out.1.nb (Nat.le_refl _)
        have N4 : Hid (Nb (.slice (some ⟨bg, 0, none⟩) n n) q2.heap.size) := H4.out.1.nb (Nat.le_refl _)
        replace HI : Hid (I10 w w.heap.size bo (.int .i64 r) (.int .i64 m) (.slice a1 n z1) (.slice a2 n z2) n f (q2.alloc (.cells #[.slice none 0 0, .slice none 0 0] 45))) := HI.out.later (bel1 _ _)
        replace H1 : Hid (Ar (q2.alloc (.cells #[.slice none 0 0, .slice none 0 0] 45)) (.slice u1 n k1) n f ∧ Nb (.slice u1 n k1) bo) := ⟨H1.out.1.later (bel1 _ _), H1.out.2⟩
        replace H4 : Hid (Ar (q2.alloc (.cells #[.slice none 0 0, .slice none 0 0] 45)) (.slice (some ⟨bg, 0, none⟩) n n) n (fun _ => 0) ∧ Nb (.slice (some ⟨bg, 0, none⟩) n n) bo) := ⟨H4.out.1.later (bel1 _ _), H4.out.2⟩
        generalize q2.alloc (.cells #[.slice none 0 0, .slice none 0 0] 45) = q3 at *
        generalize q2.heap.size = bt at *
        try simp only [Act.put, List.getElem_toArray, List.getElem_cons_succ, List.getElem_cons_zero, List.setIfInBounds_toArray, List.set_cons_zero, List.set_cons_succ]
        have t0 := HT.out.c0
        have t1 := HT.out.c1
        have f0 := HT.out.f0
        have f1 := HT.out.f1
        have K1 : Hid (Y2 bt (.slice u1 n k1) (.slice (some ⟨bg, 0, none⟩) n n) ((q3.setCell ⟨bt, 0, none⟩ (.slice u1 n k1)).setCell ⟨bt, 1, none⟩ (.slice (some ⟨bg, 0, none⟩) n n)) ∧ Ar ((q3.setCell ⟨bt, 0, none⟩ (.slice u1 n k1)).setCell ⟨bt, 1, none⟩ (.slice (some ⟨bg, 0, none⟩) n n)) (.slice u1 n k1) n f ∧ Ar ((q3.setCell ⟨bt, 0, none⟩ (.slice u1 n k1)).setCell ⟨bt, 1, none⟩ (.slice (some ⟨bg, 0, none⟩) n n)) (.slice (some ⟨bg, 0, none⟩) n n) n (fun _ => 0)) := ⟨(HT.out.set0 _).set1 _, H1.out.1.put2 bt _ _ N1.out, H4.out.1.put2 bt _ _ N4.out⟩
        have K2 : Hid (I10 w w.heap.size bo (.int .i64 r) (.int .i64 m) (.slice a1 n z1) (.slice a2 n z2) n f ((q3.setCell ⟨bt, 0, none⟩ (.slice u1 n k1)).setCell ⟨bt, 1, none⟩ (.slice (some ⟨bg, 0, none⟩) n n))) := (HI.out.far (p := ⟨bt, 0, none⟩) HJ.out _).far (p := ⟨bt, 1, none⟩) HJ.out _
        have K3 : Hid (J10 w w.heap.size bo (.slice a1 n z1) (.slice a2 n z2) bt ∧ (Nb (.slice u1 n k1) bt ∧ Nb (.slice (some ⟨bg, 0, none⟩) n n) bt) ∧ Nb (.slice u1 n k1) bo ∧ Nb (.slice (some ⟨bg, 0, none⟩) n n) bo) := ⟨HJ.out, ⟨N1.out, N4.out⟩, H1.out.2, H4.out.2⟩
        clear HT H1 H4 HI HJ N1 N4
        refine wpAnyH_ready (rs := [7]) (by kernel_rfl) (by simp) ?_
        refine AllReadyH.cons rfl (fun K hK => ?_) AllReadyH.nil
        go_simp
        refine hK.out _ _ trivial (fun HS => ?_)
        clear hK K t0 t1 f0 f1
        refine wpAnyH_done (by kernel_rfl) ?_ _
        clear HS
        generalize ((q3.setCell ⟨bt, 0, none⟩ (.slice u1 n k1)).setCell ⟨bt, 1, none⟩ (.slice (some ⟨bg, 0, none⟩) n n)) = wE at *
        go_wp2
        go_meet
        case rel => exact ⟨bt, u1, some ⟨bg, 0, none⟩, k1, n, rfl, K1, K2, K3⟩
      · go_simp
        refine hK.out _ _ trivial (fun HS => ?_)
        clear hK K
        have HJ : Hid (J10 w w.heap.size bo (.slice a1 n z1) (.slice a2 n z2) q1.heap.size) := HI.out.fresh
        have HT : Hid (Y2 q1.heap.size (.slice none 0 0) (.slice none 0 0) (q1.alloc (.cells #[.slice none 0 0, .slice none 0 0] 45))) := Y2.new _ _ _ _
        have N4 : Hid (Nb (.slice (some ⟨bg, 0, none⟩) n n) q1.heap.size) := H4.out.1.nb (Nat.le_refl _)
        replace HI : Hid (I10 w w.heap.size bo (.int .i64 r) (.int .i64 m) (.slice a1 n z1) (.slice a2 n z2) n f (q1.alloc (.cells #[.slice none 0 0, .slice none 0 0] 45))) := HI.out.later (bel1 _ _)
        replace H4 : Hid (Ar (q1.alloc (.cells #[.slice none 0 0, .slice none 0 0] 45)) (.slice (some ⟨bg, 0, none⟩) n n) n (fun _ => 0) ∧ Nb (.slice (some ⟨bg, 0, none⟩) n n) bo) := ⟨H4.out.1.later (bel1 _ _), H4.out.2⟩
        generalize q1.alloc (.cells #[.slice none 0 0, .slice none 0 0] 45) = q2 at *
        generalize q1.heap.size = bt at *
        try simp only [Act.put, List.getElem_toArray, List.getElem_cons_succ, List.getElem_cons_zero, List.setIfInBounds_toArray, List.set_cons_zero, List.set_cons_succ]
        refine wpAnyH_ready (rs := [1]) (by kernel_rfl) (by simp) ?_
        refine AllReadyH.cons rfl (fun K hK => ?_) AllReadyH.nil
        go_simp
        refine (CP.out _ _ f (HP.out.later HI.out.B)).mono ?_
        rintro e q3 ⟨pv, rfl, hA, hO, hb⟩
        obtain ⟨u1, k1, pb1, po1, rfl, -, -, -, -⟩ := id hA
        refine hK.out _ _ trivial (fun HS => ?_)
        clear hK K
        have hlt := HI.out.S.lt
        have H1 : Hid (Ar q3 (.slice u1 n k1) n f ∧ Nb (.slice u1 n k1) bo) := ⟨hA, ow_apart hO hlt⟩
        have N1 : Hid (Nb (.slice u1 n k1) bt) := ow_apart hO HT.out.lt
        replace HI : Hid (I10 w w.heap.size bo (.int .i64 r) (.int .i64 m) (.slice a1 n z1) (.slice a2 n z2) n f q3) := HI.out.later hb
        replace H4 : Hid (Ar q3 (.slice (some ⟨bg, 0, none⟩) n n) n (fun _ => 0) ∧ Nb (.slice (some ⟨bg, 0, none⟩) n n) bo) := ⟨H4.out.1.later hb, H4.out.2⟩
        replace HT : Hid (Y2 bt (.slice none 0 0) (.slice none 0 0) q3) := HT.out.later hb
        clear hA hO hb hlt
        try simp only [Act.put, List.getElem_toArray, List.getElem_cons_succ, List.getElem_cons_zero, List.setIfInBounds_toArray, List.set_cons_zero, List.set_cons_succ]
        refine wpAnyH_take (i := 5) (v := ?_) rfl (by kernel_rfl) (by kernel_rfl) (by kernel_rfl) (fun _ _ _ h => h) (Or.inl ⟨by kernel_rfl, ?_⟩) HS ?_
        rotate_left
        · (rintro w -; go_simp) <;> with_reducible rfl
        try simp only [Act.put, List.getElem_toArray, List.getElem_cons_succ, List.getElem_cons_zero, List.setIfInBounds_toArray, List.set_cons_zero, List.set_cons_succ]
        have t0 := HT.out.c0
        have t1 := HT.out.c1
        have f0 := HT.out.f0
        have f1 := HT.out.f1
        have K1 : Hid (Y2 bt (.slice u1 n k1) (.slice (some ⟨bg, 0, none⟩) n n) ((q3.setCell ⟨bt, 0, none⟩ (.slice u1 n k1)).setCell ⟨bt, 1, none⟩ (.slice (some ⟨bg, 0, none⟩) n n)) ∧ Ar ((q3.setCell ⟨bt, 0, none⟩ (.slice u1 n k1)).setCell ⟨bt, 1, none⟩ (.slice (some ⟨bg, 0, none⟩) n n)) (.slice u1 n k1) n f ∧ Ar ((q3.setCell ⟨bt, 0, none⟩ (.slice u1 n k1)).setCell ⟨bt, 1, none⟩ (.slice (some ⟨bg, 0, none⟩) n n)) (.slice (some ⟨bg, 0, none⟩) n n) n (fun _ => 0)) := ⟨(HT.out.set0 _).set1 _, H1.out.1.put2 bt _ _ N1.out, H4.out.1.put2 bt _ _ N4.out⟩
        have K2 : Hid (I10 w w.heap.size bo (.int .i64 r) (.int .i64 m) (.slice a1 n z1) (.slice a2 n z2) n f ((q3.setCell ⟨bt, 0, none⟩ (.slice u1 n k1)).setCell ⟨bt, 1, none⟩ (.slice (some ⟨bg, 0, none⟩) n n))) := (HI.out.far (p := ⟨bt, 0, none⟩) HJ.out _).far (p := ⟨bt, 1, none⟩) HJ.out _
        have K3 : Hid (J10 w w.heap.size bo (.slice a1 n z1) (.slice a2 n z2) bt ∧ (Nb (.slice u1 n k1) bt ∧ Nb (.slice (some ⟨bg, 0, none⟩) n n) bt) ∧ Nb (.slice u1 n k1) bo ∧ Nb (.slice (some ⟨bg, 0, none⟩) n n) bo) := ⟨HJ.out, ⟨N1.out, N4.out⟩, H1.out.2, H4.out.2⟩
        clear HT H1 H4 HI HJ N1 N4
        refine wpAnyH_ready (rs := [7]) (by kernel_rfl) (by simp) ?_
        refine AllReadyH.cons rfl (fun K hK => ?_) AllReadyH.nil
        go_simp
        refine hK.out _ _ trivial (fun HS => ?_)
        clear hK K t0 t1 f0 f1
        refine wpAnyH_done (by kernel_rfl) ?_ _
        clear HS
        generalize ((q3.setCell ⟨bt, 0, none⟩ (.slice u1 n k1)).setCell ⟨bt, 1, none⟩ (.slice (some ⟨bg, 0, none⟩) n n)) = wE at *
        go_wp2
        go_meet
        case rel => exact ⟨bt, u1, some ⟨bg, 0, none⟩, k1, n, rfl, K1, K2, K3⟩
    · go_simp
      refine hK.out _ _ trivial (fun HS => ?_)
      clear hK K
      have HJ : Hid (J10 w w.heap.size bo (.slice a1 n z1) (.slice a2 n z2) q0.heap.size) := HI.out.fresh
      have HT : Hid (Y2 q0.heap.size (.slice none 0 0) (.slice none 0 0) (q0.alloc (.cells #[.slice none 0 0, .slice none 0 0] 45))) := Y2.new _ _ _ _
      replace HI : Hid (I10 w w.heap.size bo (.int .i64 r) (.int .i64 m) (.slice a1 n z1) (.slice a2 n z2) n f (q0.alloc (.cells #[.slice none 0 0, .slice none 0 0] 45))) := HI.out.later (bel1 _ _)
      generalize q0.alloc (.cells #[.slice none 0 0, .slice none 0 0] 45) = q1 at *
      generalize q0.heap.size = bt at *
      try simp only [Act.put, List.getElem_toArray, List.getElem_cons_succ, List.getElem_cons_zero, List.setIfInBounds_toArray, List.set_cons_zero, List.set_cons_succ]
      refine wpAnyH_ready (rs := [1, 4]) (by kernel_rfl) (by simp) ?_
      refine AllReadyH.cons rfl (fun K hK => ?_) (AllReadyH.cons rfl (fun K hK => ?_) AllReadyH.nil)
      · go_simp
        refine (CP.out _ _ f (HP.out.later HI.out.B)).mono ?_
        rintro e q2 ⟨pv, rfl, hA, hO, hb⟩
        obtain ⟨u1, k1, pb1, po1, rfl, -, -, -, -⟩ := id hA
        refine hK.out _ _ trivial (fun HS => ?_)
        clear hK K
        have hlt := HI.out.S.lt
        have H1 : Hid (Ar q2 (.slice u1 n k1) n f ∧ Nb (.slice u1 n k1) bo) := ⟨hA, ow_apart hO hlt⟩
        have N1 : Hid (Nb (.slice u1 n k1) bt) := ow_apart hO HT.out.lt
        replace HI : Hid (I10 w w.heap.size bo (.int .i64 r) (.int .i64 m) (.slice a1 n z1) (.slice a2 n z2) n f q2) := HI.out.later hb
        replace HT : Hid (Y2 bt (.slice none 0 0) (.slice none 0 0) q2) := HT.out.later hb
        clear hA hO hb hlt
        try simp only [Act.put, List.getElem_toArray, List.getElem_cons_succ, List.getElem_cons_zero, List.setIfInBounds_toArray, List.set_cons_zero, List.set_cons_succ]
        refine wpAnyH_ready (rs := [4]) (by kernel_rfl) (by simp) ?_
        refine AllReadyH.cons rfl (fun K hK => ?_) AllReadyH.nil
        go_simp
        refine hK.out _ _ trivial (fun HS => ?_)
        clear hK K
        have hlt := HI.out.S.lt
        have H4 : Hid (Ar (q2.alloc (.cells (madeCells #[.int .i64 0] n) 2)) (.slice (some ⟨q2.heap.size, 0, none⟩) n n) n (fun _ => 0) ∧ Nb (.slice (some ⟨q2.heap.size, 0, none⟩) n n) bo) := ⟨made_ar q2 n (by omega) _, ow_apart (ow_made (Nat.le_refl _)) hlt⟩
        have N4 : Hid (Nb (.slice (some ⟨q2.heap.size, 0, none⟩) n n) bt) := ow_apart (ow_made (Nat.le_refl _)) HT.out.lt
        replace HI : Hid (I10 w w.heap.size bo (.int .i64 r) (.int .i64 m) (.slice a1 n z1) (.slice a2 n z2) n f (q2.alloc (.cells (madeCells #[.int .i64 0] n) 2))) := HI.out.later (bel1 _ _)
        replace H1 : Hid (Ar (q2.alloc (.cells (madeCells #[.int .i64 0] n) 2)) (.slice u1 n k1) n f ∧ Nb (.slice u1 n k1) bo) := ⟨H1.out.1.later (bel1 _ _), H1.out.2⟩
        replace HT : Hid (Y2 bt (.slice none 0 0) (.slice none 0 0) (q2.alloc (.cells (madeCells #[.int .i64 0] n) 2))) := HT.out.later (bel1 _ _)
        clear hlt
        generalize q2.alloc (.cells (madeCells #[.int .i64 0] n) 2) = q3 at *
        generalize q2.heap.size = bg at *
        try simp only [Act.put, List.getElem_toArray, List.getElem_cons_succ, List.getElem_cons_zero, List.setIfInBounds_toArray, List.set_cons_zero, List.set_cons_succ]
        refine wpAnyH_take (i := 5) (v := ?_) rfl (by kernel_rfl) (by kernel_rfl) (by kernel_rfl) (fun _ _ _ h => h) (Or.inl ⟨by kernel_rfl, ?_⟩) HS ?_
        rotate_left
        · (rintro w -; go_simp) <;> with_reducible rfl
        try simp only [Act.put, List.getElem_toArray, List.getElem_cons_succ, List.getElem_cons_zero, List.setIfInBounds_toArray, List.set_cons_zero, List.set_cons_succ]
        have t0 := HT.out.c0
        have t1 := HT.out.c1
        have f0 := HT.out.f0
        have f1 := HT.out.f1
        have K1 : Hid (Y2 bt (.slice u1 n k1) (.slice (some ⟨bg, 0, none⟩) n n) ((q3.setCell ⟨bt, 0, none⟩ (.slice u1 n k1)).setCell ⟨bt, 1, none⟩ (.slice (some ⟨bg, 0, none⟩) n n)) ∧ Ar ((q3.setCell ⟨bt, 0, none⟩ (.slice u1 n k1)).setCell ⟨bt, 1, none⟩ (.slice (some ⟨bg, 0, none⟩) n n)) (.slice u1 n k1) n f ∧ Ar ((q3.setCell ⟨bt, 0, none⟩ (.slice u1 n k1)).setCell ⟨bt, 1, none⟩ (.slice (some ⟨bg, 0, none⟩) n n)) (.slice (some ⟨bg, 0, none⟩) n n) n (fun _ => 0)) := ⟨(HT.out.set0 _).set1 _, H1.out.1.put2 bt _ _ N1.out, H4.out.1.put2 bt _ _ N4.out⟩
        have K2 : Hid (I10 w w.heap.size bo (.int .i64 r) (.int .i64 m) (.slice a1 n z1) (.slice a2 n z2) n f ((q3.setCell ⟨bt, 0, none⟩ (.slice u1 n k1)).setCell ⟨bt, 1, none⟩ (.slice (some ⟨bg, 0, none⟩) n n))) := (HI.out.far (p := ⟨bt, 0, none⟩) HJ.out _).far (p := ⟨bt, 1, none⟩) HJ.out _
        have K3 : Hid (J10 w w.heap.size bo (.slice a1 n z1) (.slice a2 n z2) bt ∧ (Nb (.slice u1 n k1) bt ∧ Nb (.slice (some ⟨bg, 0, none⟩) n n) bt) ∧ Nb (.slice u1 n k1) bo ∧ Nb (.slice (some ⟨bg, 0, none⟩) n n) bo) := ⟨HJ.out, ⟨N1.out, N4.out⟩, H1.out.2, H4.out.2⟩
        clear HT H1 H4 HI HJ N1 N4
        refine wpAnyH_ready (rs := [7]) (by kernel_rfl) (by simp) ?_
        refine AllReadyH.cons rfl (fun K hK => ?_) AllReadyH.nil
        go_simp
        refine hK.out _ _ trivial (fun HS => ?_)
        clear hK K t0 t1 f0 f1
        refine wpAnyH_done (by kernel_rfl) ?_ _
        clear HS
        generalize ((q3.setCell ⟨bt, 0, none⟩ (.slice u1 n k1)).setCell ⟨bt, 1, none⟩ (.slice (some ⟨bg, 0, none⟩) n n)) = wE at *
        go_wp2
        go_meet
        case rel => exact ⟨bt, u1, some ⟨bg, 0, none⟩, k1, n, rfl, K1, K2, K3⟩
      · go_simp
        refine hK.out _ _ trivial (fun HS => ?_)
        clear hK K
        have hlt := HI.out.S.lt
        have H4 : Hid (Ar (q1.alloc (.cells (madeCells #[.int .i64 0] n) 2)) (.slice (some ⟨q1.heap.size, 0, none⟩) n n) n (fun _ => 0) ∧ Nb (.slice (some ⟨q1.heap.size, 0, none⟩) n n) bo) := ⟨made_ar q1 n (by omega) _, ow_apart (ow_made (Nat.le_refl _)) hlt⟩
        have N4 : Hid (Nb (.slice (some ⟨q1.heap.size, 0, none⟩) n n) bt) := ow_apart (ow_made (Nat.le_refl _)) HT.out.lt
        replace HI : Hid (I10 w w.heap.size bo (.int .i64 r) (.int .i64 m) (.slice a1 n z1) (.slice a2 n z2) n f (q1.alloc (.cells (madeCells #[.int .i64 0] n) 2))) := HI.out.later (bel1 _ _)
        replace HT : Hid (Y2 bt (.slice none 0 0) (.slice none 0 0) (q1.alloc (.cells (madeCells #[.int .i64 0] n) 2))) := HT.out.later (bel1 _ _)
        clear hlt
        generalize q1.alloc (.cells (madeCells #[.int .i64 0] n) 2) = q2 at *
        generalize q1.heap.size = bg at *
        try simp only [Act.put, List.getElem_toArray, List.getElem_cons_succ, List.getElem_cons_zero, List.setIfInBounds_toArray, List.set_cons_zero, List.set_cons_succ]
        refine wpAnyH_ready (rs := [1]) (by kernel_rfl) (by simp) ?_
        refine AllReadyH.cons rfl (fun K hK => ?_) AllReadyH.nil
        go_simp
        refine (CP.out _ _ f (HP.out.later HI.out.B)).mono ?_
        rintro e q3 ⟨pv, rfl, hA, hO, hb⟩
        obtain ⟨u1, k1, pb1, po1, rfl, -, -, -, -⟩ := id hA
        refine hK.out _ _ trivial (fun HS => ?_)
        clear hK K
        have hlt := HI.out.S.lt
        have H1 : Hid (Ar q3 (.slice u1 n k1) n f ∧ Nb (.slice u1 n k1) bo) := ⟨hA, ow_apart hO hlt⟩
        have N1 : Hid (Nb (.slice u1 n k1) bt) := ow_apart hO HT.out.lt
        replace HI : Hid (I10 w w.heap.size bo (.int .i64 r) (.int .i64 m) (.slice a1 n z1) (.slice a2 n z2) n f q3) := HI.out.later hb
        replace H4 : Hid (Ar q3 (.slice (some ⟨bg, 0, none⟩) n n) n (fun _ => 0) ∧ Nb (.slice (some ⟨bg, 0, none⟩) n n) bo) := ⟨H4.out.1.later hb, H4.out.2⟩
        replace HT : Hid (Y2 bt (.slice none 0 0) (.slice none 0 0) q3) := HT.out.later hb
        clear hA hO hb hlt
        try simp only [Act.put, List.getElem_toArray, List.getElem_cons_succ, List.getElem_cons_zero, List.setIfInBounds_toArray, List.set_cons_zero, List.set_cons_succ]
        refine wpAnyH_take (i := 5) (v := ?_) rfl (by kernel_rfl) (by kernel_rfl) (by kernel_rfl) (fun _ _ _ h => h) (Or.inl ⟨by kernel_rfl, ?_⟩) HS ?_
        rotate_left
        · (rintro w -; go_simp) <;> with_reducible rfl
        try simp only [Act.put, List.getElem_toArray, List.getElem_cons_succ, List.getElem_cons_zero, List.setIfInBounds_toArray, List.set_cons_zero, List.set_cons_succ]
        have t0 := HT.out.c0
        have t1 := HT.out.c1
        have f0 := HT.out.f0
        have f1 := HT.out.f1
        have K1 : Hid (Y2 bt (.slice u1 n k1) (.slice (some ⟨bg, 0, none⟩) n n) ((q3.setCell ⟨bt, 0, none⟩ (.slice u1 n k1)).setCell ⟨bt, 1, none⟩ (.slice (some ⟨bg, 0, none⟩) n n)) ∧ Ar ((q3.setCell ⟨bt, 0, none⟩ (.slice u1 n k1)).setCell ⟨bt, 1, none⟩ (.slice (some ⟨bg, 0, none⟩) n n)) (.slice u1 n k1) n f ∧ Ar ((q3.setCell ⟨bt, 0, none⟩ (.slice u1 n k1)).setCell ⟨bt, 1, none⟩ (.slice (some ⟨bg, 0, none⟩) n n)) (.slice (some ⟨bg, 0, none⟩) n n) n (fun _ => 0)) := ⟨(HT.out.set0 _).set1 _, H1.out.1.put2 bt _ _ N1.out, H4.out.1.put2 bt _ _ N4.out⟩
        have K2 : Hid (I10 w w.heap.size bo (.int .i64 r) (.int .i64 m) (.slice a1 n z1) (.slice a2 n z2) n f ((q3.setCell ⟨bt, 0, none⟩ (.slice u1 n k1)).setCell ⟨bt, 1, none⟩ (.slice (some ⟨bg, 0, none⟩) n n))) := (HI.out.far (p := ⟨bt, 0, none⟩) HJ.out _).far (p := ⟨bt, 1, none⟩) HJ.out _
        have K3 : Hid (J10 w w.heap.size bo (.slice a1 n z1) (.slice a2 n z2) bt ∧ (Nb (.slice u1 n k1) bt ∧ Nb (.slice (some ⟨bg, 0, none⟩) n n) bt) ∧ Nb (.slice u1 n k1) bo ∧ Nb (.slice (some ⟨bg, 0, none⟩) n n) bo) := ⟨HJ.out, ⟨N1.out, N4.out⟩, H1.out.2, H4.out.2⟩
        clear HT H1 H4 HI HJ N1 N4
        refine wpAnyH_ready (rs := [7]) (by kernel_rfl) (by simp) ?_
        refine AllReadyH.cons rfl (fun K hK => ?_) AllReadyH.nil
        go_simp
        refine hK.out _ _ trivial (fun HS => ?_)
        clear hK K t0 t1 f0 f1
        refine wpAnyH_done (by kernel_rfl) ?_ _
        clear HS
        generalize ((q3.setCell ⟨bt, 0, none⟩ (.slice u1 n k1)).setCell ⟨bt, 1, none⟩ (.slice (some ⟨bg, 0, none⟩) n n)) = wE at *
        go_wp2
        go_meet
        case rel => exact ⟨bt, u1, some ⟨bg, 0, none⟩, k1, n, rfl, K1, K2, K3⟩
  case rest =>
    obtain ⟨bt, u1, u2, k1, k2, rfl, HT, HI', HJ⟩ := hcut
    clear HI hbD hmk
    have y0 := HI'.out.S.c0
    have y1 := HI'.out.S.c1
    have t0 := HT.out.1.c0
    have t1 := HT.out.1.c1
    go_wp2_with fail
    refine (CL.out _ _ _ _ _ f (fun _ => 0) HI'.out.a1 HI'.out.a2 HT.out.2.1 HT.out.2.2).mono ?_
    rintro e w6 ⟨rfl, hb⟩
    clear y0 y1 t0 t1
    have hI6 := HI'.out.later hb
    have hT6 := HT.out.1.later hb
    have hA6 := HT.out.2.1.later hb
    have hB6 := HT.out.2.2.later hb
    go_upto_region 10 with fail
    obtain ⟨b0, hb0⟩ : ∃ b0, w.heap.size = b0 := ⟨_, rfl⟩
    have hbu : Below w6.heap.size w6 ((w6.alloc (.cells #[.int .i64 0] 34)).alloc (.cells #[.int .i64 0] 37)) := bel2 _ _ _
    have hl1 := hI6.S.lt
    have hl2 := hT6.lt
    have hl3 := hI6.X.lt
    have hj1 := HJ.out.1.s
    have hv := HV.out.2
    have HD : Hid (D5 w b0 w6.heap.size (w6.heap.size + 1) bo bt) := by
      rw [← hb0]
      exact ⟨⟨by omega, by omega, by omega, by omega⟩, by omega, ⟨by omega, by omega, by omega, by omega⟩, ⟨by omega, by omega, by omega⟩, by omega, by omega⟩
    have nn : ∀ (v : Value) (F : Nat → Int), Ar w6 v n F → Nb v bo → Nb v bt → Na10 w6.heap.size (w6.heap.size + 1) bo bt v := fun v F h h1 h2 => ⟨h.nb (Nat.le_refl _), h.nb (by omega), h1, h2⟩
    have HR0 : Hid (R10 w b0 w6.heap.size (w6.heap.size + 1) bo bt 0 0 (.int .i64 r) (.int .i64 m) (.slice a1 n z1) (.slice a2 n z2) (.slice u1 n k1) (.slice u2 n k2) n f (fun _ => 0) f (fun _ => 0) ((w6.alloc (.cells #[.int .i64 0] 34)).alloc (.cells #[.int .i64 0] 37))) := by
      rw [← hb0]
      exact ⟨units10 hI6.B _ _, hI6.X.later hbu, hI6.S.later hbu, hT6.later hbu, hI6.a1.later hbu, hI6.a2.later hbu, hA6.later hbu, hB6.later hbu, nn _ _ hI6.a1 HV.out.1.1 HJ.out.1.a, nn _ _ hI6.a2 HV.out.1.2 HJ.out.1.b, nn _ _ hA6 HJ.out.2.2.1 HJ.out.2.1.1, nn _ _ hB6 HJ.out.2.2.2 HJ.out.2.1.2⟩
    clear hI6 hT6 hA6 hB6 hbu hl1 hl2 hl3 hj1 hv nn hb HT HI' HJ HV
    have Hb0 : Hid (w.heap.size = b0) := hb0
    generalize (w6.alloc (.cells #[.int .i64 0] 34)).alloc (.cells #[.int .i64 0] 37) = w7 at *
    generalize w6.heap.size = du at *
    try simp only [hb0]
    clear hb0
    have HB7 : Hid (Below w.heap.size w w7) := HR0.out.L.B
    have CN : Hid (∀ (W : World) (c cv : Int) (P B P' B' G : Nat → Int) (vP vB uP uB vG : Value), 0 ≤ c → c ≤ 100000 → R10 w b0 du (du + 1) bo bt c cv (.int .i64 r) (.int .i64 m) vP vB uP uB n P B P' B' W → Ar W vG n G → Nb vG du → Calls Try.prog 10 #[.pointer (some ⟨du, 0, none⟩), .int .i64 r, .int .i64 m, .agg #[vP, vB], vG] W fun e w' => ∃ (a1 a2 : Option Addr) (k1 k2 : Nat), e = .returned (.tuple #[.agg #[.slice a1 n k1, .slice a2 n k2], .int .i64 0]) ∧ St10 W (.slice a1 n k1) (.slice a2 n k2) n r m B P G w' ∧ Un du (c + oS r m B P G n) W w') := fun W c cv P B P' B' G vP vB uP uB vG q0 q1 h hG hN => step10_un r m HR.out r1 vP vB vG n P B G (by omega) du c q0 (by omega) W h.a1 h.a2 hG h.n1.1 h.n2.1 hN h.L.u
    have CV : Hid (∀ (W : World) (cu c : Int) (P B P' B' G : Nat → Int) (vP vB uP uB vG : Value), 0 ≤ c → c ≤ 100000 → R10 w b0 du (du + 1) bo bt cu c (.int .i64 r) (.int .i64 m) vP vB uP uB n P B P' B' W → Ar W vG n G → Nb vG (du + 1) → Calls Try.prog 13 #[.pointer (some ⟨du + 1, 0, none⟩), .int .i64 r, .int .i64 m, .agg #[uP, uB], vG] W fun e w' => ∃ (a1 a2 : Option Addr) (k1 k2 : Nat), e = .returned (.agg #[.slice a1 n k1, .slice a2 n k2]) ∧ Ar w' (.slice a1 n k1) n (fun i => oP r m (B' i) (P' i) (G i)) ∧ Ar w' (.slice a2 n k2) n (fun i => oB m (B' i) (G i)) ∧ (Ow W.heap.size (.slice a1 n k1) ∧ Ow W.heap.size (.slice a2 n k2)) ∧ Un (du + 1) (c + oS r m B' P' G n) W w') := fun W cu c P B P' B' G vP vB uP uB vG q0 q1 h hG hN => refStep10 r m HR.out r1 uP uB vG n P' B' G (by omega) (du + 1) c q0 (by omega) W h.b1 h.b2 hG h.m1.2.1 h.m2.2.1 hN h.L.v.1 h.L.v.2
    go_upto_region 11 with fail
    go_loopw [8, 57] (fun s8 si wr => ∃ (j : Nat) (c : Int) (P B : Nat → Int) (aP aB a3 a4 : Option Addr) (kP kB k3 k4 : Nat), j ≤ K ∧ s8 = .int .i64 0 ∧ si = .int .i64 (j : Int) ∧ Hid (0 ≤ c ∧ c ≤ 60 * (j : Int)) ∧ Hid (R10 w b0 du (du + 1) bo bt c c (.int .i64 r) (.int .i64 m) (.slice aP n kP) (.slice aB n kB) (.slice a3 n k3) (.slice a4 n k4) n P B P B wr)) (fun _ si _ => K - (intOf si).toNat)
    case atStart => exact ⟨0, 0, f, (fun _ => 0), a1, a2, u1, u2, z1, z2, k1, k2, by omega, rfl, rfl, ⟨by omega, by omega⟩, HR0⟩
    case round =>
      clear HR0
      obtain ⟨j, c, P, B, aP, aB, a3, a4, kP, kB, k3, k4, hj, rfl, rfl, Hc, HS0⟩ := hrel
      by_cases hlt : j < K
      · have hjI : (j : Int) < (K : Int) := by omega
        obtain ⟨ad, ca, hcl, hag⟩ := HLt.out.2 j hlt
        have hal := HLt.out.1 (by omega)
        subst hal
        have gc := cell_later HS0.out.L.B hcl
        by_cases hnn : ns j = n
        case neg =>
          have hnn' : ¬ ((ns j : Nat) : Int) = (n : Int) := by omega
          have hnb : (((ns j : Nat) : Int) != (n : Int)) = true := by simpa using hnn'
          clear hag hcl
          go_wp2
          go_ret
          exact ⟨rfl, HS0.out.L.B⟩
        rw [hnn] at gc hag
        have HGw : Hid (Ar w (.slice ad n ca) n (fs j)) := hag
        have HNg : Hid (Nb (.slice ad n ca) du ∧ Nb (.slice ad n ca) (du + 1)) := ⟨hag.nb HD.out.w.1, hag.nb HD.out.w.2.1⟩
        generalize fs j = G at *
        have hcb := Hc.out
        have hoS := oS_rng r m B P G n
        have hNn := HNn.out
        have hcr : 0 ≤ c ∧ c ≤ 1800 := by omega
        have HC2 : Hid (0 ≤ c + oS r m B P G n ∧ c + oS r m B P G n ≤ 60 * ((j + 1 : Nat) : Int)) := by
          show _ ∧ _
          omega
        have C1 : Hid (Calls Try.prog 10 #[.pointer (some ⟨du, 0, none⟩), .int .i64 r, .int .i64 m, .agg #[.slice aP n kP, .slice aB n kB], .slice ad n ca] wr fun e w' => ∃ (a1 a2 : Option Addr) (k1 k2 : Nat), e = .returned (.tuple #[.agg #[.slice a1 n k1, .slice a2 n k2], .int .i64 0]) ∧ St10 wr (.slice a1 n k1) (.slice a2 n k2) n r m B P G w' ∧ Un du (c + oS r m B P G n) wr w') := CN.out wr c c P B P B G _ _ _ _ _ hcr.1 (by omega) HS0.out (HGw.out.later HS0.out.L.B) HNg.out.1
        have C2 : Hid (∀ (W : World) (cu : Int) (P1 B1 : Nat → Int) (vP vB vG : Value), R10 w b0 du (du + 1) bo bt cu c (.int .i64 r) (.int .i64 m) vP vB (.slice a3 n k3) (.slice a4 n k4) n P1 B1 P B W → Ar W vG n G → Nb vG (du + 1) → Calls Try.prog 13 #[.pointer (some ⟨du + 1, 0, none⟩), .int .i64 r, .int .i64 m, .agg #[.slice a3 n k3, .slice a4 n k4], vG] W fun e w' => ∃ (a1 a2 : Option Addr) (k1 k2 : Nat), e = .returned (.agg #[.slice a1 n k1, .slice a2 n k2]) ∧ Ar w' (.slice a1 n k1) n (fun i => oP r m (B i) (P i) (G i)) ∧ Ar w' (.slice a2 n k2) n (fun i => oB m (B i) (G i)) ∧ (Ow W.heap.size (.slice a1 n k1) ∧ Ow W.heap.size (.slice a2 n k2)) ∧ Un (du + 1) (c + oS r m B P G n) W w') := fun W cu P1 B1 vP vB vG h hG hN => CV.out W cu c P1 B1 P B G vP vB _ _ vG hcr.1 (by omega) h hG hN
        have HSt : Hid (∀ (W w' : World) (v1 v2 : Value), St10 W v1 v2 n r m B P G w' → Ar w' v1 n (fun i => oP r m (B i) (P i) (G i)) ∧ Ar w' v2 n (fun i => oB m (B i) (G i)) ∧ Ow W.heap.size v1 ∧ Ow W.heap.size v2) := fun W w' v1 v2 h => h
        generalize (fun i => oP r m (B i) (P i) (G i)) = FP at *
        generalize (fun i => oB m (B i) (G i)) = FB at *
        generalize c + oS r m B P G n = c2 at *
        clear hcb hoS hNn hcr hag hcl hnn
        have x0 := HS0.out.X.c0
        have x1 := HS0.out.X.c1
        have y0 := HS0.out.S.c0
        have y1 := HS0.out.S.c1
        go_wp2_with fail
        refine C1.out.mono ?_
        rintro e wa ⟨g1, g2, l1, l2, rfl, hSt, hU⟩
        obtain ⟨s1, s2, s3, s4⟩ := HSt.out _ _ _ _ hSt
        have hSa := HS0.out.S.un hU HD.out.o.1
        have hlts := HS0.out.lts
        obtain ⟨wb, hwb⟩ : ∃ wb, wb = (wa.setCell ⟨bo, 0, none⟩ (.slice g1 n l1)).setCell ⟨bo, 1, none⟩ (.slice g2 n l2) := ⟨_, rfl⟩
        have HS1 : Hid (R10 w b0 du (du + 1) bo bt c2 c (.int .i64 r) (.int .i64 m) (.slice g1 n l1) (.slice g2 n l2) (.slice a3 n k3) (.slice a4 n k4) n FP FB P B wb) := by rw [hwb]; exact HS0.out.stepU HD.out hU s1 s2 s3 s4
        clear hSt hU s1 s2 s3 s4 C1 CN HSt x0 x1 y0 y1 HS0 gc hlts
        have y0 := hSa.c0
        have y1 := hSa.c1
        have f0 := hSa.f0
        have f1 := hSa.f1
        clear hSa
        go_upto_region 16 with fail
        rw [← hwb]
        clear hwb y0 y1 f0 f1
        have hbD : Below wb.heap.size wb wb.drew := (Below.refl _ _).drew
        replace HS1 : Hid (R10 w b0 du (du + 1) bo bt c2 c (.int .i64 r) (.int .i64 m) (.slice g1 n l1) (.slice g2 n l2) (.slice a3 n k3) (.slice a4 n k4) n FP FB P B wb.drew) := HS1.out.later hbD
        refine wp_region_held_drew (S := Y2 b0 (.int .i64 r) (.int .i64 m)) (by kernel_rfl) HS1.out.X (fun HS => ?_)
        clear hbD
        generalize wb.drew = q0 at *
        refine wpAnyH_take (i := 0) (v := ?v1) rfl (by kernel_rfl) (by kernel_rfl) (by kernel_rfl) (fun _ _ _ h => h) (Or.inl ⟨by kernel_rfl, ?h1⟩) HS ?r1
        case h1 => (rintro w ⟨x0, x1, -, -⟩; go_simp) <;> with_reducible rfl
        try simp only [Act.put, List.getElem_toArray, List.getElem_cons_succ, List.getElem_cons_zero, List.setIfInBounds_toArray, List.set_cons_zero, List.set_cons_succ]
        refine wpAnyH_take (i := 1) (v := ?v2) rfl (by kernel_rfl) (by kernel_rfl) (by kernel_rfl) (fun _ _ _ h => h) (Or.inl ⟨by kernel_rfl, ?h2⟩) HS ?r2
        case h2 => (rintro w ⟨x0, x1, -, -⟩; go_simp) <;> with_reducible rfl
        try simp only [Act.put, List.getElem_toArray, List.getElem_cons_succ, List.getElem_cons_zero, List.setIfInBounds_toArray, List.set_cons_zero, List.set_cons_succ]
        refine wpAnyH_take (i := 2) (v := ?v3) rfl (by kernel_rfl) (by kernel_rfl) (by kernel_rfl) (fun _ _ _ h => h) (Or.inl ⟨by kernel_rfl, ?h3⟩) HS ?r3
        case h3 => (rintro w ⟨x0, x1, -, -⟩; go_simp) <;> with_reducible rfl
        try simp only [Act.put, List.getElem_toArray, List.getElem_cons_succ, List.getElem_cons_zero, List.setIfInBounds_toArray, List.set_cons_zero, List.set_cons_succ]
        refine wpAnyH_take (i := 3) (v := ?v4) rfl (by kernel_rfl) (by kernel_rfl) (by kernel_rfl) (fun _ _ _ h => h) (Or.inl ⟨by kernel_rfl, ?h4⟩) HS ?r4
        case h4 => (rintro w ⟨x0, x1, -, -⟩; go_simp) <;> with_reducible rfl
        try simp only [Act.put, List.getElem_toArray, List.getElem_cons_succ, List.getElem_cons_zero, List.setIfInBounds_toArray, List.set_cons_zero, List.set_cons_succ]
        refine wpAnyH_take (i := 4) (v := ?v5) rfl (by kernel_rfl) (by kernel_rfl) (by kernel_rfl) (fun _ _ _ h => h) (Or.inl ⟨by kernel_rfl, ?h5⟩) HS ?r5
        case h5 => (rintro w ⟨x0, x1, -, -⟩; go_simp) <;> with_reducible rfl
        try simp only [Act.put, List.getElem_toArray, List.getElem_cons_succ, List.getElem_cons_zero, List.setIfInBounds_toArray, List.set_cons_zero, List.set_cons_succ]
        refine wpAnyH_take (i := 6) (v := ?v6) rfl (by kernel_rfl) (by kernel_rfl) (by kernel_rfl) (fun _ _ _ h => h) (Or.inl ⟨by kernel_rfl, ?h6⟩) HS ?r6
        case h6 => (rintro w ⟨x0, x1, -, -⟩; go_simp) <;> with_reducible rfl
        try simp only [Act.put, List.getElem_toArray, List.getElem_cons_succ, List.getElem_cons_zero, List.setIfInBounds_toArray, List.set_cons_zero, List.set_cons_succ]
        refine wpAnyH_ready (rs := [5, 7]) (by kernel_rfl) (by simp) ?_
        refine AllReadyH.cons rfl (fun K' hK' => ?_) (AllReadyH.cons rfl (fun K' hK' => ?_) AllReadyH.nil)
        · have t0 := HS1.out.T.c0
          have t1 := HS1.out.T.c1
          go_simp
          refine hK'.out _ _ HS (fun HS => ?_)
          clear hK' K' t0 t1
          try simp only [Act.put, List.getElem_toArray, List.getElem_cons_succ, List.getElem_cons_zero, List.setIfInBounds_toArray, List.set_cons_zero, List.set_cons_succ]
          refine wpAnyH_ready (rs := [7]) (by kernel_rfl) (by simp) ?_
          refine AllReadyH.cons rfl (fun K' hK' => ?_) AllReadyH.nil
          go_simp
          refine (CP.out _ _ G (HGw.out.later HS1.out.L.B)).mono ?_
          rintro e q1 ⟨pv, rfl, hA, hO, hb⟩
          obtain ⟨pa, pc, pb, po, rfl, -, -, -, -⟩ := id hA
          refine hK'.out _ _ (HS.later hb) (fun HS => ?_)
          clear hK' K'
          have HPg : Hid (Ar q1 (.slice pa n pc) n G ∧ Nb (.slice pa n pc) (du + 1)) := ⟨hA, ow_apart hO HS1.out.lts.2.1⟩
          replace HS1 : Hid (R10 w b0 du (du + 1) bo bt c2 c (.int .i64 r) (.int .i64 m) (.slice g1 n l1) (.slice g2 n l2) (.slice a3 n k3) (.slice a4 n k4) n FP FB P B q1) := HS1.out.later hb
          clear hA hO hb
          try simp only [Act.put, List.getElem_toArray, List.getElem_cons_succ, List.getElem_cons_zero, List.setIfInBounds_toArray, List.set_cons_zero, List.set_cons_succ]
          refine wpAnyH_ready (rs := [8]) (by kernel_rfl) (by simp) ?_
          refine AllReadyH.cons rfl (fun K' hK' => ?_) AllReadyH.nil
          go_simp
          refine (C2.out _ _ _ _ _ _ _ HS1.out HPg.out.1 HPg.out.2).mono ?_
          rintro e q2 ⟨e1, e2, h1, h2, rfl, hA, hB', hO, hU⟩
          have hTa := HS1.out.T.un hU HD.out.t.2
          have HS2 : Hid (R10 w b0 du (du + 1) bo bt c2 c2 (.int .i64 r) (.int .i64 m) (.slice g1 n l1) (.slice g2 n l2) (.slice e1 n h1) (.slice e2 n h2) n FP FB FP FB ((q2.setCell ⟨bt, 0, none⟩ (.slice e1 n h1)).setCell ⟨bt, 1, none⟩ (.slice e2 n h2))) := HS1.out.stepV HD.out hU hA hB' hO.1 hO.2
          refine hK'.out _ _ (HS.un hU HD.out.b.2.1) (fun HS => ?_)
          clear hK' K' hA hB' hO hU HS1 HPg C2
          try simp only [Act.put, List.getElem_toArray, List.getElem_cons_succ, List.getElem_cons_zero, List.setIfInBounds_toArray, List.set_cons_zero, List.set_cons_succ]
          have t0 := hTa.c0
          have t1 := hTa.c1
          have f0 := hTa.f0
          have f1 := hTa.f1
          clear hTa
          refine wpAnyH_ready (rs := [9]) (by kernel_rfl) (by simp) ?_
          refine AllReadyH.cons rfl (fun K' hK' => ?_) AllReadyH.nil
          go_simp
          refine hK'.out _ _ HS2.out.X (fun HS => ?_)
          clear hK' K' t0 t1 f0 f1
          refine wpAnyH_done (by kernel_rfl) ?_ _
          clear HS
          generalize (q2.setCell ⟨bt, 0, none⟩ (.slice e1 n h1)).setCell ⟨bt, 1, none⟩ (.slice e2 n h2) = q3 at *
          go_upto_region 17 with fail
          have hbD : Below q3.heap.size q3 q3.drew := (Below.refl _ _).drew
          replace HS2 : Hid (R10 w b0 du (du + 1) bo bt c2 c2 (.int .i64 r) (.int .i64 m) (.slice g1 n l1) (.slice g2 n l2) (.slice e1 n h1) (.slice e2 n h2) n FP FB FP FB q3.drew) := HS2.out.later hbD
          refine wp_region_held_drew (S := K15 bo bt (du + 1) c2 (.slice g1 n l1) (.slice g2 n l2) (.slice e1 n h1) (.slice e2 n h2)) (by kernel_rfl) ⟨HS2.out.S.c0, HS2.out.S.c1, HS2.out.T.c0, HS2.out.T.c1, HS2.out.L.v.1⟩ (fun HS => ?_)
          clear hbD
          generalize q3.drew = q4 at *
          refine wpAnyH_take (i := 0) (v := ?_) rfl (by kernel_rfl) (by kernel_rfl) (by kernel_rfl) (fun _ _ _ h => h) (Or.inl ⟨by kernel_rfl, ?_⟩) HS ?_
          rotate_left
          · (rintro w ⟨n0, n1, t0, t1, v0⟩; go_simp) <;> with_reducible rfl
          try simp only [Act.put, List.getElem_toArray, List.getElem_cons_succ, List.getElem_cons_zero, List.setIfInBounds_toArray, List.set_cons_zero, List.set_cons_succ]
          refine wpAnyH_take (i := 1) (v := ?_) rfl (by kernel_rfl) (by kernel_rfl) (by kernel_rfl) (fun _ _ _ h => h) (Or.inl ⟨by kernel_rfl, ?_⟩) HS ?_
          rotate_left
          · (rintro w ⟨n0, n1, t0, t1, v0⟩; go_simp) <;> with_reducible rfl
          try simp only [Act.put, List.getElem_toArray, List.getElem_cons_succ, List.getElem_cons_zero, List.setIfInBounds_toArray, List.set_cons_zero, List.set_cons_succ]
          refine wpAnyH_take (i := 2) (v := ?_) rfl (by kernel_rfl) (by kernel_rfl) (by kernel_rfl) (fun _ _ _ h => h) (Or.inl ⟨by kernel_rfl, ?_⟩) HS ?_
          rotate_left
          · (rintro w ⟨n0, n1, t0, t1, v0⟩; go_simp) <;> with_reducible rfl
          try simp only [Act.put, List.getElem_toArray, List.getElem_cons_succ, List.getElem_cons_zero, List.setIfInBounds_toArray, List.set_cons_zero, List.set_cons_succ]
          refine wpAnyH_take (i := 3) (v := ?_) rfl (by kernel_rfl) (by kernel_rfl) (by kernel_rfl) (fun _ _ _ h => h) (Or.inl ⟨by kernel_rfl, ?_⟩) HS ?_
          rotate_left
          · (rintro w ⟨n0, n1, t0, t1, v0⟩; go_simp) <;> with_reducible rfl
          try simp only [Act.put, List.getElem_toArray, List.getElem_cons_succ, List.getElem_cons_zero, List.setIfInBounds_toArray, List.set_cons_zero, List.set_cons_succ]
          refine wpAnyH_take (i := 4) (v := ?_) rfl (by kernel_rfl) (by kernel_rfl) (by kernel_rfl) (fun _ _ _ h => h) (Or.inl ⟨by kernel_rfl, ?_⟩) HS ?_
          rotate_left
          · (rintro w ⟨n0, n1, t0, t1, v0⟩; go_simp) <;> with_reducible rfl
          try simp only [Act.put, List.getElem_toArray, List.getElem_cons_succ, List.getElem_cons_zero, List.setIfInBounds_toArray, List.set_cons_zero, List.set_cons_succ]
          refine wpAnyH_ready (rs := [5]) (by kernel_rfl) (by simp) ?_
          refine AllReadyH.cons rfl (fun K' hK' => ?_) AllReadyH.nil
          go_simp
          refine (CL.out _ _ _ _ _ FP FB HS2.out.a1 HS2.out.a2 HS2.out.b1 HS2.out.b2).mono ?_
          rintro e q5 ⟨rfl, hb⟩
          refine hK'.out _ _ (HS.later hb) (fun HS => ?_)
          clear hK' K'
          replace HS2 : Hid (R10 w b0 du (du + 1) bo bt c2 c2 (.int .i64 r) (.int .i64 m) (.slice g1 n l1) (.slice g2 n l2) (.slice e1 n h1) (.slice e2 n h2) n FP FB FP FB q5) := HS2.out.later hb
          clear hb
          try simp only [Act.put, List.getElem_toArray, List.getElem_cons_succ, List.getElem_cons_zero, List.setIfInBounds_toArray, List.set_cons_zero, List.set_cons_succ]
          refine wpAnyH_take (i := 6) (v := ?_) rfl (by kernel_rfl) (by kernel_rfl) (by kernel_rfl) (fun _ _ _ h => h) (Or.inl ⟨by kernel_rfl, ?_⟩) HS ?_
          rotate_left
          · (rintro w ⟨n0, n1, t0, t1, v0⟩; go_simp) <;> with_reducible rfl
          try simp only [Act.put, List.getElem_toArray, List.getElem_cons_succ, List.getElem_cons_zero, List.setIfInBounds_toArray, List.set_cons_zero, List.set_cons_succ]
          refine wpAnyH_take (i := 7) (v := ?_) rfl (by kernel_rfl) (by kernel_rfl) (by kernel_rfl) (fun _ _ _ h => h) (Or.inl ⟨by kernel_rfl, ?_⟩) HS ?_
          rotate_left
          · (rintro w ⟨n0, n1, t0, t1, v0⟩; go_simp) <;> with_reducible rfl
          try simp only [Act.put, List.getElem_toArray, List.getElem_cons_succ, List.getElem_cons_zero, List.setIfInBounds_toArray, List.set_cons_zero, List.set_cons_succ]
          refine wpAnyH_take (i := 8) (v := ?_) rfl (by kernel_rfl) (by kernel_rfl) (by kernel_rfl) (fun _ _ _ h => h) (Or.inl ⟨by kernel_rfl, ?_⟩) HS ?_
          rotate_left
          · (rintro w ⟨n0, n1, t0, t1, v0⟩; go_simp) <;> with_reducible rfl
          try simp only [Act.put, List.getElem_toArray, List.getElem_cons_succ, List.getElem_cons_zero, List.setIfInBounds_toArray, List.set_cons_zero, List.set_cons_succ]
          refine wpAnyH_take (i := 9) (v := ?_) rfl (by kernel_rfl) (by kernel_rfl) (by kernel_rfl) (fun _ _ _ h => h) (Or.inl ⟨by kernel_rfl, ?_⟩) HS ?_
          rotate_left
          · (rintro w ⟨n0, n1, t0, t1, v0⟩; go_simp) <;> with_reducible rfl
          try simp only [Act.put, List.getElem_toArray, List.getElem_cons_succ, List.getElem_cons_zero, List.setIfInBounds_toArray, List.set_cons_zero, List.set_cons_succ]
          refine wpAnyH_take (i := 11) (v := ?_) rfl (by kernel_rfl) (by kernel_rfl) (by kernel_rfl) (fun _ _ _ h => h) (Or.inl ⟨by kernel_rfl, ?_⟩) HS ?_
          rotate_left
          · (rintro w ⟨n0, n1, t0, t1, v0⟩; go_simp) <;> with_reducible rfl
          try simp only [Act.put, List.getElem_toArray, List.getElem_cons_succ, List.getElem_cons_zero, List.setIfInBounds_toArray, List.set_cons_zero, List.set_cons_succ]
          refine wpAnyH_take (i := 12) (v := ?_) rfl (by kernel_rfl) (by kernel_rfl) (by kernel_rfl) (fun _ _ _ h => h) (Or.inl ⟨by kernel_rfl, ?_⟩) HS ?_
          rotate_left
          · (rintro w ⟨n0, n1, t0, t1, v0⟩; go_simp) <;> with_reducible rfl
          try simp only [Act.put, List.getElem_toArray, List.getElem_cons_succ, List.getElem_cons_zero, List.setIfInBounds_toArray, List.set_cons_zero, List.set_cons_succ]
          refine wpAnyH_take (i := 13) (v := ?_) rfl (by kernel_rfl) (by kernel_rfl) (by kernel_rfl) (fun _ _ _ h => h) (Or.inl ⟨by kernel_rfl, ?_⟩) HS ?_
          rotate_left
          · (rintro w ⟨n0, n1, t0, t1, v0⟩; go_simp) <;> with_reducible rfl
          try simp only [Act.put, List.getElem_toArray, List.getElem_cons_succ, List.getElem_cons_zero, List.setIfInBounds_toArray, List.set_cons_zero, List.set_cons_succ]
          refine wpAnyH_take (i := 14) (v := ?_) rfl (by kernel_rfl) (by kernel_rfl) (by kernel_rfl) (fun _ _ _ h => h) (Or.inl ⟨by kernel_rfl, ?_⟩) HS ?_
          rotate_left
          · (rintro w ⟨n0, n1, t0, t1, v0⟩; go_simp) <;> with_reducible rfl
          try simp only [Act.put, List.getElem_toArray, List.getElem_cons_succ, List.getElem_cons_zero, List.setIfInBounds_toArray, List.set_cons_zero, List.set_cons_succ]
          refine wpAnyH_ready (rs := [10]) (by kernel_rfl) (by simp) ?_
          refine AllReadyH.cons rfl (fun K' hK' => ?_) AllReadyH.nil
          go_simp
          refine (count_any du c2 _ HS2.out.L.u.1).mono ?_
          rintro e q6 ⟨rfl, rfl⟩
          refine hK'.out _ _ HS (fun HS => ?_)
          clear hK' K'
          try simp only [Act.put, List.getElem_toArray, List.getElem_cons_succ, List.getElem_cons_zero, List.setIfInBounds_toArray, List.set_cons_zero, List.set_cons_succ]
          refine wpAnyH_take (i := 15) (v := ?_) rfl (by kernel_rfl) (by kernel_rfl) (by kernel_rfl) (fun _ _ _ h => h) (Or.inl ⟨by kernel_rfl, ?_⟩) HS ?_
          rotate_left
          · (rintro w ⟨n0, n1, t0, t1, v0⟩; go_simp) <;> with_reducible rfl
          try simp only [Act.put, List.getElem_toArray, List.getElem_cons_succ, List.getElem_cons_zero, List.setIfInBounds_toArray, List.set_cons_zero, List.set_cons_succ]
          refine wpAnyH_take (i := 16) (v := ?_) rfl (by kernel_rfl) (by kernel_rfl) (by kernel_rfl) (fun _ _ _ h => h) (Or.inl ⟨by kernel_rfl, ?_⟩) HS ?_
          rotate_left
          · (rintro w ⟨n0, n1, t0, t1, v0⟩; go_simp) <;> with_reducible rfl
          try simp only [Act.put, List.getElem_toArray, List.getElem_cons_succ, List.getElem_cons_zero, List.setIfInBounds_toArray, List.set_cons_zero, List.set_cons_succ]
          refine wpAnyH_done (by kernel_rfl) ?_ _
          clear HS
          go_wp2
          go_roundw
          case rel => exact ⟨j + 1, c2, FP, FB, g1, g2, e1, e2, l1, l2, h1, h2, by omega, by first | rfl | trivial, by go_num, HC2, HS2⟩
          case measure => simp [intOf]; omega
        · go_simp
          refine (CP.out _ _ G (HGw.out.later HS1.out.L.B)).mono ?_
          rintro e q1 ⟨pv, rfl, hA, hO, hb⟩
          obtain ⟨pa, pc, pb, po, rfl, -, -, -, -⟩ := id hA
          refine hK'.out _ _ (HS.later hb) (fun HS => ?_)
          clear hK' K'
          have HPg : Hid (Ar q1 (.slice pa n pc) n G ∧ Nb (.slice pa n pc) (du + 1)) := ⟨hA, ow_apart hO HS1.out.lts.2.1⟩
          replace HS1 : Hid (R10 w b0 du (du + 1) bo bt c2 c (.int .i64 r) (.int .i64 m) (.slice g1 n l1) (.slice g2 n l2) (.slice a3 n k3) (.slice a4 n k4) n FP FB P B q1) := HS1.out.later hb
          clear hA hO hb
          try simp only [Act.put, List.getElem_toArray, List.getElem_cons_succ, List.getElem_cons_zero, List.setIfInBounds_toArray, List.set_cons_zero, List.set_cons_succ]
          refine wpAnyH_ready (rs := [5]) (by kernel_rfl) (by simp) ?_
          refine AllReadyH.cons rfl (fun K' hK' => ?_) AllReadyH.nil
          have t0 := HS1.out.T.c0
          have t1 := HS1.out.T.c1
          go_simp
          refine hK'.out _ _ HS (fun HS => ?_)
          clear hK' K' t0 t1
          try simp only [Act.put, List.getElem_toArray, List.getElem_cons_succ, List.getElem_cons_zero, List.setIfInBounds_toArray, List.set_cons_zero, List.set_cons_succ]
          refine wpAnyH_ready (rs := [8]) (by kernel_rfl) (by simp) ?_
          refine AllReadyH.cons rfl (fun K' hK' => ?_) AllReadyH.nil
          go_simp
          refine (C2.out _ _ _ _ _ _ _ HS1.out HPg.out.1 HPg.out.2).mono ?_
          rintro e q2 ⟨e1, e2, h1, h2, rfl, hA, hB', hO, hU⟩
          have hTa := HS1.out.T.un hU HD.out.t.2
          have HS2 : Hid (R10 w b0 du (du + 1) bo bt c2 c2 (.int .i64 r) (.int .i64 m) (.slice g1 n l1) (.slice g2 n l2) (.slice e1 n h1) (.slice e2 n h2) n FP FB FP FB ((q2.setCell ⟨bt, 0, none⟩ (.slice e1 n h1)).setCell ⟨bt, 1, none⟩ (.slice e2 n h2))) := HS1.out.stepV HD.out hU hA hB' hO.1 hO.2
          refine hK'.out _ _ (HS.un hU HD.out.b.2.1) (fun HS => ?_)
          clear hK' K' hA hB' hO hU HS1 HPg C2
          try simp only [Act.put, List.getElem_toArray, List.getElem_cons_succ, List.getElem_cons_zero, List.setIfInBounds_toArray, List.set_cons_zero, List.set_cons_succ]
          have t0 := hTa.c0
          have t1 := hTa.c1
          have f0 := hTa.f0
          have f1 := hTa.f1
          clear hTa
          refine wpAnyH_ready (rs := [9]) (by kernel_rfl) (by simp) ?_
          refine AllReadyH.cons rfl (fun K' hK' => ?_) AllReadyH.nil
          go_simp
          refine hK'.out _ _ HS2.out.X (fun HS => ?_)
          clear hK' K' t0 t1 f0 f1
          refine wpAnyH_done (by kernel_rfl) ?_ _
          clear HS
          generalize (q2.setCell ⟨bt, 0, none⟩ (.slice e1 n h1)).setCell ⟨bt, 1, none⟩ (.slice e2 n h2) = q3 at *
          go_upto_region 17 with fail
          have hbD : Below q3.heap.size q3 q3.drew := (Below.refl _ _).drew
          replace HS2 : Hid (R10 w b0 du (du + 1) bo bt c2 c2 (.int .i64 r) (.int .i64 m) (.slice g1 n l1) (.slice g2 n l2) (.slice e1 n h1) (.slice e2 n h2) n FP FB FP FB q3.drew) := HS2.out.later hbD
          refine wp_region_held_drew (S := K15 bo bt (du + 1) c2 (.slice g1 n l1) (.slice g2 n l2) (.slice e1 n h1) (.slice e2 n h2)) (by kernel_rfl) ⟨HS2.out.S.c0, HS2.out.S.c1, HS2.out.T.c0, HS2.out.T.c1, HS2.out.L.v.1⟩ (fun HS => ?_)
          clear hbD
          generalize q3.drew = q4 at *
          refine wpAnyH_take (i := 0) (v := ?_) rfl (by kernel_rfl) (by kernel_rfl) (by kernel_rfl) (fun _ _ _ h => h) (Or.inl ⟨by kernel_rfl, ?_⟩) HS ?_
          rotate_left
          · (rintro w ⟨n0, n1, t0, t1, v0⟩; go_simp) <;> with_reducible rfl
          try simp only [Act.put, List.getElem_toArray, List.getElem_cons_succ, List.getElem_cons_zero, List.setIfInBounds_toArray, List.set_cons_zero, List.set_cons_succ]
          refine wpAnyH_take (i := 1) (v := ?_) rfl (by kernel_rfl) (by kernel_rfl) (by kernel_rfl) (fun _ _ _ h => h) (Or.inl ⟨by kernel_rfl, ?_⟩) HS ?_
          rotate_left
          · (rintro w ⟨n0, n1, t0, t1, v0⟩; go_simp) <;> with_reducible rfl
          try simp only [Act.put, List.getElem_toArray, List.getElem_cons_succ, List.getElem_cons_zero, List.setIfInBounds_toArray, List.set_cons_zero, List.set_cons_succ]
          refine wpAnyH_take (i := 2) (v := ?_) rfl (by kernel_rfl) (by kernel_rfl) (by kernel_rfl) (fun _ _ _ h => h) (Or.inl ⟨by kernel_rfl, ?_⟩) HS ?_
          rotate_left
          · (rintro w ⟨n0, n1, t0, t1, v0⟩; go_simp) <;> with_reducible rfl
          try simp only [Act.put, List.getElem_toArray, List.getElem_cons_succ, List.getElem_cons_zero, List.setIfInBounds_toArray, List.set_cons_zero, List.set_cons_succ]
          refine wpAnyH_take (i := 3) (v := ?_) rfl (by kernel_rfl) (by kernel_rfl) (by kernel_rfl) (fun _ _ _ h => h) (Or.inl ⟨by kernel_rfl, ?_⟩) HS ?_
          rotate_left
          · (rintro w ⟨n0, n1, t0, t1, v0⟩; go_simp) <;> with_reducible rfl
          try simp only [Act.put, List.getElem_toArray, List.getElem_cons_succ, List.getElem_cons_zero, List.setIfInBounds_toArray, List.set_cons_zero, List.set_cons_succ]
          refine wpAnyH_take (i := 4) (v := ?_) rfl (by kernel_rfl) (by kernel_rfl) (by kernel_rfl) (fun _ _ _ h => h) (Or.inl ⟨by kernel_rfl, ?_⟩) HS ?_
          rotate_left
          · (rintro w ⟨n0, n1, t0, t1, v0⟩; go_simp) <;> with_reducible rfl
          try simp only [Act.put, List.getElem_toArray, List.getElem_cons_succ, List.getElem_cons_zero, List.setIfInBounds_toArray, List.set_cons_zero, List.set_cons_succ]
          refine wpAnyH_ready (rs := [5]) (by kernel_rfl) (by simp) ?_
          refine AllReadyH.cons rfl (fun K' hK' => ?_) AllReadyH.nil
          go_simp
          refine (CL.out _ _ _ _ _ FP FB HS2.out.a1 HS2.out.a2 HS2.out.b1 HS2.out.b2).mono ?_
          rintro e q5 ⟨rfl, hb⟩
          refine hK'.out _ _ (HS.later hb) (fun HS => ?_)
          clear hK' K'
          replace HS2 : Hid (R10 w b0 du (du + 1) bo bt c2 c2 (.int .i64 r) (.int .i64 m) (.slice g1 n l1) (.slice g2 n l2) (.slice e1 n h1) (.slice e2 n h2) n FP FB FP FB q5) := HS2.out.later hb
          clear hb
          try simp only [Act.put, List.getElem_toArray, List.getElem_cons_succ, List.getElem_cons_zero, List.setIfInBounds_toArray, List.set_cons_zero, List.set_cons_succ]
          refine wpAnyH_take (i := 6) (v := ?_) rfl (by kernel_rfl) (by kernel_rfl) (by kernel_rfl) (fun _ _ _ h => h) (Or.inl ⟨by kernel_rfl, ?_⟩) HS ?_
          rotate_left
          · (rintro w ⟨n0, n1, t0, t1, v0⟩; go_simp) <;> with_reducible rfl
          try simp only [Act.put, List.getElem_toArray, List.getElem_cons_succ, List.getElem_cons_zero, List.setIfInBounds_toArray, List.set_cons_zero, List.set_cons_succ]
          refine wpAnyH_take (i := 7) (v := ?_) rfl (by kernel_rfl) (by kernel_rfl) (by kernel_rfl) (fun _ _ _ h => h) (Or.inl ⟨by kernel_rfl, ?_⟩) HS ?_
          rotate_left
          · (rintro w ⟨n0, n1, t0, t1, v0⟩; go_simp) <;> with_reducible rfl
          try simp only [Act.put, List.getElem_toArray, List.getElem_cons_succ, List.getElem_cons_zero, List.setIfInBounds_toArray, List.set_cons_zero, List.set_cons_succ]
          refine wpAnyH_take (i := 8) (v := ?_) rfl (by kernel_rfl) (by kernel_rfl) (by kernel_rfl) (fun _ _ _ h => h) (Or.inl ⟨by kernel_rfl, ?_⟩) HS ?_
          rotate_left
          · (rintro w ⟨n0, n1, t0, t1, v0⟩; go_simp) <;> with_reducible rfl
          try simp only [Act.put, List.getElem_toArray, List.getElem_cons_succ, List.getElem_cons_zero, List.setIfInBounds_toArray, List.set_cons_zero, List.set_cons_succ]
          refine wpAnyH_take (i := 9) (v := ?_) rfl (by kernel_rfl) (by kernel_rfl) (by kernel_rfl) (fun _ _ _ h => h) (Or.inl ⟨by kernel_rfl, ?_⟩) HS ?_
          rotate_left
          · (rintro w ⟨n0, n1, t0, t1, v0⟩; go_simp) <;> with_reducible rfl
          try simp only [Act.put, List.getElem_toArray, List.getElem_cons_succ, List.getElem_cons_zero, List.setIfInBounds_toArray, List.set_cons_zero, List.set_cons_succ]
          refine wpAnyH_take (i := 11) (v := ?_) rfl (by kernel_rfl) (by kernel_rfl) (by kernel_rfl) (fun _ _ _ h => h) (Or.inl ⟨by kernel_rfl, ?_⟩) HS ?_
          rotate_left
          · (rintro w ⟨n0, n1, t0, t1, v0⟩; go_simp) <;> with_reducible rfl
          try simp only [Act.put, List.getElem_toArray, List.getElem_cons_succ, List.getElem_cons_zero, List.setIfInBounds_toArray, List.set_cons_zero, List.set_cons_succ]
          refine wpAnyH_take (i := 12) (v := ?_) rfl (by kernel_rfl) (by kernel_rfl) (by kernel_rfl) (fun _ _ _ h => h) (Or.inl ⟨by kernel_rfl, ?_⟩) HS ?_
          rotate_left
          · (rintro w ⟨n0, n1, t0, t1, v0⟩; go_simp) <;> with_reducible rfl
          try simp only [Act.put, List.getElem_toArray, List.getElem_cons_succ, List.getElem_cons_zero, List.setIfInBounds_toArray, List.set_cons_zero, List.set_cons_succ]
          refine wpAnyH_take (i := 13) (v := ?_) rfl (by kernel_rfl) (by kernel_rfl) (by kernel_rfl) (fun _ _ _ h => h) (Or.inl ⟨by kernel_rfl, ?_⟩) HS ?_
          rotate_left
          · (rintro w ⟨n0, n1, t0, t1, v0⟩; go_simp) <;> with_reducible rfl
          try simp only [Act.put, List.getElem_toArray, List.getElem_cons_succ, List.getElem_cons_zero, List.setIfInBounds_toArray, List.set_cons_zero, List.set_cons_succ]
          refine wpAnyH_take (i := 14) (v := ?_) rfl (by kernel_rfl) (by kernel_rfl) (by kernel_rfl) (fun _ _ _ h => h) (Or.inl ⟨by kernel_rfl, ?_⟩) HS ?_
          rotate_left
          · (rintro w ⟨n0, n1, t0, t1, v0⟩; go_simp) <;> with_reducible rfl
          try simp only [Act.put, List.getElem_toArray, List.getElem_cons_succ, List.getElem_cons_zero, List.setIfInBounds_toArray, List.set_cons_zero, List.set_cons_succ]
          refine wpAnyH_ready (rs := [10]) (by kernel_rfl) (by simp) ?_
          refine AllReadyH.cons rfl (fun K' hK' => ?_) AllReadyH.nil
          go_simp
          refine (count_any du c2 _ HS2.out.L.u.1).mono ?_
          rintro e q6 ⟨rfl, rfl⟩
          refine hK'.out _ _ HS (fun HS => ?_)
          clear hK' K'
          try simp only [Act.put, List.getElem_toArray, List.getElem_cons_succ, List.getElem_cons_zero, List.setIfInBounds_toArray, List.set_cons_zero, List.set_cons_succ]
          refine wpAnyH_take (i := 15) (v := ?_) rfl (by kernel_rfl) (by kernel_rfl) (by kernel_rfl) (fun _ _ _ h => h) (Or.inl ⟨by kernel_rfl, ?_⟩) HS ?_
          rotate_left
          · (rintro w ⟨n0, n1, t0, t1, v0⟩; go_simp) <;> with_reducible rfl
          try simp only [Act.put, List.getElem_toArray, List.getElem_cons_succ, List.getElem_cons_zero, List.setIfInBounds_toArray, List.set_cons_zero, List.set_cons_succ]
          refine wpAnyH_take (i := 16) (v := ?_) rfl (by kernel_rfl) (by kernel_rfl) (by kernel_rfl) (fun _ _ _ h => h) (Or.inl ⟨by kernel_rfl, ?_⟩) HS ?_
          rotate_left
          · (rintro w ⟨n0, n1, t0, t1, v0⟩; go_simp) <;> with_reducible rfl
          try simp only [Act.put, List.getElem_toArray, List.getElem_cons_succ, List.getElem_cons_zero, List.setIfInBounds_toArray, List.set_cons_zero, List.set_cons_succ]
          refine wpAnyH_done (by kernel_rfl) ?_ _
          clear HS
          go_wp2
          go_roundw
          case rel => exact ⟨j + 1, c2, FP, FB, g1, g2, e1, e2, l1, l2, h1, h2, by omega, by first | rfl | trivial, by go_num, HC2, HS2⟩
          case measure => simp [intOf]; omega
      · obtain rfl : j = K := by omega
        have hjI : ¬ (j : Int) < (j : Int) := by omega
        go_wp2
        go_ret
        exact ⟨rfl, HS0.out.L.B⟩
end Go.Proofs.Ytfcneciknldohaa
