/-
  AdamwSteps: any step, from any state, is the document's, number by number, and so is how many results were held.
-/
import Derived.Test.YtcdehbhdloaieaaGreatDoorABase
set_option linter.unusedVariables false
set_option linter.unusedSimpArgs false
namespace Go.Proofs.YtcdehbhdloaieaaGreatDoor
open Go.RowKit

theorem Q5w.later {b : Nat} {x0 x1 x2 x3 x4 : Value} {w w' : World} (h : Q5w b x0 x1 x2 x3 x4 w) (hb : Below w.heap.size w w') : Q5w b x0 x1 x2 x3 x4 w' := ⟨cell_later hb h.c0, cell_later hb h.c1, cell_later hb h.c2, cell_later hb h.c3, cell_later hb h.c4⟩
theorem Q5w.un {b : Nat} {x0 x1 x2 x3 x4 : Value} {w w' : World} {d : Nat} {c : Int} (h : Q5w b x0 x1 x2 x3 x4 w) (hU : Un d c w w') (hn : b ≠ d) : Q5w b x0 x1 x2 x3 x4 w' := ⟨hU.o _ _ hn h.c0, hU.o _ _ hn h.c1, hU.o _ _ hn h.c2, hU.o _ _ hn h.c3, hU.o _ _ hn h.c4⟩
theorem Q8.un {b : Nat} {x0 x1 x2 x3 x4 x5 x6 x7 : Value} {w w' : World} {d : Nat} {c : Int} (h : Q8 b x0 x1 x2 x3 x4 x5 x6 x7 w) (hU : Un d c w w') (hn : b ≠ d) : Q8 b x0 x1 x2 x3 x4 x5 x6 x7 w' := h.blk (hU.k b h.lt hn)
theorem Q8.far9 {b : Nat} {x0 x1 x2 x3 x4 x5 x6 x7 : Value} {w : World} (h : Q8 b x0 x1 x2 x3 x4 x5 x6 x7 w) (p : Addr) (u : Value) (hp : p.block ≠ b) : Q8 b x0 x1 x2 x3 x4 x5 x6 x7 (w.setCell p u) := h.blk (Below.heap_setCell _ _ _ _ (fun e => hp e.symm))
theorem Q5w.far9 {b : Nat} {x0 x1 x2 x3 x4 : Value} {w : World} (h : Q5w b x0 x1 x2 x3 x4 w) (p : Addr) (u : Value) (hp : p.block ≠ b) : Q5w b x0 x1 x2 x3 x4 (w.setCell p u) := ⟨cell_set hp h.c0, cell_set hp h.c1, cell_set hp h.c2, cell_set hp h.c3, cell_set hp h.c4⟩
/-- The law's state: two units, what the program answered. -/
structure G9 (w : World) (du dv bs : Nat) (cu cv : Int) (uM uV uP tT : Value) (n : Nat) (FM FV FY : Nat → Int) (W : World) : Prop where
  L : L2 w du dv cu cv W
  S : Y3 bs uM uV tT W
  a1 : Ar W uM n FM
  a2 : Ar W uV n FV
  a3 : Ar W uP n FY
theorem G9.later {w : World} {du dv bs : Nat} {cu cv : Int} {uM uV uP tT : Value} {n : Nat} {FM FV FY : Nat → Int} {W W' : World} (h : G9 w du dv bs cu cv uM uV uP tT n FM FV FY W) (hb : Below W.heap.size W W') : G9 w du dv bs cu cv uM uV uP tT n FM FV FY W' := ⟨h.L.later hb, h.S.later hb, h.a1.later hb, h.a2.later hb, h.a3.later hb⟩
theorem G9.unv {w : World} {du dv bs : Nat} {cu cv c : Int} {uM uV uP tT : Value} {n : Nat} {FM FV FY : Nat → Int} {W W' : World} (h : G9 w du dv bs cu cv uM uV uP tT n FM FV FY W) (hU : Un dv c W W') (hv : w.heap.size ≤ dv) (hne : du ≠ dv) (hbs : bs ≠ dv) (hn : Nb uM dv ∧ Nb uV dv ∧ Nb uP dv) : G9 w du dv bs cu c uM uV uP tT n FM FV FY W' := ⟨h.L.unv hU hv hne, h.S.un hU hbs, h.a1.un hn.1 hU, h.a2.un hn.2.1 hU, h.a3.un hn.2.2 hU⟩
/-- A block that has nothing to do with it. -/
def Fb9 (w : World) (du dv bs : Nat) (uM uV uP : Value) (bt : Nat) : Prop := (w.heap.size + 1 < bt ∧ bt ≠ du ∧ bt ≠ dv ∧ bt ≠ bs) ∧ Nb uM bt ∧ Nb uV bt ∧ Nb uP bt
theorem G9.fresh {w : World} {du dv bs : Nat} {cu cv : Int} {uM uV uP tT : Value} {n : Nat} {FM FV FY : Nat → Int} {W : World} (h : G9 w du dv bs cu cv uM uV uP tT n FM FV FY W) (hw : w.heap.size + 1 < W.heap.size) : Fb9 w du dv bs uM uV uP W.heap.size := by
  have h1 := World.block_lt_of_cell? _ _ h.L.u.1
  have h2 := World.block_lt_of_cell? _ _ h.L.v.1
  have h3 := h.S.lt
  dsimp only at h1 h2
  exact ⟨⟨hw, by omega, by omega, by omega⟩, h.a1.nb (Nat.le_refl _), h.a2.nb (Nat.le_refl _), h.a3.nb (Nat.le_refl _)⟩
theorem Uc.far9 {w : World} {d : Nat} {c : Int} (h : Uc w d c) (p : Addr) (u : Value) (hp : p.block ≠ d) : Uc (w.setCell p u) d c := ⟨cell_set hp h.1, by rw [World.frozen?_setCell]; exact h.2⟩
theorem G9.set {w : World} {du dv bs : Nat} {cu cv : Int} {uM uV uP tT : Value} {n : Nat} {FM FV FY : Nat → Int} {W : World} (h : G9 w du dv bs cu cv uM uV uP tT n FM FV FY W) {bt : Nat} (hf : Fb9 w du dv bs uM uV uP bt) (i : Nat) (u : Value) : G9 w du dv bs cu cv uM uV uP tT n FM FV FY (W.setCell ⟨bt, i, none⟩ u) :=
  ⟨⟨h.L.B.setCell (by have := hf.1.1; dsimp only; omega) u, h.L.u.far9 _ _ hf.1.2.1, h.L.v.far9 _ _ hf.1.2.2.1⟩, h.S.far _ _ hf.1.2.2.2, h.a1.set9 _ _ hf.2.1, h.a2.set9 _ _ hf.2.2.1, h.a3.set9 _ _ hf.2.2.2⟩
theorem units9 {w w' : World} (hW : Below w.heap.size w w') (t t' : TypeId) : L2 w w'.heap.size (w'.heap.size + 1) 0 0 ((w'.alloc (.cells #[.int .i64 0] t)).alloc (.cells #[.int .i64 0] t')) := by
  refine ⟨bchain hW (bel2 _ _ _), ⟨?_, ?_⟩, ⟨?_, ?_⟩⟩
  all_goals simp [go_sem]
set_option maxRecDepth 100000 in
set_option maxHeartbeats 16000000 in
theorem adamwSteps_any (V1 : Adw1) (hAw : Aw9) (B W : Int) (vD : Value) (nD : Nat) (at' fa : Nat → Int) (b1 b2 ep dc cl T : Int) (vM vV vP vG : Value) (nM nV nP nG : Nat) (M V P G : Nat → Int) (w : World) (hD : Drp w vD nD at' fa) (hM : Ar w vM nM M) (hV : Ar w vV nV V) (hP : Ar w vP nP P) (hG : Ar w vG nG G) (hbd : bd9 B ep dc cl) (hT : AT w) :
    Calls Tryz.prog 3 #[.agg #[.int .i64 B, .int .i64 W, vD, .int .i64 b1, .int .i64 b2, .int .i64 ep, .int .i64 dc, .int .i64 cl], .agg #[vM, vV, .int .i64 T, vP, vG]] w fun e w' => e = .returned (.bool true) ∧ Below w.heap.size w w' := by
  have HAll : Hid (Drp w vD nD at' fa ∧ Ar w vM nM M ∧ Ar w vV nV V ∧ Ar w vP nP P ∧ Ar w vG nG G ∧ AT w ∧ bd9 B ep dc cl) := ⟨hD, hM, hV, hP, hG, hT, hbd⟩
  have CA : Hid (∀ W' : World, Below w.heap.size w W' → Calls Tryz.prog 5 #[] W' fun e w' => e = .returned (.bool true) ∧ Below W'.heap.size W' w') := fun W' hb => hAw W' (hT.later hb)
  obtain ⟨adD, caD, bD, oD, rfl, d1, d2, -, -⟩ := id hD
  obtain ⟨adM, caM, bM, oM, rfl, m1, m2, -, -⟩ := id hM
  obtain ⟨adV, caV, bV, oV, rfl, v1, v2, -, -⟩ := id hV
  obtain ⟨adP, caP, bP, oP, rfl, p1, p2, -, -⟩ := id hP
  obtain ⟨adG, caG, bG, oG, rfl, g1, g2, -, -⟩ := id hG
  unfold maxLen at d2 m2 v2 p2 g2
  have CI : Hid (nD ≤ 1000 → ∀ W' : World, Below w.heap.size w W' → Calls Tryz.prog 8 #[.agg #[.int .i64 B, .int .i64 W, .slice adD nD caD, .int .i64 b1, .int .i64 b2, .int .i64 ep, .int .i64 dc, .int .i64 cl]] W' fun e w' => ∃ v', e = .returned (.agg #[.int .i64 B, .int .i64 W, v', .int .i64 b1, .int .i64 b2, .int .i64 ep, .int .i64 dc, .int .i64 cl]) ∧ Drp w' v' nD at' fa ∧ Below W'.heap.size W' w') := fun hn W' hb => inner9_any B W _ nD at' fa b1 b2 ep dc cl hn W' (hD.later hb)
  obtain ⟨w1, hw1⟩ : ∃ w1, w1 = (w.alloc (.cells #[.int .i64 B, .int .i64 W, .slice adD nD caD, .int .i64 b1, .int .i64 b2, .int .i64 ep, .int .i64 dc, .int .i64 cl] 27)).alloc (.cells #[.slice adM nM caM, .slice adV nV caV, .int .i64 T, .slice adP nP caP, .slice adG nG caG] 32) := ⟨_, rfl⟩
  have HB1 : Hid (Below w.heap.size w w1) := by rw [hw1]; exact bel2 _ _ _
  have HX : Q8 w.heap.size (.int .i64 B) (.int .i64 W) (.slice adD nD caD) (.int .i64 b1) (.int .i64 b2) (.int .i64 ep) (.int .i64 dc) (.int .i64 cl) w1 := by rw [hw1]; exact (Q8.new w _ _ _ _ _ _ _ _ _).later (bel1 _ _)
  have HN : Q5w (w.heap.size + 1) (.slice adM nM caM) (.slice adV nV caV) (.int .i64 T) (.slice adP nP caP) (.slice adG nG caG) w1 := by rw [hw1]; exact ⟨by simp [go_sem], by simp [go_sem], by simp [go_sem], by simp [go_sem], by simp [go_sem]⟩
  clear hD hM hV hP hG hT hbd hAw
  go_enter Tryz.func3, Tryz.ntmps3
  go_upto_region 1 with fail
  rw [← hw1]
  clear hw1
  go_wp2_with fail
  refine (CA.out _ HB1.out).mono ?_
  rintro e w2 ⟨rfl, hb⟩
  have HB2 : Hid (Below w.heap.size w w2) := bchain HB1.out hb
  replace HX := HX.later hb
  replace HN := HN.later hb
  clear hb CA HB1
  have x2 := HX.c2
  have y0 := HN.c0
  have y1 := HN.c1
  have y2 := HN.c2
  have y3 := HN.c3
  have y4 := HN.c4
  by_cases hnD : 40 < nD
  · have hnI : (40 : Int) < (nD : Int) := by omega
    go_wp2
    go_ret
    exact ⟨rfl, HB2.out⟩
  have hnI : ¬ (40 : Int) < (nD : Int) := by omega
  have CI2 := CI.out (by omega)
  have CI3 : Hid (∀ W' : World, Below w.heap.size w W' → Calls Tryz.prog 8 #[.agg #[.int .i64 B, .int .i64 W, .slice adD nD caD, .int .i64 b1, .int .i64 b2, .int .i64 ep, .int .i64 dc, .int .i64 cl]] W' fun e w' => ∃ v', e = .returned (.agg #[.int .i64 B, .int .i64 W, v', .int .i64 b1, .int .i64 b2, .int .i64 ep, .int .i64 dc, .int .i64 cl]) ∧ Drp w' v' nD at' fa ∧ Below W'.heap.size W' w') := CI2
  clear CI CI2
  go_wp2_with fail
  refine (few9_any adM adV adP adG nM nV nP nG caM caV caP caG T _).mono ?_
  rintro e w3 ⟨hTl, hb⟩
  have HB3 : Hid (Below w.heap.size w w3) := bchain HB2.out hb
  replace HX := HX.later hb
  replace HN := HN.later hb
  clear hb HB2 x2 y0 y1 y2 y3 y4
  by_cases hfw : fw9 nM nV nP nG T
  · have e0 := hTl.yes hfw
    subst e0
    obtain ⟨⟨hn1, hn2, hn3, hn4⟩, hTT⟩ := hfw
    clear hTl
    obtain ⟨w5, hw5⟩ : ∃ w5, w5 = (w3.alloc (.cells #[.int .i64 0] 38)).alloc (.cells #[.int .i64 0] 41) := ⟨_, rfl⟩
    have HL5 : Hid (L2 w w3.heap.size (w3.heap.size + 1) 0 0 w5) := by rw [hw5]; exact units9 HB3.out _ _
    have HX5 : Q8 w.heap.size (.int .i64 B) (.int .i64 W) (.slice adD nD caD) (.int .i64 b1) (.int .i64 b2) (.int .i64 ep) (.int .i64 dc) (.int .i64 cl) w5 := by rw [hw5]; exact (HX.later (bel1 _ _)).later (bel1 _ _)
    have HN5 : Q5w (w.heap.size + 1) (.slice adM nM caM) (.slice adV nV caV) (.int .i64 T) (.slice adP nP caP) (.slice adG nG caG) w5 := by rw [hw5]; exact (HN.later (bel1 _ _)).later (bel1 _ _)
    have hs5 : w5.heap.size = w3.heap.size + 1 + 1 := by rw [hw5]; simp only [World.size_alloc]
    have hs4 : w.heap.size + 1 < w3.heap.size := World.block_lt_of_cell? _ _ HN.c0
    go_upto_region 6 with fail
    rw [← hw5]
    obtain ⟨du, hdu⟩ : ∃ du, w3.heap.size = du := ⟨_, rfl⟩
    obtain ⟨dv, hdv⟩ : ∃ dv, du + 1 = dv := ⟨_, rfl⟩
    rw [hdu] at HL5 hs5 hs4
    rw [hdv] at HL5
    try simp only [hdu, hdv]
    have hne : du ≠ dv := by omega
    have hdu0 : w.heap.size ≤ du := by omega
    have hdv0 : w.heap.size ≤ dv := by omega
    have hwu : w.heap.size ≠ du := by omega
    have hwu1 : w.heap.size + 1 ≠ du := by omega
    have hwv : w.heap.size ≠ dv := by omega
    have hwv1 : w.heap.size + 1 ≠ dv := by omega
    clear hw5 hdu hdv HB3 HX HN
    have x0 := HX5.c0
    have x1 := HX5.c1
    have x2 := HX5.c2
    have x3 := HX5.c3
    have x4 := HX5.c4
    have x5 := HX5.c5
    have x6 := HX5.c6
    have x7 := HX5.c7
    have y0 := HN5.c0
    have y1 := HN5.c1
    have y2 := HN5.c2
    have y3 := HN5.c3
    have y4 := HN5.c4
    have hln : lnP nM nV nP nG := ⟨by omega, by omega, by omega, by omega⟩
    by_cases hg : stG (InR9 B W nD at' fa b1 b2 ep dc cl) nM nV nP nG T
    · obtain ⟨hI, -, ⟨q1, q2, q3⟩, T0, T1⟩ := hg
      have q1' := q1.symm
      have q2' := q2.symm
      have q3' := q3.symm
      clear q1 q2 q3
      subst q1'
      subst q2'
      subst q3'
      have HI0 : Hid (InR9 B W nD at' fa b1 b2 ep dc cl) := hI
      have hTa : ¬ T < 0 := by omega
      have hTb : ¬ 1048576 ≤ T := by omega
      have CF := V1.stepU B W _ nD at' fa b1 b2 ep dc cl T _ _ _ _ nP M V P G du 0 w5 hI HAll.out.2.2.2.2.2.2 T0 T1 (by omega) (by omega) (by omega) (HAll.out.1.later HL5.out.B) (HAll.out.2.1.later HL5.out.B) (HAll.out.2.2.1.later HL5.out.B) (HAll.out.2.2.2.1.later HL5.out.B) (HAll.out.2.2.2.2.1.later HL5.out.B) (HAll.out.2.1.nb hdu0) (HAll.out.2.2.1.nb hdu0) (HAll.out.2.2.2.1.nb hdu0) (HAll.out.2.2.2.2.1.nb hdu0) HL5.out.u (HAll.out.2.2.2.2.2.1.later HL5.out.B)
      have CSt : Hid (∀ (W' : World) (v8 sM sV pP pG : Value), Drp W' v8 nD at' fa → Ar W' sM nP M → Ar W' sV nP V → Ar W' pP nP P → Ar W' pG nP G → Nb sM dv → Nb sV dv → Nb pP dv → Nb pG dv → Uc W' dv 0 → Calls Tryz.prog 11 #[.pointer (some ⟨dv, 0, none⟩), .agg #[.int .i64 B, .int .i64 W, v8, .int .i64 b1, .int .i64 b2, .int .i64 ep, .int .i64 dc, .int .i64 cl], .agg #[sM, sV, .int .i64 T], pP, pG] W' fun e w' => ∃ uM uV uP, e = .returned (.tuple #[.agg #[uM, uV, .int .i64 (T + 1)], uP]) ∧ Ar w' uM nP (fun i => aM (stpV B W nD at' fa b1 b2 ep dc (T + 1)) (M i) (cpF cl nP G i)) ∧ Ar w' uV nP (fun i => aV (stpV B W nD at' fa b1 b2 ep dc (T + 1)) (V i) (cpF cl nP G i)) ∧ Ar w' uP nP (fun i => aY (stpV B W nD at' fa b1 b2 ep dc (T + 1)) (M i) (V i) (P i) (cpF cl nP G i)) ∧ (Ow W'.heap.size uM ∧ Ow W'.heap.size uV ∧ Ow W'.heap.size uP) ∧ Un dv (0 + (cpN cl nP G + aS (stpV B W nD at' fa b1 b2 ep dc (T + 1)) M V P (cpF cl nP G) nP)) W' w') := fun W' v8 sM sV pP pG h1 h2 h3 h4 h5 h6 h7 h8 h9 h10 => refStep_any B W v8 nD at' fa b1 b2 ep dc cl T sM sV pP pG nP M V P G dv 0 HI0.out HAll.out.2.2.2.2.2.2.1 HAll.out.2.2.2.2.2.2.2.1 HAll.out.2.2.2.2.2.2.2.2.1 HAll.out.2.2.2.2.2.2.2.2.2 T0 T1 (by omega) (by omega) (by omega) W' h1 h2 h3 h4 h5 h6 h7 h8 h9 h10.1 h10.2
      have CSs : Hid (∀ W' : World, Below w.heap.size w W' → Calls Tryz.prog 12 #[.agg #[.slice adM nP caM, .slice adV nP caV, .int .i64 T]] W' fun e w' => ∃ uM uV, e = .returned (.agg #[uM, uV, .int .i64 T]) ∧ Ar w' uM nP M ∧ Ar w' uV nP V ∧ Ow W'.heap.size uM ∧ Ow W'.heap.size uV ∧ Below W'.heap.size W' w') := fun W' hb => state9_any _ _ nP nP M V T (by omega) (by omega) W' (HAll.out.2.1.later hb) (HAll.out.2.2.1.later hb)
      have CPp : Hid (∀ W' : World, Below w.heap.size w W' → Calls Tryz.prog 13 #[.slice adP nP caP] W' fun e w' => ∃ v', e = .returned v' ∧ Ar w' v' nP P ∧ Ow W'.heap.size v' ∧ Below W'.heap.size W' w') := fun W' hb => plain9_any _ nP P (by omega) W' (HAll.out.2.2.2.1.later hb)
      have CPg : Hid (∀ W' : World, Below w.heap.size w W' → Calls Tryz.prog 13 #[.slice adG nP caG] W' fun e w' => ∃ v', e = .returned v' ∧ Ar w' v' nP G ∧ Ow W'.heap.size v' ∧ Below W'.heap.size W' w') := fun W' hb => plain9_any _ nP G (by omega) W' (HAll.out.2.2.2.2.1.later hb)
      have CPl : Hid (∀ (W' : World) (v : Value) (f : Nat → Int), Ar W' v nP f → Calls Tryz.prog 13 #[v] W' fun e w' => ∃ v', e = .returned v' ∧ Ar w' v' nP f ∧ Ow W'.heap.size v' ∧ Below W'.heap.size W' w') := fun W' v f h => plain9_any v nP f (by omega) W' h
      generalize (fun i => aM (stpV B W nD at' fa b1 b2 ep dc (T + 1)) (M i) (cpF cl nP G i)) = FM at *
      generalize (fun i => aV (stpV B W nD at' fa b1 b2 ep dc (T + 1)) (V i) (cpF cl nP G i)) = FV at *
      generalize (fun i => aY (stpV B W nD at' fa b1 b2 ep dc (T + 1)) (M i) (V i) (P i) (cpF cl nP G i)) = FY at *
      generalize 0 + (cpN cl nP G + aS (stpV B W nD at' fa b1 b2 ep dc (T + 1)) M V P (cpF cl nP G) nP) = cc at *
      go_wp2_with fail
      refine CF.mono ?_
      rintro e w6 ⟨uM, uV, uP, rfl, hA1, hA2, hA3, ⟨hO1, hO2, hO3⟩, hU⟩
      have hdv5 : dv < w5.heap.size := World.block_lt_of_cell? _ _ HL5.out.v.1
      have HUn : Hid (Nb uM dv ∧ Nb uV dv ∧ Nb uP dv) := ⟨hO1.nb hdv5, hO2.nb hdv5, hO3.nb hdv5⟩
      have hL6 := HL5.out.unu hU hdu0 hne
      obtain ⟨w7, hw7⟩ : ∃ w7, w7 = w6.alloc (.cells #[uM, uV, .int .i64 (T + 1)] 30) := ⟨_, rfl⟩
      obtain ⟨adu, cau, bu, ou, rfl, -, -, -, -⟩ := id hA1
      obtain ⟨adw, caw, bw, ow, rfl, -, -, -, -⟩ := id hA2
      obtain ⟨ady, cay, by', oy, rfl, -, -, -, -⟩ := id hA3
      have HL7 : Hid (L2 w du dv cc 0 w7) := by rw [hw7]; exact hL6.later (bel1 _ _)
      have HX7 : Q8 w.heap.size (.int .i64 B) (.int .i64 W) (.slice adD nD caD) (.int .i64 b1) (.int .i64 b2) (.int .i64 ep) (.int .i64 dc) (.int .i64 cl) w7 := by rw [hw7]; exact (HX5.un hU hwu).later (bel1 _ _)
      have HN7 : Q5w (w.heap.size + 1) (.slice adM nP caM) (.slice adV nP caV) (.int .i64 T) (.slice adP nP caP) (.slice adG nP caG) w7 := by rw [hw7]; exact (HN5.un hU hwu1).later (bel1 _ _)
      have HS7 : Hid (Y3 w6.heap.size (.slice adu nP cau) (.slice adw nP caw) (.int .i64 (T + 1)) w7) := by rw [hw7]; exact Y3.new _ _ _ _ _
      have HU7 : Hid (Ar w7 (.slice adu nP cau) nP FM ∧ Ar w7 (.slice adw nP caw) nP FV ∧ Ar w7 (.slice ady nP cay) nP FY) := by rw [hw7]; exact ⟨hA1.later (bel1 _ _), hA2.later (bel1 _ _), hA3.later (bel1 _ _)⟩
      have hdv6 : dv < w6.heap.size := World.block_lt_of_cell? _ _ hL6.v.1
      clear hU CF HX5 HN5 HL5 hL6 hA1 hA2 hA3 hO1 hO2 hO3 hdv5 x0 x1 x2 x3 x4 x5 x6 x7 y0 y1 y2 y3 y4 hTT hln hI
      go_upto_region 7 with fail
      rw [← hw7]
      clear hw7
      obtain ⟨bs, hbs⟩ : ∃ bs, w6.heap.size = bs := ⟨_, rfl⟩
      rw [hbs] at HS7 hdv6
      try simp only [hbs]
      clear hbs
      have hbsv : bs ≠ dv := by omega
      have x0 := HX7.c0
      have x1 := HX7.c1
      have x2 := HX7.c2
      have x3 := HX7.c3
      have x4 := HX7.c4
      have x5 := HX7.c5
      have x6 := HX7.c6
      have x7 := HX7.c7
      go_wp2_with fail
      refine (CI3.out _ HL7.out.B).mono ?_
      rintro e w8 ⟨v8, rfl, hD8, hb⟩
      obtain ⟨ad8, ca8, b8, o8, rfl, -, -, -, -⟩ := id hD8
      have HL8 : Hid (L2 w du dv cc 0 w8) := HL7.out.later hb
      have HS8 : Hid (Y3 bs (.slice adu nP cau) (.slice adw nP caw) (.int .i64 (T + 1)) w8) := HS7.out.later hb
      have HU8 : Hid (Ar w8 (.slice adu nP cau) nP FM ∧ Ar w8 (.slice adw nP caw) nP FV ∧ Ar w8 (.slice ady nP cay) nP FY) := ⟨HU7.out.1.later hb, HU7.out.2.1.later hb, HU7.out.2.2.later hb⟩
      replace HX7 := HX7.later hb
      replace HN7 := HN7.later hb
      clear hb HL7 HS7 HU7 x0 x1 x2 x3 x4 x5 x6 x7
      go_wp2_with fail
      refine (refInner_any B W _ nD at' fa b1 b2 ep dc cl _ hD8).mono ?_
      rintro e w9 ⟨hTl, hb⟩
      have e0 := hTl.yes HI0.out
      subst e0
      have HL9 : Hid (L2 w du dv cc 0 w9) := HL8.out.later hb
      have HS9 : Hid (Y3 bs (.slice adu nP cau) (.slice adw nP caw) (.int .i64 (T + 1)) w9) := HS8.out.later hb
      have HU9 : Hid (Ar w9 (.slice adu nP cau) nP FM ∧ Ar w9 (.slice adw nP caw) nP FV ∧ Ar w9 (.slice ady nP cay) nP FY) := ⟨HU8.out.1.later hb, HU8.out.2.1.later hb, HU8.out.2.2.later hb⟩
      replace HX7 := HX7.later hb
      replace HN7 := HN7.later hb
      clear hb hD8 HL8 HS8 HU8 hTl
      have y0 := HN7.c0
      have y1 := HN7.c1
      have y2 := HN7.c2
      have y3 := HN7.c3
      have y4 := HN7.c4
      go_upto_region 16 with fail
      clear y0 y1 y2 y3 y4
      go_cut [11, 12] (fun s11 s12 wc => ∃ (bt : Nat) (a1 a2 a3 : Option Addr) (k1 k2 k3 : Nat), s11 = .pointer (some ⟨bt, 0, none⟩) ∧ s12 = .slice a3 nP k3 ∧ Hid (Y3 bt (.slice a1 nP k1) (.slice a2 nP k2) (.int .i64 (T + 1)) wc ∧ Ar wc (.slice a1 nP k1) nP FM ∧ Ar wc (.slice a2 nP k2) nP FV ∧ Ar wc (.slice a3 nP k3) nP FY) ∧ Hid (G9 w du dv bs cc cc (.slice adu nP cau) (.slice adw nP caw) (.slice ady nP cay) (.int .i64 (T + 1)) nP FM FV FY wc))
      case first =>
        have hbD : Below w9.heap.size w9 w9.drew := (Below.refl _ _).drew
        have HG : Hid (G9 w du dv bs cc 0 (.slice adu nP cau) (.slice adw nP caw) (.slice ady nP cay) (.int .i64 (T + 1)) nP FM FV FY w9.drew) := ⟨HL9.out.later hbD, HS9.out.later hbD, HU9.out.1.later hbD, HU9.out.2.1.later hbD, HU9.out.2.2.later hbD⟩
        refine wp_region_held_drew (S := fun W' => Q8 w.heap.size (.int .i64 B) (.int .i64 W) (.slice adD nD caD) (.int .i64 b1) (.int .i64 b2) (.int .i64 ep) (.int .i64 dc) (.int .i64 cl) W' ∧ Q5w (w.heap.size + 1) (.slice adM nP caM) (.slice adV nP caV) (.int .i64 T) (.slice adP nP caP) (.slice adG nP caG) W') (by kernel_rfl) ⟨HX7.later hbD, HN7.later hbD⟩ (fun HS => ?_)
        clear hbD HL9 HS9 HU9 HX7 HN7
        generalize w9.drew = q0 at *
        refine wpAnyH_take (i := 0) (v := ?_) rfl (by kernel_rfl) (by kernel_rfl) (by kernel_rfl) (fun _ _ _ h => h) (Or.inl ⟨by kernel_rfl, ?_⟩) HS ?_
        rotate_left
        · (rintro w ⟨⟨x0, x1, x2, x3, x4, x5, x6, x7⟩, ⟨y0, y1, y2, y3, y4⟩⟩; go_simp) <;> with_reducible rfl
        try simp only [Act.put, List.getElem_toArray, List.getElem_cons_succ, List.getElem_cons_zero, List.setIfInBounds_toArray, List.set_cons_zero, List.set_cons_succ]
        refine wpAnyH_take (i := 1) (v := ?_) rfl (by kernel_rfl) (by kernel_rfl) (by kernel_rfl) (fun _ _ _ h => h) (Or.inl ⟨by kernel_rfl, ?_⟩) HS ?_
        rotate_left
        · (rintro w ⟨⟨x0, x1, x2, x3, x4, x5, x6, x7⟩, ⟨y0, y1, y2, y3, y4⟩⟩; go_simp) <;> with_reducible rfl
        try simp only [Act.put, List.getElem_toArray, List.getElem_cons_succ, List.getElem_cons_zero, List.setIfInBounds_toArray, List.set_cons_zero, List.set_cons_succ]
        refine wpAnyH_take (i := 3) (v := ?_) rfl (by kernel_rfl) (by kernel_rfl) (by kernel_rfl) (fun _ _ _ h => h) (Or.inl ⟨by kernel_rfl, ?_⟩) HS ?_
        rotate_left
        · (rintro w ⟨⟨x0, x1, x2, x3, x4, x5, x6, x7⟩, ⟨y0, y1, y2, y3, y4⟩⟩; go_simp) <;> with_reducible rfl
        try simp only [Act.put, List.getElem_toArray, List.getElem_cons_succ, List.getElem_cons_zero, List.setIfInBounds_toArray, List.set_cons_zero, List.set_cons_succ]
        refine wpAnyH_take (i := 4) (v := ?_) rfl (by kernel_rfl) (by kernel_rfl) (by kernel_rfl) (fun _ _ _ h => h) (Or.inl ⟨by kernel_rfl, ?_⟩) HS ?_
        rotate_left
        · (rintro w ⟨⟨x0, x1, x2, x3, x4, x5, x6, x7⟩, ⟨y0, y1, y2, y3, y4⟩⟩; go_simp) <;> with_reducible rfl
        try simp only [Act.put, List.getElem_toArray, List.getElem_cons_succ, List.getElem_cons_zero, List.setIfInBounds_toArray, List.set_cons_zero, List.set_cons_succ]
        refine wpAnyH_take (i := 6) (v := ?_) rfl (by kernel_rfl) (by kernel_rfl) (by kernel_rfl) (fun _ _ _ h => h) (Or.inl ⟨by kernel_rfl, ?_⟩) HS ?_
        rotate_left
        · (rintro w ⟨⟨x0, x1, x2, x3, x4, x5, x6, x7⟩, ⟨y0, y1, y2, y3, y4⟩⟩; go_simp) <;> with_reducible rfl
        try simp only [Act.put, List.getElem_toArray, List.getElem_cons_succ, List.getElem_cons_zero, List.setIfInBounds_toArray, List.set_cons_zero, List.set_cons_succ]
        refine wpAnyH_take (i := 7) (v := ?_) rfl (by kernel_rfl) (by kernel_rfl) (by kernel_rfl) (fun _ _ _ h => h) (Or.inl ⟨by kernel_rfl, ?_⟩) HS ?_
        rotate_left
        · (rintro w ⟨⟨x0, x1, x2, x3, x4, x5, x6, x7⟩, ⟨y0, y1, y2, y3, y4⟩⟩; go_simp) <;> with_reducible rfl
        try simp only [Act.put, List.getElem_toArray, List.getElem_cons_succ, List.getElem_cons_zero, List.setIfInBounds_toArray, List.set_cons_zero, List.set_cons_succ]
        refine wpAnyH_take (i := 9) (v := ?_) rfl (by kernel_rfl) (by kernel_rfl) (by kernel_rfl) (fun _ _ _ h => h) (Or.inl ⟨by kernel_rfl, ?_⟩) HS ?_
        rotate_left
        · (rintro w ⟨⟨x0, x1, x2, x3, x4, x5, x6, x7⟩, ⟨y0, y1, y2, y3, y4⟩⟩; go_simp) <;> with_reducible rfl
        try simp only [Act.put, List.getElem_toArray, List.getElem_cons_succ, List.getElem_cons_zero, List.setIfInBounds_toArray, List.set_cons_zero, List.set_cons_succ]
        refine wpAnyH_take (i := 10) (v := ?_) rfl (by kernel_rfl) (by kernel_rfl) (by kernel_rfl) (fun _ _ _ h => h) (Or.inl ⟨by kernel_rfl, ?_⟩) HS ?_
        rotate_left
        · (rintro w ⟨⟨x0, x1, x2, x3, x4, x5, x6, x7⟩, ⟨y0, y1, y2, y3, y4⟩⟩; go_simp) <;> with_reducible rfl
        try simp only [Act.put, List.getElem_toArray, List.getElem_cons_succ, List.getElem_cons_zero, List.setIfInBounds_toArray, List.set_cons_zero, List.set_cons_succ]
        refine wpAnyH_ready (rs := [2, 16]) (by kernel_rfl) (by simp) ?_
        refine AllReadyH.cons rfl (fun K hK => ?_) (AllReadyH.cons rfl (fun K hK => ?_) AllReadyH.nil)
        · go_simp
          refine (CI3.out _ HG.out.L.B).mono ?_
          rintro e q1 ⟨v9, rfl, hD9, hb⟩
          obtain ⟨ad9, ca9, b9, o9, rfl, -, -, -, -⟩ := id hD9
          refine hK.out _ _ ⟨HS.1.later hb, HS.2.later hb⟩ (fun HS => ?_)
          clear hK K
          replace HG : Hid (G9 w du dv bs cc 0 (.slice adu nP cau) (.slice adw nP caw) (.slice ady nP cay) (.int .i64 (T + 1)) nP FM FV FY q1) := HG.out.later hb
          have HIn : Hid (Drp q1 (.slice ad9 nD ca9) nD at' fa) := hD9
          clear hb hD9
          refine wpAnyH_ready (rs := [5, 16]) (by kernel_rfl) (by simp) ?_
          refine AllReadyH.cons rfl (fun K hK => ?_) (AllReadyH.cons rfl (fun K hK => ?_) AllReadyH.nil)
          · go_simp
            refine (CSs.out _ HG.out.L.B).mono ?_
            rintro e q2 ⟨t1, t2, rfl, hA1, hA2, hO1, hO2, hb⟩
            have HSn : Hid (Nb t1 dv ∧ Nb t2 dv) := ⟨hO1.nb (World.block_lt_of_cell? _ _ HG.out.L.v.1), hO2.nb (World.block_lt_of_cell? _ _ HG.out.L.v.1)⟩
            obtain ⟨c1, l1, m1', n1', rfl, -, -, -, -⟩ := id hA1
            obtain ⟨c2, l2, m2', n2', rfl, -, -, -, -⟩ := id hA2
            refine hK.out _ _ ⟨HS.1.later hb, HS.2.later hb⟩ (fun HS => ?_)
            clear hK K
            replace HG : Hid (G9 w du dv bs cc 0 (.slice adu nP cau) (.slice adw nP caw) (.slice ady nP cay) (.int .i64 (T + 1)) nP FM FV FY q2) := HG.out.later hb
            replace HIn : Hid (Drp q2 (.slice ad9 nD ca9) nD at' fa) := HIn.out.later hb
            have HSt : Hid (Ar q2 (.slice c1 nP l1) nP M ∧ Ar q2 (.slice c2 nP l2) nP V) := ⟨hA1, hA2⟩
            clear hb hA1 hA2 hO1 hO2
            refine wpAnyH_ready (rs := [8, 16]) (by kernel_rfl) (by simp) ?_
            refine AllReadyH.cons rfl (fun K hK => ?_) (AllReadyH.cons rfl (fun K hK => ?_) AllReadyH.nil)
            · go_simp
              refine (CPp.out _ HG.out.L.B).mono ?_
              rintro e q3 ⟨t1, rfl, hA1, hO1, hb⟩
              have HPpn : Hid (Nb t1 dv) := hO1.nb (World.block_lt_of_cell? _ _ HG.out.L.v.1)
              obtain ⟨c3, l3, m1', n1', rfl, -, -, -, -⟩ := id hA1
              refine hK.out _ _ ⟨HS.1.later hb, HS.2.later hb⟩ (fun HS => ?_)
              clear hK K
              replace HG : Hid (G9 w du dv bs cc 0 (.slice adu nP cau) (.slice adw nP caw) (.slice ady nP cay) (.int .i64 (T + 1)) nP FM FV FY q3) := HG.out.later hb
              replace HIn : Hid (Drp q3 (.slice ad9 nD ca9) nD at' fa) := HIn.out.later hb
              replace HSt : Hid (Ar q3 (.slice c1 nP l1) nP M ∧ Ar q3 (.slice c2 nP l2) nP V) := ⟨HSt.out.1.later hb, HSt.out.2.later hb⟩
              have HPp : Hid (Ar q3 (.slice c3 nP l3) nP P) := hA1
              clear hb hA1 hO1
              refine wpAnyH_ready (rs := [11, 16]) (by kernel_rfl) (by simp) ?_
              refine AllReadyH.cons rfl (fun K hK => ?_) (AllReadyH.cons rfl (fun K hK => ?_) AllReadyH.nil)
              · go_simp
                refine (CPg.out _ HG.out.L.B).mono ?_
                rintro e q4 ⟨t1, rfl, hA1, hO1, hb⟩
                have HPgn : Hid (Nb t1 dv) := hO1.nb (World.block_lt_of_cell? _ _ HG.out.L.v.1)
                obtain ⟨c4, l4, m1', n1', rfl, -, -, -, -⟩ := id hA1
                refine hK.out _ _ ⟨HS.1.later hb, HS.2.later hb⟩ (fun HS => ?_)
                clear hK K
                replace HG : Hid (G9 w du dv bs cc 0 (.slice adu nP cau) (.slice adw nP caw) (.slice ady nP cay) (.int .i64 (T + 1)) nP FM FV FY q4) := HG.out.later hb
                replace HIn : Hid (Drp q4 (.slice ad9 nD ca9) nD at' fa) := HIn.out.later hb
                replace HSt : Hid (Ar q4 (.slice c1 nP l1) nP M ∧ Ar q4 (.slice c2 nP l2) nP V) := ⟨HSt.out.1.later hb, HSt.out.2.later hb⟩
                replace HPp : Hid (Ar q4 (.slice c3 nP l3) nP P) := HPp.out.later hb
                have HPg : Hid (Ar q4 (.slice c4 nP l4) nP G) := hA1
                clear hb hA1 hO1
                refine wpAnyH_ready (rs := [12, 16]) (by kernel_rfl) (by simp) ?_
                refine AllReadyH.cons rfl (fun K hK => ?_) (AllReadyH.cons rfl (fun K hK => ?_) AllReadyH.nil)
                · go_simp
                  refine (CSt.out q4 _ _ _ _ _ HIn.out HSt.out.1 HSt.out.2 HPp.out HPg.out HSn.out.1 HSn.out.2 HPpn.out HPgn.out HG.out.L.v).mono ?_
                  rintro e q5 ⟨t1, t2, t3, rfl, hA1, hA2, hA3, ⟨hO1, hO2, hO3⟩, hU⟩
                  obtain ⟨e1, f1, m1', n1', rfl, -, -, -, -⟩ := id hA1
                  obtain ⟨e2, f2, m2', n2', rfl, -, -, -, -⟩ := id hA2
                  obtain ⟨e3, f3, m3', n3', rfl, -, -, -, -⟩ := id hA3
                  refine hK.out _ _ ⟨HS.1.un hU hwv, HS.2.un hU hwv1⟩ (fun HS => ?_)
                  clear hK K
                  replace HG : Hid (G9 w du dv bs cc cc (.slice adu nP cau) (.slice adw nP caw) (.slice ady nP cay) (.int .i64 (T + 1)) nP FM FV FY q5) := HG.out.unv hU hdv0 hne hbsv HUn.out
                  have HTt : Hid (Ar q5 (.slice e1 nP f1) nP FM ∧ Ar q5 (.slice e2 nP f2) nP FV ∧ Ar q5 (.slice e3 nP f3) nP FY) := ⟨hA1, hA2, hA3⟩
                  clear hU hA1 hA2 hA3 hO1 hO2 hO3 HIn HSt HPp HPg HSn HPpn HPgn
                  refine wpAnyH_take (i := 13) (v := ?_) rfl (by kernel_rfl) (by kernel_rfl) (by kernel_rfl) (fun _ _ _ h => h) (Or.inl ⟨by kernel_rfl, ?_⟩) HS ?_
                  rotate_left
                  · (rintro w ⟨⟨x0, x1, x2, x3, x4, x5, x6, x7⟩, ⟨y0, y1, y2, y3, y4⟩⟩; go_simp) <;> with_reducible rfl
                  try simp only [Act.put, List.getElem_toArray, List.getElem_cons_succ, List.getElem_cons_zero, List.setIfInBounds_toArray, List.set_cons_zero, List.set_cons_succ]
                  refine wpAnyH_take (i := 14) (v := ?_) rfl (by kernel_rfl) (by kernel_rfl) (by kernel_rfl) (fun _ _ _ h => h) (Or.inl ⟨by kernel_rfl, ?_⟩) HS ?_
                  rotate_left
                  · (rintro w ⟨⟨x0, x1, x2, x3, x4, x5, x6, x7⟩, ⟨y0, y1, y2, y3, y4⟩⟩; go_simp) <;> with_reducible rfl
                  try simp only [Act.put, List.getElem_toArray, List.getElem_cons_succ, List.getElem_cons_zero, List.setIfInBounds_toArray, List.set_cons_zero, List.set_cons_succ]
                  refine wpAnyH_take (i := 15) (v := ?_) rfl (by kernel_rfl) (by kernel_rfl) (by kernel_rfl) (fun _ _ _ h => h) (Or.inl ⟨by kernel_rfl, ?_⟩) HS ?_
                  rotate_left
                  · (rintro w ⟨⟨x0, x1, x2, x3, x4, x5, x6, x7⟩, ⟨y0, y1, y2, y3, y4⟩⟩; go_simp) <;> with_reducible rfl
                  try simp only [Act.put, List.getElem_toArray, List.getElem_cons_succ, List.getElem_cons_zero, List.setIfInBounds_toArray, List.set_cons_zero, List.set_cons_succ]
                  refine wpAnyH_ready (rs := [16]) (by kernel_rfl) (by simp) ?_
                  refine AllReadyH.cons rfl (fun K hK => ?_) AllReadyH.nil
                  go_simp
                  have HFb : Hid (Fb9 w du dv bs (.slice adu nP cau) (.slice adw nP caw) (.slice ady nP cay) q5.heap.size) := HG.out.fresh (World.block_lt_of_cell? _ _ HS.2.c0)
                  have HTn : Hid (Nb (.slice e1 nP f1) q5.heap.size ∧ Nb (.slice e2 nP f2) q5.heap.size ∧ Nb (.slice e3 nP f3) q5.heap.size) := ⟨HTt.out.1.nb (Nat.le_refl _), HTt.out.2.1.nb (Nat.le_refl _), HTt.out.2.2.nb (Nat.le_refl _)⟩
                  refine hK.out _ _ ⟨HS.1.later (bel1 _ _), HS.2.later (bel1 _ _)⟩ (fun HS => ?_)
                  clear hK K
                  have hbt : Below q5.heap.size q5 (q5.alloc (.cells #[.slice none 0 0, .slice none 0 0, .int .i64 0] 54)) := bel1 _ _
                  have HAl : Hid (Y3 q5.heap.size (.slice none 0 0) (.slice none 0 0) (.int .i64 0) (q5.alloc (.cells #[.slice none 0 0, .slice none 0 0, .int .i64 0] 54))) := Y3.new _ _ _ _ _
                  replace HG : Hid (G9 w du dv bs cc cc (.slice adu nP cau) (.slice adw nP caw) (.slice ady nP cay) (.int .i64 (T + 1)) nP FM FV FY (q5.alloc (.cells #[.slice none 0 0, .slice none 0 0, .int .i64 0] 54))) := HG.out.later hbt
                  replace HTt : Hid (Ar (q5.alloc (.cells #[.slice none 0 0, .slice none 0 0, .int .i64 0] 54)) (.slice e1 nP f1) nP FM ∧ Ar (q5.alloc (.cells #[.slice none 0 0, .slice none 0 0, .int .i64 0] 54)) (.slice e2 nP f2) nP FV ∧ Ar (q5.alloc (.cells #[.slice none 0 0, .slice none 0 0, .int .i64 0] 54)) (.slice e3 nP f3) nP FY) := ⟨HTt.out.1.later hbt, HTt.out.2.1.later hbt, HTt.out.2.2.later hbt⟩
                  clear hbt
                  generalize (q5.alloc (.cells #[.slice none 0 0, .slice none 0 0, .int .i64 0] 54)) = q5x at *
                  generalize q5.heap.size = bt at *
                  have w0 := HAl.out.c0
                  have w1 := HAl.out.c1
                  have w2' := HAl.out.c2
                  have g0 := HAl.out.f0
                  have g1' := HAl.out.f1
                  have g2' := HAl.out.f2
                  have hbx : bt ≠ w.heap.size ∧ bt ≠ w.heap.size + 1 := by have := HFb.out.1.1; omega
                  refine wpAnyH_ready (rs := [17]) (by kernel_rfl) (by simp) ?_
                  refine AllReadyH.cons rfl (fun K hK => ?_) AllReadyH.nil
                  go_simp
                  refine hK.out _ _ ⟨(((HS.1).far9 _ _ hbx.1).far9 _ _ hbx.1).far9 _ _ hbx.1, (((HS.2).far9 _ _ hbx.2).far9 _ _ hbx.2).far9 _ _ hbx.2⟩ (fun HS => ?_)
                  clear hK K
                  refine wpAnyH_take (i := 18) (v := ?_) rfl (by kernel_rfl) (by kernel_rfl) (by kernel_rfl) (fun _ _ _ h => h) (Or.inl ⟨by kernel_rfl, ?_⟩) HS ?_
                  rotate_left
                  · (rintro w ⟨⟨x0, x1, x2, x3, x4, x5, x6, x7⟩, ⟨y0, y1, y2, y3, y4⟩⟩; go_simp) <;> with_reducible rfl
                  try simp only [Act.put, List.getElem_toArray, List.getElem_cons_succ, List.getElem_cons_zero, List.setIfInBounds_toArray, List.set_cons_zero, List.set_cons_succ]
                  refine wpAnyH_done (by kernel_rfl) ?_ _
                  clear HS
                  have K1 : Hid (Y3 bt (.slice e1 nP f1) (.slice e2 nP f2) (.int .i64 (T + 1)) (((q5x.setCell ⟨bt, 0, none⟩ (.slice e1 nP f1)).setCell ⟨bt, 1, none⟩ (.slice e2 nP f2)).setCell ⟨bt, 2, none⟩ (.int .i64 (T + 1)))) := ((HAl.out.set0 _).set1 _).set2 _
                  have K2 : Hid (Ar (((q5x.setCell ⟨bt, 0, none⟩ (.slice e1 nP f1)).setCell ⟨bt, 1, none⟩ (.slice e2 nP f2)).setCell ⟨bt, 2, none⟩ (.int .i64 (T + 1))) (.slice e1 nP f1) nP FM ∧ Ar (((q5x.setCell ⟨bt, 0, none⟩ (.slice e1 nP f1)).setCell ⟨bt, 1, none⟩ (.slice e2 nP f2)).setCell ⟨bt, 2, none⟩ (.int .i64 (T + 1))) (.slice e2 nP f2) nP FV ∧ Ar (((q5x.setCell ⟨bt, 0, none⟩ (.slice e1 nP f1)).setCell ⟨bt, 1, none⟩ (.slice e2 nP f2)).setCell ⟨bt, 2, none⟩ (.int .i64 (T + 1))) (.slice e3 nP f3) nP FY) := ⟨(((HTt.out.1).set9 ⟨bt, 0, none⟩ (.slice e1 nP f1) HTn.out.1).set9 ⟨bt, 1, none⟩ (.slice e2 nP f2) HTn.out.1).set9 ⟨bt, 2, none⟩ (.int .i64 (T + 1)) HTn.out.1, (((HTt.out.2.1).set9 ⟨bt, 0, none⟩ (.slice e1 nP f1) HTn.out.2.1).set9 ⟨bt, 1, none⟩ (.slice e2 nP f2) HTn.out.2.1).set9 ⟨bt, 2, none⟩ (.int .i64 (T + 1)) HTn.out.2.1, (((HTt.out.2.2).set9 ⟨bt, 0, none⟩ (.slice e1 nP f1) HTn.out.2.2).set9 ⟨bt, 1, none⟩ (.slice e2 nP f2) HTn.out.2.2).set9 ⟨bt, 2, none⟩ (.int .i64 (T + 1)) HTn.out.2.2⟩
                  have K3 : Hid (G9 w du dv bs cc cc (.slice adu nP cau) (.slice adw nP caw) (.slice ady nP cay) (.int .i64 (T + 1)) nP FM FV FY (((q5x.setCell ⟨bt, 0, none⟩ (.slice e1 nP f1)).setCell ⟨bt, 1, none⟩ (.slice e2 nP f2)).setCell ⟨bt, 2, none⟩ (.int .i64 (T + 1)))) := ((HG.out.set HFb.out 0 _).set HFb.out 1 _).set HFb.out 2 _
                  clear HAl HTt HG w0 w1 w2' g0 g1' g2'
                  generalize (((q5x.setCell ⟨bt, 0, none⟩ (.slice e1 nP f1)).setCell ⟨bt, 1, none⟩ (.slice e2 nP f2)).setCell ⟨bt, 2, none⟩ (.int .i64 (T + 1))) = wE at *
                  go_wp2
                  go_meet
                  case rel => exact ⟨bt, e1, e2, e3, f1, f2, f3, rfl, rfl, ⟨K1.out, K2.out⟩, K3⟩
                · go_simp
                  have HFb : Hid (Fb9 w du dv bs (.slice adu nP cau) (.slice adw nP caw) (.slice ady nP cay) q4.heap.size) := HG.out.fresh (World.block_lt_of_cell? _ _ HS.2.c0)
                  refine hK.out _ _ ⟨HS.1.later (bel1 _ _), HS.2.later (bel1 _ _)⟩ (fun HS => ?_)
                  clear hK K
                  have hbt : Below q4.heap.size q4 (q4.alloc (.cells #[.slice none 0 0, .slice none 0 0, .int .i64 0] 54)) := bel1 _ _
                  have HAl : Hid (Y3 q4.heap.size (.slice none 0 0) (.slice none 0 0) (.int .i64 0) (q4.alloc (.cells #[.slice none 0 0, .slice none 0 0, .int .i64 0] 54))) := Y3.new _ _ _ _ _
                  replace HG : Hid (G9 w du dv bs cc 0 (.slice adu nP cau) (.slice adw nP caw) (.slice ady nP cay) (.int .i64 (T + 1)) nP FM FV FY (q4.alloc (.cells #[.slice none 0 0, .slice none 0 0, .int .i64 0] 54))) := HG.out.later hbt
                  replace HIn : Hid (Drp (q4.alloc (.cells #[.slice none 0 0, .slice none 0 0, .int .i64 0] 54)) (.slice ad9 nD ca9) nD at' fa) := HIn.out.later hbt
                  replace HSt : Hid (Ar (q4.alloc (.cells #[.slice none 0 0, .slice none 0 0, .int .i64 0] 54)) (.slice c1 nP l1) nP M ∧ Ar (q4.alloc (.cells #[.slice none 0 0, .slice none 0 0, .int .i64 0] 54)) (.slice c2 nP l2) nP V) := ⟨HSt.out.1.later hbt, HSt.out.2.later hbt⟩
                  replace HPp : Hid (Ar (q4.alloc (.cells #[.slice none 0 0, .slice none 0 0, .int .i64 0] 54)) (.slice c3 nP l3) nP P) := HPp.out.later hbt
                  replace HPg : Hid (Ar (q4.alloc (.cells #[.slice none 0 0, .slice none 0 0, .int .i64 0] 54)) (.slice c4 nP l4) nP G) := HPg.out.later hbt
                  clear hbt
                  generalize (q4.alloc (.cells #[.slice none 0 0, .slice none 0 0, .int .i64 0] 54)) = q4x at *
                  generalize q4.heap.size = bt at *
                  refine wpAnyH_ready (rs := [12]) (by kernel_rfl) (by simp) ?_
                  refine AllReadyH.cons rfl (fun K hK => ?_) AllReadyH.nil
                  go_simp
                  refine (CSt.out q4x _ _ _ _ _ HIn.out HSt.out.1 HSt.out.2 HPp.out HPg.out HSn.out.1 HSn.out.2 HPpn.out HPgn.out HG.out.L.v).mono ?_
                  rintro e q5a ⟨t1, t2, t3, rfl, hA1, hA2, hA3, ⟨hO1, hO2, hO3⟩, hU⟩
                  have HTn : Hid (Nb t1 bt ∧ Nb t2 bt ∧ Nb t3 bt) := ⟨hO1.nb HAl.out.lt, hO2.nb HAl.out.lt, hO3.nb HAl.out.lt⟩
                  obtain ⟨e1, f1, m1', n1', rfl, -, -, -, -⟩ := id hA1
                  obtain ⟨e2, f2, m2', n2', rfl, -, -, -, -⟩ := id hA2
                  obtain ⟨e3, f3, m3', n3', rfl, -, -, -, -⟩ := id hA3
                  refine hK.out _ _ ⟨HS.1.un hU hwv, HS.2.un hU hwv1⟩ (fun HS => ?_)
                  clear hK K
                  replace HG : Hid (G9 w du dv bs cc cc (.slice adu nP cau) (.slice adw nP caw) (.slice ady nP cay) (.int .i64 (T + 1)) nP FM FV FY q5a) := HG.out.unv hU hdv0 hne hbsv HUn.out
                  have HTt : Hid (Ar q5a (.slice e1 nP f1) nP FM ∧ Ar q5a (.slice e2 nP f2) nP FV ∧ Ar q5a (.slice e3 nP f3) nP FY) := ⟨hA1, hA2, hA3⟩
                  replace HAl : Hid (Y3 bt (.slice none 0 0) (.slice none 0 0) (.int .i64 0) q5a) := HAl.out.un hU HFb.out.1.2.2.1
                  clear hU hA1 hA2 hA3 hO1 hO2 hO3 HIn HSt HPp HPg HSn HPpn HPgn
                  refine wpAnyH_take (i := 13) (v := ?_) rfl (by kernel_rfl) (by kernel_rfl) (by kernel_rfl) (fun _ _ _ h => h) (Or.inl ⟨by kernel_rfl, ?_⟩) HS ?_
                  rotate_left
                  · (rintro w ⟨⟨x0, x1, x2, x3, x4, x5, x6, x7⟩, ⟨y0, y1, y2, y3, y4⟩⟩; go_simp) <;> with_reducible rfl
                  try simp only [Act.put, List.getElem_toArray, List.getElem_cons_succ, List.getElem_cons_zero, List.setIfInBounds_toArray, List.set_cons_zero, List.set_cons_succ]
                  refine wpAnyH_take (i := 14) (v := ?_) rfl (by kernel_rfl) (by kernel_rfl) (by kernel_rfl) (fun _ _ _ h => h) (Or.inl ⟨by kernel_rfl, ?_⟩) HS ?_
                  rotate_left
                  · (rintro w ⟨⟨x0, x1, x2, x3, x4, x5, x6, x7⟩, ⟨y0, y1, y2, y3, y4⟩⟩; go_simp) <;> with_reducible rfl
                  try simp only [Act.put, List.getElem_toArray, List.getElem_cons_succ, List.getElem_cons_zero, List.setIfInBounds_toArray, List.set_cons_zero, List.set_cons_succ]
                  refine wpAnyH_take (i := 15) (v := ?_) rfl (by kernel_rfl) (by kernel_rfl) (by kernel_rfl) (fun _ _ _ h => h) (Or.inl ⟨by kernel_rfl, ?_⟩) HS ?_
                  rotate_left
                  · (rintro w ⟨⟨x0, x1, x2, x3, x4, x5, x6, x7⟩, ⟨y0, y1, y2, y3, y4⟩⟩; go_simp) <;> with_reducible rfl
                  try simp only [Act.put, List.getElem_toArray, List.getElem_cons_succ, List.getElem_cons_zero, List.setIfInBounds_toArray, List.set_cons_zero, List.set_cons_succ]
                  have w0 := HAl.out.c0
                  have w1 := HAl.out.c1
                  have w2' := HAl.out.c2
                  have g0 := HAl.out.f0
                  have g1' := HAl.out.f1
                  have g2' := HAl.out.f2
                  have hbx : bt ≠ w.heap.size ∧ bt ≠ w.heap.size + 1 := by have := HFb.out.1.1; omega
                  refine wpAnyH_ready (rs := [17]) (by kernel_rfl) (by simp) ?_
                  refine AllReadyH.cons rfl (fun K hK => ?_) AllReadyH.nil
                  go_simp
                  refine hK.out _ _ ⟨(((HS.1).far9 _ _ hbx.1).far9 _ _ hbx.1).far9 _ _ hbx.1, (((HS.2).far9 _ _ hbx.2).far9 _ _ hbx.2).far9 _ _ hbx.2⟩ (fun HS => ?_)
                  clear hK K
                  refine wpAnyH_take (i := 18) (v := ?_) rfl (by kernel_rfl) (by kernel_rfl) (by kernel_rfl) (fun _ _ _ h => h) (Or.inl ⟨by kernel_rfl, ?_⟩) HS ?_
                  rotate_left
                  · (rintro w ⟨⟨x0, x1, x2, x3, x4, x5, x6, x7⟩, ⟨y0, y1, y2, y3, y4⟩⟩; go_simp) <;> with_reducible rfl
                  try simp only [Act.put, List.getElem_toArray, List.getElem_cons_succ, List.getElem_cons_zero, List.setIfInBounds_toArray, List.set_cons_zero, List.set_cons_succ]
                  refine wpAnyH_done (by kernel_rfl) ?_ _
                  clear HS
                  have K1 : Hid (Y3 bt (.slice e1 nP f1) (.slice e2 nP f2) (.int .i64 (T + 1)) (((q5a.setCell ⟨bt, 0, none⟩ (.slice e1 nP f1)).setCell ⟨bt, 1, none⟩ (.slice e2 nP f2)).setCell ⟨bt, 2, none⟩ (.int .i64 (T + 1)))) := ((HAl.out.set0 _).set1 _).set2 _
                  have K2 : Hid (Ar (((q5a.setCell ⟨bt, 0, none⟩ (.slice e1 nP f1)).setCell ⟨bt, 1, none⟩ (.slice e2 nP f2)).setCell ⟨bt, 2, none⟩ (.int .i64 (T + 1))) (.slice e1 nP f1) nP FM ∧ Ar (((q5a.setCell ⟨bt, 0, none⟩ (.slice e1 nP f1)).setCell ⟨bt, 1, none⟩ (.slice e2 nP f2)).setCell ⟨bt, 2, none⟩ (.int .i64 (T + 1))) (.slice e2 nP f2) nP FV ∧ Ar (((q5a.setCell ⟨bt, 0, none⟩ (.slice e1 nP f1)).setCell ⟨bt, 1, none⟩ (.slice e2 nP f2)).setCell ⟨bt, 2, none⟩ (.int .i64 (T + 1))) (.slice e3 nP f3) nP FY) := ⟨(((HTt.out.1).set9 ⟨bt, 0, none⟩ (.slice e1 nP f1) HTn.out.1).set9 ⟨bt, 1, none⟩ (.slice e2 nP f2) HTn.out.1).set9 ⟨bt, 2, none⟩ (.int .i64 (T + 1)) HTn.out.1, (((HTt.out.2.1).set9 ⟨bt, 0, none⟩ (.slice e1 nP f1) HTn.out.2.1).set9 ⟨bt, 1, none⟩ (.slice e2 nP f2) HTn.out.2.1).set9 ⟨bt, 2, none⟩ (.int .i64 (T + 1)) HTn.out.2.1, (((HTt.out.2.2).set9 ⟨bt, 0, none⟩ (.slice e1 nP f1) HTn.out.2.2).set9 ⟨bt, 1, none⟩ (.slice e2 nP f2) HTn.out.2.2).set9 ⟨bt, 2, none⟩ (.int .i64 (T + 1)) HTn.out.2.2⟩
                  have K3 : Hid (G9 w du dv bs cc cc (.slice adu nP cau) (.slice adw nP caw) (.slice ady nP cay) (.int .i64 (T + 1)) nP FM FV FY (((q5a.setCell ⟨bt, 0, none⟩ (.slice e1 nP f1)).setCell ⟨bt, 1, none⟩ (.slice e2 nP f2)).setCell ⟨bt, 2, none⟩ (.int .i64 (T + 1)))) := ((HG.out.set HFb.out 0 _).set HFb.out 1 _).set HFb.out 2 _
                  clear HAl HTt HG w0 w1 w2' g0 g1' g2'
                  generalize (((q5a.setCell ⟨bt, 0, none⟩ (.slice e1 nP f1)).setCell ⟨bt, 1, none⟩ (.slice e2 nP f2)).setCell ⟨bt, 2, none⟩ (.int .i64 (T + 1))) = wE at *
                  go_wp2
                  go_meet
                  case rel => exact ⟨bt, e1, e2, e3, f1, f2, f3, rfl, rfl, ⟨K1.out, K2.out⟩, K3⟩
              · go_simp
                have HFb : Hid (Fb9 w du dv bs (.slice adu nP cau) (.slice adw nP caw) (.slice ady nP cay) q3.heap.size) := HG.out.fresh (World.block_lt_of_cell? _ _ HS.2.c0)
                refine hK.out _ _ ⟨HS.1.later (bel1 _ _), HS.2.later (bel1 _ _)⟩ (fun HS => ?_)
                clear hK K
                have hbt : Below q3.heap.size q3 (q3.alloc (.cells #[.slice none 0 0, .slice none 0 0, .int .i64 0] 54)) := bel1 _ _
                have HAl : Hid (Y3 q3.heap.size (.slice none 0 0) (.slice none 0 0) (.int .i64 0) (q3.alloc (.cells #[.slice none 0 0, .slice none 0 0, .int .i64 0] 54))) := Y3.new _ _ _ _ _
                replace HG : Hid (G9 w du dv bs cc 0 (.slice adu nP cau) (.slice adw nP caw) (.slice ady nP cay) (.int .i64 (T + 1)) nP FM FV FY (q3.alloc (.cells #[.slice none 0 0, .slice none 0 0, .int .i64 0] 54))) := HG.out.later hbt
                replace HIn : Hid (Drp (q3.alloc (.cells #[.slice none 0 0, .slice none 0 0, .int .i64 0] 54)) (.slice ad9 nD ca9) nD at' fa) := HIn.out.later hbt
                replace HSt : Hid (Ar (q3.alloc (.cells #[.slice none 0 0, .slice none 0 0, .int .i64 0] 54)) (.slice c1 nP l1) nP M ∧ Ar (q3.alloc (.cells #[.slice none 0 0, .slice none 0 0, .int .i64 0] 54)) (.slice c2 nP l2) nP V) := ⟨HSt.out.1.later hbt, HSt.out.2.later hbt⟩
                replace HPp : Hid (Ar (q3.alloc (.cells #[.slice none 0 0, .slice none 0 0, .int .i64 0] 54)) (.slice c3 nP l3) nP P) := HPp.out.later hbt
                clear hbt
                generalize (q3.alloc (.cells #[.slice none 0 0, .slice none 0 0, .int .i64 0] 54)) = q3x at *
                generalize q3.heap.size = bt at *
                refine wpAnyH_ready (rs := [11]) (by kernel_rfl) (by simp) ?_
                refine AllReadyH.cons rfl (fun K hK => ?_) AllReadyH.nil
                go_simp
                refine (CPg.out _ HG.out.L.B).mono ?_
                rintro e q4a ⟨t1, rfl, hA1, hO1, hb⟩
                have HPgn : Hid (Nb t1 dv) := hO1.nb (World.block_lt_of_cell? _ _ HG.out.L.v.1)
                obtain ⟨c4, l4, m1', n1', rfl, -, -, -, -⟩ := id hA1
                refine hK.out _ _ ⟨HS.1.later hb, HS.2.later hb⟩ (fun HS => ?_)
                clear hK K
                replace HG : Hid (G9 w du dv bs cc 0 (.slice adu nP cau) (.slice adw nP caw) (.slice ady nP cay) (.int .i64 (T + 1)) nP FM FV FY q4a) := HG.out.later hb
                replace HIn : Hid (Drp q4a (.slice ad9 nD ca9) nD at' fa) := HIn.out.later hb
                replace HSt : Hid (Ar q4a (.slice c1 nP l1) nP M ∧ Ar q4a (.slice c2 nP l2) nP V) := ⟨HSt.out.1.later hb, HSt.out.2.later hb⟩
                replace HPp : Hid (Ar q4a (.slice c3 nP l3) nP P) := HPp.out.later hb
                replace HAl : Hid (Y3 bt (.slice none 0 0) (.slice none 0 0) (.int .i64 0) q4a) := HAl.out.later hb
                have HPg : Hid (Ar q4a (.slice c4 nP l4) nP G) := hA1
                clear hb hA1 hO1
                refine wpAnyH_ready (rs := [12]) (by kernel_rfl) (by simp) ?_
                refine AllReadyH.cons rfl (fun K hK => ?_) AllReadyH.nil
                go_simp
                refine (CSt.out q4a _ _ _ _ _ HIn.out HSt.out.1 HSt.out.2 HPp.out HPg.out HSn.out.1 HSn.out.2 HPpn.out HPgn.out HG.out.L.v).mono ?_
                rintro e q5a ⟨t1, t2, t3, rfl, hA1, hA2, hA3, ⟨hO1, hO2, hO3⟩, hU⟩
                have HTn : Hid (Nb t1 bt ∧ Nb t2 bt ∧ Nb t3 bt) := ⟨hO1.nb HAl.out.lt, hO2.nb HAl.out.lt, hO3.nb HAl.out.lt⟩
                obtain ⟨e1, f1, m1', n1', rfl, -, -, -, -⟩ := id hA1
                obtain ⟨e2, f2, m2', n2', rfl, -, -, -, -⟩ := id hA2
                obtain ⟨e3, f3, m3', n3', rfl, -, -, -, -⟩ := id hA3
                refine hK.out _ _ ⟨HS.1.un hU hwv, HS.2.un hU hwv1⟩ (fun HS => ?_)
                clear hK K
                replace HG : Hid (G9 w du dv bs cc cc (.slice adu nP cau) (.slice adw nP caw) (.slice ady nP cay) (.int .i64 (T + 1)) nP FM FV FY q5a) := HG.out.unv hU hdv0 hne hbsv HUn.out
                have HTt : Hid (Ar q5a (.slice e1 nP f1) nP FM ∧ Ar q5a (.slice e2 nP f2) nP FV ∧ Ar q5a (.slice e3 nP f3) nP FY) := ⟨hA1, hA2, hA3⟩
                replace HAl : Hid (Y3 bt (.slice none 0 0) (.slice none 0 0) (.int .i64 0) q5a) := HAl.out.un hU HFb.out.1.2.2.1
                clear hU hA1 hA2 hA3 hO1 hO2 hO3 HIn HSt HPp HPg HSn HPpn HPgn
                refine wpAnyH_take (i := 13) (v := ?_) rfl (by kernel_rfl) (by kernel_rfl) (by kernel_rfl) (fun _ _ _ h => h) (Or.inl ⟨by kernel_rfl, ?_⟩) HS ?_
                rotate_left
                · (rintro w ⟨⟨x0, x1, x2, x3, x4, x5, x6, x7⟩, ⟨y0, y1, y2, y3, y4⟩⟩; go_simp) <;> with_reducible rfl
                try simp only [Act.put, List.getElem_toArray, List.getElem_cons_succ, List.getElem_cons_zero, List.setIfInBounds_toArray, List.set_cons_zero, List.set_cons_succ]
                refine wpAnyH_take (i := 14) (v := ?_) rfl (by kernel_rfl) (by kernel_rfl) (by kernel_rfl) (fun _ _ _ h => h) (Or.inl ⟨by kernel_rfl, ?_⟩) HS ?_
                rotate_left
                · (rintro w ⟨⟨x0, x1, x2, x3, x4, x5, x6, x7⟩, ⟨y0, y1, y2, y3, y4⟩⟩; go_simp) <;> with_reducible rfl
                try simp only [Act.put, List.getElem_toArray, List.getElem_cons_succ, List.getElem_cons_zero, List.setIfInBounds_toArray, List.set_cons_zero, List.set_cons_succ]
                refine wpAnyH_take (i := 15) (v := ?_) rfl (by kernel_rfl) (by kernel_rfl) (by kernel_rfl) (fun _ _ _ h => h) (Or.inl ⟨by kernel_rfl, ?_⟩) HS ?_
                rotate_left
                · (rintro w ⟨⟨x0, x1, x2, x3, x4, x5, x6, x7⟩, ⟨y0, y1, y2, y3, y4⟩⟩; go_simp) <;> with_reducible rfl
                try simp only [Act.put, List.getElem_toArray, List.getElem_cons_succ, List.getElem_cons_zero, List.setIfInBounds_toArray, List.set_cons_zero, List.set_cons_succ]
                have w0 := HAl.out.c0
                have w1 := HAl.out.c1
                have w2' := HAl.out.c2
                have g0 := HAl.out.f0
                have g1' := HAl.out.f1
                have g2' := HAl.out.f2
                have hbx : bt ≠ w.heap.size ∧ bt ≠ w.heap.size + 1 := by have := HFb.out.1.1; omega
                refine wpAnyH_ready (rs := [17]) (by kernel_rfl) (by simp) ?_
                refine AllReadyH.cons rfl (fun K hK => ?_) AllReadyH.nil
                go_simp
                refine hK.out _ _ ⟨(((HS.1).far9 _ _ hbx.1).far9 _ _ hbx.1).far9 _ _ hbx.1, (((HS.2).far9 _ _ hbx.2).far9 _ _ hbx.2).far9 _ _ hbx.2⟩ (fun HS => ?_)
                clear hK K
                refine wpAnyH_take (i := 18) (v := ?_) rfl (by kernel_rfl) (by kernel_rfl) (by kernel_rfl) (fun _ _ _ h => h) (Or.inl ⟨by kernel_rfl, ?_⟩) HS ?_
                rotate_left
                · (rintro w ⟨⟨x0, x1, x2, x3, x4, x5, x6, x7⟩, ⟨y0, y1, y2, y3, y4⟩⟩; go_simp) <;> with_reducible rfl
                try simp only [Act.put, List.getElem_toArray, List.getElem_cons_succ, List.getElem_cons_zero, List.setIfInBounds_toArray, List.set_cons_zero, List.set_cons_succ]
                refine wpAnyH_done (by kernel_rfl) ?_ _
                clear HS
                have K1 : Hid (Y3 bt (.slice e1 nP f1) (.slice e2 nP f2) (.int .i64 (T + 1)) (((q5a.setCell ⟨bt, 0, none⟩ (.slice e1 nP f1)).setCell ⟨bt, 1, none⟩ (.slice e2 nP f2)).setCell ⟨bt, 2, none⟩ (.int .i64 (T + 1)))) := ((HAl.out.set0 _).set1 _).set2 _
                have K2 : Hid (Ar (((q5a.setCell ⟨bt, 0, none⟩ (.slice e1 nP f1)).setCell ⟨bt, 1, none⟩ (.slice e2 nP f2)).setCell ⟨bt, 2, none⟩ (.int .i64 (T + 1))) (.slice e1 nP f1) nP FM ∧ Ar (((q5a.setCell ⟨bt, 0, none⟩ (.slice e1 nP f1)).setCell ⟨bt, 1, none⟩ (.slice e2 nP f2)).setCell ⟨bt, 2, none⟩ (.int .i64 (T + 1))) (.slice e2 nP f2) nP FV ∧ Ar (((q5a.setCell ⟨bt, 0, none⟩ (.slice e1 nP f1)).setCell ⟨bt, 1, none⟩ (.slice e2 nP f2)).setCell ⟨bt, 2, none⟩ (.int .i64 (T + 1))) (.slice e3 nP f3) nP FY) := ⟨(((HTt.out.1).set9 ⟨bt, 0, none⟩ (.slice e1 nP f1) HTn.out.1).set9 ⟨bt, 1, none⟩ (.slice e2 nP f2) HTn.out.1).set9 ⟨bt, 2, none⟩ (.int .i64 (T + 1)) HTn.out.1, (((HTt.out.2.1).set9 ⟨bt, 0, none⟩ (.slice e1 nP f1) HTn.out.2.1).set9 ⟨bt, 1, none⟩ (.slice e2 nP f2) HTn.out.2.1).set9 ⟨bt, 2, none⟩ (.int .i64 (T + 1)) HTn.out.2.1, (((HTt.out.2.2).set9 ⟨bt, 0, none⟩ (.slice e1 nP f1) HTn.out.2.2).set9 ⟨bt, 1, none⟩ (.slice e2 nP f2) HTn.out.2.2).set9 ⟨bt, 2, none⟩ (.int .i64 (T + 1)) HTn.out.2.2⟩
                have K3 : Hid (G9 w du dv bs cc cc (.slice adu nP cau) (.slice adw nP caw) (.slice ady nP cay) (.int .i64 (T + 1)) nP FM FV FY (((q5a.setCell ⟨bt, 0, none⟩ (.slice e1 nP f1)).setCell ⟨bt, 1, none⟩ (.slice e2 nP f2)).setCell ⟨bt, 2, none⟩ (.int .i64 (T + 1)))) := ((HG.out.set HFb.out 0 _).set HFb.out 1 _).set HFb.out 2 _
                clear HAl HTt HG w0 w1 w2' g0 g1' g2'
                generalize (((q5a.setCell ⟨bt, 0, none⟩ (.slice e1 nP f1)).setCell ⟨bt, 1, none⟩ (.slice e2 nP f2)).setCell ⟨bt, 2, none⟩ (.int .i64 (T + 1))) = wE at *
                go_wp2
                go_meet
                case rel => exact ⟨bt, e1, e2, e3, f1, f2, f3, rfl, rfl, ⟨K1.out, K2.out⟩, K3⟩
            · go_simp
              have HFb : Hid (Fb9 w du dv bs (.slice adu nP cau) (.slice adw nP caw) (.slice ady nP cay) q2.heap.size) := HG.out.fresh (World.block_lt_of_cell? _ _ HS.2.c0)
              refine hK.out _ _ ⟨HS.1.later (bel1 _ _), HS.2.later (bel1 _ _)⟩ (fun HS => ?_)
              clear hK K
              have hbt : Below q2.heap.size q2 (q2.alloc (.cells #[.slice none 0 0, .slice none 0 0, .int .i64 0] 54)) := bel1 _ _
              have HAl : Hid (Y3 q2.heap.size (.slice none 0 0) (.slice none 0 0) (.int .i64 0) (q2.alloc (.cells #[.slice none 0 0, .slice none 0 0, .int .i64 0] 54))) := Y3.new _ _ _ _ _
              replace HG : Hid (G9 w du dv bs cc 0 (.slice adu nP cau) (.slice adw nP caw) (.slice ady nP cay) (.int .i64 (T + 1)) nP FM FV FY (q2.alloc (.cells #[.slice none 0 0, .slice none 0 0, .int .i64 0] 54))) := HG.out.later hbt
              replace HIn : Hid (Drp (q2.alloc (.cells #[.slice none 0 0, .slice none 0 0, .int .i64 0] 54)) (.slice ad9 nD ca9) nD at' fa) := HIn.out.later hbt
              replace HSt : Hid (Ar (q2.alloc (.cells #[.slice none 0 0, .slice none 0 0, .int .i64 0] 54)) (.slice c1 nP l1) nP M ∧ Ar (q2.alloc (.cells #[.slice none 0 0, .slice none 0 0, .int .i64 0] 54)) (.slice c2 nP l2) nP V) := ⟨HSt.out.1.later hbt, HSt.out.2.later hbt⟩
              clear hbt
              generalize (q2.alloc (.cells #[.slice none 0 0, .slice none 0 0, .int .i64 0] 54)) = q2x at *
              generalize q2.heap.size = bt at *
              refine wpAnyH_ready (rs := [8]) (by kernel_rfl) (by simp) ?_
              refine AllReadyH.cons rfl (fun K hK => ?_) AllReadyH.nil
              go_simp
              refine (CPp.out _ HG.out.L.B).mono ?_
              rintro e q3a ⟨t1, rfl, hA1, hO1, hb⟩
              have HPpn : Hid (Nb t1 dv) := hO1.nb (World.block_lt_of_cell? _ _ HG.out.L.v.1)
              obtain ⟨c3, l3, m1', n1', rfl, -, -, -, -⟩ := id hA1
              refine hK.out _ _ ⟨HS.1.later hb, HS.2.later hb⟩ (fun HS => ?_)
              clear hK K
              replace HG : Hid (G9 w du dv bs cc 0 (.slice adu nP cau) (.slice adw nP caw) (.slice ady nP cay) (.int .i64 (T + 1)) nP FM FV FY q3a) := HG.out.later hb
              replace HIn : Hid (Drp q3a (.slice ad9 nD ca9) nD at' fa) := HIn.out.later hb
              replace HSt : Hid (Ar q3a (.slice c1 nP l1) nP M ∧ Ar q3a (.slice c2 nP l2) nP V) := ⟨HSt.out.1.later hb, HSt.out.2.later hb⟩
              replace HAl : Hid (Y3 bt (.slice none 0 0) (.slice none 0 0) (.int .i64 0) q3a) := HAl.out.later hb
              have HPp : Hid (Ar q3a (.slice c3 nP l3) nP P) := hA1
              clear hb hA1 hO1
              refine wpAnyH_ready (rs := [11]) (by kernel_rfl) (by simp) ?_
              refine AllReadyH.cons rfl (fun K hK => ?_) AllReadyH.nil
              go_simp
              refine (CPg.out _ HG.out.L.B).mono ?_
              rintro e q4a ⟨t1, rfl, hA1, hO1, hb⟩
              have HPgn : Hid (Nb t1 dv) := hO1.nb (World.block_lt_of_cell? _ _ HG.out.L.v.1)
              obtain ⟨c4, l4, m1', n1', rfl, -, -, -, -⟩ := id hA1
              refine hK.out _ _ ⟨HS.1.later hb, HS.2.later hb⟩ (fun HS => ?_)
              clear hK K
              replace HG : Hid (G9 w du dv bs cc 0 (.slice adu nP cau) (.slice adw nP caw) (.slice ady nP cay) (.int .i64 (T + 1)) nP FM FV FY q4a) := HG.out.later hb
              replace HIn : Hid (Drp q4a (.slice ad9 nD ca9) nD at' fa) := HIn.out.later hb
              replace HSt : Hid (Ar q4a (.slice c1 nP l1) nP M ∧ Ar q4a (.slice c2 nP l2) nP V) := ⟨HSt.out.1.later hb, HSt.out.2.later hb⟩
              replace HPp : Hid (Ar q4a (.slice c3 nP l3) nP P) := HPp.out.later hb
              replace HAl : Hid (Y3 bt (.slice none 0 0) (.slice none 0 0) (.int .i64 0) q4a) := HAl.out.later hb
              have HPg : Hid (Ar q4a (.slice c4 nP l4) nP G) := hA1
              clear hb hA1 hO1
              refine wpAnyH_ready (rs := [12]) (by kernel_rfl) (by simp) ?_
              refine AllReadyH.cons rfl (fun K hK => ?_) AllReadyH.nil
              go_simp
              refine (CSt.out q4a _ _ _ _ _ HIn.out HSt.out.1 HSt.out.2 HPp.out HPg.out HSn.out.1 HSn.out.2 HPpn.out HPgn.out HG.out.L.v).mono ?_
              rintro e q5a ⟨t1, t2, t3, rfl, hA1, hA2, hA3, ⟨hO1, hO2, hO3⟩, hU⟩
              have HTn : Hid (Nb t1 bt ∧ Nb t2 bt ∧ Nb t3 bt) := ⟨hO1.nb HAl.out.lt, hO2.nb HAl.out.lt, hO3.nb HAl.out.lt⟩
              obtain ⟨e1, f1, m1', n1', rfl, -, -, -, -⟩ := id hA1
              obtain ⟨e2, f2, m2', n2', rfl, -, -, -, -⟩ := id hA2
              obtain ⟨e3, f3, m3', n3', rfl, -, -, -, -⟩ := id hA3
              refine hK.out _ _ ⟨HS.1.un hU hwv, HS.2.un hU hwv1⟩ (fun HS => ?_)
              clear hK K
              replace HG : Hid (G9 w du dv bs cc cc (.slice adu nP cau) (.slice adw nP caw) (.slice ady nP cay) (.int .i64 (T + 1)) nP FM FV FY q5a) := HG.out.unv hU hdv0 hne hbsv HUn.out
              have HTt : Hid (Ar q5a (.slice e1 nP f1) nP FM ∧ Ar q5a (.slice e2 nP f2) nP FV ∧ Ar q5a (.slice e3 nP f3) nP FY) := ⟨hA1, hA2, hA3⟩
              replace HAl : Hid (Y3 bt (.slice none 0 0) (.slice none 0 0) (.int .i64 0) q5a) := HAl.out.un hU HFb.out.1.2.2.1
              clear hU hA1 hA2 hA3 hO1 hO2 hO3 HIn HSt HPp HPg HSn HPpn HPgn
              refine wpAnyH_take (i := 13) (v := ?_) rfl (by kernel_rfl) (by kernel_rfl) (by kernel_rfl) (fun _ _ _ h => h) (Or.inl ⟨by kernel_rfl, ?_⟩) HS ?_
              rotate_left
              · (rintro w ⟨⟨x0, x1, x2, x3, x4, x5, x6, x7⟩, ⟨y0, y1, y2, y3, y4⟩⟩; go_simp) <;> with_reducible rfl
              try simp only [Act.put, List.getElem_toArray, List.getElem_cons_succ, List.getElem_cons_zero, List.setIfInBounds_toArray, List.set_cons_zero, List.set_cons_succ]
              refine wpAnyH_take (i := 14) (v := ?_) rfl (by kernel_rfl) (by kernel_rfl) (by kernel_rfl) (fun _ _ _ h => h) (Or.inl ⟨by kernel_rfl, ?_⟩) HS ?_
              rotate_left
              · (rintro w ⟨⟨x0, x1, x2, x3, x4, x5, x6, x7⟩, ⟨y0, y1, y2, y3, y4⟩⟩; go_simp) <;> with_reducible rfl
              try simp only [Act.put, List.getElem_toArray, List.getElem_cons_succ, List.getElem_cons_zero, List.setIfInBounds_toArray, List.set_cons_zero, List.set_cons_succ]
              refine wpAnyH_take (i := 15) (v := ?_) rfl (by kernel_rfl) (by kernel_rfl) (by kernel_rfl) (fun _ _ _ h => h) (Or.inl ⟨by kernel_rfl, ?_⟩) HS ?_
              rotate_left
              · (rintro w ⟨⟨x0, x1, x2, x3, x4, x5, x6, x7⟩, ⟨y0, y1, y2, y3, y4⟩⟩; go_simp) <;> with_reducible rfl
              try simp only [Act.put, List.getElem_toArray, List.getElem_cons_succ, List.getElem_cons_zero, List.setIfInBounds_toArray, List.set_cons_zero, List.set_cons_succ]
              have w0 := HAl.out.c0
              have w1 := HAl.out.c1
              have w2' := HAl.out.c2
              have g0 := HAl.out.f0
              have g1' := HAl.out.f1
              have g2' := HAl.out.f2
              have hbx : bt ≠ w.heap.size ∧ bt ≠ w.heap.size + 1 := by have := HFb.out.1.1; omega
              refine wpAnyH_ready (rs := [17]) (by kernel_rfl) (by simp) ?_
              refine AllReadyH.cons rfl (fun K hK => ?_) AllReadyH.nil
              go_simp
              refine hK.out _ _ ⟨(((HS.1).far9 _ _ hbx.1).far9 _ _ hbx.1).far9 _ _ hbx.1, (((HS.2).far9 _ _ hbx.2).far9 _ _ hbx.2).far9 _ _ hbx.2⟩ (fun HS => ?_)
              clear hK K
              refine wpAnyH_take (i := 18) (v := ?_) rfl (by kernel_rfl) (by kernel_rfl) (by kernel_rfl) (fun _ _ _ h => h) (Or.inl ⟨by kernel_rfl, ?_⟩) HS ?_
              rotate_left
              · (rintro w ⟨⟨x0, x1, x2, x3, x4, x5, x6, x7⟩, ⟨y0, y1, y2, y3, y4⟩⟩; go_simp) <;> with_reducible rfl
              try simp only [Act.put, List.getElem_toArray, List.getElem_cons_succ, List.getElem_cons_zero, List.setIfInBounds_toArray, List.set_cons_zero, List.set_cons_succ]
              refine wpAnyH_done (by kernel_rfl) ?_ _
              clear HS
              have K1 : Hid (Y3 bt (.slice e1 nP f1) (.slice e2 nP f2) (.int .i64 (T + 1)) (((q5a.setCell ⟨bt, 0, none⟩ (.slice e1 nP f1)).setCell ⟨bt, 1, none⟩ (.slice e2 nP f2)).setCell ⟨bt, 2, none⟩ (.int .i64 (T + 1)))) := ((HAl.out.set0 _).set1 _).set2 _
              have K2 : Hid (Ar (((q5a.setCell ⟨bt, 0, none⟩ (.slice e1 nP f1)).setCell ⟨bt, 1, none⟩ (.slice e2 nP f2)).setCell ⟨bt, 2, none⟩ (.int .i64 (T + 1))) (.slice e1 nP f1) nP FM ∧ Ar (((q5a.setCell ⟨bt, 0, none⟩ (.slice e1 nP f1)).setCell ⟨bt, 1, none⟩ (.slice e2 nP f2)).setCell ⟨bt, 2, none⟩ (.int .i64 (T + 1))) (.slice e2 nP f2) nP FV ∧ Ar (((q5a.setCell ⟨bt, 0, none⟩ (.slice e1 nP f1)).setCell ⟨bt, 1, none⟩ (.slice e2 nP f2)).setCell ⟨bt, 2, none⟩ (.int .i64 (T + 1))) (.slice e3 nP f3) nP FY) := ⟨(((HTt.out.1).set9 ⟨bt, 0, none⟩ (.slice e1 nP f1) HTn.out.1).set9 ⟨bt, 1, none⟩ (.slice e2 nP f2) HTn.out.1).set9 ⟨bt, 2, none⟩ (.int .i64 (T + 1)) HTn.out.1, (((HTt.out.2.1).set9 ⟨bt, 0, none⟩ (.slice e1 nP f1) HTn.out.2.1).set9 ⟨bt, 1, none⟩ (.slice e2 nP f2) HTn.out.2.1).set9 ⟨bt, 2, none⟩ (.int .i64 (T + 1)) HTn.out.2.1, (((HTt.out.2.2).set9 ⟨bt, 0, none⟩ (.slice e1 nP f1) HTn.out.2.2).set9 ⟨bt, 1, none⟩ (.slice e2 nP f2) HTn.out.2.2).set9 ⟨bt, 2, none⟩ (.int .i64 (T + 1)) HTn.out.2.2⟩
              have K3 : Hid (G9 w du dv bs cc cc (.slice adu nP cau) (.slice adw nP caw) (.slice ady nP cay) (.int .i64 (T + 1)) nP FM FV FY (((q5a.setCell ⟨bt, 0, none⟩ (.slice e1 nP f1)).setCell ⟨bt, 1, none⟩ (.slice e2 nP f2)).setCell ⟨bt, 2, none⟩ (.int .i64 (T + 1)))) := ((HG.out.set HFb.out 0 _).set HFb.out 1 _).set HFb.out 2 _
              clear HAl HTt HG w0 w1 w2' g0 g1' g2'
              generalize (((q5a.setCell ⟨bt, 0, none⟩ (.slice e1 nP f1)).setCell ⟨bt, 1, none⟩ (.slice e2 nP f2)).setCell ⟨bt, 2, none⟩ (.int .i64 (T + 1))) = wE at *
              go_wp2
              go_meet
              case rel => exact ⟨bt, e1, e2, e3, f1, f2, f3, rfl, rfl, ⟨K1.out, K2.out⟩, K3⟩
          · go_simp
            have HFb : Hid (Fb9 w du dv bs (.slice adu nP cau) (.slice adw nP caw) (.slice ady nP cay) q1.heap.size) := HG.out.fresh (World.block_lt_of_cell? _ _ HS.2.c0)
            refine hK.out _ _ ⟨HS.1.later (bel1 _ _), HS.2.later (bel1 _ _)⟩ (fun HS => ?_)
            clear hK K
            have hbt : Below q1.heap.size q1 (q1.alloc (.cells #[.slice none 0 0, .slice none 0 0, .int .i64 0] 54)) := bel1 _ _
            have HAl : Hid (Y3 q1.heap.size (.slice none 0 0) (.slice none 0 0) (.int .i64 0) (q1.alloc (.cells #[.slice none 0 0, .slice none 0 0, .int .i64 0] 54))) := Y3.new _ _ _ _ _
            replace HG : Hid (G9 w du dv bs cc 0 (.slice adu nP cau) (.slice adw nP caw) (.slice ady nP cay) (.int .i64 (T + 1)) nP FM FV FY (q1.alloc (.cells #[.slice none 0 0, .slice none 0 0, .int .i64 0] 54))) := HG.out.later hbt
            replace HIn : Hid (Drp (q1.alloc (.cells #[.slice none 0 0, .slice none 0 0, .int .i64 0] 54)) (.slice ad9 nD ca9) nD at' fa) := HIn.out.later hbt
            clear hbt
            generalize (q1.alloc (.cells #[.slice none 0 0, .slice none 0 0, .int .i64 0] 54)) = q1x at *
            generalize q1.heap.size = bt at *
            refine wpAnyH_ready (rs := [5]) (by kernel_rfl) (by simp) ?_
            refine AllReadyH.cons rfl (fun K hK => ?_) AllReadyH.nil
            go_simp
            refine (CSs.out _ HG.out.L.B).mono ?_
            rintro e q2a ⟨t1, t2, rfl, hA1, hA2, hO1, hO2, hb⟩
            have HSn : Hid (Nb t1 dv ∧ Nb t2 dv) := ⟨hO1.nb (World.block_lt_of_cell? _ _ HG.out.L.v.1), hO2.nb (World.block_lt_of_cell? _ _ HG.out.L.v.1)⟩
            obtain ⟨c1, l1, m1', n1', rfl, -, -, -, -⟩ := id hA1
            obtain ⟨c2, l2, m2', n2', rfl, -, -, -, -⟩ := id hA2
            refine hK.out _ _ ⟨HS.1.later hb, HS.2.later hb⟩ (fun HS => ?_)
            clear hK K
            replace HG : Hid (G9 w du dv bs cc 0 (.slice adu nP cau) (.slice adw nP caw) (.slice ady nP cay) (.int .i64 (T + 1)) nP FM FV FY q2a) := HG.out.later hb
            replace HIn : Hid (Drp q2a (.slice ad9 nD ca9) nD at' fa) := HIn.out.later hb
            replace HAl : Hid (Y3 bt (.slice none 0 0) (.slice none 0 0) (.int .i64 0) q2a) := HAl.out.later hb
            have HSt : Hid (Ar q2a (.slice c1 nP l1) nP M ∧ Ar q2a (.slice c2 nP l2) nP V) := ⟨hA1, hA2⟩
            clear hb hA1 hA2 hO1 hO2
            refine wpAnyH_ready (rs := [8]) (by kernel_rfl) (by simp) ?_
            refine AllReadyH.cons rfl (fun K hK => ?_) AllReadyH.nil
            go_simp
            refine (CPp.out _ HG.out.L.B).mono ?_
            rintro e q3a ⟨t1, rfl, hA1, hO1, hb⟩
            have HPpn : Hid (Nb t1 dv) := hO1.nb (World.block_lt_of_cell? _ _ HG.out.L.v.1)
            obtain ⟨c3, l3, m1', n1', rfl, -, -, -, -⟩ := id hA1
            refine hK.out _ _ ⟨HS.1.later hb, HS.2.later hb⟩ (fun HS => ?_)
            clear hK K
            replace HG : Hid (G9 w du dv bs cc 0 (.slice adu nP cau) (.slice adw nP caw) (.slice ady nP cay) (.int .i64 (T + 1)) nP FM FV FY q3a) := HG.out.later hb
            replace HIn : Hid (Drp q3a (.slice ad9 nD ca9) nD at' fa) := HIn.out.later hb
            replace HSt : Hid (Ar q3a (.slice c1 nP l1) nP M ∧ Ar q3a (.slice c2 nP l2) nP V) := ⟨HSt.out.1.later hb, HSt.out.2.later hb⟩
            replace HAl : Hid (Y3 bt (.slice none 0 0) (.slice none 0 0) (.int .i64 0) q3a) := HAl.out.later hb
            have HPp : Hid (Ar q3a (.slice c3 nP l3) nP P) := hA1
            clear hb hA1 hO1
            refine wpAnyH_ready (rs := [11]) (by kernel_rfl) (by simp) ?_
            refine AllReadyH.cons rfl (fun K hK => ?_) AllReadyH.nil
            go_simp
            refine (CPg.out _ HG.out.L.B).mono ?_
            rintro e q4a ⟨t1, rfl, hA1, hO1, hb⟩
            have HPgn : Hid (Nb t1 dv) := hO1.nb (World.block_lt_of_cell? _ _ HG.out.L.v.1)
            obtain ⟨c4, l4, m1', n1', rfl, -, -, -, -⟩ := id hA1
            refine hK.out _ _ ⟨HS.1.later hb, HS.2.later hb⟩ (fun HS => ?_)
            clear hK K
            replace HG : Hid (G9 w du dv bs cc 0 (.slice adu nP cau) (.slice adw nP caw) (.slice ady nP cay) (.int .i64 (T + 1)) nP FM FV FY q4a) := HG.out.later hb
            replace HIn : Hid (Drp q4a (.slice ad9 nD ca9) nD at' fa) := HIn.out.later hb
            replace HSt : Hid (Ar q4a (.slice c1 nP l1) nP M ∧ Ar q4a (.slice c2 nP l2) nP V) := ⟨HSt.out.1.later hb, HSt.out.2.later hb⟩
            replace HPp : Hid (Ar q4a (.slice c3 nP l3) nP P) := HPp.out.later hb
            replace HAl : Hid (Y3 bt (.slice none 0 0) (.slice none 0 0) (.int .i64 0) q4a) := HAl.out.later hb
            have HPg : Hid (Ar q4a (.slice c4 nP l4) nP G) := hA1
            clear hb hA1 hO1
            refine wpAnyH_ready (rs := [12]) (by kernel_rfl) (by simp) ?_
            refine AllReadyH.cons rfl (fun K hK => ?_) AllReadyH.nil
            go_simp
            refine (CSt.out q4a _ _ _ _ _ HIn.out HSt.out.1 HSt.out.2 HPp.out HPg.out HSn.out.1 HSn.out.2 HPpn.out HPgn.out HG.out.L.v).mono ?_
            rintro e q5a ⟨t1, t2, t3, rfl, hA1, hA2, hA3, ⟨hO1, hO2, hO3⟩, hU⟩
            have HTn : Hid (Nb t1 bt ∧ Nb t2 bt ∧ Nb t3 bt) := ⟨hO1.nb HAl.out.lt, hO2.nb HAl.out.lt, hO3.nb HAl.out.lt⟩
            obtain ⟨e1, f1, m1', n1', rfl, -, -, -, -⟩ := id hA1
            obtain ⟨e2, f2, m2', n2', rfl, -, -, -, -⟩ := id hA2
            obtain ⟨e3, f3, m3', n3', rfl, -, -, -, -⟩ := id hA3
            refine hK.out _ _ ⟨HS.1.un hU hwv, HS.2.un hU hwv1⟩ (fun HS => ?_)
            clear hK K
            replace HG : Hid (G9 w du dv bs cc cc (.slice adu nP cau) (.slice adw nP caw) (.slice ady nP cay) (.int .i64 (T + 1)) nP FM FV FY q5a) := HG.out.unv hU hdv0 hne hbsv HUn.out
            have HTt : Hid (Ar q5a (.slice e1 nP f1) nP FM ∧ Ar q5a (.slice e2 nP f2) nP FV ∧ Ar q5a (.slice e3 nP f3) nP FY) := ⟨hA1, hA2, hA3⟩
            replace HAl : Hid (Y3 bt (.slice none 0 0) (.slice none 0 0) (.int .i64 0) q5a) := HAl.out.un hU HFb.out.1.2.2.1
            clear hU hA1 hA2 hA3 hO1 hO2 hO3 HIn HSt HPp HPg HSn HPpn HPgn
            refine wpAnyH_take (i := 13) (v := ?_) rfl (by kernel_rfl) (by kernel_rfl) (by kernel_rfl) (fun _ _ _ h => h) (Or.inl ⟨by kernel_rfl, ?_⟩) HS ?_
            rotate_left
            · (rintro w ⟨⟨x0, x1, x2, x3, x4, x5, x6, x7⟩, ⟨y0, y1, y2, y3, y4⟩⟩; go_simp) <;> with_reducible rfl
            try simp only [Act.put, List.getElem_toArray, List.getElem_cons_succ, List.getElem_cons_zero, List.setIfInBounds_toArray, List.set_cons_zero, List.set_cons_succ]
            refine wpAnyH_take (i := 14) (v := ?_) rfl (by kernel_rfl) (by kernel_rfl) (by kernel_rfl) (fun _ _ _ h => h) (Or.inl ⟨by kernel_rfl, ?_⟩) HS ?_
            rotate_left
            · (rintro w ⟨⟨x0, x1, x2, x3, x4, x5, x6, x7⟩, ⟨y0, y1, y2, y3, y4⟩⟩; go_simp) <;> with_reducible rfl
            try simp only [Act.put, List.getElem_toArray, List.getElem_cons_succ, List.getElem_cons_zero, List.setIfInBounds_toArray, List.set_cons_zero, List.set_cons_succ]
            refine wpAnyH_take (i := 15) (v := ?_) rfl (by kernel_rfl) (by kernel_rfl) (by kernel_rfl) (fun _ _ _ h => h) (Or.inl ⟨by kernel_rfl, ?_⟩) HS ?_
            rotate_left
            · (rintro w ⟨⟨x0, x1, x2, x3, x4, x5, x6, x7⟩, ⟨y0, y1, y2, y3, y4⟩⟩; go_simp) <;> with_reducible rfl
            try simp only [Act.put, List.getElem_toArray, List.getElem_cons_succ, List.getElem_cons_zero, List.setIfInBounds_toArray, List.set_cons_zero, List.set_cons_succ]
            have w0 := HAl.out.c0
            have w1 := HAl.out.c1
            have w2' := HAl.out.c2
            have g0 := HAl.out.f0
            have g1' := HAl.out.f1
            have g2' := HAl.out.f2
            have hbx : bt ≠ w.heap.size ∧ bt ≠ w.heap.size + 1 := by have := HFb.out.1.1; omega
            refine wpAnyH_ready (rs := [17]) (by kernel_rfl) (by simp) ?_
            refine AllReadyH.cons rfl (fun K hK => ?_) AllReadyH.nil
            go_simp
            refine hK.out _ _ ⟨(((HS.1).far9 _ _ hbx.1).far9 _ _ hbx.1).far9 _ _ hbx.1, (((HS.2).far9 _ _ hbx.2).far9 _ _ hbx.2).far9 _ _ hbx.2⟩ (fun HS => ?_)
            clear hK K
            refine wpAnyH_take (i := 18) (v := ?_) rfl (by kernel_rfl) (by kernel_rfl) (by kernel_rfl) (fun _ _ _ h => h) (Or.inl ⟨by kernel_rfl, ?_⟩) HS ?_
            rotate_left
            · (rintro w ⟨⟨x0, x1, x2, x3, x4, x5, x6, x7⟩, ⟨y0, y1, y2, y3, y4⟩⟩; go_simp) <;> with_reducible rfl
            try simp only [Act.put, List.getElem_toArray, List.getElem_cons_succ, List.getElem_cons_zero, List.setIfInBounds_toArray, List.set_cons_zero, List.set_cons_succ]
            refine wpAnyH_done (by kernel_rfl) ?_ _
            clear HS
            have K1 : Hid (Y3 bt (.slice e1 nP f1) (.slice e2 nP f2) (.int .i64 (T + 1)) (((q5a.setCell ⟨bt, 0, none⟩ (.slice e1 nP f1)).setCell ⟨bt, 1, none⟩ (.slice e2 nP f2)).setCell ⟨bt, 2, none⟩ (.int .i64 (T + 1)))) := ((HAl.out.set0 _).set1 _).set2 _
            have K2 : Hid (Ar (((q5a.setCell ⟨bt, 0, none⟩ (.slice e1 nP f1)).setCell ⟨bt, 1, none⟩ (.slice e2 nP f2)).setCell ⟨bt, 2, none⟩ (.int .i64 (T + 1))) (.slice e1 nP f1) nP FM ∧ Ar (((q5a.setCell ⟨bt, 0, none⟩ (.slice e1 nP f1)).setCell ⟨bt, 1, none⟩ (.slice e2 nP f2)).setCell ⟨bt, 2, none⟩ (.int .i64 (T + 1))) (.slice e2 nP f2) nP FV ∧ Ar (((q5a.setCell ⟨bt, 0, none⟩ (.slice e1 nP f1)).setCell ⟨bt, 1, none⟩ (.slice e2 nP f2)).setCell ⟨bt, 2, none⟩ (.int .i64 (T + 1))) (.slice e3 nP f3) nP FY) := ⟨(((HTt.out.1).set9 ⟨bt, 0, none⟩ (.slice e1 nP f1) HTn.out.1).set9 ⟨bt, 1, none⟩ (.slice e2 nP f2) HTn.out.1).set9 ⟨bt, 2, none⟩ (.int .i64 (T + 1)) HTn.out.1, (((HTt.out.2.1).set9 ⟨bt, 0, none⟩ (.slice e1 nP f1) HTn.out.2.1).set9 ⟨bt, 1, none⟩ (.slice e2 nP f2) HTn.out.2.1).set9 ⟨bt, 2, none⟩ (.int .i64 (T + 1)) HTn.out.2.1, (((HTt.out.2.2).set9 ⟨bt, 0, none⟩ (.slice e1 nP f1) HTn.out.2.2).set9 ⟨bt, 1, none⟩ (.slice e2 nP f2) HTn.out.2.2).set9 ⟨bt, 2, none⟩ (.int .i64 (T + 1)) HTn.out.2.2⟩
            have K3 : Hid (G9 w du dv bs cc cc (.slice adu nP cau) (.slice adw nP caw) (.slice ady nP cay) (.int .i64 (T + 1)) nP FM FV FY (((q5a.setCell ⟨bt, 0, none⟩ (.slice e1 nP f1)).setCell ⟨bt, 1, none⟩ (.slice e2 nP f2)).setCell ⟨bt, 2, none⟩ (.int .i64 (T + 1)))) := ((HG.out.set HFb.out 0 _).set HFb.out 1 _).set HFb.out 2 _
            clear HAl HTt HG w0 w1 w2' g0 g1' g2'
            generalize (((q5a.setCell ⟨bt, 0, none⟩ (.slice e1 nP f1)).setCell ⟨bt, 1, none⟩ (.slice e2 nP f2)).setCell ⟨bt, 2, none⟩ (.int .i64 (T + 1))) = wE at *
            go_wp2
            go_meet
            case rel => exact ⟨bt, e1, e2, e3, f1, f2, f3, rfl, rfl, ⟨K1.out, K2.out⟩, K3⟩
        · go_simp
          have HFb : Hid (Fb9 w du dv bs (.slice adu nP cau) (.slice adw nP caw) (.slice ady nP cay) q0.heap.size) := HG.out.fresh (World.block_lt_of_cell? _ _ HS.2.c0)
          refine hK.out _ _ ⟨HS.1.later (bel1 _ _), HS.2.later (bel1 _ _)⟩ (fun HS => ?_)
          clear hK K
          have hbt : Below q0.heap.size q0 (q0.alloc (.cells #[.slice none 0 0, .slice none 0 0, .int .i64 0] 54)) := bel1 _ _
          have HAl : Hid (Y3 q0.heap.size (.slice none 0 0) (.slice none 0 0) (.int .i64 0) (q0.alloc (.cells #[.slice none 0 0, .slice none 0 0, .int .i64 0] 54))) := Y3.new _ _ _ _ _
          replace HG : Hid (G9 w du dv bs cc 0 (.slice adu nP cau) (.slice adw nP caw) (.slice ady nP cay) (.int .i64 (T + 1)) nP FM FV FY (q0.alloc (.cells #[.slice none 0 0, .slice none 0 0, .int .i64 0] 54))) := HG.out.later hbt
          clear hbt
          generalize (q0.alloc (.cells #[.slice none 0 0, .slice none 0 0, .int .i64 0] 54)) = q0x at *
          generalize q0.heap.size = bt at *
          refine wpAnyH_ready (rs := [2]) (by kernel_rfl) (by simp) ?_
          refine AllReadyH.cons rfl (fun K hK => ?_) AllReadyH.nil
          go_simp
          refine (CI3.out _ HG.out.L.B).mono ?_
          rintro e q1a ⟨v9, rfl, hD9, hb⟩
          obtain ⟨ad9, ca9, b9, o9, rfl, -, -, -, -⟩ := id hD9
          refine hK.out _ _ ⟨HS.1.later hb, HS.2.later hb⟩ (fun HS => ?_)
          clear hK K
          replace HG : Hid (G9 w du dv bs cc 0 (.slice adu nP cau) (.slice adw nP caw) (.slice ady nP cay) (.int .i64 (T + 1)) nP FM FV FY q1a) := HG.out.later hb
          replace HAl : Hid (Y3 bt (.slice none 0 0) (.slice none 0 0) (.int .i64 0) q1a) := HAl.out.later hb
          have HIn : Hid (Drp q1a (.slice ad9 nD ca9) nD at' fa) := hD9
          clear hb hD9
          refine wpAnyH_ready (rs := [5]) (by kernel_rfl) (by simp) ?_
          refine AllReadyH.cons rfl (fun K hK => ?_) AllReadyH.nil
          go_simp
          refine (CSs.out _ HG.out.L.B).mono ?_
          rintro e q2a ⟨t1, t2, rfl, hA1, hA2, hO1, hO2, hb⟩
          have HSn : Hid (Nb t1 dv ∧ Nb t2 dv) := ⟨hO1.nb (World.block_lt_of_cell? _ _ HG.out.L.v.1), hO2.nb (World.block_lt_of_cell? _ _ HG.out.L.v.1)⟩
          obtain ⟨c1, l1, m1', n1', rfl, -, -, -, -⟩ := id hA1
          obtain ⟨c2, l2, m2', n2', rfl, -, -, -, -⟩ := id hA2
          refine hK.out _ _ ⟨HS.1.later hb, HS.2.later hb⟩ (fun HS => ?_)
          clear hK K
          replace HG : Hid (G9 w du dv bs cc 0 (.slice adu nP cau) (.slice adw nP caw) (.slice ady nP cay) (.int .i64 (T + 1)) nP FM FV FY q2a) := HG.out.later hb
          replace HIn : Hid (Drp q2a (.slice ad9 nD ca9) nD at' fa) := HIn.out.later hb
          replace HAl : Hid (Y3 bt (.slice none 0 0) (.slice none 0 0) (.int .i64 0) q2a) := HAl.out.later hb
          have HSt : Hid (Ar q2a (.slice c1 nP l1) nP M ∧ Ar q2a (.slice c2 nP l2) nP V) := ⟨hA1, hA2⟩
          clear hb hA1 hA2 hO1 hO2
          refine wpAnyH_ready (rs := [8]) (by kernel_rfl) (by simp) ?_
          refine AllReadyH.cons rfl (fun K hK => ?_) AllReadyH.nil
          go_simp
          refine (CPp.out _ HG.out.L.B).mono ?_
          rintro e q3a ⟨t1, rfl, hA1, hO1, hb⟩
          have HPpn : Hid (Nb t1 dv) := hO1.nb (World.block_lt_of_cell? _ _ HG.out.L.v.1)
          obtain ⟨c3, l3, m1', n1', rfl, -, -, -, -⟩ := id hA1
          refine hK.out _ _ ⟨HS.1.later hb, HS.2.later hb⟩ (fun HS => ?_)
          clear hK K
          replace HG : Hid (G9 w du dv bs cc 0 (.slice adu nP cau) (.slice adw nP caw) (.slice ady nP cay) (.int .i64 (T + 1)) nP FM FV FY q3a) := HG.out.later hb
          replace HIn : Hid (Drp q3a (.slice ad9 nD ca9) nD at' fa) := HIn.out.later hb
          replace HSt : Hid (Ar q3a (.slice c1 nP l1) nP M ∧ Ar q3a (.slice c2 nP l2) nP V) := ⟨HSt.out.1.later hb, HSt.out.2.later hb⟩
          replace HAl : Hid (Y3 bt (.slice none 0 0) (.slice none 0 0) (.int .i64 0) q3a) := HAl.out.later hb
          have HPp : Hid (Ar q3a (.slice c3 nP l3) nP P) := hA1
          clear hb hA1 hO1
          refine wpAnyH_ready (rs := [11]) (by kernel_rfl) (by simp) ?_
          refine AllReadyH.cons rfl (fun K hK => ?_) AllReadyH.nil
          go_simp
          refine (CPg.out _ HG.out.L.B).mono ?_
          rintro e q4a ⟨t1, rfl, hA1, hO1, hb⟩
          have HPgn : Hid (Nb t1 dv) := hO1.nb (World.block_lt_of_cell? _ _ HG.out.L.v.1)
          obtain ⟨c4, l4, m1', n1', rfl, -, -, -, -⟩ := id hA1
          refine hK.out _ _ ⟨HS.1.later hb, HS.2.later hb⟩ (fun HS => ?_)
          clear hK K
          replace HG : Hid (G9 w du dv bs cc 0 (.slice adu nP cau) (.slice adw nP caw) (.slice ady nP cay) (.int .i64 (T + 1)) nP FM FV FY q4a) := HG.out.later hb
          replace HIn : Hid (Drp q4a (.slice ad9 nD ca9) nD at' fa) := HIn.out.later hb
          replace HSt : Hid (Ar q4a (.slice c1 nP l1) nP M ∧ Ar q4a (.slice c2 nP l2) nP V) := ⟨HSt.out.1.later hb, HSt.out.2.later hb⟩
          replace HPp : Hid (Ar q4a (.slice c3 nP l3) nP P) := HPp.out.later hb
          replace HAl : Hid (Y3 bt (.slice none 0 0) (.slice none 0 0) (.int .i64 0) q4a) := HAl.out.later hb
          have HPg : Hid (Ar q4a (.slice c4 nP l4) nP G) := hA1
          clear hb hA1 hO1
          refine wpAnyH_ready (rs := [12]) (by kernel_rfl) (by simp) ?_
          refine AllReadyH.cons rfl (fun K hK => ?_) AllReadyH.nil
          go_simp
          refine (CSt.out q4a _ _ _ _ _ HIn.out HSt.out.1 HSt.out.2 HPp.out HPg.out HSn.out.1 HSn.out.2 HPpn.out HPgn.out HG.out.L.v).mono ?_
          rintro e q5a ⟨t1, t2, t3, rfl, hA1, hA2, hA3, ⟨hO1, hO2, hO3⟩, hU⟩
          have HTn : Hid (Nb t1 bt ∧ Nb t2 bt ∧ Nb t3 bt) := ⟨hO1.nb HAl.out.lt, hO2.nb HAl.out.lt, hO3.nb HAl.out.lt⟩
          obtain ⟨e1, f1, m1', n1', rfl, -, -, -, -⟩ := id hA1
          obtain ⟨e2, f2, m2', n2', rfl, -, -, -, -⟩ := id hA2
          obtain ⟨e3, f3, m3', n3', rfl, -, -, -, -⟩ := id hA3
          refine hK.out _ _ ⟨HS.1.un hU hwv, HS.2.un hU hwv1⟩ (fun HS => ?_)
          clear hK K
          replace HG : Hid (G9 w du dv bs cc cc (.slice adu nP cau) (.slice adw nP caw) (.slice ady nP cay) (.int .i64 (T + 1)) nP FM FV FY q5a) := HG.out.unv hU hdv0 hne hbsv HUn.out
          have HTt : Hid (Ar q5a (.slice e1 nP f1) nP FM ∧ Ar q5a (.slice e2 nP f2) nP FV ∧ Ar q5a (.slice e3 nP f3) nP FY) := ⟨hA1, hA2, hA3⟩
          replace HAl : Hid (Y3 bt (.slice none 0 0) (.slice none 0 0) (.int .i64 0) q5a) := HAl.out.un hU HFb.out.1.2.2.1
          clear hU hA1 hA2 hA3 hO1 hO2 hO3 HIn HSt HPp HPg HSn HPpn HPgn
          refine wpAnyH_take (i := 13) (v := ?_) rfl (by kernel_rfl) (by kernel_rfl) (by kernel_rfl) (fun _ _ _ h => h) (Or.inl ⟨by kernel_rfl, ?_⟩) HS ?_
          rotate_left
          · (rintro w ⟨⟨x0, x1, x2, x3, x4, x5, x6, x7⟩, ⟨y0, y1, y2, y3, y4⟩⟩; go_simp) <;> with_reducible rfl
          try simp only [Act.put, List.getElem_toArray, List.getElem_cons_succ, List.getElem_cons_zero, List.setIfInBounds_toArray, List.set_cons_zero, List.set_cons_succ]
          refine wpAnyH_take (i := 14) (v := ?_) rfl (by kernel_rfl) (by kernel_rfl) (by kernel_rfl) (fun _ _ _ h => h) (Or.inl ⟨by kernel_rfl, ?_⟩) HS ?_
          rotate_left
          · (rintro w ⟨⟨x0, x1, x2, x3, x4, x5, x6, x7⟩, ⟨y0, y1, y2, y3, y4⟩⟩; go_simp) <;> with_reducible rfl
          try simp only [Act.put, List.getElem_toArray, List.getElem_cons_succ, List.getElem_cons_zero, List.setIfInBounds_toArray, List.set_cons_zero, List.set_cons_succ]
          refine wpAnyH_take (i := 15) (v := ?_) rfl (by kernel_rfl) (by kernel_rfl) (by kernel_rfl) (fun _ _ _ h => h) (Or.inl ⟨by kernel_rfl, ?_⟩) HS ?_
          rotate_left
          · (rintro w ⟨⟨x0, x1, x2, x3, x4, x5, x6, x7⟩, ⟨y0, y1, y2, y3, y4⟩⟩; go_simp) <;> with_reducible rfl
          try simp only [Act.put, List.getElem_toArray, List.getElem_cons_succ, List.getElem_cons_zero, List.setIfInBounds_toArray, List.set_cons_zero, List.set_cons_succ]
          have w0 := HAl.out.c0
          have w1 := HAl.out.c1
          have w2' := HAl.out.c2
          have g0 := HAl.out.f0
          have g1' := HAl.out.f1
          have g2' := HAl.out.f2
          have hbx : bt ≠ w.heap.size ∧ bt ≠ w.heap.size + 1 := by have := HFb.out.1.1; omega
          refine wpAnyH_ready (rs := [17]) (by kernel_rfl) (by simp) ?_
          refine AllReadyH.cons rfl (fun K hK => ?_) AllReadyH.nil
          go_simp
          refine hK.out _ _ ⟨(((HS.1).far9 _ _ hbx.1).far9 _ _ hbx.1).far9 _ _ hbx.1, (((HS.2).far9 _ _ hbx.2).far9 _ _ hbx.2).far9 _ _ hbx.2⟩ (fun HS => ?_)
          clear hK K
          refine wpAnyH_take (i := 18) (v := ?_) rfl (by kernel_rfl) (by kernel_rfl) (by kernel_rfl) (fun _ _ _ h => h) (Or.inl ⟨by kernel_rfl, ?_⟩) HS ?_
          rotate_left
          · (rintro w ⟨⟨x0, x1, x2, x3, x4, x5, x6, x7⟩, ⟨y0, y1, y2, y3, y4⟩⟩; go_simp) <;> with_reducible rfl
          try simp only [Act.put, List.getElem_toArray, List.getElem_cons_succ, List.getElem_cons_zero, List.setIfInBounds_toArray, List.set_cons_zero, List.set_cons_succ]
          refine wpAnyH_done (by kernel_rfl) ?_ _
          clear HS
          have K1 : Hid (Y3 bt (.slice e1 nP f1) (.slice e2 nP f2) (.int .i64 (T + 1)) (((q5a.setCell ⟨bt, 0, none⟩ (.slice e1 nP f1)).setCell ⟨bt, 1, none⟩ (.slice e2 nP f2)).setCell ⟨bt, 2, none⟩ (.int .i64 (T + 1)))) := ((HAl.out.set0 _).set1 _).set2 _
          have K2 : Hid (Ar (((q5a.setCell ⟨bt, 0, none⟩ (.slice e1 nP f1)).setCell ⟨bt, 1, none⟩ (.slice e2 nP f2)).setCell ⟨bt, 2, none⟩ (.int .i64 (T + 1))) (.slice e1 nP f1) nP FM ∧ Ar (((q5a.setCell ⟨bt, 0, none⟩ (.slice e1 nP f1)).setCell ⟨bt, 1, none⟩ (.slice e2 nP f2)).setCell ⟨bt, 2, none⟩ (.int .i64 (T + 1))) (.slice e2 nP f2) nP FV ∧ Ar (((q5a.setCell ⟨bt, 0, none⟩ (.slice e1 nP f1)).setCell ⟨bt, 1, none⟩ (.slice e2 nP f2)).setCell ⟨bt, 2, none⟩ (.int .i64 (T + 1))) (.slice e3 nP f3) nP FY) := ⟨(((HTt.out.1).set9 ⟨bt, 0, none⟩ (.slice e1 nP f1) HTn.out.1).set9 ⟨bt, 1, none⟩ (.slice e2 nP f2) HTn.out.1).set9 ⟨bt, 2, none⟩ (.int .i64 (T + 1)) HTn.out.1, (((HTt.out.2.1).set9 ⟨bt, 0, none⟩ (.slice e1 nP f1) HTn.out.2.1).set9 ⟨bt, 1, none⟩ (.slice e2 nP f2) HTn.out.2.1).set9 ⟨bt, 2, none⟩ (.int .i64 (T + 1)) HTn.out.2.1, (((HTt.out.2.2).set9 ⟨bt, 0, none⟩ (.slice e1 nP f1) HTn.out.2.2).set9 ⟨bt, 1, none⟩ (.slice e2 nP f2) HTn.out.2.2).set9 ⟨bt, 2, none⟩ (.int .i64 (T + 1)) HTn.out.2.2⟩
          have K3 : Hid (G9 w du dv bs cc cc (.slice adu nP cau) (.slice adw nP caw) (.slice ady nP cay) (.int .i64 (T + 1)) nP FM FV FY (((q5a.setCell ⟨bt, 0, none⟩ (.slice e1 nP f1)).setCell ⟨bt, 1, none⟩ (.slice e2 nP f2)).setCell ⟨bt, 2, none⟩ (.int .i64 (T + 1)))) := ((HG.out.set HFb.out 0 _).set HFb.out 1 _).set HFb.out 2 _
          clear HAl HTt HG w0 w1 w2' g0 g1' g2'
          generalize (((q5a.setCell ⟨bt, 0, none⟩ (.slice e1 nP f1)).setCell ⟨bt, 1, none⟩ (.slice e2 nP f2)).setCell ⟨bt, 2, none⟩ (.int .i64 (T + 1))) = wE at *
          go_wp2
          go_meet
          case rel => exact ⟨bt, e1, e2, e3, f1, f2, f3, rfl, rfl, ⟨K1.out, K2.out⟩, K3⟩
      case rest =>
        obtain ⟨bt, a1, a2, a3, k1, k2, k3, rfl, rfl, HTt, HGc⟩ := hcut
        clear HL9 HS9 HU9 HX7 HN7
        go_upto_region 17 with fail
        have hbD : Below wc.heap.size wc wc.drew := (Below.refl _ _).drew
        have HL : Hid (L2 w du dv cc cc wc.drew) := HGc.out.L.later hbD
        have HTa : Hid (Ar wc.drew (.slice a1 nP k1) nP FM ∧ Ar wc.drew (.slice a2 nP k2) nP FV ∧ Ar wc.drew (.slice a3 nP k3) nP FY) := ⟨HTt.out.2.1.later hbD, HTt.out.2.2.1.later hbD, HTt.out.2.2.2.later hbD⟩
        have HUa : Hid (Ar wc.drew (.slice adu nP cau) nP FM ∧ Ar wc.drew (.slice adw nP caw) nP FV ∧ Ar wc.drew (.slice ady nP cay) nP FY) := ⟨HGc.out.a1.later hbD, HGc.out.a2.later hbD, HGc.out.a3.later hbD⟩
        refine wp_region_held_drew (S := fun W' => Y3 bs (.slice adu nP cau) (.slice adw nP caw) (.int .i64 (T + 1)) W' ∧ Y3 bt (.slice a1 nP k1) (.slice a2 nP k2) (.int .i64 (T + 1)) W' ∧ W'.cell? ⟨dv, 0, none⟩ = some (.int .i64 cc)) (by kernel_rfl) ⟨HGc.out.S.later hbD, HTt.out.1.later hbD, cell_later hbD HGc.out.L.v.1⟩ (fun HS => ?_)
        clear hbD HTt HGc
        generalize wc.drew = q0 at *
        refine wpAnyH_take (i := 0) (v := ?_) rfl (by kernel_rfl) (by kernel_rfl) (by kernel_rfl) (fun _ _ _ h => h) (Or.inl ⟨by kernel_rfl, ?_⟩) HS ?_
        rotate_left
        · (rintro w ⟨⟨s0, s1, s2, s3, s4, s5⟩, ⟨r0, r1, r2, r3, r4, r5⟩, cdv⟩; go_simp) <;> with_reducible rfl
        try simp only [Act.put, List.getElem_toArray, List.getElem_cons_succ, List.getElem_cons_zero, List.setIfInBounds_toArray, List.set_cons_zero, List.set_cons_succ]
        refine wpAnyH_take (i := 1) (v := ?_) rfl (by kernel_rfl) (by kernel_rfl) (by kernel_rfl) (fun _ _ _ h => h) (Or.inl ⟨by kernel_rfl, ?_⟩) HS ?_
        rotate_left
        · (rintro w ⟨⟨s0, s1, s2, s3, s4, s5⟩, ⟨r0, r1, r2, r3, r4, r5⟩, cdv⟩; go_simp) <;> with_reducible rfl
        try simp only [Act.put, List.getElem_toArray, List.getElem_cons_succ, List.getElem_cons_zero, List.setIfInBounds_toArray, List.set_cons_zero, List.set_cons_succ]
        refine wpAnyH_take (i := 2) (v := ?_) rfl (by kernel_rfl) (by kernel_rfl) (by kernel_rfl) (fun _ _ _ h => h) (Or.inl ⟨by kernel_rfl, ?_⟩) HS ?_
        rotate_left
        · (rintro w ⟨⟨s0, s1, s2, s3, s4, s5⟩, ⟨r0, r1, r2, r3, r4, r5⟩, cdv⟩; go_simp) <;> with_reducible rfl
        try simp only [Act.put, List.getElem_toArray, List.getElem_cons_succ, List.getElem_cons_zero, List.setIfInBounds_toArray, List.set_cons_zero, List.set_cons_succ]
        refine wpAnyH_take (i := 3) (v := ?_) rfl (by kernel_rfl) (by kernel_rfl) (by kernel_rfl) (fun _ _ _ h => h) (Or.inl ⟨by kernel_rfl, ?_⟩) HS ?_
        rotate_left
        · (rintro w ⟨⟨s0, s1, s2, s3, s4, s5⟩, ⟨r0, r1, r2, r3, r4, r5⟩, cdv⟩; go_simp) <;> with_reducible rfl
        try simp only [Act.put, List.getElem_toArray, List.getElem_cons_succ, List.getElem_cons_zero, List.setIfInBounds_toArray, List.set_cons_zero, List.set_cons_succ]
        refine wpAnyH_take (i := 4) (v := ?_) rfl (by kernel_rfl) (by kernel_rfl) (by kernel_rfl) (fun _ _ _ h => h) (Or.inl ⟨by kernel_rfl, ?_⟩) HS ?_
        rotate_left
        · (rintro w ⟨⟨s0, s1, s2, s3, s4, s5⟩, ⟨r0, r1, r2, r3, r4, r5⟩, cdv⟩; go_simp) <;> with_reducible rfl
        try simp only [Act.put, List.getElem_toArray, List.getElem_cons_succ, List.getElem_cons_zero, List.setIfInBounds_toArray, List.set_cons_zero, List.set_cons_succ]
        refine wpAnyH_take (i := 5) (v := ?_) rfl (by kernel_rfl) (by kernel_rfl) (by kernel_rfl) (fun _ _ _ h => h) (Or.inl ⟨by kernel_rfl, ?_⟩) HS ?_
        rotate_left
        · (rintro w ⟨⟨s0, s1, s2, s3, s4, s5⟩, ⟨r0, r1, r2, r3, r4, r5⟩, cdv⟩; go_simp) <;> with_reducible rfl
        try simp only [Act.put, List.getElem_toArray, List.getElem_cons_succ, List.getElem_cons_zero, List.setIfInBounds_toArray, List.set_cons_zero, List.set_cons_succ]
        refine wpAnyH_take (i := 6) (v := ?_) rfl (by kernel_rfl) (by kernel_rfl) (by kernel_rfl) (fun _ _ _ h => h) (Or.inl ⟨by kernel_rfl, ?_⟩) HS ?_
        rotate_left
        · (rintro w ⟨⟨s0, s1, s2, s3, s4, s5⟩, ⟨r0, r1, r2, r3, r4, r5⟩, cdv⟩; go_simp) <;> with_reducible rfl
        try simp only [Act.put, List.getElem_toArray, List.getElem_cons_succ, List.getElem_cons_zero, List.setIfInBounds_toArray, List.set_cons_zero, List.set_cons_succ]
        refine wpAnyH_take (i := 7) (v := ?_) rfl (by kernel_rfl) (by kernel_rfl) (by kernel_rfl) (fun _ _ _ h => h) (Or.inl ⟨by kernel_rfl, ?_⟩) HS ?_
        rotate_left
        · (rintro w ⟨⟨s0, s1, s2, s3, s4, s5⟩, ⟨r0, r1, r2, r3, r4, r5⟩, cdv⟩; go_simp) <;> with_reducible rfl
        try simp only [Act.put, List.getElem_toArray, List.getElem_cons_succ, List.getElem_cons_zero, List.setIfInBounds_toArray, List.set_cons_zero, List.set_cons_succ]
        refine wpAnyH_take (i := 8) (v := ?_) rfl (by kernel_rfl) (by kernel_rfl) (by kernel_rfl) (fun _ _ _ h => h) (Or.inl ⟨by kernel_rfl, ?_⟩) HS ?_
        rotate_left
        · (rintro w ⟨⟨s0, s1, s2, s3, s4, s5⟩, ⟨r0, r1, r2, r3, r4, r5⟩, cdv⟩; go_simp) <;> with_reducible rfl
        try simp only [Act.put, List.getElem_toArray, List.getElem_cons_succ, List.getElem_cons_zero, List.setIfInBounds_toArray, List.set_cons_zero, List.set_cons_succ]
        refine wpAnyH_take (i := 9) (v := ?_) rfl (by kernel_rfl) (by kernel_rfl) (by kernel_rfl) (fun _ _ _ h => h) (Or.inl ⟨by kernel_rfl, ?_⟩) HS ?_
        rotate_left
        · (rintro w ⟨⟨s0, s1, s2, s3, s4, s5⟩, ⟨r0, r1, r2, r3, r4, r5⟩, cdv⟩; go_simp) <;> with_reducible rfl
        try simp only [Act.put, List.getElem_toArray, List.getElem_cons_succ, List.getElem_cons_zero, List.setIfInBounds_toArray, List.set_cons_zero, List.set_cons_succ]
        refine wpAnyH_take (i := 10) (v := ?_) rfl (by kernel_rfl) (by kernel_rfl) (by kernel_rfl) (fun _ _ _ h => h) (Or.inl ⟨by kernel_rfl, ?_⟩) HS ?_
        rotate_left
        · (rintro w ⟨⟨s0, s1, s2, s3, s4, s5⟩, ⟨r0, r1, r2, r3, r4, r5⟩, cdv⟩; go_simp) <;> with_reducible rfl
        try simp only [Act.put, List.getElem_toArray, List.getElem_cons_succ, List.getElem_cons_zero, List.setIfInBounds_toArray, List.set_cons_zero, List.set_cons_succ]
        refine wpAnyH_take (i := 11) (v := ?_) rfl (by kernel_rfl) (by kernel_rfl) (by kernel_rfl) (fun _ _ _ h => h) (Or.inl ⟨by kernel_rfl, ?_⟩) HS ?_
        rotate_left
        · (rintro w ⟨⟨s0, s1, s2, s3, s4, s5⟩, ⟨r0, r1, r2, r3, r4, r5⟩, cdv⟩; go_simp) <;> with_reducible rfl
        try simp only [Act.put, List.getElem_toArray, List.getElem_cons_succ, List.getElem_cons_zero, List.setIfInBounds_toArray, List.set_cons_zero, List.set_cons_succ]
        refine wpAnyH_take (i := 13) (v := ?_) rfl (by kernel_rfl) (by kernel_rfl) (by kernel_rfl) (fun _ _ _ h => h) (Or.inl ⟨by kernel_rfl, ?_⟩) HS ?_
        rotate_left
        · (rintro w ⟨⟨s0, s1, s2, s3, s4, s5⟩, ⟨r0, r1, r2, r3, r4, r5⟩, cdv⟩; go_simp) <;> with_reducible rfl
        try simp only [Act.put, List.getElem_toArray, List.getElem_cons_succ, List.getElem_cons_zero, List.setIfInBounds_toArray, List.set_cons_zero, List.set_cons_succ]
        refine wpAnyH_take (i := 14) (v := ?_) rfl (by kernel_rfl) (by kernel_rfl) (by kernel_rfl) (fun _ _ _ h => h) (Or.inl ⟨by kernel_rfl, ?_⟩) HS ?_
        rotate_left
        · (rintro w ⟨⟨s0, s1, s2, s3, s4, s5⟩, ⟨r0, r1, r2, r3, r4, r5⟩, cdv⟩; go_simp) <;> with_reducible rfl
        try simp only [Act.put, List.getElem_toArray, List.getElem_cons_succ, List.getElem_cons_zero, List.setIfInBounds_toArray, List.set_cons_zero, List.set_cons_succ]
        refine wpAnyH_ready (rs := [12]) (by kernel_rfl) (by simp) ?_
        refine AllReadyH.cons rfl (fun K hK => ?_) AllReadyH.nil
        go_simp
        refine (CPl.out q0 _ FM HUa.out.1).mono ?_
        rintro e s0p ⟨t1, rfl, hA1, -, hb⟩
        refine hK.out _ _ ⟨HS.1.later hb, HS.2.1.later hb, cell_later hb HS.2.2⟩ (fun HS => ?_)
        clear hK K
        replace HL : Hid (L2 w du dv cc cc s0p) := HL.out.later hb
        replace HTa : Hid (Ar s0p (.slice a1 nP k1) nP FM ∧ Ar s0p (.slice a2 nP k2) nP FV ∧ Ar s0p (.slice a3 nP k3) nP FY) := ⟨HTa.out.1.later hb, HTa.out.2.1.later hb, HTa.out.2.2.later hb⟩
        replace HUa : Hid (Ar s0p (.slice adu nP cau) nP FM ∧ Ar s0p (.slice adw nP caw) nP FV ∧ Ar s0p (.slice ady nP cay) nP FY) := ⟨HUa.out.1.later hb, HUa.out.2.1.later hb, HUa.out.2.2.later hb⟩
        clear hb
        have CS := same_yes _ _ nP FM (by omega) s0p hA1 HTa.out.1
        clear hA1
        refine wpAnyH_ready (rs := [15]) (by kernel_rfl) (by simp) ?_
        refine AllReadyH.cons rfl (fun K hK => ?_) AllReadyH.nil
        go_simp
        refine (CS).mono ?_
        rintro e s0s ⟨rfl, hb⟩
        refine hK.out _ _ ⟨HS.1.later hb, HS.2.1.later hb, cell_later hb HS.2.2⟩ (fun HS => ?_)
        clear hK K
        replace HL : Hid (L2 w du dv cc cc s0s) := HL.out.later hb
        replace HTa : Hid (Ar s0s (.slice a1 nP k1) nP FM ∧ Ar s0s (.slice a2 nP k2) nP FV ∧ Ar s0s (.slice a3 nP k3) nP FY) := ⟨HTa.out.1.later hb, HTa.out.2.1.later hb, HTa.out.2.2.later hb⟩
        replace HUa : Hid (Ar s0s (.slice adu nP cau) nP FM ∧ Ar s0s (.slice adw nP caw) nP FV ∧ Ar s0s (.slice ady nP cay) nP FY) := ⟨HUa.out.1.later hb, HUa.out.2.1.later hb, HUa.out.2.2.later hb⟩
        clear hb CS
        refine wpAnyH_take (i := 16) (v := ?_) rfl (by kernel_rfl) (by kernel_rfl) (by kernel_rfl) (fun _ _ _ h => h) (Or.inl ⟨by kernel_rfl, ?_⟩) HS ?_
        rotate_left
        · (rintro w ⟨⟨s0, s1, s2, s3, s4, s5⟩, ⟨r0, r1, r2, r3, r4, r5⟩, cdv⟩; go_simp) <;> with_reducible rfl
        try simp only [Act.put, List.getElem_toArray, List.getElem_cons_succ, List.getElem_cons_zero, List.setIfInBounds_toArray, List.set_cons_zero, List.set_cons_succ]
        refine wpAnyH_take (i := 17) (v := ?_) rfl (by kernel_rfl) (by kernel_rfl) (by kernel_rfl) (fun _ _ _ h => h) (Or.inl ⟨by kernel_rfl, ?_⟩) HS ?_
        rotate_left
        · (rintro w ⟨⟨s0, s1, s2, s3, s4, s5⟩, ⟨r0, r1, r2, r3, r4, r5⟩, cdv⟩; go_simp) <;> with_reducible rfl
        try simp only [Act.put, List.getElem_toArray, List.getElem_cons_succ, List.getElem_cons_zero, List.setIfInBounds_toArray, List.set_cons_zero, List.set_cons_succ]
        refine wpAnyH_take (i := 18) (v := ?_) rfl (by kernel_rfl) (by kernel_rfl) (by kernel_rfl) (fun _ _ _ h => h) (Or.inl ⟨by kernel_rfl, ?_⟩) HS ?_
        rotate_left
        · (rintro w ⟨⟨s0, s1, s2, s3, s4, s5⟩, ⟨r0, r1, r2, r3, r4, r5⟩, cdv⟩; go_simp) <;> with_reducible rfl
        try simp only [Act.put, List.getElem_toArray, List.getElem_cons_succ, List.getElem_cons_zero, List.setIfInBounds_toArray, List.set_cons_zero, List.set_cons_succ]
        refine wpAnyH_take (i := 19) (v := ?_) rfl (by kernel_rfl) (by kernel_rfl) (by kernel_rfl) (fun _ _ _ h => h) (Or.inl ⟨by kernel_rfl, ?_⟩) HS ?_
        rotate_left
        · (rintro w ⟨⟨s0, s1, s2, s3, s4, s5⟩, ⟨r0, r1, r2, r3, r4, r5⟩, cdv⟩; go_simp) <;> with_reducible rfl
        try simp only [Act.put, List.getElem_toArray, List.getElem_cons_succ, List.getElem_cons_zero, List.setIfInBounds_toArray, List.set_cons_zero, List.set_cons_succ]
        refine wpAnyH_take (i := 21) (v := ?_) rfl (by kernel_rfl) (by kernel_rfl) (by kernel_rfl) (fun _ _ _ h => h) (Or.inl ⟨by kernel_rfl, ?_⟩) HS ?_
        rotate_left
        · (rintro w ⟨⟨s0, s1, s2, s3, s4, s5⟩, ⟨r0, r1, r2, r3, r4, r5⟩, cdv⟩; go_simp) <;> with_reducible rfl
        try simp only [Act.put, List.getElem_toArray, List.getElem_cons_succ, List.getElem_cons_zero, List.setIfInBounds_toArray, List.set_cons_zero, List.set_cons_succ]
        refine wpAnyH_take (i := 22) (v := ?_) rfl (by kernel_rfl) (by kernel_rfl) (by kernel_rfl) (fun _ _ _ h => h) (Or.inl ⟨by kernel_rfl, ?_⟩) HS ?_
        rotate_left
        · (rintro w ⟨⟨s0, s1, s2, s3, s4, s5⟩, ⟨r0, r1, r2, r3, r4, r5⟩, cdv⟩; go_simp) <;> with_reducible rfl
        try simp only [Act.put, List.getElem_toArray, List.getElem_cons_succ, List.getElem_cons_zero, List.setIfInBounds_toArray, List.set_cons_zero, List.set_cons_succ]
        refine wpAnyH_ready (rs := [20]) (by kernel_rfl) (by simp) ?_
        refine AllReadyH.cons rfl (fun K hK => ?_) AllReadyH.nil
        go_simp
        refine (CPl.out s0s _ FV HUa.out.2.1).mono ?_
        rintro e s1p ⟨t1, rfl, hA1, -, hb⟩
        refine hK.out _ _ ⟨HS.1.later hb, HS.2.1.later hb, cell_later hb HS.2.2⟩ (fun HS => ?_)
        clear hK K
        replace HL : Hid (L2 w du dv cc cc s1p) := HL.out.later hb
        replace HTa : Hid (Ar s1p (.slice a1 nP k1) nP FM ∧ Ar s1p (.slice a2 nP k2) nP FV ∧ Ar s1p (.slice a3 nP k3) nP FY) := ⟨HTa.out.1.later hb, HTa.out.2.1.later hb, HTa.out.2.2.later hb⟩
        replace HUa : Hid (Ar s1p (.slice adu nP cau) nP FM ∧ Ar s1p (.slice adw nP caw) nP FV ∧ Ar s1p (.slice ady nP cay) nP FY) := ⟨HUa.out.1.later hb, HUa.out.2.1.later hb, HUa.out.2.2.later hb⟩
        clear hb
        have CS := same_yes _ _ nP FV (by omega) s1p hA1 HTa.out.2.1
        clear hA1
        refine wpAnyH_ready (rs := [23]) (by kernel_rfl) (by simp) ?_
        refine AllReadyH.cons rfl (fun K hK => ?_) AllReadyH.nil
        go_simp
        refine (CS).mono ?_
        rintro e s1s ⟨rfl, hb⟩
        refine hK.out _ _ ⟨HS.1.later hb, HS.2.1.later hb, cell_later hb HS.2.2⟩ (fun HS => ?_)
        clear hK K
        replace HL : Hid (L2 w du dv cc cc s1s) := HL.out.later hb
        replace HTa : Hid (Ar s1s (.slice a1 nP k1) nP FM ∧ Ar s1s (.slice a2 nP k2) nP FV ∧ Ar s1s (.slice a3 nP k3) nP FY) := ⟨HTa.out.1.later hb, HTa.out.2.1.later hb, HTa.out.2.2.later hb⟩
        replace HUa : Hid (Ar s1s (.slice adu nP cau) nP FM ∧ Ar s1s (.slice adw nP caw) nP FV ∧ Ar s1s (.slice ady nP cay) nP FY) := ⟨HUa.out.1.later hb, HUa.out.2.1.later hb, HUa.out.2.2.later hb⟩
        clear hb CS
        refine wpAnyH_take (i := 24) (v := ?_) rfl (by kernel_rfl) (by kernel_rfl) (by kernel_rfl) (fun _ _ _ h => h) (Or.inl ⟨by kernel_rfl, ?_⟩) HS ?_
        rotate_left
        · (rintro w ⟨⟨s0, s1, s2, s3, s4, s5⟩, ⟨r0, r1, r2, r3, r4, r5⟩, cdv⟩; go_simp) <;> with_reducible rfl
        try simp only [Act.put, List.getElem_toArray, List.getElem_cons_succ, List.getElem_cons_zero, List.setIfInBounds_toArray, List.set_cons_zero, List.set_cons_succ]
        refine wpAnyH_take (i := 25) (v := ?_) rfl (by kernel_rfl) (by kernel_rfl) (by kernel_rfl) (fun _ _ _ h => h) (Or.inl ⟨by kernel_rfl, ?_⟩) HS ?_
        rotate_left
        · (rintro w ⟨⟨s0, s1, s2, s3, s4, s5⟩, ⟨r0, r1, r2, r3, r4, r5⟩, cdv⟩; go_simp) <;> with_reducible rfl
        try simp only [Act.put, List.getElem_toArray, List.getElem_cons_succ, List.getElem_cons_zero, List.setIfInBounds_toArray, List.set_cons_zero, List.set_cons_succ]
        refine wpAnyH_take (i := 26) (v := ?_) rfl (by kernel_rfl) (by kernel_rfl) (by kernel_rfl) (fun _ _ _ h => h) (Or.inl ⟨by kernel_rfl, ?_⟩) HS ?_
        rotate_left
        · (rintro w ⟨⟨s0, s1, s2, s3, s4, s5⟩, ⟨r0, r1, r2, r3, r4, r5⟩, cdv⟩; go_simp) <;> with_reducible rfl
        try simp only [Act.put, List.getElem_toArray, List.getElem_cons_succ, List.getElem_cons_zero, List.setIfInBounds_toArray, List.set_cons_zero, List.set_cons_succ]
        refine wpAnyH_take (i := 28) (v := ?_) rfl (by kernel_rfl) (by kernel_rfl) (by kernel_rfl) (fun _ _ _ h => h) (Or.inl ⟨by kernel_rfl, ?_⟩) HS ?_
        rotate_left
        · (rintro w ⟨⟨s0, s1, s2, s3, s4, s5⟩, ⟨r0, r1, r2, r3, r4, r5⟩, cdv⟩; go_simp) <;> with_reducible rfl
        try simp only [Act.put, List.getElem_toArray, List.getElem_cons_succ, List.getElem_cons_zero, List.setIfInBounds_toArray, List.set_cons_zero, List.set_cons_succ]
        refine wpAnyH_ready (rs := [27]) (by kernel_rfl) (by simp) ?_
        refine AllReadyH.cons rfl (fun K hK => ?_) AllReadyH.nil
        go_simp
        refine (CPl.out s1s _ FY HUa.out.2.2).mono ?_
        rintro e s2p ⟨t1, rfl, hA1, -, hb⟩
        refine hK.out _ _ ⟨HS.1.later hb, HS.2.1.later hb, cell_later hb HS.2.2⟩ (fun HS => ?_)
        clear hK K
        replace HL : Hid (L2 w du dv cc cc s2p) := HL.out.later hb
        replace HTa : Hid (Ar s2p (.slice a1 nP k1) nP FM ∧ Ar s2p (.slice a2 nP k2) nP FV ∧ Ar s2p (.slice a3 nP k3) nP FY) := ⟨HTa.out.1.later hb, HTa.out.2.1.later hb, HTa.out.2.2.later hb⟩
        replace HUa : Hid (Ar s2p (.slice adu nP cau) nP FM ∧ Ar s2p (.slice adw nP caw) nP FV ∧ Ar s2p (.slice ady nP cay) nP FY) := ⟨HUa.out.1.later hb, HUa.out.2.1.later hb, HUa.out.2.2.later hb⟩
        clear hb
        have CS := same_yes _ _ nP FY (by omega) s2p hA1 HTa.out.2.2
        clear hA1
        refine wpAnyH_ready (rs := [29]) (by kernel_rfl) (by simp) ?_
        refine AllReadyH.cons rfl (fun K hK => ?_) AllReadyH.nil
        go_simp
        refine (CS).mono ?_
        rintro e s2s ⟨rfl, hb⟩
        refine hK.out _ _ ⟨HS.1.later hb, HS.2.1.later hb, cell_later hb HS.2.2⟩ (fun HS => ?_)
        clear hK K
        replace HL : Hid (L2 w du dv cc cc s2s) := HL.out.later hb
        replace HTa : Hid (Ar s2s (.slice a1 nP k1) nP FM ∧ Ar s2s (.slice a2 nP k2) nP FV ∧ Ar s2s (.slice a3 nP k3) nP FY) := ⟨HTa.out.1.later hb, HTa.out.2.1.later hb, HTa.out.2.2.later hb⟩
        replace HUa : Hid (Ar s2s (.slice adu nP cau) nP FM ∧ Ar s2s (.slice adw nP caw) nP FV ∧ Ar s2s (.slice ady nP cay) nP FY) := ⟨HUa.out.1.later hb, HUa.out.2.1.later hb, HUa.out.2.2.later hb⟩
        clear hb CS
        refine wpAnyH_take (i := 30) (v := ?_) rfl (by kernel_rfl) (by kernel_rfl) (by kernel_rfl) (fun _ _ _ h => h) (Or.inl ⟨by kernel_rfl, ?_⟩) HS ?_
        rotate_left
        · (rintro w ⟨⟨s0, s1, s2, s3, s4, s5⟩, ⟨r0, r1, r2, r3, r4, r5⟩, cdv⟩; go_simp) <;> with_reducible rfl
        try simp only [Act.put, List.getElem_toArray, List.getElem_cons_succ, List.getElem_cons_zero, List.setIfInBounds_toArray, List.set_cons_zero, List.set_cons_succ]
        refine wpAnyH_take (i := 31) (v := ?_) rfl (by kernel_rfl) (by kernel_rfl) (by kernel_rfl) (fun _ _ _ h => h) (Or.inl ⟨by kernel_rfl, ?_⟩) HS ?_
        rotate_left
        · (rintro w ⟨⟨s0, s1, s2, s3, s4, s5⟩, ⟨r0, r1, r2, r3, r4, r5⟩, cdv⟩; go_simp) <;> with_reducible rfl
        try simp only [Act.put, List.getElem_toArray, List.getElem_cons_succ, List.getElem_cons_zero, List.setIfInBounds_toArray, List.set_cons_zero, List.set_cons_succ]
        refine wpAnyH_take (i := 32) (v := ?_) rfl (by kernel_rfl) (by kernel_rfl) (by kernel_rfl) (fun _ _ _ h => h) (Or.inl ⟨by kernel_rfl, ?_⟩) HS ?_
        rotate_left
        · (rintro w ⟨⟨s0, s1, s2, s3, s4, s5⟩, ⟨r0, r1, r2, r3, r4, r5⟩, cdv⟩; go_simp) <;> with_reducible rfl
        try simp only [Act.put, List.getElem_toArray, List.getElem_cons_succ, List.getElem_cons_zero, List.setIfInBounds_toArray, List.set_cons_zero, List.set_cons_succ]
        refine wpAnyH_take (i := 34) (v := ?_) rfl (by kernel_rfl) (by kernel_rfl) (by kernel_rfl) (fun _ _ _ h => h) (Or.inl ⟨by kernel_rfl, ?_⟩) HS ?_
        rotate_left
        · (rintro w ⟨⟨s0, s1, s2, s3, s4, s5⟩, ⟨r0, r1, r2, r3, r4, r5⟩, cdv⟩; go_simp) <;> with_reducible rfl
        try simp only [Act.put, List.getElem_toArray, List.getElem_cons_succ, List.getElem_cons_zero, List.setIfInBounds_toArray, List.set_cons_zero, List.set_cons_succ]
        refine wpAnyH_take (i := 35) (v := ?_) rfl (by kernel_rfl) (by kernel_rfl) (by kernel_rfl) (fun _ _ _ h => h) (Or.inl ⟨by kernel_rfl, ?_⟩) HS ?_
        rotate_left
        · (rintro w ⟨⟨s0, s1, s2, s3, s4, s5⟩, ⟨r0, r1, r2, r3, r4, r5⟩, cdv⟩; go_simp) <;> with_reducible rfl
        try simp only [Act.put, List.getElem_toArray, List.getElem_cons_succ, List.getElem_cons_zero, List.setIfInBounds_toArray, List.set_cons_zero, List.set_cons_succ]
        refine wpAnyH_take (i := 36) (v := ?_) rfl (by kernel_rfl) (by kernel_rfl) (by kernel_rfl) (fun _ _ _ h => h) (Or.inl ⟨by kernel_rfl, ?_⟩) HS ?_
        rotate_left
        · (rintro w ⟨⟨s0, s1, s2, s3, s4, s5⟩, ⟨r0, r1, r2, r3, r4, r5⟩, cdv⟩; go_simp) <;> with_reducible rfl
        try simp only [Act.put, List.getElem_toArray, List.getElem_cons_succ, List.getElem_cons_zero, List.setIfInBounds_toArray, List.set_cons_zero, List.set_cons_succ]
        refine wpAnyH_take (i := 37) (v := ?_) rfl (by kernel_rfl) (by kernel_rfl) (by kernel_rfl) (fun _ _ _ h => h) (Or.inl ⟨by kernel_rfl, ?_⟩) HS ?_
        rotate_left
        · (rintro w ⟨⟨s0, s1, s2, s3, s4, s5⟩, ⟨r0, r1, r2, r3, r4, r5⟩, cdv⟩; go_simp) <;> with_reducible rfl
        try simp only [Act.put, List.getElem_toArray, List.getElem_cons_succ, List.getElem_cons_zero, List.setIfInBounds_toArray, List.set_cons_zero, List.set_cons_succ]
        refine wpAnyH_ready (rs := [33]) (by kernel_rfl) (by simp) ?_
        refine AllReadyH.cons rfl (fun K hK => ?_) AllReadyH.nil
        go_simp
        refine (count_any du cc s2s HL.out.u.1).mono ?_
        rintro e wz ⟨rfl, rfl⟩
        refine hK.out _ _ HS (fun HS => ?_)
        clear hK K
        refine wpAnyH_take (i := 38) (v := ?_) rfl (by kernel_rfl) (by kernel_rfl) (by kernel_rfl) (fun _ _ _ h => h) (Or.inl ⟨by kernel_rfl, ?_⟩) HS ?_
        rotate_left
        · (rintro w ⟨⟨s0, s1, s2, s3, s4, s5⟩, ⟨r0, r1, r2, r3, r4, r5⟩, cdv⟩; go_simp) <;> with_reducible rfl
        try simp only [Act.put, List.getElem_toArray, List.getElem_cons_succ, List.getElem_cons_zero, List.setIfInBounds_toArray, List.set_cons_zero, List.set_cons_succ]
        refine wpAnyH_take (i := 39) (v := ?_) rfl (by kernel_rfl) (by kernel_rfl) (by kernel_rfl) (fun _ _ _ h => h) (Or.inl ⟨by kernel_rfl, ?_⟩) HS ?_
        rotate_left
        · (rintro w ⟨⟨s0, s1, s2, s3, s4, s5⟩, ⟨r0, r1, r2, r3, r4, r5⟩, cdv⟩; go_simp) <;> with_reducible rfl
        try simp only [Act.put, List.getElem_toArray, List.getElem_cons_succ, List.getElem_cons_zero, List.setIfInBounds_toArray, List.set_cons_zero, List.set_cons_succ]
        refine wpAnyH_take (i := 40) (v := ?_) rfl (by kernel_rfl) (by kernel_rfl) (by kernel_rfl) (fun _ _ _ h => h) (Or.inl ⟨by kernel_rfl, ?_⟩) HS ?_
        rotate_left
        · (rintro w ⟨⟨s0, s1, s2, s3, s4, s5⟩, ⟨r0, r1, r2, r3, r4, r5⟩, cdv⟩; go_simp) <;> with_reducible rfl
        try simp only [Act.put, List.getElem_toArray, List.getElem_cons_succ, List.getElem_cons_zero, List.setIfInBounds_toArray, List.set_cons_zero, List.set_cons_succ]
        refine wpAnyH_done (by kernel_rfl) ?_ _
        clear HS
        go_wp2
        go_ret
        exact ⟨rfl, HL.out.B⟩
    · have CF := V1.stepE B W _ nD at' fa b1 b2 ep dc cl T _ _ _ _ nM nV nP nG M V P G du 0 w5 hg (HAll.out.1.later HL5.out.B) (HAll.out.2.1.later HL5.out.B) (HAll.out.2.2.1.later HL5.out.B) (HAll.out.2.2.2.1.later HL5.out.B) (HAll.out.2.2.2.2.1.later HL5.out.B) HL5.out.u (HAll.out.2.2.2.2.2.1.later HL5.out.B)
      go_wp2_with fail
      refine CF.mono ?_
      rintro e w6 ⟨uM, uV, uP, E, rfl, ⟨⟨a1, k1, rfl⟩, ⟨a2, k2, rfl⟩, a3, k3, rfl⟩, hE, hU⟩
      have HE : Hid (stE (InR9 B W nD at' fa b1 b2 ep dc cl) nM nV nP nG T E) := hE
      obtain ⟨w7, hw7⟩ : ∃ w7, w7 = w6.alloc (.cells #[.slice a1 0 k1, .slice a2 0 k2, .int .i64 0] 30) := ⟨_, rfl⟩
      have HL7 : Hid (L2 w du dv 0 0 w7) := by rw [hw7]; exact (HL5.out.unu hU hdu0 hne).later (bel1 _ _)
      have HX7 : Q8 w.heap.size (.int .i64 B) (.int .i64 W) (.slice adD nD caD) (.int .i64 b1) (.int .i64 b2) (.int .i64 ep) (.int .i64 dc) (.int .i64 cl) w7 := by rw [hw7]; exact (HX5.un hU hwu).later (bel1 _ _)
      have HN7 : Q5w (w.heap.size + 1) (.slice adM nM caM) (.slice adV nV caV) (.int .i64 T) (.slice adP nP caP) (.slice adG nG caG) w7 := by rw [hw7]; exact (HN5.un hU hwu1).later (bel1 _ _)
      have HS7 : Y3 w6.heap.size (.slice a1 0 k1) (.slice a2 0 k2) (.int .i64 0) w7 := by rw [hw7]; exact Y3.new _ _ _ _ _
      clear hU hE CF HX5 HN5 HL5 x0 x1 x2 x3 x4 x5 x6 x7 y0 y1 y2 y3 y4
      go_upto_region 7 with fail
      rw [← hw7]
      clear hw7
      obtain ⟨bs, hbs⟩ : ∃ bs, w6.heap.size = bs := ⟨_, rfl⟩
      rw [hbs] at HS7
      try simp only [hbs]
      clear hbs
      have x0 := HX7.c0
      have x1 := HX7.c1
      have x2 := HX7.c2
      have x3 := HX7.c3
      have x4 := HX7.c4
      have x5 := HX7.c5
      have x6 := HX7.c6
      have x7 := HX7.c7
      go_wp2_with fail
      refine (CI3.out _ HL7.out.B).mono ?_
      rintro e w8 ⟨v8, rfl, hD8, hb⟩
      obtain ⟨ad8, ca8, b8, o8, rfl, -, -, -, -⟩ := id hD8
      have HL8 : Hid (L2 w du dv 0 0 w8) := HL7.out.later hb
      replace HN7 := HN7.later hb
      replace HS7 := HS7.later hb
      clear hb HX7 HL7 x0 x1 x2 x3 x4 x5 x6 x7 CI3
      go_wp2_with fail
      refine (refInner_any B W _ nD at' fa b1 b2 ep dc cl _ hD8).mono ?_
      rintro e w9 ⟨hTl, hb⟩
      have HL9 : Hid (L2 w du dv 0 0 w9) := HL8.out.later hb
      replace HN7 := HN7.later hb
      replace HS7 := HS7.later hb
      clear hb hD8 HL8
      have y0 := HN7.c0
      have y1 := HN7.c1
      have y2 := HN7.c2
      have y3 := HN7.c3
      have y4 := HN7.c4
      have z0 := HS7.c0
      have z1 := HS7.c1
      have z2 := HS7.c2
      have u0 := HL9.out.u.1
      have CCn : Hid (∀ W' : World, W'.cell? ⟨du, 0, none⟩ = some (.int .i64 0) → Calls Tryz.prog 10 #[.pointer (some ⟨du, 0, none⟩)] W' fun e w' => e = .returned (.int .i64 0) ∧ w' = W') := fun W' h => count_any du 0 W' h
      by_cases hI : InR9 B W nD at' fa b1 b2 ep dc cl
      · have e0 := hTl.yes hI
        subst e0
        have HI : Hid (InR9 B W nD at' fa b1 b2 ep dc cl) := hI
        clear hTl
        by_cases s1 : nM = nP
        · have s1b : ((nM : Int) != (nP : Int)) = false := by simp [s1]
          by_cases s2 : nV = nP
          · have s2b : ((nV : Int) != (nP : Int)) = false := by simp [s2]
            by_cases s3 : nG = nP
            · have s3b : ((nG : Int) != (nP : Int)) = false := by simp [s3]
              have hTn : ¬ (0 ≤ T ∧ T < 1048576) := fun h => hg ⟨hI, hln, ⟨s1, s2, s3⟩, h.1, h.2⟩
              have e1 := HE.out.2.2.2 hI hln ⟨s1, s2, s3⟩ hTn
              subst e1
              by_cases t0 : T < 0
              · clear hI hg s1 s2 s3 HE hTn hTT
                go_wp2_with fail
                refine (CCn.out _ u0).mono ?_
                rintro e wq ⟨rfl, hq⟩
                subst hq
                go_wp2
                go_ret
                exact ⟨rfl, HL9.out.B⟩
              · have t1 : 1048576 ≤ T := by omega
                clear hI hg s1 s2 s3 HE hTn hTT
                go_wp2_with fail
                refine (CCn.out _ u0).mono ?_
                rintro e wq ⟨rfl, hq⟩
                subst hq
                go_wp2
                go_ret
                exact ⟨rfl, HL9.out.B⟩
            · have s3b : ((nG : Int) != (nP : Int)) = true := by simp; omega
              have e1 := HE.out.2.2.1 hI hln (fun h => s3 h.2.2)
              subst e1
              clear hI hg s1 s2 s3 HE hTT
              go_wp2_with fail
              refine (CCn.out _ u0).mono ?_
              rintro e wq ⟨rfl, hq⟩
              subst hq
              go_wp2
              go_ret
              exact ⟨rfl, HL9.out.B⟩
          · have s2b : ((nV : Int) != (nP : Int)) = true := by simp; omega
            have e1 := HE.out.2.2.1 hI hln (fun h => s2 h.2.1)
            subst e1
            clear hI hg s1 s2 HE hTT
            go_wp2_with fail
            refine (CCn.out _ u0).mono ?_
            rintro e wq ⟨rfl, hq⟩
            subst hq
            go_wp2
            go_ret
            exact ⟨rfl, HL9.out.B⟩
        · have s1b : ((nM : Int) != (nP : Int)) = true := by simp; omega
          have e1 := HE.out.2.2.1 hI hln (fun h => s1 h.1)
          subst e1
          clear hI hg s1 HE hTT
          go_wp2_with fail
          refine (CCn.out _ u0).mono ?_
          rintro e wq ⟨rfl, hq⟩
          subst hq
          go_wp2
          go_ret
          exact ⟨rfl, HL9.out.B⟩
      · have e0 := hTl.no hI
        subst e0
        have e1 := HE.out.1 hI
        subst e1
        clear hTl hI hg HE
        go_wp2_with fail
        refine (CCn.out _ u0).mono ?_
        rintro e wq ⟨rfl, hq⟩
        subst hq
        go_wp2
        go_ret
        exact ⟨rfl, HL9.out.B⟩
  · have e0 := hTl.no hfw
    subst e0
    clear hTl
    go_wp2
    go_ret
    exact ⟨rfl, HB3.out⟩
end Go.Proofs.YtcdehbhdloaieaaGreatDoor
