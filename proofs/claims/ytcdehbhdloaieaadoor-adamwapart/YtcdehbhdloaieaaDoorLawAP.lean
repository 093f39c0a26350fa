/-
  AdamwApart: for every inner, every state, parameters and gradient, and every place the law regattalaw09.AdamwApart returns true: without clipping each parameter goes its own way.
-/
import Derived.Test.YtcdehbhdloaieaaDoorAAwake
import Derived.Test.YtcdehbhdloaieaaDoorAHelp
import Derived.Deep.QuietTactic
import Derived.BigQuiet
set_option linter.unusedVariables false
set_option linter.unusedSimpArgs false
namespace Go.Proofs.YtcdehbhdloaieaaDoor
open Go.RowKit

theorem Q5w.later9 {b : Nat} {x0 x1 x2 x3 x4 : Value} {w w' : World} (h : Q5w b x0 x1 x2 x3 x4 w) (hb : Below w.heap.size w w') : Q5w b x0 x1 x2 x3 x4 w' := ⟨cell_later hb h.c0, cell_later hb h.c1, cell_later hb h.c2, cell_later hb h.c3, cell_later hb h.c4⟩
theorem Q5w.far9p {b : Nat} {x0 x1 x2 x3 x4 : Value} {w : World} (h : Q5w b x0 x1 x2 x3 x4 w) (p : Addr) (u : Value) (hp : p.block ≠ b) : Q5w b x0 x1 x2 x3 x4 (w.setCell p u) := ⟨cell_set hp h.c0, cell_set hp h.c1, cell_set hp h.c2, cell_set hp h.c3, cell_set hp h.c4⟩
theorem Q8.far9p {b : Nat} {x0 x1 x2 x3 x4 x5 x6 x7 : Value} {w : World} (h : Q8 b x0 x1 x2 x3 x4 x5 x6 x7 w) (p : Addr) (u : Value) (hp : p.block ≠ b) : Q8 b x0 x1 x2 x3 x4 x5 x6 x7 (w.setCell p u) := h.blk (Below.heap_setCell _ _ _ _ (fun e => hp e.symm))
theorem sub_ar9 {w : World} {b o n cap i : Nat} {f : Nat → Int} (h : Ar w (.slice (some ⟨b, o, none⟩) n cap) n f) (hi : i < n) : Ar w (.slice (some ⟨b, o + i, none⟩) 1 (cap - i)) 1 (fun _ => f i) := by
  obtain ⟨ad, ca, b', o', e, h1, h2, h3, h4⟩ := h
  have e2 := h3 (by omega)
  subst e2
  cases e
  refine ⟨_, _, b, o + i, rfl, by omega, by omega, fun _ => rfl, fun k hk => ?_⟩
  obtain rfl : k = 0 := by omega
  exact h4 i hi
theorem ar_at0 {w : World} {g n j : Nat} {f : Nat → Int} (h : Ar w (.slice (some ⟨g, 0, none⟩) n n) n f) (hj : j < n) : w.cell? ⟨g, j, none⟩ = some (.int .i64 (f j)) := by
  obtain ⟨b, o, e, hc, -, -⟩ := h.at j hj
  cases e
  rw [Nat.zero_add] at hc
  exact hc
/-- What the first step has answered. -/
structure O9 (w : World) (bs g1 g2 g3 n : Nat) (t1 : Int) (FM FV FY : Nat → Int) (W : World) : Prop where
  B : Below w.heap.size w W
  S : Y3 bs (.slice (some ⟨g1, 0, none⟩) n n) (.slice (some ⟨g2, 0, none⟩) n n) (.int .i64 t1) W
  V : V9 n g1 g2 g3 FM FV FY W
theorem O9.later {w : World} {bs g1 g2 g3 n : Nat} {t1 : Int} {FM FV FY : Nat → Int} {W W' : World} (h : O9 w bs g1 g2 g3 n t1 FM FV FY W) (hb : Below W.heap.size W W') : O9 w bs g1 g2 g3 n t1 FM FV FY W' := ⟨bchain h.B hb, h.S.later hb, h.V.later hb⟩
theorem O9.far {w : World} {bs g1 g2 g3 n : Nat} {t1 : Int} {FM FV FY : Nat → Int} {W : World} (h : O9 w bs g1 g2 g3 n t1 FM FV FY W) (a : Addr) (u : Value) (h1 : w.heap.size ≤ a.block) (h2 : a.block ≠ bs) (h3 : g1 ≠ a.block ∧ g2 ≠ a.block ∧ g3 ≠ a.block) : O9 w bs g1 g2 g3 n t1 FM FV FY (W.setCell a u) := ⟨h.B.setCell h1 u, h.S.far _ _ h2, h.V.far _ _ h3⟩
/-- Without a unit and without clipping. -/
theorem apart_step9 (B W : Int) (vD : Value) (nD : Nat) (at' fa : Nat → Int) (b1 b2 ep dc T : Int) (vM vV vp vg : Value) (n : Nat) (M V P G : Nat → Int) (w : World) (hI : InR9 B W nD at' fa b1 b2 ep dc 0) (hbd : bd9 B ep dc 0) (T0 : 0 ≤ T) (T1 : T < 1048576) (hn : n ≤ 65536) (hD : Drp w vD nD at' fa) (hM : Ar w vM n M) (hV : Ar w vV n V) (hP : Ar w vp n P) (hG : Ar w vg n G) (hT : TabAt w) :
    Calls Tryd.prog 12 #[.pointer none, .agg #[.int .i64 B, .int .i64 W, vD, .int .i64 b1, .int .i64 b2, .int .i64 ep, .int .i64 dc, .int .i64 0], .agg #[vM, vV, .int .i64 T], vp, vg] w fun e w' => ∃ g1 g2 g3 : Nat, e = .returned (.tuple #[.agg #[.slice (some ⟨g1, 0, none⟩) n n, .slice (some ⟨g2, 0, none⟩) n n, .int .i64 (T + 1)], .slice (some ⟨g3, 0, none⟩) n n, .int .i64 0]) ∧ V9 n g1 g2 g3 (fun i => aM (stpV B W nD at' fa b1 b2 ep dc (T + 1)) (M i) (G i)) (fun i => aV (stpV B W nD at' fa b1 b2 ep dc (T + 1)) (V i) (G i)) (fun i => aY (stpV B W nD at' fa b1 b2 ep dc (T + 1)) (M i) (V i) (P i) (G i)) w' ∧ (w.heap.size ≤ g1 ∧ w.heap.size ≤ g2 ∧ w.heap.size ≤ g3) ∧ Below w.heap.size w w' := by
  refine (step9_ok B W vD nD at' fa b1 b2 ep dc 0 T vM vV vp vg n M V P G none 0 w hI hbd T0 T1 hn (by omega) (by omega) hD hM hV hP hG (nv_none _) (nv_none _) (nv_none _) (nv_none _) (Or.inl rfl) hT).mono ?_
  rintro e w' ⟨g1, g2, g3, he, q1, q2, q3, q4, q5⟩
  rw [cpF_none9] at q1 q2 q3
  refine ⟨g1, g2, g3, he, ⟨q1, q2, q3⟩, q4, ?_⟩
  rcases q5 with ⟨-, q5⟩ | ⟨d, q5, -⟩
  · exact q5
  · cases q5
set_option maxRecDepth 100000 in
set_option maxHeartbeats 32000000 in
theorem adamwApart_any (B W : Int) (vD : Value) (nD : Nat) (at' fa : Nat → Int) (b1 b2 ep dc cl T : Int) (vM vV vP vG : Value) (nM nV nP nG : Nat) (M V P G : Nat → Int) (i : Int) (w : World) (hD : Drp w vD nD at' fa) (hM : Ar w vM nM M) (hV : Ar w vV nV V) (hP : Ar w vP nP P) (hG : Ar w vG nG G) (hbd : bd9 B ep dc cl) (hT : TabAt w) :
    Calls Tryd.prog 5 #[.agg #[.int .i64 B, .int .i64 W, vD, .int .i64 b1, .int .i64 b2, .int .i64 ep, .int .i64 dc, .int .i64 cl], .agg #[vM, vV, .int .i64 T, vP, vG], .int .i64 i] w fun e w' => e = .returned (.bool true) ∧ Below w.heap.size w w' := by
  have HAll : Hid (Drp w vD nD at' fa ∧ bd9 B ep dc 0 ∧ (Ar w vM nM M ∧ Ar w vV nV V ∧ Ar w vP nP P ∧ Ar w vG nG G) ∧ TabAt w) := ⟨hD, ⟨hbd.1, hbd.2.1, hbd.2.2.1, by omega⟩, ⟨hM, hV, hP, hG⟩, hT⟩
  have CA : Hid (∀ W' : World, Below w.heap.size w W' → Calls Tryd.prog 7 #[] W' fun e w' => e = .returned (.bool true) ∧ Below W'.heap.size W' w') := fun W' hb => awake9_any W' (hT.later hb)
  obtain ⟨adr, cap, bD, oD, rfl, d1, d2, -, -⟩ := hD
  obtain ⟨adM, caM, _, _, rfl, m1, m2, -, -⟩ := hM
  obtain ⟨adV, caV, _, _, rfl, v1, v2, -, -⟩ := hV
  obtain ⟨adP, caP, _, _, rfl, p1, p2, -, -⟩ := hP
  obtain ⟨adG, caG, _, _, rfl, g1', g2', -, -⟩ := hG
  unfold maxLen at d2 m2 v2 p2 g2'
  clear hT hbd
  obtain ⟨w1, hw1⟩ : ∃ w1, w1 = (w.alloc (.cells #[.int .i64 B, .int .i64 W, .slice adr nD cap, .int .i64 b1, .int .i64 b2, .int .i64 ep, .int .i64 dc, .int .i64 cl] 27)).alloc (.cells #[.slice adM nM caM, .slice adV nV caV, .int .i64 T, .slice adP nP caP, .slice adG nG caG] 47) := ⟨_, rfl⟩
  have HB1 : Hid (Below w.heap.size w w1) := by rw [hw1]; exact bel2 _ _ _
  have HX : Q8 w.heap.size (.int .i64 B) (.int .i64 W) (.slice adr nD cap) (.int .i64 b1) (.int .i64 b2) (.int .i64 ep) (.int .i64 dc) (.int .i64 cl) w1 := by rw [hw1]; exact (Q8.new w _ _ _ _ _ _ _ _ _).later (bel1 _ _)
  have HN : Q5w (w.heap.size + 1) (.slice adM nM caM) (.slice adV nV caV) (.int .i64 T) (.slice adP nP caP) (.slice adG nG caG) w1 := by rw [hw1]; exact ⟨by simp [go_sem], by simp [go_sem], by simp [go_sem], by simp [go_sem], by simp [go_sem]⟩
  have hf7 : w1.frozen? ⟨w.heap.size, 7, none⟩ = false := by rw [hw1]; simp [go_sem]
  go_enter Tryd.func5, Tryd.ntmps5
  go_upto_region 1 with fail
  rw [← hw1]
  clear hw1
  obtain ⟨h1, hh1⟩ : ∃ x, w.heap.size + 1 = x := ⟨_, rfl⟩
  simp only [hh1] at HN ⊢
  have hlh : w.heap.size < h1 := by omega
  clear hh1
  go_wp2_with fail
  refine (CA.out _ HB1.out).mono ?_
  rintro e w2 ⟨rfl, hb⟩
  have hb2 : Below w.heap.size w w2 := bchain HB1.out hb
  replace hf7 := frozen_later hb HX.c7 hf7
  replace HX := HX.later hb
  replace HN := HN.later9 hb
  clear hb CA HB1
  have x7 := HX.c7
  obtain ⟨w3, hw3⟩ : ∃ w3, w3 = w2.setCell ⟨w.heap.size, 7, none⟩ (.int .i64 0) := ⟨_, rfl⟩
  have HB3 : Hid (Below w.heap.size w w3) := by rw [hw3]; exact hb2.setCell (Nat.le_refl _) _
  have HX3 : Q8 w.heap.size (.int .i64 B) (.int .i64 W) (.slice adr nD cap) (.int .i64 b1) (.int .i64 b2) (.int .i64 ep) (.int .i64 dc) (.int .i64 0) w3 := by
    rw [hw3]
    exact ⟨(World.cell?_setCell_other _ _ _ _ (by simp)).trans HX.c0, (World.cell?_setCell_other _ _ _ _ (by simp)).trans HX.c1, (World.cell?_setCell_other _ _ _ _ (by simp)).trans HX.c2, (World.cell?_setCell_other _ _ _ _ (by simp)).trans HX.c3, (World.cell?_setCell_other _ _ _ _ (by simp)).trans HX.c4, (World.cell?_setCell_other _ _ _ _ (by simp)).trans HX.c5, (World.cell?_setCell_other _ _ _ _ (by simp)).trans HX.c6, World.cell?_setCell_same' _ _ _ (by rw [HX.c7]; rfl)⟩
  have HN3 : Q5w h1 (.slice adM nM caM) (.slice adV nV caV) (.int .i64 T) (.slice adP nP caP) (.slice adG nG caG) w3 := by rw [hw3]; exact HN.far9p _ _ (by dsimp only; omega)
  go_upto_region 4 with fail
  rw [← hw3]
  clear hw3 x7 hf7 hb2 HX HN
  have HX := HX3
  have HN := HN3
  clear HX3 HN3
  have x2 := HX.c2
  have y0 := HN.c0
  have y1 := HN.c1
  have y2 := HN.c2
  have y3 := HN.c3
  have y4 := HN.c4
  by_cases hnD : 40 < nD
  · have hnI : (40 : Int) < (nD : Int) := by omega
    go_wp2
    go_ret
    exact ⟨rfl, HB3.out⟩
  have hnI : ¬ (40 : Int) < (nD : Int) := by omega
  go_wp2_with fail
  refine (few9_any adM adV adP adG nM nV nP nG caM caV caP caG T _).mono ?_
  rintro e w4 ⟨hTl, hb⟩
  have HB4 : Hid (Below w.heap.size w w4) := bchain HB3.out hb
  replace HX := HX.later hb
  replace HN := HN.later9 hb
  clear hb HB3 x2 y0 y1 y2 y3 y4
  by_cases hfw : fw9 nM nV nP nG T
  · have e0 := hTl.yes hfw
    subst e0
    obtain ⟨⟨hn1, hn2, hn3, hn4⟩, hTT⟩ := hfw
    clear hTl
    have y3 := HN.c3
    by_cases hi0 : i < 0
    · go_wp2
      go_ret
      exact ⟨rfl, HB4.out⟩
    by_cases hi1 : (nP : Int) ≤ i
    · go_wp2
      go_ret
      exact ⟨rfl, HB4.out⟩
    obtain ⟨ii, rfl⟩ : ∃ ii : Nat, i = (ii : Int) := ⟨i.toNat, by omega⟩
    have hii : ii < nP := by omega
    clear y3
    have x0 := HX.c0
    have x1 := HX.c1
    have x2 := HX.c2
    have x3 := HX.c3
    have x4 := HX.c4
    have x5 := HX.c5
    have x6 := HX.c6
    have x7 := HX.c7
    have y0 := HN.c0
    have y1 := HN.c1
    have y2 := HN.c2
    have y3 := HN.c3
    have y4 := HN.c4
    by_cases hg : stG (InR9 B W nD at' fa b1 b2 ep dc 0) nM nV nP nG T
    · obtain ⟨hI, -, ⟨q1, q2, q3⟩, T0, T1⟩ := hg
      have q1' := q1.symm
      have q2' := q2.symm
      have q3' := q3.symm
      clear q1 q2 q3
      subst q1'
      subst q2'
      subst q3'
      have HI : Hid (InR9 B W nD at' fa b1 b2 ep dc 0) := hI
      have CF := apart_step9 B W _ nD at' fa b1 b2 ep dc T _ _ _ _ nP M V P G w4 hI HAll.out.2.1 T0 T1 (by omega) (HAll.out.1.later HB4.out) (HAll.out.2.2.1.1.later HB4.out) (HAll.out.2.2.1.2.1.later HB4.out) (HAll.out.2.2.1.2.2.1.later HB4.out) (HAll.out.2.2.1.2.2.2.later HB4.out) (HAll.out.2.2.2.later HB4.out)
      have CG : Hid (∀ (W' : World) (sM sV sP sG : Value), Below w.heap.size w W' → Ar W' sM 1 (fun _ => M ii) → Ar W' sV 1 (fun _ => V ii) → Ar W' sP 1 (fun _ => P ii) → Ar W' sG 1 (fun _ => G ii) → Calls Tryd.prog 12 #[.pointer none, .agg #[.int .i64 B, .int .i64 W, .slice adr nD cap, .int .i64 b1, .int .i64 b2, .int .i64 ep, .int .i64 dc, .int .i64 0], .agg #[sM, sV, .int .i64 T], sP, sG] W' fun e w' => ∃ g1 g2 g3 : Nat, e = .returned (.tuple #[.agg #[.slice (some ⟨g1, 0, none⟩) 1 1, .slice (some ⟨g2, 0, none⟩) 1 1, .int .i64 (T + 1)], .slice (some ⟨g3, 0, none⟩) 1 1, .int .i64 0]) ∧ V9 1 g1 g2 g3 (fun _ => aM (stpV B W nD at' fa b1 b2 ep dc (T + 1)) (M ii) (G ii)) (fun _ => aV (stpV B W nD at' fa b1 b2 ep dc (T + 1)) (V ii) (G ii)) (fun _ => aY (stpV B W nD at' fa b1 b2 ep dc (T + 1)) (M ii) (V ii) (P ii) (G ii)) w' ∧ (W'.heap.size ≤ g1 ∧ W'.heap.size ≤ g2 ∧ W'.heap.size ≤ g3) ∧ Below W'.heap.size W' w') := fun W' sM sV sP sG hb a1 a2 a3 a4 => apart_step9 B W _ nD at' fa b1 b2 ep dc T _ _ _ _ 1 _ _ _ _ W' HI.out HAll.out.2.1 T0 T1 (by omega) (HAll.out.1.later hb) a1 a2 a3 a4 (HAll.out.2.2.2.later hb)
      obtain ⟨FM, hFM⟩ : ∃ FM : Nat → Int, (fun i => aM (stpV B W nD at' fa b1 b2 ep dc (T + 1)) (M i) (G i)) = FM := ⟨_, rfl⟩
      obtain ⟨FV, hFV⟩ : ∃ FV : Nat → Int, (fun i => aV (stpV B W nD at' fa b1 b2 ep dc (T + 1)) (V i) (G i)) = FV := ⟨_, rfl⟩
      obtain ⟨FY, hFY⟩ : ∃ FY : Nat → Int, (fun i => aY (stpV B W nD at' fa b1 b2 ep dc (T + 1)) (M i) (V i) (P i) (G i)) = FY := ⟨_, rfl⟩
      have eM : aM (stpV B W nD at' fa b1 b2 ep dc (T + 1)) (M ii) (G ii) = FM ii := by rw [← hFM]
      have eV : aV (stpV B W nD at' fa b1 b2 ep dc (T + 1)) (V ii) (G ii) = FV ii := by rw [← hFV]
      have eY : aY (stpV B W nD at' fa b1 b2 ep dc (T + 1)) (M ii) (V ii) (P ii) (G ii) = FY ii := by rw [← hFY]
      rw [hFM, hFV, hFY] at CF
      rw [eM, eV, eY] at CG
      clear hFM hFV hFY eM eV eY hI
      go_wp2_with fail
      refine CF.mono ?_
      rintro e w5 ⟨g1, g2, g3, rfl, hV5, hle5, hb⟩
      obtain ⟨w6, hw6⟩ : ∃ w6, w6 = w5.alloc (.cells #[.slice (some ⟨g1, 0, none⟩) nP nP, .slice (some ⟨g2, 0, none⟩) nP nP, .int .i64 (T + 1)] 38) := ⟨_, rfl⟩
      have hb6 : Below w5.heap.size w5 w6 := by rw [hw6]; exact bel1 _ _
      have HB6 : Hid (Below w.heap.size w w6) := bchain (bchain HB4.out hb) hb6
      have HX6 : Q8 w.heap.size (.int .i64 B) (.int .i64 W) (.slice adr nD cap) (.int .i64 b1) (.int .i64 b2) (.int .i64 ep) (.int .i64 dc) (.int .i64 0) w6 := (HX.later hb).later hb6
      have HN6 : Q5w h1 (.slice adM nP caM) (.slice adV nP caV) (.int .i64 T) (.slice adP nP caP) (.slice adG nP caG) w6 := (HN.later9 hb).later9 hb6
      have HS6 : Hid (Y3 w5.heap.size (.slice (some ⟨g1, 0, none⟩) nP nP) (.slice (some ⟨g2, 0, none⟩) nP nP) (.int .i64 (T + 1)) w6) := by rw [hw6]; exact Y3.new _ _ _ _ _
      have HV6 : Hid (V9 nP g1 g2 g3 FM FV FY w6) := hV5.later hb6
      have HL : Hid (w.heap.size ≤ w5.heap.size ∧ h1 < w5.heap.size) := ⟨(bchain HB4.out hb).size, World.block_lt_of_cell? _ _ (HN.later9 hb).c0⟩
      clear hV5 hle5 hb hb6 HB4 HX HN CF x0 x1 x2 x3 x4 x5 x6 x7 y0 y1 y2 y3 y4
      go_upto_region 9 with fail
      rw [← hw6]
      clear hw6
      generalize w5.heap.size = bs at *
      obtain ⟨bM, oM, aM', -, -, -⟩ := HAll.out.2.2.1.1.at ii hii
      obtain ⟨bV, oV, aV', -, -, -⟩ := HAll.out.2.2.1.2.1.at ii hii
      obtain ⟨bP, oP, aP', -, -, -⟩ := HAll.out.2.2.1.2.2.1.at ii hii
      obtain ⟨bG, oG, aG', -, -, -⟩ := HAll.out.2.2.1.2.2.2.at ii hii
      subst aM' aV' aP' aG'
      have wi : IntKind.i64.wrap ((ii : Int) + 1) = (ii : Int) + 1 := by rw [IntKind.wrap_i64]; omega
      have hi2 : (ii : Int) < (nP : Int) := by omega
      have sl0 : (0 : Int) ≤ (ii : Int) + 1 := by omega
      have slM : (ii : Int) + 1 ≤ (caM : Int) := by omega
      have neM : ¬ caM = ii := by omega
      have slV : (ii : Int) + 1 ≤ (caV : Int) := by omega
      have neV : ¬ caV = ii := by omega
      have slP : (ii : Int) + 1 ≤ (caP : Int) := by omega
      have neP : ¬ caP = ii := by omega
      have slG : (ii : Int) + 1 ≤ (caG : Int) := by omega
      have neG : ¬ caG = ii := by omega
      go_cut [10, 11, 12] (fun s10 s11 s12 wc => ∃ bt k1 k2 k3 : Nat, s10 = .pointer (some ⟨bt, 0, none⟩) ∧ s11 = .slice (some ⟨k3, 0, none⟩) 1 1 ∧ s12 = .int .i64 0 ∧ Hid (Y3 bt (.slice (some ⟨k1, 0, none⟩) 1 1) (.slice (some ⟨k2, 0, none⟩) 1 1) (.int .i64 (T + 1)) wc ∧ V9 1 k1 k2 k3 (fun _ => FM ii) (fun _ => FV ii) (fun _ => FY ii) wc) ∧ Hid (O9 w bs g1 g2 g3 nP (T + 1) FM FV FY wc) ∧ Hid (Q5w h1 (.slice (some ⟨bM, oM, none⟩) nP caM) (.slice (some ⟨bV, oV, none⟩) nP caV) (.int .i64 T) (.slice (some ⟨bP, oP, none⟩) nP caP) (.slice (some ⟨bG, oG, none⟩) nP caG) wc))
      case first =>
        have hbD : Below w6.heap.size w6 w6.drew := (Below.refl _ _).drew
        have HO : Hid (O9 w bs g1 g2 g3 nP (T + 1) FM FV FY w6.drew) := ⟨bchain HB6.out hbD, HS6.out.later hbD, HV6.out.later hbD⟩
        refine wp_region_held_drew (S := fun W' => Q8 w.heap.size (.int .i64 B) (.int .i64 W) (.slice adr nD cap) (.int .i64 b1) (.int .i64 b2) (.int .i64 ep) (.int .i64 dc) (.int .i64 0) W' ∧ Q5w h1 (.slice (some ⟨bM, oM, none⟩) nP caM) (.slice (some ⟨bV, oV, none⟩) nP caV) (.int .i64 T) (.slice (some ⟨bP, oP, none⟩) nP caP) (.slice (some ⟨bG, oG, none⟩) nP caG) W') (by kernel_rfl) ⟨HX6.later hbD, HN6.later9 hbD⟩ (fun HS => ?_)
        clear hbD HB6 HS6 HV6 HX6 HN6
        generalize w6.drew = q0 at *
        refine wpAnyH_take (i := 0) (v := ?_) rfl (by kernel_rfl) (by kernel_rfl) (by kernel_rfl) (fun _ _ _ h => h) (Or.inl ⟨by kernel_rfl, ?_⟩) HS ?_
        rotate_left
        · (rintro w ⟨⟨x0, x1, x2, x3, x4, x5, x6, x7⟩, ⟨y0, y1, y2, y3, y4⟩⟩; go_simp) <;> with_reducible rfl
        try simp only [Act.put, List.getElem_toArray, List.getElem_cons_succ, List.getElem_cons_zero, List.setIfInBounds_toArray, List.set_cons_zero, List.set_cons_succ]
        refine wpAnyH_take (i := 1) (v := ?_) rfl (by kernel_rfl) (by kernel_rfl) (by kernel_rfl) (fun _ _ _ h => h) (Or.inl ⟨by kernel_rfl, ?_⟩) HS ?_
        rotate_left
        · (rintro w ⟨⟨x0, x1, x2, x3, x4, x5, x6, x7⟩, ⟨y0, y1, y2, y3, y4⟩⟩; go_simp) <;> with_reducible rfl
        try simp only [Act.put, List.getElem_toArray, List.getElem_cons_succ, List.getElem_cons_zero, List.setIfInBounds_toArray, List.set_cons_zero, List.set_cons_succ]
        refine wpAnyH_take (i := 2) (v := ?_) rfl (by kernel_rfl) (by kernel_rfl) (by kernel_rfl) (fun _ _ _ h => h) (Or.inl ⟨by kernel_rfl, ?_⟩) HS ?_
        rotate_left
        · (rintro w ⟨⟨x0, x1, x2, x3, x4, x5, x6, x7⟩, ⟨y0, y1, y2, y3, y4⟩⟩; go_simp) <;> with_reducible rfl
        try simp only [Act.put, List.getElem_toArray, List.getElem_cons_succ, List.getElem_cons_zero, List.setIfInBounds_toArray, List.set_cons_zero, List.set_cons_succ]
        refine wpAnyH_take (i := 3) (v := ?_) rfl (by kernel_rfl) (by kernel_rfl) (by kernel_rfl) (fun _ _ _ h => h) (Or.inl ⟨by kernel_rfl, ?_⟩) HS ?_
        rotate_left
        · (rintro w ⟨⟨x0, x1, x2, x3, x4, x5, x6, x7⟩, ⟨y0, y1, y2, y3, y4⟩⟩; go_simp) <;> with_reducible rfl
        try simp only [Act.put, List.getElem_toArray, List.getElem_cons_succ, List.getElem_cons_zero, List.setIfInBounds_toArray, List.set_cons_zero, List.set_cons_succ]
        refine wpAnyH_take (i := 4) (v := ?_) rfl (by kernel_rfl) (by kernel_rfl) (by kernel_rfl) (fun _ _ _ h => h) (Or.inl ⟨by kernel_rfl, ?_⟩) HS ?_
        rotate_left
        · (rintro w ⟨⟨x0, x1, x2, x3, x4, x5, x6, x7⟩, ⟨y0, y1, y2, y3, y4⟩⟩; go_simp) <;> with_reducible rfl
        try simp only [Act.put, List.getElem_toArray, List.getElem_cons_succ, List.getElem_cons_zero, List.setIfInBounds_toArray, List.set_cons_zero, List.set_cons_succ]
        refine wpAnyH_take (i := 5) (v := ?_) rfl (by kernel_rfl) (by kernel_rfl) (by kernel_rfl) (fun _ _ _ h => h) (Or.inl ⟨by kernel_rfl, ?_⟩) HS ?_
        rotate_left
        · (rintro w ⟨⟨x0, x1, x2, x3, x4, x5, x6, x7⟩, ⟨y0, y1, y2, y3, y4⟩⟩; go_simp) <;> with_reducible rfl
        try simp only [Act.put, List.getElem_toArray, List.getElem_cons_succ, List.getElem_cons_zero, List.setIfInBounds_toArray, List.set_cons_zero, List.set_cons_succ]
        refine wpAnyH_take (i := 6) (v := ?_) rfl (by kernel_rfl) (by kernel_rfl) (by kernel_rfl) (fun _ _ _ h => h) (Or.inl ⟨by kernel_rfl, ?_⟩) HS ?_
        rotate_left
        · (rintro w ⟨⟨x0, x1, x2, x3, x4, x5, x6, x7⟩, ⟨y0, y1, y2, y3, y4⟩⟩; go_simp) <;> with_reducible rfl
        try simp only [Act.put, List.getElem_toArray, List.getElem_cons_succ, List.getElem_cons_zero, List.setIfInBounds_toArray, List.set_cons_zero, List.set_cons_succ]
        refine wpAnyH_take (i := 7) (v := ?_) rfl (by kernel_rfl) (by kernel_rfl) (by kernel_rfl) (fun _ _ _ h => h) (Or.inl ⟨by kernel_rfl, ?_⟩) HS ?_
        rotate_left
        · (rintro w ⟨⟨x0, x1, x2, x3, x4, x5, x6, x7⟩, ⟨y0, y1, y2, y3, y4⟩⟩; go_simp) <;> with_reducible rfl
        try simp only [Act.put, List.getElem_toArray, List.getElem_cons_succ, List.getElem_cons_zero, List.setIfInBounds_toArray, List.set_cons_zero, List.set_cons_succ]
        refine wpAnyH_take (i := 8) (v := ?_) rfl (by kernel_rfl) (by kernel_rfl) (by kernel_rfl) (fun _ _ _ h => h) (Or.inl ⟨by kernel_rfl, ?_⟩) HS ?_
        rotate_left
        · (rintro w ⟨⟨x0, x1, x2, x3, x4, x5, x6, x7⟩, ⟨y0, y1, y2, y3, y4⟩⟩; go_simp) <;> with_reducible rfl
        try simp only [Act.put, List.getElem_toArray, List.getElem_cons_succ, List.getElem_cons_zero, List.setIfInBounds_toArray, List.set_cons_zero, List.set_cons_succ]
        refine wpAnyH_take (i := 9) (v := ?_) rfl (by kernel_rfl) (by kernel_rfl) (by kernel_rfl) (fun _ _ _ h => h) (Or.inl ⟨by kernel_rfl, ?_⟩) HS ?_
        rotate_left
        · (rintro w ⟨⟨x0, x1, x2, x3, x4, x5, x6, x7⟩, ⟨y0, y1, y2, y3, y4⟩⟩; go_simp) <;> with_reducible rfl
        try simp only [Act.put, List.getElem_toArray, List.getElem_cons_succ, List.getElem_cons_zero, List.setIfInBounds_toArray, List.set_cons_zero, List.set_cons_succ]
        refine wpAnyH_take (i := 10) (v := ?_) rfl (by kernel_rfl) (by kernel_rfl) (by kernel_rfl) (fun _ _ _ h => h) (Or.inl ⟨by kernel_rfl, ?_⟩) HS ?_
        rotate_left
        · (rintro w ⟨⟨x0, x1, x2, x3, x4, x5, x6, x7⟩, ⟨y0, y1, y2, y3, y4⟩⟩; go_simp) <;> with_reducible rfl
        try simp only [Act.put, List.getElem_toArray, List.getElem_cons_succ, List.getElem_cons_zero, List.setIfInBounds_toArray, List.set_cons_zero, List.set_cons_succ]
        refine wpAnyH_take (i := 11) (v := ?_) rfl (by kernel_rfl) (by kernel_rfl) (by kernel_rfl) (fun _ _ _ h => h) (Or.inl ⟨by kernel_rfl, ?_⟩) HS ?_
        rotate_left
        · (rintro w ⟨⟨x0, x1, x2, x3, x4, x5, x6, x7⟩, ⟨y0, y1, y2, y3, y4⟩⟩; go_simp) <;> with_reducible rfl
        try simp only [Act.put, List.getElem_toArray, List.getElem_cons_succ, List.getElem_cons_zero, List.setIfInBounds_toArray, List.set_cons_zero, List.set_cons_succ]
        refine wpAnyH_take (i := 12) (v := ?_) rfl (by kernel_rfl) (by kernel_rfl) (by kernel_rfl) (fun _ _ _ h => h) (Or.inl ⟨by kernel_rfl, ?_⟩) HS ?_
        rotate_left
        · (rintro w ⟨⟨x0, x1, x2, x3, x4, x5, x6, x7⟩, ⟨y0, y1, y2, y3, y4⟩⟩; go_simp) <;> with_reducible rfl
        try simp only [Act.put, List.getElem_toArray, List.getElem_cons_succ, List.getElem_cons_zero, List.setIfInBounds_toArray, List.set_cons_zero, List.set_cons_succ]
        refine wpAnyH_take (i := 13) (v := ?_) rfl (by kernel_rfl) (by kernel_rfl) (by kernel_rfl) (fun _ _ _ h => h) (Or.inl ⟨by kernel_rfl, ?_⟩) HS ?_
        rotate_left
        · (rintro w ⟨⟨x0, x1, x2, x3, x4, x5, x6, x7⟩, ⟨y0, y1, y2, y3, y4⟩⟩; go_simp) <;> with_reducible rfl
        try simp only [Act.put, List.getElem_toArray, List.getElem_cons_succ, List.getElem_cons_zero, List.setIfInBounds_toArray, List.set_cons_zero, List.set_cons_succ]
        refine wpAnyH_take (i := 14) (v := ?_) rfl (by kernel_rfl) (by kernel_rfl) (by kernel_rfl) (fun _ _ _ h => h) (Or.inl ⟨by kernel_rfl, ?_⟩) HS ?_
        rotate_left
        · (rintro w ⟨⟨x0, x1, x2, x3, x4, x5, x6, x7⟩, ⟨y0, y1, y2, y3, y4⟩⟩; go_simp) <;> with_reducible rfl
        try simp only [Act.put, List.getElem_toArray, List.getElem_cons_succ, List.getElem_cons_zero, List.setIfInBounds_toArray, List.set_cons_zero, List.set_cons_succ]
        refine wpAnyH_take (i := 15) (v := ?_) rfl (by kernel_rfl) (by kernel_rfl) (by kernel_rfl) (fun _ _ _ h => h) (Or.inl ⟨by kernel_rfl, ?_⟩) HS ?_
        rotate_left
        · (rintro w ⟨⟨x0, x1, x2, x3, x4, x5, x6, x7⟩, ⟨y0, y1, y2, y3, y4⟩⟩; go_simp) <;> with_reducible rfl
        try simp only [Act.put, List.getElem_toArray, List.getElem_cons_succ, List.getElem_cons_zero, List.setIfInBounds_toArray, List.set_cons_zero, List.set_cons_succ]
        refine wpAnyH_take (i := 16) (v := ?_) rfl (by kernel_rfl) (by kernel_rfl) (by kernel_rfl) (fun _ _ _ h => h) (Or.inl ⟨by kernel_rfl, ?_⟩) HS ?_
        rotate_left
        · (rintro w ⟨⟨x0, x1, x2, x3, x4, x5, x6, x7⟩, ⟨y0, y1, y2, y3, y4⟩⟩; go_simp) <;> with_reducible rfl
        try simp only [Act.put, List.getElem_toArray, List.getElem_cons_succ, List.getElem_cons_zero, List.setIfInBounds_toArray, List.set_cons_zero, List.set_cons_succ]
        refine wpAnyH_take (i := 17) (v := ?_) rfl (by kernel_rfl) (by kernel_rfl) (by kernel_rfl) (fun _ _ _ h => h) (Or.inl ⟨by kernel_rfl, ?_⟩) HS ?_
        rotate_left
        · (rintro w ⟨⟨x0, x1, x2, x3, x4, x5, x6, x7⟩, ⟨y0, y1, y2, y3, y4⟩⟩; go_simp) <;> with_reducible rfl
        try simp only [Act.put, List.getElem_toArray, List.getElem_cons_succ, List.getElem_cons_zero, List.setIfInBounds_toArray, List.set_cons_zero, List.set_cons_succ]
        refine wpAnyH_take (i := 18) (v := ?_) rfl (by kernel_rfl) (by kernel_rfl) (by kernel_rfl) (fun _ _ _ h => h) (Or.inl ⟨by kernel_rfl, ?_⟩) HS ?_
        rotate_left
        · (rintro w ⟨⟨x0, x1, x2, x3, x4, x5, x6, x7⟩, ⟨y0, y1, y2, y3, y4⟩⟩; go_simp) <;> with_reducible rfl
        try simp only [Act.put, List.getElem_toArray, List.getElem_cons_succ, List.getElem_cons_zero, List.setIfInBounds_toArray, List.set_cons_zero, List.set_cons_succ]
        refine wpAnyH_take (i := 19) (v := ?_) rfl (by kernel_rfl) (by kernel_rfl) (by kernel_rfl) (fun _ _ _ h => h) (Or.inl ⟨by kernel_rfl, ?_⟩) HS ?_
        rotate_left
        · (rintro w ⟨⟨x0, x1, x2, x3, x4, x5, x6, x7⟩, ⟨y0, y1, y2, y3, y4⟩⟩; go_simp) <;> with_reducible rfl
        try simp only [Act.put, List.getElem_toArray, List.getElem_cons_succ, List.getElem_cons_zero, List.setIfInBounds_toArray, List.set_cons_zero, List.set_cons_succ]
        refine wpAnyH_take (i := 20) (v := ?_) rfl (by kernel_rfl) (by kernel_rfl) (by kernel_rfl) (fun _ _ _ h => h) (Or.inl ⟨by kernel_rfl, ?_⟩) HS ?_
        rotate_left
        · (rintro w ⟨⟨x0, x1, x2, x3, x4, x5, x6, x7⟩, ⟨y0, y1, y2, y3, y4⟩⟩; go_simp) <;> with_reducible rfl
        try simp only [Act.put, List.getElem_toArray, List.getElem_cons_succ, List.getElem_cons_zero, List.setIfInBounds_toArray, List.set_cons_zero, List.set_cons_succ]
        refine wpAnyH_take (i := 21) (v := ?_) rfl (by kernel_rfl) (by kernel_rfl) (by kernel_rfl) (fun _ _ _ h => h) (Or.inl ⟨by kernel_rfl, ?_⟩) HS ?_
        rotate_left
        · (rintro w ⟨⟨x0, x1, x2, x3, x4, x5, x6, x7⟩, ⟨y0, y1, y2, y3, y4⟩⟩; go_simp) <;> with_reducible rfl
        try simp only [Act.put, List.getElem_toArray, List.getElem_cons_succ, List.getElem_cons_zero, List.setIfInBounds_toArray, List.set_cons_zero, List.set_cons_succ]
        refine wpAnyH_take (i := 22) (v := ?_) rfl (by kernel_rfl) (by kernel_rfl) (by kernel_rfl) (fun _ _ _ h => h) (Or.inl ⟨by kernel_rfl, ?_⟩) HS ?_
        rotate_left
        · (rintro w ⟨⟨x0, x1, x2, x3, x4, x5, x6, x7⟩, ⟨y0, y1, y2, y3, y4⟩⟩; go_simp) <;> with_reducible rfl
        try simp only [Act.put, List.getElem_toArray, List.getElem_cons_succ, List.getElem_cons_zero, List.setIfInBounds_toArray, List.set_cons_zero, List.set_cons_succ]
        refine wpAnyH_take (i := 23) (v := ?_) rfl (by kernel_rfl) (by kernel_rfl) (by kernel_rfl) (fun _ _ _ h => h) (Or.inl ⟨by kernel_rfl, ?_⟩) HS ?_
        rotate_left
        · (rintro w ⟨⟨x0, x1, x2, x3, x4, x5, x6, x7⟩, ⟨y0, y1, y2, y3, y4⟩⟩; go_simp) <;> with_reducible rfl
        try simp only [Act.put, List.getElem_toArray, List.getElem_cons_succ, List.getElem_cons_zero, List.setIfInBounds_toArray, List.set_cons_zero, List.set_cons_succ]
        refine wpAnyH_take (i := 24) (v := ?_) rfl (by kernel_rfl) (by kernel_rfl) (by kernel_rfl) (fun _ _ _ h => h) (Or.inl ⟨by kernel_rfl, ?_⟩) HS ?_
        rotate_left
        · (rintro w ⟨⟨x0, x1, x2, x3, x4, x5, x6, x7⟩, ⟨y0, y1, y2, y3, y4⟩⟩; go_simp) <;> with_reducible rfl
        try simp only [Act.put, List.getElem_toArray, List.getElem_cons_succ, List.getElem_cons_zero, List.setIfInBounds_toArray, List.set_cons_zero, List.set_cons_succ]
        refine wpAnyH_take (i := 25) (v := ?_) rfl (by kernel_rfl) (by kernel_rfl) (by kernel_rfl) (fun _ _ _ h => h) (Or.inl ⟨by kernel_rfl, ?_⟩) HS ?_
        rotate_left
        · (rintro w ⟨⟨x0, x1, x2, x3, x4, x5, x6, x7⟩, ⟨y0, y1, y2, y3, y4⟩⟩; go_simp) <;> with_reducible rfl
        try simp only [Act.put, List.getElem_toArray, List.getElem_cons_succ, List.getElem_cons_zero, List.setIfInBounds_toArray, List.set_cons_zero, List.set_cons_succ]
        refine wpAnyH_take (i := 26) (v := ?_) rfl (by kernel_rfl) (by kernel_rfl) (by kernel_rfl) (fun _ _ _ h => h) (Or.inl ⟨by kernel_rfl, ?_⟩) HS ?_
        rotate_left
        · (rintro w ⟨⟨x0, x1, x2, x3, x4, x5, x6, x7⟩, ⟨y0, y1, y2, y3, y4⟩⟩; go_simp) <;> with_reducible rfl
        try simp only [Act.put, List.getElem_toArray, List.getElem_cons_succ, List.getElem_cons_zero, List.setIfInBounds_toArray, List.set_cons_zero, List.set_cons_succ]
        refine wpAnyH_take (i := 27) (v := ?_) rfl (by kernel_rfl) (by kernel_rfl) (by kernel_rfl) (fun _ _ _ h => h) (Or.inl ⟨by kernel_rfl, ?_⟩) HS ?_
        rotate_left
        · (rintro w ⟨⟨x0, x1, x2, x3, x4, x5, x6, x7⟩, ⟨y0, y1, y2, y3, y4⟩⟩; go_simp) <;> with_reducible rfl
        try simp only [Act.put, List.getElem_toArray, List.getElem_cons_succ, List.getElem_cons_zero, List.setIfInBounds_toArray, List.set_cons_zero, List.set_cons_succ]
        refine wpAnyH_take (i := 28) (v := ?_) rfl (by kernel_rfl) (by kernel_rfl) (by kernel_rfl) (fun _ _ _ h => h) (Or.inl ⟨by kernel_rfl, ?_⟩) HS ?_
        rotate_left
        · (rintro w ⟨⟨x0, x1, x2, x3, x4, x5, x6, x7⟩, ⟨y0, y1, y2, y3, y4⟩⟩; go_simp) <;> with_reducible rfl
        try simp only [Act.put, List.getElem_toArray, List.getElem_cons_succ, List.getElem_cons_zero, List.setIfInBounds_toArray, List.set_cons_zero, List.set_cons_succ]
        refine wpAnyH_take (i := 29) (v := ?_) rfl (by kernel_rfl) (by kernel_rfl) (by kernel_rfl) (fun _ _ _ h => h) (Or.inl ⟨by kernel_rfl, ?_⟩) HS ?_
        rotate_left
        · (rintro w ⟨⟨x0, x1, x2, x3, x4, x5, x6, x7⟩, ⟨y0, y1, y2, y3, y4⟩⟩; go_simp) <;> with_reducible rfl
        try simp only [Act.put, List.getElem_toArray, List.getElem_cons_succ, List.getElem_cons_zero, List.setIfInBounds_toArray, List.set_cons_zero, List.set_cons_succ]
        refine wpAnyH_take (i := 30) (v := ?_) rfl (by kernel_rfl) (by kernel_rfl) (by kernel_rfl) (fun _ _ _ h => h) (Or.inl ⟨by kernel_rfl, ?_⟩) HS ?_
        rotate_left
        · (rintro w ⟨⟨x0, x1, x2, x3, x4, x5, x6, x7⟩, ⟨y0, y1, y2, y3, y4⟩⟩; go_simp) <;> with_reducible rfl
        try simp only [Act.put, List.getElem_toArray, List.getElem_cons_succ, List.getElem_cons_zero, List.setIfInBounds_toArray, List.set_cons_zero, List.set_cons_succ]
        refine wpAnyH_ready (rs := [31, 36]) (by kernel_rfl) (by simp) ?_
        refine AllReadyH.cons rfl (fun K hK => ?o1) (AllReadyH.cons rfl (fun K hK => ?o2) AllReadyH.nil)
        case' o1 =>
          go_simp
          refine (CG.out _ _ _ _ _ HO.out.B (sub_ar9 (HAll.out.2.2.1.1.later HO.out.B) hii) (sub_ar9 (HAll.out.2.2.1.2.1.later HO.out.B) hii) (sub_ar9 (HAll.out.2.2.1.2.2.1.later HO.out.B) hii) (sub_ar9 (HAll.out.2.2.1.2.2.2.later HO.out.B) hii)).mono ?_
          rintro e q1 ⟨k1, k2, k3, rfl, hV, hle, hb⟩
          refine hK.out _ _ ⟨HS.1.later hb, HS.2.later9 hb⟩ (fun HS => ?_)
          clear hK K
          replace HO : Hid (O9 w bs g1 g2 g3 nP (T + 1) FM FV FY q1) := HO.out.later hb
          have HVk : Hid (V9 1 k1 k2 k3 (fun _ => FM ii) (fun _ => FV ii) (fun _ => FY ii) q1) := hV
          clear hV hle hb
          refine wpAnyH_take (i := 32) (v := ?_) rfl (by kernel_rfl) (by kernel_rfl) (by kernel_rfl) (fun _ _ _ h => h) (Or.inl ⟨by kernel_rfl, ?_⟩) HS ?_
          rotate_left
          · (rintro w ⟨⟨x0, x1, x2, x3, x4, x5, x6, x7⟩, ⟨y0, y1, y2, y3, y4⟩⟩; go_simp) <;> with_reducible rfl
          try simp only [Act.put, List.getElem_toArray, List.getElem_cons_succ, List.getElem_cons_zero, List.setIfInBounds_toArray, List.set_cons_zero, List.set_cons_succ]
          refine wpAnyH_take (i := 33) (v := ?_) rfl (by kernel_rfl) (by kernel_rfl) (by kernel_rfl) (fun _ _ _ h => h) (Or.inl ⟨by kernel_rfl, ?_⟩) HS ?_
          rotate_left
          · (rintro w ⟨⟨x0, x1, x2, x3, x4, x5, x6, x7⟩, ⟨y0, y1, y2, y3, y4⟩⟩; go_simp) <;> with_reducible rfl
          try simp only [Act.put, List.getElem_toArray, List.getElem_cons_succ, List.getElem_cons_zero, List.setIfInBounds_toArray, List.set_cons_zero, List.set_cons_succ]
          refine wpAnyH_take (i := 34) (v := ?_) rfl (by kernel_rfl) (by kernel_rfl) (by kernel_rfl) (fun _ _ _ h => h) (Or.inl ⟨by kernel_rfl, ?_⟩) HS ?_
          rotate_left
          · (rintro w ⟨⟨x0, x1, x2, x3, x4, x5, x6, x7⟩, ⟨y0, y1, y2, y3, y4⟩⟩; go_simp) <;> with_reducible rfl
          try simp only [Act.put, List.getElem_toArray, List.getElem_cons_succ, List.getElem_cons_zero, List.setIfInBounds_toArray, List.set_cons_zero, List.set_cons_succ]
          refine wpAnyH_take (i := 35) (v := ?_) rfl (by kernel_rfl) (by kernel_rfl) (by kernel_rfl) (fun _ _ _ h => h) (Or.inl ⟨by kernel_rfl, ?_⟩) HS ?_
          rotate_left
          · (rintro w ⟨⟨x0, x1, x2, x3, x4, x5, x6, x7⟩, ⟨y0, y1, y2, y3, y4⟩⟩; go_simp) <;> with_reducible rfl
          try simp only [Act.put, List.getElem_toArray, List.getElem_cons_succ, List.getElem_cons_zero, List.setIfInBounds_toArray, List.set_cons_zero, List.set_cons_succ]
          refine wpAnyH_ready (rs := [36]) (by kernel_rfl) (by simp) ?_
          refine AllReadyH.cons rfl (fun K hK => ?_) AllReadyH.nil
          go_simp
          have HF : Hid (w.heap.size ≤ q1.heap.size ∧ q1.heap.size ≠ w.heap.size ∧ q1.heap.size ≠ h1 ∧ q1.heap.size ≠ bs ∧ (g1 ≠ q1.heap.size ∧ g2 ≠ q1.heap.size ∧ g3 ≠ q1.heap.size)) := ⟨HO.out.B.size, by have := HS.1.lt; omega, by have := World.block_lt_of_cell? _ _ HS.2.c0; dsimp only at this; omega, by have := HO.out.S.lt; omega, HO.out.V.fresh (by omega)⟩
          have HFk : Hid (k1 ≠ q1.heap.size ∧ k2 ≠ q1.heap.size ∧ k3 ≠ q1.heap.size) := HVk.out.fresh (by omega)
          refine hK.out _ _ ⟨HS.1.later (bel1 _ _), HS.2.later9 (bel1 _ _)⟩ (fun HS => ?_)
          clear hK K
          replace HO : Hid (O9 w bs g1 g2 g3 nP (T + 1) FM FV FY (q1.alloc (.cells #[.slice none 0 0, .slice none 0 0, .int .i64 0] 38))) := HO.out.later (bel1 _ _)
          have HY : Hid (Y3 q1.heap.size (.slice none 0 0) (.slice none 0 0) (.int .i64 0) (q1.alloc (.cells #[.slice none 0 0, .slice none 0 0, .int .i64 0] 38))) := Y3.new _ _ _ _ _
          replace HVk : Hid (V9 1 k1 k2 k3 (fun _ => FM ii) (fun _ => FV ii) (fun _ => FY ii) (q1.alloc (.cells #[.slice none 0 0, .slice none 0 0, .int .i64 0] 38))) := HVk.out.later (bel1 _ _)
          generalize (q1.alloc (.cells #[.slice none 0 0, .slice none 0 0, .int .i64 0] 38)) = q2 at *
          generalize q1.heap.size = bt at *
        case' o2 =>
          go_simp
          have HF : Hid (w.heap.size ≤ q0.heap.size ∧ q0.heap.size ≠ w.heap.size ∧ q0.heap.size ≠ h1 ∧ q0.heap.size ≠ bs ∧ (g1 ≠ q0.heap.size ∧ g2 ≠ q0.heap.size ∧ g3 ≠ q0.heap.size)) := ⟨HO.out.B.size, by have := HS.1.lt; omega, by have := World.block_lt_of_cell? _ _ HS.2.c0; dsimp only at this; omega, by have := HO.out.S.lt; omega, HO.out.V.fresh (by omega)⟩
          refine hK.out _ _ ⟨HS.1.later (bel1 _ _), HS.2.later9 (bel1 _ _)⟩ (fun HS => ?_)
          clear hK K
          replace HO : Hid (O9 w bs g1 g2 g3 nP (T + 1) FM FV FY (q0.alloc (.cells #[.slice none 0 0, .slice none 0 0, .int .i64 0] 38))) := HO.out.later (bel1 _ _)
          have HY : Hid (Y3 q0.heap.size (.slice none 0 0) (.slice none 0 0) (.int .i64 0) (q0.alloc (.cells #[.slice none 0 0, .slice none 0 0, .int .i64 0] 38))) := Y3.new _ _ _ _ _
          generalize (q0.alloc (.cells #[.slice none 0 0, .slice none 0 0, .int .i64 0] 38)) = q1 at *
          generalize q0.heap.size = bt at *
          refine wpAnyH_ready (rs := [31]) (by kernel_rfl) (by simp) ?_
          refine AllReadyH.cons rfl (fun K hK => ?_) AllReadyH.nil
          go_simp
          refine (CG.out _ _ _ _ _ HO.out.B (sub_ar9 (HAll.out.2.2.1.1.later HO.out.B) hii) (sub_ar9 (HAll.out.2.2.1.2.1.later HO.out.B) hii) (sub_ar9 (HAll.out.2.2.1.2.2.1.later HO.out.B) hii) (sub_ar9 (HAll.out.2.2.1.2.2.2.later HO.out.B) hii)).mono ?_
          rintro e q2 ⟨k1, k2, k3, rfl, hV, hle, hb⟩
          have HFk : Hid (k1 ≠ bt ∧ k2 ≠ bt ∧ k3 ≠ bt) := by have := HY.out.lt; exact ⟨by omega, by omega, by omega⟩
          refine hK.out _ _ ⟨HS.1.later hb, HS.2.later9 hb⟩ (fun HS => ?_)
          clear hK K
          replace HO : Hid (O9 w bs g1 g2 g3 nP (T + 1) FM FV FY q2) := HO.out.later hb
          have HVk : Hid (V9 1 k1 k2 k3 (fun _ => FM ii) (fun _ => FV ii) (fun _ => FY ii) q2) := hV
          replace HY : Hid (Y3 bt (.slice none 0 0) (.slice none 0 0) (.int .i64 0) q2) := HY.out.later hb
          clear hV hle hb
          refine wpAnyH_take (i := 32) (v := ?_) rfl (by kernel_rfl) (by kernel_rfl) (by kernel_rfl) (fun _ _ _ h => h) (Or.inl ⟨by kernel_rfl, ?_⟩) HS ?_
          rotate_left
          · (rintro w ⟨⟨x0, x1, x2, x3, x4, x5, x6, x7⟩, ⟨y0, y1, y2, y3, y4⟩⟩; go_simp) <;> with_reducible rfl
          try simp only [Act.put, List.getElem_toArray, List.getElem_cons_succ, List.getElem_cons_zero, List.setIfInBounds_toArray, List.set_cons_zero, List.set_cons_succ]
          refine wpAnyH_take (i := 33) (v := ?_) rfl (by kernel_rfl) (by kernel_rfl) (by kernel_rfl) (fun _ _ _ h => h) (Or.inl ⟨by kernel_rfl, ?_⟩) HS ?_
          rotate_left
          · (rintro w ⟨⟨x0, x1, x2, x3, x4, x5, x6, x7⟩, ⟨y0, y1, y2, y3, y4⟩⟩; go_simp) <;> with_reducible rfl
          try simp only [Act.put, List.getElem_toArray, List.getElem_cons_succ, List.getElem_cons_zero, List.setIfInBounds_toArray, List.set_cons_zero, List.set_cons_succ]
          refine wpAnyH_take (i := 34) (v := ?_) rfl (by kernel_rfl) (by kernel_rfl) (by kernel_rfl) (fun _ _ _ h => h) (Or.inl ⟨by kernel_rfl, ?_⟩) HS ?_
          rotate_left
          · (rintro w ⟨⟨x0, x1, x2, x3, x4, x5, x6, x7⟩, ⟨y0, y1, y2, y3, y4⟩⟩; go_simp) <;> with_reducible rfl
          try simp only [Act.put, List.getElem_toArray, List.getElem_cons_succ, List.getElem_cons_zero, List.setIfInBounds_toArray, List.set_cons_zero, List.set_cons_succ]
          refine wpAnyH_take (i := 35) (v := ?_) rfl (by kernel_rfl) (by kernel_rfl) (by kernel_rfl) (fun _ _ _ h => h) (Or.inl ⟨by kernel_rfl, ?_⟩) HS ?_
          rotate_left
          · (rintro w ⟨⟨x0, x1, x2, x3, x4, x5, x6, x7⟩, ⟨y0, y1, y2, y3, y4⟩⟩; go_simp) <;> with_reducible rfl
          try simp only [Act.put, List.getElem_toArray, List.getElem_cons_succ, List.getElem_cons_zero, List.setIfInBounds_toArray, List.set_cons_zero, List.set_cons_succ]
        all_goals
            obtain ⟨y0, y1, y2, f0, f1, f2⟩ := HY.out
            refine wpAnyH_ready (rs := [37]) (by kernel_rfl) (by simp) ?_
            refine AllReadyH.cons rfl (fun K hK => ?_) AllReadyH.nil
            go_simp
            have f3 := HF.out
            refine hK.out _ _ ⟨((HS.1.far9p ⟨bt, 0, none⟩ _ f3.2.1).far9p ⟨bt, 1, none⟩ _ f3.2.1).far9p ⟨bt, 2, none⟩ _ f3.2.1, ((HS.2.far9p ⟨bt, 0, none⟩ _ f3.2.2.1).far9p ⟨bt, 1, none⟩ _ f3.2.2.1).far9p ⟨bt, 2, none⟩ _ f3.2.2.1⟩ (fun HS => ?_)
            clear hK K y0 y1 y2 f0 f1 f2
            refine wpAnyH_take (i := 38) (v := ?_) rfl (by kernel_rfl) (by kernel_rfl) (by kernel_rfl) (fun _ _ _ h => h) (Or.inl ⟨by kernel_rfl, ?_⟩) HS ?_
            rotate_left
            · (rintro w ⟨⟨x0, x1, x2, x3, x4, x5, x6, x7⟩, ⟨y0, y1, y2, y3, y4⟩⟩; go_simp) <;> with_reducible rfl
            try simp only [Act.put, List.getElem_toArray, List.getElem_cons_succ, List.getElem_cons_zero, List.setIfInBounds_toArray, List.set_cons_zero, List.set_cons_succ]
            refine wpAnyH_take (i := 39) (v := ?_) rfl (by kernel_rfl) (by kernel_rfl) (by kernel_rfl) (fun _ _ _ h => h) (Or.inl ⟨by kernel_rfl, ?_⟩) HS ?_
            rotate_left
            · (rintro w ⟨⟨x0, x1, x2, x3, x4, x5, x6, x7⟩, ⟨y0, y1, y2, y3, y4⟩⟩; go_simp) <;> with_reducible rfl
            try simp only [Act.put, List.getElem_toArray, List.getElem_cons_succ, List.getElem_cons_zero, List.setIfInBounds_toArray, List.set_cons_zero, List.set_cons_succ]
            refine wpAnyH_done (by kernel_rfl) ?_ _
            have K1 : Hid (Y3 bt (.slice (some ⟨k1, 0, none⟩) 1 1) (.slice (some ⟨k2, 0, none⟩) 1 1) (.int .i64 (T + 1)) (((q2.setCell ⟨bt, 0, none⟩ (.slice (some ⟨k1, 0, none⟩) 1 1)).setCell ⟨bt, 1, none⟩ (.slice (some ⟨k2, 0, none⟩) 1 1)).setCell ⟨bt, 2, none⟩ (.int .i64 (T + 1))) ∧ V9 1 k1 k2 k3 (fun _ => FM ii) (fun _ => FV ii) (fun _ => FY ii) (((q2.setCell ⟨bt, 0, none⟩ (.slice (some ⟨k1, 0, none⟩) 1 1)).setCell ⟨bt, 1, none⟩ (.slice (some ⟨k2, 0, none⟩) 1 1)).setCell ⟨bt, 2, none⟩ (.int .i64 (T + 1)))) := ⟨((HY.out.set0 _).set1 _).set2 _, ((HVk.out.far ⟨bt, 0, none⟩ _ HFk.out).far ⟨bt, 1, none⟩ _ HFk.out).far ⟨bt, 2, none⟩ _ HFk.out⟩
            have K2 : Hid (O9 w bs g1 g2 g3 nP (T + 1) FM FV FY (((q2.setCell ⟨bt, 0, none⟩ (.slice (some ⟨k1, 0, none⟩) 1 1)).setCell ⟨bt, 1, none⟩ (.slice (some ⟨k2, 0, none⟩) 1 1)).setCell ⟨bt, 2, none⟩ (.int .i64 (T + 1)))) := ((HO.out.far ⟨bt, 0, none⟩ _ f3.1 f3.2.2.2.1 f3.2.2.2.2).far ⟨bt, 1, none⟩ _ f3.1 f3.2.2.2.1 f3.2.2.2.2).far ⟨bt, 2, none⟩ _ f3.1 f3.2.2.2.1 f3.2.2.2.2
            have K3 : Hid (Q5w h1 (.slice (some ⟨bM, oM, none⟩) nP caM) (.slice (some ⟨bV, oV, none⟩) nP caV) (.int .i64 T) (.slice (some ⟨bP, oP, none⟩) nP caP) (.slice (some ⟨bG, oG, none⟩) nP caG) (((q2.setCell ⟨bt, 0, none⟩ (.slice (some ⟨k1, 0, none⟩) 1 1)).setCell ⟨bt, 1, none⟩ (.slice (some ⟨k2, 0, none⟩) 1 1)).setCell ⟨bt, 2, none⟩ (.int .i64 (T + 1)))) := HS.2
            clear HY HVk HO HS HF HFk f3
            generalize (((q2.setCell ⟨bt, 0, none⟩ (.slice (some ⟨k1, 0, none⟩) 1 1)).setCell ⟨bt, 1, none⟩ (.slice (some ⟨k2, 0, none⟩) 1 1)).setCell ⟨bt, 2, none⟩ (.int .i64 (T + 1))) = wE at *
            go_wp2
            go_meet
            case rel => exact ⟨bt, k1, k2, k3, rfl, rfl, rfl, K1, K2, K3⟩
      case rest =>
        obtain ⟨bt, k1, k2, k3, rfl, rfl, rfl, HK1, HK2, HK3⟩ := hcut
        clear HB6 HS6 HV6 HX6 HN6 CG
        have a0 := HK1.out.1.c0
        have a1 := HK1.out.1.c1
        have a2 := HK1.out.1.c2
        have b0 := HK2.out.S.c0
        have b1' := HK2.out.S.c1
        have b2' := HK2.out.S.c2
        have n3 := HK3.out.c3
        have c1 := ar_at0 (j := 0) HK1.out.2.a1 (by omega)
        have c2 := ar_at0 (j := 0) HK1.out.2.a2 (by omega)
        have c3 := ar_at0 (j := 0) HK1.out.2.a3 (by omega)
        have e1 := ar_at0 HK2.out.V.a1 hii
        have e2 := ar_at0 HK2.out.V.a2 hii
        have e3 := ar_at0 HK2.out.V.a3 hii
        clear sl0 slM slV slP slG neM neV neP neG
        have HB : Hid (Below w.heap.size w wc) := HK2.out.B
        clear HK1 HK2 HK3 wi
        generalize FM ii = fm at *
        generalize FV ii = fv at *
        generalize FY ii = fy at *
        have r1 : (fm == fm) = true := by simp
        have r2 : (fv == fv) = true := by simp
        have r3 : (fy == fy) = true := by simp
        have r4 : ((nP : Int) == (nP : Int)) = true := by simp
        have r5 : (T + 1 == T + 1) = true := by simp
        go_wp2
        go_quiet (fail)
        go_wp2
        go_ret
        exact ⟨rfl, below_drewN HB.out _⟩
    · have CE := step9_no B W _ nD at' fa b1 b2 ep dc 0 T _ _ _ _ nM nV nP nG M V P G none 0 w4 hg (HAll.out.1.later HB4.out) (HAll.out.2.2.1.1.later HB4.out) (HAll.out.2.2.1.2.1.later HB4.out) (HAll.out.2.2.1.2.2.1.later HB4.out) (HAll.out.2.2.1.2.2.2.later HB4.out) (Or.inl rfl)
      go_wp2_with fail
      refine CE.mono ?_
      rintro e w5 ⟨E, rfl, hE, hb⟩
      have hne := stE_ne hE hg
      have hEb : (E != 0) = true := by simp [hne]
      have HB5 : Hid (Below w.heap.size w (w5.alloc (.cells #[.slice none 0 0, .slice none 0 0, .int .i64 0] 38))) := bchain (bchain HB4.out hb) (bel1 _ _)
      clear hE hg hne hb HB4 CE
      go_wp2
      go_ret
      exact ⟨rfl, HB5.out⟩
  · have e0 := hTl.no hfw
    subst e0
    clear hTl
    go_wp2
    go_ret
    exact ⟨rfl, HB4.out⟩
end Go.Proofs.YtcdehbhdloaieaaDoor
