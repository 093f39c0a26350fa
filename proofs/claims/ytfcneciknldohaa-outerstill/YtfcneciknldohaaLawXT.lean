/-
  OuterStill: for every rate, moment and two lists the law regattalaw10.OuterStill returns true: a delta of nought, without momentum, moves nothing, and with a rate of nought the parameters stay.
-/
import Derived.Test.YtfcneciknldohaaOHelp
set_option linter.unusedVariables false
set_option linter.unusedSimpArgs false
namespace Go.Proofs.Ytfcneciknldohaa
open Go.RowKit

theorem ar_congr10 {w : World} {v : Value} {n : Nat} {f g : Nat → Int} (h : Ar w v n f) (e : ∀ k, k < n → f k = g k) : Ar w v n g := by
  obtain ⟨ad, cap, b, o, h0, h1, h2, h3, h4⟩ := h
  exact ⟨ad, cap, b, o, h0, h1, h2, h3, fun k hk => by rw [← e k hk]; exact h4 k hk⟩
/-- The first step's outer, and what came of the two. -/
structure S10 (w : World) (bo : Nat) (vP vB : Value) (n : Nat) (P : Nat → Int) (W : World) : Prop where
  B : Below w.heap.size w W
  Y : Y2 bo vP vB W
  a : Ar W vP n P
  b : Ar W vB n (fun _ => 0)
theorem S10.later {w : World} {bo : Nat} {vP vB : Value} {n : Nat} {P : Nat → Int} {W W' : World} (h : S10 w bo vP vB n P W) (hb : Below W.heap.size W W') : S10 w bo vP vB n P W' := ⟨bchain h.B hb, h.Y.later hb, h.a.later hb, h.b.later hb⟩
theorem S10.fresh {w : World} {bo : Nat} {vP vB : Value} {n : Nat} {P : Nat → Int} {W : World} (h : S10 w bo vP vB n P W) : w.heap.size ≤ W.heap.size ∧ W.heap.size ≠ bo ∧ Nb vP W.heap.size ∧ Nb vB W.heap.size := ⟨h.B.size, fun e => by have := h.Y.lt; omega, h.a.nb (Nat.le_refl _), h.b.nb (Nat.le_refl _)⟩
theorem S10.far {w : World} {bo : Nat} {vP vB : Value} {n : Nat} {P : Nat → Int} {W : World} (h : S10 w bo vP vB n P W) (p : Addr) (u : Value) (hp : w.heap.size ≤ p.block ∧ p.block ≠ bo ∧ Nb vP p.block ∧ Nb vB p.block) : S10 w bo vP vB n P (W.setCell p u) := ⟨h.B.setCell hp.1 u, h.Y.far p u hp.2.1, h.a.set10 p u hp.2.2.1, h.b.set10 p u hp.2.2.2⟩
set_option maxRecDepth 100000 in
set_option maxHeartbeats 16000000 in
theorem outerStill_any (r m : Int) (va vb : Value) (n l : Nat) (f g : Nat → Int) (r1 : r ≤ 9223372036854775807) (w : World) (hA : Ar w va n f) (hB : Ar w vb l g) :
    Calls Try.prog 7 #[.agg #[.int .i64 r, .int .i64 m], va, vb] w fun e w' => e = .returned (.bool true) ∧ Below w.heap.size w w' := by
  have HAB : Hid (Ar w va n f ∧ Ar w vb l g) := ⟨hA, hB⟩
  obtain ⟨ada, ca, ba, oa, rfl, i1, i2, -, -⟩ := hA
  obtain ⟨adb, cb, bb, ob, rfl, q1, q2, -, -⟩ := hB
  unfold maxLen at i2 q2
  obtain ⟨w0, hw0⟩ : ∃ w0, w0 = w.alloc (.cells #[.int .i64 r, .int .i64 m] 24) := ⟨_, rfl⟩
  have HB0 : Hid (Below w.heap.size w w0) := by rw [hw0]; exact bel1 _ _
  have HX : Y2 w.heap.size (.int .i64 r) (.int .i64 m) w0 := by rw [hw0]; exact Y2.new _ _ _ _
  go_enter Try.func7, Try.ntmps7
  go_upto_region 1 with fail
  rw [← hw0]
  clear hw0
  go_wp2_with fail
  refine (awake10_any _).mono ?_
  rintro e w1 ⟨rfl, hb⟩
  have HW1 : Hid (Below w.heap.size w w1) := bchain HB0.out hb
  replace HX := HX.later hb
  clear hb HB0
  have x0 := HX.c0
  have x1 := HX.c1
  by_cases hn : 200 < n
  · have hn' : (200 : Int) < (n : Int) := by omega
    go_wp2
    go_ret
    exact ⟨rfl, HW1.out⟩
  have hn' : ¬ (200 : Int) < (n : Int) := by omega
  by_cases hnm : n = l
  case neg =>
    have hnm' : ¬ (n : Int) = (l : Int) := by omega
    have hbe : ((n : Int) != (l : Int)) = true := by simpa using hnm'
    go_wp2
    go_ret
    exact ⟨rfl, HW1.out⟩
  subst hnm
  by_cases p1 : r < 0
  · go_wp2
    go_ret
    exact ⟨rfl, HW1.out⟩
  by_cases p2 : m < 0
  · go_wp2
    go_ret
    exact ⟨rfl, HW1.out⟩
  by_cases p3 : 4294967296 ≤ m
  · go_wp2
    go_ret
    exact ⟨rfl, HW1.out⟩
  have HR : Hid (ruO r m) := ⟨by omega, by omega, by omega⟩
  have HN : Hid (n ≤ 200) := by show n ≤ 200; omega
  have CB : Hid (∀ W : World, Ar W (.slice ada n ca) n f → Calls Try.prog 16 #[.slice ada n ca] W fun e w' => ∃ (a1 a2 : Option Addr) (c1 c2 : Nat), e = .returned (.tuple #[.agg #[.slice a1 n c1, .slice a2 n c2], .int .i64 0]) ∧ Bg10 W (.slice a1 n c1) (.slice a2 n c2) n f w') := fun W h => begin10_ok _ n f (by omega) W h
  have hfr : ∀ i, i < n → -9223372036854775808 ≤ f i ∧ f i ≤ 9223372036854775807 := fun i hi => by
    obtain ⟨_, _, _, _, _, _, _, _, hx⟩ := HAB.out.1
    exact (hx i hi).2
  have CS1 : Hid (∀ (W : World) (vP vB vG : Value), Ar W vP n f → Ar W vB n (fun _ => 0) → Ar W vG n (fun _ => 0) → Calls Try.prog 10 #[.pointer none, .int .i64 r, .int .i64 m, .agg #[vP, vB], vG] W fun e w' => ∃ (a1 a2 : Option Addr) (k1 k2 : Nat), e = .returned (.tuple #[.agg #[.slice a1 n k1, .slice a2 n k2], .int .i64 0]) ∧ (Ar w' (.slice a1 n k1) n f ∧ Ar w' (.slice a2 n k2) n (fun _ => 0) ∧ Ow W.heap.size (.slice a1 n k1) ∧ Ow W.heap.size (.slice a2 n k2)) ∧ Below W.heap.size W w') := by
    intro W vP vB vG h1 h2 h3
    refine (step10_nil r m HR.out r1 vP vB vG n _ _ _ (by omega) W h1 h2 h3).mono ?_
    rintro e w' ⟨a1, a2, k1, k2, he, ⟨q1, q2, q3, q4⟩, hb⟩
    exact ⟨a1, a2, k1, k2, he, ⟨ar_congr10 q1 (fun i hi => oP_nought r m (f i) (hfr i hi).1 (hfr i hi).2), ar_congr10 q2 (fun i hi => oB_nought m), q3, q4⟩, hb⟩
  have CS2 : Hid (∀ (W : World) (vP vB : Value), Ar W vP n f → Ar W vB n (fun _ => 0) → Ar W (.slice adb n cb) n g → Calls Try.prog 10 #[.pointer none, .int .i64 0, .int .i64 m, .agg #[vP, vB], .slice adb n cb] W fun e w' => ∃ (a1 a2 : Option Addr) (k1 k2 : Nat), e = .returned (.tuple #[.agg #[.slice a1 n k1, .slice a2 n k2], .int .i64 0]) ∧ Ar w' (.slice a1 n k1) n f ∧ Below W.heap.size W w') := by
    intro W vP vB h1 h2 h3
    refine (step10_nil 0 m ⟨by omega, HR.out.2.1, HR.out.2.2⟩ (by omega) vP vB _ n _ _ _ (by omega) W h1 h2 h3).mono ?_
    rintro e w' ⟨a1, a2, k1, k2, he, ⟨q1, q2, q3, q4⟩, hb⟩
    exact ⟨a1, a2, k1, k2, he, ar_congr10 q1 (fun i hi => oP_rest m 0 (f i) (g i) (hfr i hi).1 (hfr i hi).2), hb⟩
  clear hfr
  go_wp2_with fail
  refine (CB.out _ (HAB.out.1.later HW1.out)).mono ?_
  rintro e w4 ⟨a1, a2, z1, z2, rfl, hG1, hG2, hGo, hb⟩
  have hwb : w.heap.size ≤ w4.heap.size := Nat.le_trans HW1.out.size hb.size
  obtain ⟨w5, hw5⟩ : ∃ w5, w5 = w4.alloc (.cells #[.slice a1 n z1, .slice a2 n z2] 27) := ⟨_, rfl⟩
  have HS5 : Hid (S10 w w4.heap.size (.slice a1 n z1) (.slice a2 n z2) n f w5) := by rw [hw5]; exact ⟨bchain (bchain HW1.out hb) (bel1 _ _), Y2.new _ _ _ _, hG1.later (bel1 _ _), hG2.later (bel1 _ _)⟩
  have HX5 : Hid (Y2 w.heap.size (.int .i64 r) (.int .i64 m) w5) := by rw [hw5]; exact (HX.later hb).later (bel1 _ _)
  clear hG1 hG2 hGo hb CB HW1 HX x0 x1
  go_upto_region 6 with fail
  rw [← hw5]
  clear hw5
  generalize w4.heap.size = bo at *
  have hmk := make_fx n (by omega)
  have hbD : Below w5.heap.size w5 w5.drew := (Below.refl _ _).drew
  replace HS5 : Hid (S10 w bo (.slice a1 n z1) (.slice a2 n z2) n f w5.drew) := HS5.out.later hbD
  replace HX5 : Hid (Y2 w.heap.size (.int .i64 r) (.int .i64 m) w5.drew) := HX5.out.later hbD
  go_cut [9, 10] (fun s9 s10 wc => ∃ (ba : Nat) (a3 a4 : Option Addr) (k3 k4 : Nat), s9 = .pointer (some ⟨ba, 0, none⟩) ∧ s10 = .int .i64 0 ∧ Hid (Y2 ba (.slice a3 n k3) (.slice a4 n k4) wc ∧ Ar wc (.slice a3 n k3) n f ∧ Ar wc (.slice a4 n k4) n (fun _ => 0)) ∧ Hid (S10 w bo (.slice a1 n z1) (.slice a2 n z2) n f wc ∧ Y2 w.heap.size (.int .i64 r) (.int .i64 m) wc))
  case first =>
    refine wp_region_held_drew (S := fun W' => Y2 w.heap.size (.int .i64 r) (.int .i64 m) W' ∧ Y2 bo (.slice a1 n z1) (.slice a2 n z2) W') (by kernel_rfl) ⟨HX5.out, HS5.out.Y⟩ (fun HS => ?_)
    clear hbD
    generalize w5.drew = q0 at *
    refine wpAnyH_take (i := 0) (v := ?v1) rfl (by kernel_rfl) (by kernel_rfl) (by kernel_rfl) (fun _ _ _ h => h) (Or.inl ⟨by kernel_rfl, ?h1⟩) HS ?r1
    case h1 => (rintro w ⟨⟨x0, x1, -, -⟩, ⟨y0, y1, -, -⟩⟩; go_simp) <;> with_reducible rfl
    try simp only [Act.put, List.getElem_toArray, List.getElem_cons_succ, List.getElem_cons_zero, List.setIfInBounds_toArray, List.set_cons_zero, List.set_cons_succ]
    refine wpAnyH_take (i := 1) (v := ?v2) rfl (by kernel_rfl) (by kernel_rfl) (by kernel_rfl) (fun _ _ _ h => h) (Or.inl ⟨by kernel_rfl, ?h2⟩) HS ?r2
    case h2 => (rintro w ⟨⟨x0, x1, -, -⟩, ⟨y0, y1, -, -⟩⟩; go_simp) <;> with_reducible rfl
    try simp only [Act.put, List.getElem_toArray, List.getElem_cons_succ, List.getElem_cons_zero, List.setIfInBounds_toArray, List.set_cons_zero, List.set_cons_succ]
    refine wpAnyH_take (i := 2) (v := ?v3) rfl (by kernel_rfl) (by kernel_rfl) (by kernel_rfl) (fun _ _ _ h => h) (Or.inl ⟨by kernel_rfl, ?h3⟩) HS ?r3
    case h3 => (rintro w ⟨⟨x0, x1, -, -⟩, ⟨y0, y1, -, -⟩⟩; go_simp) <;> with_reducible rfl
    try simp only [Act.put, List.getElem_toArray, List.getElem_cons_succ, List.getElem_cons_zero, List.setIfInBounds_toArray, List.set_cons_zero, List.set_cons_succ]
    refine wpAnyH_take (i := 3) (v := ?v4) rfl (by kernel_rfl) (by kernel_rfl) (by kernel_rfl) (fun _ _ _ h => h) (Or.inl ⟨by kernel_rfl, ?h4⟩) HS ?r4
    case h4 => (rintro w ⟨⟨x0, x1, -, -⟩, ⟨y0, y1, -, -⟩⟩; go_simp) <;> with_reducible rfl
    try simp only [Act.put, List.getElem_toArray, List.getElem_cons_succ, List.getElem_cons_zero, List.setIfInBounds_toArray, List.set_cons_zero, List.set_cons_succ]
    refine wpAnyH_take (i := 4) (v := ?v5) rfl (by kernel_rfl) (by kernel_rfl) (by kernel_rfl) (fun _ _ _ h => h) (Or.inl ⟨by kernel_rfl, ?h5⟩) HS ?r5
    case h5 => (rintro w ⟨⟨x0, x1, -, -⟩, ⟨y0, y1, -, -⟩⟩; go_simp) <;> with_reducible rfl
    try simp only [Act.put, List.getElem_toArray, List.getElem_cons_succ, List.getElem_cons_zero, List.setIfInBounds_toArray, List.set_cons_zero, List.set_cons_succ]
    refine wpAnyH_take (i := 5) (v := ?v6) rfl (by kernel_rfl) (by kernel_rfl) (by kernel_rfl) (fun _ _ _ h => h) (Or.inl ⟨by kernel_rfl, ?h6⟩) HS ?r6
    case h6 => (rintro w ⟨⟨x0, x1, -, -⟩, ⟨y0, y1, -, -⟩⟩; go_simp) <;> with_reducible rfl
    try simp only [Act.put, List.getElem_toArray, List.getElem_cons_succ, List.getElem_cons_zero, List.setIfInBounds_toArray, List.set_cons_zero, List.set_cons_succ]
    refine wpAnyH_take (i := 6) (v := ?v7) rfl (by kernel_rfl) (by kernel_rfl) (by kernel_rfl) (fun _ _ _ h => h) (Or.inl ⟨by kernel_rfl, ?h7⟩) HS ?r7
    case h7 => (rintro w ⟨⟨x0, x1, -, -⟩, ⟨y0, y1, -, -⟩⟩; go_simp) <;> with_reducible rfl
    try simp only [Act.put, List.getElem_toArray, List.getElem_cons_succ, List.getElem_cons_zero, List.setIfInBounds_toArray, List.set_cons_zero, List.set_cons_succ]
    refine wpAnyH_ready (rs := [7, 12]) (by kernel_rfl) (by simp) ?_
    refine AllReadyH.cons rfl (fun K hK => ?_) (AllReadyH.cons rfl (fun K hK => ?_) AllReadyH.nil)
    · go_simp
      refine hK.out _ _ ⟨HS.1.later (bel1 _ _), HS.2.later (bel1 _ _)⟩ (fun HS => ?_)
      clear hK K
      have HG : Hid (Ar (q0.alloc (.cells (madeCells #[.int .i64 0] n) 22)) (.slice (some ⟨q0.heap.size, 0, none⟩) n n) n (fun _ => 0)) := made_ar q0 n (by omega) _
      replace HS5 : Hid (S10 w bo (.slice a1 n z1) (.slice a2 n z2) n f (q0.alloc (.cells (madeCells #[.int .i64 0] n) 22))) := HS5.out.later (bel1 _ _)
      replace HX5 : Hid (Y2 w.heap.size (.int .i64 r) (.int .i64 m) (q0.alloc (.cells (madeCells #[.int .i64 0] n) 22))) := HX5.out.later (bel1 _ _)
      generalize q0.alloc (.cells (madeCells #[.int .i64 0] n) 22) = q1 at *
      generalize q0.heap.size = bg at *
      refine wpAnyH_ready (rs := [8, 12]) (by kernel_rfl) (by simp) ?_
      refine AllReadyH.cons rfl (fun K hK => ?_) (AllReadyH.cons rfl (fun K hK => ?_) AllReadyH.nil)
      · go_simp
        refine (CS1.out _ _ _ _ HS5.out.a HS5.out.b HG.out).mono ?_
        rintro e q2 ⟨a3, a4, k3, k4, rfl, ⟨hP, hB, hO3, hO4⟩, hb⟩
        refine hK.out _ _ ⟨HS.1.later hb, HS.2.later hb⟩ (fun HS => ?_)
        clear hK K
        have HA : Hid (Ar q2 (.slice a3 n k3) n f ∧ Ar q2 (.slice a4 n k4) n (fun _ => 0)) := ⟨hP, hB⟩
        replace HS5 : Hid (S10 w bo (.slice a1 n z1) (.slice a2 n z2) n f q2) := HS5.out.later hb
        replace HX5 : Hid (Y2 w.heap.size (.int .i64 r) (.int .i64 m) q2) := HX5.out.later hb
        clear hP hB hO3 hO4 hb HG CS1
        try simp only [Act.put, List.getElem_toArray, List.getElem_cons_succ, List.getElem_cons_zero, List.setIfInBounds_toArray, List.set_cons_zero, List.set_cons_succ]
        refine wpAnyH_take (i := 9) (v := ?_) rfl (by kernel_rfl) (by kernel_rfl) (by kernel_rfl) (fun _ _ _ h => h) (Or.inl ⟨by kernel_rfl, ?_⟩) HS ?_
        rotate_left
        · (rintro w ⟨⟨x0, x1, -, -⟩, ⟨y0, y1, -, -⟩⟩; go_simp) <;> with_reducible rfl
        try simp only [Act.put, List.getElem_toArray, List.getElem_cons_succ, List.getElem_cons_zero, List.setIfInBounds_toArray, List.set_cons_zero, List.set_cons_succ]
        refine wpAnyH_take (i := 10) (v := ?_) rfl (by kernel_rfl) (by kernel_rfl) (by kernel_rfl) (fun _ _ _ h => h) (Or.inl ⟨by kernel_rfl, ?_⟩) HS ?_
        rotate_left
        · (rintro w ⟨⟨x0, x1, -, -⟩, ⟨y0, y1, -, -⟩⟩; go_simp) <;> with_reducible rfl
        try simp only [Act.put, List.getElem_toArray, List.getElem_cons_succ, List.getElem_cons_zero, List.setIfInBounds_toArray, List.set_cons_zero, List.set_cons_succ]
        refine wpAnyH_take (i := 11) (v := ?_) rfl (by kernel_rfl) (by kernel_rfl) (by kernel_rfl) (fun _ _ _ h => h) (Or.inl ⟨by kernel_rfl, ?_⟩) HS ?_
        rotate_left
        · (rintro w ⟨⟨x0, x1, -, -⟩, ⟨y0, y1, -, -⟩⟩; go_simp) <;> with_reducible rfl
        try simp only [Act.put, List.getElem_toArray, List.getElem_cons_succ, List.getElem_cons_zero, List.setIfInBounds_toArray, List.set_cons_zero, List.set_cons_succ]
        refine wpAnyH_ready (rs := [12]) (by kernel_rfl) (by simp) ?_
        refine AllReadyH.cons rfl (fun K hK => ?_) AllReadyH.nil
        go_simp
        have hfr := HS5.out.fresh
        refine hK.out _ _ ⟨HS.1.later (bel1 _ _), HS.2.later (bel1 _ _)⟩ (fun HS => ?_)
        clear hK K
        have HY : Hid (Y2 q2.heap.size (.slice none 0 0) (.slice none 0 0) (q2.alloc (.cells #[.slice none 0 0, .slice none 0 0] 27))) := Y2.new _ _ _ _
        have HF : Hid ((w.heap.size ≤ q2.heap.size ∧ q2.heap.size ≠ bo ∧ Nb (.slice a1 n z1) q2.heap.size ∧ Nb (.slice a2 n z2) q2.heap.size) ∧ q2.heap.size ≠ w.heap.size) := ⟨hfr, fun e => by have := HX5.out.lt; omega⟩
        replace HA : Hid (Ar (q2.alloc (.cells #[.slice none 0 0, .slice none 0 0] 27)) (.slice a3 n k3) n f ∧ Ar (q2.alloc (.cells #[.slice none 0 0, .slice none 0 0] 27)) (.slice a4 n k4) n (fun _ => 0) ∧ Nb (.slice a3 n k3) q2.heap.size ∧ Nb (.slice a4 n k4) q2.heap.size) := ⟨HA.out.1.later (bel1 _ _), HA.out.2.later (bel1 _ _), HA.out.1.nb (Nat.le_refl _), HA.out.2.nb (Nat.le_refl _)⟩
        replace HS5 : Hid (S10 w bo (.slice a1 n z1) (.slice a2 n z2) n f (q2.alloc (.cells #[.slice none 0 0, .slice none 0 0] 27))) := HS5.out.later (bel1 _ _)
        replace HX5 : Hid (Y2 w.heap.size (.int .i64 r) (.int .i64 m) (q2.alloc (.cells #[.slice none 0 0, .slice none 0 0] 27))) := HX5.out.later (bel1 _ _)
        clear hfr
        generalize q2.alloc (.cells #[.slice none 0 0, .slice none 0 0] 27) = q3 at *
        generalize q2.heap.size = ba at *
        have y0 := HY.out.c0
        have y1 := HY.out.c1
        have f0 := HY.out.f0
        have f1 := HY.out.f1
        refine wpAnyH_ready (rs := [13]) (by kernel_rfl) (by simp) ?_
        refine AllReadyH.cons rfl (fun K hK => ?_) AllReadyH.nil
        go_simp
        refine hK.out _ _ ⟨(HS.1.far ⟨ba, 0, none⟩ _ HF.out.2).far ⟨ba, 1, none⟩ _ HF.out.2, (HS.2.far ⟨ba, 0, none⟩ _ HF.out.1.2.1).far ⟨ba, 1, none⟩ _ HF.out.1.2.1⟩ (fun HS => ?_)
        clear hK K y0 y1 f0 f1
        refine wpAnyH_take (i := 14) (v := ?_) rfl (by kernel_rfl) (by kernel_rfl) (by kernel_rfl) (fun _ _ _ h => h) (Or.inl ⟨by kernel_rfl, ?_⟩) HS ?_
        rotate_left
        · (rintro w ⟨⟨x0, x1, -, -⟩, ⟨y0, y1, -, -⟩⟩; go_simp) <;> with_reducible rfl
        try simp only [Act.put, List.getElem_toArray, List.getElem_cons_succ, List.getElem_cons_zero, List.setIfInBounds_toArray, List.set_cons_zero, List.set_cons_succ]
        refine wpAnyH_done (by kernel_rfl) ?_ _
        clear HS
        have K1 : Hid (Y2 ba (.slice a3 n k3) (.slice a4 n k4) ((q3.setCell ⟨ba, 0, none⟩ (.slice a3 n k3)).setCell ⟨ba, 1, none⟩ (.slice a4 n k4)) ∧ Ar ((q3.setCell ⟨ba, 0, none⟩ (.slice a3 n k3)).setCell ⟨ba, 1, none⟩ (.slice a4 n k4)) (.slice a3 n k3) n f ∧ Ar ((q3.setCell ⟨ba, 0, none⟩ (.slice a3 n k3)).setCell ⟨ba, 1, none⟩ (.slice a4 n k4)) (.slice a4 n k4) n (fun _ => 0)) := ⟨(HY.out.set0 _).set1 _, (HA.out.1.set10 _ _ HA.out.2.2.1).set10 _ _ HA.out.2.2.1, (HA.out.2.1.set10 _ _ HA.out.2.2.2).set10 _ _ HA.out.2.2.2⟩
        have K2 : Hid (S10 w bo (.slice a1 n z1) (.slice a2 n z2) n f ((q3.setCell ⟨ba, 0, none⟩ (.slice a3 n k3)).setCell ⟨ba, 1, none⟩ (.slice a4 n k4)) ∧ Y2 w.heap.size (.int .i64 r) (.int .i64 m) ((q3.setCell ⟨ba, 0, none⟩ (.slice a3 n k3)).setCell ⟨ba, 1, none⟩ (.slice a4 n k4))) := ⟨(HS5.out.far ⟨ba, 0, none⟩ _ HF.out.1).far ⟨ba, 1, none⟩ _ HF.out.1, (HX5.out.far ⟨ba, 0, none⟩ _ HF.out.2).far ⟨ba, 1, none⟩ _ HF.out.2⟩
        clear HY HA HS5 HX5 HF
        generalize ((q3.setCell ⟨ba, 0, none⟩ (.slice a3 n k3)).setCell ⟨ba, 1, none⟩ (.slice a4 n k4)) = wE at *
        go_wp2
        go_meet
        case rel => exact ⟨_, a3, a4, k3, k4, rfl, rfl, K1, K2⟩
      · go_simp
        have hfr := HS5.out.fresh
        refine hK.out _ _ ⟨HS.1.later (bel1 _ _), HS.2.later (bel1 _ _)⟩ (fun HS => ?_)
        clear hK K
        have HY : Hid (Y2 q1.heap.size (.slice none 0 0) (.slice none 0 0) (q1.alloc (.cells #[.slice none 0 0, .slice none 0 0] 27))) := Y2.new _ _ _ _
        have HF : Hid ((w.heap.size ≤ q1.heap.size ∧ q1.heap.size ≠ bo ∧ Nb (.slice a1 n z1) q1.heap.size ∧ Nb (.slice a2 n z2) q1.heap.size) ∧ q1.heap.size ≠ w.heap.size) := ⟨hfr, fun e => by have := HX5.out.lt; omega⟩
        replace HG : Hid (Ar (q1.alloc (.cells #[.slice none 0 0, .slice none 0 0] 27)) (.slice (some ⟨bg, 0, none⟩) n n) n (fun _ => 0)) := HG.out.later (bel1 _ _)
        replace HS5 : Hid (S10 w bo (.slice a1 n z1) (.slice a2 n z2) n f (q1.alloc (.cells #[.slice none 0 0, .slice none 0 0] 27))) := HS5.out.later (bel1 _ _)
        replace HX5 : Hid (Y2 w.heap.size (.int .i64 r) (.int .i64 m) (q1.alloc (.cells #[.slice none 0 0, .slice none 0 0] 27))) := HX5.out.later (bel1 _ _)
        clear hfr
        generalize q1.alloc (.cells #[.slice none 0 0, .slice none 0 0] 27) = q2 at *
        generalize q1.heap.size = ba at *
        refine wpAnyH_ready (rs := [8]) (by kernel_rfl) (by simp) ?_
        refine AllReadyH.cons rfl (fun K hK => ?_) AllReadyH.nil
        go_simp
        refine (CS1.out _ _ _ _ HS5.out.a HS5.out.b HG.out).mono ?_
        rintro e q3 ⟨a3, a4, k3, k4, rfl, ⟨hP, hB, hO3, hO4⟩, hb⟩
        refine hK.out _ _ ⟨HS.1.later hb, HS.2.later hb⟩ (fun HS => ?_)
        clear hK K
        have hlt := HY.out.lt
        have HA : Hid (Ar q3 (.slice a3 n k3) n f ∧ Ar q3 (.slice a4 n k4) n (fun _ => 0) ∧ Nb (.slice a3 n k3) ba ∧ Nb (.slice a4 n k4) ba) := ⟨hP, hB, ow_apart hO3 hlt, ow_apart hO4 hlt⟩
        replace HY : Hid (Y2 ba (.slice none 0 0) (.slice none 0 0) q3) := HY.out.later hb
        clear hlt
        replace HS5 : Hid (S10 w bo (.slice a1 n z1) (.slice a2 n z2) n f q3) := HS5.out.later hb
        replace HX5 : Hid (Y2 w.heap.size (.int .i64 r) (.int .i64 m) q3) := HX5.out.later hb
        clear hP hB hO3 hO4 hb HG CS1
        try simp only [Act.put, List.getElem_toArray, List.getElem_cons_succ, List.getElem_cons_zero, List.setIfInBounds_toArray, List.set_cons_zero, List.set_cons_succ]
        refine wpAnyH_take (i := 9) (v := ?_) rfl (by kernel_rfl) (by kernel_rfl) (by kernel_rfl) (fun _ _ _ h => h) (Or.inl ⟨by kernel_rfl, ?_⟩) HS ?_
        rotate_left
        · (rintro w ⟨⟨x0, x1, -, -⟩, ⟨y0, y1, -, -⟩⟩; go_simp) <;> with_reducible rfl
        try simp only [Act.put, List.getElem_toArray, List.getElem_cons_succ, List.getElem_cons_zero, List.setIfInBounds_toArray, List.set_cons_zero, List.set_cons_succ]
        refine wpAnyH_take (i := 10) (v := ?_) rfl (by kernel_rfl) (by kernel_rfl) (by kernel_rfl) (fun _ _ _ h => h) (Or.inl ⟨by kernel_rfl, ?_⟩) HS ?_
        rotate_left
        · (rintro w ⟨⟨x0, x1, -, -⟩, ⟨y0, y1, -, -⟩⟩; go_simp) <;> with_reducible rfl
        try simp only [Act.put, List.getElem_toArray, List.getElem_cons_succ, List.getElem_cons_zero, List.setIfInBounds_toArray, List.set_cons_zero, List.set_cons_succ]
        refine wpAnyH_take (i := 11) (v := ?_) rfl (by kernel_rfl) (by kernel_rfl) (by kernel_rfl) (fun _ _ _ h => h) (Or.inl ⟨by kernel_rfl, ?_⟩) HS ?_
        rotate_left
        · (rintro w ⟨⟨x0, x1, -, -⟩, ⟨y0, y1, -, -⟩⟩; go_simp) <;> with_reducible rfl
        try simp only [Act.put, List.getElem_toArray, List.getElem_cons_succ, List.getElem_cons_zero, List.setIfInBounds_toArray, List.set_cons_zero, List.set_cons_succ]
        have y0 := HY.out.c0
        have y1 := HY.out.c1
        have f0 := HY.out.f0
        have f1 := HY.out.f1
        refine wpAnyH_ready (rs := [13]) (by kernel_rfl) (by simp) ?_
        refine AllReadyH.cons rfl (fun K hK => ?_) AllReadyH.nil
        go_simp
        refine hK.out _ _ ⟨(HS.1.far ⟨ba, 0, none⟩ _ HF.out.2).far ⟨ba, 1, none⟩ _ HF.out.2, (HS.2.far ⟨ba, 0, none⟩ _ HF.out.1.2.1).far ⟨ba, 1, none⟩ _ HF.out.1.2.1⟩ (fun HS => ?_)
        clear hK K y0 y1 f0 f1
        refine wpAnyH_take (i := 14) (v := ?_) rfl (by kernel_rfl) (by kernel_rfl) (by kernel_rfl) (fun _ _ _ h => h) (Or.inl ⟨by kernel_rfl, ?_⟩) HS ?_
        rotate_left
        · (rintro w ⟨⟨x0, x1, -, -⟩, ⟨y0, y1, -, -⟩⟩; go_simp) <;> with_reducible rfl
        try simp only [Act.put, List.getElem_toArray, List.getElem_cons_succ, List.getElem_cons_zero, List.setIfInBounds_toArray, List.set_cons_zero, List.set_cons_succ]
        refine wpAnyH_done (by kernel_rfl) ?_ _
        clear HS
        have K1 : Hid (Y2 ba (.slice a3 n k3) (.slice a4 n k4) ((q3.setCell ⟨ba, 0, none⟩ (.slice a3 n k3)).setCell ⟨ba, 1, none⟩ (.slice a4 n k4)) ∧ Ar ((q3.setCell ⟨ba, 0, none⟩ (.slice a3 n k3)).setCell ⟨ba, 1, none⟩ (.slice a4 n k4)) (.slice a3 n k3) n f ∧ Ar ((q3.setCell ⟨ba, 0, none⟩ (.slice a3 n k3)).setCell ⟨ba, 1, none⟩ (.slice a4 n k4)) (.slice a4 n k4) n (fun _ => 0)) := ⟨(HY.out.set0 _).set1 _, (HA.out.1.set10 _ _ HA.out.2.2.1).set10 _ _ HA.out.2.2.1, (HA.out.2.1.set10 _ _ HA.out.2.2.2).set10 _ _ HA.out.2.2.2⟩
        have K2 : Hid (S10 w bo (.slice a1 n z1) (.slice a2 n z2) n f ((q3.setCell ⟨ba, 0, none⟩ (.slice a3 n k3)).setCell ⟨ba, 1, none⟩ (.slice a4 n k4)) ∧ Y2 w.heap.size (.int .i64 r) (.int .i64 m) ((q3.setCell ⟨ba, 0, none⟩ (.slice a3 n k3)).setCell ⟨ba, 1, none⟩ (.slice a4 n k4))) := ⟨(HS5.out.far ⟨ba, 0, none⟩ _ HF.out.1).far ⟨ba, 1, none⟩ _ HF.out.1, (HX5.out.far ⟨ba, 0, none⟩ _ HF.out.2).far ⟨ba, 1, none⟩ _ HF.out.2⟩
        clear HY HA HS5 HX5 HF
        generalize ((q3.setCell ⟨ba, 0, none⟩ (.slice a3 n k3)).setCell ⟨ba, 1, none⟩ (.slice a4 n k4)) = wE at *
        go_wp2
        go_meet
        case rel => exact ⟨_, a3, a4, k3, k4, rfl, rfl, K1, K2⟩
    · go_simp
      have hfr := HS5.out.fresh
      refine hK.out _ _ ⟨HS.1.later (bel1 _ _), HS.2.later (bel1 _ _)⟩ (fun HS => ?_)
      clear hK K
      have HY : Hid (Y2 q0.heap.size (.slice none 0 0) (.slice none 0 0) (q0.alloc (.cells #[.slice none 0 0, .slice none 0 0] 27))) := Y2.new _ _ _ _
      have HF : Hid ((w.heap.size ≤ q0.heap.size ∧ q0.heap.size ≠ bo ∧ Nb (.slice a1 n z1) q0.heap.size ∧ Nb (.slice a2 n z2) q0.heap.size) ∧ q0.heap.size ≠ w.heap.size) := ⟨hfr, fun e => by have := HX5.out.lt; omega⟩
      replace HS5 : Hid (S10 w bo (.slice a1 n z1) (.slice a2 n z2) n f (q0.alloc (.cells #[.slice none 0 0, .slice none 0 0] 27))) := HS5.out.later (bel1 _ _)
      replace HX5 : Hid (Y2 w.heap.size (.int .i64 r) (.int .i64 m) (q0.alloc (.cells #[.slice none 0 0, .slice none 0 0] 27))) := HX5.out.later (bel1 _ _)
      clear hfr
      generalize q0.alloc (.cells #[.slice none 0 0, .slice none 0 0] 27) = q1 at *
      generalize q0.heap.size = ba at *
      refine wpAnyH_ready (rs := [7]) (by kernel_rfl) (by simp) ?_
      refine AllReadyH.cons rfl (fun K hK => ?_) AllReadyH.nil
      go_simp
      refine hK.out _ _ ⟨HS.1.later (bel1 _ _), HS.2.later (bel1 _ _)⟩ (fun HS => ?_)
      clear hK K
      have HG : Hid (Ar (q1.alloc (.cells (madeCells #[.int .i64 0] n) 22)) (.slice (some ⟨q1.heap.size, 0, none⟩) n n) n (fun _ => 0)) := made_ar q1 n (by omega) _
      replace HS5 : Hid (S10 w bo (.slice a1 n z1) (.slice a2 n z2) n f (q1.alloc (.cells (madeCells #[.int .i64 0] n) 22))) := HS5.out.later (bel1 _ _)
      replace HX5 : Hid (Y2 w.heap.size (.int .i64 r) (.int .i64 m) (q1.alloc (.cells (madeCells #[.int .i64 0] n) 22))) := HX5.out.later (bel1 _ _)
      replace HY : Hid (Y2 ba (.slice none 0 0) (.slice none 0 0) (q1.alloc (.cells (madeCells #[.int .i64 0] n) 22))) := HY.out.later (bel1 _ _)
      generalize q1.alloc (.cells (madeCells #[.int .i64 0] n) 22) = q2 at *
      generalize q1.heap.size = bg at *
      refine wpAnyH_ready (rs := [8]) (by kernel_rfl) (by simp) ?_
      refine AllReadyH.cons rfl (fun K hK => ?_) AllReadyH.nil
      go_simp
      refine (CS1.out _ _ _ _ HS5.out.a HS5.out.b HG.out).mono ?_
      rintro e q3 ⟨a3, a4, k3, k4, rfl, ⟨hP, hB, hO3, hO4⟩, hb⟩
      refine hK.out _ _ ⟨HS.1.later hb, HS.2.later hb⟩ (fun HS => ?_)
      clear hK K
      have hlt := HY.out.lt
      have HA : Hid (Ar q3 (.slice a3 n k3) n f ∧ Ar q3 (.slice a4 n k4) n (fun _ => 0) ∧ Nb (.slice a3 n k3) ba ∧ Nb (.slice a4 n k4) ba) := ⟨hP, hB, ow_apart hO3 hlt, ow_apart hO4 hlt⟩
      replace HY : Hid (Y2 ba (.slice none 0 0) (.slice none 0 0) q3) := HY.out.later hb
      clear hlt
      replace HS5 : Hid (S10 w bo (.slice a1 n z1) (.slice a2 n z2) n f q3) := HS5.out.later hb
      replace HX5 : Hid (Y2 w.heap.size (.int .i64 r) (.int .i64 m) q3) := HX5.out.later hb
      clear hP hB hO3 hO4 hb HG CS1
      try simp only [Act.put, List.getElem_toArray, List.getElem_cons_succ, List.getElem_cons_zero, List.setIfInBounds_toArray, List.set_cons_zero, List.set_cons_succ]
      refine wpAnyH_take (i := 9) (v := ?_) rfl (by kernel_rfl) (by kernel_rfl) (by kernel_rfl) (fun _ _ _ h => h) (Or.inl ⟨by kernel_rfl, ?_⟩) HS ?_
      rotate_left
      · (rintro w ⟨⟨x0, x1, -, -⟩, ⟨y0, y1, -, -⟩⟩; go_simp) <;> with_reducible rfl
      try simp only [Act.put, List.getElem_toArray, List.getElem_cons_succ, List.getElem_cons_zero, List.setIfInBounds_toArray, List.set_cons_zero, List.set_cons_succ]
      refine wpAnyH_take (i := 10) (v := ?_) rfl (by kernel_rfl) (by kernel_rfl) (by kernel_rfl) (fun _ _ _ h => h) (Or.inl ⟨by kernel_rfl, ?_⟩) HS ?_
      rotate_left
      · (rintro w ⟨⟨x0, x1, -, -⟩, ⟨y0, y1, -, -⟩⟩; go_simp) <;> with_reducible rfl
      try simp only [Act.put, List.getElem_toArray, List.getElem_cons_succ, List.getElem_cons_zero, List.setIfInBounds_toArray, List.set_cons_zero, List.set_cons_succ]
      refine wpAnyH_take (i := 11) (v := ?_) rfl (by kernel_rfl) (by kernel_rfl) (by kernel_rfl) (fun _ _ _ h => h) (Or.inl ⟨by kernel_rfl, ?_⟩) HS ?_
      rotate_left
      · (rintro w ⟨⟨x0, x1, -, -⟩, ⟨y0, y1, -, -⟩⟩; go_simp) <;> with_reducible rfl
      try simp only [Act.put, List.getElem_toArray, List.getElem_cons_succ, List.getElem_cons_zero, List.setIfInBounds_toArray, List.set_cons_zero, List.set_cons_succ]
      have y0 := HY.out.c0
      have y1 := HY.out.c1
      have f0 := HY.out.f0
      have f1 := HY.out.f1
      refine wpAnyH_ready (rs := [13]) (by kernel_rfl) (by simp) ?_
      refine AllReadyH.cons rfl (fun K hK => ?_) AllReadyH.nil
      go_simp
      refine hK.out _ _ ⟨(HS.1.far ⟨ba, 0, none⟩ _ HF.out.2).far ⟨ba, 1, none⟩ _ HF.out.2, (HS.2.far ⟨ba, 0, none⟩ _ HF.out.1.2.1).far ⟨ba, 1, none⟩ _ HF.out.1.2.1⟩ (fun HS => ?_)
      clear hK K y0 y1 f0 f1
      refine wpAnyH_take (i := 14) (v := ?_) rfl (by kernel_rfl) (by kernel_rfl) (by kernel_rfl) (fun _ _ _ h => h) (Or.inl ⟨by kernel_rfl, ?_⟩) HS ?_
      rotate_left
      · (rintro w ⟨⟨x0, x1, -, -⟩, ⟨y0, y1, -, -⟩⟩; go_simp) <;> with_reducible rfl
      try simp only [Act.put, List.getElem_toArray, List.getElem_cons_succ, List.getElem_cons_zero, List.setIfInBounds_toArray, List.set_cons_zero, List.set_cons_succ]
      refine wpAnyH_done (by kernel_rfl) ?_ _
      clear HS
      have K1 : Hid (Y2 ba (.slice a3 n k3) (.slice a4 n k4) ((q3.setCell ⟨ba, 0, none⟩ (.slice a3 n k3)).setCell ⟨ba, 1, none⟩ (.slice a4 n k4)) ∧ Ar ((q3.setCell ⟨ba, 0, none⟩ (.slice a3 n k3)).setCell ⟨ba, 1, none⟩ (.slice a4 n k4)) (.slice a3 n k3) n f ∧ Ar ((q3.setCell ⟨ba, 0, none⟩ (.slice a3 n k3)).setCell ⟨ba, 1, none⟩ (.slice a4 n k4)) (.slice a4 n k4) n (fun _ => 0)) := ⟨(HY.out.set0 _).set1 _, (HA.out.1.set10 _ _ HA.out.2.2.1).set10 _ _ HA.out.2.2.1, (HA.out.2.1.set10 _ _ HA.out.2.2.2).set10 _ _ HA.out.2.2.2⟩
      have K2 : Hid (S10 w bo (.slice a1 n z1) (.slice a2 n z2) n f ((q3.setCell ⟨ba, 0, none⟩ (.slice a3 n k3)).setCell ⟨ba, 1, none⟩ (.slice a4 n k4)) ∧ Y2 w.heap.size (.int .i64 r) (.int .i64 m) ((q3.setCell ⟨ba, 0, none⟩ (.slice a3 n k3)).setCell ⟨ba, 1, none⟩ (.slice a4 n k4))) := ⟨(HS5.out.far ⟨ba, 0, none⟩ _ HF.out.1).far ⟨ba, 1, none⟩ _ HF.out.1, (HX5.out.far ⟨ba, 0, none⟩ _ HF.out.2).far ⟨ba, 1, none⟩ _ HF.out.2⟩
      clear HY HA HS5 HX5 HF
      generalize ((q3.setCell ⟨ba, 0, none⟩ (.slice a3 n k3)).setCell ⟨ba, 1, none⟩ (.slice a4 n k4)) = wE at *
      go_wp2
      go_meet
      case rel => exact ⟨_, a3, a4, k3, k4, rfl, rfl, K1, K2⟩
  case rest =>
    obtain ⟨ba, a3, a4, k3, k4, rfl, rfl, HV, HW⟩ := hcut
    clear HS5 HX5 hbD CS1 hmk
    have x1 := HW.out.2.c1
    have y0 := HW.out.1.Y.c0
    have y1 := HW.out.1.Y.c1
    go_wp2_with fail
    refine (CS2.out _ _ _ HW.out.1.a HW.out.1.b (HAB.out.2.later HW.out.1.B)).mono ?_
    rintro e w6 ⟨a5, a6, k5, k6, rfl, hP, hb⟩
    obtain ⟨w7, hw7⟩ : ∃ w7, w7 = w6.alloc (.cells #[.slice a5 n k5, .slice a6 n k6] 27) := ⟨_, rfl⟩
    have HB7 : Hid (Below w.heap.size w w7) := by rw [hw7]; exact bchain (bchain HW.out.1.B hb) (bel1 _ _)
    have HY7 : Y2 w6.heap.size (.slice a5 n k5) (.slice a6 n k6) w7 := by rw [hw7]; exact Y2.new _ _ _ _
    have HZ7 : Y2 ba (.slice a3 n k3) (.slice a4 n k4) w7 := by rw [hw7]; exact (HV.out.1.later hb).later (bel1 _ _)
    have HA7 : Hid (Ar w7 (.slice a5 n k5) n f ∧ Ar w7 (.slice a3 n k3) n f ∧ Ar w7 (.slice a4 n k4) n (fun _ => 0)) := by rw [hw7]; exact ⟨hP.later (bel1 _ _), (HV.out.2.1.later hb).later (bel1 _ _), (HV.out.2.2.later hb).later (bel1 _ _)⟩
    clear hP hb CS2 HV HW x1 y0 y1
    go_upto_region 8 with fail
    rw [← hw7]
    clear hw7
    generalize w6.heap.size = bb' at *
    have u0 := HY7.c0
    have v0 := HZ7.c0
    have v1 := HZ7.c1
    clear HY7 HZ7
    go_upto_region 11 with fail
    go_loopw [95] (fun si wr => ∃ j : Nat, j ≤ n ∧ si = .int .i64 (j : Int) ∧ wr = w7) (fun si _ => n - (intOf si).toNat)
    case atStart => exact ⟨0, by omega, rfl, rfl⟩
    case round =>
      obtain ⟨j, hj, rfl, rfl⟩ := hrel
      by_cases hlt : j < n
      · have hjI : (j : Int) < (n : Int) := by omega
        obtain ⟨b5, o5, t5, e5, p5, -⟩ := ar_spot10 HA7.out.1 j hlt
        obtain ⟨b3, o3, t3', e3, p3, -⟩ := ar_spot10 HA7.out.2.1 j hlt
        obtain ⟨b4, o4, t4, e4, p4, -⟩ := ar_spot10 HA7.out.2.2 j hlt
        obtain ⟨b6, o6, t6, e6, p6, -⟩ := ar_spot10 (HAB.out.1.later HB7.out) j hlt
        cases e5
        cases e3
        cases e4
        cases e6
        go_wp2
        go_roundw
        case rel => exact ⟨j + 1, by omega, by go_num, trivial⟩
        case measure => simp [intOf]; omega
      · obtain rfl : j = n := by omega
        have hjI : ¬ (j : Int) < (j : Int) := by omega
        go_wp2
        go_ret
        exact ⟨rfl, HB7.out⟩
end Go.Proofs.Ytfcneciknldohaa
