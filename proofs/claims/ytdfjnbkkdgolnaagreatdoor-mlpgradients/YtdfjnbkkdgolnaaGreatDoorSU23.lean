/-
  Texts of this proof, joined: LawMG.
-/
import Derived.Test.YtdfjnbkkdgolnaaGreatDoorSU18
set_option linter.unusedVariables false
set_option linter.unusedSimpArgs false
namespace Go.Proofs.YtdfjnbkkdgolnaaGreatDoor
open Go.RowKit

theorem rfE_one {f : Nat → Int} {m lp lx lt : Nat} {L : Int} {cp z0 zl : Nat} {E E' : Int} (h : rfE f m lp lx lt L cp z0 zl E) (h' : rfE f m lp lx lt L cp z0 zl E') : E = E' := by
  obtain ⟨a, b, c, d⟩ := h
  obtain ⟨a', b', c', d'⟩ := h'
  by_cases hr : Rt f m
  · by_cases hL : L = 1 ∨ L = 2
    · by_cases hs : lp = cp ∧ lx = z0 ∧ lt = zl
      · rw [d hr hL hs, d' hr hL hs]
      · rw [c hr hL hs, c' hr hL hs]
    · rw [b hr hL, b' hr hL]
  · rw [a hr, a' hr]
theorem rfE_bad (f : Nat → Int) (m lp lx lt : Nat) (L : Int) (cp z0 zl : Nat) (h : ¬ (Rt f m ∧ (L = 1 ∨ L = 2) ∧ lp = cp ∧ lx = z0 ∧ lt = zl)) : ∃ E, rfE f m lp lx lt L cp z0 zl E ∧ E ≠ 0 := by
  by_cases hr : Rt f m
  · by_cases hL : L = 1 ∨ L = 2
    · exact ⟨40, ⟨fun h' => absurd hr h', fun _ h' => absurd hL h', fun _ _ _ => rfl, fun _ _ hs => absurd ⟨hr, hL, hs⟩ h⟩, by decide⟩
    · exact ⟨71, ⟨fun h' => absurd hr h', fun _ _ => rfl, fun _ h' => absurd h' hL, fun _ h' => absurd h' hL⟩, by decide⟩
  · exact ⟨70, ⟨fun _ => rfl, fun h' => absurd h' hr, fun h' => absurd h' hr, fun h' => absurd h' hr⟩, by decide⟩
set_option maxRecDepth 100000 in
set_option maxHeartbeats 16000000 in
theorem mlpGradients_any (V4 : Mlp4) (L : Int) (vs vp vx vt : Value) (m lp lx lt : Nat) (f P x t : Nat → Int) (w : World) (hA : Ar w vs m f) (hP : Ar w vp lp P) (hX : Ar w vx lx x) (hT : Ar w vt lt t) (hV : MT w) :
    Calls Tryz.prog 7 #[.agg #[vs, vp], .int .i64 L, .agg #[vx, vt]] w fun e w' => e = .returned (.bool true) ∧ Below w.heap.size w w' := by
  obtain ⟨z, hz⟩ := zs_ex f m
  have HZz : Hid (Zs f m z) := hz
  have HAll : Hid (Ar w vs m f ∧ Ar w vp lp P ∧ Ar w vx lx x ∧ Ar w vt lt t) := ⟨hA, hP, hX, hT⟩
  obtain ⟨adr, cap, b, o, rfl, k1, k2, -, -⟩ := id hA
  obtain ⟨adp, cpp, bp, op, rfl, j1, j2, -, -⟩ := id hP
  obtain ⟨adx, cax, bx, ox, rfl, i1, i2, -, -⟩ := id hX
  obtain ⟨adt, cat, bt, ot, rfl, l1, l2, -, -⟩ := id hT
  unfold maxLen at k2 j2 i2 l2
  have HAw : Hid (∀ W : World, Below w.heap.size w W → Calls Tryz.prog 9 #[] W fun e w' => e = .returned (.bool true) ∧ Below W.heap.size W w') := fun W hb => awake7_any V4 W (hV.later hb)
  have HFw : Hid (∀ W : World, Below w.heap.size w W → Calls Tryz.prog 10 #[.agg #[.slice adr m cap, .slice adp lp cpp]] W fun e w' => Tells e (fwP f m lp z) ∧ Below W.heap.size W w') := fun W hb => few7_any _ _ m lp f P z hz W (hA.later hb) (hP.later hb)
  obtain ⟨w1, hw1⟩ : ∃ w1, w1 = (w.alloc (.cells #[.slice adr m cap, .slice adp lp cpp] 25)).alloc (.cells #[.slice adx lx cax, .slice adt lt cat] 74) := ⟨_, rfl⟩
  have HB1 : Hid (Below w.heap.size w w1) := by rw [hw1]; exact bel2 _ _ _
  have HX1 : Hid (Bx w.heap.size (.slice adr m cap) (.slice adp lp cpp) w1) := by rw [hw1]; exact (Bx.new w _ _ _).later (bel1 _ _)
  have HY1 : Hid (Bx (w.heap.size + 1) (.slice adx lx cax) (.slice adt lt cat) w1) := by
    have h := Bx.new (w.alloc (.cells #[.slice adr m cap, .slice adp lp cpp] 25)) (.slice adx lx cax) (.slice adt lt cat) 74
    rw [World.size_alloc] at h
    rw [hw1]; exact h
  clear hA hP hX hT hz
  go_enter Tryz.func7, Tryz.ntmps7
  go_upto_region 1 with fail
  rw [← hw1]
  clear hw1
  go_wp2_with fail
  refine (HAw.out _ HB1.out).mono ?_
  rintro e w2 ⟨rfl, hb⟩
  have HB2 : Hid (Below w.heap.size w w2) := bchain HB1.out hb
  have HX2 : Hid (Bx w.heap.size (.slice adr m cap) (.slice adp lp cpp) w2) := HX1.out.later hb
  have HY2 : Hid (Bx (w.heap.size + 1) (.slice adx lx cax) (.slice adt lt cat) w2) := HY1.out.later hb
  have x0 := HX2.out.c0
  have x1 := HX2.out.c1
  clear hb HB1 HX1 HY1 HAw
  go_wp2_with fail
  refine (HFw.out _ HB2.out).mono ?_
  rintro e w3 ⟨hT, hb⟩
  have HB3 : Hid (Below w.heap.size w w3) := bchain HB2.out hb
  have HX3 : Hid (Bx w.heap.size (.slice adr m cap) (.slice adp lp cpp) w3) := HX2.out.later hb
  have HY3 : Hid (Bx (w.heap.size + 1) (.slice adx lx cax) (.slice adt lt cat) w3) := HY2.out.later hb
  clear hb HB2 HX2 HY2 HFw x0 x1
  by_cases hfw : fwP f m lp z
  · have e0 := hT.yes hfw
    subst e0
    clear hT
    have hmb : m ≤ 10 := hfw.1
    have hlb : lp ≤ 400 := hfw.2.1
    have x0 := HY3.out.c0
    have x1 := HY3.out.c1
    obtain ⟨ns, hns⟩ : ∃ ns : Nat → Nat, ns = fun k => if k = 0 then lx else lt := ⟨_, rfl⟩
    have hn0 : ns 0 = lx := by rw [hns]; rfl
    have hn1 : ns 1 = lt := by rw [hns]; rfl
    have HSh : Hid (Calls Tryz.prog 21 #[.slice (some ⟨w3.heap.size, 0, none⟩) 2 2] (w3.alloc (.cells #[.slice adx lx cax, .slice adt lt cat] 23)) fun e w' => e = .returned (.bool (shB ns 2)) ∧ w' = w3.alloc (.cells #[.slice adx lx cax, .slice adt lt cat] 23)) := short_any w3.heap.size 2 2 ns (by omega) (by omega) (by omega) _ (fun k hk => by
      have hB := Bx.new w3 (.slice adx lx cax) (.slice adt lt cat) 23
      rcases (by omega : k = 0 ∨ k = 1) with rfl | rfl
      · rw [hn0]; exact ⟨by unfold maxLen; omega, adx, cax, hB.c0⟩
      · rw [hn1]; exact ⟨by unfold maxLen; omega, adt, cat, hB.c1⟩)
    clear hns
    go_wp2_with fail
    refine HSh.out.mono ?_
    rintro e w4 ⟨rfl, hw4⟩
    have HB4 : Hid (Below w.heap.size w w4) := by rw [hw4]; exact bchain HB3.out (bel1 _ _)
    have HX4 : Hid (Bx w.heap.size (.slice adr m cap) (.slice adp lp cpp) w4) := by rw [hw4]; exact HX3.out.later (bel1 _ _)
    have HY4 : Hid (Bx (w.heap.size + 1) (.slice adx lx cax) (.slice adt lt cat) w4) := by rw [hw4]; exact HY3.out.later (bel1 _ _)
    clear hw4 HSh HB3 HX3 HY3 x0 x1
    by_cases hll : lx ≤ 100 ∧ lt ≤ 100
    · obtain ⟨hlx, hlt⟩ := hll
      have hsh : shB ns 2 = true := shB_yes _ _ (fun k hk => by
        rcases (by omega : k = 0 ∨ k = 1) with rfl | rfl
        · rw [hn0]; exact hlx
        · rw [hn1]; exact hlt)
      rw [hsh]
      clear hsh hn0 hn1 ns
      obtain ⟨w5, hw5⟩ : ∃ w5, w5 = (w4.alloc (.cells #[.int .i64 0] 57)).alloc (.cells #[.int .i64 0] 60) := ⟨_, rfl⟩
      have HL5 : Hid (L2 w w4.heap.size (w4.heap.size + 1) 0 0 w5) := by rw [hw5]; exact units_new HB4.out _ _
      have HX5 : Hid (Bx w.heap.size (.slice adr m cap) (.slice adp lp cpp) w5) := by rw [hw5]; exact (HX4.out.later (bel1 _ _)).later (bel1 _ _)
      have HY5 : Hid (Bx (w.heap.size + 1) (.slice adx lx cax) (.slice adt lt cat) w5) := by rw [hw5]; exact (HY4.out.later (bel1 _ _)).later (bel1 _ _)
      have hs5 : w5.heap.size = w4.heap.size + 1 + 1 := by rw [hw5]; simp only [World.size_alloc]
      have hs4 : w.heap.size + 1 < w4.heap.size := World.block_lt_of_cell? _ _ HY4.out.c0
      go_upto_region 6 with fail
      rw [← hw5]
      obtain ⟨du, hdu⟩ : ∃ du, w4.heap.size = du := ⟨_, rfl⟩
      obtain ⟨dv, hdv⟩ : ∃ dv, du + 1 = dv := ⟨_, rfl⟩
      rw [hdu] at HL5 hs5 hs4
      rw [hdv] at HL5
      try simp only [hdu, hdv]
      have hne : du ≠ dv := by omega
      have hdu0 : w.heap.size ≤ du := by omega
      have hdv0 : w.heap.size ≤ dv := by omega
      have hdv5 : dv < w5.heap.size := by omega
      have hwu : w.heap.size ≠ du := by omega
      have hwv : w.heap.size ≠ dv := by omega
      have hxu : w.heap.size + 1 ≠ du := by omega
      have hxv : w.heap.size + 1 ≠ dv := by omega
      clear hw5 hdu hdv hs5 HB4 HX4 HY4 w4
      have y0 := HX5.out.c0
      have y1 := HX5.out.c1
      have y2 := HY5.out.c0
      have y3 := HY5.out.c1
      have hAu := HAll.out.1.later HL5.out.B
      have hPu := HAll.out.2.1.later HL5.out.B
      have hXu := HAll.out.2.2.1.later HL5.out.B
      have hTu := HAll.out.2.2.2.later HL5.out.B
      have nSu : ∀ d', w.heap.size ≤ d' → Nb (.slice adr m cap) d' := fun d' h => HAll.out.1.nb h
      have nPu : ∀ d', w.heap.size ≤ d' → Nb (.slice adp lp cpp) d' := fun d' h => HAll.out.2.1.nb h
      have nXu : ∀ d', w.heap.size ≤ d' → Nb (.slice adx lx cax) d' := fun d' h => HAll.out.2.2.1.nb h
      have nTu : ∀ d', w.heap.size ≤ d' → Nb (.slice adt lt cat) d' := fun d' h => HAll.out.2.2.2.nb h
      have HRf : Hid (∀ W : World, Below w.heap.size w W → Calls Tryz.prog 31 #[.agg #[.slice adr m cap, .slice adp lp cpp], .int .i64 L, .agg #[.slice adx lx cax, .slice adt lt cat]] W fun e w' => ∃ E : Int, e = .returned (.int .i64 E) ∧ rfE f m lp lx lt L (fsN z (m - 1)) (z 0) (z (m - 1)) E ∧ Below W.heap.size W w') := fun W hb => refusal_any L _ _ _ _ m lp lx lt f P x t z HZz.out (by omega) (by omega) (by omega) W (HAll.out.1.later hb) (HAll.out.2.1.later hb) (HAll.out.2.2.1.later hb) (HAll.out.2.2.2.later hb)
      by_cases hgd : Rt f m ∧ (L = 1 ∨ L = 2) ∧ lp = fsN z (m - 1) ∧ lx = z 0 ∧ lt = z (m - 1)
      · obtain ⟨s, rfl⟩ : ∃ s : Bool, L = lsK s := by
          rcases hgd.2.1 with h | h
          · exact ⟨true, h⟩
          · exact ⟨false, h⟩
        have HE : Hid (rfE f m lp lx lt (lsK s) (fsN z (m - 1)) (z 0) (z (m - 1)) 0) := ⟨fun h => absurd hgd.1 h, fun _ h => absurd hgd.2.1 h, fun _ _ h => absurd hgd.2.2 h, fun _ _ _ => rfl⟩
        obtain ⟨hr, -, hlp, rfl, rfl⟩ := hgd
        obtain ⟨hs, hfz⟩ := HZz.out hr
        have CF := V4.gradU s _ _ _ _ m lp z P x t du 0 w5 (by omega) (by omega) (hAu.congr hfz) hPu hXu hTu hs hlp (nSu du hdu0) (nPu du hdu0) (nXu du hdu0) (nTu du hdu0) HL5.out.u (hV.later HL5.out.B)
        have HNp : Hid (∀ W : World, Below w.heap.size w W → Calls Tryz.prog 14 #[.agg #[.slice adr m cap, .slice adp lp cpp]] W fun e w' => ∃ v', e = .returned (.agg #[.slice adr m cap, v']) ∧ Ar w' v' lp P ∧ Ow W.heap.size v' ∧ Below W.heap.size W w') := fun W hb => netplain_any _ _ m lp f P (by omega) W (HAll.out.1.later hb) (HAll.out.2.1.later hb)
        have HPx : Hid (∀ W : World, Below w.heap.size w W → Calls Tryz.prog 19 #[.slice adx (z 0) cax] W fun e w' => ∃ v', e = .returned v' ∧ Ar w' v' (z 0) x ∧ Ow W.heap.size v' ∧ Below W.heap.size W w') := fun W hb => plain7_any _ (z 0) x (by omega) W (HAll.out.2.2.1.later hb)
        have HPt : Hid (∀ W : World, Below w.heap.size w W → Calls Tryz.prog 19 #[.slice adt (z (m - 1)) cat] W fun e w' => ∃ v', e = .returned v' ∧ Ar w' v' (z (m - 1)) t ∧ Ow W.heap.size v' ∧ Below W.heap.size W w') := fun W hb => plain7_any _ (z (m - 1)) t (by omega) W (HAll.out.2.2.2.later hb)
        have HVl : Hid (∀ (W : World) (v9 v10 v11 : Value), Below w.heap.size w W → Ar W v9 lp P → Ar W v10 (z 0) x → Ar W v11 (z (m - 1)) t → Nb v9 dv → Nb v10 dv → Nb v11 dv → Uc W dv 0 → Calls Tryz.prog 32 #[.agg #[.slice adr m cap, v9], .pointer (some ⟨dv, 0, none⟩), .int .i64 (lsK s), v10, v11] W fun e w' => ∃ v', e = .returned (.tuple #[v', .int .i64 (gdX s z m P x t)]) ∧ Ar w' v' lp (gdG s z m P x t) ∧ Ow W.heap.size v' ∧ Un dv (0 + gdC s z m P x t) W w') := fun W v9 v10 v11 hb h1 h2 h3 h4 h5 h6 h7 => gradient_all s _ v9 v10 v11 m lp z P x t dv 0 (by omega) (by omega) W ((HAll.out.1.later hb).congr hfz) h1 h2 h3 hs hlp (nSu dv hdv0) h4 h5 h6 h7.1 h7.2
        generalize gdC s z m P x t = vc at *
        generalize gdX s z m P x t = gx at *
        generalize gdG s z m P x t = G at *
        obtain ⟨lk, hlk⟩ : ∃ lk, lsK s = lk := ⟨_, rfl⟩
        rw [hlk] at HE HRf HVl CF
        try rw [hlk]
        clear hAu hPu hXu hTu hs hfz hr hlp nSu nPu nXu nTu hlk
        go_wp2_with fail
        refine CF.mono ?_
        rintro e w6 ⟨v6, rfl, hA6, hO6, hU6⟩
        have HL6 : Hid (L2 w du dv (0 + vc) 0 w6) := HL5.out.unu hU6 hdu0 hne
        have HX6 : Hid (Bx w.heap.size (.slice adr m cap) (.slice adp lp cpp) w6) := HX5.out.un hU6 hwu
        have HY6 : Hid (Bx (w.heap.size + 1) (.slice adx (z 0) cax) (.slice adt (z (m - 1)) cat) w6) := HY5.out.un hU6 hxu
        have H6 : Hid (Ar w6 v6 lp G ∧ Nb v6 dv) := ⟨hA6, hO6.nb hdv5⟩
        have y0 := HX6.out.c0
        have y1 := HX6.out.c1
        have y2 := HY6.out.c0
        have y3 := HY6.out.c1
        clear CF hU6 hA6 hO6 HL5 HX5 HY5
        go_wp2_with fail
        refine (HRf.out _ HL6.out.B).mono ?_
        rintro e w7 ⟨E, rfl, hE, hb7⟩
        obtain rfl := rfE_one hE HE.out
        have HL7 : Hid (L2 w du dv (0 + vc) 0 w7) := HL6.out.later hb7
        have HX7 : Hid (Bx w.heap.size (.slice adr m cap) (.slice adp lp cpp) w7) := HX6.out.later hb7
        have HY7 : Hid (Bx (w.heap.size + 1) (.slice adx (z 0) cax) (.slice adt (z (m - 1)) cat) w7) := HY6.out.later hb7
        have H7 : Hid (Ar w7 v6 lp G ∧ Nb v6 dv) := ⟨H6.out.1.later hb7, H6.out.2⟩
        clear hE hb7 HL6 HX6 HY6 H6 HRf HE y0 y1 y2 y3
        go_upto_region 10 with fail
        have hbD : Below w7.heap.size w7 w7.drew := (Below.refl _ _).drew
        have HL8 : Hid (L2 w du dv (0 + vc) 0 w7.drew) := HL7.out.later hbD
        have H8 : Hid (Ar w7.drew v6 lp G ∧ Nb v6 dv) := ⟨H7.out.1.later hbD, H7.out.2⟩
        refine wp_region_held_drew (S := fun W' => W'.cell? ⟨w.heap.size, 0, none⟩ = some (.slice adr m cap) ∧ W'.cell? ⟨w.heap.size, 1, none⟩ = some (.slice adp lp cpp) ∧ W'.cell? ⟨w.heap.size + 1, 0, none⟩ = some (.slice adx (z 0) cax) ∧ W'.cell? ⟨w.heap.size + 1, 1, none⟩ = some (.slice adt (z (m - 1)) cat)) (by kernel_rfl) ⟨cell_drew HX7.out.c0, cell_drew HX7.out.c1, cell_drew HY7.out.c0, cell_drew HY7.out.c1⟩ (fun HS => ?_)
        clear hbD HL7 H7 HX7 HY7
        generalize w7.drew = w8 at *
        refine wpAnyH_take (i := 0) (v := ?v1) rfl (by kernel_rfl) (by kernel_rfl) (by kernel_rfl) (fun _ _ _ h => h) (Or.inl ⟨by kernel_rfl, ?h1⟩) HS ?r1
        case h1 => (rintro w ⟨s0, s1, s2, s3⟩; go_simp) <;> with_reducible rfl
        try simp only [Act.put, List.getElem_toArray, List.getElem_cons_succ, List.getElem_cons_zero, List.setIfInBounds_toArray, List.set_cons_zero, List.set_cons_succ]
        refine wpAnyH_take (i := 2) (v := ?v2) rfl (by kernel_rfl) (by kernel_rfl) (by kernel_rfl) (fun _ _ _ h => h) (Or.inl ⟨by kernel_rfl, ?h2⟩) HS ?r2
        case h2 => (rintro w ⟨s0, s1, s2, s3⟩; go_simp) <;> with_reducible rfl
        try simp only [Act.put, List.getElem_toArray, List.getElem_cons_succ, List.getElem_cons_zero, List.setIfInBounds_toArray, List.set_cons_zero, List.set_cons_succ]
        refine wpAnyH_take (i := 3) (v := ?v3) rfl (by kernel_rfl) (by kernel_rfl) (by kernel_rfl) (fun _ _ _ h => h) (Or.inl ⟨by kernel_rfl, ?h3⟩) HS ?r3
        case h3 => (rintro w ⟨s0, s1, s2, s3⟩; go_simp) <;> with_reducible rfl
        try simp only [Act.put, List.getElem_toArray, List.getElem_cons_succ, List.getElem_cons_zero, List.setIfInBounds_toArray, List.set_cons_zero, List.set_cons_succ]
        refine wpAnyH_take (i := 4) (v := ?v4) rfl (by kernel_rfl) (by kernel_rfl) (by kernel_rfl) (fun _ _ _ h => h) (Or.inl ⟨by kernel_rfl, ?h4⟩) HS ?r4
        case h4 => (rintro w ⟨s0, s1, s2, s3⟩; go_simp) <;> with_reducible rfl
        try simp only [Act.put, List.getElem_toArray, List.getElem_cons_succ, List.getElem_cons_zero, List.setIfInBounds_toArray, List.set_cons_zero, List.set_cons_succ]
        refine wpAnyH_take (i := 5) (v := ?v5) rfl (by kernel_rfl) (by kernel_rfl) (by kernel_rfl) (fun _ _ _ h => h) (Or.inl ⟨by kernel_rfl, ?h5⟩) HS ?r5
        case h5 => (rintro w ⟨s0, s1, s2, s3⟩; go_simp) <;> with_reducible rfl
        try simp only [Act.put, List.getElem_toArray, List.getElem_cons_succ, List.getElem_cons_zero, List.setIfInBounds_toArray, List.set_cons_zero, List.set_cons_succ]
        refine wpAnyH_take (i := 7) (v := ?v6) rfl (by kernel_rfl) (by kernel_rfl) (by kernel_rfl) (fun _ _ _ h => h) (Or.inl ⟨by kernel_rfl, ?h6⟩) HS ?r6
        case h6 => (rintro w ⟨s0, s1, s2, s3⟩; go_simp) <;> with_reducible rfl
        try simp only [Act.put, List.getElem_toArray, List.getElem_cons_succ, List.getElem_cons_zero, List.setIfInBounds_toArray, List.set_cons_zero, List.set_cons_succ]
        refine wpAnyH_take (i := 8) (v := ?v7) rfl (by kernel_rfl) (by kernel_rfl) (by kernel_rfl) (fun _ _ _ h => h) (Or.inl ⟨by kernel_rfl, ?h7⟩) HS ?r7
        case h7 => (rintro w ⟨s0, s1, s2, s3⟩; go_simp) <;> with_reducible rfl
        try simp only [Act.put, List.getElem_toArray, List.getElem_cons_succ, List.getElem_cons_zero, List.setIfInBounds_toArray, List.set_cons_zero, List.set_cons_succ]
        refine wpAnyH_ready (rs := [1]) (by kernel_rfl) (by simp) ?_
        refine AllReadyH.cons rfl (fun K hK => ?_) AllReadyH.nil
        go_simp
        refine (HNp.out _ HL8.out.B).mono ?_
        rintro e w9 ⟨v9, rfl, hA9, hO9, hb9⟩
        refine hK.out _ _ ⟨cell_later hb9 HS.1, cell_later hb9 HS.2.1, cell_later hb9 HS.2.2.1, cell_later hb9 HS.2.2.2⟩ (fun HS => ?_)
        clear hK K
        have HL9 : Hid (L2 w du dv (0 + vc) 0 w9) := HL8.out.later hb9
        have H9 : Hid (Ar w9 v6 lp G ∧ Nb v6 dv) := ⟨H8.out.1.later hb9, H8.out.2⟩
        have N9 : Hid (Ar w9 v9 lp P ∧ Nb v9 dv) := ⟨hA9, hO9.nb (World.block_lt_of_cell? _ _ HL8.out.v.1)⟩
        clear HL8 H8 hb9 HNp hA9 hO9
        refine wpAnyH_ready (rs := [6]) (by kernel_rfl) (by simp) ?_
        refine AllReadyH.cons rfl (fun K hK => ?_) AllReadyH.nil
        go_simp
        refine (HPx.out _ HL9.out.B).mono ?_
        rintro e w10 ⟨v10, rfl, hA10, hO10, hb10⟩
        refine hK.out _ _ ⟨cell_later hb10 HS.1, cell_later hb10 HS.2.1, cell_later hb10 HS.2.2.1, cell_later hb10 HS.2.2.2⟩ (fun HS => ?_)
        clear hK K
        have HL10 : Hid (L2 w du dv (0 + vc) 0 w10) := HL9.out.later hb10
        have H10 : Hid (Ar w10 v6 lp G ∧ Nb v6 dv) := ⟨H9.out.1.later hb10, H9.out.2⟩
        have N10 : Hid ((Ar w10 v9 lp P ∧ Nb v9 dv) ∧ Ar w10 v10 (z 0) x ∧ Nb v10 dv) := ⟨⟨N9.out.1.later hb10, N9.out.2⟩, hA10, hO10.nb (World.block_lt_of_cell? _ _ HL9.out.v.1)⟩
        clear HL9 H9 N9 hb10 HPx hA10 hO10
        refine wpAnyH_ready (rs := [9]) (by kernel_rfl) (by simp) ?_
        refine AllReadyH.cons rfl (fun K hK => ?_) AllReadyH.nil
        go_simp
        refine (HPt.out _ HL10.out.B).mono ?_
        rintro e w11 ⟨v11, rfl, hA11, hO11, hb11⟩
        refine hK.out _ _ ⟨cell_later hb11 HS.1, cell_later hb11 HS.2.1, cell_later hb11 HS.2.2.1, cell_later hb11 HS.2.2.2⟩ (fun HS => ?_)
        clear hK K
        have HL11 : Hid (L2 w du dv (0 + vc) 0 w11) := HL10.out.later hb11
        have H11 : Hid (Ar w11 v6 lp G ∧ Nb v6 dv) := ⟨H10.out.1.later hb11, H10.out.2⟩
        have CV := HVl.out w11 v9 v10 v11 HL11.out.B (N10.out.1.1.later hb11) (N10.out.2.1.later hb11) hA11 N10.out.1.2 N10.out.2.2 (hO11.nb (World.block_lt_of_cell? _ _ HL10.out.v.1)) HL11.out.v
        clear HL10 H10 N10 hb11 HPt hA11 hO11 HVl
        refine wpAnyH_ready (rs := [10]) (by kernel_rfl) (by simp) ?_
        refine AllReadyH.cons rfl (fun K hK => ?_) AllReadyH.nil
        go_simp
        refine CV.mono ?_
        rintro e w12 ⟨v12, rfl, hA12, hO12, hU12⟩
        refine hK.out _ _ ⟨hU12.o _ _ hwv HS.1, hU12.o _ _ hwv HS.2.1, hU12.o _ _ hxv HS.2.2.1, hU12.o _ _ hxv HS.2.2.2⟩ (fun HS => ?_)
        clear hK K
        have HL12 : Hid (L2 w du dv (0 + vc) (0 + vc) w12) := HL11.out.unv hU12 hdv0 hne
        have H12 : Hid (Ar w12 v6 lp G ∧ Ar w12 v12 lp G) := ⟨H11.out.1.un H11.out.2 hU12, hA12⟩
        clear CV HL11 H11 hU12 hA12 hO12
        refine wpAnyH_take (i := 11) (v := ?v8) rfl (by kernel_rfl) (by kernel_rfl) (by kernel_rfl) (fun _ _ _ h => h) (Or.inl ⟨by kernel_rfl, ?h8⟩) HS ?r8
        case h8 => (rintro w ⟨s0, s1, s2, s3⟩; go_simp) <;> with_reducible rfl
        try simp only [Act.put, List.getElem_toArray, List.getElem_cons_succ, List.getElem_cons_zero, List.setIfInBounds_toArray, List.set_cons_zero, List.set_cons_succ]
        refine wpAnyH_take (i := 12) (v := ?v9) rfl (by kernel_rfl) (by kernel_rfl) (by kernel_rfl) (fun _ _ _ h => h) (Or.inl ⟨by kernel_rfl, ?h9⟩) HS ?r9
        case h9 => (rintro w ⟨s0, s1, s2, s3⟩; go_simp) <;> with_reducible rfl
        try simp only [Act.put, List.getElem_toArray, List.getElem_cons_succ, List.getElem_cons_zero, List.setIfInBounds_toArray, List.set_cons_zero, List.set_cons_succ]
        refine wpAnyH_take (i := 13) (v := ?v10) rfl (by kernel_rfl) (by kernel_rfl) (by kernel_rfl) (fun _ _ _ h => h) (Or.inl ⟨by kernel_rfl, ?h10⟩) HS ?r10
        case h10 => (rintro w ⟨s0, s1, s2, s3⟩; go_simp) <;> with_reducible rfl
        try simp only [Act.put, List.getElem_toArray, List.getElem_cons_succ, List.getElem_cons_zero, List.setIfInBounds_toArray, List.set_cons_zero, List.set_cons_succ]
        refine wpAnyH_take (i := 14) (v := ?v11) rfl (by kernel_rfl) (by kernel_rfl) (by kernel_rfl) (fun _ _ _ h => h) (Or.inl ⟨by kernel_rfl, ?h11⟩) HS ?r11
        case h11 => (rintro w ⟨s0, s1, s2, s3⟩; go_simp) <;> with_reducible rfl
        try simp only [Act.put, List.getElem_toArray, List.getElem_cons_succ, List.getElem_cons_zero, List.setIfInBounds_toArray, List.set_cons_zero, List.set_cons_succ]
        refine wpAnyH_take (i := 15) (v := ?v12) rfl (by kernel_rfl) (by kernel_rfl) (by kernel_rfl) (fun _ _ _ h => h) (Or.inl ⟨by kernel_rfl, ?h12⟩) HS ?r12
        case h12 => (rintro w ⟨s0, s1, s2, s3⟩; go_simp) <;> with_reducible rfl
        try simp only [Act.put, List.getElem_toArray, List.getElem_cons_succ, List.getElem_cons_zero, List.setIfInBounds_toArray, List.set_cons_zero, List.set_cons_succ]
        refine wpAnyH_done (by kernel_rfl) ?_ _
        clear HS
        obtain ⟨cc, hcc⟩ : ∃ cc, 0 + vc = cc := ⟨_, rfl⟩
        rw [hcc] at HL12
        clear hcc
        go_upto_region 11 with fail
        have hbD : Below w12.heap.size w12 w12.drew := (Below.refl _ _).drew
        have HLD : Hid (L2 w du dv cc cc w12.drew) := HL12.out.later hbD
        have CP := plain7_any _ _ _ (by omega) w12.drew (H12.out.1.later hbD)
        have HD : Hid (Ar w12.drew v12 lp G) := H12.out.2.later hbD
        refine wp_region_held_drew (S := fun W' => W'.cell? ⟨dv, 0, none⟩ = some (.int .i64 cc)) (by kernel_rfl) (cell_drew HL12.out.v.1) (fun HS => ?_)
        clear hbD HL12 H12
        generalize w12.drew = wD at *
        refine wpAnyH_take (i := 0) (v := ?v13) rfl (by kernel_rfl) (by kernel_rfl) (by kernel_rfl) (fun _ _ _ h => h) (Or.inl ⟨by kernel_rfl, ?h13⟩) HS ?r13
        case h13 => (rintro w s1; go_simp) <;> with_reducible rfl
        try simp only [Act.put, List.getElem_toArray, List.getElem_cons_succ, List.getElem_cons_zero, List.setIfInBounds_toArray, List.set_cons_zero, List.set_cons_succ]
        refine wpAnyH_take (i := 1) (v := ?v14) rfl (by kernel_rfl) (by kernel_rfl) (by kernel_rfl) (fun _ _ _ h => h) (Or.inl ⟨by kernel_rfl, ?h14⟩) HS ?r14
        case h14 => (rintro w s1; go_simp) <;> with_reducible rfl
        try simp only [Act.put, List.getElem_toArray, List.getElem_cons_succ, List.getElem_cons_zero, List.setIfInBounds_toArray, List.set_cons_zero, List.set_cons_succ]
        refine wpAnyH_take (i := 2) (v := ?v15) rfl (by kernel_rfl) (by kernel_rfl) (by kernel_rfl) (fun _ _ _ h => h) (Or.inl ⟨by kernel_rfl, ?h15⟩) HS ?r15
        case h15 => (rintro w s1; go_simp) <;> with_reducible rfl
        try simp only [Act.put, List.getElem_toArray, List.getElem_cons_succ, List.getElem_cons_zero, List.setIfInBounds_toArray, List.set_cons_zero, List.set_cons_succ]
        refine wpAnyH_take (i := 3) (v := ?v16) rfl (by kernel_rfl) (by kernel_rfl) (by kernel_rfl) (fun _ _ _ h => h) (Or.inl ⟨by kernel_rfl, ?h16⟩) HS ?r16
        case h16 => (rintro w s1; go_simp) <;> with_reducible rfl
        try simp only [Act.put, List.getElem_toArray, List.getElem_cons_succ, List.getElem_cons_zero, List.setIfInBounds_toArray, List.set_cons_zero, List.set_cons_succ]
        refine wpAnyH_take (i := 5) (v := ?v17) rfl (by kernel_rfl) (by kernel_rfl) (by kernel_rfl) (fun _ _ _ h => h) (Or.inl ⟨by kernel_rfl, ?h17⟩) HS ?r17
        case h17 => (rintro w s1; go_simp) <;> with_reducible rfl
        try simp only [Act.put, List.getElem_toArray, List.getElem_cons_succ, List.getElem_cons_zero, List.setIfInBounds_toArray, List.set_cons_zero, List.set_cons_succ]
        refine wpAnyH_ready (rs := [4]) (by kernel_rfl) (by simp) ?_
        refine AllReadyH.cons rfl (fun K hK => ?_) AllReadyH.nil
        go_simp
        refine CP.mono ?_
        rintro e w13 ⟨v13, rfl, hA13, hO13, hb13⟩
        refine hK.out _ _ (cell_later hb13 HS) (fun HS => ?_)
        clear hK K
        have CS := same_yes _ _ _ _ (by omega) w13 hA13 (HD.out.later hb13)
        have HL13 : Hid (L2 w du dv cc cc w13) := HLD.out.later hb13
        clear CP HD hA13 hO13 hb13 HLD
        refine wpAnyH_ready (rs := [6]) (by kernel_rfl) (by simp) ?_
        refine AllReadyH.cons rfl (fun K hK => ?_) AllReadyH.nil
        go_simp
        refine CS.mono ?_
        rintro e w14 ⟨rfl, hb14⟩
        refine hK.out _ _ (cell_later hb14 HS) (fun HS => ?_)
        clear hK K
        have HL14 : Hid (L2 w du dv cc cc w14) := HL13.out.later hb14
        clear CS HL13 hb14
        refine wpAnyH_take (i := 7) (v := ?v18) rfl (by kernel_rfl) (by kernel_rfl) (by kernel_rfl) (fun _ _ _ h => h) (Or.inl ⟨by kernel_rfl, ?h18⟩) HS ?r18
        case h18 => (rintro w s1; go_simp) <;> with_reducible rfl
        try simp only [Act.put, List.getElem_toArray, List.getElem_cons_succ, List.getElem_cons_zero, List.setIfInBounds_toArray, List.set_cons_zero, List.set_cons_succ]
        refine wpAnyH_take (i := 8) (v := ?v19) rfl (by kernel_rfl) (by kernel_rfl) (by kernel_rfl) (fun _ _ _ h => h) (Or.inl ⟨by kernel_rfl, ?h19⟩) HS ?r19
        case h19 => (rintro w s1; go_simp) <;> with_reducible rfl
        try simp only [Act.put, List.getElem_toArray, List.getElem_cons_succ, List.getElem_cons_zero, List.setIfInBounds_toArray, List.set_cons_zero, List.set_cons_succ]
        refine wpAnyH_take (i := 9) (v := ?v20) rfl (by kernel_rfl) (by kernel_rfl) (by kernel_rfl) (fun _ _ _ h => h) (Or.inl ⟨by kernel_rfl, ?h20⟩) HS ?r20
        case h20 => (rintro w s1; go_simp) <;> with_reducible rfl
        try simp only [Act.put, List.getElem_toArray, List.getElem_cons_succ, List.getElem_cons_zero, List.setIfInBounds_toArray, List.set_cons_zero, List.set_cons_succ]
        refine wpAnyH_take (i := 10) (v := ?v21) rfl (by kernel_rfl) (by kernel_rfl) (by kernel_rfl) (fun _ _ _ h => h) (Or.inl ⟨by kernel_rfl, ?h21⟩) HS ?r21
        case h21 => (rintro w s1; go_simp) <;> with_reducible rfl
        try simp only [Act.put, List.getElem_toArray, List.getElem_cons_succ, List.getElem_cons_zero, List.setIfInBounds_toArray, List.set_cons_zero, List.set_cons_succ]
        refine wpAnyH_take (i := 11) (v := ?v22) rfl (by kernel_rfl) (by kernel_rfl) (by kernel_rfl) (fun _ _ _ h => h) (Or.inl ⟨by kernel_rfl, ?h22⟩) HS ?r22
        case h22 => (rintro w s1; go_simp) <;> with_reducible rfl
        try simp only [Act.put, List.getElem_toArray, List.getElem_cons_succ, List.getElem_cons_zero, List.setIfInBounds_toArray, List.set_cons_zero, List.set_cons_succ]
        refine wpAnyH_take (i := 12) (v := ?v23) rfl (by kernel_rfl) (by kernel_rfl) (by kernel_rfl) (fun _ _ _ h => h) (Or.inl ⟨by kernel_rfl, ?h23⟩) HS ?r23
        case h23 => (rintro w s1; go_simp) <;> with_reducible rfl
        try simp only [Act.put, List.getElem_toArray, List.getElem_cons_succ, List.getElem_cons_zero, List.setIfInBounds_toArray, List.set_cons_zero, List.set_cons_succ]
        refine wpAnyH_take (i := 13) (v := ?v24) rfl (by kernel_rfl) (by kernel_rfl) (by kernel_rfl) (fun _ _ _ h => h) (Or.inl ⟨by kernel_rfl, ?h24⟩) HS ?r24
        case h24 => (rintro w s1; go_simp) <;> with_reducible rfl
        try simp only [Act.put, List.getElem_toArray, List.getElem_cons_succ, List.getElem_cons_zero, List.setIfInBounds_toArray, List.set_cons_zero, List.set_cons_succ]
        refine wpAnyH_take (i := 14) (v := ?v25) rfl (by kernel_rfl) (by kernel_rfl) (by kernel_rfl) (fun _ _ _ h => h) (Or.inl ⟨by kernel_rfl, ?h25⟩) HS ?r25
        case h25 => (rintro w s1; go_simp) <;> with_reducible rfl
        try simp only [Act.put, List.getElem_toArray, List.getElem_cons_succ, List.getElem_cons_zero, List.setIfInBounds_toArray, List.set_cons_zero, List.set_cons_succ]
        refine wpAnyH_take (i := 16) (v := ?v26) rfl (by kernel_rfl) (by kernel_rfl) (by kernel_rfl) (fun _ _ _ h => h) (Or.inl ⟨by kernel_rfl, ?h26⟩) HS ?r26
        case h26 => (rintro w s1; go_simp) <;> with_reducible rfl
        try simp only [Act.put, List.getElem_toArray, List.getElem_cons_succ, List.getElem_cons_zero, List.setIfInBounds_toArray, List.set_cons_zero, List.set_cons_succ]
        refine wpAnyH_take (i := 17) (v := ?v27) rfl (by kernel_rfl) (by kernel_rfl) (by kernel_rfl) (fun _ _ _ h => h) (Or.inl ⟨by kernel_rfl, ?h27⟩) HS ?r27
        case h27 => (rintro w s1; go_simp) <;> with_reducible rfl
        try simp only [Act.put, List.getElem_toArray, List.getElem_cons_succ, List.getElem_cons_zero, List.setIfInBounds_toArray, List.set_cons_zero, List.set_cons_succ]
        refine wpAnyH_take (i := 18) (v := ?v28) rfl (by kernel_rfl) (by kernel_rfl) (by kernel_rfl) (fun _ _ _ h => h) (Or.inl ⟨by kernel_rfl, ?h28⟩) HS ?r28
        case h28 => (rintro w s1; go_simp) <;> with_reducible rfl
        try simp only [Act.put, List.getElem_toArray, List.getElem_cons_succ, List.getElem_cons_zero, List.setIfInBounds_toArray, List.set_cons_zero, List.set_cons_succ]
        refine wpAnyH_take (i := 19) (v := ?v29) rfl (by kernel_rfl) (by kernel_rfl) (by kernel_rfl) (fun _ _ _ h => h) (Or.inl ⟨by kernel_rfl, ?h29⟩) HS ?r29
        case h29 => (rintro w s1; go_simp) <;> with_reducible rfl
        try simp only [Act.put, List.getElem_toArray, List.getElem_cons_succ, List.getElem_cons_zero, List.setIfInBounds_toArray, List.set_cons_zero, List.set_cons_succ]
        refine wpAnyH_ready (rs := [15]) (by kernel_rfl) (by simp) ?_
        refine AllReadyH.cons rfl (fun K hK => ?_) AllReadyH.nil
        go_simp
        refine (count_any du cc w14 HL14.out.u.1).mono ?_
        rintro e w15 ⟨rfl, rfl⟩
        refine hK.out _ _ HS (fun HS => ?_)
        clear hK K
        refine wpAnyH_take (i := 20) (v := ?v30) rfl (by kernel_rfl) (by kernel_rfl) (by kernel_rfl) (fun _ _ _ h => h) (Or.inl ⟨by kernel_rfl, ?h30⟩) HS ?r30
        case h30 => (rintro w s1; go_simp) <;> with_reducible rfl
        try simp only [Act.put, List.getElem_toArray, List.getElem_cons_succ, List.getElem_cons_zero, List.setIfInBounds_toArray, List.set_cons_zero, List.set_cons_succ]
        refine wpAnyH_take (i := 21) (v := ?v31) rfl (by kernel_rfl) (by kernel_rfl) (by kernel_rfl) (fun _ _ _ h => h) (Or.inl ⟨by kernel_rfl, ?h31⟩) HS ?r31
        case h31 => (rintro w s1; go_simp) <;> with_reducible rfl
        try simp only [Act.put, List.getElem_toArray, List.getElem_cons_succ, List.getElem_cons_zero, List.setIfInBounds_toArray, List.set_cons_zero, List.set_cons_succ]
        refine wpAnyH_take (i := 22) (v := ?v32) rfl (by kernel_rfl) (by kernel_rfl) (by kernel_rfl) (fun _ _ _ h => h) (Or.inl ⟨by kernel_rfl, ?h32⟩) HS ?r32
        case h32 => (rintro w s1; go_simp) <;> with_reducible rfl
        try simp only [Act.put, List.getElem_toArray, List.getElem_cons_succ, List.getElem_cons_zero, List.setIfInBounds_toArray, List.set_cons_zero, List.set_cons_succ]
        refine wpAnyH_done (by kernel_rfl) ?_ _
        clear HS
        go_wp2
        go_ret
        exact ⟨rfl, HL14.out.B⟩
      · obtain ⟨E, hE, hE0⟩ := rfE_bad f m lp lx lt L _ _ _ hgd
        have CF := V4.gradE L _ _ _ _ m lp lx lt f P x t z E du 0 w5 (by omega) hAu hPu hXu hTu (fun i hi h => (HZz.out h).2 i hi) hE hE0 HL5.out.u (hV.later HL5.out.B)
        have HE : Hid (rfE f m lp lx lt L (fsN z (m - 1)) (z 0) (z (m - 1)) E) := hE
        have hE1 : (E != 0) = true := by simp [hE0]
        clear hAu hPu hXu hTu nSu nPu nXu nTu hE hgd
        go_wp2_with fail
        refine CF.mono ?_
        rintro e w6 ⟨v6, rfl, ⟨ad6, ca6, rfl⟩, hU6⟩
        have HL6 : Hid (L2 w du dv 0 0 w6) := HL5.out.unu hU6 hdu0 hne
        have HX6 : Hid (Bx w.heap.size (.slice adr m cap) (.slice adp lp cpp) w6) := HX5.out.un hU6 hwu
        have HY6 : Hid (Bx (w.heap.size + 1) (.slice adx lx cax) (.slice adt lt cat) w6) := HY5.out.un hU6 hxu
        have y0 := HX6.out.c0
        have y1 := HX6.out.c1
        have y2 := HY6.out.c0
        have y3 := HY6.out.c1
        clear CF hU6 HL5 HX5 HY5
        go_wp2_with fail
        refine (HRf.out _ HL6.out.B).mono ?_
        rintro e w7 ⟨E', rfl, hE', hb7⟩
        obtain rfl := rfE_one HE.out hE'
        have HL7 : Hid (L2 w du dv 0 0 w7) := HL6.out.later hb7
        have CCn := count_any du 0 w7 HL7.out.u.1
        clear hE' hb7 HL6 HX6 HY6 HRf HE y0 y1 y2 y3
        go_wp2_with fail
        refine CCn.mono ?_
        rintro e w8 ⟨rfl, rfl⟩
        go_wp2
        go_ret
        exact ⟨rfl, HL7.out.B⟩
    · have hsh : shB ns 2 = false := by
        by_cases h0 : lx ≤ 100
        · exact shB_no _ _ 1 (by omega) (by rw [hn1]; omega)
        · exact shB_no _ _ 0 (by omega) (by rw [hn0]; omega)
      rw [hsh]
      clear hsh hn0 hn1
      go_wp2
      go_ret
      exact ⟨rfl, HB4.out⟩
  · have e0 := hT.no hfw
    subst e0
    clear hT
    go_wp2
    go_ret
    exact ⟨rfl, HB3.out⟩
end Go.Proofs.YtdfjnbkkdgolnaaGreatDoor
