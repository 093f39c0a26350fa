/-
  Texts of this proof, joined: LawML PWalkA.
-/
import Derived.Test.YtdfjnbkkdgolnaaGreatDoorSL00
import Derived.Test.YtdfjnbkkdgolnaaGreatDoorSL05
set_option linter.unusedVariables false
set_option linter.unusedSimpArgs false
namespace Go.Proofs.YtdfjnbkkdgolnaaGreatDoor
open Go.RowKit

/-- A region's condition may grow on the way. -/
theorem wpAnyH_turn {P : Program} {md : Region.Mode} {ops : Array Oper} {Q : Exit → Act → World → Prop} {S S' : World → Prop} (hS : ∀ w, S' w → S w) : ∀ (fuel : Nat) (listed : Array Bool) (a : Act) (w : World), wpAnyH P md ops Q S' fuel listed a w → wpAnyH P md ops Q S fuel listed a w
  | 0, _, _, _, h => h
  | fuel + 1, _, _, _, h => ⟨h.1, fun i hi => wpOp_mono (fun a' w' h' => ⟨hS _ h'.1, wpAnyH_turn hS fuel _ a' w' h'.2⟩) (h.2 i hi)⟩
set_option maxRecDepth 100000 in
set_option maxHeartbeats 16000000 in
theorem mlpLosses_any (V3 : Mlp3) (V4 : Mlp4) (L : Int) (vy vt : Value) (ly lt : Nat) (y t : Nat → Int) (w : World) (hY : Ar w vy ly y) (hT : Ar w vt lt t) (hV : MT w) :
    Calls Tryz.prog 6 #[.int .i64 L, vy, vt] w fun e w' => e = .returned (.bool true) ∧ Below w.heap.size w w' := by
  have HAll : Hid (Ar w vy ly y ∧ Ar w vt lt t) := ⟨hY, hT⟩
  obtain ⟨ady, cay, bY, oY, rfl, i1, i2, -, -⟩ := id hY
  obtain ⟨adt, cat, bt, ot, rfl, l1, l2, -, -⟩ := id hT
  unfold maxLen at i2 l2
  have HAw : Hid (Calls Tryz.prog 9 #[] w fun e w' => e = .returned (.bool true) ∧ Below w.heap.size w w') := awake7_any V4 w hV
  clear hY hT
  go_enter Tryz.func6, Tryz.ntmps6
  go_wp2_with fail
  refine HAw.out.mono ?_
  rintro e w3 ⟨rfl, hb⟩
  have HB3 : Hid (Below w.heap.size w w3) := hb
  clear hb HAw
  obtain ⟨ns, hns⟩ : ∃ ns : Nat → Nat, ns = fun k => if k = 0 then ly else lt := ⟨_, rfl⟩
  have hn0 : ns 0 = ly := by rw [hns]; rfl
  have hn1 : ns 1 = lt := by rw [hns]; rfl
  have HSh : Hid (Calls Tryz.prog 21 #[.slice (some ⟨w3.heap.size, 0, none⟩) 2 2] (w3.alloc (.cells #[.slice ady ly cay, .slice adt lt cat] 23)) fun e w' => e = .returned (.bool (shB ns 2)) ∧ w' = w3.alloc (.cells #[.slice ady ly cay, .slice adt lt cat] 23)) := short_any w3.heap.size 2 2 ns (by omega) (by omega) (by omega) _ (fun k hk => by
    have hB := Bx.new w3 (.slice ady ly cay) (.slice adt lt cat) 23
    rcases (by omega : k = 0 ∨ k = 1) with rfl | rfl
    · rw [hn0]; exact ⟨by unfold maxLen; omega, ady, cay, hB.c0⟩
    · rw [hn1]; exact ⟨by unfold maxLen; omega, adt, cat, hB.c1⟩)
  clear hns
  go_wp2_with fail
  refine HSh.out.mono ?_
  rintro e w4 ⟨rfl, hw4⟩
  have HB4 : Hid (Below w.heap.size w w4) := by rw [hw4]; exact bchain HB3.out (bel1 _ _)
  clear hw4 HSh HB3
  by_cases hll : ly ≤ 100 ∧ lt ≤ 100
  · obtain ⟨hly, hlt⟩ := hll
    have hsh : shB ns 2 = true := shB_yes _ _ (fun k hk => by
      rcases (by omega : k = 0 ∨ k = 1) with rfl | rfl
      · rw [hn0]; exact hly
      · rw [hn1]; exact hlt)
    rw [hsh]
    clear hsh hn0 hn1 ns
    obtain ⟨w5, hw5⟩ : ∃ w5, w5 = (w4.alloc (.cells #[.int .i64 0] 57)).alloc (.cells #[.int .i64 0] 60) := ⟨_, rfl⟩
    have HL5 : Hid (L2 w w4.heap.size (w4.heap.size + 1) 0 0 w5) := by rw [hw5]; exact units_new HB4.out _ _
    have hs5 : w5.heap.size = w4.heap.size + 1 + 1 := by rw [hw5]; simp only [World.size_alloc]
    have hs4 : w.heap.size ≤ w4.heap.size := HB4.out.size
    go_upto_region 6 with fail
    rw [← hw5]
    obtain ⟨du, hdu⟩ : ∃ du, w4.heap.size = du := ⟨_, rfl⟩
    obtain ⟨dv, hdv⟩ : ∃ dv, du + 1 = dv := ⟨_, rfl⟩
    rw [hdu] at HL5 hs5 hs4
    rw [hdv] at HL5
    try simp only [hdu, hdv]
    have hne : du ≠ dv := by omega
    have hdu0 : w.heap.size ≤ du := by omega
    have hdv0 : w.heap.size ≤ dv := by omega
    have hdv5 : dv < w5.heap.size := by omega
    clear hw5 hdu hdv hs5 HB4 w4
    have hYu := HAll.out.1.later HL5.out.B
    have hTu := HAll.out.2.later HL5.out.B
    have nYu : ∀ d', w.heap.size ≤ d' → Nb (.slice ady ly cay) d' := fun d' h => HAll.out.1.nb h
    have nTu : ∀ d', w.heap.size ≤ d' → Nb (.slice adt lt cat) d' := fun d' h => HAll.out.2.nb h
    by_cases hL : L = 1 ∨ L = 2
    · by_cases hq : ly = lt
      · subst hq
        rcases hL with rfl | rfl
        · have hK : lsK true = 1 := rfl
          have CF := V3.lossU true _ _ ly y t du 0 w5 (by omega) (by omega) (by omega) hYu hTu (nYu du hdu0) (nTu du hdu0) HL5.out.u (hV.later HL5.out.B)
          have HPy : Hid (∀ W : World, Below w.heap.size w W → Calls Tryz.prog 19 #[.slice ady ly cay] W fun e w' => ∃ v', e = .returned v' ∧ Ar w' v' ly y ∧ Ow W.heap.size v' ∧ Below W.heap.size W w') := fun W hb => plain7_any _ ly y (by omega) W (HAll.out.1.later hb)
          have HPt : Hid (∀ W : World, Below w.heap.size w W → Calls Tryz.prog 19 #[.slice adt ly cat] W fun e w' => ∃ v', e = .returned v' ∧ Ar w' v' ly t ∧ Ow W.heap.size v' ∧ Below W.heap.size W w') := fun W hb => plain7_any _ ly t (by omega) W (HAll.out.2.later hb)
          have hr1 := lsC_rng true y t ly
          have HLs : Hid (∀ (W : World) (v9 v10 : Value), Ar W v9 ly y → Ar W v10 ly t → Nb v9 dv → Nb v10 dv → Uc W dv 0 → Calls Tryz.prog 28 #[.pointer (some ⟨dv, 0, none⟩), .int .i64 (lsK true), v9, v10] W fun e w' => e = .returned (.int .i64 (lsX true y t ly)) ∧ Un dv (0 + lsC true y t ly) W w') := fun W v9 v10 h1 h2 h3 h4 h5 => loss_any true v9 v10 ly y t dv 0 (by omega) (by omega) (by omega) W h1 h2 h3 h4 h5.1 h5.2
          have HSl : Hid (∀ (W : World) (v9 v10 : Value), Ar W v9 ly y → Ar W v10 ly t → Nb v9 dv → Nb v10 dv → Uc W dv (0 + lsC true y t ly) → Calls Tryz.prog 29 #[.pointer (some ⟨dv, 0, none⟩), .int .i64 (lsK true), v9, v10] W fun e w' => ∃ v', e = .returned v' ∧ Ar w' v' ly (slX true y t) ∧ Ow W.heap.size v' ∧ Un dv (0 + lsC true y t ly + slC true y t ly) W w') := fun W v9 v10 h1 h2 h3 h4 h5 => slope_any true v9 v10 ly y t dv _ (by omega) (by omega) (by omega) W h1 h2 h3 h4 h5.1 h5.2
          have HSu : Hid (∀ (W : World), Below w.heap.size w W → Uc W du (0 + lsC true y t ly) → Calls Tryz.prog 27 #[.pointer (some ⟨du, 0, none⟩), .int .i64 (lsK true), .slice ady ly cay, .slice adt ly cat] W fun e w' => ∃ v', e = .returned (.tuple #[v', .int .i64 0]) ∧ Ar w' v' ly (slX true y t) ∧ Ow W.heap.size v' ∧ Un du (0 + lsC true y t ly + slC true y t ly) W w') := fun W hb h => V3.slopeU true _ _ ly y t du _ W (by omega) (by omega) (by omega) (HAll.out.1.later hb) (HAll.out.2.later hb) (nYu du hdu0) (nTu du hdu0) h (hV.later hb)
          rw [hK] at CF HLs HSl HSu
          generalize 0 + lsC true y t ly = c1 at *
          generalize c1 + slC true y t ly = c2 at *
          generalize lsX true y t ly = gx at *
          generalize slX true y t = G at *
          clear hYu hTu nYu nTu hK hr1
          go_wp2_with fail
          refine CF.mono ?_
          rintro e w6 ⟨rfl, hU6⟩
          have HL6 : Hid (L2 w du dv c1 0 w6) := HL5.out.unu hU6 hdu0 hne
          clear CF hU6 HL5
          go_upto_region 13 with fail
          have HL7 : Hid (L2 w du dv c1 0 w6.drew) := HL6.out.later (Below.refl _ _).drew
          refine wp_region_held_drew (S := fun W' => True) (by kernel_rfl) trivial (fun HS => ?_)
          clear HL6
          generalize w6.drew = w7 at *
          refine wpAnyH_take (i := 0) (v := ?v1) rfl (by kernel_rfl) (by kernel_rfl) (by kernel_rfl) (fun _ _ _ h => h) (Or.inl ⟨by kernel_rfl, ?h1⟩) HS ?r1
          case h1 => (rintro w s1; go_simp) <;> with_reducible rfl
          try simp only [Act.put, List.getElem_toArray, List.getElem_cons_succ, List.getElem_cons_zero, List.setIfInBounds_toArray, List.set_cons_zero, List.set_cons_succ]
          refine wpAnyH_take (i := 1) (v := ?v2) rfl (by kernel_rfl) (by kernel_rfl) (by kernel_rfl) (fun _ _ _ h => h) (Or.inl ⟨by kernel_rfl, ?h2⟩) HS ?r2
          case h2 => (rintro w s1; go_simp) <;> with_reducible rfl
          try simp only [Act.put, List.getElem_toArray, List.getElem_cons_succ, List.getElem_cons_zero, List.setIfInBounds_toArray, List.set_cons_zero, List.set_cons_succ]
          refine wpAnyH_take (i := 2) (v := ?v3) rfl (by kernel_rfl) (by kernel_rfl) (by kernel_rfl) (fun _ _ _ h => h) (Or.inl ⟨by kernel_rfl, ?h3⟩) HS ?r3
          case h3 => (rintro w s1; go_simp) <;> with_reducible rfl
          try simp only [Act.put, List.getElem_toArray, List.getElem_cons_succ, List.getElem_cons_zero, List.setIfInBounds_toArray, List.set_cons_zero, List.set_cons_succ]
          refine wpAnyH_take (i := 3) (v := ?v4) rfl (by kernel_rfl) (by kernel_rfl) (by kernel_rfl) (fun _ _ _ h => h) (Or.inl ⟨by kernel_rfl, ?h4⟩) HS ?r4
          case h4 => (rintro w s1; go_simp) <;> with_reducible rfl
          try simp only [Act.put, List.getElem_toArray, List.getElem_cons_succ, List.getElem_cons_zero, List.setIfInBounds_toArray, List.set_cons_zero, List.set_cons_succ]
          refine wpAnyH_take (i := 4) (v := ?v5) rfl (by kernel_rfl) (by kernel_rfl) (by kernel_rfl) (fun _ _ _ h => h) (Or.inl ⟨by kernel_rfl, ?h5⟩) HS ?r5
          case h5 => (rintro w s1; go_simp) <;> with_reducible rfl
          try simp only [Act.put, List.getElem_toArray, List.getElem_cons_succ, List.getElem_cons_zero, List.setIfInBounds_toArray, List.set_cons_zero, List.set_cons_succ]
          refine wpAnyH_take (i := 5) (v := ?v6) rfl (by kernel_rfl) (by kernel_rfl) (by kernel_rfl) (fun _ _ _ h => h) (Or.inl ⟨by kernel_rfl, ?h6⟩) HS ?r6
          case h6 => (rintro w s1; go_simp) <;> with_reducible rfl
          try simp only [Act.put, List.getElem_toArray, List.getElem_cons_succ, List.getElem_cons_zero, List.setIfInBounds_toArray, List.set_cons_zero, List.set_cons_succ]
          refine wpAnyH_take (i := 6) (v := ?v7) rfl (by kernel_rfl) (by kernel_rfl) (by kernel_rfl) (fun _ _ _ h => h) (Or.inl ⟨by kernel_rfl, ?h7⟩) HS ?r7
          case h7 => (rintro w s1; go_simp) <;> with_reducible rfl
          try simp only [Act.put, List.getElem_toArray, List.getElem_cons_succ, List.getElem_cons_zero, List.setIfInBounds_toArray, List.set_cons_zero, List.set_cons_succ]
          refine wpAnyH_take (i := 8) (v := ?v8) rfl (by kernel_rfl) (by kernel_rfl) (by kernel_rfl) (fun _ _ _ h => h) (Or.inl ⟨by kernel_rfl, ?h8⟩) HS ?r8
          case h8 => (rintro w s1; go_simp) <;> with_reducible rfl
          try simp only [Act.put, List.getElem_toArray, List.getElem_cons_succ, List.getElem_cons_zero, List.setIfInBounds_toArray, List.set_cons_zero, List.set_cons_succ]
          refine wpAnyH_ready (rs := [7]) (by kernel_rfl) (by simp) ?_
          refine AllReadyH.cons rfl (fun K hK => ?_) AllReadyH.nil
          go_simp
          refine (HPy.out _ HL7.out.B).mono ?_
          rintro e w9 ⟨v9, rfl, hA9, hO9, hb9⟩
          refine hK.out _ _ trivial (fun HS => ?_)
          clear hK K
          have HL9 : Hid (L2 w du dv c1 0 w9) := HL7.out.later hb9
          have N9 : Hid (Ar w9 v9 ly y ∧ Nb v9 dv) := ⟨hA9, hO9.nb (World.block_lt_of_cell? _ _ HL7.out.v.1)⟩
          clear HL7 hb9 hA9 hO9
          refine wpAnyH_ready (rs := [9]) (by kernel_rfl) (by simp) ?_
          refine AllReadyH.cons rfl (fun K hK => ?_) AllReadyH.nil
          go_simp
          refine (HPt.out _ HL9.out.B).mono ?_
          rintro e w10 ⟨v10, rfl, hA10, hO10, hb10⟩
          refine hK.out _ _ trivial (fun HS => ?_)
          clear hK K
          have HL10 : Hid (L2 w du dv c1 0 w10) := HL9.out.later hb10
          have CV := HLs.out w10 v9 v10 (N9.out.1.later hb10) hA10 N9.out.2 (hO10.nb (World.block_lt_of_cell? _ _ HL9.out.v.1)) HL10.out.v
          clear HL9 N9 hb10 hA10 hO10 HLs
          refine wpAnyH_ready (rs := [10]) (by kernel_rfl) (by simp) ?_
          refine AllReadyH.cons rfl (fun K hK => ?_) AllReadyH.nil
          go_simp
          refine CV.mono ?_
          rintro e w11 ⟨rfl, hU11⟩
          refine hK.out _ _ trivial (fun HS => ?_)
          clear hK K HS
          have HL11 : Hid (L2 w du dv c1 c1 w11) := HL10.out.unv hU11 hdv0 hne
          clear CV HL10 hU11
          refine wpAnyH_turn (S' := fun W' => W'.cell? ⟨dv, 0, none⟩ = some (.int .i64 c1)) (fun _ _ => trivial) _ _ _ _ ?_
          have HS := HL11.out.v.1
          refine wpAnyH_take (i := 11) (v := ?v9) rfl (by kernel_rfl) (by kernel_rfl) (by kernel_rfl) (fun _ _ _ h => h) (Or.inl ⟨by kernel_rfl, ?h9⟩) HS ?r9
          case h9 => (rintro w s1; go_simp) <;> with_reducible rfl
          try simp only [Act.put, List.getElem_toArray, List.getElem_cons_succ, List.getElem_cons_zero, List.setIfInBounds_toArray, List.set_cons_zero, List.set_cons_succ]
          refine wpAnyH_take (i := 12) (v := ?v10) rfl (by kernel_rfl) (by kernel_rfl) (by kernel_rfl) (fun _ _ _ h => h) (Or.inl ⟨by kernel_rfl, ?h10⟩) HS ?r10
          case h10 => (rintro w s1; go_simp) <;> with_reducible rfl
          try simp only [Act.put, List.getElem_toArray, List.getElem_cons_succ, List.getElem_cons_zero, List.setIfInBounds_toArray, List.set_cons_zero, List.set_cons_succ]
          refine wpAnyH_take (i := 13) (v := ?v11) rfl (by kernel_rfl) (by kernel_rfl) (by kernel_rfl) (fun _ _ _ h => h) (Or.inl ⟨by kernel_rfl, ?h11⟩) HS ?r11
          case h11 => (rintro w s1; go_simp) <;> with_reducible rfl
          try simp only [Act.put, List.getElem_toArray, List.getElem_cons_succ, List.getElem_cons_zero, List.setIfInBounds_toArray, List.set_cons_zero, List.set_cons_succ]
          refine wpAnyH_take (i := 14) (v := ?v12) rfl (by kernel_rfl) (by kernel_rfl) (by kernel_rfl) (fun _ _ _ h => h) (Or.inl ⟨by kernel_rfl, ?h12⟩) HS ?r12
          case h12 => (rintro w s1; go_simp) <;> with_reducible rfl
          try simp only [Act.put, List.getElem_toArray, List.getElem_cons_succ, List.getElem_cons_zero, List.setIfInBounds_toArray, List.set_cons_zero, List.set_cons_succ]
          refine wpAnyH_take (i := 16) (v := ?v13) rfl (by kernel_rfl) (by kernel_rfl) (by kernel_rfl) (fun _ _ _ h => h) (Or.inl ⟨by kernel_rfl, ?h13⟩) HS ?r13
          case h13 => (rintro w s1; go_simp) <;> with_reducible rfl
          try simp only [Act.put, List.getElem_toArray, List.getElem_cons_succ, List.getElem_cons_zero, List.setIfInBounds_toArray, List.set_cons_zero, List.set_cons_succ]
          refine wpAnyH_take (i := 17) (v := ?v14) rfl (by kernel_rfl) (by kernel_rfl) (by kernel_rfl) (fun _ _ _ h => h) (Or.inl ⟨by kernel_rfl, ?h14⟩) HS ?r14
          case h14 => (rintro w s1; go_simp) <;> with_reducible rfl
          try simp only [Act.put, List.getElem_toArray, List.getElem_cons_succ, List.getElem_cons_zero, List.setIfInBounds_toArray, List.set_cons_zero, List.set_cons_succ]
          refine wpAnyH_take (i := 18) (v := ?v15) rfl (by kernel_rfl) (by kernel_rfl) (by kernel_rfl) (fun _ _ _ h => h) (Or.inl ⟨by kernel_rfl, ?h15⟩) HS ?r15
          case h15 => (rintro w s1; go_simp) <;> with_reducible rfl
          try simp only [Act.put, List.getElem_toArray, List.getElem_cons_succ, List.getElem_cons_zero, List.setIfInBounds_toArray, List.set_cons_zero, List.set_cons_succ]
          refine wpAnyH_take (i := 19) (v := ?v16) rfl (by kernel_rfl) (by kernel_rfl) (by kernel_rfl) (fun _ _ _ h => h) (Or.inl ⟨by kernel_rfl, ?h16⟩) HS ?r16
          case h16 => (rintro w s1; go_simp) <;> with_reducible rfl
          try simp only [Act.put, List.getElem_toArray, List.getElem_cons_succ, List.getElem_cons_zero, List.setIfInBounds_toArray, List.set_cons_zero, List.set_cons_succ]
          refine wpAnyH_ready (rs := [15]) (by kernel_rfl) (by simp) ?_
          refine AllReadyH.cons rfl (fun K hK => ?_) AllReadyH.nil
          go_simp
          refine (count_any du c1 w11 HL11.out.u.1).mono ?_
          rintro e w12 ⟨rfl, rfl⟩
          refine hK.out _ _ HS (fun HS => ?_)
          clear hK K
          refine wpAnyH_take (i := 20) (v := ?v17) rfl (by kernel_rfl) (by kernel_rfl) (by kernel_rfl) (fun _ _ _ h => h) (Or.inl ⟨by kernel_rfl, ?h17⟩) HS ?r17
          case h17 => (rintro w s1; go_simp) <;> with_reducible rfl
          try simp only [Act.put, List.getElem_toArray, List.getElem_cons_succ, List.getElem_cons_zero, List.setIfInBounds_toArray, List.set_cons_zero, List.set_cons_succ]
          refine wpAnyH_take (i := 21) (v := ?v18) rfl (by kernel_rfl) (by kernel_rfl) (by kernel_rfl) (fun _ _ _ h => h) (Or.inl ⟨by kernel_rfl, ?h18⟩) HS ?r18
          case h18 => (rintro w s1; go_simp) <;> with_reducible rfl
          try simp only [Act.put, List.getElem_toArray, List.getElem_cons_succ, List.getElem_cons_zero, List.setIfInBounds_toArray, List.set_cons_zero, List.set_cons_succ]
          refine wpAnyH_done (by kernel_rfl) ?_ _
          clear HS
          have CU := HSu.out w12 HL11.out.B HL11.out.u
          go_wp2_with fail
          refine CU.mono ?_
          rintro e w13 ⟨v13, rfl, hA13, hO13, hU13⟩
          have HL13 : Hid (L2 w du dv c2 c1 w13) := HL11.out.unu hU13 hdu0 hne
          have CP := fun hb => plain7_any v13 ly G (by omega) w13.drew (hA13.later hb)
          clear CU HL11 hU13 hA13 hO13 HSu
          go_upto_region 16 with fail
          have hbD : Below w13.heap.size w13 w13.drew := (Below.refl _ _).drew
          have HL14 : Hid (L2 w du dv c2 c1 w13.drew) := HL13.out.later hbD
          have CQ := CP hbD
          refine wp_region_held_drew (S := fun W' => True) (by kernel_rfl) trivial (fun HS => ?_)
          clear HL13 hbD CP
          generalize w13.drew = w14 at *
          refine wpAnyH_take (i := 0) (v := ?v19) rfl (by kernel_rfl) (by kernel_rfl) (by kernel_rfl) (fun _ _ _ h => h) (Or.inl ⟨by kernel_rfl, ?h19⟩) HS ?r19
          case h19 => (rintro w s1; go_simp) <;> with_reducible rfl
          try simp only [Act.put, List.getElem_toArray, List.getElem_cons_succ, List.getElem_cons_zero, List.setIfInBounds_toArray, List.set_cons_zero, List.set_cons_succ]
          refine wpAnyH_take (i := 1) (v := ?v20) rfl (by kernel_rfl) (by kernel_rfl) (by kernel_rfl) (fun _ _ _ h => h) (Or.inl ⟨by kernel_rfl, ?h20⟩) HS ?r20
          case h20 => (rintro w s1; go_simp) <;> with_reducible rfl
          try simp only [Act.put, List.getElem_toArray, List.getElem_cons_succ, List.getElem_cons_zero, List.setIfInBounds_toArray, List.set_cons_zero, List.set_cons_succ]
          refine wpAnyH_take (i := 2) (v := ?v21) rfl (by kernel_rfl) (by kernel_rfl) (by kernel_rfl) (fun _ _ _ h => h) (Or.inl ⟨by kernel_rfl, ?h21⟩) HS ?r21
          case h21 => (rintro w s1; go_simp) <;> with_reducible rfl
          try simp only [Act.put, List.getElem_toArray, List.getElem_cons_succ, List.getElem_cons_zero, List.setIfInBounds_toArray, List.set_cons_zero, List.set_cons_succ]
          refine wpAnyH_take (i := 3) (v := ?v22) rfl (by kernel_rfl) (by kernel_rfl) (by kernel_rfl) (fun _ _ _ h => h) (Or.inl ⟨by kernel_rfl, ?h22⟩) HS ?r22
          case h22 => (rintro w s1; go_simp) <;> with_reducible rfl
          try simp only [Act.put, List.getElem_toArray, List.getElem_cons_succ, List.getElem_cons_zero, List.setIfInBounds_toArray, List.set_cons_zero, List.set_cons_succ]
          refine wpAnyH_take (i := 5) (v := ?v23) rfl (by kernel_rfl) (by kernel_rfl) (by kernel_rfl) (fun _ _ _ h => h) (Or.inl ⟨by kernel_rfl, ?h23⟩) HS ?r23
          case h23 => (rintro w s1; go_simp) <;> with_reducible rfl
          try simp only [Act.put, List.getElem_toArray, List.getElem_cons_succ, List.getElem_cons_zero, List.setIfInBounds_toArray, List.set_cons_zero, List.set_cons_succ]
          refine wpAnyH_take (i := 6) (v := ?v24) rfl (by kernel_rfl) (by kernel_rfl) (by kernel_rfl) (fun _ _ _ h => h) (Or.inl ⟨by kernel_rfl, ?h24⟩) HS ?r24
          case h24 => (rintro w s1; go_simp) <;> with_reducible rfl
          try simp only [Act.put, List.getElem_toArray, List.getElem_cons_succ, List.getElem_cons_zero, List.setIfInBounds_toArray, List.set_cons_zero, List.set_cons_succ]
          refine wpAnyH_take (i := 7) (v := ?v25) rfl (by kernel_rfl) (by kernel_rfl) (by kernel_rfl) (fun _ _ _ h => h) (Or.inl ⟨by kernel_rfl, ?h25⟩) HS ?r25
          case h25 => (rintro w s1; go_simp) <;> with_reducible rfl
          try simp only [Act.put, List.getElem_toArray, List.getElem_cons_succ, List.getElem_cons_zero, List.setIfInBounds_toArray, List.set_cons_zero, List.set_cons_succ]
          refine wpAnyH_take (i := 9) (v := ?v26) rfl (by kernel_rfl) (by kernel_rfl) (by kernel_rfl) (fun _ _ _ h => h) (Or.inl ⟨by kernel_rfl, ?h26⟩) HS ?r26
          case h26 => (rintro w s1; go_simp) <;> with_reducible rfl
          try simp only [Act.put, List.getElem_toArray, List.getElem_cons_succ, List.getElem_cons_zero, List.setIfInBounds_toArray, List.set_cons_zero, List.set_cons_succ]
          refine wpAnyH_ready (rs := [4]) (by kernel_rfl) (by simp) ?_
          refine AllReadyH.cons rfl (fun K hK => ?_) AllReadyH.nil
          go_simp
          refine CQ.mono ?_
          rintro e w15 ⟨v15, rfl, hA15, hO15, hb15⟩
          refine hK.out _ _ trivial (fun HS => ?_)
          clear hK K
          have HL15 : Hid (L2 w du dv c2 c1 w15) := HL14.out.later hb15
          have N15 : Hid (Ar w15 v15 ly G ∧ Nb v15 dv) := ⟨hA15, hO15.nb (World.block_lt_of_cell? _ _ HL14.out.v.1)⟩
          clear HL14 hb15 hA15 hO15 CQ
          refine wpAnyH_ready (rs := [8]) (by kernel_rfl) (by simp) ?_
          refine AllReadyH.cons rfl (fun K hK => ?_) AllReadyH.nil
          go_simp
          refine (HPy.out _ HL15.out.B).mono ?_
          rintro e w16 ⟨v16, rfl, hA16, hO16, hb16⟩
          refine hK.out _ _ trivial (fun HS => ?_)
          clear hK K
          have HL16 : Hid (L2 w du dv c2 c1 w16) := HL15.out.later hb16
          have N16 : Hid ((Ar w16 v15 ly G ∧ Nb v15 dv) ∧ Ar w16 v16 ly y ∧ Nb v16 dv) := ⟨⟨N15.out.1.later hb16, N15.out.2⟩, hA16, hO16.nb (World.block_lt_of_cell? _ _ HL15.out.v.1)⟩
          clear HL15 N15 hb16 hA16 hO16 HPy
          refine wpAnyH_ready (rs := [10]) (by kernel_rfl) (by simp) ?_
          refine AllReadyH.cons rfl (fun K hK => ?_) AllReadyH.nil
          go_simp
          refine (HPt.out _ HL16.out.B).mono ?_
          rintro e w17 ⟨v17, rfl, hA17, hO17, hb17⟩
          refine hK.out _ _ trivial (fun HS => ?_)
          clear hK K
          have HL17 : Hid (L2 w du dv c2 c1 w17) := HL16.out.later hb17
          have N17 : Hid (Ar w17 v15 ly G ∧ Nb v15 dv) := ⟨N16.out.1.1.later hb17, N16.out.1.2⟩
          have CW := HSl.out w17 v16 v17 (N16.out.2.1.later hb17) hA17 N16.out.2.2 (hO17.nb (World.block_lt_of_cell? _ _ HL16.out.v.1)) HL17.out.v
          clear HL16 N16 hb17 hA17 hO17 HSl HPt
          refine wpAnyH_ready (rs := [11]) (by kernel_rfl) (by simp) ?_
          refine AllReadyH.cons rfl (fun K hK => ?_) AllReadyH.nil
          go_simp
          refine CW.mono ?_
          rintro e w18 ⟨v18, rfl, hA18, hO18, hU18⟩
          refine hK.out _ _ trivial (fun HS => ?_)
          clear hK K
          have HL18 : Hid (L2 w du dv c2 c2 w18) := HL17.out.unv hU18 hdv0 hne
          have CS := same_yes _ _ _ _ (by omega) w18 (N17.out.1.un N17.out.2 hU18) hA18
          clear CW HL17 N17 hU18 hA18 hO18
          refine wpAnyH_ready (rs := [12]) (by kernel_rfl) (by simp) ?_
          refine AllReadyH.cons rfl (fun K hK => ?_) AllReadyH.nil
          go_simp
          refine CS.mono ?_
          rintro e w19 ⟨rfl, hb19⟩
          refine hK.out _ _ trivial (fun HS => ?_)
          clear hK K HS
          have HL19 : Hid (L2 w du dv c2 c2 w19) := HL18.out.later hb19
          clear CS HL18 hb19
          refine wpAnyH_turn (S' := fun W' => W'.cell? ⟨dv, 0, none⟩ = some (.int .i64 c2)) (fun _ _ => trivial) _ _ _ _ ?_
          have HS := HL19.out.v.1
          refine wpAnyH_take (i := 13) (v := ?v27) rfl (by kernel_rfl) (by kernel_rfl) (by kernel_rfl) (fun _ _ _ h => h) (Or.inl ⟨by kernel_rfl, ?h27⟩) HS ?r27
          case h27 => (rintro w s1; go_simp) <;> with_reducible rfl
          try simp only [Act.put, List.getElem_toArray, List.getElem_cons_succ, List.getElem_cons_zero, List.setIfInBounds_toArray, List.set_cons_zero, List.set_cons_succ]
          refine wpAnyH_take (i := 14) (v := ?v28) rfl (by kernel_rfl) (by kernel_rfl) (by kernel_rfl) (fun _ _ _ h => h) (Or.inl ⟨by kernel_rfl, ?h28⟩) HS ?r28
          case h28 => (rintro w s1; go_simp) <;> with_reducible rfl
          try simp only [Act.put, List.getElem_toArray, List.getElem_cons_succ, List.getElem_cons_zero, List.setIfInBounds_toArray, List.set_cons_zero, List.set_cons_succ]
          refine wpAnyH_take (i := 15) (v := ?v29) rfl (by kernel_rfl) (by kernel_rfl) (by kernel_rfl) (fun _ _ _ h => h) (Or.inl ⟨by kernel_rfl, ?h29⟩) HS ?r29
          case h29 => (rintro w s1; go_simp) <;> with_reducible rfl
          try simp only [Act.put, List.getElem_toArray, List.getElem_cons_succ, List.getElem_cons_zero, List.setIfInBounds_toArray, List.set_cons_zero, List.set_cons_succ]
          refine wpAnyH_take (i := 17) (v := ?v30) rfl (by kernel_rfl) (by kernel_rfl) (by kernel_rfl) (fun _ _ _ h => h) (Or.inl ⟨by kernel_rfl, ?h30⟩) HS ?r30
          case h30 => (rintro w s1; go_simp) <;> with_reducible rfl
          try simp only [Act.put, List.getElem_toArray, List.getElem_cons_succ, List.getElem_cons_zero, List.setIfInBounds_toArray, List.set_cons_zero, List.set_cons_succ]
          refine wpAnyH_take (i := 18) (v := ?v31) rfl (by kernel_rfl) (by kernel_rfl) (by kernel_rfl) (fun _ _ _ h => h) (Or.inl ⟨by kernel_rfl, ?h31⟩) HS ?r31
          case h31 => (rintro w s1; go_simp) <;> with_reducible rfl
          try simp only [Act.put, List.getElem_toArray, List.getElem_cons_succ, List.getElem_cons_zero, List.setIfInBounds_toArray, List.set_cons_zero, List.set_cons_succ]
          refine wpAnyH_take (i := 19) (v := ?v32) rfl (by kernel_rfl) (by kernel_rfl) (by kernel_rfl) (fun _ _ _ h => h) (Or.inl ⟨by kernel_rfl, ?h32⟩) HS ?r32
          case h32 => (rintro w s1; go_simp) <;> with_reducible rfl
          try simp only [Act.put, List.getElem_toArray, List.getElem_cons_succ, List.getElem_cons_zero, List.setIfInBounds_toArray, List.set_cons_zero, List.set_cons_succ]
          refine wpAnyH_take (i := 20) (v := ?v33) rfl (by kernel_rfl) (by kernel_rfl) (by kernel_rfl) (fun _ _ _ h => h) (Or.inl ⟨by kernel_rfl, ?h33⟩) HS ?r33
          case h33 => (rintro w s1; go_simp) <;> with_reducible rfl
          try simp only [Act.put, List.getElem_toArray, List.getElem_cons_succ, List.getElem_cons_zero, List.setIfInBounds_toArray, List.set_cons_zero, List.set_cons_succ]
          refine wpAnyH_ready (rs := [16]) (by kernel_rfl) (by simp) ?_
          refine AllReadyH.cons rfl (fun K hK => ?_) AllReadyH.nil
          go_simp
          refine (count_any du c2 w19 HL19.out.u.1).mono ?_
          rintro e w20 ⟨rfl, rfl⟩
          refine hK.out _ _ HS (fun HS => ?_)
          clear hK K
          refine wpAnyH_take (i := 21) (v := ?v34) rfl (by kernel_rfl) (by kernel_rfl) (by kernel_rfl) (fun _ _ _ h => h) (Or.inl ⟨by kernel_rfl, ?h34⟩) HS ?r34
          case h34 => (rintro w s1; go_simp) <;> with_reducible rfl
          try simp only [Act.put, List.getElem_toArray, List.getElem_cons_succ, List.getElem_cons_zero, List.setIfInBounds_toArray, List.set_cons_zero, List.set_cons_succ]
          refine wpAnyH_take (i := 22) (v := ?v35) rfl (by kernel_rfl) (by kernel_rfl) (by kernel_rfl) (fun _ _ _ h => h) (Or.inl ⟨by kernel_rfl, ?h35⟩) HS ?r35
          case h35 => (rintro w s1; go_simp) <;> with_reducible rfl
          try simp only [Act.put, List.getElem_toArray, List.getElem_cons_succ, List.getElem_cons_zero, List.setIfInBounds_toArray, List.set_cons_zero, List.set_cons_succ]
          refine wpAnyH_take (i := 23) (v := ?v36) rfl (by kernel_rfl) (by kernel_rfl) (by kernel_rfl) (fun _ _ _ h => h) (Or.inl ⟨by kernel_rfl, ?h36⟩) HS ?r36
          case h36 => (rintro w s1; go_simp) <;> with_reducible rfl
          try simp only [Act.put, List.getElem_toArray, List.getElem_cons_succ, List.getElem_cons_zero, List.setIfInBounds_toArray, List.set_cons_zero, List.set_cons_succ]
          refine wpAnyH_done (by kernel_rfl) ?_ _
          clear HS
          go_wp2
          go_ret
          exact ⟨rfl, HL19.out.B⟩
        · have hK : lsK false = 2 := rfl
          have CF := V3.lossU false _ _ ly y t du 0 w5 (by omega) (by omega) (by omega) hYu hTu (nYu du hdu0) (nTu du hdu0) HL5.out.u (hV.later HL5.out.B)
          have HPy : Hid (∀ W : World, Below w.heap.size w W → Calls Tryz.prog 19 #[.slice ady ly cay] W fun e w' => ∃ v', e = .returned v' ∧ Ar w' v' ly y ∧ Ow W.heap.size v' ∧ Below W.heap.size W w') := fun W hb => plain7_any _ ly y (by omega) W (HAll.out.1.later hb)
          have HPt : Hid (∀ W : World, Below w.heap.size w W → Calls Tryz.prog 19 #[.slice adt ly cat] W fun e w' => ∃ v', e = .returned v' ∧ Ar w' v' ly t ∧ Ow W.heap.size v' ∧ Below W.heap.size W w') := fun W hb => plain7_any _ ly t (by omega) W (HAll.out.2.later hb)
          have hr1 := lsC_rng false y t ly
          have HLs : Hid (∀ (W : World) (v9 v10 : Value), Ar W v9 ly y → Ar W v10 ly t → Nb v9 dv → Nb v10 dv → Uc W dv 0 → Calls Tryz.prog 28 #[.pointer (some ⟨dv, 0, none⟩), .int .i64 (lsK false), v9, v10] W fun e w' => e = .returned (.int .i64 (lsX false y t ly)) ∧ Un dv (0 + lsC false y t ly) W w') := fun W v9 v10 h1 h2 h3 h4 h5 => loss_any false v9 v10 ly y t dv 0 (by omega) (by omega) (by omega) W h1 h2 h3 h4 h5.1 h5.2
          have HSl : Hid (∀ (W : World) (v9 v10 : Value), Ar W v9 ly y → Ar W v10 ly t → Nb v9 dv → Nb v10 dv → Uc W dv (0 + lsC false y t ly) → Calls Tryz.prog 29 #[.pointer (some ⟨dv, 0, none⟩), .int .i64 (lsK false), v9, v10] W fun e w' => ∃ v', e = .returned v' ∧ Ar w' v' ly (slX false y t) ∧ Ow W.heap.size v' ∧ Un dv (0 + lsC false y t ly + slC false y t ly) W w') := fun W v9 v10 h1 h2 h3 h4 h5 => slope_any false v9 v10 ly y t dv _ (by omega) (by omega) (by omega) W h1 h2 h3 h4 h5.1 h5.2
          have HSu : Hid (∀ (W : World), Below w.heap.size w W → Uc W du (0 + lsC false y t ly) → Calls Tryz.prog 27 #[.pointer (some ⟨du, 0, none⟩), .int .i64 (lsK false), .slice ady ly cay, .slice adt ly cat] W fun e w' => ∃ v', e = .returned (.tuple #[v', .int .i64 0]) ∧ Ar w' v' ly (slX false y t) ∧ Ow W.heap.size v' ∧ Un du (0 + lsC false y t ly + slC false y t ly) W w') := fun W hb h => V3.slopeU false _ _ ly y t du _ W (by omega) (by omega) (by omega) (HAll.out.1.later hb) (HAll.out.2.later hb) (nYu du hdu0) (nTu du hdu0) h (hV.later hb)
          rw [hK] at CF HLs HSl HSu
          generalize 0 + lsC false y t ly = c1 at *
          generalize c1 + slC false y t ly = c2 at *
          generalize lsX false y t ly = gx at *
          generalize slX false y t = G at *
          clear hYu hTu nYu nTu hK hr1
          go_wp2_with fail
          refine CF.mono ?_
          rintro e w6 ⟨rfl, hU6⟩
          have HL6 : Hid (L2 w du dv c1 0 w6) := HL5.out.unu hU6 hdu0 hne
          clear CF hU6 HL5
          go_upto_region 13 with fail
          have HL7 : Hid (L2 w du dv c1 0 w6.drew) := HL6.out.later (Below.refl _ _).drew
          refine wp_region_held_drew (S := fun W' => True) (by kernel_rfl) trivial (fun HS => ?_)
          clear HL6
          generalize w6.drew = w7 at *
          refine wpAnyH_take (i := 0) (v := ?v37) rfl (by kernel_rfl) (by kernel_rfl) (by kernel_rfl) (fun _ _ _ h => h) (Or.inl ⟨by kernel_rfl, ?h37⟩) HS ?r37
          case h37 => (rintro w s1; go_simp) <;> with_reducible rfl
          try simp only [Act.put, List.getElem_toArray, List.getElem_cons_succ, List.getElem_cons_zero, List.setIfInBounds_toArray, List.set_cons_zero, List.set_cons_succ]
          refine wpAnyH_take (i := 1) (v := ?v38) rfl (by kernel_rfl) (by kernel_rfl) (by kernel_rfl) (fun _ _ _ h => h) (Or.inl ⟨by kernel_rfl, ?h38⟩) HS ?r38
          case h38 => (rintro w s1; go_simp) <;> with_reducible rfl
          try simp only [Act.put, List.getElem_toArray, List.getElem_cons_succ, List.getElem_cons_zero, List.setIfInBounds_toArray, List.set_cons_zero, List.set_cons_succ]
          refine wpAnyH_take (i := 2) (v := ?v39) rfl (by kernel_rfl) (by kernel_rfl) (by kernel_rfl) (fun _ _ _ h => h) (Or.inl ⟨by kernel_rfl, ?h39⟩) HS ?r39
          case h39 => (rintro w s1; go_simp) <;> with_reducible rfl
          try simp only [Act.put, List.getElem_toArray, List.getElem_cons_succ, List.getElem_cons_zero, List.setIfInBounds_toArray, List.set_cons_zero, List.set_cons_succ]
          refine wpAnyH_take (i := 3) (v := ?v40) rfl (by kernel_rfl) (by kernel_rfl) (by kernel_rfl) (fun _ _ _ h => h) (Or.inl ⟨by kernel_rfl, ?h40⟩) HS ?r40
          case h40 => (rintro w s1; go_simp) <;> with_reducible rfl
          try simp only [Act.put, List.getElem_toArray, List.getElem_cons_succ, List.getElem_cons_zero, List.setIfInBounds_toArray, List.set_cons_zero, List.set_cons_succ]
          refine wpAnyH_take (i := 4) (v := ?v41) rfl (by kernel_rfl) (by kernel_rfl) (by kernel_rfl) (fun _ _ _ h => h) (Or.inl ⟨by kernel_rfl, ?h41⟩) HS ?r41
          case h41 => (rintro w s1; go_simp) <;> with_reducible rfl
          try simp only [Act.put, List.getElem_toArray, List.getElem_cons_succ, List.getElem_cons_zero, List.setIfInBounds_toArray, List.set_cons_zero, List.set_cons_succ]
          refine wpAnyH_take (i := 5) (v := ?v42) rfl (by kernel_rfl) (by kernel_rfl) (by kernel_rfl) (fun _ _ _ h => h) (Or.inl ⟨by kernel_rfl, ?h42⟩) HS ?r42
          case h42 => (rintro w s1; go_simp) <;> with_reducible rfl
          try simp only [Act.put, List.getElem_toArray, List.getElem_cons_succ, List.getElem_cons_zero, List.setIfInBounds_toArray, List.set_cons_zero, List.set_cons_succ]
          refine wpAnyH_take (i := 6) (v := ?v43) rfl (by kernel_rfl) (by kernel_rfl) (by kernel_rfl) (fun _ _ _ h => h) (Or.inl ⟨by kernel_rfl, ?h43⟩) HS ?r43
          case h43 => (rintro w s1; go_simp) <;> with_reducible rfl
          try simp only [Act.put, List.getElem_toArray, List.getElem_cons_succ, List.getElem_cons_zero, List.setIfInBounds_toArray, List.set_cons_zero, List.set_cons_succ]
          refine wpAnyH_take (i := 8) (v := ?v44) rfl (by kernel_rfl) (by kernel_rfl) (by kernel_rfl) (fun _ _ _ h => h) (Or.inl ⟨by kernel_rfl, ?h44⟩) HS ?r44
          case h44 => (rintro w s1; go_simp) <;> with_reducible rfl
          try simp only [Act.put, List.getElem_toArray, List.getElem_cons_succ, List.getElem_cons_zero, List.setIfInBounds_toArray, List.set_cons_zero, List.set_cons_succ]
          refine wpAnyH_ready (rs := [7]) (by kernel_rfl) (by simp) ?_
          refine AllReadyH.cons rfl (fun K hK => ?_) AllReadyH.nil
          go_simp
          refine (HPy.out _ HL7.out.B).mono ?_
          rintro e w9 ⟨v9, rfl, hA9, hO9, hb9⟩
          refine hK.out _ _ trivial (fun HS => ?_)
          clear hK K
          have HL9 : Hid (L2 w du dv c1 0 w9) := HL7.out.later hb9
          have N9 : Hid (Ar w9 v9 ly y ∧ Nb v9 dv) := ⟨hA9, hO9.nb (World.block_lt_of_cell? _ _ HL7.out.v.1)⟩
          clear HL7 hb9 hA9 hO9
          refine wpAnyH_ready (rs := [9]) (by kernel_rfl) (by simp) ?_
          refine AllReadyH.cons rfl (fun K hK => ?_) AllReadyH.nil
          go_simp
          refine (HPt.out _ HL9.out.B).mono ?_
          rintro e w10 ⟨v10, rfl, hA10, hO10, hb10⟩
          refine hK.out _ _ trivial (fun HS => ?_)
          clear hK K
          have HL10 : Hid (L2 w du dv c1 0 w10) := HL9.out.later hb10
          have CV := HLs.out w10 v9 v10 (N9.out.1.later hb10) hA10 N9.out.2 (hO10.nb (World.block_lt_of_cell? _ _ HL9.out.v.1)) HL10.out.v
          clear HL9 N9 hb10 hA10 hO10 HLs
          refine wpAnyH_ready (rs := [10]) (by kernel_rfl) (by simp) ?_
          refine AllReadyH.cons rfl (fun K hK => ?_) AllReadyH.nil
          go_simp
          refine CV.mono ?_
          rintro e w11 ⟨rfl, hU11⟩
          refine hK.out _ _ trivial (fun HS => ?_)
          clear hK K HS
          have HL11 : Hid (L2 w du dv c1 c1 w11) := HL10.out.unv hU11 hdv0 hne
          clear CV HL10 hU11
          refine wpAnyH_turn (S' := fun W' => W'.cell? ⟨dv, 0, none⟩ = some (.int .i64 c1)) (fun _ _ => trivial) _ _ _ _ ?_
          have HS := HL11.out.v.1
          refine wpAnyH_take (i := 11) (v := ?v45) rfl (by kernel_rfl) (by kernel_rfl) (by kernel_rfl) (fun _ _ _ h => h) (Or.inl ⟨by kernel_rfl, ?h45⟩) HS ?r45
          case h45 => (rintro w s1; go_simp) <;> with_reducible rfl
          try simp only [Act.put, List.getElem_toArray, List.getElem_cons_succ, List.getElem_cons_zero, List.setIfInBounds_toArray, List.set_cons_zero, List.set_cons_succ]
          refine wpAnyH_take (i := 12) (v := ?v46) rfl (by kernel_rfl) (by kernel_rfl) (by kernel_rfl) (fun _ _ _ h => h) (Or.inl ⟨by kernel_rfl, ?h46⟩) HS ?r46
          case h46 => (rintro w s1; go_simp) <;> with_reducible rfl
          try simp only [Act.put, List.getElem_toArray, List.getElem_cons_succ, List.getElem_cons_zero, List.setIfInBounds_toArray, List.set_cons_zero, List.set_cons_succ]
          refine wpAnyH_take (i := 13) (v := ?v47) rfl (by kernel_rfl) (by kernel_rfl) (by kernel_rfl) (fun _ _ _ h => h) (Or.inl ⟨by kernel_rfl, ?h47⟩) HS ?r47
          case h47 => (rintro w s1; go_simp) <;> with_reducible rfl
          try simp only [Act.put, List.getElem_toArray, List.getElem_cons_succ, List.getElem_cons_zero, List.setIfInBounds_toArray, List.set_cons_zero, List.set_cons_succ]
          refine wpAnyH_take (i := 14) (v := ?v48) rfl (by kernel_rfl) (by kernel_rfl) (by kernel_rfl) (fun _ _ _ h => h) (Or.inl ⟨by kernel_rfl, ?h48⟩) HS ?r48
          case h48 => (rintro w s1; go_simp) <;> with_reducible rfl
          try simp only [Act.put, List.getElem_toArray, List.getElem_cons_succ, List.getElem_cons_zero, List.setIfInBounds_toArray, List.set_cons_zero, List.set_cons_succ]
          refine wpAnyH_take (i := 16) (v := ?v49) rfl (by kernel_rfl) (by kernel_rfl) (by kernel_rfl) (fun _ _ _ h => h) (Or.inl ⟨by kernel_rfl, ?h49⟩) HS ?r49
          case h49 => (rintro w s1; go_simp) <;> with_reducible rfl
          try simp only [Act.put, List.getElem_toArray, List.getElem_cons_succ, List.getElem_cons_zero, List.setIfInBounds_toArray, List.set_cons_zero, List.set_cons_succ]
          refine wpAnyH_take (i := 17) (v := ?v50) rfl (by kernel_rfl) (by kernel_rfl) (by kernel_rfl) (fun _ _ _ h => h) (Or.inl ⟨by kernel_rfl, ?h50⟩) HS ?r50
          case h50 => (rintro w s1; go_simp) <;> with_reducible rfl
          try simp only [Act.put, List.getElem_toArray, List.getElem_cons_succ, List.getElem_cons_zero, List.setIfInBounds_toArray, List.set_cons_zero, List.set_cons_succ]
          refine wpAnyH_take (i := 18) (v := ?v51) rfl (by kernel_rfl) (by kernel_rfl) (by kernel_rfl) (fun _ _ _ h => h) (Or.inl ⟨by kernel_rfl, ?h51⟩) HS ?r51
          case h51 => (rintro w s1; go_simp) <;> with_reducible rfl
          try simp only [Act.put, List.getElem_toArray, List.getElem_cons_succ, List.getElem_cons_zero, List.setIfInBounds_toArray, List.set_cons_zero, List.set_cons_succ]
          refine wpAnyH_take (i := 19) (v := ?v52) rfl (by kernel_rfl) (by kernel_rfl) (by kernel_rfl) (fun _ _ _ h => h) (Or.inl ⟨by kernel_rfl, ?h52⟩) HS ?r52
          case h52 => (rintro w s1; go_simp) <;> with_reducible rfl
          try simp only [Act.put, List.getElem_toArray, List.getElem_cons_succ, List.getElem_cons_zero, List.setIfInBounds_toArray, List.set_cons_zero, List.set_cons_succ]
          refine wpAnyH_ready (rs := [15]) (by kernel_rfl) (by simp) ?_
          refine AllReadyH.cons rfl (fun K hK => ?_) AllReadyH.nil
          go_simp
          refine (count_any du c1 w11 HL11.out.u.1).mono ?_
          rintro e w12 ⟨rfl, rfl⟩
          refine hK.out _ _ HS (fun HS => ?_)
          clear hK K
          refine wpAnyH_take (i := 20) (v := ?v53) rfl (by kernel_rfl) (by kernel_rfl) (by kernel_rfl) (fun _ _ _ h => h) (Or.inl ⟨by kernel_rfl, ?h53⟩) HS ?r53
          case h53 => (rintro w s1; go_simp) <;> with_reducible rfl
          try simp only [Act.put, List.getElem_toArray, List.getElem_cons_succ, List.getElem_cons_zero, List.setIfInBounds_toArray, List.set_cons_zero, List.set_cons_succ]
          refine wpAnyH_take (i := 21) (v := ?v54) rfl (by kernel_rfl) (by kernel_rfl) (by kernel_rfl) (fun _ _ _ h => h) (Or.inl ⟨by kernel_rfl, ?h54⟩) HS ?r54
          case h54 => (rintro w s1; go_simp) <;> with_reducible rfl
          try simp only [Act.put, List.getElem_toArray, List.getElem_cons_succ, List.getElem_cons_zero, List.setIfInBounds_toArray, List.set_cons_zero, List.set_cons_succ]
          refine wpAnyH_done (by kernel_rfl) ?_ _
          clear HS
          have CU := HSu.out w12 HL11.out.B HL11.out.u
          go_wp2_with fail
          refine CU.mono ?_
          rintro e w13 ⟨v13, rfl, hA13, hO13, hU13⟩
          have HL13 : Hid (L2 w du dv c2 c1 w13) := HL11.out.unu hU13 hdu0 hne
          have CP := fun hb => plain7_any v13 ly G (by omega) w13.drew (hA13.later hb)
          clear CU HL11 hU13 hA13 hO13 HSu
          go_upto_region 16 with fail
          have hbD : Below w13.heap.size w13 w13.drew := (Below.refl _ _).drew
          have HL14 : Hid (L2 w du dv c2 c1 w13.drew) := HL13.out.later hbD
          have CQ := CP hbD
          refine wp_region_held_drew (S := fun W' => True) (by kernel_rfl) trivial (fun HS => ?_)
          clear HL13 hbD CP
          generalize w13.drew = w14 at *
          refine wpAnyH_take (i := 0) (v := ?v55) rfl (by kernel_rfl) (by kernel_rfl) (by kernel_rfl) (fun _ _ _ h => h) (Or.inl ⟨by kernel_rfl, ?h55⟩) HS ?r55
          case h55 => (rintro w s1; go_simp) <;> with_reducible rfl
          try simp only [Act.put, List.getElem_toArray, List.getElem_cons_succ, List.getElem_cons_zero, List.setIfInBounds_toArray, List.set_cons_zero, List.set_cons_succ]
          refine wpAnyH_take (i := 1) (v := ?v56) rfl (by kernel_rfl) (by kernel_rfl) (by kernel_rfl) (fun _ _ _ h => h) (Or.inl ⟨by kernel_rfl, ?h56⟩) HS ?r56
          case h56 => (rintro w s1; go_simp) <;> with_reducible rfl
          try simp only [Act.put, List.getElem_toArray, List.getElem_cons_succ, List.getElem_cons_zero, List.setIfInBounds_toArray, List.set_cons_zero, List.set_cons_succ]
          refine wpAnyH_take (i := 2) (v := ?v57) rfl (by kernel_rfl) (by kernel_rfl) (by kernel_rfl) (fun _ _ _ h => h) (Or.inl ⟨by kernel_rfl, ?h57⟩) HS ?r57
          case h57 => (rintro w s1; go_simp) <;> with_reducible rfl
          try simp only [Act.put, List.getElem_toArray, List.getElem_cons_succ, List.getElem_cons_zero, List.setIfInBounds_toArray, List.set_cons_zero, List.set_cons_succ]
          refine wpAnyH_take (i := 3) (v := ?v58) rfl (by kernel_rfl) (by kernel_rfl) (by kernel_rfl) (fun _ _ _ h => h) (Or.inl ⟨by kernel_rfl, ?h58⟩) HS ?r58
          case h58 => (rintro w s1; go_simp) <;> with_reducible rfl
          try simp only [Act.put, List.getElem_toArray, List.getElem_cons_succ, List.getElem_cons_zero, List.setIfInBounds_toArray, List.set_cons_zero, List.set_cons_succ]
          refine wpAnyH_take (i := 5) (v := ?v59) rfl (by kernel_rfl) (by kernel_rfl) (by kernel_rfl) (fun _ _ _ h => h) (Or.inl ⟨by kernel_rfl, ?h59⟩) HS ?r59
          case h59 => (rintro w s1; go_simp) <;> with_reducible rfl
          try simp only [Act.put, List.getElem_toArray, List.getElem_cons_succ, List.getElem_cons_zero, List.setIfInBounds_toArray, List.set_cons_zero, List.set_cons_succ]
          refine wpAnyH_take (i := 6) (v := ?v60) rfl (by kernel_rfl) (by kernel_rfl) (by kernel_rfl) (fun _ _ _ h => h) (Or.inl ⟨by kernel_rfl, ?h60⟩) HS ?r60
          case h60 => (rintro w s1; go_simp) <;> with_reducible rfl
          try simp only [Act.put, List.getElem_toArray, List.getElem_cons_succ, List.getElem_cons_zero, List.setIfInBounds_toArray, List.set_cons_zero, List.set_cons_succ]
          refine wpAnyH_take (i := 7) (v := ?v61) rfl (by kernel_rfl) (by kernel_rfl) (by kernel_rfl) (fun _ _ _ h => h) (Or.inl ⟨by kernel_rfl, ?h61⟩) HS ?r61
          case h61 => (rintro w s1; go_simp) <;> with_reducible rfl
          try simp only [Act.put, List.getElem_toArray, List.getElem_cons_succ, List.getElem_cons_zero, List.setIfInBounds_toArray, List.set_cons_zero, List.set_cons_succ]
          refine wpAnyH_take (i := 9) (v := ?v62) rfl (by kernel_rfl) (by kernel_rfl) (by kernel_rfl) (fun _ _ _ h => h) (Or.inl ⟨by kernel_rfl, ?h62⟩) HS ?r62
          case h62 => (rintro w s1; go_simp) <;> with_reducible rfl
          try simp only [Act.put, List.getElem_toArray, List.getElem_cons_succ, List.getElem_cons_zero, List.setIfInBounds_toArray, List.set_cons_zero, List.set_cons_succ]
          refine wpAnyH_ready (rs := [4]) (by kernel_rfl) (by simp) ?_
          refine AllReadyH.cons rfl (fun K hK => ?_) AllReadyH.nil
          go_simp
          refine CQ.mono ?_
          rintro e w15 ⟨v15, rfl, hA15, hO15, hb15⟩
          refine hK.out _ _ trivial (fun HS => ?_)
          clear hK K
          have HL15 : Hid (L2 w du dv c2 c1 w15) := HL14.out.later hb15
          have N15 : Hid (Ar w15 v15 ly G ∧ Nb v15 dv) := ⟨hA15, hO15.nb (World.block_lt_of_cell? _ _ HL14.out.v.1)⟩
          clear HL14 hb15 hA15 hO15 CQ
          refine wpAnyH_ready (rs := [8]) (by kernel_rfl) (by simp) ?_
          refine AllReadyH.cons rfl (fun K hK => ?_) AllReadyH.nil
          go_simp
          refine (HPy.out _ HL15.out.B).mono ?_
          rintro e w16 ⟨v16, rfl, hA16, hO16, hb16⟩
          refine hK.out _ _ trivial (fun HS => ?_)
          clear hK K
          have HL16 : Hid (L2 w du dv c2 c1 w16) := HL15.out.later hb16
          have N16 : Hid ((Ar w16 v15 ly G ∧ Nb v15 dv) ∧ Ar w16 v16 ly y ∧ Nb v16 dv) := ⟨⟨N15.out.1.later hb16, N15.out.2⟩, hA16, hO16.nb (World.block_lt_of_cell? _ _ HL15.out.v.1)⟩
          clear HL15 N15 hb16 hA16 hO16 HPy
          refine wpAnyH_ready (rs := [10]) (by kernel_rfl) (by simp) ?_
          refine AllReadyH.cons rfl (fun K hK => ?_) AllReadyH.nil
          go_simp
          refine (HPt.out _ HL16.out.B).mono ?_
          rintro e w17 ⟨v17, rfl, hA17, hO17, hb17⟩
          refine hK.out _ _ trivial (fun HS => ?_)
          clear hK K
          have HL17 : Hid (L2 w du dv c2 c1 w17) := HL16.out.later hb17
          have N17 : Hid (Ar w17 v15 ly G ∧ Nb v15 dv) := ⟨N16.out.1.1.later hb17, N16.out.1.2⟩
          have CW := HSl.out w17 v16 v17 (N16.out.2.1.later hb17) hA17 N16.out.2.2 (hO17.nb (World.block_lt_of_cell? _ _ HL16.out.v.1)) HL17.out.v
          clear HL16 N16 hb17 hA17 hO17 HSl HPt
          refine wpAnyH_ready (rs := [11]) (by kernel_rfl) (by simp) ?_
          refine AllReadyH.cons rfl (fun K hK => ?_) AllReadyH.nil
          go_simp
          refine CW.mono ?_
          rintro e w18 ⟨v18, rfl, hA18, hO18, hU18⟩
          refine hK.out _ _ trivial (fun HS => ?_)
          clear hK K
          have HL18 : Hid (L2 w du dv c2 c2 w18) := HL17.out.unv hU18 hdv0 hne
          have CS := same_yes _ _ _ _ (by omega) w18 (N17.out.1.un N17.out.2 hU18) hA18
          clear CW HL17 N17 hU18 hA18 hO18
          refine wpAnyH_ready (rs := [12]) (by kernel_rfl) (by simp) ?_
          refine AllReadyH.cons rfl (fun K hK => ?_) AllReadyH.nil
          go_simp
          refine CS.mono ?_
          rintro e w19 ⟨rfl, hb19⟩
          refine hK.out _ _ trivial (fun HS => ?_)
          clear hK K HS
          have HL19 : Hid (L2 w du dv c2 c2 w19) := HL18.out.later hb19
          clear CS HL18 hb19
          refine wpAnyH_turn (S' := fun W' => W'.cell? ⟨dv, 0, none⟩ = some (.int .i64 c2)) (fun _ _ => trivial) _ _ _ _ ?_
          have HS := HL19.out.v.1
          refine wpAnyH_take (i := 13) (v := ?v63) rfl (by kernel_rfl) (by kernel_rfl) (by kernel_rfl) (fun _ _ _ h => h) (Or.inl ⟨by kernel_rfl, ?h63⟩) HS ?r63
          case h63 => (rintro w s1; go_simp) <;> with_reducible rfl
          try simp only [Act.put, List.getElem_toArray, List.getElem_cons_succ, List.getElem_cons_zero, List.setIfInBounds_toArray, List.set_cons_zero, List.set_cons_succ]
          refine wpAnyH_take (i := 14) (v := ?v64) rfl (by kernel_rfl) (by kernel_rfl) (by kernel_rfl) (fun _ _ _ h => h) (Or.inl ⟨by kernel_rfl, ?h64⟩) HS ?r64
          case h64 => (rintro w s1; go_simp) <;> with_reducible rfl
          try simp only [Act.put, List.getElem_toArray, List.getElem_cons_succ, List.getElem_cons_zero, List.setIfInBounds_toArray, List.set_cons_zero, List.set_cons_succ]
          refine wpAnyH_take (i := 15) (v := ?v65) rfl (by kernel_rfl) (by kernel_rfl) (by kernel_rfl) (fun _ _ _ h => h) (Or.inl ⟨by kernel_rfl, ?h65⟩) HS ?r65
          case h65 => (rintro w s1; go_simp) <;> with_reducible rfl
          try simp only [Act.put, List.getElem_toArray, List.getElem_cons_succ, List.getElem_cons_zero, List.setIfInBounds_toArray, List.set_cons_zero, List.set_cons_succ]
          refine wpAnyH_take (i := 17) (v := ?v66) rfl (by kernel_rfl) (by kernel_rfl) (by kernel_rfl) (fun _ _ _ h => h) (Or.inl ⟨by kernel_rfl, ?h66⟩) HS ?r66
          case h66 => (rintro w s1; go_simp) <;> with_reducible rfl
          try simp only [Act.put, List.getElem_toArray, List.getElem_cons_succ, List.getElem_cons_zero, List.setIfInBounds_toArray, List.set_cons_zero, List.set_cons_succ]
          refine wpAnyH_take (i := 18) (v := ?v67) rfl (by kernel_rfl) (by kernel_rfl) (by kernel_rfl) (fun _ _ _ h => h) (Or.inl ⟨by kernel_rfl, ?h67⟩) HS ?r67
          case h67 => (rintro w s1; go_simp) <;> with_reducible rfl
          try simp only [Act.put, List.getElem_toArray, List.getElem_cons_succ, List.getElem_cons_zero, List.setIfInBounds_toArray, List.set_cons_zero, List.set_cons_succ]
          refine wpAnyH_take (i := 19) (v := ?v68) rfl (by kernel_rfl) (by kernel_rfl) (by kernel_rfl) (fun _ _ _ h => h) (Or.inl ⟨by kernel_rfl, ?h68⟩) HS ?r68
          case h68 => (rintro w s1; go_simp) <;> with_reducible rfl
          try simp only [Act.put, List.getElem_toArray, List.getElem_cons_succ, List.getElem_cons_zero, List.setIfInBounds_toArray, List.set_cons_zero, List.set_cons_succ]
          refine wpAnyH_take (i := 20) (v := ?v69) rfl (by kernel_rfl) (by kernel_rfl) (by kernel_rfl) (fun _ _ _ h => h) (Or.inl ⟨by kernel_rfl, ?h69⟩) HS ?r69
          case h69 => (rintro w s1; go_simp) <;> with_reducible rfl
          try simp only [Act.put, List.getElem_toArray, List.getElem_cons_succ, List.getElem_cons_zero, List.setIfInBounds_toArray, List.set_cons_zero, List.set_cons_succ]
          refine wpAnyH_ready (rs := [16]) (by kernel_rfl) (by simp) ?_
          refine AllReadyH.cons rfl (fun K hK => ?_) AllReadyH.nil
          go_simp
          refine (count_any du c2 w19 HL19.out.u.1).mono ?_
          rintro e w20 ⟨rfl, rfl⟩
          refine hK.out _ _ HS (fun HS => ?_)
          clear hK K
          refine wpAnyH_take (i := 21) (v := ?v70) rfl (by kernel_rfl) (by kernel_rfl) (by kernel_rfl) (fun _ _ _ h => h) (Or.inl ⟨by kernel_rfl, ?h70⟩) HS ?r70
          case h70 => (rintro w s1; go_simp) <;> with_reducible rfl
          try simp only [Act.put, List.getElem_toArray, List.getElem_cons_succ, List.getElem_cons_zero, List.setIfInBounds_toArray, List.set_cons_zero, List.set_cons_succ]
          refine wpAnyH_take (i := 22) (v := ?v71) rfl (by kernel_rfl) (by kernel_rfl) (by kernel_rfl) (fun _ _ _ h => h) (Or.inl ⟨by kernel_rfl, ?h71⟩) HS ?r71
          case h71 => (rintro w s1; go_simp) <;> with_reducible rfl
          try simp only [Act.put, List.getElem_toArray, List.getElem_cons_succ, List.getElem_cons_zero, List.setIfInBounds_toArray, List.set_cons_zero, List.set_cons_succ]
          refine wpAnyH_take (i := 23) (v := ?v72) rfl (by kernel_rfl) (by kernel_rfl) (by kernel_rfl) (fun _ _ _ h => h) (Or.inl ⟨by kernel_rfl, ?h72⟩) HS ?r72
          case h72 => (rintro w s1; go_simp) <;> with_reducible rfl
          try simp only [Act.put, List.getElem_toArray, List.getElem_cons_succ, List.getElem_cons_zero, List.setIfInBounds_toArray, List.set_cons_zero, List.set_cons_succ]
          refine wpAnyH_done (by kernel_rfl) ?_ _
          clear HS
          go_wp2
          go_ret
          exact ⟨rfl, HL19.out.B⟩
      · have hq1 : ¬ (ly : Int) = (lt : Int) := by omega
        have hq2 : ((ly : Int) != (lt : Int)) = true := by simp [hq1]
        have hno : ∀ L' : Int, ¬ ((L' = 1 ∨ L' = 2) ∧ ly = lt) := fun _ h => hq h.2
        rcases hL with rfl | rfl
        · skip
          have hE : (if (1 : Int) = 1 ∨ (1 : Int) = 2 then (40 : Int) else 71) = 40 := rfl
          have CF := V3.lossE 1 _ _ ly lt y t du 0 w5 (by omega) (by omega) hYu hTu (hno _) HL5.out.u (hV.later HL5.out.B)
          have HSu : Hid (∀ (W : World), Below w.heap.size w W → Uc W du 0 → Calls Tryz.prog 27 #[.pointer (some ⟨du, 0, none⟩), .int .i64 1, .slice ady ly cay, .slice adt lt cat] W fun e w' => ∃ v', e = .returned (.tuple #[v', .int .i64 (if (1 : Int) = 1 ∨ (1 : Int) = 2 then 40 else 71)]) ∧ Emp v' ∧ Un du 0 W w') := fun W hb h => V3.slopeE 1 _ _ ly lt y t du 0 W (by omega) (by omega) (HAll.out.1.later hb) (HAll.out.2.later hb) (hno _) h (hV.later hb)
          rw [hE] at CF HSu
          clear hE hYu hTu nYu nTu
          go_wp2_with fail
          refine CF.mono ?_
          rintro e w6 ⟨rfl, hU6⟩
          have HL6 : Hid (L2 w du dv 0 0 w6) := HL5.out.unu hU6 hdu0 hne
          have CU := HSu.out w6 HL6.out.B HL6.out.u
          clear CF hU6 HL5 HSu
          go_wp2_with fail
          refine CU.mono ?_
          rintro e w7 ⟨v7, rfl, ⟨ad7, ca7, rfl⟩, hU7⟩
          have HL7 : Hid (L2 w du dv 0 0 w7) := HL6.out.unu hU7 hdu0 hne
          have CCn := count_any du 0 w7 HL7.out.u.1
          clear CU hU7 HL6
          go_wp2_with fail
          refine CCn.mono ?_
          rintro e w8 ⟨rfl, rfl⟩
          go_wp2
          go_ret
          exact ⟨rfl, HL7.out.B⟩
        · skip
          have hE : (if (2 : Int) = 1 ∨ (2 : Int) = 2 then (40 : Int) else 71) = 40 := rfl
          have CF := V3.lossE 2 _ _ ly lt y t du 0 w5 (by omega) (by omega) hYu hTu (hno _) HL5.out.u (hV.later HL5.out.B)
          have HSu : Hid (∀ (W : World), Below w.heap.size w W → Uc W du 0 → Calls Tryz.prog 27 #[.pointer (some ⟨du, 0, none⟩), .int .i64 2, .slice ady ly cay, .slice adt lt cat] W fun e w' => ∃ v', e = .returned (.tuple #[v', .int .i64 (if (2 : Int) = 1 ∨ (2 : Int) = 2 then 40 else 71)]) ∧ Emp v' ∧ Un du 0 W w') := fun W hb h => V3.slopeE 2 _ _ ly lt y t du 0 W (by omega) (by omega) (HAll.out.1.later hb) (HAll.out.2.later hb) (hno _) h (hV.later hb)
          rw [hE] at CF HSu
          clear hE hYu hTu nYu nTu
          go_wp2_with fail
          refine CF.mono ?_
          rintro e w6 ⟨rfl, hU6⟩
          have HL6 : Hid (L2 w du dv 0 0 w6) := HL5.out.unu hU6 hdu0 hne
          have CU := HSu.out w6 HL6.out.B HL6.out.u
          clear CF hU6 HL5 HSu
          go_wp2_with fail
          refine CU.mono ?_
          rintro e w7 ⟨v7, rfl, ⟨ad7, ca7, rfl⟩, hU7⟩
          have HL7 : Hid (L2 w du dv 0 0 w7) := HL6.out.unu hU7 hdu0 hne
          have CCn := count_any du 0 w7 HL7.out.u.1
          clear CU hU7 HL6
          go_wp2_with fail
          refine CCn.mono ?_
          rintro e w8 ⟨rfl, rfl⟩
          go_wp2
          go_ret
          exact ⟨rfl, HL7.out.B⟩
    · have hL1 : ¬ L = 1 := fun h => hL (Or.inl h)
      have hL2 : ¬ L = 2 := fun h => hL (Or.inr h)
      have hL3 : (L != 1) = true := by simp [hL1]
      have hL4 : (L != 2) = true := by simp [hL2]
      have hE : (if (L : Int) = 1 ∨ (L : Int) = 2 then (40 : Int) else 71) = 71 := if_neg hL
      have CF := V3.lossE L _ _ ly lt y t du 0 w5 (by omega) (by omega) hYu hTu (fun h => hL h.1) HL5.out.u (hV.later HL5.out.B)
      have HSu : Hid (∀ (W : World), Below w.heap.size w W → Uc W du 0 → Calls Tryz.prog 27 #[.pointer (some ⟨du, 0, none⟩), .int .i64 L, .slice ady ly cay, .slice adt lt cat] W fun e w' => ∃ v', e = .returned (.tuple #[v', .int .i64 (if (L : Int) = 1 ∨ (L : Int) = 2 then 40 else 71)]) ∧ Emp v' ∧ Un du 0 W w') := fun W hb h => V3.slopeE L _ _ ly lt y t du 0 W (by omega) (by omega) (HAll.out.1.later hb) (HAll.out.2.later hb) (fun h => hL h.1) h (hV.later hb)
      rw [hE] at CF HSu
      clear hE hYu hTu nYu nTu
      go_wp2_with fail
      refine CF.mono ?_
      rintro e w6 ⟨rfl, hU6⟩
      have HL6 : Hid (L2 w du dv 0 0 w6) := HL5.out.unu hU6 hdu0 hne
      have CU := HSu.out w6 HL6.out.B HL6.out.u
      clear CF hU6 HL5 HSu
      go_wp2_with fail
      refine CU.mono ?_
      rintro e w7 ⟨v7, rfl, ⟨ad7, ca7, rfl⟩, hU7⟩
      have HL7 : Hid (L2 w du dv 0 0 w7) := HL6.out.unu hU7 hdu0 hne
      have CCn := count_any du 0 w7 HL7.out.u.1
      clear CU hU7 HL6
      go_wp2_with fail
      refine CCn.mono ?_
      rintro e w8 ⟨rfl, rfl⟩
      go_wp2
      go_ret
      exact ⟨rfl, HL7.out.B⟩
  · have hsh : shB ns 2 = false := by
      by_cases h0 : ly ≤ 100
      · exact shB_no _ _ 1 (by omega) (by rw [hn1]; omega)
      · exact shB_no _ _ 0 (by omega) (by rw [hn0]; omega)
    rw [hsh]
    clear hsh hn0 hn1
    go_wp2
    go_ret
    exact ⟨rfl, HB4.out⟩
end Go.Proofs.YtdfjnbkkdgolnaaGreatDoor
set_option linter.unusedVariables false
set_option linter.unusedSimpArgs false
namespace Go.Proofs.YtdfjnbkkdgolnaaGreatDoor
open Go.RowKit

set_option maxHeartbeats 1000000 in
theorem tooLong_any (a : Option Addr) (n c : Nat) (hn : n ≤ maxLen) (w : World) :
    Calls Tryz.prog 114 #[.slice a n c] w fun e w' => e = .returned (.bool (decide (65536 < n))) ∧ w' = w := by
  unfold maxLen at hn
  by_cases h : 65536 < n
  · have h1 : (65536 : Int) < (n : Int) := by omega
    rw [decide_eq_true h]
    clear h
    go_enter Tryz.func114, Tryz.ntmps114
    go_wp2
    go_ret
    exact ⟨rfl, rfl⟩
  · have h1 : ¬ (65536 : Int) < (n : Int) := by omega
    rw [decide_eq_false h]
    clear h
    go_enter Tryz.func114, Tryz.ntmps114
    go_wp2
    go_ret
    exact ⟨rfl, rfl⟩
/-- Whether one of so many vectors is too long. -/
def longB (ns : Nat → Nat) (m : Nat) : Bool := (List.range m).any (fun k => decide (65536 < ns k))
theorem longB_yes (ns : Nat → Nat) (m k : Nat) (hk : k < m) (h : 65536 < ns k) : longB ns m = true :=
  List.any_eq_true.2 ⟨k, List.mem_range.2 hk, decide_eq_true h⟩
theorem longB_no (ns : Nat → Nat) (m : Nat) (h : ∀ k, k < m → ¬ 65536 < ns k) : longB ns m = false := by
  rw [Bool.eq_false_iff]
  intro e
  obtain ⟨k, hk, h2⟩ := List.any_eq_true.1 e
  exact h k (List.mem_range.1 hk) (of_decide_eq_true h2)
/-- A list of lists: where each is, and how long. -/
def Hs (w : World) (v : Value) (m : Nat) (ns : Nat → Nat) : Prop :=
  ∃ (adr : Option Addr) (cap g o : Nat), v = .slice adr m cap ∧ m ≤ cap ∧ cap ≤ maxLen ∧ (0 < m → adr = some ⟨g, o, none⟩) ∧ ∀ k, k < m → ns k ≤ maxLen ∧ ∃ (ad : Option Addr) (ca : Nat), w.cell? ⟨g, o + k, none⟩ = some (.slice ad (ns k) ca)
set_option maxRecDepth 100000 in
set_option maxHeartbeats 2000000 in
theorem index_any (v : Value) (m : Nat) (ns : Nat → Nat) (w : World) (hH : Hs w v m ns) :
    Calls Tryz.prog 136 #[v, .func (.func 114) #[] #[]] w fun e w' => ∃ i : Int, e = .returned (.int .i64 i) ∧ (longB ns m = true → 0 ≤ i) ∧ (longB ns m = false → i < 0) ∧ w' = w := by
  obtain ⟨adr, cap, g, o, rfl, k1, k2, k3, k4⟩ := hH
  unfold maxLen at k2
  have HC : Hid (∀ k, k < m → ns k ≤ maxLen ∧ ∃ (ad : Option Addr) (ca : Nat), w.cell? ⟨g, o + k, none⟩ = some (.slice ad (ns k) ca)) := k4
  have HK : Hid (0 < m → adr = some ⟨g, o, none⟩) := k3
  clear k3 k4
  go_enter Tryz.func136, Tryz.ntmps136
  go_wp2
  go_loopw [8] (fun s8 wr => ∃ j : Nat, j ≤ m ∧ s8 = .int .i64 (j : Int) ∧ Hid (∀ k, k < j → ¬ 65536 < ns k) ∧ wr = w) (fun s8 _ => m - (intOf s8).toNat)
  case atStart => exact ⟨0, by omega, rfl, fun k hk => by omega, rfl⟩
  case round =>
    obtain ⟨j, hj, rfl, hA, rfl⟩ := hrel
    by_cases hlt : j < m
    · have hjI : (j : Int) < (m : Int) := by omega
      have ea := HK.out (by omega)
      subst ea
      obtain ⟨hl, ad, ca, hcell⟩ := HC.out j hlt
      have CT : Hid (∀ W : World, Calls Tryz.prog 114 #[.slice ad (ns j) ca] W fun e w' => e = .returned (.bool (decide (65536 < ns j))) ∧ w' = W) := fun W => tooLong_any ad (ns j) ca hl W
      clear hl
      by_cases hlong : 65536 < ns j
      · rw [decide_eq_true hlong] at CT
        have HF : Hid (longB ns m = true) := longB_yes ns m j hlt hlong
        clear hlong hA
        go_wp2_with (go_at_call 114; refine (CT.out _).mono ?_; rintro e wz ⟨rfl, hz⟩; subst hz)
        go_ret
        exact ⟨_, rfl, fun _ => by omega, fun h => (by rw [HF.out] at h; cases h), rfl⟩
      · rw [decide_eq_false hlong] at CT
        have HA2 : Hid (∀ k, k < j + 1 → ¬ 65536 < ns k) := fun k hk => by
          rcases Nat.lt_or_ge k j with h | h
          · exact hA.out k h
          · obtain rfl : k = j := by omega
            exact hlong
        clear hlong hA
        go_wp2_with (go_at_call 114; refine (CT.out _).mono ?_; rintro e wz ⟨rfl, hz⟩; subst hz)
        go_roundw
        case rel => exact ⟨j + 1, by omega, by go_num, HA2, trivial⟩
        case measure => simp [intOf]; omega
    · have HF : Hid (longB ns m = false) := longB_no ns m (fun k hk => hA.out k (by omega))
      have hjI : ¬ (j : Int) < (m : Int) := by omega
      clear hA
      go_wp2
      go_ret
      exact ⟨_, rfl, fun h => (by rw [HF.out] at h; cases h), fun _ => by omega, rfl⟩
set_option maxHeartbeats 1000000 in
theorem contains_any (v : Value) (m : Nat) (ns : Nat → Nat) (w : World) (hH : Hs w v m ns) :
    Calls Tryz.prog 113 #[v, .func (.func 114) #[] #[]] w fun e w' => e = .returned (.bool (longB ns m)) ∧ w' = w := by
  have CI : Hid (Calls Tryz.prog 136 #[v, .func (.func 114) #[] #[]] w fun e w' => ∃ i : Int, e = .returned (.int .i64 i) ∧ (longB ns m = true → 0 ≤ i) ∧ (longB ns m = false → i < 0) ∧ w' = w) := index_any v m ns w hH
  obtain ⟨adr, cap, g, o, rfl, -, -, -, -⟩ := hH
  generalize longB ns m = B at *
  cases B
  · go_enter Tryz.func113, Tryz.ntmps113
    go_wp2_with fail
    refine CI.out.mono ?_
    rintro e wz ⟨i, rfl, -, h1, hz⟩
    subst hz
    have h2 : ¬ (0 : Int) ≤ i := by have := h1 (by trivial); omega
    clear CI h1
    go_wp2
    go_ret
    exact ⟨by simp [h2], rfl⟩
  · go_enter Tryz.func113, Tryz.ntmps113
    go_wp2_with fail
    refine CI.out.mono ?_
    rintro e wz ⟨i, rfl, h1, -, hz⟩
    subst hz
    have h2 : (0 : Int) ≤ i := h1 (by trivial)
    clear CI h1
    go_wp2
    go_ret
    exact ⟨by simp [h2], rfl⟩
/-- check's answer. -/
def ckE (b : Bool) (ns : Nat → Nat) (m : Nat) : Int := if longB ns m = true then 3 else if b = true then 0 else 40
set_option maxHeartbeats 1000000 in
theorem check_any (b : Bool) (v : Value) (m : Nat) (ns : Nat → Nat) (w : World) (hH : Hs w v m ns) :
    Calls Tryz.prog 81 #[.bool b, v] w fun e w' => e = .returned (.int .i64 (ckE b ns m)) ∧ w' = w := by
  have CI : Hid (Calls Tryz.prog 113 #[v, .func (.func 114) #[] #[]] w fun e w' => e = .returned (.bool (longB ns m)) ∧ w' = w) := contains_any v m ns w hH
  obtain ⟨adr, cap, g, o, rfl, -, -, -, -⟩ := hH
  unfold ckE
  generalize longB ns m = B at *
  cases B <;> cases b
  all_goals
    first
      | rw [if_pos rfl]
      | rw [if_neg (by decide), if_pos rfl]
      | rw [if_neg (by decide), if_neg (by decide)]
    go_enter Tryz.func81, Tryz.ntmps81
    go_wp2_with fail
    refine CI.out.mono ?_
    rintro e wz ⟨rfl, hz⟩
    subst hz
    clear CI
    go_wp2
    go_ret
    exact ⟨rfl, rfl⟩
theorem hs1 (w1 : World) (ada : Option Addr) (n ca : Nat) (k : n ≤ maxLen) : Hs (w1.alloc (.cells #[.slice ada n ca] 23)) (.slice (some ⟨w1.heap.size, 0, none⟩) 1 1) 1 (fun _ => n) := by
  refine ⟨some ⟨w1.heap.size, 0, none⟩, 1, w1.heap.size, 0, rfl, Nat.le_refl _, by unfold maxLen; omega, fun _ => rfl, fun k hk => ?_⟩
  obtain rfl : k = 0 := by omega
  exact ⟨k, ada, ca, by simp [go_sem]⟩
theorem hs2 (w1 : World) (ada adb : Option Addr) (n ca m cb : Nat) (k : n ≤ maxLen) (q : m ≤ maxLen) : Hs (w1.alloc (.cells #[.slice ada n ca, .slice adb m cb] 23)) (.slice (some ⟨w1.heap.size, 0, none⟩) 2 2) 2 (fun k => if k = 0 then n else m) := by
  refine ⟨some ⟨w1.heap.size, 0, none⟩, 2, w1.heap.size, 0, rfl, Nat.le_refl _, by unfold maxLen; omega, fun _ => rfl, fun k hk => ?_⟩
  rcases (show k = 0 ∨ k = 1 by omega) with rfl | rfl
  · exact ⟨k, ada, ca, by simp [go_sem]⟩
  · exact ⟨q, adb, cb, by simp [go_sem]⟩
theorem ckE1 (b : Bool) (n : Nat) : ckE b (fun _ => n) 1 = if 65536 < n then 3 else if b = true then 0 else 40 := by
  unfold ckE longB
  by_cases h : 65536 < n <;> simp [h, List.range_succ]
theorem ckE2 (b : Bool) (n m : Nat) : ckE b (fun k => if k = 0 then n else m) 2 = if 65536 < n ∨ 65536 < m then 3 else if b = true then 0 else 40 := by
  unfold ckE longB
  by_cases h : 65536 < n <;> by_cases h' : 65536 < m <;> simp [h, h', List.range_succ]
theorem check1_any (b : Bool) (w1 : World) (ada : Option Addr) (n ca : Nat) (k : n ≤ maxLen) :
    Calls Tryz.prog 81 #[.bool b, .slice (some ⟨w1.heap.size, 0, none⟩) 1 1] (w1.alloc (.cells #[.slice ada n ca] 23)) fun e w' => e = .returned (.int .i64 (if 65536 < n then 3 else if b = true then 0 else 40)) ∧ w' = w1.alloc (.cells #[.slice ada n ca] 23) := by
  have h := check_any b _ 1 _ _ (hs1 w1 ada n ca k)
  rw [ckE1] at h
  exact h
theorem check2_any (b : Bool) (w1 : World) (ada adb : Option Addr) (n ca m cb : Nat) (k : n ≤ maxLen) (q : m ≤ maxLen) :
    Calls Tryz.prog 81 #[.bool b, .slice (some ⟨w1.heap.size, 0, none⟩) 2 2] (w1.alloc (.cells #[.slice ada n ca, .slice adb m cb] 23)) fun e w' => e = .returned (.int .i64 (if 65536 < n ∨ 65536 < m then 3 else if b = true then 0 else 40)) ∧ w' = w1.alloc (.cells #[.slice ada n ca, .slice adb m cb] 23) := by
  have h := check_any b _ 2 _ _ (hs2 w1 ada adb n ca m cb k q)
  rw [ckE2] at h
  exact h
end Go.Proofs.YtdfjnbkkdgolnaaGreatDoor
