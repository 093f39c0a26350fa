/-
  The laws of layer 15: DiskPlays.
-/
import Derived.Test.YtnchmnemclbfcaaDkLawA
import Derived.Test.YtnchmnemclbfcaaDkStepE
set_option linter.unusedVariables false
set_option linter.unusedSimpArgs false
namespace Go.Proofs.Ytnchmnemclbfcaa
open Go.RowKit

theorem d2Blocks {V : Disk1} {w0 w : World} {d r : Value} {s t : Dsk} {N : Nat → Prop} (h : D2 V w0 w d r s t N) : Calls Try.prog 12 #[d] w fun e w' => e = .returned (.int .i64 ((s.bl.length : Nat) : Int)) ∧ Below w.heap.size w w' := by
  obtain ⟨F, G, h1, h2, h3, h4, h5, h6, h7⟩ := h
  exact V.blocks w d F s h1
/-- Both are made. -/
theorem d2New {V : Disk1} {w0 w w' : World} {d r : Value} {s t : Dsk} {G : Nat → Prop} (h : Dw V w0 w d s) (h2 : RD w' r G t) (hG : ∀ k, G k → w.heap.size ≤ k) (k : Below w.heap.size w w') : D2 V w0 w' d r s t (fun _ => False) := by
  obtain ⟨F, h1, h3, h7⟩ := h
  exact ⟨F, G, V.dtK h1 (fun i hi => k.block i (V.dtB h1 i hi)) k.size, h2, h3, fun i hi => Nat.le_trans h7.size (hG i hi), fun i hf hg => by have := V.dtB h1 i hf; have := hG i hg; omega, fun i hi => hi.elim, bchain h7 k⟩
theorem wpAnyH_turn15 {P : Program} {md : Region.Mode} {ops : Array Oper} {Q : Exit → Act → World → Prop} {S S' : World → Prop} (hS : ∀ w, S' w → S w) : ∀ (fuel : Nat) (listed : Array Bool) (a : Act) (w : World), wpAnyH P md ops Q S' fuel listed a w → wpAnyH P md ops Q S fuel listed a w
  | 0, _, _, _, h => h
  | fuel + 1, _, _, _, h => ⟨h.1, fun i hi => wpOp_mono (fun a' w' h' => ⟨hS _ h'.1, wpAnyH_turn15 hS fuel _ a' w' h'.2⟩) (h.2 i hi)⟩
set_option maxRecDepth 100000 in
set_option maxHeartbeats 16000000 in
theorem diskPlays_any (V : Disk1) (n : Int) (hn64 : Bd64 n) (vo : Value) (os : List Opv) (hbo : (∀ j, j < os.length → ∀ c ∈ (os.getD j op0).b, c < 256) ∧ ∀ j, j < os.length → Bd64 (os.getD j op0).i) (w : World) (ho : Ops w vo os) :
    Calls Try.prog 3 #[.int .i64 n, vo] w fun e w' => e = .returned (.bool true) ∧ Below w.heap.size w w' := by
  have HL : Hid (Ops w vo os) := ho
  have HY : Hid ((∀ j, j < os.length → ∀ c ∈ (os.getD j op0).b, c < 256) ∧ ∀ j, j < os.length → Bd64 (os.getD j op0).i) := hbo
  obtain ⟨ao, cpo, rfl, k3, k4⟩ := ho.len
  unfold maxLen at k4
  obtain ⟨m, hm⟩ : ∃ m, os.length = m := ⟨_, rfl⟩
  have HM : Hid (os.length = m) := hm
  rw [hm] at k3 HL ⊢
  clear ho hm hbo hn64
  go_enter Try.func3, Try.ntmps3
  go_wp2_with fail
  refine (awake15 V w).mono ?_
  rintro e w1 ⟨rfl, hb1⟩
  have HB1 : Hid (Below w.heap.size w w1) := hb1
  clear hb1
  go_wp2_with fail
  refine (few15 _ os w1 (HL.out.later HB1.out)).mono ?_
  rintro e w2 ⟨B, rfl, hF, hb2⟩
  have HB2 : Hid (Below w.heap.size w w2) := bchain HB1.out hb2
  have HF : Hid (B = true → Few os) := hF
  clear hb2 hF HB1
  cases B with
  | false =>
    go_wp2
    go_ret
    exact ⟨rfl, HB2.out⟩
  | true =>
    have HFw : Hid (Few os) := HF.out rfl
    clear HF
    by_cases q1 : 64 < n ∧ n ≤ 16384
    · have q1a : 64 < n := q1.1
      have q1b : n ≤ 16384 := q1.2
      clear q1
      go_wp2
      go_ret
      exact ⟨rfl, HB2.out⟩
    by_cases q2 : n < 1
    · have q3 : ¬ 64 < n := by omega
      clear q1
      go_wp2_with fail
      refine (V.newN w2 n (Or.inl q2)).mono ?_
      rintro e w3 ⟨rfl, hb3⟩
      have HB3 : Hid (Below w.heap.size w w3) := bchain HB2.out hb3
      clear hb3 HB2
      go_wp2
      go_ret
      exact ⟨rfl, HB3.out⟩
    by_cases q4 : 16384 < n
    · have q3 : 64 < n := by omega
      have q5 : ¬ n ≤ 16384 := by omega
      clear q1
      go_wp2_with fail
      refine (V.newN w2 n (Or.inr q4)).mono ?_
      rintro e w3 ⟨rfl, hb3⟩
      have HB3 : Hid (Below w.heap.size w w3) := bchain HB2.out hb3
      clear hb3 HB2
      go_wp2
      go_ret
      exact ⟨rfl, HB3.out⟩
    have q3 : ¬ 64 < n := by omega
    clear q1
    obtain ⟨nb, rfl⟩ : ∃ nb : Nat, n = (nb : Int) := ⟨n.toNat, by omega⟩
    have HNb : Hid (1 ≤ nb ∧ nb ≤ 64) := ⟨by omega, by omega⟩
    go_wp2_with fail
    refine (dwNew V w w2 nb HNb.out.1 (by have := HNb.out; omega) HB2.out).mono ?_
    rintro e w3 ⟨d, rfl, hD3⟩
    have HD3 : Hid (Dw V w w3 d (dNew nb)) := hD3
    clear hD3 HB2
    go_wp2_with fail
    refine (refNew w3 nb (by have := HNb.out; omega)).mono ?_
    rintro e w4 ⟨r, G, rfl, hR4, hG4, hW4⟩
    have HD4 : Hid (D2 V w w4 d r (dNew nb) (dNew nb) (fun _ => False)) := d2New HD3.out hR4 hG4 hW4
    clear hR4 hG4 hW4 HD3
    have HL4 : Hid ((dNew nb).bl.length = nb ∧ (dNew nb).un.length ≤ 0) := ⟨List.length_replicate, Nat.le_refl _⟩
    go_wp2_with fail
    refine (d2Blocks HD4.out).mono ?_
    rintro e w5 ⟨rfl, hW5⟩
    rw [HL4.out.1]
    have HD5 : Hid (D2 V w w5 d r (dNew nb) (dNew nb) (fun _ => False)) := (HD4.out.later hW5).weak (fun k hk => hk.elim)
    clear hW5 HD4
    go_upto_region 12 with fail
    go_loopw [55] (fun s55 wr => ∃ (j : Nat) (s : Dsk), j ≤ m ∧ s55 = .int .i64 (j : Int) ∧ Hid (D2 V w wr d r s s (fun _ => False)) ∧ Hid (s.un.length ≤ j ∧ s.bl.length = nb)) (fun s55 _ => m - (intOf s55).toNat)
    case atStart => exact ⟨0, dNew nb, by omega, rfl, HD5, HL4.out.2, HL4.out.1⟩
    case round =>
      obtain ⟨j, s, hj, rfl, HD, HS⟩ := hrel
      clear HD5 HL4
      by_cases hlt : j < m
      · have hjI : (j : Int) < (m : Int) := by omega
        have hj0 : (0 : Int) ≤ (j : Int) := by omega
        have hm80 : m ≤ 80 := by have := HFw.out.1; have := HM.out; omega
        have hM := HM.out
        obtain ⟨b, o, vb, vf, rfl, c0, c1, c2, c3, hB, hF⟩ := HL.out.cel j (by omega)
        obtain ⟨a1, p1, rfl, -, -⟩ := hB.len
        obtain ⟨a2, p2, rfl, -, -⟩ := hF.len
        have HV : Hid (Lo w.heap.size (.slice a1 (os.getD j op0).b.length p1) ∧ Lo w.heap.size (.slice a2 (os.getD j op0).fs.length p2) ∧ Bs w (.slice a1 (os.getD j op0).b.length p1) (os.getD j op0).b ∧ Fts w (.slice a2 (os.getD j op0).fs.length p2) (os.getD j op0).fs ∧ (os.getD j op0).b.length ≤ 300 ∧ (os.getD j op0).fs.length ≤ 100 ∧ (∀ c ∈ (os.getD j op0).b, c < 256) ∧ Bd64 (os.getD j op0).i) := ⟨Ls.lo hB, hF.lo, hB, hF, (HFw.out.2 j (by omega)).1, (HFw.out.2 j (by omega)).2, HY.out.1 j (by omega), HY.out.2 j (by omega)⟩
        have x0 := cell_later HD.out.bel c0
        have x1 := cell_later HD.out.bel c1
        have x2 := cell_later HD.out.bel c2
        have x3 := cell_later HD.out.bel c3
        clear c0 c1 c2 c3 hB hF hM
        generalize (os.getD j op0).k = kk at *
        generalize (os.getD j op0).i = ii at *
        generalize (os.getD j op0).b = bb at *
        generalize (os.getD j op0).fs = ff at *
        obtain ⟨nb1, hnb1⟩ : ∃ x, bb.length = x := ⟨_, rfl⟩
        obtain ⟨nf1, hnf1⟩ : ∃ x, ff.length = x := ⟨_, rfl⟩
        have HNN : Hid (bb.length = nb1 ∧ ff.length = nf1) := ⟨hnb1, hnf1⟩
        rw [hnb1] at x2 HV
        rw [hnf1] at x3 HV
        clear hnb1 hnf1
        have hk1 := bel1 wr (.cells #[.int .i64 kk, .int .i64 ii, .slice a1 nb1 p1, .slice a2 nf1 p2] 35)
        have HD1 := hid5 ((HD.out.later hk1).weak (N' := fun _ => False) (fun k hk => hk.elim))
        have HX1 : Hid (Bo wr.heap.size kk ii (.slice a1 nb1 p1) (.slice a2 nf1 p2) (wr.alloc (.cells #[.int .i64 kk, .int .i64 ii, .slice a1 nb1 p1, .slice a2 nf1 p2] 35))) := ⟨by simp [go_sem], by simp [go_sem], by simp [go_sem], by simp [go_sem]⟩
        clear hk1 HD
        go_upto_region 14 with fail
        generalize wr.alloc (.cells #[.int .i64 kk, .int .i64 ii, .slice a1 nb1 p1, .slice a2 nf1 p2] 35) = wx at *
        generalize wr.heap.size = bo at *
        have hbD : Below wx.heap.size wx wx.drew := (Below.refl _ _).drew
        have HD2 := hid5 ((HD1.out.later hbD).weak (N' := fun _ => False) (fun k hk => hk.elim))
        have HX2 := hid5 (HX1.out.later hbD)
        refine wp_region_held_drew (S := fun _ => True) (by kernel_rfl) trivial (fun HS0 => ?_)
        have y0 := HX2.out.x0
        have y1 := HX2.out.x1
        have y2 := HX2.out.x2
        have y3 := HX2.out.x3
        clear hbD x0 x1 x2 x3 HD1 HX1
        generalize wx.drew = q0 at *
        have HSs := HS
        clear HS
        rcases HS0 with -
        have HS : True := trivial
        refine wpAnyH_take (i := 0) (v := ?v1) rfl (by kernel_rfl) (by kernel_rfl) (by kernel_rfl) (fun _ _ _ h => h) (Or.inl ⟨by kernel_rfl, ?h1⟩) HS ?r1
        case h1 => (rintro w n0; go_simp) <;> with_reducible rfl
        try simp only [Act.put, List.getElem_toArray, List.getElem_cons_succ, List.getElem_cons_zero, List.setIfInBounds_toArray, List.set_cons_zero, List.set_cons_succ]
        refine wpAnyH_take (i := 1) (v := ?v2) rfl (by kernel_rfl) (by kernel_rfl) (by kernel_rfl) (fun _ _ _ h => h) (Or.inl ⟨by kernel_rfl, ?h2⟩) HS ?r2
        case h2 => (rintro w n0; go_simp) <;> with_reducible rfl
        try simp only [Act.put, List.getElem_toArray, List.getElem_cons_succ, List.getElem_cons_zero, List.setIfInBounds_toArray, List.set_cons_zero, List.set_cons_succ]
        refine wpAnyH_ready (rs := [2]) (by kernel_rfl) (by simp) ?_
        refine AllReadyH.cons rfl (fun K hK => ?_) AllReadyH.nil
        go_simp
        refine hK.out _ _ trivial (fun HS => ?_)
        clear hK K
        try simp only [Act.put, List.getElem_toArray, List.getElem_cons_succ, List.getElem_cons_zero, List.setIfInBounds_toArray, List.set_cons_zero, List.set_cons_succ]
        refine wpAnyH_ready (rs := [3]) (by kernel_rfl) (by simp) ?_
        refine AllReadyH.cons rfl (fun K hK => ?_) AllReadyH.nil
        go_simp
        refine (step15 V w q0 d r s HD2.out (by have := HSs.out; omega) kk ii HV.out.2.2.2.2.2.2.2 _ _ bb ff (HV.out.2.2.1.later HD2.out.bel) (by have := HV.out.2.2.2.2.1; have := HNN.out; omega) HV.out.2.2.2.2.2.2.1 HV.out.1 (HV.out.2.2.2.1.later HD2.out.bel) (by have := HV.out.2.2.2.2.2.1; have := HNN.out; omega) HV.out.2.1).mono ?_
        rintro e q1 ⟨rfl, s2, hD3, hl1, hl2⟩
        have HD3 : Hid (D2 V w q1 d r s2 s2 (fun _ => False)) := hD3
        have HS2 : Hid (s2.un.length ≤ j + 1 ∧ s2.bl.length = nb) := ⟨by have := HSs.out; omega, by have := HSs.out; omega⟩
        refine hK.out _ _ trivial (fun HS => ?_)
        clear hK K hD3 hl1 hl2 HD2 HX2 y0 y1 y2 y3 HSs HV HNN
        try simp only [Act.put, List.getElem_toArray, List.getElem_cons_succ, List.getElem_cons_zero, List.setIfInBounds_toArray, List.set_cons_zero, List.set_cons_succ]
        obtain ⟨br, vB, vU, cs, ds, G2, er, hR⟩ := HD3.out.ref
        have z4 := hR.c4
        subst er
        clear hR
        refine wpAnyH_take (i := 4) (v := ?v3) rfl (by kernel_rfl) (by kernel_rfl) (by kernel_rfl) (fun _ _ _ h => h) (Or.inl ⟨by kernel_rfl, ?h3⟩) HS ?r3
        case h3 => (rintro w n0; go_simp) <;> with_reducible rfl
        try simp only [Act.put, List.getElem_toArray, List.getElem_cons_succ, List.getElem_cons_zero, List.setIfInBounds_toArray, List.set_cons_zero, List.set_cons_succ]
        refine wpAnyH_take (i := 5) (v := ?v4) rfl (by kernel_rfl) (by kernel_rfl) (by kernel_rfl) (fun _ _ _ h => h) (Or.inl ⟨by kernel_rfl, ?h4⟩) HS ?r4
        case h4 => (rintro w n0; go_simp) <;> with_reducible rfl
        try simp only [Act.put, List.getElem_toArray, List.getElem_cons_succ, List.getElem_cons_zero, List.setIfInBounds_toArray, List.set_cons_zero, List.set_cons_succ]
        refine wpAnyH_turn15 (S' := fun W => W.cell? ⟨br, 4, none⟩ = some (.bool s2.dn)) (fun _ _ => trivial) _ _ _ _ ?_
        clear HS
        have HS := z4
        refine wpAnyH_take (i := 6) (v := ?v5) rfl (by kernel_rfl) (by kernel_rfl) (by kernel_rfl) (fun _ _ _ h => h) (Or.inl ⟨by kernel_rfl, ?h5⟩) HS ?r5
        case h5 => (rintro w n0; go_simp) <;> with_reducible rfl
        try simp only [Act.put, List.getElem_toArray, List.getElem_cons_succ, List.getElem_cons_zero, List.setIfInBounds_toArray, List.set_cons_zero, List.set_cons_succ]
        refine wpAnyH_take (i := 8) (v := ?v6) rfl (by kernel_rfl) (by kernel_rfl) (by kernel_rfl) (fun _ _ _ h => h) (Or.inl ⟨by kernel_rfl, ?h6⟩) HS ?r6
        case h6 => (rintro w n0; go_simp) <;> with_reducible rfl
        try simp only [Act.put, List.getElem_toArray, List.getElem_cons_succ, List.getElem_cons_zero, List.setIfInBounds_toArray, List.set_cons_zero, List.set_cons_succ]
        refine wpAnyH_take (i := 9) (v := ?v7) rfl (by kernel_rfl) (by kernel_rfl) (by kernel_rfl) (fun _ _ _ h => h) (Or.inl ⟨by kernel_rfl, ?h7⟩) HS ?r7
        case h7 => (rintro w n0; go_simp) <;> with_reducible rfl
        try simp only [Act.put, List.getElem_toArray, List.getElem_cons_succ, List.getElem_cons_zero, List.setIfInBounds_toArray, List.set_cons_zero, List.set_cons_succ]
        refine wpAnyH_take (i := 10) (v := ?v8) rfl (by kernel_rfl) (by kernel_rfl) (by kernel_rfl) (fun _ _ _ h => h) (Or.inl ⟨by kernel_rfl, ?h8⟩) HS ?r8
        case h8 => (rintro w n0; go_simp) <;> with_reducible rfl
        try simp only [Act.put, List.getElem_toArray, List.getElem_cons_succ, List.getElem_cons_zero, List.setIfInBounds_toArray, List.set_cons_zero, List.set_cons_succ]
        refine wpAnyH_take (i := 11) (v := ?v9) rfl (by kernel_rfl) (by kernel_rfl) (by kernel_rfl) (fun _ _ _ h => h) (Or.inl ⟨by kernel_rfl, ?h9⟩) HS ?r9
        case h9 => (rintro w n0; go_simp) <;> with_reducible rfl
        try simp only [Act.put, List.getElem_toArray, List.getElem_cons_succ, List.getElem_cons_zero, List.setIfInBounds_toArray, List.set_cons_zero, List.set_cons_succ]
        refine wpAnyH_ready (rs := [7]) (by kernel_rfl) (by simp) ?_
        refine AllReadyH.cons rfl (fun K hK => ?_) AllReadyH.nil
        go_simp
        refine (d2Down HD3.out).mono ?_
        rintro e q2 ⟨rfl, hW2⟩
        have HD4 : Hid (D2 V w q2 d (.pointer (some ⟨br, 0, none⟩)) s2 s2 (fun _ => False)) := (HD3.out.later hW2).weak (fun k hk => hk.elim)
        refine hK.out _ _ (cell_later hW2 HS) (fun HS => ?_)
        clear hK K hW2 HD3 z4
        generalize s2.dn = dn at *
        try simp only [Act.put, List.getElem_toArray, List.getElem_cons_succ, List.getElem_cons_zero, List.setIfInBounds_toArray, List.set_cons_zero, List.set_cons_succ]
        have hdn : (dn != dn) = false := by simp
        refine wpAnyH_take (i := 12) (v := ?v10) rfl (by kernel_rfl) (by kernel_rfl) (by kernel_rfl) (fun _ _ _ h => h) (Or.inl ⟨by kernel_rfl, ?h10⟩) HS ?r10
        case h10 => (rintro w n0; go_simp) <;> with_reducible rfl
        try simp only [Act.put, List.getElem_toArray, List.getElem_cons_succ, List.getElem_cons_zero, List.setIfInBounds_toArray, List.set_cons_zero, List.set_cons_succ]
        refine wpAnyH_take (i := 13) (v := ?v11) rfl (by kernel_rfl) (by kernel_rfl) (by kernel_rfl) (fun _ _ _ h => h) (Or.inl ⟨by kernel_rfl, ?h11⟩) HS ?r11
        case h11 => (rintro w n0; go_simp) <;> with_reducible rfl
        try simp only [Act.put, List.getElem_toArray, List.getElem_cons_succ, List.getElem_cons_zero, List.setIfInBounds_toArray, List.set_cons_zero, List.set_cons_succ]
        refine wpAnyH_done (by kernel_rfl) ?_ _
        clear HS
        have hjw : IntKind.i64.wrap ((j : Int) + 1) = ((j + 1 : Nat) : Int) := by rw [IntKind.wrap_i64]; omega
        go_wp2
        go_roundw
        case rel => exact ⟨j + 1, s2, by omega, by first | rfl | go_num, HD4, HS2⟩
        case measure => simp only [intOf]; omega
      · obtain rfl : j = m := by omega
        have hjI : ¬ (j : Int) < (j : Int) := by omega
        obtain ⟨br, vB, vU, cs, ds, G2, er, hR0⟩ := HD.out.ref
        subst er
        clear hR0
        go_upto_region 18 with fail
        go_loopw [75] (fun s75 wt => ∃ (i : Nat), i ≤ nb ∧ s75 = .int .i64 (i : Int) ∧ Hid (D2 V w wt d (.pointer (some ⟨br, 0, none⟩)) s s (fun _ => False))) (fun s75 _ => nb - (intOf s75).toNat)
        case atStart => exact ⟨0, by omega, rfl, HD⟩
        case round =>
          rename World => wt
          obtain ⟨i, hi, rfl, HDi⟩ := hrel
          clear HD
          by_cases hil : i < nb
          · have hiI : (i : Int) < (nb : Int) := by omega
            have hi0 : (0 : Int) ≤ (i : Int) := by omega
            have hiw : IntKind.i64.wrap ((i : Int) + 1) = ((i + 1 : Nat) : Int) := by have := HNb.out; rw [IntKind.wrap_i64]; omega
            have hiB : i < s.bl.length := by have := HS.out; omega
            go_wp2_with fail
            refine (d2Safe HDi.out i hiB).mono ?_
            rintro e t2 ⟨v2, rfl, hB2, hO2, hW2⟩
            obtain ⟨T, hT⟩ : ∃ T, s.bl.getD i [] = T := ⟨_, rfl⟩
            rw [hT] at hB2
            obtain ⟨a2, p2, rfl, -, -⟩ := hB2.len
            have HD2 : Hid (D2 V w t2 d (.pointer (some ⟨br, 0, none⟩)) s s (fun _ => False)) := (HDi.out.later hW2).weak (fun k hk => hk.elim)
            obtain ⟨br2, vB, vU, cs, ds, G2, er, hR⟩ := HD2.out.ref
            injection er with er
            injection er with er
            injection er with er
            subst er
            obtain ⟨aB, pB, rfl⟩ := hR.sB
            rw [HS.out.2] at hR
            have z0 := hR.c0
            obtain ⟨gB, xo, eB, co, -, tx, -⟩ := hR.atB i hiB
            subst eB
            have tx1 := tx.1
            rw [hT] at tx1
            obtain ⟨ax, px, ex, -, -⟩ := tx1.len
            subst ex
            have HX : Hid (Bs t2 (.slice a2 T.length p2) T ∧ Bs t2 (.slice ax T.length px) T) := ⟨hB2, tx1⟩
            clear hB2 hO2 hW2 HDi hR tx tx1 hT hiB
            generalize T.length = L at *
            go_wp2_with fail
            refine (sameB _ _ _ _ t2 HX.out.1 HX.out.2).mono ?_
            rintro e t3 ⟨rfl, hW3⟩
            rw [decide_eq_true (rfl : T = T)]
            have HD3 : Hid (D2 V w t3 d (.pointer (some ⟨br, 0, none⟩)) s s (fun _ => False)) := (HD2.out.later hW3).weak (fun k hk => hk.elim)
            clear hW3 HD2 HX z0 co
            go_wp2
            go_roundw
            case rel => exact ⟨i + 1, by omega, by first | rfl | go_num, HD3⟩
            case measure => simp only [intOf]; omega
          · obtain rfl : i = nb := by omega
            have hiI : ¬ (i : Int) < (i : Int) := by omega
            have HE : Hid (Below w.heap.size w wt) := HDi.out.bel
            clear HDi
            go_wp2
            go_ret
            exact ⟨rfl, HE.out⟩
end Go.Proofs.Ytnchmnemclbfcaa
