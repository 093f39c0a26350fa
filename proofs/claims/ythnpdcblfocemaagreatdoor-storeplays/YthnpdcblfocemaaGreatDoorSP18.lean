/-
  Texts of this proof, joined: StLawP.
-/
import Derived.Test.YthnpdcblfocemaaGreatDoorSP03
import Derived.Test.YthnpdcblfocemaaGreatDoorSP06
import Derived.Test.YthnpdcblfocemaaGreatDoorSP17
import Derived.Deep.DeepCutAuto
import Derived.Deep.CutBlock
import Derived.BigQuiet
import Derived.Lib.SlBytesConst
set_option linter.unusedVariables false
set_option linter.unusedSimpArgs false
namespace Go.Proofs.YthnpdcblfocemaaGreatDoor
open Go.RowKit

def Pst18 (V : Disk1) (S : Store1 V) (d q r : Value) (c g room m k : Nat) (w0 w : World) (N : Nat → Prop) : Prop :=
  ∃ (s : Dsk) (j : Sst), P2 (SD V S d q room m s j) (SR r c g room m s j) w0 w N ∧ Jq m s ∧ SB m room k j
set_option maxRecDepth 100000 in
set_option maxHeartbeats 32000000 in
theorem storePlays_any {V : Disk1} (S : Store1 V) (blocks room : Int) (hb0 : Bd64 blocks) (hr0 : Bd64 room) (vo : Value) (os : List Opv) (hbo : (∀ j, j < os.length → ∀ c ∈ (os.getD j op0).b, c < 256) ∧ ∀ j, j < os.length → Bd64 (os.getD j op0).i) (w : World) (ho : Ops w vo os) (hT : S8 w) :
    Calls Tryz.prog 3 #[.int .i64 blocks, .int .i64 room, vo] w fun e w' => e = .returned (.bool true) ∧ Below w.heap.size w w' := by
  have HL : Hid (Ops w vo os) := ho
  have HY : Hid ((∀ j, j < os.length → ∀ c ∈ (os.getD j op0).b, c < 256) ∧ ∀ j, j < os.length → Bd64 (os.getD j op0).i) := hbo
  have HT : Hid (S8 w) := hT
  have HRo : Hid (Bd64 room) := hr0
  obtain ⟨ao, cpo, rfl, k3, k4⟩ := ho.len
  unfold maxLen at k4
  obtain ⟨n, hn⟩ : ∃ n, os.length = n := ⟨_, rfl⟩
  have HN : Hid (os.length = n) := hn
  rw [hn] at k3 HL ⊢
  clear ho hn hbo hT hb0 hr0
  go_enter Tryz.func3, Tryz.ntmps3
  go_wp2_with fail
  refine (awake18 S w HT.out).mono ?_
  rintro e w1 ⟨rfl, hb1⟩
  have HB1 : Hid (Below w.heap.size w w1) := hb1
  clear hb1
  go_wp2_with fail
  refine (few18 _ os w1 (HL.out.later HB1.out)).mono ?_
  rintro e w2 ⟨B, rfl, hF, hb2⟩
  have HB2 : Hid (Below w.heap.size w w2) := bchain HB1.out hb2
  clear hb2 HB1
  cases B with
  | false =>
    go_wp2
    go_ret
    exact ⟨rfl, HB2.out⟩
  | true =>
  have HF : Hid (Fev18 os) := hF rfl
  clear hF
  by_cases q1 : blocks < 1
  · go_wp2
    go_ret
    exact ⟨rfl, HB2.out⟩
  by_cases q2 : 40 < blocks
  · go_wp2
    go_ret
    exact ⟨rfl, HB2.out⟩
  obtain ⟨m, rfl⟩ : ∃ m : Nat, blocks = (m : Int) := ⟨blocks.toNat, by omega⟩
  have HM : Hid (1 ≤ m ∧ m ≤ 40) := ⟨by omega, by omega⟩
  have hn60 : n ≤ 60 := by have := HF.out.1; have := HN.out; omega
  go_wp2_with fail
  refine (dwNew V w w2 m HM.out.1 (by have := HM.out; omega) HB2.out).mono ?_
  rintro e w3 ⟨d, rfl, hD3⟩
  have HD3 : Hid (Dw V w w3 d (dNew m)) := hD3
  clear hD3 HB2
  by_cases hg : Rgh18 (m : Int) room
  · obtain ⟨rm, rfl⟩ : ∃ rm : Nat, room = (rm : Int) := ⟨room.toNat, by have := hg.1; omega⟩
    have HRm : Hid (1 ≤ rm ∧ fb18 rm + 1 ≤ m ∧ m ≤ 40 ∧ rm ≤ 50) := ⟨by have := hg.1; omega, by have := hg.2.2; unfold fb18; omega, HM.out.2, by have := hg.2.2; have := HM.out.2; omega⟩
    have HRg : Hid (decide (Rgh18 (m : Int) (rm : Int)) = true) := decide_eq_true hg
    clear hg
    go_wp2_with fail
    refine (dwOpen S HD3.out HT.out (jq_new m) HRm.out.1 HRm.out.2.2.2 HRm.out.2.1 (by have := HRm.out; omega) rfl).mono ?_
    rintro e w4 ⟨aq, vb, vl, rfl, hD4, -, -, -⟩
    have HD4 : Hid (P2 (SD V S d (.pointer (some aq)) rm m (dNew m) ⟨⟨0, 0, 0⟩, false⟩) Nil2 w w4 (fun _ => False)) := hD4
    clear hD4 HD3
    go_wp2_with fail
    refine (refRight18 (m : Int) (rm : Int) w4).mono ?_
    rintro e wx ⟨rfl, hwx⟩
    have hwx := hwx.symm
    subst hwx
    rw [HRg.out]
    clear HRg
    go_wp2_with fail
    refine (refNew _ m (by have := HM.out; omega)).mono ?_
    rintro e w7 ⟨r, G0, rfl, hR, hG, hW⟩
    have HR7 : Hid (RD w7 r G0 (dNew m) ∧ (∀ k, G0 k → w4.heap.size ≤ k) ∧ Below w4.heap.size w4 w7) := ⟨hR, hG, hW⟩
    clear hR hG hW
    go_wp2_with fail
    refine (refOpen18 HR7.out.1 rm HRm.out.1 (by show _ ≤ (List.replicate m _).length; rw [List.length_replicate]; exact HRm.out.2.1) (by show (List.replicate m _).length ≤ _; rw [List.length_replicate]; have := HRm.out; omega) (Nat.zero_le _)).mono ?_
    rintro e w8 ⟨c, g, vb2, vl2, rfl, hS8, hc8, hg8, -, -, hb8⟩
    have HP8 : Hid (Pst18 V S d (.pointer (some aq)) r c g rm m 0 w w8 (fun _ => False)) := by
      obtain ⟨A, B, g1, -, g3, -, -, -, g7⟩ := HD4.out
      have o1 := sd_owns V S d (.pointer (some aq)) rm m (dNew m) ⟨⟨0, 0, 0⟩, false⟩
      have hbb := bchain HR7.out.2.2 hb8
      have hW7 := HR7.out.2.2.size
      have hB7 := g7.size
      have hlen : (dNew m).bl.length = m := List.length_replicate
      rw [hlen] at hS8
      refine ⟨dNew m, ⟨⟨0, 0, 0⟩, false⟩, ⟨A, fun k => G0 k ∨ k = c ∨ k = g, o1.later g1 hbb, ⟨G0, HR7.out.1.later hb8, hS8, fun q => by have := HR7.out.1.lt _ q; omega, fun q => by have := HR7.out.1.lt _ q; omega, rfl⟩, g3, fun k hk => ?_, fun k hk hq => ?_, fun k h => h.elim, bchain g7 hbb⟩, jq_new m, sb_new m rm⟩
      · rcases hk with hk | hk | hk
        · have := HR7.out.2.1 k hk; omega
        · omega
        · omega
      · have := o1.lt g1 k hk
        rcases hq with hq | hq | hq
        · have := HR7.out.2.1 k hq; omega
        · omega
        · omega
    clear hS8 hc8 hg8 hb8 HR7 HD4
    go_upto_region 14 with fail
    go_loopw [9, 14, 85] (fun s9 s14 s85 wr => ∃ (j : Nat) (q : Addr) (c g : Nat), j ≤ n ∧ s9 = .pointer (some q) ∧ s14 = .pointer (some ⟨c, 0, none⟩) ∧ s85 = .int .i64 (j : Int) ∧ Hid (Pst18 V S d (.pointer (some q)) r c g rm m j w wr (fun _ => False))) (fun _ _ s85 _ => n - (intOf s85).toNat)
    case atStart => exact ⟨0, aq, c, g, by omega, rfl, rfl, rfl, HP8.out⟩
    case round =>
      obtain ⟨j, q, c', g', hj, rfl, rfl, rfl, HS⟩ := hrel
      clear HP8
      by_cases hlt : j < n
      · have hjI : (j : Int) < (n : Int) := by omega
        have hj0 : (0 : Int) ≤ (j : Int) := by omega
        have hM := HN.out
        obtain ⟨b, o, vb, vf, rfl, c0, c1, c2, c3, hB, hF⟩ := HL.out.cel j (by omega)
        obtain ⟨a1, p1, rfl, -, -⟩ := hB.len
        obtain ⟨a2, p2, rfl, -, -⟩ := hF.len
        obtain ⟨s, js, hP, hQ, hSB⟩ := HS.out
        have hbe := hP.bel
        have x0 := cell_later hbe c0
        have x1 := cell_later hbe c1
        have x2 := cell_later hbe c2
        have x3 := cell_later hbe c3
        have HV : Hid (Bs w (.slice a1 (os.getD j op0).b.length p1) (os.getD j op0).b ∧ (∀ c ∈ (os.getD j op0).b, c < 256) ∧ (os.getD j op0).b.length ≤ 1000) := ⟨hB, HY.out.1 j (by omega), (HF.out.2 j (by omega)).1⟩
        have HVf : Hid (Fts w (.slice a2 (os.getD j op0).fs.length p2) (os.getD j op0).fs ∧ (os.getD j op0).fs.length ≤ 40 ∧ Bd64 (os.getD j op0).i) := ⟨hF, (HF.out.2 j (by omega)).2, HY.out.2 j (by omega)⟩
        clear c0 c1 c2 c3 hB hF hM hbe
        generalize (os.getD j op0).k = kk at *
        generalize (os.getD j op0).i = ii at *
        generalize (os.getD j op0).b = bb at *
        generalize (os.getD j op0).fs = ff at *
        obtain ⟨nb1, hnb1⟩ : ∃ x, bb.length = x := ⟨_, rfl⟩
        obtain ⟨nf1, hnf1⟩ : ∃ x, ff.length = x := ⟨_, rfl⟩
        have HNN : Hid (bb.length = nb1 ∧ ff.length = nf1) := ⟨hnb1, hnf1⟩
        rw [hnb1] at x2 HV
        rw [hnf1] at x3 HVf
        clear hnb1 hnf1
        obtain ⟨wx, hwx⟩ : ∃ wx, wx = wr.alloc (.cells #[.int .i64 kk, .int .i64 ii, .slice a1 nb1 p1, .slice a2 nf1 p2] 42) := ⟨_, rfl⟩
        have HX : Hid (P2 (SD V S d (.pointer (some q)) rm m s js) (SR r c' g' rm m s js) w wx (fun k => k = wr.heap.size) ∧ Jq m s ∧ SB m rm j js ∧ wx.cell? ⟨wr.heap.size, 0, none⟩ = some (.int .i64 kk) ∧ wx.cell? ⟨wr.heap.size, 1, none⟩ = some (.int .i64 ii) ∧ wx.cell? ⟨wr.heap.size, 2, none⟩ = some (.slice a1 nb1 p1) ∧ wx.cell? ⟨wr.heap.size, 3, none⟩ = some (.slice a2 nf1 p2)) := by
          have k := bel1 wr (.cells #[.int .i64 kk, .int .i64 ii, .slice a1 nb1 p1, .slice a2 nf1 p2] 42)
          rw [← hwx] at k
          have hsz : wx.heap.size = wr.heap.size + 1 := by rw [hwx]; simp
          refine ⟨(hP.later (sd_owns _ _ _ _ _ _ _ _) (sr_owns _ _ _ _ _ _ _) k).weak (fun k hk => Or.inr ⟨by omega, by omega⟩), hQ, hSB, by rw [hwx]; simp [go_sem], by rw [hwx]; simp [go_sem], by rw [hwx]; simp [go_sem], by rw [hwx]; simp [go_sem]⟩
        go_upto_region 16 with fail
        rw [← hwx]
        clear hwx HS x0 x1 x2 x3 hP hQ hSB
        generalize wr.heap.size = bo at *
        have y0 := HX.out.2.2.2.1
        go_upto_block 2 with fail
        go_cut [19, 20, 85] from 85 to 219 (fun s19 s20 s85 wc => ∃ (E : Nat) (s' : Dsk) (js' : Sst), s19 = .int .i64 (E : Int) ∧ s20 = .int .i64 (E : Int) ∧ s85 = .int .i64 (j : Int) ∧ Hid (P2 (SD V S d (.pointer (some q)) rm m s' js') (SR r c' g' rm m s' js') w wc (fun k => k = bo) ∧ Jq m s' ∧ SB m rm (j + 1) js' ∧ wc.cell? ⟨bo, 0, none⟩ = some (.int .i64 kk)))
        case first =>
          have y2 := HX.out.2.2.2.2.2.1
          have y1 := HX.out.2.2.2.2.1
          have y3 := HX.out.2.2.2.2.2.2
          by_cases g1 : kk = 1
          · subst g1
            go_upto_region 19 with fail
            have HXd : Hid (P2 (SD V S d (.pointer (some q)) rm m s js) (SR r c' g' rm m s js) w wx.drew (fun k => k = bo)) := (HX.out.1.later (sd_owns _ _ _ _ _ _ _ _) (sr_owns _ _ _ _ _ _ _) ((Below.refl _ _).drew)).weak (fun k hk => Or.inl hk)
            have y0d : wx.drew.cell? ⟨bo, 0, none⟩ = some (.int .i64 1) := HX.out.2.2.2.1
            refine wp_region_held_drew (S := fun W => W.cell? ⟨bo, 2, none⟩ = some (.slice a1 nb1 p1)) (by kernel_rfl) y2 (fun HS => ?_)
            generalize wx.drew = q0 at *
            refine wpAnyH_take (i := 0) (v := ?v1) rfl (by kernel_rfl) (by kernel_rfl) (by kernel_rfl) (fun _ _ _ h => h) (Or.inl ⟨by kernel_rfl, ?h1⟩) HS ?r1
            case h1 => (rintro w n0; go_simp) <;> with_reducible rfl
            try simp only [Act.put, List.getElem_toArray, List.getElem_cons_succ, List.getElem_cons_zero, List.setIfInBounds_toArray, List.set_cons_zero, List.set_cons_succ]
            refine wpAnyH_take (i := 1) (v := ?v2) rfl (by kernel_rfl) (by kernel_rfl) (by kernel_rfl) (fun _ _ _ h => h) (Or.inl ⟨by kernel_rfl, ?h2⟩) HS ?r2
            case h2 => (rintro w n0; go_simp) <;> with_reducible rfl
            try simp only [Act.put, List.getElem_toArray, List.getElem_cons_succ, List.getElem_cons_zero, List.setIfInBounds_toArray, List.set_cons_zero, List.set_cons_succ]
            refine wpAnyH_take (i := 2) (v := ?v3) rfl (by kernel_rfl) (by kernel_rfl) (by kernel_rfl) (fun _ _ _ h => h) (Or.inl ⟨by kernel_rfl, ?h3⟩) HS ?r3
            case h3 => (rintro w n0; go_simp) <;> with_reducible rfl
            try simp only [Act.put, List.getElem_toArray, List.getElem_cons_succ, List.getElem_cons_zero, List.setIfInBounds_toArray, List.set_cons_zero, List.set_cons_succ]
            refine wpAnyH_take (i := 4) (v := ?v4) rfl (by kernel_rfl) (by kernel_rfl) (by kernel_rfl) (fun _ _ _ h => h) (Or.inl ⟨by kernel_rfl, ?h4⟩) HS ?r4
            case h4 => (rintro w n0; go_simp) <;> with_reducible rfl
            try simp only [Act.put, List.getElem_toArray, List.getElem_cons_succ, List.getElem_cons_zero, List.setIfInBounds_toArray, List.set_cons_zero, List.set_cons_succ]
            refine wpAnyH_take (i := 5) (v := ?v5) rfl (by kernel_rfl) (by kernel_rfl) (by kernel_rfl) (fun _ _ _ h => h) (Or.inl ⟨by kernel_rfl, ?h5⟩) HS ?r5
            case h5 => (rintro w n0; go_simp) <;> with_reducible rfl
            try simp only [Act.put, List.getElem_toArray, List.getElem_cons_succ, List.getElem_cons_zero, List.setIfInBounds_toArray, List.set_cons_zero, List.set_cons_succ]
            refine wpAnyH_take (i := 6) (v := ?v6) rfl (by kernel_rfl) (by kernel_rfl) (by kernel_rfl) (fun _ _ _ h => h) (Or.inl ⟨by kernel_rfl, ?h6⟩) HS ?r6
            case h6 => (rintro w n0; go_simp) <;> with_reducible rfl
            try simp only [Act.put, List.getElem_toArray, List.getElem_cons_succ, List.getElem_cons_zero, List.setIfInBounds_toArray, List.set_cons_zero, List.set_cons_succ]
            refine wpAnyH_ready (rs := [3]) (by kernel_rfl) (by simp) ?_
            refine AllReadyH.cons rfl (fun K hK => ?_) AllReadyH.nil
            go_simp
            refine (sdAppend (sr_owns _ _ _ _ _ _ _) HXd.out HT.out HX.out.2.1 HX.out.2.2.1 (by omega) HRm.out.2.1 (by have := HRm.out; omega) (HV.out.1.later HXd.out.bel) (Lo.ou (Ls.lo HV.out.1)) HV.out.2.1 (by have := HV.out.2.2; have := HNN.out; omega)).mono ?_
            rintro e w7 ⟨rfl, hD7, hK7⟩
            have HD7 : Hid (P2 (SD V S d (.pointer (some q)) rm m (apS s rm js bb).2.1 (apS s rm js bb).2.2) (SR r c' g' rm m s js) w w7 (fun k => k = bo) ∧ w7.cell? ⟨bo, 0, none⟩ = some (.int .i64 1)) := ⟨hD7, cell_blk5 (a := ⟨bo, 0, none⟩) (hK7 bo rfl) y0d⟩
            refine hK.out _ _ (cell_blk5 (a := ⟨bo, 2, none⟩) (hK7 bo rfl) HS) (fun HS => ?_)
            clear hK K hD7 hK7 HXd y0d
            try simp only [Act.put, List.getElem_toArray, List.getElem_cons_succ, List.getElem_cons_zero, List.setIfInBounds_toArray, List.set_cons_zero, List.set_cons_succ]
            refine wpAnyH_ready (rs := [7]) (by kernel_rfl) (by simp) ?_
            refine AllReadyH.cons rfl (fun K hK => ?_) AllReadyH.nil
            go_simp
            refine (srAppend (sd_owns _ _ _ _ _ _ _ _) HD7.out.1 HX.out.2.1 HX.out.2.2.1 (by omega) HRm.out.2.1 (by have := HRm.out; omega) (HV.out.1.later HD7.out.1.bel) (Lo.ou (Ls.lo HV.out.1)) HV.out.2.1 (by have := HV.out.2.2; have := HNN.out; omega)).mono ?_
            rintro e w8 ⟨rfl, hD8, hK8⟩
            have HD8 : Hid (P2 (SD V S d (.pointer (some q)) rm m (apS s rm js bb).2.1 (apS s rm js bb).2.2) (SR r c' g' rm m (apS s rm js bb).2.1 (apS s rm js bb).2.2) w w8 (fun k => k = bo) ∧ w8.cell? ⟨bo, 0, none⟩ = some (.int .i64 1)) := ⟨hD8, cell_blk5 (a := ⟨bo, 0, none⟩) (hK8 bo rfl) HD7.out.2⟩
            refine hK.out _ _ (cell_blk5 (a := ⟨bo, 2, none⟩) (hK8 bo rfl) HS) (fun HS => ?_)
            clear hK K hD8 hK8 HD7
            try simp only [Act.put, List.getElem_toArray, List.getElem_cons_succ, List.getElem_cons_zero, List.setIfInBounds_toArray, List.set_cons_zero, List.set_cons_succ]
            refine wpAnyH_take (i := 8) (v := ?v7) rfl (by kernel_rfl) (by kernel_rfl) (by kernel_rfl) (fun _ _ _ h => h) (Or.inl ⟨by kernel_rfl, ?h7⟩) HS ?r7
            case h7 => (rintro w n0; go_simp) <;> with_reducible rfl
            try simp only [Act.put, List.getElem_toArray, List.getElem_cons_succ, List.getElem_cons_zero, List.setIfInBounds_toArray, List.set_cons_zero, List.set_cons_succ]
            refine wpAnyH_take (i := 9) (v := ?v8) rfl (by kernel_rfl) (by kernel_rfl) (by kernel_rfl) (fun _ _ _ h => h) (Or.inl ⟨by kernel_rfl, ?h8⟩) HS ?r8
            case h8 => (rintro w n0; go_simp) <;> with_reducible rfl
            try simp only [Act.put, List.getElem_toArray, List.getElem_cons_succ, List.getElem_cons_zero, List.setIfInBounds_toArray, List.set_cons_zero, List.set_cons_succ]
            refine wpAnyH_done (by kernel_rfl) ?_ _
            clear HS
            have HZ : Hid (Jq m (apS s rm js bb).2.1 ∧ SB m rm (j + 1) (apS s rm js bb).2.2) := ⟨jq_append HX.out.2.1 HX.out.2.2.1 HRm.out.2.1 (by have := HV.out.2.2; have := HNN.out; omega), sb_app HX.out.2.2.1 HX.out.2.1.bl HRm.out.2.1 bb⟩
            go_wp2_with fail
            go_meet
            case rel => exact ⟨(apS s rm js bb).1, (apS s rm js bb).2.1, (apS s rm js bb).2.2, rfl, rfl, rfl, HD8.out.1, HZ.out.1, HZ.out.2, HD8.out.2⟩
          by_cases g2 : kk = 2
          · subst g2
            go_upto_region 21 with fail
            have HXd : Hid (P2 (SD V S d (.pointer (some q)) rm m s js) (SR r c' g' rm m s js) w wx.drew (fun k => k = bo)) := (HX.out.1.later (sd_owns _ _ _ _ _ _ _ _) (sr_owns _ _ _ _ _ _ _) ((Below.refl _ _).drew)).weak (fun k hk => Or.inl hk)
            have y0d : wx.drew.cell? ⟨bo, 0, none⟩ = some (.int .i64 2) := HX.out.2.2.2.1
            refine wp_region_held_drew (S := fun W => W.cell? ⟨bo, 2, none⟩ = some (.slice a1 nb1 p1)) (by kernel_rfl) y2 (fun HS => ?_)
            generalize wx.drew = q0 at *
            refine wpAnyH_take (i := 0) (v := ?v9) rfl (by kernel_rfl) (by kernel_rfl) (by kernel_rfl) (fun _ _ _ h => h) (Or.inl ⟨by kernel_rfl, ?h9⟩) HS ?r9
            case h9 => (rintro w n0; go_simp) <;> with_reducible rfl
            try simp only [Act.put, List.getElem_toArray, List.getElem_cons_succ, List.getElem_cons_zero, List.setIfInBounds_toArray, List.set_cons_zero, List.set_cons_succ]
            refine wpAnyH_take (i := 1) (v := ?v10) rfl (by kernel_rfl) (by kernel_rfl) (by kernel_rfl) (fun _ _ _ h => h) (Or.inl ⟨by kernel_rfl, ?h10⟩) HS ?r10
            case h10 => (rintro w n0; go_simp) <;> with_reducible rfl
            try simp only [Act.put, List.getElem_toArray, List.getElem_cons_succ, List.getElem_cons_zero, List.setIfInBounds_toArray, List.set_cons_zero, List.set_cons_succ]
            refine wpAnyH_take (i := 2) (v := ?v11) rfl (by kernel_rfl) (by kernel_rfl) (by kernel_rfl) (fun _ _ _ h => h) (Or.inl ⟨by kernel_rfl, ?h11⟩) HS ?r11
            case h11 => (rintro w n0; go_simp) <;> with_reducible rfl
            try simp only [Act.put, List.getElem_toArray, List.getElem_cons_succ, List.getElem_cons_zero, List.setIfInBounds_toArray, List.set_cons_zero, List.set_cons_succ]
            refine wpAnyH_take (i := 4) (v := ?v12) rfl (by kernel_rfl) (by kernel_rfl) (by kernel_rfl) (fun _ _ _ h => h) (Or.inl ⟨by kernel_rfl, ?h12⟩) HS ?r12
            case h12 => (rintro w n0; go_simp) <;> with_reducible rfl
            try simp only [Act.put, List.getElem_toArray, List.getElem_cons_succ, List.getElem_cons_zero, List.setIfInBounds_toArray, List.set_cons_zero, List.set_cons_succ]
            refine wpAnyH_take (i := 5) (v := ?v13) rfl (by kernel_rfl) (by kernel_rfl) (by kernel_rfl) (fun _ _ _ h => h) (Or.inl ⟨by kernel_rfl, ?h13⟩) HS ?r13
            case h13 => (rintro w n0; go_simp) <;> with_reducible rfl
            try simp only [Act.put, List.getElem_toArray, List.getElem_cons_succ, List.getElem_cons_zero, List.setIfInBounds_toArray, List.set_cons_zero, List.set_cons_succ]
            refine wpAnyH_take (i := 6) (v := ?v14) rfl (by kernel_rfl) (by kernel_rfl) (by kernel_rfl) (fun _ _ _ h => h) (Or.inl ⟨by kernel_rfl, ?h14⟩) HS ?r14
            case h14 => (rintro w n0; go_simp) <;> with_reducible rfl
            try simp only [Act.put, List.getElem_toArray, List.getElem_cons_succ, List.getElem_cons_zero, List.setIfInBounds_toArray, List.set_cons_zero, List.set_cons_succ]
            refine wpAnyH_ready (rs := [3]) (by kernel_rfl) (by simp) ?_
            refine AllReadyH.cons rfl (fun K hK => ?_) AllReadyH.nil
            go_simp
            refine (sdSave (sr_owns _ _ _ _ _ _ _) HXd.out HT.out HX.out.2.1 HRm.out.1 HRm.out.2.2.2 HRm.out.2.1 (by have := HRm.out; omega) (HV.out.1.later HXd.out.bel) (Lo.ou (Ls.lo HV.out.1)) HV.out.2.1 (by have := HV.out.2.2; have := HNN.out; omega)).mono ?_
            rintro e w7 ⟨rfl, hD7, hK7⟩
            have HD7 : Hid (P2 (SD V S d (.pointer (some q)) rm m (svS s rm js bb).2.1 (svS s rm js bb).2.2) (SR r c' g' rm m s js) w w7 (fun k => k = bo) ∧ w7.cell? ⟨bo, 0, none⟩ = some (.int .i64 2)) := ⟨hD7, cell_blk5 (a := ⟨bo, 0, none⟩) (hK7 bo rfl) y0d⟩
            refine hK.out _ _ (cell_blk5 (a := ⟨bo, 2, none⟩) (hK7 bo rfl) HS) (fun HS => ?_)
            clear hK K hD7 hK7 HXd y0d
            try simp only [Act.put, List.getElem_toArray, List.getElem_cons_succ, List.getElem_cons_zero, List.setIfInBounds_toArray, List.set_cons_zero, List.set_cons_succ]
            refine wpAnyH_ready (rs := [7]) (by kernel_rfl) (by simp) ?_
            refine AllReadyH.cons rfl (fun K hK => ?_) AllReadyH.nil
            go_simp
            refine (srSave (sd_owns _ _ _ _ _ _ _ _) HD7.out.1 HX.out.2.1 HRm.out.1 HRm.out.2.1 (by have := HRm.out; omega) (HV.out.1.later HD7.out.1.bel) (Lo.ou (Ls.lo HV.out.1)) HV.out.2.1 (by have := HV.out.2.2; have := HNN.out; omega)).mono ?_
            rintro e w8 ⟨rfl, hD8, hK8⟩
            have HD8 : Hid (P2 (SD V S d (.pointer (some q)) rm m (svS s rm js bb).2.1 (svS s rm js bb).2.2) (SR r c' g' rm m (svS s rm js bb).2.1 (svS s rm js bb).2.2) w w8 (fun k => k = bo) ∧ w8.cell? ⟨bo, 0, none⟩ = some (.int .i64 2)) := ⟨hD8, cell_blk5 (a := ⟨bo, 0, none⟩) (hK8 bo rfl) HD7.out.2⟩
            refine hK.out _ _ (cell_blk5 (a := ⟨bo, 2, none⟩) (hK8 bo rfl) HS) (fun HS => ?_)
            clear hK K hD8 hK8 HD7
            try simp only [Act.put, List.getElem_toArray, List.getElem_cons_succ, List.getElem_cons_zero, List.setIfInBounds_toArray, List.set_cons_zero, List.set_cons_succ]
            refine wpAnyH_take (i := 8) (v := ?v15) rfl (by kernel_rfl) (by kernel_rfl) (by kernel_rfl) (fun _ _ _ h => h) (Or.inl ⟨by kernel_rfl, ?h15⟩) HS ?r15
            case h15 => (rintro w n0; go_simp) <;> with_reducible rfl
            try simp only [Act.put, List.getElem_toArray, List.getElem_cons_succ, List.getElem_cons_zero, List.setIfInBounds_toArray, List.set_cons_zero, List.set_cons_succ]
            refine wpAnyH_take (i := 9) (v := ?v16) rfl (by kernel_rfl) (by kernel_rfl) (by kernel_rfl) (fun _ _ _ h => h) (Or.inl ⟨by kernel_rfl, ?h16⟩) HS ?r16
            case h16 => (rintro w n0; go_simp) <;> with_reducible rfl
            try simp only [Act.put, List.getElem_toArray, List.getElem_cons_succ, List.getElem_cons_zero, List.setIfInBounds_toArray, List.set_cons_zero, List.set_cons_succ]
            refine wpAnyH_done (by kernel_rfl) ?_ _
            clear HS
            have HZ : Hid (Jq m (svS s rm js bb).2.1 ∧ SB m rm (j + 1) (svS s rm js bb).2.2) := ⟨jq_save HX.out.2.1 HRm.out.2.1 HRm.out.2.2.2, (sb_save HX.out.2.2.1 s bb).up (by omega)⟩
            go_wp2_with fail
            go_meet
            case rel => exact ⟨(svS s rm js bb).1, (svS s rm js bb).2.1, (svS s rm js bb).2.2, rfl, rfl, rfl, HD8.out.1, HZ.out.1, HZ.out.2, HD8.out.2⟩
          by_cases g4 : kk = 4
          · subst g4
            go_wp2_with fail
            refine (sdArm (sr_owns _ _ _ _ _ _ _) HX.out.1 ii HVf.out.2.2).mono ?_
            rintro e w7 ⟨rfl, hD7, hK7⟩
            have HD7 : Hid (P2 (SD V S d (.pointer (some q)) rm m (arS s ii) js) (SR r c' g' rm m s js) w w7 (fun k => k = bo) ∧ w7.cell? ⟨bo, 0, none⟩ = some (.int .i64 4)) := ⟨hD7, cell_blk5 (a := ⟨bo, 0, none⟩) (hK7 bo rfl) y0⟩
            have y1' : w7.cell? ⟨bo, 1, none⟩ = some (.int .i64 ii) := cell_blk5 (a := ⟨bo, 1, none⟩) (hK7 bo rfl) y1
            clear hD7 hK7 y0 y1 y2 y3
            go_wp2_with fail
            refine (srArm (sd_owns _ _ _ _ _ _ _ _) HD7.out.1 ii HVf.out.2.2).mono ?_
            rintro e w8 ⟨rfl, hD8, hK8⟩
            have HD8 : Hid (P2 (SD V S d (.pointer (some q)) rm m (arS s ii) js) (SR r c' g' rm m (arS s ii) js) w w8 (fun k => k = bo) ∧ w8.cell? ⟨bo, 0, none⟩ = some (.int .i64 4) ∧ Jq m (arS s ii) ∧ SB m rm (j + 1) js) := ⟨hD8, cell_blk5 (a := ⟨bo, 0, none⟩) (hK8 bo rfl) HD7.out.2, jq_ar HX.out.2.1 ii, HX.out.2.2.1.up (by omega)⟩
            clear hD8 hK8 HD7 y1'
            go_wp2_with fail
            go_meet
            case rel => exact ⟨0, arS s ii, js, rfl, rfl, rfl, HD8.out.1, HD8.out.2.2.1, HD8.out.2.2.2, HD8.out.2.1⟩
          by_cases g5 : kk = 5
          · subst g5
            go_wp2_with fail
            refine (sdCrash (sr_owns _ _ _ _ _ _ _) HX.out.1 HX.out.2.1.le (HVf.out.1.later HX.out.1.bel) (Lo.ou HVf.out.1.lo) (by have := HVf.out.2.1; have := HNN.out.2; omega)).mono ?_
            rintro e w7 ⟨rfl, hD7, hK7⟩
            have HD7 : Hid (P2 (SD V S d (.pointer (some q)) rm m (crS s ff) js) (SR r c' g' rm m s js) w w7 (fun k => k = bo) ∧ w7.cell? ⟨bo, 0, none⟩ = some (.int .i64 5)) := ⟨hD7, cell_blk5 (a := ⟨bo, 0, none⟩) (hK7 bo rfl) y0⟩
            have y3' : w7.cell? ⟨bo, 3, none⟩ = some (.slice a2 nf1 p2) := cell_blk5 (a := ⟨bo, 3, none⟩) (hK7 bo rfl) y3
            clear hD7 hK7 y0 y1 y2 y3
            go_wp2_with fail
            refine (fates18 _ ff (by have := HVf.out.2.1; have := HNN.out.2; omega) w7 (HVf.out.1.later HD7.out.1.bel)).mono ?_
            rintro e w75 ⟨v5, rfl, hv5, ho5, hb5⟩
            have HD75 : Hid (P2 (SD V S d (.pointer (some q)) rm m (crS s ff) js) (SR r c' g' rm m s js) w w75 (fun i => i = bo ∨ (w7.heap.size ≤ i ∧ i < w75.heap.size)) ∧ w75.cell? ⟨bo, 0, none⟩ = some (.int .i64 5) ∧ Fts w75 v5 ff ∧ Ou w.heap.size (fun i => i = bo ∨ (w7.heap.size ≤ i ∧ i < w75.heap.size)) v5) := ⟨HD7.out.1.later (sd_owns _ _ _ _ _ _ _ _) (sr_owns _ _ _ _ _ _ _) hb5, cell_later hb5 HD7.out.2, hv5, fun a n cap e hn => Or.inr (Or.inr ⟨ho5 a n cap e hn, Fts.lo hv5 a n cap e hn⟩)⟩
            obtain ⟨a5, p5, rfl, -, -⟩ := hv5.len
            clear hv5 ho5 hb5 HD7 y3'
            go_wp2_with fail
            refine (srCrash (sd_owns _ _ _ _ _ _ _ _) HD75.out.1 HX.out.2.1.le HD75.out.2.2.1 HD75.out.2.2.2 (by have := HVf.out.2.1; have := HNN.out.2; omega)).mono ?_
            rintro e w8 ⟨rfl, hD8, hK8⟩
            have HD8 : Hid (P2 (SD V S d (.pointer (some q)) rm m (crS s ff) js) (SR r c' g' rm m (crS s ff) js) w w8 (fun k => k = bo) ∧ w8.cell? ⟨bo, 0, none⟩ = some (.int .i64 5) ∧ Jq m (crS s ff) ∧ SB m rm (j + 1) js) := ⟨hD8.weak (fun k hk => Or.inl hk), cell_blk5 (a := ⟨bo, 0, none⟩) (hK8 bo (Or.inl rfl)) HD75.out.2.1, jq_cr HX.out.2.1 ff, HX.out.2.2.1.up (by omega)⟩
            clear hD8 hK8 HD75
            go_wp2_with fail
            go_meet
            case rel => exact ⟨0, crS s ff, js, rfl, rfl, rfl, HD8.out.1, HD8.out.2.2.1, HD8.out.2.2.2, HD8.out.2.1⟩
          go_wp2_with fail
          go_meet
          case rel => exact ⟨0, s, js, rfl, rfl, rfl, HX.out.1, HX.out.2.1, HX.out.2.2.1.up (by omega), y0⟩
        case rest =>
          obtain ⟨E, s', js', rfl, rfl, rfl, HC⟩ := hcut
          clear HX y0
          have y0 := HC.out.2.2.2
          obtain ⟨bg, hbg⟩ : ∃ bg, js'.bg = bg := ⟨_, rfl⟩
          obtain ⟨dn, hdn⟩ : ∃ dn, s'.dn = dn := ⟨_, rfl⟩
          have HG : Hid (js'.bg = bg ∧ s'.dn = dn) := ⟨hbg, hdn⟩
          obtain ⟨br, vBr, vUr, csr, dsr, Gr0, er, hRr⟩ := HC.out.1.sd2.ref
          subst er
          have r4c := hRr.c4
          rw [hdn] at r4c
          clear hRr hbg hdn
          by_cases g35 : kk = 3 ∨ kk = 5
          · have HK35 : Hid (kk = 3 ∨ kk = 5) := g35
            clear g35
            rcases HK35.out with hkk | hkk
            · obtain rfl : kk = 3 := hkk
              cases dn with
              | true =>
                have HO := hid5 (sdDown (sr_owns _ _ _ _ _ _ _) HC.out.1 HT.out HC.out.2.1 HRm.out.1 HRm.out.2.2.2 HRm.out.2.1 (by have := HRm.out; omega) HG.out.2)
                go_wp2_with fail
                refine HO.out.mono ?_
                rintro e w21 ⟨vb, vl, rfl, hB, hTl, hP, hb⟩
                obtain ⟨ab, cb, rfl, -, -⟩ := hB.len
                obtain ⟨al, cl, rfl, -, -⟩ := hTl.len
                rw [show ([] : List Nat).length = 0 from rfl, show ([] : List (List Nat)).length = 0 from rfl]
                have r4 := cell_later hb r4c
                have HF9 : Hid (Pst18 V S d (.pointer (some q)) (.pointer (some ⟨br, 0, none⟩)) c' g' rm m (j + 1) w w21 (fun _ => False)) := ⟨_, _, hP.weak (fun k hk => hk.elim), HC.out.2.1, HC.out.2.2.1⟩
                clear hB hTl hP hb HO HC y0 r4c
                go_wp2_with fail
                go_roundw
                case rel => exact ⟨j + 1, q, c', g', by omega, rfl, rfl, by first | rfl | go_num, HF9.out⟩
                case measure => simp only [intOf]; omega
              | false =>
                have HO := hid5 (sdOpen (sr_owns _ _ _ _ _ _ _) HC.out.1 HT.out HC.out.2.1 HRm.out.1 HRm.out.2.2.2 HRm.out.2.1 (by have := HRm.out; omega) HG.out.2)
                go_wp2_with fail
                refine HO.out.mono ?_
                rintro e w21 ⟨a9, vb, vl, T2, rfl, hP, -, hT2, hTold, hb⟩
                have HP21 : Hid (P2 (SD V S d (.pointer (some a9)) rm m s' ⟨⟨0, 0, 0⟩, false⟩) (SR (.pointer (some ⟨br, 0, none⟩)) c' g' rm m s' js') w w21 (fun k => k = bo ∨ T2 k) ∧ (∀ k, T2 k → k < w21.heap.size) ∧ ∀ w'' : World, (∀ k, T2 k → w''.heap[k]? = w21.heap[k]?) → Bs w'' vb (opB s' rm) ∧ Txs w'' vl (opL s' rm)) := ⟨hP, fun k hk => (hT2 k hk).2, hTold⟩
                have r4 := cell_later hb r4c
                clear hP hT2 hTold hb HO y0
                go_wp2_with fail
                refine (srOpen (sd_owns _ _ _ _ _ _ _ _) HP21.out.1 HC.out.2.1 HRm.out.1 HRm.out.2.1 (by have := HRm.out; omega)).mono ?_
                rintro e w22 ⟨c9, g9, vb2, vl2, rfl, hP2, hB2, hTx2, hb2⟩
                have HTl : Hid (Bs w22 vb (opB s' rm) ∧ Txs w22 vl (opL s' rm) ∧ Bs w22 vb2 (opB s' rm) ∧ Txs w22 vl2 (opL s' rm)) := by
                  have h := HP21.out.2.2 w22 (fun k hk => hb2.block k (HP21.out.2.1 k hk))
                  exact ⟨h.1, h.2, hB2, hTx2⟩
                have HQ2 : Hid (P2 (SD V S d (.pointer (some a9)) rm m s' ⟨⟨0, 0, 0⟩, false⟩) (SR (.pointer (some ⟨br, 0, none⟩)) c9 g9 rm m s' ⟨⟨0, 0, 0⟩, false⟩) w w22 (fun _ => False)) := hP2.weak (fun k hk => hk.elim)
                have r4' := cell_later hb2 r4
                clear hP2 hB2 hTx2 hb2 HP21 r4 r4c
                obtain ⟨ab, cb, rfl, -, -⟩ := HTl.out.1.len
                obtain ⟨al, cl, rfl, -, -⟩ := HTl.out.2.1.len
                obtain ⟨ab2, cb2, rfl, -, -⟩ := HTl.out.2.2.1.len
                obtain ⟨al2, cl2, rfl, -, -⟩ := HTl.out.2.2.2.len
                generalize (opB s' rm).length = lb at *
                generalize (opL s' rm).length = ll at *
                go_wp2_with fail
                refine (sameB _ _ _ _ w22 HTl.out.1 HTl.out.2.2.1).mono ?_
                rintro e w23 ⟨rfl, hb3⟩
                rw [decide_eq_true rfl]
                have HT3 : Hid (Txs w23 (.slice al ll cl) (opL s' rm) ∧ Txs w23 (.slice al2 ll cl2) (opL s' rm)) := ⟨HTl.out.2.1.later hb3, HTl.out.2.2.2.later hb3⟩
                have HQ3 : Hid (P2 (SD V S d (.pointer (some a9)) rm m s' ⟨⟨0, 0, 0⟩, false⟩) (SR (.pointer (some ⟨br, 0, none⟩)) c9 g9 rm m s' ⟨⟨0, 0, 0⟩, false⟩) w w23 (fun _ => False)) := (HQ2.out.later (sd_owns _ _ _ _ _ _ _ _) (sr_owns _ _ _ _ _ _ _) hb3).weak (fun k hk => hk.elim)
                have r4 := cell_later hb3 r4'
                clear hb3 HTl HQ2 r4'
                go_wp2_with fail
                refine (texts18 _ _ _ _ w23 HT3.out.1 HT3.out.2).mono ?_
                rintro e w24 ⟨rfl, hb4⟩
                rw [decide_eq_true rfl]
                have HC2 : Hid (P2 (SD V S d (.pointer (some a9)) rm m s' ⟨⟨0, 0, 0⟩, false⟩) (SR (.pointer (some ⟨br, 0, none⟩)) c9 g9 rm m s' ⟨⟨0, 0, 0⟩, false⟩) w w24 (fun _ => False) ∧ Jq m s' ∧ SB m rm (j + 1) ⟨⟨0, 0, 0⟩, false⟩) := ⟨(HQ3.out.later (sd_owns _ _ _ _ _ _ _ _) (sr_owns _ _ _ _ _ _ _) hb4).weak (fun k hk => hk.elim), HC.out.2.1, (sb_new m rm).up (Nat.zero_le _)⟩
                have r4'' := cell_later hb4 r4
                clear r4 hb4 HT3 HQ3 HC
                have r4 := r4''
                clear r4''
                have t4 : w24.cell? ⟨c9, 4, none⟩ = some (.bool false) := by
                  obtain ⟨A, B, -, ⟨H, -, hS, -, -, -⟩, -⟩ := HC2.out.1
                  exact hS.c4
                go_upto_region 39 with fail
                refine wp_region_held_drew (S := fun W => W.cell? ⟨c9, 4, none⟩ = some (.bool false) ∧ W.cell? ⟨br, 4, none⟩ = some (.bool false)) (by kernel_rfl) ⟨t4, r4⟩ (fun HS => ?_)
                have HXd : Hid (P2 (SD V S d (.pointer (some a9)) rm m s' ⟨⟨0, 0, 0⟩, false⟩) (SR (.pointer (some ⟨br, 0, none⟩)) c9 g9 rm m s' ⟨⟨0, 0, 0⟩, false⟩) w w24.drew (fun _ => False)) := (HC2.out.1.later (sd_owns _ _ _ _ _ _ _ _) (sr_owns _ _ _ _ _ _ _) ((Below.refl _ _).drew)).weak (fun k hk => hk.elim)
                generalize w24.drew = q0 at *
                refine wpAnyH_take (i := 0) (v := ?v17) rfl (by kernel_rfl) (by kernel_rfl) (by kernel_rfl) (fun _ _ _ h => h) (Or.inl ⟨by kernel_rfl, ?h17⟩) HS ?r17
                case h17 => (rintro w ⟨n0, n1⟩; go_simp) <;> with_reducible rfl
                try simp only [Act.put, List.getElem_toArray, List.getElem_cons_succ, List.getElem_cons_zero, List.setIfInBounds_toArray, List.set_cons_zero, List.set_cons_succ]
                refine wpAnyH_take (i := 2) (v := ?v18) rfl (by kernel_rfl) (by kernel_rfl) (by kernel_rfl) (fun _ _ _ h => h) (Or.inl ⟨by kernel_rfl, ?h18⟩) HS ?r18
                case h18 => (rintro w ⟨n0, n1⟩; go_simp) <;> with_reducible rfl
                try simp only [Act.put, List.getElem_toArray, List.getElem_cons_succ, List.getElem_cons_zero, List.setIfInBounds_toArray, List.set_cons_zero, List.set_cons_succ]
                refine wpAnyH_ready (rs := [1]) (by kernel_rfl) (by simp) ?_
                refine AllReadyH.cons rfl (fun K hK => ?_) AllReadyH.nil
                go_simp
                refine (sdLeft (sr_owns _ _ _ _ _ _ _) HXd.out HC2.out.2.1 HC2.out.2.2).mono ?_
                rintro e w31 ⟨rfl, hb31⟩
                have HX31 : Hid (P2 (SD V S d (.pointer (some a9)) rm m s' ⟨⟨0, 0, 0⟩, false⟩) (SR (.pointer (some ⟨br, 0, none⟩)) c9 g9 rm m s' ⟨⟨0, 0, 0⟩, false⟩) w w31 (fun _ => False)) := (HXd.out.later (sd_owns _ _ _ _ _ _ _ _) (sr_owns _ _ _ _ _ _ _) hb31).weak (fun k hk => hk.elim)
                refine hK.out _ _ ⟨cell_later hb31 HS.1, cell_later hb31 HS.2⟩ (fun HS => ?_)
                clear hK K hb31 HXd
                try simp only [Act.put, List.getElem_toArray, List.getElem_cons_succ, List.getElem_cons_zero, List.setIfInBounds_toArray, List.set_cons_zero, List.set_cons_succ]
                refine wpAnyH_ready (rs := [3]) (by kernel_rfl) (by simp) ?_
                refine AllReadyH.cons rfl (fun K hK => ?_) AllReadyH.nil
                go_simp
                refine (srLeft (sd_owns _ _ _ _ _ _ _ _) HX31.out (by have := HRm.out; omega) HC2.out.2.2).mono ?_
                rintro e w32 ⟨rfl, hb32⟩
                have HX32 : Hid (P2 (SD V S d (.pointer (some a9)) rm m s' ⟨⟨0, 0, 0⟩, false⟩) (SR (.pointer (some ⟨br, 0, none⟩)) c9 g9 rm m s' ⟨⟨0, 0, 0⟩, false⟩) w w32 (fun _ => False)) := (HX31.out.later (sd_owns _ _ _ _ _ _ _ _) (sr_owns _ _ _ _ _ _ _) hb32).weak (fun k hk => hk.elim)
                refine hK.out _ _ ⟨cell_later hb32 HS.1, cell_later hb32 HS.2⟩ (fun HS => ?_)
                clear hK K hb32 HX31
                try simp only [Act.put, List.getElem_toArray, List.getElem_cons_succ, List.getElem_cons_zero, List.setIfInBounds_toArray, List.set_cons_zero, List.set_cons_succ]
                try dsimp only
                refine wpAnyH_take (i := 4) (v := ?v19) rfl (by kernel_rfl) (by kernel_rfl) (by kernel_rfl) (fun _ _ _ h => h) (Or.inl ⟨by kernel_rfl, ?h19⟩) HS ?r19
                case h19 => (rintro w ⟨n0, n1⟩; go_simp) <;> with_reducible rfl
                try simp only [Act.put, List.getElem_toArray, List.getElem_cons_succ, List.getElem_cons_zero, List.setIfInBounds_toArray, List.set_cons_zero, List.set_cons_succ]
                refine wpAnyH_take (i := 5) (v := ?v20) rfl (by kernel_rfl) (by kernel_rfl) (by kernel_rfl) (fun _ _ _ h => h) (Or.inl ⟨by kernel_rfl, ?h20⟩) HS ?r20
                case h20 => (rintro w ⟨n0, n1⟩; go_simp) <;> with_reducible rfl
                try simp only [Act.put, List.getElem_toArray, List.getElem_cons_succ, List.getElem_cons_zero, List.setIfInBounds_toArray, List.set_cons_zero, List.set_cons_succ]
                refine wpAnyH_take (i := 6) (v := ?v21) rfl (by kernel_rfl) (by kernel_rfl) (by kernel_rfl) (fun _ _ _ h => h) (Or.inl ⟨by kernel_rfl, ?h21⟩) HS ?r21
                case h21 => (rintro w ⟨n0, n1⟩; go_simp) <;> with_reducible rfl
                try simp only [Act.put, List.getElem_toArray, List.getElem_cons_succ, List.getElem_cons_zero, List.setIfInBounds_toArray, List.set_cons_zero, List.set_cons_succ]
                refine wpAnyH_take (i := 8) (v := ?v22) rfl (by kernel_rfl) (by kernel_rfl) (by kernel_rfl) (fun _ _ _ h => h) (Or.inl ⟨by kernel_rfl, ?h22⟩) HS ?r22
                case h22 => (rintro w ⟨n0, n1⟩; go_simp) <;> with_reducible rfl
                try simp only [Act.put, List.getElem_toArray, List.getElem_cons_succ, List.getElem_cons_zero, List.setIfInBounds_toArray, List.set_cons_zero, List.set_cons_succ]
                refine wpAnyH_take (i := 9) (v := ?v23) rfl (by kernel_rfl) (by kernel_rfl) (by kernel_rfl) (fun _ _ _ h => h) (Or.inl ⟨by kernel_rfl, ?h23⟩) HS ?r23
                case h23 => (rintro w ⟨n0, n1⟩; go_simp) <;> with_reducible rfl
                try simp only [Act.put, List.getElem_toArray, List.getElem_cons_succ, List.getElem_cons_zero, List.setIfInBounds_toArray, List.set_cons_zero, List.set_cons_succ]
                refine wpAnyH_take (i := 10) (v := ?v24) rfl (by kernel_rfl) (by kernel_rfl) (by kernel_rfl) (fun _ _ _ h => h) (Or.inl ⟨by kernel_rfl, ?h24⟩) HS ?r24
                case h24 => (rintro w ⟨n0, n1⟩; go_simp) <;> with_reducible rfl
                try simp only [Act.put, List.getElem_toArray, List.getElem_cons_succ, List.getElem_cons_zero, List.setIfInBounds_toArray, List.set_cons_zero, List.set_cons_succ]
                refine wpAnyH_take (i := 11) (v := ?v25) rfl (by kernel_rfl) (by kernel_rfl) (by kernel_rfl) (fun _ _ _ h => h) (Or.inl ⟨by kernel_rfl, ?h25⟩) HS ?r25
                case h25 => (rintro w ⟨n0, n1⟩; go_simp) <;> with_reducible rfl
                try simp only [Act.put, List.getElem_toArray, List.getElem_cons_succ, List.getElem_cons_zero, List.setIfInBounds_toArray, List.set_cons_zero, List.set_cons_succ]
                refine wpAnyH_ready (rs := [7]) (by kernel_rfl) (by simp) ?_
                refine AllReadyH.cons rfl (fun K hK => ?_) AllReadyH.nil
                go_simp
                refine (sdBegun (sr_owns _ _ _ _ _ _ _) HX32.out).mono ?_
                rintro e w33 ⟨rfl, hb33⟩
                try dsimp only
                have HX33 : Hid (P2 (SD V S d (.pointer (some a9)) rm m s' ⟨⟨0, 0, 0⟩, false⟩) (SR (.pointer (some ⟨br, 0, none⟩)) c9 g9 rm m s' ⟨⟨0, 0, 0⟩, false⟩) w w33 (fun _ => False)) := (HX32.out.later (sd_owns _ _ _ _ _ _ _ _) (sr_owns _ _ _ _ _ _ _) hb33).weak (fun k hk => hk.elim)
                refine hK.out _ _ ⟨cell_later hb33 HS.1, cell_later hb33 HS.2⟩ (fun HS => ?_)
                clear hK K hb33 HX32
                try simp only [Act.put, List.getElem_toArray, List.getElem_cons_succ, List.getElem_cons_zero, List.setIfInBounds_toArray, List.set_cons_zero, List.set_cons_succ]
                refine wpAnyH_take (i := 12) (v := ?v26) rfl (by kernel_rfl) (by kernel_rfl) (by kernel_rfl) (fun _ _ _ h => h) (Or.inl ⟨by kernel_rfl, ?h26⟩) HS ?r26
                case h26 => (rintro w ⟨n0, n1⟩; go_simp) <;> with_reducible rfl
                try simp only [Act.put, List.getElem_toArray, List.getElem_cons_succ, List.getElem_cons_zero, List.setIfInBounds_toArray, List.set_cons_zero, List.set_cons_succ]
                refine wpAnyH_take (i := 13) (v := ?v27) rfl (by kernel_rfl) (by kernel_rfl) (by kernel_rfl) (fun _ _ _ h => h) (Or.inl ⟨by kernel_rfl, ?h27⟩) HS ?r27
                case h27 => (rintro w ⟨n0, n1⟩; go_simp) <;> with_reducible rfl
                try simp only [Act.put, List.getElem_toArray, List.getElem_cons_succ, List.getElem_cons_zero, List.setIfInBounds_toArray, List.set_cons_zero, List.set_cons_succ]
                refine wpAnyH_take (i := 14) (v := ?v28) rfl (by kernel_rfl) (by kernel_rfl) (by kernel_rfl) (fun _ _ _ h => h) (Or.inl ⟨by kernel_rfl, ?h28⟩) HS ?r28
                case h28 => (rintro w ⟨n0, n1⟩; go_simp) <;> with_reducible rfl
                try simp only [Act.put, List.getElem_toArray, List.getElem_cons_succ, List.getElem_cons_zero, List.setIfInBounds_toArray, List.set_cons_zero, List.set_cons_succ]
                refine wpAnyH_take (i := 15) (v := ?v29) rfl (by kernel_rfl) (by kernel_rfl) (by kernel_rfl) (fun _ _ _ h => h) (Or.inl ⟨by kernel_rfl, ?h29⟩) HS ?r29
                case h29 => (rintro w ⟨n0, n1⟩; go_simp) <;> with_reducible rfl
                try simp only [Act.put, List.getElem_toArray, List.getElem_cons_succ, List.getElem_cons_zero, List.setIfInBounds_toArray, List.set_cons_zero, List.set_cons_succ]
                refine wpAnyH_take (i := 17) (v := ?v30) rfl (by kernel_rfl) (by kernel_rfl) (by kernel_rfl) (fun _ _ _ h => h) (Or.inl ⟨by kernel_rfl, ?h30⟩) HS ?r30
                case h30 => (rintro w ⟨n0, n1⟩; go_simp) <;> with_reducible rfl
                try simp only [Act.put, List.getElem_toArray, List.getElem_cons_succ, List.getElem_cons_zero, List.setIfInBounds_toArray, List.set_cons_zero, List.set_cons_succ]
                refine wpAnyH_take (i := 18) (v := ?v31) rfl (by kernel_rfl) (by kernel_rfl) (by kernel_rfl) (fun _ _ _ h => h) (Or.inl ⟨by kernel_rfl, ?h31⟩) HS ?r31
                case h31 => (rintro w ⟨n0, n1⟩; go_simp) <;> with_reducible rfl
                try simp only [Act.put, List.getElem_toArray, List.getElem_cons_succ, List.getElem_cons_zero, List.setIfInBounds_toArray, List.set_cons_zero, List.set_cons_succ]
                refine wpAnyH_take (i := 19) (v := ?v32) rfl (by kernel_rfl) (by kernel_rfl) (by kernel_rfl) (fun _ _ _ h => h) (Or.inl ⟨by kernel_rfl, ?h32⟩) HS ?r32
                case h32 => (rintro w ⟨n0, n1⟩; go_simp) <;> with_reducible rfl
                try simp only [Act.put, List.getElem_toArray, List.getElem_cons_succ, List.getElem_cons_zero, List.setIfInBounds_toArray, List.set_cons_zero, List.set_cons_succ]
                refine wpAnyH_take (i := 20) (v := ?v33) rfl (by kernel_rfl) (by kernel_rfl) (by kernel_rfl) (fun _ _ _ h => h) (Or.inl ⟨by kernel_rfl, ?h33⟩) HS ?r33
                case h33 => (rintro w ⟨n0, n1⟩; go_simp) <;> with_reducible rfl
                try simp only [Act.put, List.getElem_toArray, List.getElem_cons_succ, List.getElem_cons_zero, List.setIfInBounds_toArray, List.set_cons_zero, List.set_cons_succ]
                refine wpAnyH_ready (rs := [16]) (by kernel_rfl) (by simp) ?_
                refine AllReadyH.cons rfl (fun K hK => ?_) AllReadyH.nil
                go_simp
                refine (d2Down HX33.out.sd2).mono ?_
                rintro e w34 ⟨rfl, hb34⟩
                rw [HG.out.2]
                have HF9 : Hid (Pst18 V S d (.pointer (some a9)) (.pointer (some ⟨br, 0, none⟩)) c9 g9 rm m (j + 1) w w34 (fun _ => False)) := ⟨_, _, (HX33.out.later (sd_owns _ _ _ _ _ _ _ _) (sr_owns _ _ _ _ _ _ _) hb34).weak (fun k hk => hk.elim), HC2.out.2.1, HC2.out.2.2⟩
                refine hK.out _ _ ⟨cell_later hb34 HS.1, cell_later hb34 HS.2⟩ (fun HS => ?_)
                clear hK K hb34 HX33
                try simp only [Act.put, List.getElem_toArray, List.getElem_cons_succ, List.getElem_cons_zero, List.setIfInBounds_toArray, List.set_cons_zero, List.set_cons_succ]
                refine wpAnyH_take (i := 21) (v := ?v34) rfl (by kernel_rfl) (by kernel_rfl) (by kernel_rfl) (fun _ _ _ h => h) (Or.inl ⟨by kernel_rfl, ?h34⟩) HS ?r34
                case h34 => (rintro w ⟨n0, n1⟩; go_simp) <;> with_reducible rfl
                try simp only [Act.put, List.getElem_toArray, List.getElem_cons_succ, List.getElem_cons_zero, List.setIfInBounds_toArray, List.set_cons_zero, List.set_cons_succ]
                refine wpAnyH_take (i := 22) (v := ?v35) rfl (by kernel_rfl) (by kernel_rfl) (by kernel_rfl) (fun _ _ _ h => h) (Or.inl ⟨by kernel_rfl, ?h35⟩) HS ?r35
                case h35 => (rintro w ⟨n0, n1⟩; go_simp) <;> with_reducible rfl
                try simp only [Act.put, List.getElem_toArray, List.getElem_cons_succ, List.getElem_cons_zero, List.setIfInBounds_toArray, List.set_cons_zero, List.set_cons_succ]
                refine wpAnyH_done (by kernel_rfl) ?_ _
                clear HS
                go_wp2_with fail
                go_roundw
                case rel => exact ⟨j + 1, a9, c9, g9, by omega, rfl, rfl, by first | rfl | go_num, HF9.out⟩
                case measure => simp only [intOf]; omega
            · obtain rfl : kk = 5 := hkk
              cases dn with
              | true =>
                have HO := hid5 (sdDown (sr_owns _ _ _ _ _ _ _) HC.out.1 HT.out HC.out.2.1 HRm.out.1 HRm.out.2.2.2 HRm.out.2.1 (by have := HRm.out; omega) HG.out.2)
                go_wp2_with fail
                refine HO.out.mono ?_
                rintro e w21 ⟨vb, vl, rfl, hB, hTl, hP, hb⟩
                obtain ⟨ab, cb, rfl, -, -⟩ := hB.len
                obtain ⟨al, cl, rfl, -, -⟩ := hTl.len
                rw [show ([] : List Nat).length = 0 from rfl, show ([] : List (List Nat)).length = 0 from rfl]
                have r4 := cell_later hb r4c
                have HF9 : Hid (Pst18 V S d (.pointer (some q)) (.pointer (some ⟨br, 0, none⟩)) c' g' rm m (j + 1) w w21 (fun _ => False)) := ⟨_, _, hP.weak (fun k hk => hk.elim), HC.out.2.1, HC.out.2.2.1⟩
                clear hB hTl hP hb HO HC y0 r4c
                go_wp2_with fail
                go_roundw
                case rel => exact ⟨j + 1, q, c', g', by omega, rfl, rfl, by first | rfl | go_num, HF9.out⟩
                case measure => simp only [intOf]; omega
              | false =>
                have HO := hid5 (sdOpen (sr_owns _ _ _ _ _ _ _) HC.out.1 HT.out HC.out.2.1 HRm.out.1 HRm.out.2.2.2 HRm.out.2.1 (by have := HRm.out; omega) HG.out.2)
                go_wp2_with fail
                refine HO.out.mono ?_
                rintro e w21 ⟨a9, vb, vl, T2, rfl, hP, -, hT2, hTold, hb⟩
                have HP21 : Hid (P2 (SD V S d (.pointer (some a9)) rm m s' ⟨⟨0, 0, 0⟩, false⟩) (SR (.pointer (some ⟨br, 0, none⟩)) c' g' rm m s' js') w w21 (fun k => k = bo ∨ T2 k) ∧ (∀ k, T2 k → k < w21.heap.size) ∧ ∀ w'' : World, (∀ k, T2 k → w''.heap[k]? = w21.heap[k]?) → Bs w'' vb (opB s' rm) ∧ Txs w'' vl (opL s' rm)) := ⟨hP, fun k hk => (hT2 k hk).2, hTold⟩
                have r4 := cell_later hb r4c
                clear hP hT2 hTold hb HO y0
                go_wp2_with fail
                refine (srOpen (sd_owns _ _ _ _ _ _ _ _) HP21.out.1 HC.out.2.1 HRm.out.1 HRm.out.2.1 (by have := HRm.out; omega)).mono ?_
                rintro e w22 ⟨c9, g9, vb2, vl2, rfl, hP2, hB2, hTx2, hb2⟩
                have HTl : Hid (Bs w22 vb (opB s' rm) ∧ Txs w22 vl (opL s' rm) ∧ Bs w22 vb2 (opB s' rm) ∧ Txs w22 vl2 (opL s' rm)) := by
                  have h := HP21.out.2.2 w22 (fun k hk => hb2.block k (HP21.out.2.1 k hk))
                  exact ⟨h.1, h.2, hB2, hTx2⟩
                have HQ2 : Hid (P2 (SD V S d (.pointer (some a9)) rm m s' ⟨⟨0, 0, 0⟩, false⟩) (SR (.pointer (some ⟨br, 0, none⟩)) c9 g9 rm m s' ⟨⟨0, 0, 0⟩, false⟩) w w22 (fun _ => False)) := hP2.weak (fun k hk => hk.elim)
                have r4' := cell_later hb2 r4
                clear hP2 hB2 hTx2 hb2 HP21 r4 r4c
                obtain ⟨ab, cb, rfl, -, -⟩ := HTl.out.1.len
                obtain ⟨al, cl, rfl, -, -⟩ := HTl.out.2.1.len
                obtain ⟨ab2, cb2, rfl, -, -⟩ := HTl.out.2.2.1.len
                obtain ⟨al2, cl2, rfl, -, -⟩ := HTl.out.2.2.2.len
                generalize (opB s' rm).length = lb at *
                generalize (opL s' rm).length = ll at *
                go_wp2_with fail
                refine (sameB _ _ _ _ w22 HTl.out.1 HTl.out.2.2.1).mono ?_
                rintro e w23 ⟨rfl, hb3⟩
                rw [decide_eq_true rfl]
                have HT3 : Hid (Txs w23 (.slice al ll cl) (opL s' rm) ∧ Txs w23 (.slice al2 ll cl2) (opL s' rm)) := ⟨HTl.out.2.1.later hb3, HTl.out.2.2.2.later hb3⟩
                have HQ3 : Hid (P2 (SD V S d (.pointer (some a9)) rm m s' ⟨⟨0, 0, 0⟩, false⟩) (SR (.pointer (some ⟨br, 0, none⟩)) c9 g9 rm m s' ⟨⟨0, 0, 0⟩, false⟩) w w23 (fun _ => False)) := (HQ2.out.later (sd_owns _ _ _ _ _ _ _ _) (sr_owns _ _ _ _ _ _ _) hb3).weak (fun k hk => hk.elim)
                have r4 := cell_later hb3 r4'
                clear hb3 HTl HQ2 r4'
                go_wp2_with fail
                refine (texts18 _ _ _ _ w23 HT3.out.1 HT3.out.2).mono ?_
                rintro e w24 ⟨rfl, hb4⟩
                rw [decide_eq_true rfl]
                have HC2 : Hid (P2 (SD V S d (.pointer (some a9)) rm m s' ⟨⟨0, 0, 0⟩, false⟩) (SR (.pointer (some ⟨br, 0, none⟩)) c9 g9 rm m s' ⟨⟨0, 0, 0⟩, false⟩) w w24 (fun _ => False) ∧ Jq m s' ∧ SB m rm (j + 1) ⟨⟨0, 0, 0⟩, false⟩) := ⟨(HQ3.out.later (sd_owns _ _ _ _ _ _ _ _) (sr_owns _ _ _ _ _ _ _) hb4).weak (fun k hk => hk.elim), HC.out.2.1, (sb_new m rm).up (Nat.zero_le _)⟩
                have r4'' := cell_later hb4 r4
                clear r4 hb4 HT3 HQ3 HC
                have r4 := r4''
                clear r4''
                have t4 : w24.cell? ⟨c9, 4, none⟩ = some (.bool false) := by
                  obtain ⟨A, B, -, ⟨H, -, hS, -, -, -⟩, -⟩ := HC2.out.1
                  exact hS.c4
                go_upto_region 39 with fail
                refine wp_region_held_drew (S := fun W => W.cell? ⟨c9, 4, none⟩ = some (.bool false) ∧ W.cell? ⟨br, 4, none⟩ = some (.bool false)) (by kernel_rfl) ⟨t4, r4⟩ (fun HS => ?_)
                have HXd : Hid (P2 (SD V S d (.pointer (some a9)) rm m s' ⟨⟨0, 0, 0⟩, false⟩) (SR (.pointer (some ⟨br, 0, none⟩)) c9 g9 rm m s' ⟨⟨0, 0, 0⟩, false⟩) w w24.drew (fun _ => False)) := (HC2.out.1.later (sd_owns _ _ _ _ _ _ _ _) (sr_owns _ _ _ _ _ _ _) ((Below.refl _ _).drew)).weak (fun k hk => hk.elim)
                generalize w24.drew = q0 at *
                refine wpAnyH_take (i := 0) (v := ?v36) rfl (by kernel_rfl) (by kernel_rfl) (by kernel_rfl) (fun _ _ _ h => h) (Or.inl ⟨by kernel_rfl, ?h36⟩) HS ?r36
                case h36 => (rintro w ⟨n0, n1⟩; go_simp) <;> with_reducible rfl
                try simp only [Act.put, List.getElem_toArray, List.getElem_cons_succ, List.getElem_cons_zero, List.setIfInBounds_toArray, List.set_cons_zero, List.set_cons_succ]
                refine wpAnyH_take (i := 2) (v := ?v37) rfl (by kernel_rfl) (by kernel_rfl) (by kernel_rfl) (fun _ _ _ h => h) (Or.inl ⟨by kernel_rfl, ?h37⟩) HS ?r37
                case h37 => (rintro w ⟨n0, n1⟩; go_simp) <;> with_reducible rfl
                try simp only [Act.put, List.getElem_toArray, List.getElem_cons_succ, List.getElem_cons_zero, List.setIfInBounds_toArray, List.set_cons_zero, List.set_cons_succ]
                refine wpAnyH_ready (rs := [1]) (by kernel_rfl) (by simp) ?_
                refine AllReadyH.cons rfl (fun K hK => ?_) AllReadyH.nil
                go_simp
                refine (sdLeft (sr_owns _ _ _ _ _ _ _) HXd.out HC2.out.2.1 HC2.out.2.2).mono ?_
                rintro e w31 ⟨rfl, hb31⟩
                have HX31 : Hid (P2 (SD V S d (.pointer (some a9)) rm m s' ⟨⟨0, 0, 0⟩, false⟩) (SR (.pointer (some ⟨br, 0, none⟩)) c9 g9 rm m s' ⟨⟨0, 0, 0⟩, false⟩) w w31 (fun _ => False)) := (HXd.out.later (sd_owns _ _ _ _ _ _ _ _) (sr_owns _ _ _ _ _ _ _) hb31).weak (fun k hk => hk.elim)
                refine hK.out _ _ ⟨cell_later hb31 HS.1, cell_later hb31 HS.2⟩ (fun HS => ?_)
                clear hK K hb31 HXd
                try simp only [Act.put, List.getElem_toArray, List.getElem_cons_succ, List.getElem_cons_zero, List.setIfInBounds_toArray, List.set_cons_zero, List.set_cons_succ]
                refine wpAnyH_ready (rs := [3]) (by kernel_rfl) (by simp) ?_
                refine AllReadyH.cons rfl (fun K hK => ?_) AllReadyH.nil
                go_simp
                refine (srLeft (sd_owns _ _ _ _ _ _ _ _) HX31.out (by have := HRm.out; omega) HC2.out.2.2).mono ?_
                rintro e w32 ⟨rfl, hb32⟩
                have HX32 : Hid (P2 (SD V S d (.pointer (some a9)) rm m s' ⟨⟨0, 0, 0⟩, false⟩) (SR (.pointer (some ⟨br, 0, none⟩)) c9 g9 rm m s' ⟨⟨0, 0, 0⟩, false⟩) w w32 (fun _ => False)) := (HX31.out.later (sd_owns _ _ _ _ _ _ _ _) (sr_owns _ _ _ _ _ _ _) hb32).weak (fun k hk => hk.elim)
                refine hK.out _ _ ⟨cell_later hb32 HS.1, cell_later hb32 HS.2⟩ (fun HS => ?_)
                clear hK K hb32 HX31
                try simp only [Act.put, List.getElem_toArray, List.getElem_cons_succ, List.getElem_cons_zero, List.setIfInBounds_toArray, List.set_cons_zero, List.set_cons_succ]
                try dsimp only
                refine wpAnyH_take (i := 4) (v := ?v38) rfl (by kernel_rfl) (by kernel_rfl) (by kernel_rfl) (fun _ _ _ h => h) (Or.inl ⟨by kernel_rfl, ?h38⟩) HS ?r38
                case h38 => (rintro w ⟨n0, n1⟩; go_simp) <;> with_reducible rfl
                try simp only [Act.put, List.getElem_toArray, List.getElem_cons_succ, List.getElem_cons_zero, List.setIfInBounds_toArray, List.set_cons_zero, List.set_cons_succ]
                refine wpAnyH_take (i := 5) (v := ?v39) rfl (by kernel_rfl) (by kernel_rfl) (by kernel_rfl) (fun _ _ _ h => h) (Or.inl ⟨by kernel_rfl, ?h39⟩) HS ?r39
                case h39 => (rintro w ⟨n0, n1⟩; go_simp) <;> with_reducible rfl
                try simp only [Act.put, List.getElem_toArray, List.getElem_cons_succ, List.getElem_cons_zero, List.setIfInBounds_toArray, List.set_cons_zero, List.set_cons_succ]
                refine wpAnyH_take (i := 6) (v := ?v40) rfl (by kernel_rfl) (by kernel_rfl) (by kernel_rfl) (fun _ _ _ h => h) (Or.inl ⟨by kernel_rfl, ?h40⟩) HS ?r40
                case h40 => (rintro w ⟨n0, n1⟩; go_simp) <;> with_reducible rfl
                try simp only [Act.put, List.getElem_toArray, List.getElem_cons_succ, List.getElem_cons_zero, List.setIfInBounds_toArray, List.set_cons_zero, List.set_cons_succ]
                refine wpAnyH_take (i := 8) (v := ?v41) rfl (by kernel_rfl) (by kernel_rfl) (by kernel_rfl) (fun _ _ _ h => h) (Or.inl ⟨by kernel_rfl, ?h41⟩) HS ?r41
                case h41 => (rintro w ⟨n0, n1⟩; go_simp) <;> with_reducible rfl
                try simp only [Act.put, List.getElem_toArray, List.getElem_cons_succ, List.getElem_cons_zero, List.setIfInBounds_toArray, List.set_cons_zero, List.set_cons_succ]
                refine wpAnyH_take (i := 9) (v := ?v42) rfl (by kernel_rfl) (by kernel_rfl) (by kernel_rfl) (fun _ _ _ h => h) (Or.inl ⟨by kernel_rfl, ?h42⟩) HS ?r42
                case h42 => (rintro w ⟨n0, n1⟩; go_simp) <;> with_reducible rfl
                try simp only [Act.put, List.getElem_toArray, List.getElem_cons_succ, List.getElem_cons_zero, List.setIfInBounds_toArray, List.set_cons_zero, List.set_cons_succ]
                refine wpAnyH_take (i := 10) (v := ?v43) rfl (by kernel_rfl) (by kernel_rfl) (by kernel_rfl) (fun _ _ _ h => h) (Or.inl ⟨by kernel_rfl, ?h43⟩) HS ?r43
                case h43 => (rintro w ⟨n0, n1⟩; go_simp) <;> with_reducible rfl
                try simp only [Act.put, List.getElem_toArray, List.getElem_cons_succ, List.getElem_cons_zero, List.setIfInBounds_toArray, List.set_cons_zero, List.set_cons_succ]
                refine wpAnyH_take (i := 11) (v := ?v44) rfl (by kernel_rfl) (by kernel_rfl) (by kernel_rfl) (fun _ _ _ h => h) (Or.inl ⟨by kernel_rfl, ?h44⟩) HS ?r44
                case h44 => (rintro w ⟨n0, n1⟩; go_simp) <;> with_reducible rfl
                try simp only [Act.put, List.getElem_toArray, List.getElem_cons_succ, List.getElem_cons_zero, List.setIfInBounds_toArray, List.set_cons_zero, List.set_cons_succ]
                refine wpAnyH_ready (rs := [7]) (by kernel_rfl) (by simp) ?_
                refine AllReadyH.cons rfl (fun K hK => ?_) AllReadyH.nil
                go_simp
                refine (sdBegun (sr_owns _ _ _ _ _ _ _) HX32.out).mono ?_
                rintro e w33 ⟨rfl, hb33⟩
                try dsimp only
                have HX33 : Hid (P2 (SD V S d (.pointer (some a9)) rm m s' ⟨⟨0, 0, 0⟩, false⟩) (SR (.pointer (some ⟨br, 0, none⟩)) c9 g9 rm m s' ⟨⟨0, 0, 0⟩, false⟩) w w33 (fun _ => False)) := (HX32.out.later (sd_owns _ _ _ _ _ _ _ _) (sr_owns _ _ _ _ _ _ _) hb33).weak (fun k hk => hk.elim)
                refine hK.out _ _ ⟨cell_later hb33 HS.1, cell_later hb33 HS.2⟩ (fun HS => ?_)
                clear hK K hb33 HX32
                try simp only [Act.put, List.getElem_toArray, List.getElem_cons_succ, List.getElem_cons_zero, List.setIfInBounds_toArray, List.set_cons_zero, List.set_cons_succ]
                refine wpAnyH_take (i := 12) (v := ?v45) rfl (by kernel_rfl) (by kernel_rfl) (by kernel_rfl) (fun _ _ _ h => h) (Or.inl ⟨by kernel_rfl, ?h45⟩) HS ?r45
                case h45 => (rintro w ⟨n0, n1⟩; go_simp) <;> with_reducible rfl
                try simp only [Act.put, List.getElem_toArray, List.getElem_cons_succ, List.getElem_cons_zero, List.setIfInBounds_toArray, List.set_cons_zero, List.set_cons_succ]
                refine wpAnyH_take (i := 13) (v := ?v46) rfl (by kernel_rfl) (by kernel_rfl) (by kernel_rfl) (fun _ _ _ h => h) (Or.inl ⟨by kernel_rfl, ?h46⟩) HS ?r46
                case h46 => (rintro w ⟨n0, n1⟩; go_simp) <;> with_reducible rfl
                try simp only [Act.put, List.getElem_toArray, List.getElem_cons_succ, List.getElem_cons_zero, List.setIfInBounds_toArray, List.set_cons_zero, List.set_cons_succ]
                refine wpAnyH_take (i := 14) (v := ?v47) rfl (by kernel_rfl) (by kernel_rfl) (by kernel_rfl) (fun _ _ _ h => h) (Or.inl ⟨by kernel_rfl, ?h47⟩) HS ?r47
                case h47 => (rintro w ⟨n0, n1⟩; go_simp) <;> with_reducible rfl
                try simp only [Act.put, List.getElem_toArray, List.getElem_cons_succ, List.getElem_cons_zero, List.setIfInBounds_toArray, List.set_cons_zero, List.set_cons_succ]
                refine wpAnyH_take (i := 15) (v := ?v48) rfl (by kernel_rfl) (by kernel_rfl) (by kernel_rfl) (fun _ _ _ h => h) (Or.inl ⟨by kernel_rfl, ?h48⟩) HS ?r48
                case h48 => (rintro w ⟨n0, n1⟩; go_simp) <;> with_reducible rfl
                try simp only [Act.put, List.getElem_toArray, List.getElem_cons_succ, List.getElem_cons_zero, List.setIfInBounds_toArray, List.set_cons_zero, List.set_cons_succ]
                refine wpAnyH_take (i := 17) (v := ?v49) rfl (by kernel_rfl) (by kernel_rfl) (by kernel_rfl) (fun _ _ _ h => h) (Or.inl ⟨by kernel_rfl, ?h49⟩) HS ?r49
                case h49 => (rintro w ⟨n0, n1⟩; go_simp) <;> with_reducible rfl
                try simp only [Act.put, List.getElem_toArray, List.getElem_cons_succ, List.getElem_cons_zero, List.setIfInBounds_toArray, List.set_cons_zero, List.set_cons_succ]
                refine wpAnyH_take (i := 18) (v := ?v50) rfl (by kernel_rfl) (by kernel_rfl) (by kernel_rfl) (fun _ _ _ h => h) (Or.inl ⟨by kernel_rfl, ?h50⟩) HS ?r50
                case h50 => (rintro w ⟨n0, n1⟩; go_simp) <;> with_reducible rfl
                try simp only [Act.put, List.getElem_toArray, List.getElem_cons_succ, List.getElem_cons_zero, List.setIfInBounds_toArray, List.set_cons_zero, List.set_cons_succ]
                refine wpAnyH_take (i := 19) (v := ?v51) rfl (by kernel_rfl) (by kernel_rfl) (by kernel_rfl) (fun _ _ _ h => h) (Or.inl ⟨by kernel_rfl, ?h51⟩) HS ?r51
                case h51 => (rintro w ⟨n0, n1⟩; go_simp) <;> with_reducible rfl
                try simp only [Act.put, List.getElem_toArray, List.getElem_cons_succ, List.getElem_cons_zero, List.setIfInBounds_toArray, List.set_cons_zero, List.set_cons_succ]
                refine wpAnyH_take (i := 20) (v := ?v52) rfl (by kernel_rfl) (by kernel_rfl) (by kernel_rfl) (fun _ _ _ h => h) (Or.inl ⟨by kernel_rfl, ?h52⟩) HS ?r52
                case h52 => (rintro w ⟨n0, n1⟩; go_simp) <;> with_reducible rfl
                try simp only [Act.put, List.getElem_toArray, List.getElem_cons_succ, List.getElem_cons_zero, List.setIfInBounds_toArray, List.set_cons_zero, List.set_cons_succ]
                refine wpAnyH_ready (rs := [16]) (by kernel_rfl) (by simp) ?_
                refine AllReadyH.cons rfl (fun K hK => ?_) AllReadyH.nil
                go_simp
                refine (d2Down HX33.out.sd2).mono ?_
                rintro e w34 ⟨rfl, hb34⟩
                rw [HG.out.2]
                have HF9 : Hid (Pst18 V S d (.pointer (some a9)) (.pointer (some ⟨br, 0, none⟩)) c9 g9 rm m (j + 1) w w34 (fun _ => False)) := ⟨_, _, (HX33.out.later (sd_owns _ _ _ _ _ _ _ _) (sr_owns _ _ _ _ _ _ _) hb34).weak (fun k hk => hk.elim), HC2.out.2.1, HC2.out.2.2⟩
                refine hK.out _ _ ⟨cell_later hb34 HS.1, cell_later hb34 HS.2⟩ (fun HS => ?_)
                clear hK K hb34 HX33
                try simp only [Act.put, List.getElem_toArray, List.getElem_cons_succ, List.getElem_cons_zero, List.setIfInBounds_toArray, List.set_cons_zero, List.set_cons_succ]
                refine wpAnyH_take (i := 21) (v := ?v53) rfl (by kernel_rfl) (by kernel_rfl) (by kernel_rfl) (fun _ _ _ h => h) (Or.inl ⟨by kernel_rfl, ?h53⟩) HS ?r53
                case h53 => (rintro w ⟨n0, n1⟩; go_simp) <;> with_reducible rfl
                try simp only [Act.put, List.getElem_toArray, List.getElem_cons_succ, List.getElem_cons_zero, List.setIfInBounds_toArray, List.set_cons_zero, List.set_cons_succ]
                refine wpAnyH_take (i := 22) (v := ?v54) rfl (by kernel_rfl) (by kernel_rfl) (by kernel_rfl) (fun _ _ _ h => h) (Or.inl ⟨by kernel_rfl, ?h54⟩) HS ?r54
                case h54 => (rintro w ⟨n0, n1⟩; go_simp) <;> with_reducible rfl
                try simp only [Act.put, List.getElem_toArray, List.getElem_cons_succ, List.getElem_cons_zero, List.setIfInBounds_toArray, List.set_cons_zero, List.set_cons_succ]
                refine wpAnyH_done (by kernel_rfl) ?_ _
                clear HS
                go_wp2_with fail
                go_roundw
                case rel => exact ⟨j + 1, a9, c9, g9, by omega, rfl, rfl, by first | rfl | go_num, HF9.out⟩
                case measure => simp only [intOf]; omega
          · have g3 : ¬ kk = 3 := fun e => g35 (Or.inl e)
            have g5 : ¬ kk = 5 := fun e => g35 (Or.inr e)
            have g3b : (kk == 3) = false := by simp [g3]
            have g5b : (kk == 5) = false := by simp [g5]
            have g3d : decide (kk = 3) = false := decide_eq_false g3
            have g5d : decide (kk = 5) = false := decide_eq_false g5
            have HC2 : Hid (P2 (SD V S d (.pointer (some q)) rm m s' js') (SR (.pointer (some ⟨br, 0, none⟩)) c' g' rm m s' js') w wc (fun _ => False) ∧ Jq m s' ∧ SB m rm (j + 1) js') := ⟨HC.out.1.weak (fun k hk => hk.elim), HC.out.2.1, HC.out.2.2.1⟩
            have t4 : wc.cell? ⟨c', 4, none⟩ = some (.bool bg) := by
              obtain ⟨A, B, -, ⟨H, -, hS, -, -, -⟩, -⟩ := HC.out.1
              have := hS.c4
              rwa [HG.out.1] at this
            have r4 := r4c
            clear g35 HC
            go_upto_region 39 with fail
            refine wp_region_held_drew (S := fun W => W.cell? ⟨c', 4, none⟩ = some (.bool bg) ∧ W.cell? ⟨br, 4, none⟩ = some (.bool dn)) (by kernel_rfl) ⟨t4, r4⟩ (fun HS => ?_)
            have HXd : Hid (P2 (SD V S d (.pointer (some q)) rm m s' js') (SR (.pointer (some ⟨br, 0, none⟩)) c' g' rm m s' js') w wc.drew (fun _ => False)) := (HC2.out.1.later (sd_owns _ _ _ _ _ _ _ _) (sr_owns _ _ _ _ _ _ _) ((Below.refl _ _).drew)).weak (fun k hk => hk.elim)
            generalize wc.drew = q0 at *
            refine wpAnyH_take (i := 0) (v := ?v55) rfl (by kernel_rfl) (by kernel_rfl) (by kernel_rfl) (fun _ _ _ h => h) (Or.inl ⟨by kernel_rfl, ?h55⟩) HS ?r55
            case h55 => (rintro w ⟨n0, n1⟩; go_simp) <;> with_reducible rfl
            try simp only [Act.put, List.getElem_toArray, List.getElem_cons_succ, List.getElem_cons_zero, List.setIfInBounds_toArray, List.set_cons_zero, List.set_cons_succ]
            refine wpAnyH_take (i := 2) (v := ?v56) rfl (by kernel_rfl) (by kernel_rfl) (by kernel_rfl) (fun _ _ _ h => h) (Or.inl ⟨by kernel_rfl, ?h56⟩) HS ?r56
            case h56 => (rintro w ⟨n0, n1⟩; go_simp) <;> with_reducible rfl
            try simp only [Act.put, List.getElem_toArray, List.getElem_cons_succ, List.getElem_cons_zero, List.setIfInBounds_toArray, List.set_cons_zero, List.set_cons_succ]
            refine wpAnyH_ready (rs := [1]) (by kernel_rfl) (by simp) ?_
            refine AllReadyH.cons rfl (fun K hK => ?_) AllReadyH.nil
            go_simp
            refine (sdLeft (sr_owns _ _ _ _ _ _ _) HXd.out HC2.out.2.1 HC2.out.2.2).mono ?_
            rintro e w31 ⟨rfl, hb31⟩
            have HX31 : Hid (P2 (SD V S d (.pointer (some q)) rm m s' js') (SR (.pointer (some ⟨br, 0, none⟩)) c' g' rm m s' js') w w31 (fun _ => False)) := (HXd.out.later (sd_owns _ _ _ _ _ _ _ _) (sr_owns _ _ _ _ _ _ _) hb31).weak (fun k hk => hk.elim)
            refine hK.out _ _ ⟨cell_later hb31 HS.1, cell_later hb31 HS.2⟩ (fun HS => ?_)
            clear hK K hb31 HXd
            try simp only [Act.put, List.getElem_toArray, List.getElem_cons_succ, List.getElem_cons_zero, List.setIfInBounds_toArray, List.set_cons_zero, List.set_cons_succ]
            refine wpAnyH_ready (rs := [3]) (by kernel_rfl) (by simp) ?_
            refine AllReadyH.cons rfl (fun K hK => ?_) AllReadyH.nil
            go_simp
            refine (srLeft (sd_owns _ _ _ _ _ _ _ _) HX31.out (by have := HRm.out; omega) HC2.out.2.2).mono ?_
            rintro e w32 ⟨rfl, hb32⟩
            have HX32 : Hid (P2 (SD V S d (.pointer (some q)) rm m s' js') (SR (.pointer (some ⟨br, 0, none⟩)) c' g' rm m s' js') w w32 (fun _ => False)) := (HX31.out.later (sd_owns _ _ _ _ _ _ _ _) (sr_owns _ _ _ _ _ _ _) hb32).weak (fun k hk => hk.elim)
            refine hK.out _ _ ⟨cell_later hb32 HS.1, cell_later hb32 HS.2⟩ (fun HS => ?_)
            clear hK K hb32 HX31
            try simp only [Act.put, List.getElem_toArray, List.getElem_cons_succ, List.getElem_cons_zero, List.setIfInBounds_toArray, List.set_cons_zero, List.set_cons_succ]
            generalize (if js'.bg = false then 0 else m - fb18 rm - js'.j.next : Nat) = lv
            refine wpAnyH_take (i := 4) (v := ?v57) rfl (by kernel_rfl) (by kernel_rfl) (by kernel_rfl) (fun _ _ _ h => h) (Or.inl ⟨by kernel_rfl, ?h57⟩) HS ?r57
            case h57 => (rintro w ⟨n0, n1⟩; go_simp) <;> with_reducible rfl
            try simp only [Act.put, List.getElem_toArray, List.getElem_cons_succ, List.getElem_cons_zero, List.setIfInBounds_toArray, List.set_cons_zero, List.set_cons_succ]
            refine wpAnyH_take (i := 5) (v := ?v58) rfl (by kernel_rfl) (by kernel_rfl) (by kernel_rfl) (fun _ _ _ h => h) (Or.inl ⟨by kernel_rfl, ?h58⟩) HS ?r58
            case h58 => (rintro w ⟨n0, n1⟩; go_simp) <;> with_reducible rfl
            try simp only [Act.put, List.getElem_toArray, List.getElem_cons_succ, List.getElem_cons_zero, List.setIfInBounds_toArray, List.set_cons_zero, List.set_cons_succ]
            refine wpAnyH_take (i := 6) (v := ?v59) rfl (by kernel_rfl) (by kernel_rfl) (by kernel_rfl) (fun _ _ _ h => h) (Or.inl ⟨by kernel_rfl, ?h59⟩) HS ?r59
            case h59 => (rintro w ⟨n0, n1⟩; go_simp) <;> with_reducible rfl
            try simp only [Act.put, List.getElem_toArray, List.getElem_cons_succ, List.getElem_cons_zero, List.setIfInBounds_toArray, List.set_cons_zero, List.set_cons_succ]
            refine wpAnyH_take (i := 8) (v := ?v60) rfl (by kernel_rfl) (by kernel_rfl) (by kernel_rfl) (fun _ _ _ h => h) (Or.inl ⟨by kernel_rfl, ?h60⟩) HS ?r60
            case h60 => (rintro w ⟨n0, n1⟩; go_simp) <;> with_reducible rfl
            try simp only [Act.put, List.getElem_toArray, List.getElem_cons_succ, List.getElem_cons_zero, List.setIfInBounds_toArray, List.set_cons_zero, List.set_cons_succ]
            refine wpAnyH_take (i := 9) (v := ?v61) rfl (by kernel_rfl) (by kernel_rfl) (by kernel_rfl) (fun _ _ _ h => h) (Or.inl ⟨by kernel_rfl, ?h61⟩) HS ?r61
            case h61 => (rintro w ⟨n0, n1⟩; go_simp) <;> with_reducible rfl
            try simp only [Act.put, List.getElem_toArray, List.getElem_cons_succ, List.getElem_cons_zero, List.setIfInBounds_toArray, List.set_cons_zero, List.set_cons_succ]
            refine wpAnyH_take (i := 10) (v := ?v62) rfl (by kernel_rfl) (by kernel_rfl) (by kernel_rfl) (fun _ _ _ h => h) (Or.inl ⟨by kernel_rfl, ?h62⟩) HS ?r62
            case h62 => (rintro w ⟨n0, n1⟩; go_simp) <;> with_reducible rfl
            try simp only [Act.put, List.getElem_toArray, List.getElem_cons_succ, List.getElem_cons_zero, List.setIfInBounds_toArray, List.set_cons_zero, List.set_cons_succ]
            refine wpAnyH_take (i := 11) (v := ?v63) rfl (by kernel_rfl) (by kernel_rfl) (by kernel_rfl) (fun _ _ _ h => h) (Or.inl ⟨by kernel_rfl, ?h63⟩) HS ?r63
            case h63 => (rintro w ⟨n0, n1⟩; go_simp) <;> with_reducible rfl
            try simp only [Act.put, List.getElem_toArray, List.getElem_cons_succ, List.getElem_cons_zero, List.setIfInBounds_toArray, List.set_cons_zero, List.set_cons_succ]
            refine wpAnyH_ready (rs := [7]) (by kernel_rfl) (by simp) ?_
            refine AllReadyH.cons rfl (fun K hK => ?_) AllReadyH.nil
            go_simp
            refine (sdBegun (sr_owns _ _ _ _ _ _ _) HX32.out).mono ?_
            rintro e w33 ⟨rfl, hb33⟩
            rw [HG.out.1]
            have HX33 : Hid (P2 (SD V S d (.pointer (some q)) rm m s' js') (SR (.pointer (some ⟨br, 0, none⟩)) c' g' rm m s' js') w w33 (fun _ => False)) := (HX32.out.later (sd_owns _ _ _ _ _ _ _ _) (sr_owns _ _ _ _ _ _ _) hb33).weak (fun k hk => hk.elim)
            refine hK.out _ _ ⟨cell_later hb33 HS.1, cell_later hb33 HS.2⟩ (fun HS => ?_)
            clear hK K hb33 HX32
            try simp only [Act.put, List.getElem_toArray, List.getElem_cons_succ, List.getElem_cons_zero, List.setIfInBounds_toArray, List.set_cons_zero, List.set_cons_succ]
            refine wpAnyH_take (i := 12) (v := ?v64) rfl (by kernel_rfl) (by kernel_rfl) (by kernel_rfl) (fun _ _ _ h => h) (Or.inl ⟨by kernel_rfl, ?h64⟩) HS ?r64
            case h64 => (rintro w ⟨n0, n1⟩; go_simp) <;> with_reducible rfl
            try simp only [Act.put, List.getElem_toArray, List.getElem_cons_succ, List.getElem_cons_zero, List.setIfInBounds_toArray, List.set_cons_zero, List.set_cons_succ]
            refine wpAnyH_take (i := 13) (v := ?v65) rfl (by kernel_rfl) (by kernel_rfl) (by kernel_rfl) (fun _ _ _ h => h) (Or.inl ⟨by kernel_rfl, ?h65⟩) HS ?r65
            case h65 => (rintro w ⟨n0, n1⟩; go_simp) <;> with_reducible rfl
            try simp only [Act.put, List.getElem_toArray, List.getElem_cons_succ, List.getElem_cons_zero, List.setIfInBounds_toArray, List.set_cons_zero, List.set_cons_succ]
            refine wpAnyH_take (i := 14) (v := ?v66) rfl (by kernel_rfl) (by kernel_rfl) (by kernel_rfl) (fun _ _ _ h => h) (Or.inl ⟨by kernel_rfl, ?h66⟩) HS ?r66
            case h66 => (rintro w ⟨n0, n1⟩; go_simp) <;> with_reducible rfl
            try simp only [Act.put, List.getElem_toArray, List.getElem_cons_succ, List.getElem_cons_zero, List.setIfInBounds_toArray, List.set_cons_zero, List.set_cons_succ]
            refine wpAnyH_take (i := 15) (v := ?v67) rfl (by kernel_rfl) (by kernel_rfl) (by kernel_rfl) (fun _ _ _ h => h) (Or.inl ⟨by kernel_rfl, ?h67⟩) HS ?r67
            case h67 => (rintro w ⟨n0, n1⟩; go_simp) <;> with_reducible rfl
            try simp only [Act.put, List.getElem_toArray, List.getElem_cons_succ, List.getElem_cons_zero, List.setIfInBounds_toArray, List.set_cons_zero, List.set_cons_succ]
            refine wpAnyH_take (i := 17) (v := ?v68) rfl (by kernel_rfl) (by kernel_rfl) (by kernel_rfl) (fun _ _ _ h => h) (Or.inl ⟨by kernel_rfl, ?h68⟩) HS ?r68
            case h68 => (rintro w ⟨n0, n1⟩; go_simp) <;> with_reducible rfl
            try simp only [Act.put, List.getElem_toArray, List.getElem_cons_succ, List.getElem_cons_zero, List.setIfInBounds_toArray, List.set_cons_zero, List.set_cons_succ]
            refine wpAnyH_take (i := 18) (v := ?v69) rfl (by kernel_rfl) (by kernel_rfl) (by kernel_rfl) (fun _ _ _ h => h) (Or.inl ⟨by kernel_rfl, ?h69⟩) HS ?r69
            case h69 => (rintro w ⟨n0, n1⟩; go_simp) <;> with_reducible rfl
            try simp only [Act.put, List.getElem_toArray, List.getElem_cons_succ, List.getElem_cons_zero, List.setIfInBounds_toArray, List.set_cons_zero, List.set_cons_succ]
            refine wpAnyH_take (i := 19) (v := ?v70) rfl (by kernel_rfl) (by kernel_rfl) (by kernel_rfl) (fun _ _ _ h => h) (Or.inl ⟨by kernel_rfl, ?h70⟩) HS ?r70
            case h70 => (rintro w ⟨n0, n1⟩; go_simp) <;> with_reducible rfl
            try simp only [Act.put, List.getElem_toArray, List.getElem_cons_succ, List.getElem_cons_zero, List.setIfInBounds_toArray, List.set_cons_zero, List.set_cons_succ]
            refine wpAnyH_take (i := 20) (v := ?v71) rfl (by kernel_rfl) (by kernel_rfl) (by kernel_rfl) (fun _ _ _ h => h) (Or.inl ⟨by kernel_rfl, ?h71⟩) HS ?r71
            case h71 => (rintro w ⟨n0, n1⟩; go_simp) <;> with_reducible rfl
            try simp only [Act.put, List.getElem_toArray, List.getElem_cons_succ, List.getElem_cons_zero, List.setIfInBounds_toArray, List.set_cons_zero, List.set_cons_succ]
            refine wpAnyH_ready (rs := [16]) (by kernel_rfl) (by simp) ?_
            refine AllReadyH.cons rfl (fun K hK => ?_) AllReadyH.nil
            go_simp
            refine (d2Down HX33.out.sd2).mono ?_
            rintro e w34 ⟨rfl, hb34⟩
            rw [HG.out.2]
            have HF9 : Hid (Pst18 V S d (.pointer (some q)) (.pointer (some ⟨br, 0, none⟩)) c' g' rm m (j + 1) w w34 (fun _ => False)) := ⟨_, _, (HX33.out.later (sd_owns _ _ _ _ _ _ _ _) (sr_owns _ _ _ _ _ _ _) hb34).weak (fun k hk => hk.elim), HC2.out.2.1, HC2.out.2.2⟩
            refine hK.out _ _ ⟨cell_later hb34 HS.1, cell_later hb34 HS.2⟩ (fun HS => ?_)
            clear hK K hb34 HX33
            try simp only [Act.put, List.getElem_toArray, List.getElem_cons_succ, List.getElem_cons_zero, List.setIfInBounds_toArray, List.set_cons_zero, List.set_cons_succ]
            refine wpAnyH_take (i := 21) (v := ?v72) rfl (by kernel_rfl) (by kernel_rfl) (by kernel_rfl) (fun _ _ _ h => h) (Or.inl ⟨by kernel_rfl, ?h72⟩) HS ?r72
            case h72 => (rintro w ⟨n0, n1⟩; go_simp) <;> with_reducible rfl
            try simp only [Act.put, List.getElem_toArray, List.getElem_cons_succ, List.getElem_cons_zero, List.setIfInBounds_toArray, List.set_cons_zero, List.set_cons_succ]
            refine wpAnyH_take (i := 22) (v := ?v73) rfl (by kernel_rfl) (by kernel_rfl) (by kernel_rfl) (fun _ _ _ h => h) (Or.inl ⟨by kernel_rfl, ?h73⟩) HS ?r73
            case h73 => (rintro w ⟨n0, n1⟩; go_simp) <;> with_reducible rfl
            try simp only [Act.put, List.getElem_toArray, List.getElem_cons_succ, List.getElem_cons_zero, List.setIfInBounds_toArray, List.set_cons_zero, List.set_cons_succ]
            refine wpAnyH_done (by kernel_rfl) ?_ _
            clear HS
            go_wp2_with fail
            go_roundw
            case rel => exact ⟨j + 1, q, c', g', by omega, rfl, rfl, by first | rfl | go_num, HF9.out⟩
            case measure => simp only [intOf]; omega
      · obtain rfl : j = n := by omega
        have hjI : ¬ (j : Int) < (j : Int) := by omega
        obtain ⟨s, js, hP, hQ, -⟩ := HS.out
        have HD : Hid (D2 V w wr d r s s (fun _ => False)) := hP.sd2
        obtain ⟨br, vB, vU, cs, ds, G2, er, hR⟩ := hP.sd2.ref
        obtain ⟨aB, pB, rfl⟩ := hR.sB
        subst er
        have z0 := hR.c0
        have HNb : Hid (s.bl.length = m) := hQ.bl
        rw [hQ.bl] at z0 hR
        have HR : Hid (∃ vU cs ds G, Rd5 wr br (.slice aB m pB) vU cs ds G s) := ⟨_, _, _, _, hR⟩
        clear hR hP hQ HS
        go_upto_region 43 with fail
        rename World => wo
        go_loopw [225] (fun s225 wr => ∃ jx : Nat, jx ≤ m ∧ s225 = .int .i64 (jx : Int) ∧ Hid (Below wo.heap.size wo wr)) (fun s225 _ => m - (intOf s225).toNat)
        case atStart => exact ⟨0, by omega, rfl, Below.refl _ _⟩
        case round =>
          obtain ⟨jx, hjx, rfl, HB⟩ := hrel
          by_cases hlt2 : jx < m
          · have hjI2 : (jx : Int) < (m : Int) := by omega
            have hjB : jx < s.bl.length := by have := HNb.out; omega
            have HDr : Hid (D2 V w wr d (.pointer (some ⟨br, 0, none⟩)) s s (fun _ => False)) := (HD.out.later HB.out).weak (fun k hk => hk.elim)
            obtain ⟨vU, cs, ds, G, hR⟩ := HR.out
            have hR := hR.later HB.out
            obtain ⟨gB, xo, eB, co, -, tx, -⟩ := hR.atB jx hjB
            subst eB
            obtain ⟨T, hTT⟩ : ∃ T, s.bl.getD jx [] = T := ⟨_, rfl⟩
            have HTT : Hid (s.bl.getD jx [] = T) := hTT
            have tx1 := tx.1
            rw [hTT] at tx1
            obtain ⟨ax, px, ex, -, -⟩ := tx1.len
            subst ex
            have HXx : Hid (Bs wr (.slice ax T.length px) T) := tx1
            clear hR tx tx1 hTT
            generalize T.length = L at *
            go_wp2_with fail
            refine (d2Safe HDr.out jx hjB).mono ?_
            rintro e t2 ⟨v2, rfl, hB2, hO2, hW2⟩
            rw [HTT.out] at hB2
            have HX2 : Hid (Bs t2 v2 T ∧ Bs t2 (.slice ax L px) T ∧ Below wo.heap.size wo t2) := ⟨hB2, HXx.out.later hW2, bchain HB.out hW2⟩
            obtain ⟨a2, p2, rfl, -, -⟩ := hB2.len
            clear hB2 hO2 hW2 HXx HDr
            generalize T.length = L2 at *
            go_wp2_with fail
            refine (sameB _ _ _ _ t2 HX2.out.2.1 HX2.out.1).mono ?_
            rintro e t3 ⟨rfl, hW3⟩
            rw [decide_eq_true (rfl : T = T)]
            have HB3 : Hid (Below wo.heap.size wo t3) := bchain HX2.out.2.2 hW3
            clear hW3 HX2 co
            go_wp2_with fail
            go_roundw
            case rel => exact ⟨jx + 1, by omega, by first | rfl | go_num, HB3⟩
            case measure => simp only [intOf]; omega
          · obtain rfl : jx = m := by omega
            have hjI2 : ¬ (jx : Int) < (jx : Int) := by omega
            have HE : Hid (Below w.heap.size w wr) := bchain HD.out.bel HB.out
            go_wp2_with fail
            go_ret
            exact ⟨rfl, HE.out⟩
  · have HRg : Hid (decide (Rgh18 (m : Int) room) = false) := decide_eq_false hg
    have hlen : (dNew m).bl.length = m := List.length_replicate
    obtain ⟨F, hf1, hf2, hf3⟩ := HD3.out
    have HO := hid5 (S.openN w3 d F (dNew m) room hf1 (HT.out.later hf3) HRo.out (by rw [hlen]; exact hg))
    clear hf1 hf2 hlen hg
    go_wp2_with fail
    refine HO.out.mono ?_
    rintro e w4 ⟨vb, vl, rfl, -, -, hb4⟩
    have HB4 : Hid (Below w.heap.size w w4) := bchain hf3 hb4
    clear hf3 hb4 HO
    go_wp2_with fail
    refine (refRight18 (m : Int) room w4).mono ?_
    rintro e wx ⟨rfl, hwx⟩
    have hwx := hwx.symm
    subst hwx
    rw [HRg.out]
    clear HRg
    go_wp2_with fail
    go_ret
    exact ⟨rfl, HB4.out⟩
end Go.Proofs.YthnpdcblfocemaaGreatDoor
