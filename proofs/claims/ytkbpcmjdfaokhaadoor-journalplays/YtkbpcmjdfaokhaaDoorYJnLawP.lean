/-
  The laws of layer 17: JournalPlays.
-/
import Derived.Test.YtkbpcmjdfaokhaaDoorZ25
import Derived.Test.YtkbpcmjdfaokhaaDoorZ13

set_option linter.unusedVariables false
set_option linter.unusedSimpArgs false
namespace Go.Proofs.YtkbpcmjdfaokhaaDoor
open Go.RowKit

theorem Pst17.later {V : Disk1} {J : Jour1 V} {d q r0 : Value} {c base size m k : Nat} {w0 w w' : World} (h : Pst17 V J d q r0 c base size m k w0 w) (hb : Below w.heap.size w w') : Pst17 V J d q r0 c base size m k w0 w' := by
  obtain ⟨s, j, h1, h2, h3⟩ := h
  exact ⟨s, j, (h1.later (jd_owns _ _ _ _ _ _ _ _) (jr_owns _ _ _ _ _ _) hb).weak (fun _ h => h.elim), h2, h3⟩
theorem Pst17.bel {V : Disk1} {J : Jour1 V} {d q r0 : Value} {c base size m k : Nat} {w0 w : World} (h : Pst17 V J d q r0 c base size m k w0 w) : Below w0.heap.size w0 w := by
  obtain ⟨s, j, h1, h2, h3⟩ := h
  exact h1.bel
set_option maxRecDepth 100000 in
set_option maxHeartbeats 32000000 in
theorem journalPlays_any {V : Disk1} (J : Jour1 V) (n pa pr : Int) (hn64 : Bd64 n) (ha64 : Bd64 pa) (hr64 : Bd64 pr) (vo : Value) (os : List Opv) (hbo : (∀ j, j < os.length → ∀ c ∈ (os.getD j op0).b, c < 256) ∧ ∀ j, j < os.length → Bd64 (os.getD j op0).i) (w : World) (ho : Ops w vo os) (hT : JT w) :
    Calls Tryd.prog 3 #[.agg #[.int .i64 n, .int .i64 pa, .int .i64 pr], vo] w fun e w' => e = .returned (.bool true) ∧ Below w.heap.size w w' := by
  have HY : Hid ((∀ j, j < os.length → ∀ c ∈ (os.getD j op0).b, c < 256) ∧ ∀ j, j < os.length → Bd64 (os.getD j op0).i) := hbo
  have HB64 : Hid (Bd64 pa ∧ Bd64 pr) := ⟨ha64, hr64⟩
  obtain ⟨ao, cpo, rfl, k3, k4⟩ := ho.len
  unfold maxLen at k4
  obtain ⟨m, hm⟩ : ∃ m, os.length = m := ⟨_, rfl⟩
  have HM : Hid (os.length = m) := hm
  obtain ⟨wP, hwP⟩ : ∃ wP, wP = w.alloc (.cells #[.int .i64 n, .int .i64 pa, .int .i64 pr] 23) := ⟨_, rfl⟩
  have HP0 : Hid (Below w.heap.size w wP ∧ wP.cell? ⟨w.heap.size, 0, none⟩ = some (.int .i64 n) ∧ wP.cell? ⟨w.heap.size, 1, none⟩ = some (.int .i64 pa) ∧ wP.cell? ⟨w.heap.size, 2, none⟩ = some (.int .i64 pr) ∧ w.heap.size < wP.heap.size) := by
    rw [hwP]
    exact ⟨bel1 _ _, by simp [go_sem], by simp [go_sem], by simp [go_sem], by simp⟩
  have HL : Hid (Ops wP (.slice ao os.length cpo) os) := ho.later HP0.out.1
  rw [hm] at k3 HL ⊢
  have HT : Hid (JT wP) := hT.later HP0.out.1
  clear hT ho hm hbo ha64 hr64
  have HPc : Hid (∀ W, Below wP.heap.size wP W → W.cell? ⟨w.heap.size, 0, none⟩ = some (.int .i64 n) ∧ W.cell? ⟨w.heap.size, 1, none⟩ = some (.int .i64 pa) ∧ W.cell? ⟨w.heap.size, 2, none⟩ = some (.int .i64 pr)) := fun W h => ⟨cell_later h HP0.out.2.1, cell_later h HP0.out.2.2.1, cell_later h HP0.out.2.2.2.1⟩
  have HEnd : Hid (∀ W, Below wP.heap.size wP W → Below w.heap.size w W) := fun W h => bchain HP0.out.1 h
  go_enter Tryd.func3, Tryd.ntmps3
  go_upto_region 1 with fail
  rw [← hwP]
  clear hwP HP0
  go_wp2_with fail
  refine (awake17 J wP HT.out).mono ?_
  rintro e w1 ⟨rfl, hb1⟩
  have HB1 : Hid (Below wP.heap.size wP w1) := hb1
  clear hb1
  go_wp2_with fail
  refine (few17 _ os w1 (HL.out.later HB1.out)).mono ?_
  rintro e w2 ⟨B, rfl, hF, hb2⟩
  have HB2 : Hid (Below wP.heap.size wP w2) := bchain HB1.out hb2
  have HF : Hid (B = true → Fev17 os) := hF
  clear hb2 hF HB1
  obtain ⟨z0, z1, z2⟩ := HPc.out w2 HB2.out
  cases B with
  | false =>
    go_wp2
    go_ret
    exact ⟨rfl, HEnd.out _ HB2.out⟩
  | true =>
    have HFw : Hid (Fev17 os) := HF.out rfl
    clear HF
    by_cases q1 : n < 1
    · go_wp2
      go_ret
      exact ⟨rfl, HEnd.out _ HB2.out⟩
    have q1B : decide (n < 1) = false := decide_eq_false q1
    by_cases q2 : 40 < n
    · go_wp2
      go_ret
      exact ⟨rfl, HEnd.out _ HB2.out⟩
    have q2B : decide (40 < n) = false := decide_eq_false q2
    obtain ⟨nb, rfl⟩ : ∃ nb : Nat, n = (nb : Int) := ⟨n.toNat, by omega⟩
    have HNb : Hid (1 ≤ nb ∧ nb ≤ 40) := ⟨by omega, by omega⟩
    go_wp2_with fail
    refine (dwNew V wP w2 nb HNb.out.1 (by have := HNb.out; omega) HB2.out).mono ?_
    rintro e w3 ⟨d, rfl, hD3⟩
    have HD3 : Hid (Dw V wP w3 d (dNew nb)) := hD3
    clear hD3 HB2 z0 z1 z2
    obtain ⟨z0, z1, z2⟩ := HPc.out w3 HD3.out.bel
    have HLn : Hid ((dNew nb).bl.length = nb) := List.length_replicate
    have HRg := hid5 (refRight17 (nb : Int) pa pr (by have := HNb.out; omega) HB64.out.1 HB64.out.2)
    by_cases hg : ¬ Rgh17 (nb : Int) pa pr
    · have HQ : Hid (Calls Tryd.prog 10 #[d, .int .i64 pa, .int .i64 pr] w3 fun e w' => e = .returned (.tuple #[.pointer none, .int .i64 2]) ∧ Below w3.heap.size w3 w') := by
        obtain ⟨F, h1, h2, h3⟩ := HD3.out
        exact J.newN w3 d F (dNew nb) pa pr h1 HB64.out.1 HB64.out.2 (by rw [HLn.out]; exact hg)
      go_wp2_with fail
      refine HQ.out.mono ?_
      rintro e w5 ⟨rfl, hb5⟩
      have HB5 : Hid (Below wP.heap.size wP w5) := bchain HD3.out.bel hb5
      clear hb5 HQ HD3 z0 z1 z2
      obtain ⟨z0, z1, z2⟩ := HPc.out w5 HB5.out
      go_wp2_with fail
      refine (HRg.out w5).mono ?_
      rintro e wx ⟨rfl, hwx⟩
      have hwx := hwx.symm
      subst hwx
      rw [decide_eq_false hg]
      go_wp2
      go_ret
      exact ⟨rfl, HEnd.out _ HB5.out⟩
    have hg : Rgh17 (nb : Int) pa pr := Decidable.not_not.1 hg
    obtain ⟨size, rfl⟩ : ∃ x : Nat, pr = (x : Int) := ⟨pr.toNat, by have := hg.1; omega⟩
    obtain ⟨a, rfl⟩ : ∃ x : Nat, pa = (x : Int) := ⟨pa.toNat, by have := hg.2.1; omega⟩
    have HRm : Hid (1 ≤ size ∧ a + size ≤ nb) := by
      obtain ⟨g1, g3, g4⟩ := hg
      exact ⟨by omega, by omega⟩
    go_wp2_with fail
    refine (jdNew J HD3.out a size HRm.out.1 (by rw [HLn.out]; exact HRm.out.2)).mono ?_
    rintro e w5 ⟨aq, rfl, hD5⟩
    have HD5 : Hid (P2 (JD V J d (.pointer (some aq)) a size (dNew nb) ⟨0, 0, 0⟩) Nil2 wP w5 (fun _ => False)) := hD5
    clear hD5 HD3 z0 z1 z2
    obtain ⟨z0, z1, z2⟩ := HPc.out w5 HD5.out.bel
    go_wp2_with fail
    refine (HRg.out w5).mono ?_
    rintro e wx ⟨rfl, hwx⟩
    have hwx := hwx.symm
    subst hwx
    rw [decide_eq_true hg]
    clear hg HRg z0 z1 z2
    go_upto_region 11 with fail
    have hb6 : Below w5.heap.size w5 w5.drew := (Below.refl _ _).drew
    have HD6 : Hid (P2 (JD V J d (.pointer (some aq)) a size (dNew nb) ⟨0, 0, 0⟩) Nil2 wP w5.drew (fun _ => False)) := (HD5.out.later (jd_owns _ _ _ _ _ _ _ _) owns_nil hb6).weak (fun _ h => h.elim)
    clear hb6 HD5
    obtain ⟨z0, z1, z2⟩ := HPc.out w5.drew HD6.out.bel
    go_region_held3 (fun w' => w'.cell? ⟨w.heap.size, 0, none⟩ = some (.int .i64 (nb : Int)) ∧ w'.cell? ⟨w.heap.size, 1, none⟩ = some (.int .i64 (a : Int)) ∧ w'.cell? ⟨w.heap.size, 2, none⟩ = some (.int .i64 (size : Int)))
      (first | exact ⟨z0, z1, z2⟩ | exact ⟨cell_later (bel1 _ _) z0, cell_later (bel1 _ _) z1, cell_later (bel1 _ _) z2⟩)
      (first | (go_at_call 12; refine (refNew _ nb (by have := HNb.out; omega)).mono ?_; rintro e w7 ⟨r, G0, rfl, hR, hG, hW⟩; obtain ⟨br, rfl⟩ : ∃ br, r = .pointer (some ⟨br, 0, none⟩) := (by obtain ⟨b, _, _, _, _, e, _⟩ := hR; exact ⟨b, e⟩); replace z0 := cell_later hW z0; replace z1 := cell_later hW z1; replace z2 := cell_later hW z2))
    clear z0 z1 z2
    obtain ⟨w8, hw8⟩ : ∃ w8, w8 = w7.alloc (.cells #[.pointer (some ⟨br, 0, none⟩), .int .i64 (a : Int), .int .i64 (size : Int), .int .i64 0, .int .i64 0, .int .i64 0] 39) := ⟨_, rfl⟩
    have HP8 : Hid (Pst17 V J d (.pointer (some aq)) (.pointer (some ⟨br, 0, none⟩)) w7.heap.size a size nb 0 wP w8) := by
      have k8 := bel1 w7 (.cells #[.pointer (some ⟨br, 0, none⟩), .int .i64 (a : Int), .int .i64 (size : Int), .int .i64 0, .int .i64 0, .int .i64 0] 39)
      have hs : w8.heap.size = w7.heap.size + 1 := by rw [hw8]; simp
      rw [← hw8] at k8
      have hRJ : RJ w8 w7.heap.size (.pointer (some ⟨br, 0, none⟩)) a size ⟨0, 0, 0⟩ := by
        rw [hw8]
        exact ⟨by simp [go_sem], by simp [go_sem], by simp [go_sem], by simp [go_sem], by simp [go_sem], by simp [go_sem], fun k hk => by simp [go_sem]⟩
      obtain ⟨A, B, g1, -, g3, -, -, -, g7⟩ := HD6.out
      have o1 := jd_owns V J d (.pointer (some aq)) a size (dNew nb) ⟨0, 0, 0⟩
      have hbb := bchain hW k8
      have hW7 := hW.size
      have hB7 := g7.size
      refine ⟨dNew nb, ⟨0, 0, 0⟩, ⟨A, fun k => G0 k ∨ k = w7.heap.size, o1.later g1 hbb, ⟨G0, hR.later k8, hRJ, fun q => by have := hR.lt _ q; omega, rfl⟩, g3, fun k hk => ?_, fun k hk hq => ?_, fun k h => h.elim, bchain g7 hbb⟩, jq_new nb, jb_new size⟩
      · rcases hk with hk | hk
        · have := hG k hk; omega
        · omega
      · have := o1.lt g1 k hk
        rcases hq with hq | hq
        · have := hG k hq; omega
        · omega
    go_upto_region 13 with fail
    rw [← hw8]
    clear hw8 HD6 hR hG hW HLn
    generalize w7.heap.size = c at *
    go_loopw [74] (fun s74 wr => ∃ j : Nat, j ≤ m ∧ s74 = .int .i64 (j : Int) ∧ Hid (Pst17 V J d (.pointer (some aq)) (.pointer (some ⟨br, 0, none⟩)) c a size nb j wP wr)) (fun s74 _ => m - (intOf s74).toNat)
    case atStart => exact ⟨0, by omega, rfl, HP8.out⟩
    case round =>
      obtain ⟨j, hj, rfl, HS⟩ := hrel
      clear HP8
      by_cases hlt : j < m
      · have hjI : (j : Int) < (m : Int) := by omega
        have hj0 : (0 : Int) ≤ (j : Int) := by omega
        have hm60 : m ≤ 60 := by have := HFw.out.1; have := HM.out; omega
        have hM := HM.out
        obtain ⟨b, ob, vb, vf, rfl, c0, c1, c2, c3, hB, hF⟩ := HL.out.cel j (by omega)
        obtain ⟨a1, p1, rfl, -, -⟩ := hB.len
        obtain ⟨a2, p2, rfl, -, -⟩ := hF.len
        have HV : Hid (Bs wP (.slice a1 (os.getD j op0).b.length p1) (os.getD j op0).b ∧ Fts wP (.slice a2 (os.getD j op0).fs.length p2) (os.getD j op0).fs ∧ (os.getD j op0).b.length ≤ 1000 ∧ (os.getD j op0).fs.length ≤ 40 ∧ (∀ x ∈ (os.getD j op0).b, x < 256) ∧ Bd64 (os.getD j op0).i) := by
          have := HFw.out.2 j (by omega)
          exact ⟨hB, hF, this.1, this.2, HY.out.1 j (by omega), HY.out.2 j (by omega)⟩
        have y0 := cell_later HS.out.bel c0
        have y1 := cell_later HS.out.bel c1
        have y2 := cell_later HS.out.bel c2
        have y3 := cell_later HS.out.bel c3
        clear c0 c1 c2 c3 hB hF hM
        generalize (os.getD j op0).k = kk at *
        generalize (os.getD j op0).i = ii at *
        generalize (os.getD j op0).b = bb at *
        generalize (os.getD j op0).fs = ff at *
        obtain ⟨nb1, hnb1⟩ : ∃ x, bb.length = x := ⟨_, rfl⟩
        obtain ⟨nf1, hnf1⟩ : ∃ x, ff.length = x := ⟨_, rfl⟩
        have HNN : Hid (bb.length = nb1 ∧ ff.length = nf1) := ⟨hnb1, hnf1⟩
        rw [hnb1] at y2 HV
        rw [hnf1] at y3 HV
        clear hnb1 hnf1
        obtain ⟨wx, hwx⟩ : ∃ wx, wx = wr.alloc (.cells #[.int .i64 kk, .int .i64 ii, .slice a1 nb1 p1, .slice a2 nf1 p2] 43) := ⟨_, rfl⟩
        have HX : Hid (Pst17 V J d (.pointer (some aq)) (.pointer (some ⟨br, 0, none⟩)) c a size nb j wP wx) := by rw [hwx]; exact HS.out.later (bel1 _ _)
        go_upto_region 15 with fail
        rw [← hwx]
        have e0 : wx.cell? ⟨wr.heap.size, 0, none⟩ = some (.int .i64 kk) := by rw [hwx]; simp [go_sem]
        have e1 : wx.cell? ⟨wr.heap.size, 1, none⟩ = some (.int .i64 ii) := by rw [hwx]; simp [go_sem]
        have e2 : wx.cell? ⟨wr.heap.size, 2, none⟩ = some (.slice a1 nb1 p1) := by rw [hwx]; simp [go_sem]
        have e3 : wx.cell? ⟨wr.heap.size, 3, none⟩ = some (.slice a2 nf1 p2) := by rw [hwx]; simp [go_sem]
        clear hwx HS y0 y1 y2 y3
        generalize wr.heap.size = bo at *
        go_wp2_with fail
        refine (step17 HX.out HT HRm.out.2 HNb.out.2 (by omega) kk ii HV.out.2.2.2.2.2 (.slice a1 nb1 p1) (.slice a2 nf1 p2) bb ff HV.out.1 HV.out.2.2.2.2.1 (by have := HNN.out; have := HV.out; omega) HV.out.2.1 (by have := HNN.out; have := HV.out; omega)).mono ?_
        rintro e w9 ⟨rfl, s, jt, hD, hJ, hb⟩
        have HD : Hid (P2 (JD V J d (.pointer (some aq)) a size s jt) (JR (.pointer (some ⟨br, 0, none⟩)) c a size s jt) wP w9 (fun _ => False)) := hD
        have HJ : Hid (Jq nb s ∧ JB size (j + 1) jt) := ⟨hJ, hb⟩
        have x0 := hD.rj.c0
        have x2 := hD.rj.c2
        have x3 := hD.rj.c3
        have x5 := hD.rj.c5
        have hnx := hb.nx
        have hsz : size ≤ 40 := by have := HRm.out; have := HNb.out; omega
        clear hD hJ hb HX HV HNN e0 e1 e2 e3
        obtain ⟨G, hG⟩ : ∃ G, jt.gen = G := ⟨_, rfl⟩
        obtain ⟨X, hX⟩ : ∃ X, jt.next = X := ⟨_, rfl⟩
        rw [hG] at x3
        rw [hX] at x5 hnx
        by_cases hg0 : G = 0
        · have HLf : Hid (((if jt.gen = 0 then 0 else size - jt.next : Nat) : Int) = 0) := by show _ = _; rw [if_pos (by omega)]; rfl
          have x3' : w9.cell? ⟨c, 3, none⟩ = some (.int .i64 0) := by rw [x3, hg0]; rfl
          have HD2 : Hid (P2 (JD V J d (.pointer (some aq)) a size s jt) (JR (.pointer (some ⟨br, 0, none⟩)) c a size s jt) wP w9 (fun _ => False)) := HD.out
          clear x3 hG hX HD
          go_wp2_with fail
          refine (same17 (V := V) HD2.out.d2 (by rw [HJ.out.1.bl]; have := HNb.out; omega)).mono ?_
          rintro e w10 ⟨rfl, hb10⟩
          have HD3 : Hid (P2 (JD V J d (.pointer (some aq)) a size s jt) (JR (.pointer (some ⟨br, 0, none⟩)) c a size s jt) wP w10 (fun _ => False)) := (HD2.out.later (jd_owns _ _ _ _ _ _ _ _) (jr_owns _ _ _ _ _ _) hb10).weak (fun _ h => h.elim)
          clear hb10 HD2
          go_wp2_with fail
          refine (jdLeft (jr_owns _ _ _ _ _ _) HD3.out HJ.out.2.nx).mono ?_
          rintro e w11 ⟨rfl, hb11⟩
          have HPn : Hid (Pst17 V J d (.pointer (some aq)) (.pointer (some ⟨br, 0, none⟩)) c a size nb (j + 1) wP w11) := ⟨s, jt, (HD3.out.later (jd_owns _ _ _ _ _ _ _ _) (jr_owns _ _ _ _ _ _) hb11).weak (fun _ h => h.elim), HJ.out.1, HJ.out.2⟩
          clear hb11 HD3
          rw [HLf.out]
          go_wp2_with fail
          go_roundw
          case rel => exact ⟨j + 1, by omega, by first | rfl | go_num, HPn⟩
          case measure => simp only [intOf]; omega
        · obtain ⟨R, hR⟩ : ∃ R, size - X = R := ⟨_, rfl⟩
          have HLf : Hid (((if jt.gen = 0 then 0 else size - jt.next : Nat) : Int) = (R : Int)) := by show _ = _; rw [if_neg (by omega), hX, hR]
          have hgI : (0 : Int) < (G : Int) := by omega
          have r1 : (size : Int) - (X : Int) = (R : Int) := by omega
          have r2 : IntKind.i64.wrap (R : Int) = (R : Int) := by rw [IntKind.wrap_i64]; omega
          clear hG hX hR
          go_upto_region 19 with fail
          go_quiet (fail)
          have hbq : Below w9.heap.size w9 (w9.drewN nq) := below_drewP (Below.refl _ _) nq
          have HD2 : Hid (P2 (JD V J d (.pointer (some aq)) a size s jt) (JR (.pointer (some ⟨br, 0, none⟩)) c a size s jt) wP (w9.drewN nq) (fun _ => False)) := (HD.out.later (jd_owns _ _ _ _ _ _ _ _) (jr_owns _ _ _ _ _ _) hbq).weak (fun _ h => h.elim)
          clear hbq HD
          go_wp2_with fail
          refine (same17 (V := V) HD2.out.d2 (by rw [HJ.out.1.bl]; have := HNb.out; omega)).mono ?_
          rintro e w10 ⟨rfl, hb10⟩
          have HD3 : Hid (P2 (JD V J d (.pointer (some aq)) a size s jt) (JR (.pointer (some ⟨br, 0, none⟩)) c a size s jt) wP w10 (fun _ => False)) := (HD2.out.later (jd_owns _ _ _ _ _ _ _ _) (jr_owns _ _ _ _ _ _) hb10).weak (fun _ h => h.elim)
          clear hb10 HD2
          go_wp2_with fail
          refine (jdLeft (jr_owns _ _ _ _ _ _) HD3.out HJ.out.2.nx).mono ?_
          rintro e w11 ⟨rfl, hb11⟩
          have HPn : Hid (Pst17 V J d (.pointer (some aq)) (.pointer (some ⟨br, 0, none⟩)) c a size nb (j + 1) wP w11) := ⟨s, jt, (HD3.out.later (jd_owns _ _ _ _ _ _ _ _) (jr_owns _ _ _ _ _ _) hb11).weak (fun _ h => h.elim), HJ.out.1, HJ.out.2⟩
          clear hb11 HD3
          rw [HLf.out]
          have t1 : ((R : Int) != (R : Int)) = false := by simp
          go_wp2_with fail
          go_roundw
          case rel => exact ⟨j + 1, by omega, by first | rfl | go_num, HPn⟩
          case measure => simp only [intOf]; omega
      · obtain rfl : j = m := by omega
        have hjI : ¬ (j : Int) < (j : Int) := by omega
        have HB9 : Hid (Below w.heap.size w wr) := HEnd.out _ HS.out.bel
        go_wp2_with fail
        go_ret
        exact ⟨rfl, HB9.out⟩
end Go.Proofs.YtkbpcmjdfaokhaaDoor
