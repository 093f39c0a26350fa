/-
  The laws of layer 16: SnapPlays.
-/
import Derived.Test.YtpmmfmlldkdfhaaDoorZ20
import Derived.Test.YtpmmfmlldkdfhaaDoorZ12

set_option linter.unusedVariables false
set_option linter.unusedSimpArgs false
namespace Go.Proofs.YtpmmfmlldkdfhaaDoor
open Go.RowKit

theorem d2NewS {V : Disk1} {w0 w w' : World} {d r : Value} {s t : Dsk} {G : Nat → Prop} (h : Dw V w0 w d s) (h2 : RD w' r G t) (hG : ∀ k, G k → w.heap.size ≤ k) (k : Below w.heap.size w w') : D2 V w0 w' d r s t (fun _ => False) := by
  obtain ⟨F, h1, h3, h7⟩ := h
  exact ⟨F, G, V.dtK h1 (fun i hi => k.block i (V.dtB h1 i hi)) k.size, h2, h3, fun i hi => Nat.le_trans h7.size (hG i hi), fun i hf hg => by have := V.dtB h1 i hf; have := hG i hg; omega, fun i hi => hi.elim, bchain h7 k⟩
/-- A place that is right. -/
def Rgh (n a r : Int) : Prop := 1 ≤ r ∧ r ≤ 16384 ∧ 0 ≤ a ∧ a + 2 * (r + 1) ≤ n
instance (n a r : Int) : Decidable (Rgh n a r) := by unfold Rgh; infer_instance
set_option maxRecDepth 100000 in
set_option maxHeartbeats 2000000 in
theorem refRight16 (n a r : Int) (hn : 1 ≤ n ∧ n ≤ 16384) (ha : Bd64 a) (hr : Bd64 r) (w : World) :
    Calls Tryd.prog 12 #[.int .i64 n, .int .i64 a, .int .i64 r] w fun e w' => e = .returned (.bool (decide (Rgh n a r))) ∧ w' = w := by
  have HV : Hid (∀ B : Bool, (B = true ↔ Rgh n a r) → decide (Rgh n a r) = B) := fun B hB => by
    cases B with
    | true => exact decide_eq_true (hB.1 rfl)
    | false => exact decide_eq_false (fun q => by have := hB.2 q; cases this)
  obtain ⟨a1, a2⟩ := ha
  obtain ⟨r1, r2⟩ := hr
  obtain ⟨n1, n2⟩ := hn
  by_cases c1 : 1 ≤ r
  · by_cases c2 : r ≤ 16384
    · by_cases c3 : 0 ≤ a
      · by_cases c4 : a ≤ n
        · have k1 : IntKind.i64.wrap (n - a) = n - a := by rw [IntKind.wrap_i64]; omega
          have k2 : IntKind.i64.wrap (2 * r) = 2 * r := by rw [IntKind.wrap_i64]; omega
          have k3 : IntKind.i64.wrap (2 * r + 2) = 2 * r + 2 := by rw [IntKind.wrap_i64]; omega
          by_cases c5 : 2 * r + 2 ≤ n - a
          · have HE : Hid (decide (Rgh n a r) = true) := HV.out true ⟨fun _ => ⟨c1, c2, c3, by omega⟩, fun _ => rfl⟩
            go_enter Tryd.func12, Tryd.ntmps12
            go_wp2
            go_ret
            rw [HE.out]
            exact ⟨rfl, rfl⟩
          · have HE : Hid (decide (Rgh n a r) = false) := HV.out false ⟨fun q => (by cases q), fun q => (by have := q.2.2.2; omega)⟩
            go_enter Tryd.func12, Tryd.ntmps12
            go_wp2
            go_ret
            rw [HE.out]
            exact ⟨rfl, rfl⟩
        · have HE : Hid (decide (Rgh n a r) = false) := HV.out false ⟨fun q => (by cases q), fun q => (by have := q.2.2.2; omega)⟩
          go_enter Tryd.func12, Tryd.ntmps12
          go_wp2
          go_ret
          rw [HE.out]
          exact ⟨rfl, rfl⟩
      · have HE : Hid (decide (Rgh n a r) = false) := HV.out false ⟨fun q => (by cases q), fun q => absurd q.2.2.1 c3⟩
        go_enter Tryd.func12, Tryd.ntmps12
        go_wp2
        go_ret
        rw [HE.out]
        exact ⟨rfl, rfl⟩
    · have HE : Hid (decide (Rgh n a r) = false) := HV.out false ⟨fun q => (by cases q), fun q => absurd q.2.1 c2⟩
      go_enter Tryd.func12, Tryd.ntmps12
      go_wp2
      go_ret
      rw [HE.out]
      exact ⟨rfl, rfl⟩
  · have HE : Hid (decide (Rgh n a r) = false) := HV.out false ⟨fun q => (by cases q), fun q => absurd q.1 c1⟩
    go_enter Tryd.func12, Tryd.ntmps12
    go_wp2
    go_ret
    rw [HE.out]
    exact ⟨rfl, rfl⟩
/-- The snap and the law's boxes: the document's snap, the step. -/
structure P3 {V : Disk1} (Q : Snap1 V) (d q r : Value) (a room : Nat) (G : Nat → Prop) (bw bo : Nat) (k i : Int) (vb vf : Value) (w : World) : Prop where
  st : Q.St w q d a room G
  x0 : w.cell? ⟨bw, 0, none⟩ = some r
  x1 : w.cell? ⟨bw, 1, none⟩ = some (.int .i64 (a : Int))
  x2 : w.cell? ⟨bw, 2, none⟩ = some (.int .i64 (room : Int))
  y0 : w.cell? ⟨bo, 0, none⟩ = some (.int .i64 k)
  y1 : w.cell? ⟨bo, 1, none⟩ = some (.int .i64 i)
  y2 : w.cell? ⟨bo, 2, none⟩ = some vb
  y3 : w.cell? ⟨bo, 3, none⟩ = some vf
theorem P3.kn {V : Disk1} {Q : Snap1 V} {d q r : Value} {a room : Nat} {G N : Nat → Prop} {bw bo : Nat} {k i : Int} {vb vf : Value} {w w' : World} (h : P3 Q d q r a room G bw bo k i vb vf w) (K : Kn N w w') (hG : ∀ k, G k → N k) (hw : N bw) (ho : N bo) : P3 Q d q r a room G bw bo k i vb vf w' :=
  ⟨Q.stN h.st hG K, K.cell (a := ⟨bw, 0, none⟩) hw h.x0, K.cell (a := ⟨bw, 1, none⟩) hw h.x1, K.cell (a := ⟨bw, 2, none⟩) hw h.x2, K.cell (a := ⟨bo, 0, none⟩) ho h.y0, K.cell (a := ⟨bo, 1, none⟩) ho h.y1, K.cell (a := ⟨bo, 2, none⟩) ho h.y2, K.cell (a := ⟨bo, 3, none⟩) ho h.y3⟩
theorem P3.later {V : Disk1} {Q : Snap1 V} {d q r : Value} {a room : Nat} {G : Nat → Prop} {bw bo : Nat} {k i : Int} {vb vf : Value} {w w' : World} (h : P3 Q d q r a room G bw bo k i vb vf w) (K : Below w.heap.size w w') : P3 Q d q r a room G bw bo k i vb vf w' :=
  ⟨Q.stL h.st K, cell_later K h.x0, cell_later K h.x1, cell_later K h.x2, cell_later K h.y0, cell_later K h.y1, cell_later K h.y2, cell_later K h.y3⟩
/-- The state of the law between two steps. -/
def Pst (V : Disk1) (Q : Snap1 V) (w0 w : World) (d r q : Value) (a room nb bw : Nat) (G : Nat → Prop) : Prop :=
  ∃ (s : Dsk) (N : Nat → Prop), D2 V w0 w d r s s N ∧ Jq nb s ∧ (∀ k, G k → N k) ∧ N bw ∧ Q.St w q d a room G ∧ w.cell? ⟨bw, 0, none⟩ = some r ∧ w.cell? ⟨bw, 1, none⟩ = some (.int .i64 (a : Int)) ∧ w.cell? ⟨bw, 2, none⟩ = some (.int .i64 (room : Int))
set_option maxRecDepth 100000 in
set_option maxHeartbeats 32000000 in
theorem snapPlays_any {V : Disk1} (Q : Snap1 V) (n pa pr : Int) (hn64 : Bd64 n) (ha64 : Bd64 pa) (hr64 : Bd64 pr) (vo : Value) (os : List Opv) (hbo : (∀ j, j < os.length → ∀ c ∈ (os.getD j op0).b, c < 256) ∧ ∀ j, j < os.length → Bd64 (os.getD j op0).i) (w : World) (ho : Ops w vo os) (hT : ST w) :
    Calls Tryd.prog 3 #[.agg #[.int .i64 n, .int .i64 pa, .int .i64 pr], vo] w fun e w' => e = .returned (.bool true) ∧ Below w.heap.size w w' := by
  have HY : Hid ((∀ j, j < os.length → ∀ c ∈ (os.getD j op0).b, c < 256) ∧ ∀ j, j < os.length → Bd64 (os.getD j op0).i) := hbo
  have HB64 : Hid (Bd64 pa ∧ Bd64 pr) := ⟨ha64, hr64⟩
  obtain ⟨ao, cpo, rfl, k3, k4⟩ := ho.len
  unfold maxLen at k4
  obtain ⟨m, hm⟩ : ∃ m, os.length = m := ⟨_, rfl⟩
  have HM : Hid (os.length = m) := hm
  obtain ⟨wP, hwP⟩ : ∃ wP, wP = w.alloc (.cells #[.int .i64 n, .int .i64 pa, .int .i64 pr] 23) := ⟨_, rfl⟩
  have HP0 : Hid (Below w.heap.size w wP ∧ wP.cell? ⟨w.heap.size, 0, none⟩ = some (.int .i64 n) ∧ wP.cell? ⟨w.heap.size, 1, none⟩ = some (.int .i64 pa) ∧ wP.cell? ⟨w.heap.size, 2, none⟩ = some (.int .i64 pr) ∧ w.heap.size < wP.heap.size) := by
    rw [hwP]
    exact ⟨bel1 _ _, by simp [go_sem], by simp [go_sem], by simp [go_sem], by simp⟩
  have HL : Hid (Ops wP (.slice ao os.length cpo) os) := ho.later HP0.out.1
  have HT : Hid (ST wP) := hT.later HP0.out.1
  rw [hm] at k3 HL ⊢
  clear ho hm hbo ha64 hr64 hT
  have HPc : Hid (∀ W, Below wP.heap.size wP W → W.cell? ⟨w.heap.size, 0, none⟩ = some (.int .i64 n) ∧ W.cell? ⟨w.heap.size, 1, none⟩ = some (.int .i64 pa) ∧ W.cell? ⟨w.heap.size, 2, none⟩ = some (.int .i64 pr)) := fun W h => ⟨cell_later h HP0.out.2.1, cell_later h HP0.out.2.2.1, cell_later h HP0.out.2.2.2.1⟩
  have HEnd : Hid (∀ W, Below wP.heap.size wP W → Below w.heap.size w W) := fun W h => bchain HP0.out.1 h
  go_enter Tryd.func3, Tryd.ntmps3
  go_upto_region 1 with fail
  rw [← hwP]
  clear hwP HP0
  go_wp2_with fail
  refine (awake16 Q wP HT.out).mono ?_
  rintro e w1 ⟨rfl, hb1⟩
  have HB1 : Hid (Below wP.heap.size wP w1) := hb1
  clear hb1
  go_wp2_with fail
  refine (few16 _ os w1 (HL.out.later HB1.out)).mono ?_
  rintro e w2 ⟨B, rfl, hF, hb2⟩
  have HB2 : Hid (Below wP.heap.size wP w2) := bchain HB1.out hb2
  have HF : Hid (B = true → Fev os) := hF
  clear hb2 hF HB1
  obtain ⟨z0, z1, z2⟩ := HPc.out w2 HB2.out
  cases B with
  | false =>
    go_wp2
    go_ret
    exact ⟨rfl, HEnd.out _ HB2.out⟩
  | true =>
    have HFw : Hid (Fev os) := HF.out rfl
    clear HF
    by_cases q1 : n < 1
    · go_wp2
      go_ret
      exact ⟨rfl, HEnd.out _ HB2.out⟩
    have q1B : decide (n < 1) = false := decide_eq_false q1
    by_cases q2 : 40 < n
    · go_wp2
      go_ret
      exact ⟨rfl, HEnd.out _ HB2.out⟩
    have q2B : decide (40 < n) = false := decide_eq_false q2
    obtain ⟨nb, rfl⟩ : ∃ nb : Nat, n = (nb : Int) := ⟨n.toNat, by omega⟩
    have HNb : Hid (1 ≤ nb ∧ nb ≤ 40) := ⟨by omega, by omega⟩
    go_wp2_with fail
    refine (dwNew V wP w2 nb HNb.out.1 (by have := HNb.out; omega) HB2.out).mono ?_
    rintro e w3 ⟨d, rfl, hD3⟩
    have HD3 : Hid (Dw V wP w3 d (dNew nb)) := hD3
    clear hD3 HB2 z0 z1 z2
    obtain ⟨z0, z1, z2⟩ := HPc.out w3 HD3.out.bel
    go_wp2_with fail
    refine (refNew w3 nb (by have := HNb.out; omega)).mono ?_
    rintro e w4 ⟨r, G0, rfl, hR4, hG4, hW4⟩
    obtain ⟨br, er⟩ : ∃ br, r = .pointer (some ⟨br, 0, none⟩) := by obtain ⟨b, _, _, _, _, e, _⟩ := hR4; exact ⟨b, e⟩
    subst er
    have HD4 : Hid (D2 V wP w4 d (.pointer (some ⟨br, 0, none⟩)) (dNew nb) (dNew nb) (fun _ => False)) := d2NewS HD3.out hR4 hG4 hW4
    clear hR4 hG4 hW4 HD3 z0 z1 z2
    obtain ⟨z0, z1, z2⟩ := HPc.out w4 HD4.out.bel
    have HLn : Hid ((dNew nb).bl.length = nb) := List.length_replicate
    have HRg := hid5 (refRight16 (nb : Int) pa pr (by have := HNb.out; omega) HB64.out.1 HB64.out.2)
    by_cases hg : ¬ Rgh (nb : Int) pa pr
    · have HQ : Hid (Calls Tryd.prog 11 #[d, .int .i64 pa, .int .i64 pr] w4 fun e w' => e = .returned (.tuple #[.pointer none, .int .i64 2]) ∧ Below w4.heap.size w4 w') := by
        obtain ⟨F, G, h1, h2, h3, h4, h5, h6, h7⟩ := HD4.out
        exact Q.newN w4 d F (dNew nb) pa pr h1 HB64.out.1 HB64.out.2 (by rw [HLn.out]; exact hg)
      go_wp2_with fail
      refine HQ.out.mono ?_
      rintro e w5 ⟨rfl, hb5⟩
      have HB5 : Hid (Below wP.heap.size wP w5) := bchain HD4.out.bel hb5
      clear hb5 HQ HD4 z0 z1 z2
      obtain ⟨z0, z1, z2⟩ := HPc.out w5 HB5.out
      go_wp2_with fail
      refine (HRg.out w5).mono ?_
      rintro e wx ⟨rfl, hwx⟩
      have hwx := hwx.symm
      subst hwx
      rw [decide_eq_false hg]
      go_wp2
      go_ret
      exact ⟨rfl, HEnd.out _ HB5.out⟩
    have hg : Rgh (nb : Int) pa pr := Decidable.not_not.1 hg
    obtain ⟨room, rfl⟩ : ∃ x : Nat, pr = (x : Int) := ⟨pr.toNat, by have := hg.1; omega⟩
    obtain ⟨a, rfl⟩ : ∃ x : Nat, pa = (x : Int) := ⟨pa.toNat, by have := hg.2.2.1; omega⟩
    have HRm : Hid (1 ≤ room ∧ a + 2 * (room + 1) ≤ nb ∧ room ≤ 20) := by
      obtain ⟨g1, g2, g3, g4⟩ := hg
      have := HNb.out
      exact ⟨by omega, by omega, by omega⟩
    have HQ : Hid (Calls Tryd.prog 11 #[d, .int .i64 (a : Int), .int .i64 (room : Int)] w4 fun e w' => ∃ aq G, e = .returned (.tuple #[.pointer (some aq), .int .i64 0]) ∧ Q.St w' (.pointer (some aq)) d a room G ∧ (∀ k, G k → w4.heap.size ≤ k) ∧ Below w4.heap.size w4 w') := by
      obtain ⟨F, G, h1, h2, h3, h4, h5, h6, h7⟩ := HD4.out
      exact Q.newY w4 d F (dNew nb) a room h1 HRm.out.1 (by have := HRm.out; omega) (by rw [HLn.out]; exact HRm.out.2.1)
    go_wp2_with fail
    refine HQ.out.mono ?_
    rintro e w5 ⟨aq, G, rfl, hq5, hG5, hb5⟩
    have HD5 : Hid (D2 V wP w5 d (.pointer (some ⟨br, 0, none⟩)) (dNew nb) (dNew nb) G ∧ Q.St w5 (.pointer (some aq)) d a room G) := ⟨(HD4.out.later hb5).weak (fun k hk => Or.inr ⟨hG5 k hk, Q.stB hq5 k hk⟩), hq5⟩
    clear hq5 hG5 hb5 HQ HD4 z0 z1 z2
    obtain ⟨z0, z1, z2⟩ := HPc.out w5 HD5.out.1.bel
    go_wp2_with fail
    refine (HRg.out w5).mono ?_
    rintro e wx ⟨rfl, hwx⟩
    have hwx := hwx.symm
    subst hwx
    rw [decide_eq_true hg]
    clear hg HRg
    obtain ⟨w6, hw6⟩ : ∃ w6, w6 = w5.alloc (.cells #[.pointer (some ⟨br, 0, none⟩), .int .i64 (a : Int), .int .i64 (room : Int)] 38) := ⟨_, rfl⟩
    have HP6 : Hid (Pst V Q wP w6 d (.pointer (some ⟨br, 0, none⟩)) (.pointer (some aq)) a room nb w5.heap.size G) := by
      have k := bel1 w5 (.cells #[.pointer (some ⟨br, 0, none⟩), .int .i64 (a : Int), .int .i64 (room : Int)] 38)
      have hs : w6.heap.size = w5.heap.size + 1 := by rw [hw6]; simp
      rw [← hw6] at k
      refine ⟨dNew nb, _, HD5.out.1.later k, jq_new nb, fun k hk => Or.inl hk, Or.inr ⟨Nat.le_refl _, by omega⟩, Q.stL HD5.out.2 k, ?_, ?_, ?_⟩
      · rw [hw6]; simp [go_sem]
      · rw [hw6]; simp [go_sem]
      · rw [hw6]; simp [go_sem]
    go_upto_region 14 with fail
    rw [← hw6]
    clear hw6 HD5 z0 z1 z2 HLn
    generalize w5.heap.size = bw at *
    go_loopw [84] (fun s84 wr => ∃ j : Nat, j ≤ m ∧ s84 = .int .i64 (j : Int) ∧ Hid (Pst V Q wP wr d (.pointer (some ⟨br, 0, none⟩)) (.pointer (some aq)) a room nb bw G)) (fun s84 _ => m - (intOf s84).toNat)
    case atStart => exact ⟨0, by omega, rfl, HP6.out⟩
    case round =>
      obtain ⟨j, hj, rfl, HS⟩ := hrel
      clear HP6
      obtain ⟨s, N, hD, hJ, hGN, hNw, hq, x0, x1, x2⟩ := HS.out
      have HD : Hid (D2 V wP wr d (.pointer (some ⟨br, 0, none⟩)) s s N) := hD
      have HJ : Hid (Jq nb s) := hJ
      have HG : Hid ((∀ k, G k → N k) ∧ N bw ∧ Q.St wr (.pointer (some aq)) d a room G) := ⟨hGN, hNw, hq⟩
      clear HS hD hJ hGN hNw hq
      by_cases hlt : j < m
      · have hjI : (j : Int) < (m : Int) := by omega
        have hj0 : (0 : Int) ≤ (j : Int) := by omega
        have hm80 : m ≤ 60 := by have := HFw.out.1; have := HM.out; omega
        have hM := HM.out
        obtain ⟨b, ob, vb, vf, rfl, c0, c1, c2, c3, hB, hF⟩ := HL.out.cel j (by omega)
        obtain ⟨a1, p1, rfl, -, -⟩ := hB.len
        obtain ⟨a2, p2, rfl, -, -⟩ := hF.len
        have HV : Hid (Lo wP.heap.size (.slice a1 (os.getD j op0).b.length p1) ∧ Lo wP.heap.size (.slice a2 (os.getD j op0).fs.length p2) ∧ Bs wP (.slice a1 (os.getD j op0).b.length p1) (os.getD j op0).b ∧ Fts wP (.slice a2 (os.getD j op0).fs.length p2) (os.getD j op0).fs ∧ (os.getD j op0).b.length ≤ 1500 ∧ (os.getD j op0).fs.length ≤ 40 ∧ (∀ c ∈ (os.getD j op0).b, c < 256) ∧ Bd64 (os.getD j op0).i) := ⟨Ls.lo hB, hF.lo, hB, hF, (HFw.out.2 j (by omega)).1, (HFw.out.2 j (by omega)).2, HY.out.1 j (by omega), HY.out.2 j (by omega)⟩
        have y0 := cell_later HD.out.bel c0
        have y1 := cell_later HD.out.bel c1
        have y2 := cell_later HD.out.bel c2
        have y3 := cell_later HD.out.bel c3
        clear c0 c1 c2 c3 hB hF hM
        generalize (os.getD j op0).k = kk at *
        generalize (os.getD j op0).i = ii at *
        generalize (os.getD j op0).b = bb at *
        generalize (os.getD j op0).fs = ff at *
        obtain ⟨nb1, hnb1⟩ : ∃ x, bb.length = x := ⟨_, rfl⟩
        obtain ⟨nf1, hnf1⟩ : ∃ x, ff.length = x := ⟨_, rfl⟩
        have HNN : Hid (bb.length = nb1 ∧ ff.length = nf1) := ⟨hnb1, hnf1⟩
        rw [hnb1] at y2 HV
        rw [hnf1] at y3 HV
        clear hnb1 hnf1
        obtain ⟨wx, hwx⟩ : ∃ wx, wx = wr.alloc (.cells #[.int .i64 kk, .int .i64 ii, .slice a1 nb1 p1, .slice a2 nf1 p2] 42) := ⟨_, rfl⟩
        obtain ⟨N1, hN1⟩ : ∃ N1 : Nat → Prop, N1 = (fun i => N i ∨ (wr.heap.size ≤ i ∧ i < wx.heap.size)) := ⟨_, rfl⟩
        have HX : Hid (D2 V wP wx d (.pointer (some ⟨br, 0, none⟩)) s s N1 ∧ P3 Q d (.pointer (some aq)) (.pointer (some ⟨br, 0, none⟩)) a room G bw wr.heap.size kk ii (.slice a1 nb1 p1) (.slice a2 nf1 p2) wx) := by
          have k := bel1 wr (.cells #[.int .i64 kk, .int .i64 ii, .slice a1 nb1 p1, .slice a2 nf1 p2] 42)
          rw [← hwx] at k
          refine ⟨by rw [hN1]; exact HD.out.later k, Q.stL HG.out.2.2 k, cell_later k x0, cell_later k x1, cell_later k x2, ?_, ?_, ?_, ?_⟩
          · rw [hwx]; simp [go_sem]
          · rw [hwx]; simp [go_sem]
          · rw [hwx]; simp [go_sem]
          · rw [hwx]; simp [go_sem]
        have HN1 : Hid ((∀ k, G k → N1 k) ∧ N1 bw ∧ N1 wr.heap.size) := by
          have hs : wx.heap.size = wr.heap.size + 1 := by rw [hwx]; simp
          rw [hN1]
          exact ⟨fun k hk => Or.inl (HG.out.1 k hk), Or.inl HG.out.2.1, Or.inr ⟨Nat.le_refl _, by omega⟩⟩
        have hs1 : s.bl.length = nb := HJ.out.bl
        have HU : Hid (s.un.length ≤ 60 ∧ s.bl.length = nb ∧ nb ≤ 40) := ⟨HJ.out.le, hs1, HNb.out.2⟩
        clear hs1 hN1
        go_upto_region 16 with fail
        rw [← hwx]
        clear hwx HD HG x0 x1 x2 y0 y1 y2 y3
        generalize wr.heap.size = bo at *
        have x0 := HX.out.2.x0
        have x1 := HX.out.2.x1
        have x2 := HX.out.2.x2
        have y0 := HX.out.2.y0
        have y1 := HX.out.2.y1
        have y2 := HX.out.2.y2
        have y3 := HX.out.2.y3
        by_cases q3 : kk = 1
        · subst q3
          go_wp2_with fail
          refine (d2SvD Q HX.out.1 HT.out HX.out.2.st HN1.out.1 HRm.out.1 (by rw [HU.out.2.1]; exact HRm.out.2.1) (by rw [HU.out.2.1]; have := HU.out; omega) (by have := HU.out; omega) (HV.out.2.2.1.later HX.out.1.bel) (Lo.ou HV.out.1) HV.out.2.2.2.2.2.2.1 (by have := HNN.out; have := HV.out.2.2.2.2.1; omega)).mono ?_
          rintro e v1 ⟨rfl, hD, hK⟩
          have HX1 : Hid (D2 V wP v1 d (.pointer (some ⟨br, 0, none⟩)) (svR s a room bb).2.2 s N1 ∧ P3 Q d (.pointer (some aq)) (.pointer (some ⟨br, 0, none⟩)) a room G bw bo 1 ii (.slice a1 nb1 p1) (.slice a2 nf1 p2) v1) := ⟨hD, HX.out.2.kn hK HN1.out.1 HN1.out.2.1 HN1.out.2.2⟩
          clear hD hK HX
          clear x0 x1 x2 y0 y1 y2 y3
          have x0 := HX1.out.2.x0
          have x1 := HX1.out.2.x1
          have x2 := HX1.out.2.x2
          have y0 := HX1.out.2.y0
          have y1 := HX1.out.2.y1
          have y2 := HX1.out.2.y2
          have y3 := HX1.out.2.y3
          go_wp2_with fail
          refine (d2SvR HX1.out.1 (by rw [HU.out.2.1]; exact HRm.out.2.1) (by rw [HU.out.2.1]; have := HU.out; omega) (by have := HU.out; omega) (HV.out.2.2.1.later HX1.out.1.bel) (Lo.ou HV.out.1) HV.out.2.2.2.2.2.2.1 (by have := HNN.out; have := HV.out.2.2.2.2.1; omega)).mono ?_
          rintro e v2 ⟨rfl, hD, hK⟩
          have HX2 : Hid (D2 V wP v2 d (.pointer (some ⟨br, 0, none⟩)) (svR s a room bb).2.2 (svR s a room bb).2.2 N1 ∧ P3 Q d (.pointer (some aq)) (.pointer (some ⟨br, 0, none⟩)) a room G bw bo 1 ii (.slice a1 nb1 p1) (.slice a2 nf1 p2) v2) := ⟨hD, HX1.out.2.kn hK HN1.out.1 HN1.out.2.1 HN1.out.2.2⟩
          clear hD hK HX1
          clear x0 x1 x2 y0 y1 y2 y3
          have x0 := HX2.out.2.x0
          have x1 := HX2.out.2.x1
          have x2 := HX2.out.2.x2
          have y0 := HX2.out.2.y0
          have y1 := HX2.out.2.y1
          have y2 := HX2.out.2.y2
          have y3 := HX2.out.2.y3
          have HJ2 : Hid (Jq nb (svR s a room bb).2.2) := jq_sv HJ.out HRm.out.2.1 (by have := HRm.out; omega)
          obtain ⟨sv, hsv⟩ : ∃ sv, svR s a room bb = sv := ⟨_, rfl⟩
          rw [hsv] at HX2 HJ2 ⊢
          clear hsv
          obtain ⟨sn, se, ss⟩ := sv
          dsimp only at HX2 HJ2 ⊢
          have t1 : ((sn : Int) != (sn : Int)) = false := by simp
          have t2 : ((se : Int) != (se : Int)) = false := by simp
          have HJn : Hid (Jq nb ss) := HJ2.out
          go_wp2_with fail
          refine (same16 HX2.out.1 (by rw [HJn.out.bl]; have := HNb.out; omega)).mono ?_
          rintro e wz ⟨rfl, hbz⟩
          have HPn : Hid (Pst V Q wP wz d (.pointer (some ⟨br, 0, none⟩)) (.pointer (some aq)) a room nb bw G) := by
            have p := HX2.out.2.later hbz
            exact ⟨ss, N1, (HX2.out.1.later hbz).weak (fun k hk => Or.inl hk), HJn.out, HN1.out.1, HN1.out.2.1, p.st, p.x0, p.x1, p.x2⟩
          clear hbz HX2 HJn
          clear x0 x1 x2 y0 y1 y2 y3
          go_wp2
          go_roundw
          case rel => exact ⟨j + 1, by omega, by first | rfl | go_num, HPn⟩
          case measure => simp [intOf]; omega
        by_cases q4 : kk = 2
        · subst q4
          go_wp2_with fail
          refine (d2LdD Q HX.out.1 HT.out HX.out.2.st HRm.out.1 (by rw [HU.out.2.1]; exact HRm.out.2.1) (by rw [HU.out.2.1]; have := HU.out; omega) (by have := HU.out; omega)).mono ?_
          rintro e v1 ⟨u1, rfl, hB1, hO1, hW1⟩
          have HX1 : Hid (D2 V wP v1 d (.pointer (some ⟨br, 0, none⟩)) s s N1 ∧ P3 Q d (.pointer (some aq)) (.pointer (some ⟨br, 0, none⟩)) a room G bw bo 2 ii (.slice a1 nb1 p1) (.slice a2 nf1 p2) v1) := ⟨(HX.out.1.later hW1).weak (fun k hk => Or.inl hk), HX.out.2.later hW1⟩
          have HU1 : Hid (Bs v1 u1 (ldW s a room).1) := hB1
          obtain ⟨b1, c1, rfl, -, -⟩ := hB1.len
          clear hB1 hO1 hW1 HX
          clear x0 x1 x2 y0 y1 y2 y3
          have x0 := HX1.out.2.x0
          have x1 := HX1.out.2.x1
          have x2 := HX1.out.2.x2
          have y0 := HX1.out.2.y0
          have y1 := HX1.out.2.y1
          have y2 := HX1.out.2.y2
          have y3 := HX1.out.2.y3
          go_wp2_with fail
          refine (d2LdR HX1.out.1 (by rw [HU.out.2.1]; exact HRm.out.2.1) (by rw [HU.out.2.1]; have := HU.out; omega) (by have := HU.out; omega)).mono ?_
          rintro e v2 ⟨u2, rfl, hB2, hO2, hW2⟩
          have HX2 : Hid (D2 V wP v2 d (.pointer (some ⟨br, 0, none⟩)) s s N1 ∧ P3 Q d (.pointer (some aq)) (.pointer (some ⟨br, 0, none⟩)) a room G bw bo 2 ii (.slice a1 nb1 p1) (.slice a2 nf1 p2) v2) := ⟨(HX1.out.1.later hW2).weak (fun k hk => Or.inl hk), HX1.out.2.later hW2⟩
          have HU2 : Hid (Bs v2 (.slice b1 (ldW s a room).1.length c1) (ldW s a room).1 ∧ Bs v2 u2 (ldW s a room).1) := ⟨HU1.out.later hW2, hB2⟩
          obtain ⟨b2, c2, rfl, -, -⟩ := hB2.len
          clear hB2 hO2 hW2 HX1 HU1
          clear x0 x1 x2 y0 y1 y2 y3
          have x0 := HX2.out.2.x0
          have x1 := HX2.out.2.x1
          have x2 := HX2.out.2.x2
          have y0 := HX2.out.2.y0
          have y1 := HX2.out.2.y1
          have y2 := HX2.out.2.y2
          have y3 := HX2.out.2.y3
          obtain ⟨lv, hlv⟩ : ∃ lv, ldW s a room = lv := ⟨_, rfl⟩
          rw [hlv] at HU2 ⊢
          clear hlv
          obtain ⟨lt, ln, le⟩ := lv
          dsimp only at HU2 ⊢
          generalize lt.length = ll at *
          have t1 : ((ln : Int) != (ln : Int)) = false := by simp
          have t2 : ((le : Int) != (le : Int)) = false := by simp
          go_wp2_with fail
          refine (sameB _ _ _ _ v2 HU2.out.1 HU2.out.2).mono ?_
          rintro e v3 ⟨rfl, hW3⟩
          rw [decide_eq_true rfl]
          have HX3 : Hid (D2 V wP v3 d (.pointer (some ⟨br, 0, none⟩)) s s N1 ∧ P3 Q d (.pointer (some aq)) (.pointer (some ⟨br, 0, none⟩)) a room G bw bo 2 ii (.slice a1 nb1 p1) (.slice a2 nf1 p2) v3) := ⟨(HX2.out.1.later hW3).weak (fun k hk => Or.inl hk), HX2.out.2.later hW3⟩
          clear hW3 HX2 HU2
          clear x0 x1 x2 y0 y1 y2 y3
          have x0 := HX3.out.2.x0
          have x1 := HX3.out.2.x1
          have x2 := HX3.out.2.x2
          have y0 := HX3.out.2.y0
          have y1 := HX3.out.2.y1
          have y2 := HX3.out.2.y2
          have y3 := HX3.out.2.y3
          have HJn : Hid (Jq nb s) := HJ.out
          go_wp2_with fail
          refine (same16 HX3.out.1 (by rw [HJn.out.bl]; have := HNb.out; omega)).mono ?_
          rintro e wz ⟨rfl, hbz⟩
          have HPn : Hid (Pst V Q wP wz d (.pointer (some ⟨br, 0, none⟩)) (.pointer (some aq)) a room nb bw G) := by
            have p := HX3.out.2.later hbz
            exact ⟨s, N1, (HX3.out.1.later hbz).weak (fun k hk => Or.inl hk), HJn.out, HN1.out.1, HN1.out.2.1, p.st, p.x0, p.x1, p.x2⟩
          clear hbz HX3 HJn
          clear x0 x1 x2 y0 y1 y2 y3
          go_wp2
          go_roundw
          case rel => exact ⟨j + 1, by omega, by first | rfl | go_num, HPn⟩
          case measure => simp [intOf]; omega
        by_cases q5 : kk = 3
        · subst q5
          go_wp2_with fail
          refine (d2ArD HX.out.1 ii HV.out.2.2.2.2.2.2.2).mono ?_
          rintro e v1 ⟨rfl, hD, hK⟩
          have HX1 : Hid (D2 V wP v1 d (.pointer (some ⟨br, 0, none⟩)) (arS s ii) s N1 ∧ P3 Q d (.pointer (some aq)) (.pointer (some ⟨br, 0, none⟩)) a room G bw bo 3 ii (.slice a1 nb1 p1) (.slice a2 nf1 p2) v1) := ⟨hD, HX.out.2.kn hK HN1.out.1 HN1.out.2.1 HN1.out.2.2⟩
          clear hD hK HX
          clear x0 x1 x2 y0 y1 y2 y3
          have x0 := HX1.out.2.x0
          have x1 := HX1.out.2.x1
          have x2 := HX1.out.2.x2
          have y0 := HX1.out.2.y0
          have y1 := HX1.out.2.y1
          have y2 := HX1.out.2.y2
          have y3 := HX1.out.2.y3
          go_wp2_with fail
          refine (d2ArR HX1.out.1 ii HV.out.2.2.2.2.2.2.2).mono ?_
          rintro e v2 ⟨rfl, hD, hK⟩
          have HX2 : Hid (D2 V wP v2 d (.pointer (some ⟨br, 0, none⟩)) (arS s ii) (arS s ii) N1 ∧ P3 Q d (.pointer (some aq)) (.pointer (some ⟨br, 0, none⟩)) a room G bw bo 3 ii (.slice a1 nb1 p1) (.slice a2 nf1 p2) v2) := ⟨hD, HX1.out.2.kn hK HN1.out.1 HN1.out.2.1 HN1.out.2.2⟩
          clear hD hK HX1
          clear x0 x1 x2 y0 y1 y2 y3
          have x0 := HX2.out.2.x0
          have x1 := HX2.out.2.x1
          have x2 := HX2.out.2.x2
          have y0 := HX2.out.2.y0
          have y1 := HX2.out.2.y1
          have y2 := HX2.out.2.y2
          have y3 := HX2.out.2.y3
          have HJn : Hid (Jq nb (arS s ii)) := jq_ar HJ.out ii
          go_wp2_with fail
          refine (same16 HX2.out.1 (by rw [HJn.out.bl]; have := HNb.out; omega)).mono ?_
          rintro e wz ⟨rfl, hbz⟩
          have HPn : Hid (Pst V Q wP wz d (.pointer (some ⟨br, 0, none⟩)) (.pointer (some aq)) a room nb bw G) := by
            have p := HX2.out.2.later hbz
            exact ⟨(arS s ii), N1, (HX2.out.1.later hbz).weak (fun k hk => Or.inl hk), HJn.out, HN1.out.1, HN1.out.2.1, p.st, p.x0, p.x1, p.x2⟩
          clear hbz HX2 HJn
          clear x0 x1 x2 y0 y1 y2 y3
          go_wp2
          go_roundw
          case rel => exact ⟨j + 1, by omega, by first | rfl | go_num, HPn⟩
          case measure => simp [intOf]; omega
        by_cases q6 : kk = 4
        · subst q6
          go_wp2_with fail
          refine (d2CrD HX.out.1 (HV.out.2.2.2.1.later HX.out.1.bel) (Lo.ou HV.out.2.1) (by have := HNN.out; have := HV.out.2.2.2.2.2.1; omega) (by have := HU.out; omega)).mono ?_
          rintro e v1 ⟨rfl, hD, hK⟩
          have HX1 : Hid (D2 V wP v1 d (.pointer (some ⟨br, 0, none⟩)) (crS s ff) s N1 ∧ P3 Q d (.pointer (some aq)) (.pointer (some ⟨br, 0, none⟩)) a room G bw bo 4 ii (.slice a1 nb1 p1) (.slice a2 nf1 p2) v1) := ⟨hD, HX.out.2.kn hK HN1.out.1 HN1.out.2.1 HN1.out.2.2⟩
          clear hD hK HX
          clear x0 x1 x2 y0 y1 y2 y3
          have x0 := HX1.out.2.x0
          have x1 := HX1.out.2.x1
          have x2 := HX1.out.2.x2
          have y0 := HX1.out.2.y0
          have y1 := HX1.out.2.y1
          have y2 := HX1.out.2.y2
          have y3 := HX1.out.2.y3
          go_wp2_with fail
          refine (fates16 _ ff (by have := HNN.out; have := HV.out.2.2.2.2.2.1; omega) v1 (HV.out.2.2.2.1.later HX1.out.1.bel)).mono ?_
          rintro e v2 ⟨u2, rfl, hF2, hO2, hW2⟩
          have HX2 : Hid (D2 V wP v2 d (.pointer (some ⟨br, 0, none⟩)) (crS s ff) s (fun i => N1 i ∨ (v1.heap.size ≤ i ∧ i < v2.heap.size)) ∧ P3 Q d (.pointer (some aq)) (.pointer (some ⟨br, 0, none⟩)) a room G bw bo 4 ii (.slice a1 nb1 p1) (.slice a2 nf1 p2) v2 ∧ Fts v2 u2 ff ∧ Ou wP.heap.size (fun i => N1 i ∨ (v1.heap.size ≤ i ∧ i < v2.heap.size)) u2) := ⟨HX1.out.1.later hW2, HX1.out.2.later hW2, hF2, fun x n c e hn => Or.inr (Or.inr ⟨hO2 x n c e hn, hF2.lo x n c e hn⟩)⟩
          obtain ⟨b2, c2, rfl, -, -⟩ := hF2.len
          clear hF2 hO2 hW2 HX1
          clear x0 x1 x2 y0 y1 y2 y3
          have x0 := HX2.out.2.1.x0
          have x1 := HX2.out.2.1.x1
          have x2 := HX2.out.2.1.x2
          have y0 := HX2.out.2.1.y0
          have y1 := HX2.out.2.1.y1
          have y2 := HX2.out.2.1.y2
          have y3 := HX2.out.2.1.y3
          go_wp2_with fail
          refine (d2CrR HX2.out.1 HX2.out.2.2.1 HX2.out.2.2.2 (by have := HU.out; omega)).mono ?_
          rintro e v3 ⟨rfl, hD, hK⟩
          have HX3 : Hid (D2 V wP v3 d (.pointer (some ⟨br, 0, none⟩)) (crS s ff) (crS s ff) N1 ∧ P3 Q d (.pointer (some aq)) (.pointer (some ⟨br, 0, none⟩)) a room G bw bo 4 ii (.slice a1 nb1 p1) (.slice a2 nf1 p2) v3) := ⟨hD.weak (fun k hk => Or.inl hk), HX2.out.2.1.kn hK (fun k hk => Or.inl (HN1.out.1 k hk)) (Or.inl HN1.out.2.1) (Or.inl HN1.out.2.2)⟩
          clear hD hK HX2
          clear x0 x1 x2 y0 y1 y2 y3
          have x0 := HX3.out.2.x0
          have x1 := HX3.out.2.x1
          have x2 := HX3.out.2.x2
          have y0 := HX3.out.2.y0
          have y1 := HX3.out.2.y1
          have y2 := HX3.out.2.y2
          have y3 := HX3.out.2.y3
          have HJn : Hid (Jq nb (crS s ff)) := jq_cr HJ.out ff
          go_wp2_with fail
          refine (same16 HX3.out.1 (by rw [HJn.out.bl]; have := HNb.out; omega)).mono ?_
          rintro e wz ⟨rfl, hbz⟩
          have HPn : Hid (Pst V Q wP wz d (.pointer (some ⟨br, 0, none⟩)) (.pointer (some aq)) a room nb bw G) := by
            have p := HX3.out.2.later hbz
            exact ⟨(crS s ff), N1, (HX3.out.1.later hbz).weak (fun k hk => Or.inl hk), HJn.out, HN1.out.1, HN1.out.2.1, p.st, p.x0, p.x1, p.x2⟩
          clear hbz HX3 HJn
          clear x0 x1 x2 y0 y1 y2 y3
          go_wp2
          go_roundw
          case rel => exact ⟨j + 1, by omega, by first | rfl | go_num, HPn⟩
          case measure => simp [intOf]; omega
        by_cases q7 : kk = 5
        · subst q7
          have HWu : Hid ((wrS s ii bb).un.length ≤ 61) := by have := (bl_wr s ii bb).2; have := HU.out; show _ ≤ _; omega
          go_wp2_with fail
          refine (d2WrD HX.out.1 ii (HV.out.2.2.1.later HX.out.1.bel) (Lo.ou HV.out.1) HV.out.2.2.2.2.2.2.1 (by have := HNN.out; have := HV.out.2.2.2.2.1; omega) (by have := HU.out; omega)).mono ?_
          rintro e v1 ⟨rfl, hD, hK⟩
          have HX1 : Hid (D2 V wP v1 d (.pointer (some ⟨br, 0, none⟩)) (wrS s ii bb) s N1 ∧ P3 Q d (.pointer (some aq)) (.pointer (some ⟨br, 0, none⟩)) a room G bw bo 5 ii (.slice a1 nb1 p1) (.slice a2 nf1 p2) v1) := ⟨hD, HX.out.2.kn hK HN1.out.1 HN1.out.2.1 HN1.out.2.2⟩
          clear hD hK HX
          clear x0 x1 x2 y0 y1 y2 y3
          have x0 := HX1.out.2.x0
          have x1 := HX1.out.2.x1
          have x2 := HX1.out.2.x2
          have y0 := HX1.out.2.y0
          have y1 := HX1.out.2.y1
          have y2 := HX1.out.2.y2
          have y3 := HX1.out.2.y3
          go_wp2_with fail
          refine (d2WrR HX1.out.1 ii (HV.out.2.2.1.later HX1.out.1.bel) HV.out.2.2.2.2.2.2.1 (by have := HU.out; omega)).mono ?_
          rintro e v2 ⟨rfl, hD, hK⟩
          have HX2 : Hid (D2 V wP v2 d (.pointer (some ⟨br, 0, none⟩)) (wrS s ii bb) (wrS s ii bb) N1 ∧ P3 Q d (.pointer (some aq)) (.pointer (some ⟨br, 0, none⟩)) a room G bw bo 5 ii (.slice a1 nb1 p1) (.slice a2 nf1 p2) v2) := ⟨hD, HX1.out.2.kn hK HN1.out.1 HN1.out.2.1 HN1.out.2.2⟩
          clear hD hK HX1
          clear x0 x1 x2 y0 y1 y2 y3
          have x0 := HX2.out.2.x0
          have x1 := HX2.out.2.x1
          have x2 := HX2.out.2.x2
          have y0 := HX2.out.2.y0
          have y1 := HX2.out.2.y1
          have y2 := HX2.out.2.y2
          have y3 := HX2.out.2.y3
          go_wp2_with fail
          refine (d2FlD HX2.out.1 (by have := HWu.out; omega)).mono ?_
          rintro e v3 ⟨rfl, hD, hK⟩
          have HX3 : Hid (D2 V wP v3 d (.pointer (some ⟨br, 0, none⟩)) (flS (wrS s ii bb)) (wrS s ii bb) N1 ∧ P3 Q d (.pointer (some aq)) (.pointer (some ⟨br, 0, none⟩)) a room G bw bo 5 ii (.slice a1 nb1 p1) (.slice a2 nf1 p2) v3) := ⟨hD, HX2.out.2.kn hK HN1.out.1 HN1.out.2.1 HN1.out.2.2⟩
          clear hD hK HX2
          clear x0 x1 x2 y0 y1 y2 y3
          have x0 := HX3.out.2.x0
          have x1 := HX3.out.2.x1
          have x2 := HX3.out.2.x2
          have y0 := HX3.out.2.y0
          have y1 := HX3.out.2.y1
          have y2 := HX3.out.2.y2
          have y3 := HX3.out.2.y3
          go_wp2_with fail
          refine (d2FlR HX3.out.1 (by have := HWu.out; omega)).mono ?_
          rintro e v4 ⟨rfl, hD, hK⟩
          have HX4 : Hid (D2 V wP v4 d (.pointer (some ⟨br, 0, none⟩)) (flS (wrS s ii bb)) (flS (wrS s ii bb)) N1 ∧ P3 Q d (.pointer (some aq)) (.pointer (some ⟨br, 0, none⟩)) a room G bw bo 5 ii (.slice a1 nb1 p1) (.slice a2 nf1 p2) v4) := ⟨hD, HX3.out.2.kn hK HN1.out.1 HN1.out.2.1 HN1.out.2.2⟩
          clear hD hK HX3
          clear x0 x1 x2 y0 y1 y2 y3
          have x0 := HX4.out.2.x0
          have x1 := HX4.out.2.x1
          have x2 := HX4.out.2.x2
          have y0 := HX4.out.2.y0
          have y1 := HX4.out.2.y1
          have y2 := HX4.out.2.y2
          have y3 := HX4.out.2.y3
          have HJn : Hid (Jq nb (flS (wrS s ii bb))) := jq_wrfl HJ.out ii bb
          go_wp2_with fail
          refine (same16 HX4.out.1 (by rw [HJn.out.bl]; have := HNb.out; omega)).mono ?_
          rintro e wz ⟨rfl, hbz⟩
          have HPn : Hid (Pst V Q wP wz d (.pointer (some ⟨br, 0, none⟩)) (.pointer (some aq)) a room nb bw G) := by
            have p := HX4.out.2.later hbz
            exact ⟨(flS (wrS s ii bb)), N1, (HX4.out.1.later hbz).weak (fun k hk => Or.inl hk), HJn.out, HN1.out.1, HN1.out.2.1, p.st, p.x0, p.x1, p.x2⟩
          clear hbz HX4 HJn
          clear x0 x1 x2 y0 y1 y2 y3
          go_wp2
          go_roundw
          case rel => exact ⟨j + 1, by omega, by first | rfl | go_num, HPn⟩
          case measure => simp [intOf]; omega
        have HJn : Hid (Jq nb s) := HJ.out
        go_wp2_with fail
        refine (same16 HX.out.1 (by rw [HJn.out.bl]; have := HNb.out; omega)).mono ?_
        rintro e wz ⟨rfl, hbz⟩
        have HPn : Hid (Pst V Q wP wz d (.pointer (some ⟨br, 0, none⟩)) (.pointer (some aq)) a room nb bw G) := by
          have p := HX.out.2.later hbz
          exact ⟨s, N1, (HX.out.1.later hbz).weak (fun k hk => Or.inl hk), HJn.out, HN1.out.1, HN1.out.2.1, p.st, p.x0, p.x1, p.x2⟩
        clear hbz HX HJn
        clear x0 x1 x2 y0 y1 y2 y3
        go_wp2
        go_roundw
        case rel => exact ⟨j + 1, by omega, by first | rfl | go_num, HPn⟩
        case measure => simp [intOf]; omega
      · obtain rfl : j = m := by omega
        have hjI : ¬ (j : Int) < (j : Int) := by omega
        have HE : Hid (Below w.heap.size w wr) := HEnd.out _ HD.out.bel
        clear HD
        go_wp2
        go_ret
        exact ⟨rfl, HE.out⟩
end Go.Proofs.YtpmmfmlldkdfhaaDoor
