/-
  The laws of layer 16: SnapFalls.
-/
import Derived.Test.YtpmmfmlldkdfhaaDoorZ20

set_option linter.unusedVariables false
set_option linter.unusedSimpArgs false
namespace Go.Proofs.YtpmmfmlldkdfhaaDoor
open Go.RowKit

/-- The box of a life. -/
structure Bl (b : Nat) (v0 : Value) (n : Int) (v2 : Value) (w : World) : Prop where
  x0 : w.cell? ⟨b, 0, none⟩ = some v0
  x1 : w.cell? ⟨b, 1, none⟩ = some (.int .i64 n)
  x2 : w.cell? ⟨b, 2, none⟩ = some v2
theorem Bl.kn {b : Nat} {v0 : Value} {n : Int} {v2 : Value} {w w' : World} {N : Nat → Prop} (h : Bl b v0 n v2 w) (k : Kn N w w') (hb : N b) : Bl b v0 n v2 w' :=
  ⟨k.cell (a := ⟨b, 0, none⟩) hb h.x0, k.cell (a := ⟨b, 1, none⟩) hb h.x1, k.cell (a := ⟨b, 2, none⟩) hb h.x2⟩
theorem Bl.later {b : Nat} {v0 : Value} {n : Int} {v2 : Value} {w w' : World} (h : Bl b v0 n v2 w) (k : Below w.heap.size w w') : Bl b v0 n v2 w' := ⟨cell_later k h.x0, cell_later k h.x1, cell_later k h.x2⟩
theorem rest_load {at_ room n : Nat} {last : List Nat} {s : Dsk} (h : SnRest at_ room n last s) : ldW s at_ room = if n = 0 then ([], 0, 160) else (last, n, 0) := by
  unfold ldW
  rw [if_neg (by rw [h.dn]; simp)]
  exact h.load
/-- The state of the law between two lives. -/
def Fst (V : Disk1) (Q : Snap1 V) (w0 w : World) (d q : Value) (room n : Nat) (v : Value) : Prop :=
  ∃ (last : List Nat) (s : Dsk) (M : Nat → Prop), SnRest 0 room n last s ∧ Sn V Q w0 w d q s 0 room M ∧ Bs w v last ∧ Ou w0.heap.size M v ∧ s.bl.length = 2 * (room + 1)
set_option maxRecDepth 100000 in
set_option maxHeartbeats 16000000 in
theorem snapFalls_any {V : Disk1} (Q : Snap1 V) (n : Int) (hn64 : Bd64 n) (vo : Value) (os : List Lfv) (hbo : (∀ j, j < os.length → ∀ c ∈ (os.getD j lf0).b, c < 256) ∧ ∀ j, j < os.length → Bd64 (os.getD j lf0).n) (w : World) (ho : Lvs w vo os) (hT : ST w) :
    Calls Tryd.prog 5 #[.int .i64 n, vo] w fun e w' => e = .returned (.bool true) ∧ Below w.heap.size w w' := by
  have HL : Hid (Lvs w vo os) := ho
  have HY : Hid ((∀ j, j < os.length → ∀ c ∈ (os.getD j lf0).b, c < 256) ∧ ∀ j, j < os.length → Bd64 (os.getD j lf0).n) := hbo
  have HT : Hid (ST w) := hT
  obtain ⟨ao, cpo, rfl, k3, k4⟩ := ho.len
  unfold maxLen at k4
  obtain ⟨m, hm⟩ : ∃ m, os.length = m := ⟨_, rfl⟩
  have HM : Hid (os.length = m) := hm
  rw [hm] at k3 HL ⊢
  clear ho hm hbo hn64 hT
  go_enter Tryd.func5, Tryd.ntmps5
  go_wp2_with fail
  refine (awake16 Q w HT.out).mono ?_
  rintro e w1 ⟨rfl, hb1⟩
  have HB1 : Hid (Below w.heap.size w w1) := hb1
  clear hb1
  by_cases q1 : n < 1
  · go_wp2
    go_ret
    exact ⟨rfl, HB1.out⟩
  have q1B : decide (n < 1) = false := decide_eq_false q1
  by_cases q2 : 6 < n
  · go_wp2
    go_ret
    exact ⟨rfl, HB1.out⟩
  have q2B : decide (6 < n) = false := decide_eq_false q2
  by_cases q3 : 30 < m
  · have q3I : (30 : Int) < (m : Int) := by omega
    go_wp2
    go_ret
    exact ⟨rfl, HB1.out⟩
  have q3I : ¬ (30 : Int) < (m : Int) := by omega
  have q3B : decide ((30 : Int) < (m : Int)) = false := decide_eq_false q3I
  obtain ⟨room, rfl⟩ : ∃ room : Nat, n = (room : Int) := ⟨n.toNat, by omega⟩
  have HRm : Hid (1 ≤ room ∧ room ≤ 6 ∧ m ≤ 30) := ⟨by omega, by omega, by omega⟩
  obtain ⟨R1, hR1⟩ : ∃ R1, 1 + room = R1 := ⟨_, rfl⟩
  obtain ⟨R2, hR2⟩ : ∃ R2, 2 * R1 = R2 := ⟨_, rfl⟩
  have r1 : (1 : Int) + (room : Int) = (R1 : Int) := by omega
  have r2 : IntKind.i64.wrap (R1 : Int) = (R1 : Int) := by rw [IntKind.wrap_i64]; omega
  have r3 : (2 : Int) * (R1 : Int) = (R2 : Int) := by omega
  have r4 : IntKind.i64.wrap (R2 : Int) = (R2 : Int) := by rw [IntKind.wrap_i64]; omega
  have HR2 : Hid (R2 = 2 * (room + 1) ∧ 1 ≤ R2 ∧ R2 ≤ 14) := ⟨by omega, by omega, by omega⟩
  clear hR1 hR2
  go_wp2_with fail
  refine (dwNew V w w1 R2 HR2.out.2.1 (by have := HR2.out.2.2; omega) HB1.out).mono ?_
  rintro e w2 ⟨d, rfl, hD2⟩
  have HD2 : Hid (Dw V w w2 d (dNew R2)) := hD2
  clear hD2 HB1
  go_wp2_with fail
  refine (swNew Q HD2.out 0 room HRm.out.1 (by have := HRm.out; omega) (by have := HR2.out.1; simp [dNew]; omega)).mono ?_
  rintro e w3 ⟨aq, rfl, hD3⟩
  have HF0 : Hid (Fst V Q w w3 d (.pointer (some aq)) room 0 (.slice none 0 0)) := ⟨[], dNew R2, fun _ => False, rest_new (by have := HR2.out.1; omega) (by have := HRm.out; omega), hD3.sn, bs_nilS _, (fun a n cap e hn => by cases e), by rw [← HR2.out.1]; exact List.length_replicate⟩
  clear hD3 HD2
  obtain ⟨M8, hM8⟩ : ∃ M8, room * 128 = M8 := ⟨_, rfl⟩
  have m1 : (room : Int) * 128 = (M8 : Int) := by omega
  have m2 : IntKind.i64.wrap (M8 : Int) = (M8 : Int) := by have := HRm.out; rw [IntKind.wrap_i64]; omega
  have HM8 : Hid (room * 128 = M8) := hM8
  clear hM8 r1 r2 r3 r4
  go_upto_region 14 with fail
  go_loopw [8, 9, 51] (fun s8 s9 s51 wr => ∃ (j N : Nat), j ≤ m ∧ s51 = .int .i64 (j : Int) ∧ s9 = .int .i64 (N : Int) ∧ Hid (N ≤ j ∧ Fst V Q w wr d (.pointer (some aq)) room N s8)) (fun _ _ s51 _ => m - (intOf s51).toNat)
  case atStart => exact ⟨0, 0, by omega, rfl, rfl, Nat.le_refl _, HF0.out⟩
  case round =>
    obtain ⟨j, N, hj, rfl, rfl, HS⟩ := hrel
    clear HF0
    obtain ⟨hNj, last, s, Mk, hR, hS, hB8, hO8, hbl⟩ := HS.out
    obtain ⟨a8, c8, rfl, -, -⟩ := hB8.len
    have HR : Hid (SnRest 0 room N last s ∧ s.bl.length = 2 * (room + 1) ∧ N ≤ 30) := ⟨hR, hbl, by have := HRm.out; omega⟩
    have HSn : Hid (Sn V Q w wr d (.pointer (some aq)) s 0 room Mk) := hS
    have H8 : Hid (Bs wr (.slice a8 last.length c8) last ∧ Ou w.heap.size Mk (.slice a8 last.length c8)) := ⟨hB8, hO8⟩
    have HNj : Hid (N ≤ j) := hNj
    clear HS hR hS hB8 hO8 hbl hNj
    obtain ⟨l8, hl8⟩ : ∃ l8, last.length = l8 := ⟨_, rfl⟩
    have HL8 : Hid (last.length = l8) := hl8
    rw [hl8] at H8 ⊢
    clear hl8
    by_cases hlt : j < m
    · have hjI : (j : Int) < (m : Int) := by omega
      have hj0 : (0 : Int) ≤ (j : Int) := by omega
      have hm30 : m ≤ 30 := HRm.out.2.2
      have hM := HM.out
      obtain ⟨b, ob, vb, vf, rfl, c0, c1, c2, hB, hF⟩ := HL.out.cel j (by omega)
      obtain ⟨a1, p1, rfl, -, -⟩ := hB.len
      obtain ⟨a2, p2, rfl, -, -⟩ := hF.len
      have HV : Hid (Lo w.heap.size (.slice a1 (os.getD j lf0).b.length p1) ∧ Lo w.heap.size (.slice a2 (os.getD j lf0).fs.length p2) ∧ Bs w (.slice a1 (os.getD j lf0).b.length p1) (os.getD j lf0).b ∧ Fts w (.slice a2 (os.getD j lf0).fs.length p2) (os.getD j lf0).fs ∧ (∀ c ∈ (os.getD j lf0).b, c < 256) ∧ Bd64 (os.getD j lf0).n) := ⟨Ls.lo hB, hF.lo, hB, hF, HY.out.1 j (by omega), HY.out.2 j (by omega)⟩
      have x0 := cell_later HSn.out.bel c0
      have x1 := cell_later HSn.out.bel c1
      have x2 := cell_later HSn.out.bel c2
      clear c0 c1 c2 hB hF hM
      generalize (os.getD j lf0).n = nn at *
      generalize (os.getD j lf0).b = bb at *
      generalize (os.getD j lf0).fs = ff at *
      obtain ⟨nb1, hnb1⟩ : ∃ x, bb.length = x := ⟨_, rfl⟩
      obtain ⟨nf1, hnf1⟩ : ∃ x, ff.length = x := ⟨_, rfl⟩
      have HNN : Hid (bb.length = nb1 ∧ ff.length = nf1) := ⟨hnb1, hnf1⟩
      rw [hnb1] at x0 HV
      rw [hnf1] at x2 HV
      clear hnb1 hnf1
      obtain ⟨wx, hwx⟩ : ∃ wx, wx = wr.alloc (.cells #[.slice a1 nb1 p1, .int .i64 nn, .slice a2 nf1 p2] 73) := ⟨_, rfl⟩
      have HX : Hid (Sn V Q w wx d (.pointer (some aq)) s 0 room (fun i => Mk i ∨ (wr.heap.size ≤ i ∧ i < wx.heap.size)) ∧ Bl wr.heap.size (.slice a1 nb1 p1) nn (.slice a2 nf1 p2) wx ∧ wr.heap.size < wx.heap.size ∧ Bs wx (.slice a8 l8 c8) last) := by
        have k := bel1 wr (.cells #[.slice a1 nb1 p1, .int .i64 nn, .slice a2 nf1 p2] 73)
        rw [← hwx] at k
        refine ⟨HSn.out.later k, ?_, by rw [hwx]; simp, H8.out.1.later k⟩
        rw [hwx]
        exact ⟨by simp [go_sem], by simp [go_sem], by simp [go_sem]⟩
      obtain ⟨N1, hN1⟩ : ∃ N1 : Nat → Prop, N1 = (fun i => Mk i ∨ (wr.heap.size ≤ i ∧ i < wx.heap.size)) := ⟨_, rfl⟩
      have HN1 : Hid (N1 wr.heap.size ∧ ∀ k, Mk k → N1 k) := by rw [hN1]; exact ⟨Or.inr ⟨Nat.le_refl _, HX.out.2.2.1⟩, fun k hk => Or.inl hk⟩
      rw [← hN1] at HX
      clear hN1
      go_upto_region 16 with fail
      rw [← hwx]
      clear hwx HSn x0 x1 x2
      have H8o : Hid (Ou w.heap.size N1 (.slice a8 l8 c8)) := H8.out.2.up HN1.out.2
      clear H8
      generalize wr.heap.size = bo at *
      have y0 := HX.out.2.1.x0
      have y1 := HX.out.2.1.x1
      have y2 := HX.out.2.1.x2
      by_cases g1 : M8 < nb1
      · have g1I : (M8 : Int) < (nb1 : Int) := by omega
        go_wp2
        go_ret
        exact ⟨rfl, HX.out.1.bel⟩
      have g1I : ¬ (M8 : Int) < (nb1 : Int) := by omega
      have g1B : decide ((M8 : Int) < (nb1 : Int)) = false := decide_eq_false g1I
      by_cases g2 : 60 < nf1
      · have g2I : (60 : Int) < (nf1 : Int) := by omega
        go_wp2
        go_ret
        exact ⟨rfl, HX.out.1.bel⟩
      have g2I : ¬ (60 : Int) < (nf1 : Int) := by omega
      have g2B : decide ((60 : Int) < (nf1 : Int)) = false := decide_eq_false g2I
      have HD : Hid (bb.length ≤ room * 128 ∧ bb.length ≤ 100000 ∧ ff.length ≤ 1000) := by have := HNN.out; have := HM8.out; have := HRm.out; exact ⟨by omega, by omega, by omega⟩
      go_wp2_with fail
      refine (snArm HX.out.1 nn HV.out.2.2.2.2.2).mono ?_
      rintro e w4 ⟨rfl, hS4, hK4⟩
      have HX4 : Hid (Sn V Q w w4 d (.pointer (some aq)) (arS s nn) 0 room N1 ∧ Bl bo (.slice a1 nb1 p1) nn (.slice a2 nf1 p2) w4 ∧ Bs w4 (.slice a8 l8 c8) last) := ⟨hS4, HX.out.2.1.kn hK4 HN1.out.1, hK4.bs HX.out.1.bel hS4.bel HX.out.2.2.2 H8o.out⟩
      clear hS4 hK4 HX y0 y1 y2
      have y0 := HX4.out.2.1.x0
      have y2 := HX4.out.2.1.x2
      have HLf : Hid (((svR (arS s nn) 0 room bb).2.1 = 0 ∧ (svR (arS s nn) 0 room bb).1 = N + 1 ∧ SnRest 0 room (N + 1) bb (crS (svR (arS s nn) 0 room bb).2.2 ff)) ∨
        ((svR (arS s nn) 0 room bb).2.1 = 150 ∧ (svR (arS s nn) 0 room bb).1 = 0 ∧ (SnRest 0 room N last (crS (svR (arS s nn) 0 room bb).2.2 ff) ∨ SnRest 0 room (N + 1) bb (crS (svR (arS s nn) 0 room bb).2.2 ff)))) := (HR.out.1.arm nn).life HD.out.1 HV.out.2.2.2.2.1 (by have := HR.out.2.2; omega) ff
      have HJ : Hid (Jq (2 * (room + 1)) (svR (arS s nn) 0 room bb).2.2) := jq_sv (jq_ar ⟨fun _ => HR.out.1.un, by rw [HR.out.1.un]; simp, HR.out.2.1⟩ nn) (by omega) (by have := HRm.out; omega)
      go_wp2_with fail
      refine (snSave HX4.out.1 HT.out HRm.out.1 (by show 0 + 2 * (room + 1) ≤ s.bl.length; rw [HR.out.2.1]; omega) (by show s.bl.length ≤ 1000; rw [HR.out.2.1]; have := HRm.out; omega) (by show s.un.length ≤ 400; rw [HR.out.1.un]; simp) (HV.out.2.2.1.later HX4.out.1.bel) (Lo.ou HV.out.1) HV.out.2.2.2.2.1 HD.out.2.1).mono ?_
      rintro e w5 ⟨rfl, hS5, hK5⟩
      obtain ⟨sv1, hsv⟩ : ∃ x, svR (arS s nn) 0 room bb = x := ⟨_, rfl⟩
      rw [hsv] at hS5 HLf HJ ⊢
      obtain ⟨n5, e5, s5⟩ := sv1
      dsimp only at hS5 HLf HJ ⊢
      have HX5 : Hid (Sn V Q w w5 d (.pointer (some aq)) s5 0 room N1 ∧ Bl bo (.slice a1 nb1 p1) nn (.slice a2 nf1 p2) w5 ∧ Bs w5 (.slice a8 l8 c8) last) := ⟨hS5, HX4.out.2.1.kn hK5 HN1.out.1, hK5.bs HX4.out.1.bel hS5.bel HX4.out.2.2 H8o.out⟩
      clear hS5 hK5 HX4 y0 y2 hsv
      have y0 := HX5.out.2.1.x0
      have y2 := HX5.out.2.1.x2
      rcases HLf.out with ⟨f1, f2, f3⟩ | ⟨f1, f2, f3⟩
      · subst f1 f2
        clear HLf
        have n0 : ¬ ((N + 1 : Nat) : Int) = 0 := by omega
        obtain ⟨Np, hNp⟩ : ∃ Np, N + 1 = Np := ⟨_, rfl⟩
        rw [hNp] at f3 n0 ⊢
        have hNp2 : IntKind.i64.wrap ((Np : Int) + 1) = (Np : Int) + 1 := by have := HR.out.2.2; rw [IntKind.wrap_i64]; omega
        have hne : ¬ (Np : Int) = (Np : Int) + 1 := by omega
        have hneB : ((Np : Int) == (Np : Int) + 1) = false := by rw [beq_eq_false_iff_ne]; exact hne
        have HRr : Hid (SnRest 0 room Np bb (crS s5 ff)) := f3
        go_wp2_with fail
        refine (snCrash HX5.out.1 (HV.out.2.2.2.1.later HX5.out.1.bel) (Lo.ou HV.out.2.1) HD.out.2.2 (by have := HJ.out.le; omega)).mono ?_
        rintro e w6 ⟨rfl, hS6, hK6⟩
        have HX6 : Hid (Sn V Q w w6 d (.pointer (some aq)) (crS s5 ff) 0 room N1 ∧ Bl bo (.slice a1 nb1 p1) nn (.slice a2 nf1 p2) w6 ∧ Bs w6 (.slice a8 l8 c8) last ∧ (crS s5 ff).bl.length = 2 * (room + 1)) := ⟨hS6, HX5.out.2.1.kn hK6 HN1.out.1, hK6.bs HX5.out.1.bel hS6.bel HX5.out.2.2 H8o.out, (jq_cr HJ.out ff).bl⟩
        clear hS6 hK6 HX5 y0 y2
        generalize crS s5 ff = s6 at *
        go_wp2_with fail
        refine (snLoad HX6.out.1 HT.out HRm.out.1 (by rw [HX6.out.2.2.2]; omega) (by rw [HX6.out.2.2.2]; have := HRm.out; omega) (by rw [HRr.out.un]; simp)).mono ?_
        rintro e w7 ⟨v7, rfl, hB7, hO7, hW7⟩
        have hld := rest_load HRr.out
        rw [if_neg (by omega)] at hld
        rw [hld] at hB7 ⊢
        obtain ⟨a7, c7, rfl, -, -⟩ := hB7.len
        have HX7 : Hid (Sn V Q w w7 d (.pointer (some aq)) s6 0 room (fun i => N1 i ∨ (w6.heap.size ≤ i ∧ i < w7.heap.size)) ∧ Bl bo (.slice a1 nb1 p1) nn (.slice a2 nf1 p2) w7 ∧ Bs w7 (.slice a8 l8 c8) last ∧ Bs w7 (.slice a7 bb.length c7) bb ∧ Ou w.heap.size (fun i => N1 i ∨ (w6.heap.size ≤ i ∧ i < w7.heap.size)) (.slice a7 bb.length c7) ∧ s6.bl.length = 2 * (room + 1)) := ⟨HX6.out.1.later hW7, HX6.out.2.1.later hW7, HX6.out.2.2.1.later hW7, hB7, fun a n cap e hn => Or.inr (Or.inr ⟨hO7 a n cap e hn, Ls.lo hB7 a n cap e hn⟩), HX6.out.2.2.2⟩
        clear hB7 hO7 hW7 hld HX6
        generalize (fun i => N1 i ∨ (w6.heap.size ≤ i ∧ i < w7.heap.size)) = N7 at *
        obtain ⟨l7, hl7⟩ : ∃ l7, bb.length = l7 := ⟨_, rfl⟩
        dsimp only
        rw [hl7] at HX7 ⊢
        clear hl7
        have y0 := HX7.out.2.1.x0
        have HBo : Hid (Bs w7 (.slice a1 nb1 p1) bb) := HV.out.2.2.1.later HX7.out.1.bel
        go_wp2_with fail
        refine (sameB _ _ _ _ w7 HX7.out.2.2.2.1 HBo.out).mono ?_
        rintro e w8 ⟨rfl, hW8⟩
        rw [decide_eq_true rfl]
        have HF2 : Hid (Np ≤ j + 1 ∧ Fst V Q w w8 d (.pointer (some aq)) room Np (.slice a7 l7 c7)) := ⟨by have := HNj.out; omega, bb, s6, N7, HRr.out, (HX7.out.1.later hW8).weak (fun i hi => Or.inl hi), HX7.out.2.2.2.1.later hW8, HX7.out.2.2.2.2.1, HX7.out.2.2.2.2.2⟩
        have y0b := cell_later hW8 y0
        clear hW8 HX7 y0 HRr
        go_wp2
        go_roundw
        case rel => exact ⟨j + 1, Np, by omega, by go_num, by first | rfl | go_num, HF2⟩
        case measure => simp [intOf]; omega
      · subst f1 f2
        clear HLf
        rcases f3 with f3 | f3
        · by_cases hz : N = 0
          · subst hz
            have HRr : Hid (SnRest 0 room 0 last (crS s5 ff)) := f3
            go_wp2_with fail
            refine (snCrash HX5.out.1 (HV.out.2.2.2.1.later HX5.out.1.bel) (Lo.ou HV.out.2.1) HD.out.2.2 (by have := HJ.out.le; omega)).mono ?_
            rintro e w6 ⟨rfl, hS6, hK6⟩
            have HX6 : Hid (Sn V Q w w6 d (.pointer (some aq)) (crS s5 ff) 0 room N1 ∧ Bl bo (.slice a1 nb1 p1) nn (.slice a2 nf1 p2) w6 ∧ Bs w6 (.slice a8 l8 c8) last ∧ (crS s5 ff).bl.length = 2 * (room + 1)) := ⟨hS6, HX5.out.2.1.kn hK6 HN1.out.1, hK6.bs HX5.out.1.bel hS6.bel HX5.out.2.2 H8o.out, (jq_cr HJ.out ff).bl⟩
            clear hS6 hK6 HX5 y0 y2
            generalize crS s5 ff = s6 at *
            go_wp2_with fail
            refine (snLoad HX6.out.1 HT.out HRm.out.1 (by rw [HX6.out.2.2.2]; omega) (by rw [HX6.out.2.2.2]; have := HRm.out; omega) (by rw [HRr.out.un]; simp)).mono ?_
            rintro e w7 ⟨v7, rfl, hB7, hO7, hW7⟩
            have hld := rest_load HRr.out
            rw [if_pos rfl] at hld
            rw [hld] at hB7 ⊢
            obtain ⟨a7, c7, rfl, -, -⟩ := hB7.len
            have HF2 : Hid (0 ≤ j + 1 ∧ Fst V Q w w7 d (.pointer (some aq)) room 0 (.slice a8 l8 c8)) := ⟨by omega, last, s6, N1, HRr.out, (HX6.out.1.later hW7).weak (fun i hi => Or.inl hi), HX6.out.2.2.1.later hW7, H8o.out, HX6.out.2.2.2⟩
            clear hB7 hO7 hW7 hld HX6
            dsimp only
            go_wp2
            go_roundw
            case rel => exact ⟨j + 1, 0, by omega, by go_num, by first | rfl | go_num, HF2⟩
            case measure => simp [intOf]; omega
          · have n0 : ¬ (N : Int) = 0 := by omega
            have hNp2 : IntKind.i64.wrap ((N : Int) + 1) = (N : Int) + 1 := by have := HR.out.2.2; rw [IntKind.wrap_i64]; omega
            have hne : ¬ (N : Int) = (N : Int) + 1 := by omega
            have hneB : ((N : Int) == (N : Int) + 1) = false := by rw [beq_eq_false_iff_ne]; exact hne
            have n0B : ((N : Int) == 0) = false := by rw [beq_eq_false_iff_ne]; exact n0
            have HRr : Hid (SnRest 0 room N last (crS s5 ff)) := f3
            go_wp2_with fail
            refine (snCrash HX5.out.1 (HV.out.2.2.2.1.later HX5.out.1.bel) (Lo.ou HV.out.2.1) HD.out.2.2 (by have := HJ.out.le; omega)).mono ?_
            rintro e w6 ⟨rfl, hS6, hK6⟩
            have HX6 : Hid (Sn V Q w w6 d (.pointer (some aq)) (crS s5 ff) 0 room N1 ∧ Bl bo (.slice a1 nb1 p1) nn (.slice a2 nf1 p2) w6 ∧ Bs w6 (.slice a8 l8 c8) last ∧ (crS s5 ff).bl.length = 2 * (room + 1)) := ⟨hS6, HX5.out.2.1.kn hK6 HN1.out.1, hK6.bs HX5.out.1.bel hS6.bel HX5.out.2.2 H8o.out, (jq_cr HJ.out ff).bl⟩
            clear hS6 hK6 HX5 y0 y2
            generalize crS s5 ff = s6 at *
            go_wp2_with fail
            refine (snLoad HX6.out.1 HT.out HRm.out.1 (by rw [HX6.out.2.2.2]; omega) (by rw [HX6.out.2.2.2]; have := HRm.out; omega) (by rw [HRr.out.un]; simp)).mono ?_
            rintro e w7 ⟨v7, rfl, hB7, hO7, hW7⟩
            have hld := rest_load HRr.out
            rw [if_neg (by omega)] at hld
            rw [hld] at hB7 ⊢
            obtain ⟨a7, c7, rfl, -, -⟩ := hB7.len
            have HX7 : Hid (Sn V Q w w7 d (.pointer (some aq)) s6 0 room (fun i => N1 i ∨ (w6.heap.size ≤ i ∧ i < w7.heap.size)) ∧ Bl bo (.slice a1 nb1 p1) nn (.slice a2 nf1 p2) w7 ∧ Bs w7 (.slice a8 l8 c8) last ∧ Bs w7 (.slice a7 last.length c7) last ∧ Ou w.heap.size (fun i => N1 i ∨ (w6.heap.size ≤ i ∧ i < w7.heap.size)) (.slice a7 last.length c7) ∧ s6.bl.length = 2 * (room + 1)) := ⟨HX6.out.1.later hW7, HX6.out.2.1.later hW7, HX6.out.2.2.1.later hW7, hB7, fun a n cap e hn => Or.inr (Or.inr ⟨hO7 a n cap e hn, Ls.lo hB7 a n cap e hn⟩), HX6.out.2.2.2⟩
            clear hB7 hO7 hW7 hld HX6
            generalize (fun i => N1 i ∨ (w6.heap.size ≤ i ∧ i < w7.heap.size)) = N7 at *
            obtain ⟨l7, hl7⟩ : ∃ l7, last.length = l7 := ⟨_, rfl⟩
            dsimp only
            rw [hl7] at HX7 ⊢
            clear hl7
            have y0 := HX7.out.2.1.x0
            go_wp2_with fail
            refine (sameB _ _ _ _ w7 HX7.out.2.2.2.1 HX7.out.2.2.1).mono ?_
            rintro e w8 ⟨rfl, hW8⟩
            rw [decide_eq_true rfl]
            have HF2 : Hid (N ≤ j + 1 ∧ Fst V Q w w8 d (.pointer (some aq)) room N (.slice a7 l7 c7)) := ⟨by have := HNj.out; omega, last, s6, N7, HRr.out, (HX7.out.1.later hW8).weak (fun i hi => Or.inl hi), HX7.out.2.2.2.1.later hW8, HX7.out.2.2.2.2.1, HX7.out.2.2.2.2.2⟩
            have y0b := cell_later hW8 y0
            clear hW8 HX7 y0 HRr
            go_wp2
            go_roundw
            case rel => exact ⟨j + 1, N, by omega, by go_num, by first | rfl | go_num, HF2⟩
            case measure => simp [intOf]; omega
        · have HNw : Hid (N + 1 ≤ 31) := by have := HR.out.2.2; show _ ≤ _; omega
          obtain ⟨Np, hNp⟩ : ∃ Np, N + 1 = Np := ⟨_, rfl⟩
          rw [hNp] at f3
          have k1 : (N : Int) + 1 = (Np : Int) := by omega
          have hNp2 : IntKind.i64.wrap (Np : Int) = (Np : Int) := by have := HR.out.2.2; rw [IntKind.wrap_i64]; omega
          have hne : ¬ (Np : Int) = (N : Int) := by omega
          have hneB : ((Np : Int) == (N : Int)) = false := by rw [beq_eq_false_iff_ne]; exact hne
          have n0 : ¬ (Np : Int) = 0 := by omega
          have HRr : Hid (SnRest 0 room Np bb (crS s5 ff)) := f3
          go_wp2_with fail
          refine (snCrash HX5.out.1 (HV.out.2.2.2.1.later HX5.out.1.bel) (Lo.ou HV.out.2.1) HD.out.2.2 (by have := HJ.out.le; omega)).mono ?_
          rintro e w6 ⟨rfl, hS6, hK6⟩
          have HX6 : Hid (Sn V Q w w6 d (.pointer (some aq)) (crS s5 ff) 0 room N1 ∧ Bl bo (.slice a1 nb1 p1) nn (.slice a2 nf1 p2) w6 ∧ Bs w6 (.slice a8 l8 c8) last ∧ (crS s5 ff).bl.length = 2 * (room + 1)) := ⟨hS6, HX5.out.2.1.kn hK6 HN1.out.1, hK6.bs HX5.out.1.bel hS6.bel HX5.out.2.2 H8o.out, (jq_cr HJ.out ff).bl⟩
          clear hS6 hK6 HX5 y0 y2
          generalize crS s5 ff = s6 at *
          go_wp2_with fail
          refine (snLoad HX6.out.1 HT.out HRm.out.1 (by rw [HX6.out.2.2.2]; omega) (by rw [HX6.out.2.2.2]; have := HRm.out; omega) (by rw [HRr.out.un]; simp)).mono ?_
          rintro e w7 ⟨v7, rfl, hB7, hO7, hW7⟩
          have hld := rest_load HRr.out
          rw [if_neg (by omega)] at hld
          rw [hld] at hB7 ⊢
          obtain ⟨a7, c7, rfl, -, -⟩ := hB7.len
          have HX7 : Hid (Sn V Q w w7 d (.pointer (some aq)) s6 0 room (fun i => N1 i ∨ (w6.heap.size ≤ i ∧ i < w7.heap.size)) ∧ Bl bo (.slice a1 nb1 p1) nn (.slice a2 nf1 p2) w7 ∧ Bs w7 (.slice a8 l8 c8) last ∧ Bs w7 (.slice a7 bb.length c7) bb ∧ Ou w.heap.size (fun i => N1 i ∨ (w6.heap.size ≤ i ∧ i < w7.heap.size)) (.slice a7 bb.length c7) ∧ s6.bl.length = 2 * (room + 1)) := ⟨HX6.out.1.later hW7, HX6.out.2.1.later hW7, HX6.out.2.2.1.later hW7, hB7, fun a n cap e hn => Or.inr (Or.inr ⟨hO7 a n cap e hn, Ls.lo hB7 a n cap e hn⟩), HX6.out.2.2.2⟩
          clear hB7 hO7 hW7 hld HX6
          generalize (fun i => N1 i ∨ (w6.heap.size ≤ i ∧ i < w7.heap.size)) = N7 at *
          obtain ⟨l7, hl7⟩ : ∃ l7, bb.length = l7 := ⟨_, rfl⟩
          dsimp only
          rw [hl7] at HX7 ⊢
          clear hl7
          have y0 := HX7.out.2.1.x0
          have HBo : Hid (Bs w7 (.slice a1 nb1 p1) bb) := HV.out.2.2.1.later HX7.out.1.bel
          go_wp2_with fail
          refine (sameB _ _ _ _ w7 HX7.out.2.2.2.1 HBo.out).mono ?_
          rintro e w8 ⟨rfl, hW8⟩
          rw [decide_eq_true rfl]
          have HF2 : Hid (Np ≤ j + 1 ∧ Fst V Q w w8 d (.pointer (some aq)) room Np (.slice a7 l7 c7)) := ⟨by have := HNj.out; omega, bb, s6, N7, HRr.out, (HX7.out.1.later hW8).weak (fun i hi => Or.inl hi), HX7.out.2.2.2.1.later hW8, HX7.out.2.2.2.2.1, HX7.out.2.2.2.2.2⟩
          have y0b := cell_later hW8 y0
          clear hW8 HX7 y0 HRr
          go_wp2
          go_roundw
          case rel => exact ⟨j + 1, Np, by omega, by go_num, by first | rfl | go_num, HF2⟩
          case measure => simp [intOf]; omega
    · obtain rfl : j = m := by omega
      have hjI : ¬ (j : Int) < (j : Int) := by omega
      have HE : Hid (Below w.heap.size w wr) := HSn.out.bel
      clear HSn
      go_wp2
      go_ret
      exact ⟨rfl, HE.out⟩
end Go.Proofs.YtpmmfmlldkdfhaaDoor
