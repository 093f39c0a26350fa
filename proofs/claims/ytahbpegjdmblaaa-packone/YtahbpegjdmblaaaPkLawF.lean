/-
  A thing of a kind is read by the program and by the document (regattalaw12.read).
-/
import Derived.Test.YtahbpegjdmblaaaPkLawE
set_option linter.unusedVariables false
set_option linter.unusedSimpArgs false
namespace Go.Proofs.Ytahbpegjdmblaaa
open Go.RowKit

/-- The program's reader and the document's, in one state. -/
structure RR (V : Pack1) (p : Value) (b : Nat) (l : List Nat) (v : Value) (F : Nat → Prop) (s : Sta) (w : World) : Prop where
  rt : V.Rt w p F s
  rr : Rr b l v s w
  nb : ¬ F b
  nv : Nf F v
theorem Rr.lt {b : Nat} {l : List Nat} {v : Value} {s : Sta} {w : World} (h : Rr b l v s w) : b < w.heap.size ∧ Lo w.heap.size v := by
  obtain ⟨p, e, h1, -⟩ := h
  exact ⟨World.block_lt_of_cell? _ _ h1.c0, Ls.lo h1.bs⟩
/-- The program has read; the document not yet. -/
theorem RR.prog {V : Pack1} {p : Value} {b : Nat} {l : List Nat} {v : Value} {F : Nat → Prop} {s s' : Sta} {w w1 : World} (h : RR V p b l v F s w) (a : Af V.Rt p F s' w w1) : ∃ F' : Nat → Prop, V.Rt w1 p F' s' ∧ Rr b l v s w1 ∧ ¬ F' b ∧ Nf F' v ∧ Gr F F' w ∧ Kp F w w1 := by
  obtain ⟨F', h1, h2, h3⟩ := a
  have hl := h.rr.lt
  refine ⟨F', h1, h.rr.kept h3 h.nb h.nv, fun q => ?_, fun a n c e hn q => ?_, h2, h3⟩
  · rcases h2 b q with q | q
    · exact h.nb q
    · omega
  · rcases h2 _ q with q | q
    · exact h.nv a n c e hn q
    · have := hl.2 a n c e hn; omega
theorem RR.ref {V : Pack1} {p : Value} {b : Nat} {l : List Nat} {v : Value} {F F' : Nat → Prop} {s' : Sta} {w w1 w2 : World} (h1 : V.Rt w1 p F' s') (nb : ¬ F' b) (nv : Nf F' v) (r : Rr b l v s' w2) (k : Kp (· = b) w1 w2) : RR V p b l v F' s' w2 :=
  ⟨V.rk h1 k (fun i hi q => nb (by rw [← q]; exact hi)), r, nb, nv⟩
theorem RR.later {V : Pack1} {p : Value} {b : Nat} {l : List Nat} {v : Value} {F : Nat → Prop} {s : Sta} {w w' : World} (h : RR V p b l v F s w) (k : Below w.heap.size w w') : RR V p b l v F s w' := ⟨V.rl h.rt k, h.rr.later k, h.nb, h.nv⟩
theorem Kp.both {F : Nat → Prop} {b : Nat} {w w1 w2 : World} (h : Kp F w w1) (k : Kp (· = b) w1 w2) : Kp (fun i => F i ∨ i = b) w w2 := (h.mono (fun i hi => Or.inl hi)).trans k (fun i hi => Or.inl (Or.inr hi))
/-- What reading a thing leaves. -/
def Ra (V : Pack1) (p : Value) (b : Nat) (l : List Nat) (v : Value) (F : Nat → Prop) (s : Sta) (w w' : World) : Prop := ∃ F' : Nat → Prop, RR V p b l v F' s w' ∧ Gr F F' w ∧ Kp (fun i => F i ∨ i = b) w w'
theorem Ra.post {V : Pack1} {p : Value} {b : Nat} {l : List Nat} {v : Value} {F : Nat → Prop} {s : Sta} {w w1 w' : World} (h : Ra V p b l v F s w w1) (hb : Below w1.heap.size w1 w') : Ra V p b l v F s w w' := by
  obtain ⟨F', h1, h2, h3⟩ := h
  exact ⟨F', h1.later hb, h2, h3.grow hb h3.size⟩
theorem pvI_err {s : Sta} {x : Nat} (h : pn rI s = .error x) : pv rI 0 s = 0 := by
  cases s with
  | error y => rfl
  | ok r =>
    cases hU : rI r with
    | error e => exact pv_no hU
    | ok z =>
      obtain ⟨n, t⟩ := z
      rw [pn_ok hU] at h
      cases h
set_option maxRecDepth 100000 in
set_option maxHeartbeats 8000000 in
theorem orNone12 (s : Sta) (n : Int) (b : Nat) (l : List Nat) (v : Value) (w : World) (h : Rr b l v s w) (hn : ∀ x, s = .error x → n = 0) :
    Calls Try.prog 36 #[.int .i64 n, .pointer (some ⟨b, 0, none⟩)] w fun e w' => e = .returned (.int .i64 n) ∧ w' = w := by
  cases s with
  | ok r =>
    obtain ⟨p, h1, -⟩ := h.ok
    have c2 := h1.c2
    clear h h1 hn
    go_enter Try.func36, Try.ntmps36
    go_wp2
    go_ret
    exact ⟨rfl, rfl⟩
  | error x =>
    obtain ⟨hx, hx2, p, h1⟩ := h.error
    have c2 := h1.c2
    have hxI : ¬ (x : Int) = 0 := by omega
    obtain rfl := hn x rfl
    clear h h1 hn
    go_enter Try.func36, Try.ntmps36
    go_wp2
    go_ret
    exact ⟨rfl, rfl⟩
/-- What is read is no longer than what was left. -/
def Sl (s : Sta) (N : Nat) : Prop := match s with
  | .ok r => r.length ≤ N
  | .error _ => True
theorem Rr.sl {b : Nat} {l : List Nat} {v : Value} {s : Sta} {w : World} (h : Rr b l v s w) {N : Nat} (hN : l.length ≤ N) : Sl s N := by
  cases s with
  | error x => trivial
  | ok r =>
    obtain ⟨p, h1, rfl⟩ := h.ok
    show _ ≤ _
    rw [List.length_drop]
    omega
theorem rU_len {r t : List Nat} {n : Nat} (h : rU r = .ok (n, t)) : t.length ≤ r.length := by
  obtain ⟨d, h1, h2, rfl⟩ := rd_len r 0 0 n t h
  rw [List.length_drop]
  omega
theorem pvIs_len {s : Sta} {N : Nat} (h : Sl s N) : (pv rIs [] s).length ≤ N := by
  cases s with
  | error x => exact Nat.zero_le _
  | ok r =>
    have h : r.length ≤ N := h
    cases hU : rU r with
    | error e => rw [pv_no (rIs_no hU)]; exact Nat.zero_le _
    | ok z =>
      obtain ⟨n, t⟩ := z
      have := rU_len hU
      by_cases hn : t.length < n
      · rw [pv_no (rIs_lack hU hn)]; exact Nat.zero_le _
      · have hR := rIs_ok hU (by omega)
        cases hS : itS rI n (.ok t) with
        | error e => rw [pv_no (hR.trans (rep_no hS))]; exact Nat.zero_le _
        | ok u => rw [pv_ok (hR.trans (rep_ok hS)), itV_len]; omega
theorem pvFs_len {s : Sta} {N : Nat} (h : Sl s N) : (pv rFs [] s).length ≤ N := by
  cases s with
  | error x => exact Nat.zero_le _
  | ok r =>
    have h : r.length ≤ N := h
    cases hU : rU r with
    | error e => rw [pv_no (rFs_no hU)]; exact Nat.zero_le _
    | ok z =>
      obtain ⟨n, t⟩ := z
      have := rU_len hU
      by_cases hn : t.length / 8 < n
      · rw [pv_no (rFs_lack hU hn)]; exact Nat.zero_le _
      · have hR := rFs_ok hU (by omega)
        cases hS : itS rF n (.ok t) with
        | error e => rw [pv_no (hR.trans (rep_no hS))]; exact Nat.zero_le _
        | ok u => rw [pv_ok (hR.trans (rep_ok hS)), itV_len]; omega
theorem pvB_len {s : Sta} {N : Nat} (h : Sl s N) : (pv rB [] s).length ≤ N := by
  cases s with
  | error x => exact Nat.zero_le _
  | ok r =>
    have h : r.length ≤ N := h
    cases hU : rU r with
    | error e => rw [pv_no (rB_no hU)]; exact Nat.zero_le _
    | ok z =>
      obtain ⟨n, t⟩ := z
      have := rU_len hU
      by_cases hn : t.length < n
      · rw [pv_no (rB_lack hU hn)]; exact Nat.zero_le _
      · rw [pv_ok (rB_ok hU (by omega)), List.length_take]; omega
set_option maxRecDepth 100000 in
set_option maxHeartbeats 8000000 in
theorem read12 (V : Pack1) (k : Int) (p : Value) (b : Nat) (l : List Nat) (v : Value) (F : Nat → Prop) (s : Sta) (w : World) (hb : ∀ c ∈ l, c < 256) (hl : l.length ≤ 1000000) (h : RR V p b l v F s w) :
    Calls Try.prog 16 #[.int .i64 k, p, .pointer (some ⟨b, 0, none⟩)] w fun e w' => e = .returned (.bool true) ∧ Ra V p b l v F (nxt k s) w w' := by
  have HR : Hid (RR V p b l v F s w) := h
  have HSl : Hid (Sl s 1000000) := h.rr.sl hl
  have hbw := h.rr.lt.1
  have HB : Hid (∀ c ∈ l, c < 256) := hb
  have HL : Hid (l.length ≤ 1000000) := hl
  clear h hb hl
  rcases kinds k with rfl | rfl | rfl | rfl | rfl | rfl | hk
  · rw [nxt_1 rfl]
    go_enter Try.func16, Try.ntmps16
    go_wp2_with fail
    refine (V.ruint _ _ _ _ HR.out.rt).mono ?_
    rintro e w1 ⟨rfl, hA⟩
    obtain ⟨F1, h1, h2, h3, h4, h5, h6⟩ := HR.out.prog hA
    have HP : Hid (V.Rt w1 p F1 (pn rU s) ∧ ¬ F1 b ∧ Nf F1 v ∧ Gr F F1 w ∧ Kp F w w1) := ⟨h1, h3, h4, h5, h6⟩
    have HS : Hid (Rr b l v s w1) := h2
    clear h1 h2 h3 h4 h5 h6 hA HR
    go_wp2_with fail
    refine (refRUint b l v s _ HB.out HL.out HS.out).mono ?_
    rintro e w2 ⟨rfl, h2, h3⟩
    have HQ : Hid (Ra V p b l v F (pn rU s) w w2) := ⟨F1, RR.ref (F := F) (w := w) HP.out.1 HP.out.2.1 HP.out.2.2.1 h2 h3, HP.out.2.2.2.1, HP.out.2.2.2.2.both h3⟩
    clear h2 h3 HP HS
    generalize pv rU 0 s = z at *
    go_wp2
    go_ret
    exact ⟨by simp, HQ.out⟩
  · rw [nxt_2 rfl]
    go_enter Try.func16, Try.ntmps16
    go_wp2_with fail
    refine (V.rint _ _ _ _ HR.out.rt).mono ?_
    rintro e w1 ⟨rfl, hA⟩
    obtain ⟨F1, h1, h2, h3, h4, h5, h6⟩ := HR.out.prog hA
    have HP : Hid (V.Rt w1 p F1 (pn rI s) ∧ ¬ F1 b ∧ Nf F1 v ∧ Gr F F1 w ∧ Kp F w w1) := ⟨h1, h3, h4, h5, h6⟩
    have HS : Hid (Rr b l v s w1) := h2
    clear h1 h2 h3 h4 h5 h6 hA HR
    go_wp2_with fail
    refine (refRInt b l v s _ HB.out HL.out HS.out).mono ?_
    rintro e w2 ⟨rfl, h2, h3⟩
    have HQ : Hid (Ra V p b l v F (pn rI s) w w2) := ⟨F1, RR.ref (F := F) (w := w) HP.out.1 HP.out.2.1 HP.out.2.2.1 h2 h3, HP.out.2.2.2.1, HP.out.2.2.2.2.both h3⟩
    have HO : Hid (Rr b l v (pn rI s) w2) := h2
    clear h2 h3 HP HS
    go_wp2_with fail
    refine (orNone12 (pn rI s) (pv rI 0 s) b l v _ HO.out (fun x q => pvI_err q)).mono ?_
    rintro e w3 ⟨rfl, rfl⟩
    clear HO
    generalize pv rI 0 s = z at *
    go_wp2
    go_ret
    exact ⟨by simp, HQ.out⟩
  · rw [nxt_3 rfl]
    go_enter Try.func16, Try.ntmps16
    go_wp2_with fail
    refine (V.rfix _ _ _ _ HR.out.rt).mono ?_
    rintro e w1 ⟨rfl, hA⟩
    obtain ⟨F1, h1, h2, h3, h4, h5, h6⟩ := HR.out.prog hA
    have HP : Hid (V.Rt w1 p F1 (pn rF s) ∧ ¬ F1 b ∧ Nf F1 v ∧ Gr F F1 w ∧ Kp F w w1) := ⟨h1, h3, h4, h5, h6⟩
    have HS : Hid (Rr b l v s w1) := h2
    clear h1 h2 h3 h4 h5 h6 hA HR
    go_wp2_with fail
    refine (refRFix b l v s _ HB.out HL.out HS.out).mono ?_
    rintro e w2 ⟨rfl, h2, h3⟩
    have HQ : Hid (Ra V p b l v F (pn rF s) w w2) := ⟨F1, RR.ref (F := F) (w := w) HP.out.1 HP.out.2.1 HP.out.2.2.1 h2 h3, HP.out.2.2.2.1, HP.out.2.2.2.2.both h3⟩
    clear h2 h3 HP HS
    generalize pv rF 0 s = z at *
    go_wp2
    go_ret
    exact ⟨by simp, HQ.out⟩
  · rw [nxt_4 rfl]
    go_enter Try.func16, Try.ntmps16
    go_wp2_with fail
    refine (V.rbytes _ _ _ _ HR.out.rt).mono ?_
    rintro e w1 ⟨v1, rfl, hL1, hO1, hA⟩
    obtain ⟨F1, h1, h2, h3, h4, h5, h6⟩ := HR.out.prog hA
    have HP : Hid (V.Rt w1 p F1 (pn rB s) ∧ ¬ F1 b ∧ Nf F1 v ∧ Gr F F1 w ∧ Kp F w w1) := ⟨h1, h3, h4, h5, h6⟩
    have HS : Hid (Rr b l v s w1) := h2
    have HV : Hid (Bs w1 v1 (pv rB [] s) ∧ Ow w.heap.size v1 ∧ w.heap.size ≤ w1.heap.size) := ⟨hL1, hO1, h6.size⟩
    obtain ⟨ad1, cap1, rfl, -, -⟩ := hL1.len
    clear h1 h2 h3 h4 h5 h6 hA HR hL1 hO1
    go_wp2_with fail
    refine (refRBytes b l v s _ HB.out HL.out HS.out).mono ?_
    rintro e w2 ⟨v2, rfl, hL2, hO2, h2, h3⟩
    have HQ : Hid (Ra V p b l v F (pn rB s) w w2) := ⟨F1, RR.ref (F := F) (w := w) HP.out.1 HP.out.2.1 HP.out.2.2.1 h2 h3, HP.out.2.2.2.1, HP.out.2.2.2.2.both h3⟩
    have HV2 : Hid (Bs w2 (.slice ad1 (pv rB [] s).length cap1) (pv rB [] s) ∧ Bs w2 v2 (pv rB [] s)) := ⟨h3.bs HV.out.1 (ow_nf HV.out.2.1 (fun i hi => by omega)), hL2⟩
    obtain ⟨ad2, cap2, rfl, -, -⟩ := hL2.len
    clear hL2 hO2 h2 h3 HP HS HV
    go_wp2_with fail
    refine (sameB _ _ _ _ _ HV2.out.1 HV2.out.2).mono ?_
    rintro e w3 ⟨rfl, hB3⟩
    have HQ3 : Hid (Ra V p b l v F (pn rB s) w w3) := HQ.out.post hB3
    clear hB3 HQ HV2
    rw [decide_eq_true rfl]
    go_wp2
    go_ret
    exact ⟨rfl, HQ3.out⟩
  · rw [nxt_5 rfl]
    go_enter Try.func16, Try.ntmps16
    go_wp2_with fail
    refine (V.rints _ _ _ _ HR.out.rt).mono ?_
    rintro e w1 ⟨v1, rfl, hL1, hO1, hA⟩
    obtain ⟨F1, h1, h2, h3, h4, h5, h6⟩ := HR.out.prog hA
    have HP : Hid (V.Rt w1 p F1 (pn rIs s) ∧ ¬ F1 b ∧ Nf F1 v ∧ Gr F F1 w ∧ Kp F w w1) := ⟨h1, h3, h4, h5, h6⟩
    have HS : Hid (Rr b l v s w1) := h2
    have HV : Hid (Is w1 v1 (pv rIs [] s) ∧ Ow w.heap.size v1 ∧ w.heap.size ≤ w1.heap.size) := ⟨hL1, hO1, h6.size⟩
    obtain ⟨ad1, cap1, rfl, -, -⟩ := hL1.len
    clear h1 h2 h3 h4 h5 h6 hA HR hL1 hO1
    have HLn : Hid ((pv rIs [] s).length ≤ 1000000) := pvIs_len HSl.out
    go_wp2_with fail
    refine (wide12 _ _ HLn.out _ HV.out.1).mono ?_
    rintro e wa ⟨va, rfl, hLa, hOa, hBa⟩
    have HPa : Hid (V.Rt wa p F1 (pn rIs s) ∧ ¬ F1 b ∧ Nf F1 v ∧ Gr F F1 w ∧ Kp F w wa) := ⟨V.rl HP.out.1 hBa, HP.out.2.1, HP.out.2.2.1, HP.out.2.2.2.1, HP.out.2.2.2.2.grow hBa HP.out.2.2.2.2.size⟩
    have HSa : Hid (Rr b l v s wa) := HS.out.later hBa
    have HVa : Hid (Is wa va (pv rIs [] s) ∧ Ow w.heap.size va ∧ w.heap.size ≤ wa.heap.size) := ⟨hLa, hOa.low HV.out.2.2, Nat.le_trans HV.out.2.2 hBa.size⟩
    obtain ⟨ada, capa, rfl, -, -⟩ := hLa.len
    clear hLa hOa hBa HP HS HV
    go_wp2_with fail
    refine (refRInts b l v s _ HB.out HL.out HSa.out).mono ?_
    rintro e w2 ⟨v2, rfl, hL2, hO2, h2, h3⟩
    have HQ : Hid (Ra V p b l v F (pn rIs s) w w2) := ⟨F1, RR.ref (F := F) (w := w) HPa.out.1 HPa.out.2.1 HPa.out.2.2.1 h2 h3, HPa.out.2.2.2.1, HPa.out.2.2.2.2.both h3⟩
    have HV2 : Hid (Is w2 (.slice ada (pv rIs [] s).length capa) (pv rIs [] s) ∧ Is w2 v2 (pv rIs [] s)) := ⟨h3.is HVa.out.1 (ow_nf HVa.out.2.1 (fun i hi => by omega)), hL2⟩
    obtain ⟨ad2, cap2, rfl, -, -⟩ := hL2.len
    clear hL2 hO2 h2 h3 HPa HSa HVa
    go_wp2_with fail
    refine (sameI _ _ _ _ _ HV2.out.1 HV2.out.2).mono ?_
    rintro e w3 ⟨rfl, hB3⟩
    have HQ3 : Hid (Ra V p b l v F (pn rIs s) w w3) := HQ.out.post hB3
    clear hB3 HQ HV2
    rw [decide_eq_true rfl]
    go_wp2
    go_ret
    exact ⟨rfl, HQ3.out⟩
  · rw [nxt_6 rfl]
    go_enter Try.func16, Try.ntmps16
    go_wp2_with fail
    refine (V.rfixes _ _ _ _ HR.out.rt).mono ?_
    rintro e w1 ⟨v1, rfl, hL1, hO1, hA⟩
    obtain ⟨F1, h1, h2, h3, h4, h5, h6⟩ := HR.out.prog hA
    have HP : Hid (V.Rt w1 p F1 (pn rFs s) ∧ ¬ F1 b ∧ Nf F1 v ∧ Gr F F1 w ∧ Kp F w w1) := ⟨h1, h3, h4, h5, h6⟩
    have HS : Hid (Rr b l v s w1) := h2
    have HV : Hid (Is w1 v1 (pv rFs [] s) ∧ Ow w.heap.size v1 ∧ w.heap.size ≤ w1.heap.size) := ⟨hL1, hO1, h6.size⟩
    obtain ⟨ad1, cap1, rfl, -, -⟩ := hL1.len
    clear h1 h2 h3 h4 h5 h6 hA HR hL1 hO1
    have HLn : Hid ((pv rFs [] s).length ≤ 1000000) := pvFs_len HSl.out
    go_wp2_with fail
    refine (plain12 _ _ HLn.out _ HV.out.1).mono ?_
    rintro e wa ⟨va, rfl, hLa, hOa, hBa⟩
    have HPa : Hid (V.Rt wa p F1 (pn rFs s) ∧ ¬ F1 b ∧ Nf F1 v ∧ Gr F F1 w ∧ Kp F w wa) := ⟨V.rl HP.out.1 hBa, HP.out.2.1, HP.out.2.2.1, HP.out.2.2.2.1, HP.out.2.2.2.2.grow hBa HP.out.2.2.2.2.size⟩
    have HSa : Hid (Rr b l v s wa) := HS.out.later hBa
    have HVa : Hid (Is wa va (pv rFs [] s) ∧ Ow w.heap.size va ∧ w.heap.size ≤ wa.heap.size) := ⟨hLa, hOa.low HV.out.2.2, Nat.le_trans HV.out.2.2 hBa.size⟩
    obtain ⟨ada, capa, rfl, -, -⟩ := hLa.len
    clear hLa hOa hBa HP HS HV
    go_wp2_with fail
    refine (refRFixes b l v s _ HB.out HL.out HSa.out).mono ?_
    rintro e w2 ⟨v2, rfl, hL2, hO2, h2, h3⟩
    have HQ : Hid (Ra V p b l v F (pn rFs s) w w2) := ⟨F1, RR.ref (F := F) (w := w) HPa.out.1 HPa.out.2.1 HPa.out.2.2.1 h2 h3, HPa.out.2.2.2.1, HPa.out.2.2.2.2.both h3⟩
    have HV2 : Hid (Is w2 (.slice ada (pv rFs [] s).length capa) (pv rFs [] s) ∧ Is w2 v2 (pv rFs [] s)) := ⟨h3.is HVa.out.1 (ow_nf HVa.out.2.1 (fun i hi => by omega)), hL2⟩
    obtain ⟨ad2, cap2, rfl, -, -⟩ := hL2.len
    clear hL2 hO2 h2 h3 HPa HSa HVa
    go_wp2_with fail
    refine (sameI _ _ _ _ _ HV2.out.1 HV2.out.2).mono ?_
    rintro e w3 ⟨rfl, hB3⟩
    have HQ3 : Hid (Ra V p b l v F (pn rFs s) w w3) := HQ.out.post hB3
    clear hB3 HQ HV2
    rw [decide_eq_true rfl]
    go_wp2
    go_ret
    exact ⟨rfl, HQ3.out⟩
  · rw [nxt_0 hk]
    obtain ⟨k1, k2, k3, k4, k5, k6⟩ := hk
    have HQ : Hid (Ra V p b l v F s w w) := ⟨F, HR.out, fun k hk => Or.inl hk, Kp.refl _ _⟩
    clear HR
    go_enter Try.func16, Try.ntmps16
    go_wp2
    go_ret
    exact ⟨rfl, HQ.out⟩
end Go.Proofs.Ytahbpegjdmblaaa
