/-
  The document's reader (regattaref12.R): Bytes.
-/
import Derived.Test.YtfcbgkcclganmaaDoorPkRefF
set_option linter.unusedVariables false
set_option linter.unusedSimpArgs false
namespace Go.Proofs.YtfcbgkcclganmaaDoor
open Go.RowKit

theorem pnS_ok {each : Nat} {s : Sta} {t : List Nat} (h : pn (rS each) s = .ok t) : ∃ r, s = .ok r ∧ rU r = .ok (pv (rS each) 0 s, t) ∧ ¬ t.length / each < pv (rS each) 0 s := by
  cases s with
  | error y => cases h
  | ok r =>
    cases hU : rU r with
    | error e => rw [pn_no (rS_no hU)] at h; cases h
    | ok z =>
      obtain ⟨n, t'⟩ := z
      by_cases hn : t'.length / each < n
      · rw [pn_no (rS_lack hU hn)] at h; cases h
      · have hS := rS_ok hU hn
        rw [pn_ok hS] at h
        cases h
        exact ⟨r, rfl, by rw [pv_ok hS, hU], by rw [pv_ok hS]; exact hn⟩
theorem pnS_err {each : Nat} {s : Sta} {x : Nat} (h : pn (rS each) s = .error x) : s = .error x ∨ ∃ r, s = .ok r ∧ (rU r = .error x ∨ ∃ n t, rU r = .ok (n, t) ∧ t.length / each < n ∧ x = 120) := by
  cases s with
  | error y => cases h; exact Or.inl rfl
  | ok r =>
    right
    refine ⟨r, rfl, ?_⟩
    cases hU : rU r with
    | error e => rw [pn_no (rS_no hU)] at h; cases h; exact Or.inl rfl
    | ok z =>
      obtain ⟨n, t'⟩ := z
      by_cases hn : t'.length / each < n
      · rw [pn_no (rS_lack hU hn)] at h; cases h; exact Or.inr ⟨n, t', rfl, hn, rfl⟩
      · rw [pn_ok (rS_ok hU hn)] at h; cases h
theorem sB_err {s : Sta} {x : Nat} (h : pn (rS 1) s = .error x) : pn rB s = .error x ∧ pv rB [] s = [] := by
  rcases pnS_err h with rfl | ⟨r, rfl, h2 | ⟨n, t, h2, h3, rfl⟩⟩
  · exact ⟨rfl, rfl⟩
  · exact ⟨pn_no (rB_no h2), pv_no (rB_no h2)⟩
  · rw [Nat.div_one] at h3
    exact ⟨pn_no (rB_lack h2 h3), pv_no (rB_lack h2 h3)⟩
theorem sIs_err {s : Sta} {x : Nat} (h : pn (rS 1) s = .error x) : pn rIs s = .error x ∧ pv rIs [] s = [] := by
  rcases pnS_err h with rfl | ⟨r, rfl, h2 | ⟨n, t, h2, h3, rfl⟩⟩
  · exact ⟨rfl, rfl⟩
  · exact ⟨pn_no (rIs_no h2), pv_no (rIs_no h2)⟩
  · rw [Nat.div_one] at h3
    exact ⟨pn_no (rIs_lack h2 h3), pv_no (rIs_lack h2 h3)⟩
theorem sFs_err {s : Sta} {x : Nat} (h : pn (rS 8) s = .error x) : pn rFs s = .error x ∧ pv rFs [] s = [] := by
  rcases pnS_err h with rfl | ⟨r, rfl, h2 | ⟨n, t, h2, h3, rfl⟩⟩
  · exact ⟨rfl, rfl⟩
  · exact ⟨pn_no (rFs_no h2), pv_no (rFs_no h2)⟩
  · exact ⟨pn_no (rFs_lack h2 h3), pv_no (rFs_lack h2 h3)⟩
/-- What the region of Bytes reads. -/
def Rd2 (b : Nat) (v : Value) (p : Nat) (w : World) : Prop := w.cell? ⟨b, 0, none⟩ = some v ∧ w.cell? ⟨b, 1, none⟩ = some (.int .i64 (p : Int))
set_option maxRecDepth 100000 in
set_option maxHeartbeats 8000000 in
theorem refRBytes (b : Nat) (l : List Nat) (v : Value) (s : Sta) (w : World) (hb : ∀ c ∈ l, c < 256) (hl : l.length ≤ 1000000) (h : Rr b l v s w) :
    Calls Tryd.prog 34 #[.pointer (some ⟨b, 0, none⟩)] w fun e w' => ∃ v', e = .returned v' ∧ Bs w' v' (pv rB [] s) ∧ Ow w.heap.size v' ∧ Rr b l v (pn rB s) w' ∧ Kp (· = b) w w' := by
  have C := refRSize 1 (Or.inl rfl) b l v s w hb hl h
  have HU : Hid (∀ t, pn (rS 1) s = .ok t → ∃ r, s = .ok r ∧ rU r = .ok (pv (rS 1) 0 s, t) ∧ ¬ t.length / 1 < pv (rS 1) 0 s) := fun t q => pnS_ok q
  have HX : Hid (∀ x, pn (rS 1) s = .error x → pn rB s = .error x ∧ pv rB [] s = []) := fun x q => sB_err q
  generalize pv (rS 1) 0 s = m at *
  generalize pn (rS 1) s = s1 at *
  have hbw : b < w.heap.size := by
    obtain ⟨p, e, h1, -⟩ := h
    exact World.block_lt_of_cell? _ _ h1.c0
  obtain ⟨ad, cap, rfl, k1, k2⟩ := h.len
  unfold maxLen at k2
  obtain ⟨n, hN⟩ : ∃ n, l.length = n := ⟨_, rfl⟩
  have HN : Hid (l.length = n) := hN
  rw [hN] at k1 hl C ⊢
  clear h hN
  go_enter Tryd.func34, Tryd.ntmps34
  go_wp2_with fail
  refine C.mono ?_
  rintro e w1 ⟨rfl, h1, hk⟩
  have HK : Hid (Kp (· = b) w w1) := hk
  have hsz : w.heap.size ≤ w1.heap.size := hk.size
  clear hk C
  cases s1 with
  | error x =>
    obtain ⟨e1, e2⟩ := HX.out x rfl
    have HV : Hid (pv rB [] s = []) := e2
    have HP : Hid (pn rB s = .error x) := e1
    obtain ⟨hx, hx2, p, h2⟩ := h1.error
    have HR : Hid (R0 b l (.slice ad n cap) p x w1) := h2
    have c2 := h2.c2
    have hxI : ¬ (x : Int) = 0 := by omega
    clear h1 h2 HX HU e1 e2
    go_wp2
    go_ret
    exact ⟨_, rfl, by rw [HV.out]; exact (ob_nil 0 _).bs.1, fun a n c e => by (cases e), ⟨p, x, HR.out, by rw [HP.out]; exact ⟨rfl, hx, hx2⟩⟩, HK.out⟩
  | ok t =>
    obtain ⟨r, rfl, hr, hm⟩ := HU.out t rfl
    rw [Nat.div_one] at hm
    obtain ⟨p, h2, hd⟩ := h1.ok
    have HR : Hid (R0 b l (.slice ad n cap) p 0 w1) := h2
    have c2 := h2.c2
    have hple := h2.le
    have hN := HN.out
    rw [hN] at hple
    have htl : t.length = n - p := by rw [← hd, List.length_drop, hN]
    obtain ⟨q, hq⟩ : ∃ q, p + m = q := ⟨_, rfl⟩
    have hB : rB r = .ok (t.take m, t.drop m) := rB_ok hr (by omega)
    have HV : Hid (pv rB [] (.ok r) = (l.drop p).take (q - p)) := by
      show _ = _
      rw [pv_ok hB, hd, show q - p = m by omega]
    have HP : Hid (pn rB (.ok r) = .ok (l.drop q)) := by
      show _ = _
      rw [pn_ok hB, ← hd, List.drop_drop, hq]
    have hpq : p ≤ q := by omega
    have hqn : q ≤ n := by omega
    have hadd : IntKind.i64.wrap ((p : Int) + (m : Int)) = (q : Int) := by rw [IntKind.wrap_i64]; omega
    have HS1 := slice_run (p := p) (q := q) (ad := ad) (n := n) (cap := cap)
    have hs1 : ∀ W : World, (Instr.sliceAt 22 (.slice ad n cap) (some (.int .i64 (p : Int))) (some (.int .i64 (q : Int))) none).run Tryd.prog W = .ok (sv ad p q cap) W := fun W => sliceAt_run W ad n cap p q hpq (by omega)
    have hs2 : ∀ W : World, (Instr.slice 22 (.slice ad n cap) (some (.int .i64 (p : Int))) (some (.int .i64 (q : Int))) none).run Tryd.prog W = .ok (sv ad p q cap) W := fun W => slice_run W ad n cap p q hpq (by omega)
    obtain ⟨T, hT⟩ : ∃ T, (l.drop p).take (q - p) = T := ⟨_, rfl⟩
    have HT : Hid ((l.drop p).take (q - p) = T) := hT
    rw [hT] at HV
    have HTl : Hid (T.length ≤ 1000000) := by
      show _ ≤ _
      rw [← hT, List.length_take]
      omega
    clear hT
    have HQ : Hid (p ≤ q ∧ q ≤ n ∧ q = p + m ∧ n ≤ 1000000) := ⟨hpq, hqn, by omega, hl⟩
    clear h1 h2 HX HU hr hd htl hq hN hm hB HS1 hpq hqn hple
    go_upto_region 5 with fail
    clear c2
    have hbD : Below w1.heap.size w1 w1.drew := (Below.refl _ _).drew
    have HS0 : Rd2 b (.slice ad n cap) p w1.drew := ⟨HR.out.c0, HR.out.c1⟩
    have HR2 : Hid (R0 b l (.slice ad n cap) p 0 w1.drew) := HR.out.later hbD
    have HK2 : Hid (Kp (· = b) w w1.drew) := HK.out.drew
    refine wp_region_held_drew (S := Rd2 b (.slice ad n cap) p) (by kernel_rfl) HS0 (fun HS => ?_)
    clear hbD HS0 HR HK
    have hsz2 : w.heap.size ≤ w1.drew.heap.size := hsz
    generalize w1.drew = q0 at *
    refine wpAnyH_take (i := 0) (v := ?v1) rfl (by kernel_rfl) (by kernel_rfl) (by kernel_rfl) (fun _ _ _ h => h) (Or.inl ⟨by kernel_rfl, ?h1⟩) HS ?r1
    case h1 => (rintro w ⟨n0, n1⟩; go_simp) <;> with_reducible rfl
    try simp only [Act.put, List.getElem_toArray, List.getElem_cons_succ, List.getElem_cons_zero, List.setIfInBounds_toArray, List.set_cons_zero, List.set_cons_succ]
    refine wpAnyH_take (i := 1) (v := ?v2) rfl (by kernel_rfl) (by kernel_rfl) (by kernel_rfl) (fun _ _ _ h => h) (Or.inl ⟨by kernel_rfl, ?h2⟩) HS ?r2
    case h2 => (rintro w ⟨n0, n1⟩; go_simp) <;> with_reducible rfl
    try simp only [Act.put, List.getElem_toArray, List.getElem_cons_succ, List.getElem_cons_zero, List.setIfInBounds_toArray, List.set_cons_zero, List.set_cons_succ]
    refine wpAnyH_take (i := 2) (v := ?v3) rfl (by kernel_rfl) (by kernel_rfl) (by kernel_rfl) (fun _ _ _ h => h) (Or.inl ⟨by kernel_rfl, ?h3⟩) HS ?r3
    case h3 => (rintro w ⟨n0, n1⟩; go_simp) <;> with_reducible rfl
    try simp only [Act.put, List.getElem_toArray, List.getElem_cons_succ, List.getElem_cons_zero, List.setIfInBounds_toArray, List.set_cons_zero, List.set_cons_succ]
    refine wpAnyH_take (i := 3) (v := ?v4) rfl (by kernel_rfl) (by kernel_rfl) (by kernel_rfl) (fun _ _ _ h => h) (Or.inl ⟨by kernel_rfl, ?h4⟩) HS ?r4
    case h4 => (rintro w ⟨n0, n1⟩; go_simp) <;> with_reducible rfl
    try simp only [Act.put, List.getElem_toArray, List.getElem_cons_succ, List.getElem_cons_zero, List.setIfInBounds_toArray, List.set_cons_zero, List.set_cons_succ]
    refine wpAnyH_take (i := 4) (v := ?v5) rfl (by kernel_rfl) (by kernel_rfl) (by kernel_rfl) (fun _ _ _ h => h) (Or.inl ⟨by kernel_rfl, ?h5⟩) HS ?r5
    case h5 => (rintro w ⟨n0, n1⟩; go_simp) <;> with_reducible rfl
    try simp only [Act.put, List.getElem_toArray, List.getElem_cons_succ, List.getElem_cons_zero, List.setIfInBounds_toArray, List.set_cons_zero, List.set_cons_succ]
    refine wpAnyH_take (i := 5) (v := ?v6) rfl (by kernel_rfl) (by kernel_rfl) (by kernel_rfl) (fun _ _ _ h => h) (Or.inl ⟨by kernel_rfl, ?h6⟩) HS ?r6
    case h6 => (rintro w ⟨n0, n1⟩; go_simp) <;> with_reducible rfl
    try simp only [Act.put, List.getElem_toArray, List.getElem_cons_succ, List.getElem_cons_zero, List.setIfInBounds_toArray, List.set_cons_zero, List.set_cons_succ]
    refine wpAnyH_take (i := 6) (v := ?v7) rfl (by kernel_rfl) (by kernel_rfl) (by kernel_rfl) (fun _ _ _ h => h) (Or.inl ⟨by kernel_rfl, ?h7⟩) HS ?r7
    case h7 => (rintro w ⟨n0, n1⟩; go_simp) <;> with_reducible rfl
    try simp only [Act.put, List.getElem_toArray, List.getElem_cons_succ, List.getElem_cons_zero, List.setIfInBounds_toArray, List.set_cons_zero, List.set_cons_succ]
    refine wpAnyH_take (i := 7) (v := ?v8) rfl (by kernel_rfl) (by kernel_rfl) (by kernel_rfl) (fun _ _ _ h => h) (Or.inl ⟨by kernel_rfl, ?h8⟩) HS ?r8
    case h8 => (rintro w ⟨n0, n1⟩; go_simp) <;> with_reducible rfl
    try simp only [Act.put, List.getElem_toArray, List.getElem_cons_succ, List.getElem_cons_zero, List.setIfInBounds_toArray, List.set_cons_zero, List.set_cons_succ]
    refine wpAnyH_take (i := 8) (v := ?v9) rfl (by kernel_rfl) (by kernel_rfl) (by kernel_rfl) (fun _ _ _ h => h) (Or.inl ⟨by kernel_rfl, ?h9⟩) HS ?r9
    case h9 => (rintro w ⟨n0, n1⟩; go_simp) <;> with_reducible rfl
    try simp only [Act.put, List.getElem_toArray, List.getElem_cons_succ, List.getElem_cons_zero, List.setIfInBounds_toArray, List.set_cons_zero, List.set_cons_succ]
    refine wpAnyH_take (i := 9) (v := ?v10) rfl (by kernel_rfl) (by kernel_rfl) (by kernel_rfl) (fun _ _ _ h => h) (Or.inl ⟨by kernel_rfl, ?h10⟩) HS ?r10
    case h10 => (rintro w ⟨n0, n1⟩; go_simp) <;> with_reducible rfl
    try simp only [Act.put, List.getElem_toArray, List.getElem_cons_succ, List.getElem_cons_zero, List.setIfInBounds_toArray, List.set_cons_zero, List.set_cons_succ]
    refine wpAnyH_take (i := 10) (v := ?v11) rfl (by kernel_rfl) (by kernel_rfl) (by kernel_rfl) (fun _ _ _ h => h) (Or.inl ⟨by kernel_rfl, ?h11⟩) HS ?r11
    case h11 => (rintro w ⟨n0, n1⟩; go_simp) <;> with_reducible rfl
    try simp only [Act.put, List.getElem_toArray, List.getElem_cons_succ, List.getElem_cons_zero, List.setIfInBounds_toArray, List.set_cons_zero, List.set_cons_succ]
    refine wpAnyH_take (i := 11) (v := ?v12) rfl (by kernel_rfl) (by kernel_rfl) (by kernel_rfl) (fun _ _ _ h => h) (Or.inl ⟨by kernel_rfl, ?h12⟩) HS ?r12
    case h12 => (rintro w ⟨n0, n1⟩; go_simp) <;> with_reducible rfl
    try simp only [Act.put, List.getElem_toArray, List.getElem_cons_succ, List.getElem_cons_zero, List.setIfInBounds_toArray, List.set_cons_zero, List.set_cons_succ]
    refine wpAnyH_take (i := 12) (v := ?v13) rfl (by kernel_rfl) (by kernel_rfl) (by kernel_rfl) (fun _ _ _ h => h) (Or.inl ⟨by kernel_rfl, ?h13⟩) HS ?r13
    case h13 => (rintro w ⟨n0, n1⟩; go_simp) <;> with_reducible rfl
    try simp only [Act.put, List.getElem_toArray, List.getElem_cons_succ, List.getElem_cons_zero, List.setIfInBounds_toArray, List.set_cons_zero, List.set_cons_succ]
    refine wpAnyH_take (i := 13) (v := ?v14) rfl (by kernel_rfl) (by kernel_rfl) (by kernel_rfl) (fun _ _ _ h => h) (Or.inl ⟨by kernel_rfl, ?h14⟩) HS ?r14
    case h14 => (rintro w ⟨n0, n1⟩; go_simp) <;> with_reducible rfl
    try simp only [Act.put, List.getElem_toArray, List.getElem_cons_succ, List.getElem_cons_zero, List.setIfInBounds_toArray, List.set_cons_zero, List.set_cons_succ]
    refine wpAnyH_take (i := 14) (v := ?v15) rfl (by kernel_rfl) (by kernel_rfl) (by kernel_rfl) (fun _ _ _ h => h) (Or.inl ⟨by kernel_rfl, ?h15⟩) HS ?r15
    case h15 => (rintro w ⟨n0, n1⟩; go_simp) <;> with_reducible rfl
    try simp only [Act.put, List.getElem_toArray, List.getElem_cons_succ, List.getElem_cons_zero, List.setIfInBounds_toArray, List.set_cons_zero, List.set_cons_succ]
    refine wpAnyH_take (i := 15) (v := ?v16) rfl (by kernel_rfl) (by kernel_rfl) (by kernel_rfl) (fun _ _ _ h => h) (Or.inl ⟨by kernel_rfl, ?h16⟩) HS ?r16
    case h16 => (rintro w ⟨n0, n1⟩; go_simp) <;> with_reducible rfl
    try simp only [Act.put, List.getElem_toArray, List.getElem_cons_succ, List.getElem_cons_zero, List.setIfInBounds_toArray, List.set_cons_zero, List.set_cons_succ]
    refine wpAnyH_ready (rs := [16]) (by kernel_rfl) (by simp) ?_
    refine AllReadyH.cons rfl (fun K hK => ?_) AllReadyH.nil
    rw [if_pos (by kernel_rfl)]
    refine apB_op _ _ rfl q0.heap.size _ [] rfl (ob_nil _ _) (sv ad p q cap) T rfl (by rw [← HT.out]; exact sv_bs HR2.out.bs p q HQ.out.1 (by have := HQ.out; have := HN.out; omega)) (by have := HTl.out; simp; omega) (Nat.le_refl _) ?_
    intro v' w3 hO3 hg
    rw [List.nil_append] at hO3
    have hb3 : Below q0.heap.size q0 w3 := hg.1 _ (Below.refl _ _)
    have HK3 : Hid (Kp (· = b) w w3) := HK2.out.trans (Kp.of (F := fun _ => False) hb3) (fun i hi => hi.elim)
    have HR3 : Hid (R0 b l (.slice ad n cap) p 0 w3) := HR2.out.later hb3
    have HO3 : Hid (Bs w3 v' T ∧ Ow w.heap.size v') := ⟨hO3.bs.1, hO3.bs.2.low hsz2⟩
    obtain ⟨ad3, cap3, rfl⟩ := hO3.sl
    refine hK.out _ _ ⟨HR3.out.c0, HR3.out.c1⟩ (fun HS => ?_)
    clear hK K HR2 HK2 hO3 hg hb3 hs1 hs2
    try simp only [Act.put, List.getElem_toArray, List.getElem_cons_succ, List.getElem_cons_zero, List.setIfInBounds_toArray, List.set_cons_zero, List.set_cons_succ]
    refine wpAnyH_take (i := 17) (v := ?v17) rfl (by kernel_rfl) (by kernel_rfl) (by kernel_rfl) (fun _ _ _ h => h) (Or.inl ⟨by kernel_rfl, ?h17⟩) HS ?r17
    case h17 => (rintro w ⟨n0, n1⟩; go_simp) <;> with_reducible rfl
    try simp only [Act.put, List.getElem_toArray, List.getElem_cons_succ, List.getElem_cons_zero, List.setIfInBounds_toArray, List.set_cons_zero, List.set_cons_succ]
    refine wpAnyH_done (by kernel_rfl) ?_ _
    clear HS
    have HR4 : Hid (R0 b l (.slice ad n cap) q 0 (w3.setCell ⟨b, 1, none⟩ (.int .i64 (q : Int)))) := HR3.out.setAt q (by have := HQ.out; have := HN.out; omega)
    have c1 := HR3.out.c1
    have f1 := HR3.out.f1
    have hnb : Nb (.slice ad3 T.length cap3) b := ow_apart HO3.out.2 hbw
    have HO4 : Hid (Bs (w3.setCell ⟨b, 1, none⟩ (.int .i64 (q : Int))) (.slice ad3 T.length cap3) T) := Ls.set HO3.out.1 _ _ hnb
    clear hnb
    go_wp2
    go_ret
    exact ⟨_, rfl, by rw [HV.out]; exact HO4.out, HO3.out.2, ⟨q, 0, HR4.out, by rw [HP.out]; exact ⟨rfl, rfl⟩⟩, kset HK3.out _⟩
end Go.Proofs.YtfcbgkcclganmaaDoor
