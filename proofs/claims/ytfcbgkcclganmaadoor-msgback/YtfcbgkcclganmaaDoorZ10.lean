/-
The document's payload of any right message; its Encode; plain; Same (regattaref14, regattalaw14).
What the document's Decode answers; the reader, the message and the answer in memory while it works.
The document's Decode (regattaref14), some kinds.
-/
import Derived.Test.YtfcbgkcclganmaaDoorZ08
import Derived.Test.YtfcbgkcclganmaaDoorZ09
import Derived.Test.YtfcbgkcclganmaaDoorZ06

set_option linter.unusedVariables false
set_option linter.unusedSimpArgs false
namespace Go.Proofs.YtfcbgkcclganmaaDoor
open Go.RowKit

theorem refPayload14 (m : Ms) (v : Value) (w : World) (r : Rgt m) (h : Bs w v m.d) :
    Calls Tryd.prog 29 #[msV m v] w fun e w' => ∃ v', e = .returned v' ∧ Bs w' v' (pay m) ∧ Below w.heap.size w w' := by
  obtain ⟨ad, cap, rfl, h1, h2⟩ := h.len
  have k1 := r.k1
  have k8 := r.k8
  obtain ⟨k, fr, inc, rd, hh, pt, ps, d⟩ := m
  dsimp only at h1 k1 k8 h ⊢
  rcases kind8 (k := k) k1 k8 with rfl | rfl | rfl | rfl | rfl | rfl | rfl | rfl
  · exact refPayload1 fr inc rd hh pt ps d ad _ cap w rfl r h
  · exact refPayload2 fr inc rd hh pt ps d ad _ cap w rfl r h
  · exact refPayload3 fr inc rd hh pt ps d ad _ cap w rfl r h
  · exact refPayload4 fr inc rd hh pt ps d ad _ cap w rfl r h
  · exact refPayload5 fr inc rd hh pt ps d ad _ cap w rfl r h
  · exact refPayload6 fr inc rd hh pt ps d ad _ cap w rfl r h
  · exact refPayload7 fr inc rd hh pt ps d ad _ cap w rfl r h
  · exact refPayload8 fr inc rd hh pt ps d ad _ cap w rfl r h

set_option maxRecDepth 100000 in
set_option maxHeartbeats 4000000 in
/-- The document's Encode. -/
theorem refEncode14 (m : Ms) (v : Value) (w : World) (r : Rgt m) (hy : ∀ c ∈ m.d, c < 256) (h : Bs w v m.d) :
    Calls Tryd.prog 13 #[msV m v] w fun e w' => ∃ v', e = .returned v' ∧ Bs w' v' (fsl m.k.toNat (pay m)) ∧ Below w.heap.size w w' := by
  have HP : Hid (∀ W, Below w.heap.size w W → Calls Tryd.prog 29 #[msV m v] W fun e w' => ∃ v', e = .returned v' ∧ Bs w' v' (pay m) ∧ Below W.heap.size W w') := fun W hW => refPayload14 m v W r (h.later hW)
  have HL : Hid ((pay m).length ≤ 70000 ∧ ∀ c ∈ pay m, c < 256) := ⟨by have := pay_len r; omega, pay_byte hy⟩
  have k1 := r.k1
  have k8 := r.k8
  obtain ⟨K, hKk⟩ : ∃ K : Nat, m.k = (K : Int) := ⟨m.k.toNat, by omega⟩
  have HK : Hid (K < 256) := by show _ < _; omega
  obtain ⟨ad, cap, rfl, -, -⟩ := h.len
  clear r h hy k1 k8
  generalize hpy : pay m = S at *
  generalize m.d.length = n at *
  clear hpy
  have HM : Hid (msV m (.slice ad n cap) = .agg #[.int .i64 (K : Int), .int .i64 m.fr, .int .i64 m.inc, .int .i64 m.rd, .int .i64 m.h, .int .i64 m.pt, .int .i64 m.ps, .slice ad n cap]) := by show _ = _; unfold msV; rw [hKk]
  have e1 : m.k.toNat = K := by omega
  rw [e1, HM.out]
  rw [HM.out] at HP
  clear HM e1 hKk
  generalize m.fr = fr at *
  generalize m.inc = inc at *
  generalize m.rd = rd at *
  generalize m.h = h at *
  generalize m.pt = pt at *
  generalize m.ps = ps at *
  obtain ⟨wA, hwA⟩ : ∃ wA, wA = (w.alloc (.cells #[.int .i64 (K : Int), .int .i64 fr, .int .i64 inc, .int .i64 rd, .int .i64 h, .int .i64 pt, .int .i64 ps, .slice ad n cap] 26)) := ⟨_, rfl⟩
  have HA : Hid (B8 w.heap.size ⟨K, fr, inc, rd, h, pt, ps, []⟩ (.slice ad n cap) wA.drew ∧ Below w.heap.size w wA.drew) := by
    rw [hwA]
    refine ⟨B8.later (B8.new w ⟨K, fr, inc, rd, h, pt, ps, []⟩ _ _) (Below.refl _ _).drew, (bel1 _ _).drew⟩
  go_enter Tryd.func13, Tryd.ntmps13
  go_upto_region 1 with fail
  rw [← hwA]
  clear hwA
  refine wp_region_held_drew (S := B8 w.heap.size ⟨K, fr, inc, rd, h, pt, ps, []⟩ (.slice ad n cap)) (by kernel_rfl) HA.out.1 (fun HS => ?_)
  generalize wA.drew = q0 at *
  refine wpAnyH_take (i := 0) (v := ?v1) rfl (by kernel_rfl) (by kernel_rfl) (by kernel_rfl) (fun _ _ _ h => h) (Or.inl ⟨by kernel_rfl, ?h1⟩) HS ?r1
  case h1 => (rintro w ⟨n0, n1, n2, n3, n4, n5, n6, n7⟩; go_simp) <;> with_reducible rfl
  try simp only [Act.put, List.getElem_toArray, List.getElem_cons_succ, List.getElem_cons_zero, List.setIfInBounds_toArray, List.set_cons_zero, List.set_cons_succ]
  refine wpAnyH_take (i := 1) (v := ?v2) rfl (by kernel_rfl) (by kernel_rfl) (by kernel_rfl) (fun _ _ _ h => h) (Or.inl ⟨by kernel_rfl, ?h2⟩) HS ?r2
  case h2 => (rintro w ⟨n0, n1, n2, n3, n4, n5, n6, n7⟩; go_simp) <;> with_reducible rfl
  try simp only [Act.put, List.getElem_toArray, List.getElem_cons_succ, List.getElem_cons_zero, List.setIfInBounds_toArray, List.set_cons_zero, List.set_cons_succ]
  refine wpAnyH_take (i := 2) (v := ?v3) rfl (by kernel_rfl) (by kernel_rfl) (by kernel_rfl) (fun _ _ _ h => h) (Or.inl ⟨by kernel_rfl, ?h3⟩) HS ?r3
  case h3 => (rintro w ⟨n0, n1, n2, n3, n4, n5, n6, n7⟩; go_simp) <;> with_reducible rfl
  try simp only [Act.put, List.getElem_toArray, List.getElem_cons_succ, List.getElem_cons_zero, List.setIfInBounds_toArray, List.set_cons_zero, List.set_cons_succ]
  refine wpAnyH_ready (rs := [3]) (by kernel_rfl) (by simp) ?_
  refine AllReadyH.cons rfl (fun K hK => ?_) AllReadyH.nil
  go_simp
  refine (HP.out q0 HA.out.2).mono ?_
  rintro e q1 ⟨v1, rfl, hP1, hb1⟩
  obtain ⟨a1, p1, rfl, -, -⟩ := hP1.len
  have HB1 : Hid (Bs q1 (.slice a1 S.length p1) S ∧ Below w.heap.size w q1) := ⟨hP1, bchain HA.out.2 hb1⟩
  refine hK.out _ _ (HS.later hb1) (fun HS => ?_)
  clear hK hb1 HA HP hP1
  try simp only [Act.put, List.getElem_toArray, List.getElem_cons_succ, List.getElem_cons_zero, List.setIfInBounds_toArray, List.set_cons_zero, List.set_cons_succ]
  refine wpAnyH_ready (rs := [4]) (by kernel_rfl) (by simp) ?_
  refine AllReadyH.cons rfl (fun K hK => ?_) AllReadyH.nil
  go_simp
  refine (refSeal _ HK.out _ S HL.out.2 HL.out.1 q1 HB1.out.1).mono ?_
  rintro e q2 ⟨v2, rfl, hP2, hb2⟩
  obtain ⟨a2, p2, rfl, -, -⟩ := hP2.len
  have HB2 : Hid (Bs q2 (.slice a2 _ p2) (fsl _ S) ∧ Below w.heap.size w q2) := ⟨hP2, bchain HB1.out.2 hb2⟩
  refine hK.out _ _ (HS.later hb2) (fun HS => ?_)
  clear hK hb2 hP2 HB1
  try simp only [Act.put, List.getElem_toArray, List.getElem_cons_succ, List.getElem_cons_zero, List.setIfInBounds_toArray, List.set_cons_zero, List.set_cons_succ]
  refine wpAnyH_take (i := 5) (v := ?v4) rfl (by kernel_rfl) (by kernel_rfl) (by kernel_rfl) (fun _ _ _ h => h) (Or.inl ⟨by kernel_rfl, ?h4⟩) HS ?r4
  case h4 => (rintro w ⟨n0, n1, n2, n3, n4, n5, n6, n7⟩; go_simp) <;> with_reducible rfl
  try simp only [Act.put, List.getElem_toArray, List.getElem_cons_succ, List.getElem_cons_zero, List.setIfInBounds_toArray, List.set_cons_zero, List.set_cons_succ]
  refine wpAnyH_done (by kernel_rfl) ?_ _
  clear HS
  go_wp2
  go_ret
  exact ⟨_, rfl, HB2.out.1, HB2.out.2⟩
end Go.Proofs.YtfcbgkcclganmaaDoor
set_option linter.unusedVariables false
set_option linter.unusedSimpArgs false
namespace Go.Proofs.YtfcbgkcclganmaaDoor
open Go.RowKit

open Classical in
/-- The first error, or 0. -/
noncomputable def dcE (l : List Nat) : Nat := if opE l ≠ 0 then opE l else if opN l < l.length then 122 else if Is14 (opK l) (opP l) then 0 else 140
open Classical in
/-- The message, or the one of nothing. -/
noncomputable def dcM (l : List Nat) : Ms := if opE l = 0 ∧ ¬ opN l < l.length ∧ Is14 (opK l) (opP l) then rdM (opK l) (opP l) else ms0
theorem dc_err {l : List Nat} (h : opE l ≠ 0) : dcE l = opE l ∧ dcM l = ms0 := by
  unfold dcE dcM
  rw [if_pos h, if_neg (fun q => h q.1)]
  exact ⟨rfl, rfl⟩
theorem dc_left {l : List Nat} (h : opE l = 0) (h2 : opN l < l.length) : dcE l = 122 ∧ dcM l = ms0 := by
  unfold dcE dcM
  rw [if_neg (fun q => q h), if_pos h2, if_neg (fun q => q.2.1 h2)]
  exact ⟨rfl, rfl⟩
theorem dc_yes {l : List Nat} (h : opE l = 0) (h2 : ¬ opN l < l.length) (h3 : Is14 (opK l) (opP l)) : dcE l = 0 ∧ dcM l = rdM (opK l) (opP l) := by
  unfold dcE dcM
  rw [if_neg (fun q => q h), if_neg h2, if_pos h3, if_pos ⟨h, h2, h3⟩]
  exact ⟨rfl, rfl⟩
theorem dc_no {l : List Nat} (h : opE l = 0) (h2 : ¬ opN l < l.length) (h3 : ¬ Is14 (opK l) (opP l)) : dcE l = 140 ∧ dcM l = ms0 := by
  unfold dcE dcM
  rw [if_neg (fun q => q h), if_neg h2, if_neg h3, if_neg (fun q => h3 q.2.2)]
  exact ⟨rfl, rfl⟩
theorem op_kind {l : List Nat} (h : opE l = 0) : 1 ≤ opK l := by
  rw [(op_yes h).1]
  refine Nat.one_le_iff_ne_zero.2 fun q => ?_
  unfold opE at h
  repeat' split at h
  all_goals omega
theorem opP_byte {l : List Nat} (hb : ∀ c ∈ l, c < 256) : ∀ c ∈ opP l, c < 256 := by
  intro c hc
  unfold opP at hc
  split at hc
  · exact hb c (List.mem_of_mem_drop (List.mem_of_mem_take hc))
  · cases hc
theorem opP_len (l : List Nat) : (opP l).length ≤ l.length := by
  unfold opP
  split
  · rw [List.length_take, List.length_drop]; omega
  · simp
theorem ms0_eq : ms0 = ⟨0, 0, 0, 0, 0, 0, 0, []⟩ := rfl
/-- The cells of a message. -/
def mf (m : Ms) (v : Value) : Nat → Value
  | 0 => .int .i64 m.k
  | 1 => .int .i64 m.fr
  | 2 => .int .i64 m.inc
  | 3 => .int .i64 m.rd
  | 4 => .int .i64 m.h
  | 5 => .int .i64 m.pt
  | 6 => .int .i64 m.ps
  | _ => v
theorem less8 {k : Nat} (h : k < 8) : k = 0 ∨ k = 1 ∨ k = 2 ∨ k = 3 ∨ k = 4 ∨ k = 5 ∨ k = 6 ∨ k = 7 := by omega
theorem mf_new (w : World) (m : Ms) (v : Value) (t : TypeId) : Rw w.heap.size 8 (mf m v) (w.alloc (.cells #[.int .i64 m.k, .int .i64 m.fr, .int .i64 m.inc, .int .i64 m.rd, .int .i64 m.h, .int .i64 m.pt, .int .i64 m.ps, v] t)) := by
  refine ⟨fun k hk => ?_, fun k hk => by simp [go_sem]⟩
  rcases less8 hk with rfl | rfl | rfl | rfl | rfl | rfl | rfl | rfl <;> simp [go_sem, mf]
theorem mf_put8 {b : Nat} {f : Nat → Value} {W : World} (r : Rw b 8 f W) (m : Ms) (v : Value) : Rw b 8 (mf m v) ((((((((W.setCell ⟨b, 0, none⟩ (.int .i64 m.k)).setCell ⟨b, 1, none⟩ (.int .i64 m.fr)).setCell ⟨b, 2, none⟩ (.int .i64 m.inc)).setCell ⟨b, 3, none⟩ (.int .i64 m.rd)).setCell ⟨b, 4, none⟩ (.int .i64 m.h)).setCell ⟨b, 5, none⟩ (.int .i64 m.pt)).setCell ⟨b, 6, none⟩ (.int .i64 m.ps)).setCell ⟨b, 7, none⟩ v) := by
  refine ((((((((r.set 0 _).set 1 _).set 2 _).set 3 _).set 4 _).set 5 _).set 6 _).set 7 _).congr fun k hk => ?_
  rcases less8 hk with rfl | rfl | rfl | rfl | rfl | rfl | rfl | rfl <;> rfl
theorem below_put8 {B b : Nat} {w W : World} (h : Below B w W) (hb : B ≤ b) (x0 x1 x2 x3 x4 x5 x6 x7 : Value) : Below B w ((((((((W.setCell ⟨b, 0, none⟩ x0).setCell ⟨b, 1, none⟩ x1).setCell ⟨b, 2, none⟩ x2).setCell ⟨b, 3, none⟩ x3).setCell ⟨b, 4, none⟩ x4).setCell ⟨b, 5, none⟩ x5).setCell ⟨b, 6, none⟩ x6).setCell ⟨b, 7, none⟩ x7) :=
  (((((((h.setCell hb _).setCell hb _).setCell hb _).setCell hb _).setCell hb _).setCell hb _).setCell hb _).setCell hb _
theorem bs_nil14 (w : World) : Bs w (.slice none 0 0) [] := (ob_nil w.heap.size w).bs.1
theorem ow_nil14 (B : Nat) : Ow B (.slice none 0 0) := fun a n cap e hn => by cases e
theorem bs_put8 {W : World} {v : Value} {d : List Nat} (h : Bs W v d) (b : Nat) (hn : Nb v b) (x0 x1 x2 x3 x4 x5 x6 x7 : Value) : Bs ((((((((W.setCell ⟨b, 0, none⟩ x0).setCell ⟨b, 1, none⟩ x1).setCell ⟨b, 2, none⟩ x2).setCell ⟨b, 3, none⟩ x3).setCell ⟨b, 4, none⟩ x4).setCell ⟨b, 5, none⟩ x5).setCell ⟨b, 6, none⟩ x6).setCell ⟨b, 7, none⟩ x7) v d :=
  Ls.set (Ls.set (Ls.set (Ls.set (Ls.set (Ls.set (Ls.set (Ls.set h _ _ hn) _ _ hn) _ _ hn) _ _ hn) _ _ hn) _ _ hn) _ _ hn) _ _ hn
/-- While the document's Decode works. -/
structure Dst (s g : Nat) (k : Int) (P : List Nat) (vp : Value) (st : Sta) (m : Ms) (vd : Value) (w W : World) : Prop where
  kc : W.cell? ⟨g, 0, none⟩ = some (.int .i64 k)
  rr : Rr (g + 1) P vp st W
  mb : Rw (g + 2) 8 (mf m vd) W
  rb : Rw s 8 (mf ms0 (.slice none 0 0)) W
  lo : Lo g vp
  lt : s < g
  bl : Below s w W
theorem Dst.szs {s g : Nat} {k : Int} {P : List Nat} {vp vd : Value} {st : Sta} {m : Ms} {w W : World} (h : Dst s g k P vp st m vd w W) : g + 2 < W.heap.size := World.block_lt_of_cell? _ _ (h.mb.c 0 (by omega))
theorem Dst.read {s g : Nat} {k : Int} {P : List Nat} {vp vd : Value} {st st' : Sta} {m : Ms} {w W W1 : World} (h : Dst s g k P vp st m vd w W) (r : Rr (g + 1) P vp st' W1) (q : Kp (· = g + 1) W W1) : Dst s g k P vp st' m vd w W1 := by
  have z := h.szs
  have l := h.lt
  exact ⟨(World.cell?_of_block (w := W) (q.block g (by omega) (by omega))).trans h.kc, r, h.mb.block (q.block _ (by omega) (by omega)), h.rb.block (q.block _ (by omega) (by omega)), h.lo, h.lt, q.next h.bl (fun i hi => by omega) (by omega)⟩
theorem Dst.later {s g : Nat} {k : Int} {P : List Nat} {vp vd : Value} {st : Sta} {m : Ms} {w W W1 : World} (h : Dst s g k P vp st m vd w W) (q : Below W.heap.size W W1) : Dst s g k P vp st m vd w W1 :=
  h.read (h.rr.later q) (Kp.of q)
theorem Dst.put {s g : Nat} {k : Int} {P : List Nat} {vp vd : Value} {st : Sta} {m : Ms} {w W : World} (h : Dst s g k P vp st m vd w W) (i : Nat) (u : Value) (m' : Ms) (vd' : Value) (e : ∀ j, j < 8 → (if j = i then u else mf m vd j) = mf m' vd' j) : Dst s g k P vp st m' vd' w (W.setCell ⟨g + 2, i, none⟩ u) := by
  have z := h.szs
  have l := h.lt
  refine ⟨cell_set (by dsimp only; omega) h.kc, ?_, (h.mb.set i u).congr e, h.rb.far u (by dsimp only; omega), h.lo, h.lt, h.bl.setCell (by dsimp only; omega) _⟩
  exact h.rr.kept (kset (Kp.refl _ _) u) (by omega) (fun a n c e hn q => by have := h.lo a n c e hn; omega)
end Go.Proofs.YtfcbgkcclganmaaDoor
set_option linter.unusedVariables false
set_option linter.unusedSimpArgs false
namespace Go.Proofs.YtfcbgkcclganmaaDoor
open Go.RowKit

set_option maxRecDepth 100000 in
set_option maxHeartbeats 8000000 in
theorem refDec1 (v : Value) (l : List Nat) (hb : ∀ c ∈ l, c < 256) (hl : l.length ≤ 90000) (w : World) (h : Bs w v l) (hE : opE l = 0) (hN : ¬ opN l < l.length) (hk : opK l = 1) :
    Calls Tryd.prog 15 #[v] w fun e w' => ∃ vd, e = .returned (.tuple #[msV (dcM l) vd, .int .i64 ((dcE l : Nat) : Int)]) ∧ Bs w' vd (dcM l).d ∧ Ow w.heap.size vd ∧ Below w.heap.size w w' := by
  have C := refOpen v l hb hl
  rw [hE, hk] at C
  have HP : Hid ((∀ c ∈ opP l, c < 256) ∧ (opP l).length ≤ 1000000) := ⟨opP_byte hb, by have := opP_len l; omega⟩
  have HX : Hid ((rdE (rdD 1 (opP l)) = 0 → Rgt (rdM 1 (opP l)) → dcE l = 0 ∧ dcM l = rdM 1 (opP l)) ∧ (¬ (rdE (rdD 1 (opP l)) = 0 ∧ Rgt (rdM 1 (opP l))) → dcE l = 140 ∧ dcM l = ms0)) := by
    have e : ((opK l : Nat) : Int) = 1 := by rw [hk]; rfl
    refine ⟨fun q1 q2 => ?_, fun q => ?_⟩
    · have := dc_yes hE hN (by rw [e]; exact ⟨by omega, by omega, q1, q2⟩)
      rw [e] at this
      exact this
    · exact dc_no hE hN (by rw [e]; exact fun r => q ⟨r.2.2.1, r.2.2.2⟩)
  have hNI : ¬ ((opN l : Nat) : Int) < ((l.length : Nat) : Int) := by omega
  have HL : Hid (Bs w v l) := h
  obtain ⟨ad, cap, rfl, -, -⟩ := h.len
  generalize dcE l = E at *
  generalize dcM l = M at *
  generalize opP l = P at *
  generalize opN l = N at *
  clear h hE hN hk hb hl
  obtain ⟨wA, hwA⟩ : ∃ wA, wA = w.alloc (.cells #[.int .i64 0, .int .i64 0, .int .i64 0, .int .i64 0, .int .i64 0, .int .i64 0, .int .i64 0, .slice none 0 0] 26) := ⟨_, rfl⟩
  have HA : Hid (Rw w.heap.size 8 (mf ms0 (.slice none 0 0)) wA ∧ Below w.heap.size w wA ∧ wA.heap.size = w.heap.size + 1) := by rw [hwA]; exact ⟨mf_new w ms0 _ _, bel1 _ _, by simp⟩
  go_enter Tryd.func15, Tryd.ntmps15
  go_wp2_with fail
  rw [← hwA]
  refine (C wA (HL.out.later HA.out.2.1)).mono ?_
  clear C hwA
  rintro e w1 ⟨vp, rfl, hP, hO, hB⟩
  have hAs := HA.out.2.2
  have hBs := hB.size
  have HB : Hid (Bs w1 vp P ∧ Lo w1.heap.size vp ∧ Rw w.heap.size 8 (mf ms0 (.slice none 0 0)) w1 ∧ Below w.heap.size w w1 ∧ w.heap.size < w1.heap.size) := ⟨hP, Ls.lo hP, HA.out.1.later hB, bchain HA.out.2.1 hB, by omega⟩
  obtain ⟨ap, pp, rfl, -, -⟩ := hP.len
  clear hP hO hB HA HL hAs hBs
  generalize hnp : P.length = np at *
  have HNp : Hid (P.length ≤ 1000000) := by show _ ≤ _; rw [hnp]; exact HP.out.2
  clear hnp
  obtain ⟨wB, hwB⟩ : ∃ wB, wB = ((w1.alloc (.cells #[.int .i64 1, .slice ap np pp] 66)).alloc (.cells #[.slice ap np pp, .int .i64 0, .int .i64 0] 71)).alloc (.cells #[.int .i64 1, .int .i64 0, .int .i64 0, .int .i64 0, .int .i64 0, .int .i64 0, .int .i64 0, .slice none 0 0] 26) := ⟨_, rfl⟩
  have HD0 : Hid (Dst w.heap.size w1.heap.size 1 P (.slice ap np pp) (.ok P) ⟨1, 0, 0, 0, 0, 0, 0, []⟩ (.slice none 0 0) w wB) := by
    rw [hwB]
    obtain ⟨wF, hwF⟩ : ∃ wF, wF = w1.alloc (.cells #[.int .i64 1, .slice ap np pp] 66) := ⟨_, rfl⟩
    have sF : wF.heap.size = w1.heap.size + 1 := by rw [hwF]; simp
    have bF : Below w1.heap.size w1 wF := by rw [hwF]; exact bel1 _ _
    have cF : wF.cell? ⟨w1.heap.size, 0, none⟩ = some (.int .i64 1) := by rw [hwF]; simp [go_sem]
    rw [← hwF]
    clear hwF hwB
    obtain ⟨wG, hwG⟩ : ∃ wG, wG = wF.alloc (.cells #[.slice ap np pp, .int .i64 0, .int .i64 0] 71) := ⟨_, rfl⟩
    have sG : wG.heap.size = w1.heap.size + 2 := by rw [hwG]; simp [sF]
    have bG : Below wF.heap.size wF wG := by rw [hwG]; exact bel1 _ _
    have rG : R0 (w1.heap.size + 1) P (.slice ap np pp) 0 0 wG := by
      have := HB.out.1.later bF
      rw [hwG, ← sF]
      exact ⟨by simp [go_sem], by simp [go_sem], by simp [go_sem], by simp [go_sem], by simp [go_sem], this.later (bel1 _ _), Ls.nb this (Nat.le_refl _), Nat.zero_le _⟩
    rw [← hwG]
    clear hwG
    have mG := mf_new wG ⟨1, 0, 0, 0, 0, 0, 0, []⟩ (.slice none 0 0) 26
    rw [sG] at mG
    have bH : ∀ o, Below w1.heap.size w1 (wG.alloc o) := fun o => bchain (bchain bF bG) (bel1 _ _)
    exact ⟨cell_later (bel1 _ _) (cell_later bG cF), ⟨0, 0, rG.later (bel1 _ _), rfl, rfl⟩, mG, HB.out.2.2.1.later (bH _), HB.out.2.1, HB.out.2.2.2.2, bchain HB.out.2.2.2.1 (bH _)⟩
  go_upto_region 8 with fail
  rw [← hwB]
  clear hwB HB
  generalize hg : w1.heap.size = g at *
  clear hg w1
  have HDa := HD0
  clear HD0
  have x0 := HDa.out.kc
  go_wp2_with fail
  refine (refRInt (g + 1) P _ (.ok P) wB HP.out.1 HNp.out HDa.out.rr).mono ?_
  rintro e wc0 ⟨rfl, hr, hk⟩
  have HDb : Hid (Dst w.heap.size g 1 P (.slice ap np pp) (pn rI (.ok P)) ⟨1, 0, 0, 0, 0, 0, 0, []⟩ (.slice none 0 0) w wc0) := HDa.out.read hr hk
  clear hr hk HDa x0
  have x0 := HDb.out.kc
  have y0 := HDb.out.mb.c 1 (by omega)
  have t0 := HDb.out.mb.f 1 (by omega)
  dsimp only [mf] at y0
  go_upto_region 10 with fail
  have HDa : Hid (Dst w.heap.size g 1 P (.slice ap np pp) (pn rI (.ok P)) ⟨1, (pv rI 0 (.ok P)), 0, 0, 0, 0, 0, []⟩ (.slice none 0 0) w (wc0.setCell ⟨g + 2, 1, none⟩ (.int .i64 (pv rI 0 (.ok P))))) := by
    refine HDb.out.put 1 _ _ _ fun j hj => ?_
    rcases less8 hj with rfl | rfl | rfl | rfl | rfl | rfl | rfl | rfl <;> rfl
  clear HDb x0 y0 t0
  generalize wc0.setCell ⟨g + 2, 1, none⟩ (.int .i64 (pv rI 0 (.ok P))) = wd0 at *
  clear wc0
  have x0 := HDa.out.kc
  go_wp2_with fail
  refine (refRInt (g + 1) P _ (pn rI (.ok P)) wd0 HP.out.1 HNp.out HDa.out.rr).mono ?_
  rintro e wc1 ⟨rfl, hr, hk⟩
  have HDb : Hid (Dst w.heap.size g 1 P (.slice ap np pp) (pn rI (pn rI (.ok P))) ⟨1, (pv rI 0 (.ok P)), 0, 0, 0, 0, 0, []⟩ (.slice none 0 0) w wc1) := HDa.out.read hr hk
  clear hr hk HDa x0
  have x0 := HDb.out.kc
  have y0 := HDb.out.mb.c 2 (by omega)
  have t0 := HDb.out.mb.f 2 (by omega)
  dsimp only [mf] at y0
  go_upto_region 12 with fail
  have HDa : Hid (Dst w.heap.size g 1 P (.slice ap np pp) (pn rI (pn rI (.ok P))) ⟨1, (pv rI 0 (.ok P)), (pv rI 0 (pn rI (.ok P))), 0, 0, 0, 0, []⟩ (.slice none 0 0) w (wc1.setCell ⟨g + 2, 2, none⟩ (.int .i64 (pv rI 0 (pn rI (.ok P)))))) := by
    refine HDb.out.put 2 _ _ _ fun j hj => ?_
    rcases less8 hj with rfl | rfl | rfl | rfl | rfl | rfl | rfl | rfl <;> rfl
  clear HDb x0 y0 t0
  generalize wc1.setCell ⟨g + 2, 2, none⟩ (.int .i64 (pv rI 0 (pn rI (.ok P)))) = wd1 at *
  clear wc1
  have x0 := HDa.out.kc
  go_wp2_with fail
  refine (refRDone (g + 1) P _ (pn rI (pn rI (.ok P))) wd1 HNp.out HDa.out.rr).mono ?_
  rintro e we ⟨rfl, hbe⟩
  have HDe : Hid (Dst w.heap.size g 1 P (.slice ap np pp) (pn rI (pn rI (.ok P))) ⟨1, (pv rI 0 (.ok P)), (pv rI 0 (pn rI (.ok P))), 0, 0, 0, 0, []⟩ (.slice none 0 0) w we) := HDa.out.later hbe
  clear HDa x0 hbe
  have HXa : Hid ((rdE (pn rI (pn rI (.ok P))) = 0 → Rgt ⟨1, (pv rI 0 (.ok P)), (pv rI 0 (pn rI (.ok P))), 0, 0, 0, 0, []⟩ → E = 0 ∧ M = ⟨1, (pv rI 0 (.ok P)), (pv rI 0 (pn rI (.ok P))), 0, 0, 0, 0, []⟩) ∧ (¬ (rdE (pn rI (pn rI (.ok P))) = 0 ∧ Rgt ⟨1, (pv rI 0 (.ok P)), (pv rI 0 (pn rI (.ok P))), 0, 0, 0, 0, []⟩) → E = 140 ∧ M = ms0)) := HX.out
  clear HX
  by_cases hz : rdE (pn rI (pn rI (.ok P))) = 0
  · have hzI : ((rdE (pn rI (pn rI (.ok P))) : Nat) : Int) = 0 := by omega
    have HZe : Hid (rdE _ = 0) := hz
    rw [hzI]
    clear hz hzI
    have y0 := HDe.out.mb.c 0 (by omega)
    have y1 := HDe.out.mb.c 1 (by omega)
    have y2 := HDe.out.mb.c 2 (by omega)
    have y3 := HDe.out.mb.c 3 (by omega)
    have y4 := HDe.out.mb.c 4 (by omega)
    have y5 := HDe.out.mb.c 5 (by omega)
    have y6 := HDe.out.mb.c 6 (by omega)
    have y7 := HDe.out.mb.c 7 (by omega)
    dsimp only [mf] at y0 y1 y2 y3 y4 y5 y6 y7
    go_wp2_with fail
    refine (refRight14 ⟨1, (pv rI 0 (.ok P)), (pv rI 0 (pn rI (.ok P))), 0, 0, 0, 0, []⟩ (.slice none 0 0) we (bs_nil14 _)).mono ?_
    rintro e wf ⟨B, rfl, hB, hbf⟩
    have HZ : Hid (Dst w.heap.size g 1 P (.slice ap np pp) (pn rI (pn rI (.ok P))) ⟨1, (pv rI 0 (.ok P)), (pv rI 0 (pn rI (.ok P))), 0, 0, 0, 0, []⟩ (.slice none 0 0) w wf) := HDe.out.later hbf
    clear y0 y1 y2 y3 y4 y5 y6 y7 HDe hbf
    cases B with
    | false =>
      have HE : Hid (E = 140 ∧ M = ms0) := HXa.out.2 (fun q => by have := hB.2 q.2; cases this)
      clear hB HXa HZe
      have z0 := HZ.out.rb.c 0 (by omega)
      have t0 := HZ.out.rb.f 0 (by omega)
      have z1 := HZ.out.rb.c 1 (by omega)
      have t1 := HZ.out.rb.f 1 (by omega)
      have z2 := HZ.out.rb.c 2 (by omega)
      have t2 := HZ.out.rb.f 2 (by omega)
      have z3 := HZ.out.rb.c 3 (by omega)
      have t3 := HZ.out.rb.f 3 (by omega)
      have z4 := HZ.out.rb.c 4 (by omega)
      have t4 := HZ.out.rb.f 4 (by omega)
      have z5 := HZ.out.rb.c 5 (by omega)
      have t5 := HZ.out.rb.f 5 (by omega)
      have z6 := HZ.out.rb.c 6 (by omega)
      have t6 := HZ.out.rb.f 6 (by omega)
      have z7 := HZ.out.rb.c 7 (by omega)
      have t7 := HZ.out.rb.f 7 (by omega)
      dsimp only [mf, ms0] at z0 z1 z2 z3 z4 z5 z6 z7
      go_wp2
      have HR := mf_put8 HZ.out.rb ms0 (.slice none 0 0)
      have HBl := below_put8 HZ.out.bl (Nat.le_refl _) (.int .i64 0) (.int .i64 0) (.int .i64 0) (.int .i64 0) (.int .i64 0) (.int .i64 0) (.int .i64 0) (.slice none 0 0)
      dsimp only [ms0] at HR
      clear z0 z1 z2 z3 z4 z5 z6 z7 t0 t1 t2 t3 t4 t5 t6 t7 HZ
      generalize World.setCell _ ⟨w.heap.size, 7, none⟩ (.slice none 0 0) = wZ at *
      have z0 := HR.c 0 (by omega)
      have z1 := HR.c 1 (by omega)
      have z2 := HR.c 2 (by omega)
      have z3 := HR.c 3 (by omega)
      have z4 := HR.c 4 (by omega)
      have z5 := HR.c 5 (by omega)
      have z6 := HR.c 6 (by omega)
      have z7 := HR.c 7 (by omega)
      dsimp only [mf] at z0 z1 z2 z3 z4 z5 z6 z7
      obtain ⟨rfl, rfl⟩ := HE.out
      exact bodyPost_ret (v := .tuple #[.agg #[.int .i64 0, .int .i64 0, .int .i64 0, .int .i64 0, .int .i64 0, .int .i64 0, .int .i64 0, .slice none 0 0], .int .i64 140]) (by simp [results, Tryd.results15, go_sem, z0, z1, z2, z3, z4, z5, z6, z7]) rfl ⟨.slice none 0 0, rfl, bs_nil14 _, ow_nil14 _, HBl⟩
    | true =>
      have HE : Hid (E = 0 ∧ M = ⟨1, (pv rI 0 (.ok P)), (pv rI 0 (pn rI (.ok P))), 0, 0, 0, 0, []⟩) := HXa.out.1 HZe.out (hB.1 rfl)
      clear hB HXa HZe
      have z0 := HZ.out.rb.c 0 (by omega)
      have t0 := HZ.out.rb.f 0 (by omega)
      have y0 := HZ.out.mb.c 0 (by omega)
      have z1 := HZ.out.rb.c 1 (by omega)
      have t1 := HZ.out.rb.f 1 (by omega)
      have y1 := HZ.out.mb.c 1 (by omega)
      have z2 := HZ.out.rb.c 2 (by omega)
      have t2 := HZ.out.rb.f 2 (by omega)
      have y2 := HZ.out.mb.c 2 (by omega)
      have z3 := HZ.out.rb.c 3 (by omega)
      have t3 := HZ.out.rb.f 3 (by omega)
      have y3 := HZ.out.mb.c 3 (by omega)
      have z4 := HZ.out.rb.c 4 (by omega)
      have t4 := HZ.out.rb.f 4 (by omega)
      have y4 := HZ.out.mb.c 4 (by omega)
      have z5 := HZ.out.rb.c 5 (by omega)
      have t5 := HZ.out.rb.f 5 (by omega)
      have y5 := HZ.out.mb.c 5 (by omega)
      have z6 := HZ.out.rb.c 6 (by omega)
      have t6 := HZ.out.rb.f 6 (by omega)
      have y6 := HZ.out.mb.c 6 (by omega)
      have z7 := HZ.out.rb.c 7 (by omega)
      have t7 := HZ.out.rb.f 7 (by omega)
      have y7 := HZ.out.mb.c 7 (by omega)
      dsimp only [mf, ms0] at z0 z1 z2 z3 z4 z5 z6 z7 y0 y1 y2 y3 y4 y5 y6 y7
      go_wp2
      have HR := mf_put8 HZ.out.rb ⟨1, (pv rI 0 (.ok P)), (pv rI 0 (pn rI (.ok P))), 0, 0, 0, 0, []⟩ (.slice none 0 0)
      have HBl := below_put8 HZ.out.bl (Nat.le_refl _) (.int .i64 1) (.int .i64 (pv rI 0 (.ok P))) (.int .i64 (pv rI 0 (pn rI (.ok P)))) (.int .i64 0) (.int .i64 0) (.int .i64 0) (.int .i64 0) (.slice none 0 0)
      dsimp only at HR
      clear z0 z1 z2 z3 z4 z5 z6 z7 t0 t1 t2 t3 t4 t5 t6 t7 y0 y1 y2 y3 y4 y5 y6 y7 HZ
      generalize World.setCell _ ⟨w.heap.size, 7, none⟩ (.slice none 0 0) = wZ at *
      have z0 := HR.c 0 (by omega)
      have z1 := HR.c 1 (by omega)
      have z2 := HR.c 2 (by omega)
      have z3 := HR.c 3 (by omega)
      have z4 := HR.c 4 (by omega)
      have z5 := HR.c 5 (by omega)
      have z6 := HR.c 6 (by omega)
      have z7 := HR.c 7 (by omega)
      dsimp only [mf] at z0 z1 z2 z3 z4 z5 z6 z7
      obtain ⟨rfl, rfl⟩ := HE.out
      exact bodyPost_ret (v := .tuple #[.agg #[.int .i64 1, .int .i64 (pv rI 0 (.ok P)), .int .i64 (pv rI 0 (pn rI (.ok P))), .int .i64 0, .int .i64 0, .int .i64 0, .int .i64 0, (.slice none 0 0)], .int .i64 0]) (by simp [results, Tryd.results15, go_sem, z0, z1, z2, z3, z4, z5, z6, z7]) rfl ⟨(.slice none 0 0), rfl, bs_nil14 _, ow_nil14 _, HBl⟩
  · have hzI : ¬ ((rdE (pn rI (pn rI (.ok P))) : Nat) : Int) = 0 := by omega
    have HE : Hid (E = 140 ∧ M = ms0) := HXa.out.2 (fun q => hz q.1)
    have HZ := HDe
    clear HDe HXa hz
    generalize rdE (pn rI (pn rI (.ok P))) = er at *
    have z0 := HZ.out.rb.c 0 (by omega)
    have t0 := HZ.out.rb.f 0 (by omega)
    have z1 := HZ.out.rb.c 1 (by omega)
    have t1 := HZ.out.rb.f 1 (by omega)
    have z2 := HZ.out.rb.c 2 (by omega)
    have t2 := HZ.out.rb.f 2 (by omega)
    have z3 := HZ.out.rb.c 3 (by omega)
    have t3 := HZ.out.rb.f 3 (by omega)
    have z4 := HZ.out.rb.c 4 (by omega)
    have t4 := HZ.out.rb.f 4 (by omega)
    have z5 := HZ.out.rb.c 5 (by omega)
    have t5 := HZ.out.rb.f 5 (by omega)
    have z6 := HZ.out.rb.c 6 (by omega)
    have t6 := HZ.out.rb.f 6 (by omega)
    have z7 := HZ.out.rb.c 7 (by omega)
    have t7 := HZ.out.rb.f 7 (by omega)
    dsimp only [mf, ms0] at z0 z1 z2 z3 z4 z5 z6 z7
    go_wp2
    have HR := mf_put8 HZ.out.rb ms0 (.slice none 0 0)
    have HBl := below_put8 HZ.out.bl (Nat.le_refl _) (.int .i64 0) (.int .i64 0) (.int .i64 0) (.int .i64 0) (.int .i64 0) (.int .i64 0) (.int .i64 0) (.slice none 0 0)
    dsimp only [ms0] at HR
    clear z0 z1 z2 z3 z4 z5 z6 z7 t0 t1 t2 t3 t4 t5 t6 t7 HZ
    generalize World.setCell _ ⟨w.heap.size, 7, none⟩ (.slice none 0 0) = wZ at *
    have z0 := HR.c 0 (by omega)
    have z1 := HR.c 1 (by omega)
    have z2 := HR.c 2 (by omega)
    have z3 := HR.c 3 (by omega)
    have z4 := HR.c 4 (by omega)
    have z5 := HR.c 5 (by omega)
    have z6 := HR.c 6 (by omega)
    have z7 := HR.c 7 (by omega)
    dsimp only [mf] at z0 z1 z2 z3 z4 z5 z6 z7
    obtain ⟨rfl, rfl⟩ := HE.out
    exact bodyPost_ret (v := .tuple #[.agg #[.int .i64 0, .int .i64 0, .int .i64 0, .int .i64 0, .int .i64 0, .int .i64 0, .int .i64 0, .slice none 0 0], .int .i64 140]) (by simp [results, Tryd.results15, go_sem, z0, z1, z2, z3, z4, z5, z6, z7]) rfl ⟨.slice none 0 0, rfl, bs_nil14 _, ow_nil14 _, HBl⟩
set_option maxRecDepth 100000 in
set_option maxHeartbeats 8000000 in
theorem refDec8 (v : Value) (l : List Nat) (hb : ∀ c ∈ l, c < 256) (hl : l.length ≤ 90000) (w : World) (h : Bs w v l) (hE : opE l = 0) (hN : ¬ opN l < l.length) (hk : opK l = 8) :
    Calls Tryd.prog 15 #[v] w fun e w' => ∃ vd, e = .returned (.tuple #[msV (dcM l) vd, .int .i64 ((dcE l : Nat) : Int)]) ∧ Bs w' vd (dcM l).d ∧ Ow w.heap.size vd ∧ Below w.heap.size w w' := by
  have C := refOpen v l hb hl
  rw [hE, hk] at C
  have HP : Hid ((∀ c ∈ opP l, c < 256) ∧ (opP l).length ≤ 1000000) := ⟨opP_byte hb, by have := opP_len l; omega⟩
  have HX : Hid ((rdE (rdD 8 (opP l)) = 0 → Rgt (rdM 8 (opP l)) → dcE l = 0 ∧ dcM l = rdM 8 (opP l)) ∧ (¬ (rdE (rdD 8 (opP l)) = 0 ∧ Rgt (rdM 8 (opP l))) → dcE l = 140 ∧ dcM l = ms0)) := by
    have e : ((opK l : Nat) : Int) = 8 := by rw [hk]; rfl
    refine ⟨fun q1 q2 => ?_, fun q => ?_⟩
    · have := dc_yes hE hN (by rw [e]; exact ⟨by omega, by omega, q1, q2⟩)
      rw [e] at this
      exact this
    · exact dc_no hE hN (by rw [e]; exact fun r => q ⟨r.2.2.1, r.2.2.2⟩)
  have hNI : ¬ ((opN l : Nat) : Int) < ((l.length : Nat) : Int) := by omega
  have HL : Hid (Bs w v l) := h
  obtain ⟨ad, cap, rfl, -, -⟩ := h.len
  generalize dcE l = E at *
  generalize dcM l = M at *
  generalize opP l = P at *
  generalize opN l = N at *
  clear h hE hN hk hb hl
  obtain ⟨wA, hwA⟩ : ∃ wA, wA = w.alloc (.cells #[.int .i64 0, .int .i64 0, .int .i64 0, .int .i64 0, .int .i64 0, .int .i64 0, .int .i64 0, .slice none 0 0] 26) := ⟨_, rfl⟩
  have HA : Hid (Rw w.heap.size 8 (mf ms0 (.slice none 0 0)) wA ∧ Below w.heap.size w wA ∧ wA.heap.size = w.heap.size + 1) := by rw [hwA]; exact ⟨mf_new w ms0 _ _, bel1 _ _, by simp⟩
  go_enter Tryd.func15, Tryd.ntmps15
  go_wp2_with fail
  rw [← hwA]
  refine (C wA (HL.out.later HA.out.2.1)).mono ?_
  clear C hwA
  rintro e w1 ⟨vp, rfl, hP, hO, hB⟩
  have hAs := HA.out.2.2
  have hBs := hB.size
  have HB : Hid (Bs w1 vp P ∧ Lo w1.heap.size vp ∧ Rw w.heap.size 8 (mf ms0 (.slice none 0 0)) w1 ∧ Below w.heap.size w w1 ∧ w.heap.size < w1.heap.size) := ⟨hP, Ls.lo hP, HA.out.1.later hB, bchain HA.out.2.1 hB, by omega⟩
  obtain ⟨ap, pp, rfl, -, -⟩ := hP.len
  clear hP hO hB HA HL hAs hBs
  generalize hnp : P.length = np at *
  have HNp : Hid (P.length ≤ 1000000) := by show _ ≤ _; rw [hnp]; exact HP.out.2
  clear hnp
  obtain ⟨wB, hwB⟩ : ∃ wB, wB = ((w1.alloc (.cells #[.int .i64 8, .slice ap np pp] 66)).alloc (.cells #[.slice ap np pp, .int .i64 0, .int .i64 0] 71)).alloc (.cells #[.int .i64 8, .int .i64 0, .int .i64 0, .int .i64 0, .int .i64 0, .int .i64 0, .int .i64 0, .slice none 0 0] 26) := ⟨_, rfl⟩
  have HD0 : Hid (Dst w.heap.size w1.heap.size 8 P (.slice ap np pp) (.ok P) ⟨8, 0, 0, 0, 0, 0, 0, []⟩ (.slice none 0 0) w wB) := by
    rw [hwB]
    obtain ⟨wF, hwF⟩ : ∃ wF, wF = w1.alloc (.cells #[.int .i64 8, .slice ap np pp] 66) := ⟨_, rfl⟩
    have sF : wF.heap.size = w1.heap.size + 1 := by rw [hwF]; simp
    have bF : Below w1.heap.size w1 wF := by rw [hwF]; exact bel1 _ _
    have cF : wF.cell? ⟨w1.heap.size, 0, none⟩ = some (.int .i64 8) := by rw [hwF]; simp [go_sem]
    rw [← hwF]
    clear hwF hwB
    obtain ⟨wG, hwG⟩ : ∃ wG, wG = wF.alloc (.cells #[.slice ap np pp, .int .i64 0, .int .i64 0] 71) := ⟨_, rfl⟩
    have sG : wG.heap.size = w1.heap.size + 2 := by rw [hwG]; simp [sF]
    have bG : Below wF.heap.size wF wG := by rw [hwG]; exact bel1 _ _
    have rG : R0 (w1.heap.size + 1) P (.slice ap np pp) 0 0 wG := by
      have := HB.out.1.later bF
      rw [hwG, ← sF]
      exact ⟨by simp [go_sem], by simp [go_sem], by simp [go_sem], by simp [go_sem], by simp [go_sem], this.later (bel1 _ _), Ls.nb this (Nat.le_refl _), Nat.zero_le _⟩
    rw [← hwG]
    clear hwG
    have mG := mf_new wG ⟨8, 0, 0, 0, 0, 0, 0, []⟩ (.slice none 0 0) 26
    rw [sG] at mG
    have bH : ∀ o, Below w1.heap.size w1 (wG.alloc o) := fun o => bchain (bchain bF bG) (bel1 _ _)
    exact ⟨cell_later (bel1 _ _) (cell_later bG cF), ⟨0, 0, rG.later (bel1 _ _), rfl, rfl⟩, mG, HB.out.2.2.1.later (bH _), HB.out.2.1, HB.out.2.2.2.2, bchain HB.out.2.2.2.1 (bH _)⟩
  go_upto_region 8 with fail
  rw [← hwB]
  clear hwB HB
  generalize hg : w1.heap.size = g at *
  clear hg w1
  have HDa := HD0
  clear HD0
  have x0 := HDa.out.kc
  go_wp2_with fail
  refine (refRInt (g + 1) P _ (.ok P) wB HP.out.1 HNp.out HDa.out.rr).mono ?_
  rintro e wc0 ⟨rfl, hr, hk⟩
  have HDb : Hid (Dst w.heap.size g 8 P (.slice ap np pp) (pn rI (.ok P)) ⟨8, 0, 0, 0, 0, 0, 0, []⟩ (.slice none 0 0) w wc0) := HDa.out.read hr hk
  clear hr hk HDa x0
  have x0 := HDb.out.kc
  have y0 := HDb.out.mb.c 1 (by omega)
  have t0 := HDb.out.mb.f 1 (by omega)
  dsimp only [mf] at y0
  go_upto_region 10 with fail
  have HDa : Hid (Dst w.heap.size g 8 P (.slice ap np pp) (pn rI (.ok P)) ⟨8, (pv rI 0 (.ok P)), 0, 0, 0, 0, 0, []⟩ (.slice none 0 0) w (wc0.setCell ⟨g + 2, 1, none⟩ (.int .i64 (pv rI 0 (.ok P))))) := by
    refine HDb.out.put 1 _ _ _ fun j hj => ?_
    rcases less8 hj with rfl | rfl | rfl | rfl | rfl | rfl | rfl | rfl <;> rfl
  clear HDb x0 y0 t0
  generalize wc0.setCell ⟨g + 2, 1, none⟩ (.int .i64 (pv rI 0 (.ok P))) = wd0 at *
  clear wc0
  have x0 := HDa.out.kc
  go_wp2_with fail
  refine (refRInt (g + 1) P _ (pn rI (.ok P)) wd0 HP.out.1 HNp.out HDa.out.rr).mono ?_
  rintro e wc1 ⟨rfl, hr, hk⟩
  have HDb : Hid (Dst w.heap.size g 8 P (.slice ap np pp) (pn rI (pn rI (.ok P))) ⟨8, (pv rI 0 (.ok P)), 0, 0, 0, 0, 0, []⟩ (.slice none 0 0) w wc1) := HDa.out.read hr hk
  clear hr hk HDa x0
  have x0 := HDb.out.kc
  have y0 := HDb.out.mb.c 2 (by omega)
  have t0 := HDb.out.mb.f 2 (by omega)
  dsimp only [mf] at y0
  go_upto_region 12 with fail
  have HDa : Hid (Dst w.heap.size g 8 P (.slice ap np pp) (pn rI (pn rI (.ok P))) ⟨8, (pv rI 0 (.ok P)), (pv rI 0 (pn rI (.ok P))), 0, 0, 0, 0, []⟩ (.slice none 0 0) w (wc1.setCell ⟨g + 2, 2, none⟩ (.int .i64 (pv rI 0 (pn rI (.ok P)))))) := by
    refine HDb.out.put 2 _ _ _ fun j hj => ?_
    rcases less8 hj with rfl | rfl | rfl | rfl | rfl | rfl | rfl | rfl <;> rfl
  clear HDb x0 y0 t0
  generalize wc1.setCell ⟨g + 2, 2, none⟩ (.int .i64 (pv rI 0 (pn rI (.ok P)))) = wd1 at *
  clear wc1
  have x0 := HDa.out.kc
  go_wp2_with fail
  refine (refRDone (g + 1) P _ (pn rI (pn rI (.ok P))) wd1 HNp.out HDa.out.rr).mono ?_
  rintro e we ⟨rfl, hbe⟩
  have HDe : Hid (Dst w.heap.size g 8 P (.slice ap np pp) (pn rI (pn rI (.ok P))) ⟨8, (pv rI 0 (.ok P)), (pv rI 0 (pn rI (.ok P))), 0, 0, 0, 0, []⟩ (.slice none 0 0) w we) := HDa.out.later hbe
  clear HDa x0 hbe
  have HXa : Hid ((rdE (pn rI (pn rI (.ok P))) = 0 → Rgt ⟨8, (pv rI 0 (.ok P)), (pv rI 0 (pn rI (.ok P))), 0, 0, 0, 0, []⟩ → E = 0 ∧ M = ⟨8, (pv rI 0 (.ok P)), (pv rI 0 (pn rI (.ok P))), 0, 0, 0, 0, []⟩) ∧ (¬ (rdE (pn rI (pn rI (.ok P))) = 0 ∧ Rgt ⟨8, (pv rI 0 (.ok P)), (pv rI 0 (pn rI (.ok P))), 0, 0, 0, 0, []⟩) → E = 140 ∧ M = ms0)) := HX.out
  clear HX
  by_cases hz : rdE (pn rI (pn rI (.ok P))) = 0
  · have hzI : ((rdE (pn rI (pn rI (.ok P))) : Nat) : Int) = 0 := by omega
    have HZe : Hid (rdE _ = 0) := hz
    rw [hzI]
    clear hz hzI
    have y0 := HDe.out.mb.c 0 (by omega)
    have y1 := HDe.out.mb.c 1 (by omega)
    have y2 := HDe.out.mb.c 2 (by omega)
    have y3 := HDe.out.mb.c 3 (by omega)
    have y4 := HDe.out.mb.c 4 (by omega)
    have y5 := HDe.out.mb.c 5 (by omega)
    have y6 := HDe.out.mb.c 6 (by omega)
    have y7 := HDe.out.mb.c 7 (by omega)
    dsimp only [mf] at y0 y1 y2 y3 y4 y5 y6 y7
    go_wp2_with fail
    refine (refRight14 ⟨8, (pv rI 0 (.ok P)), (pv rI 0 (pn rI (.ok P))), 0, 0, 0, 0, []⟩ (.slice none 0 0) we (bs_nil14 _)).mono ?_
    rintro e wf ⟨B, rfl, hB, hbf⟩
    have HZ : Hid (Dst w.heap.size g 8 P (.slice ap np pp) (pn rI (pn rI (.ok P))) ⟨8, (pv rI 0 (.ok P)), (pv rI 0 (pn rI (.ok P))), 0, 0, 0, 0, []⟩ (.slice none 0 0) w wf) := HDe.out.later hbf
    clear y0 y1 y2 y3 y4 y5 y6 y7 HDe hbf
    cases B with
    | false =>
      have HE : Hid (E = 140 ∧ M = ms0) := HXa.out.2 (fun q => by have := hB.2 q.2; cases this)
      clear hB HXa HZe
      have z0 := HZ.out.rb.c 0 (by omega)
      have t0 := HZ.out.rb.f 0 (by omega)
      have z1 := HZ.out.rb.c 1 (by omega)
      have t1 := HZ.out.rb.f 1 (by omega)
      have z2 := HZ.out.rb.c 2 (by omega)
      have t2 := HZ.out.rb.f 2 (by omega)
      have z3 := HZ.out.rb.c 3 (by omega)
      have t3 := HZ.out.rb.f 3 (by omega)
      have z4 := HZ.out.rb.c 4 (by omega)
      have t4 := HZ.out.rb.f 4 (by omega)
      have z5 := HZ.out.rb.c 5 (by omega)
      have t5 := HZ.out.rb.f 5 (by omega)
      have z6 := HZ.out.rb.c 6 (by omega)
      have t6 := HZ.out.rb.f 6 (by omega)
      have z7 := HZ.out.rb.c 7 (by omega)
      have t7 := HZ.out.rb.f 7 (by omega)
      dsimp only [mf, ms0] at z0 z1 z2 z3 z4 z5 z6 z7
      go_wp2
      have HR := mf_put8 HZ.out.rb ms0 (.slice none 0 0)
      have HBl := below_put8 HZ.out.bl (Nat.le_refl _) (.int .i64 0) (.int .i64 0) (.int .i64 0) (.int .i64 0) (.int .i64 0) (.int .i64 0) (.int .i64 0) (.slice none 0 0)
      dsimp only [ms0] at HR
      clear z0 z1 z2 z3 z4 z5 z6 z7 t0 t1 t2 t3 t4 t5 t6 t7 HZ
      generalize World.setCell _ ⟨w.heap.size, 7, none⟩ (.slice none 0 0) = wZ at *
      have z0 := HR.c 0 (by omega)
      have z1 := HR.c 1 (by omega)
      have z2 := HR.c 2 (by omega)
      have z3 := HR.c 3 (by omega)
      have z4 := HR.c 4 (by omega)
      have z5 := HR.c 5 (by omega)
      have z6 := HR.c 6 (by omega)
      have z7 := HR.c 7 (by omega)
      dsimp only [mf] at z0 z1 z2 z3 z4 z5 z6 z7
      obtain ⟨rfl, rfl⟩ := HE.out
      exact bodyPost_ret (v := .tuple #[.agg #[.int .i64 0, .int .i64 0, .int .i64 0, .int .i64 0, .int .i64 0, .int .i64 0, .int .i64 0, .slice none 0 0], .int .i64 140]) (by simp [results, Tryd.results15, go_sem, z0, z1, z2, z3, z4, z5, z6, z7]) rfl ⟨.slice none 0 0, rfl, bs_nil14 _, ow_nil14 _, HBl⟩
    | true =>
      have HE : Hid (E = 0 ∧ M = ⟨8, (pv rI 0 (.ok P)), (pv rI 0 (pn rI (.ok P))), 0, 0, 0, 0, []⟩) := HXa.out.1 HZe.out (hB.1 rfl)
      clear hB HXa HZe
      have z0 := HZ.out.rb.c 0 (by omega)
      have t0 := HZ.out.rb.f 0 (by omega)
      have y0 := HZ.out.mb.c 0 (by omega)
      have z1 := HZ.out.rb.c 1 (by omega)
      have t1 := HZ.out.rb.f 1 (by omega)
      have y1 := HZ.out.mb.c 1 (by omega)
      have z2 := HZ.out.rb.c 2 (by omega)
      have t2 := HZ.out.rb.f 2 (by omega)
      have y2 := HZ.out.mb.c 2 (by omega)
      have z3 := HZ.out.rb.c 3 (by omega)
      have t3 := HZ.out.rb.f 3 (by omega)
      have y3 := HZ.out.mb.c 3 (by omega)
      have z4 := HZ.out.rb.c 4 (by omega)
      have t4 := HZ.out.rb.f 4 (by omega)
      have y4 := HZ.out.mb.c 4 (by omega)
      have z5 := HZ.out.rb.c 5 (by omega)
      have t5 := HZ.out.rb.f 5 (by omega)
      have y5 := HZ.out.mb.c 5 (by omega)
      have z6 := HZ.out.rb.c 6 (by omega)
      have t6 := HZ.out.rb.f 6 (by omega)
      have y6 := HZ.out.mb.c 6 (by omega)
      have z7 := HZ.out.rb.c 7 (by omega)
      have t7 := HZ.out.rb.f 7 (by omega)
      have y7 := HZ.out.mb.c 7 (by omega)
      dsimp only [mf, ms0] at z0 z1 z2 z3 z4 z5 z6 z7 y0 y1 y2 y3 y4 y5 y6 y7
      go_wp2
      have HR := mf_put8 HZ.out.rb ⟨8, (pv rI 0 (.ok P)), (pv rI 0 (pn rI (.ok P))), 0, 0, 0, 0, []⟩ (.slice none 0 0)
      have HBl := below_put8 HZ.out.bl (Nat.le_refl _) (.int .i64 8) (.int .i64 (pv rI 0 (.ok P))) (.int .i64 (pv rI 0 (pn rI (.ok P)))) (.int .i64 0) (.int .i64 0) (.int .i64 0) (.int .i64 0) (.slice none 0 0)
      dsimp only at HR
      clear z0 z1 z2 z3 z4 z5 z6 z7 t0 t1 t2 t3 t4 t5 t6 t7 y0 y1 y2 y3 y4 y5 y6 y7 HZ
      generalize World.setCell _ ⟨w.heap.size, 7, none⟩ (.slice none 0 0) = wZ at *
      have z0 := HR.c 0 (by omega)
      have z1 := HR.c 1 (by omega)
      have z2 := HR.c 2 (by omega)
      have z3 := HR.c 3 (by omega)
      have z4 := HR.c 4 (by omega)
      have z5 := HR.c 5 (by omega)
      have z6 := HR.c 6 (by omega)
      have z7 := HR.c 7 (by omega)
      dsimp only [mf] at z0 z1 z2 z3 z4 z5 z6 z7
      obtain ⟨rfl, rfl⟩ := HE.out
      exact bodyPost_ret (v := .tuple #[.agg #[.int .i64 8, .int .i64 (pv rI 0 (.ok P)), .int .i64 (pv rI 0 (pn rI (.ok P))), .int .i64 0, .int .i64 0, .int .i64 0, .int .i64 0, (.slice none 0 0)], .int .i64 0]) (by simp [results, Tryd.results15, go_sem, z0, z1, z2, z3, z4, z5, z6, z7]) rfl ⟨(.slice none 0 0), rfl, bs_nil14 _, ow_nil14 _, HBl⟩
  · have hzI : ¬ ((rdE (pn rI (pn rI (.ok P))) : Nat) : Int) = 0 := by omega
    have HE : Hid (E = 140 ∧ M = ms0) := HXa.out.2 (fun q => hz q.1)
    have HZ := HDe
    clear HDe HXa hz
    generalize rdE (pn rI (pn rI (.ok P))) = er at *
    have z0 := HZ.out.rb.c 0 (by omega)
    have t0 := HZ.out.rb.f 0 (by omega)
    have z1 := HZ.out.rb.c 1 (by omega)
    have t1 := HZ.out.rb.f 1 (by omega)
    have z2 := HZ.out.rb.c 2 (by omega)
    have t2 := HZ.out.rb.f 2 (by omega)
    have z3 := HZ.out.rb.c 3 (by omega)
    have t3 := HZ.out.rb.f 3 (by omega)
    have z4 := HZ.out.rb.c 4 (by omega)
    have t4 := HZ.out.rb.f 4 (by omega)
    have z5 := HZ.out.rb.c 5 (by omega)
    have t5 := HZ.out.rb.f 5 (by omega)
    have z6 := HZ.out.rb.c 6 (by omega)
    have t6 := HZ.out.rb.f 6 (by omega)
    have z7 := HZ.out.rb.c 7 (by omega)
    have t7 := HZ.out.rb.f 7 (by omega)
    dsimp only [mf, ms0] at z0 z1 z2 z3 z4 z5 z6 z7
    go_wp2
    have HR := mf_put8 HZ.out.rb ms0 (.slice none 0 0)
    have HBl := below_put8 HZ.out.bl (Nat.le_refl _) (.int .i64 0) (.int .i64 0) (.int .i64 0) (.int .i64 0) (.int .i64 0) (.int .i64 0) (.int .i64 0) (.slice none 0 0)
    dsimp only [ms0] at HR
    clear z0 z1 z2 z3 z4 z5 z6 z7 t0 t1 t2 t3 t4 t5 t6 t7 HZ
    generalize World.setCell _ ⟨w.heap.size, 7, none⟩ (.slice none 0 0) = wZ at *
    have z0 := HR.c 0 (by omega)
    have z1 := HR.c 1 (by omega)
    have z2 := HR.c 2 (by omega)
    have z3 := HR.c 3 (by omega)
    have z4 := HR.c 4 (by omega)
    have z5 := HR.c 5 (by omega)
    have z6 := HR.c 6 (by omega)
    have z7 := HR.c 7 (by omega)
    dsimp only [mf] at z0 z1 z2 z3 z4 z5 z6 z7
    obtain ⟨rfl, rfl⟩ := HE.out
    exact bodyPost_ret (v := .tuple #[.agg #[.int .i64 0, .int .i64 0, .int .i64 0, .int .i64 0, .int .i64 0, .int .i64 0, .int .i64 0, .slice none 0 0], .int .i64 140]) (by simp [results, Tryd.results15, go_sem, z0, z1, z2, z3, z4, z5, z6, z7]) rfl ⟨.slice none 0 0, rfl, bs_nil14 _, ow_nil14 _, HBl⟩
end Go.Proofs.YtfcbgkcclganmaaDoor
