/-
  The document's payload of any right message; its Encode; plain; Same (regattaref14, regattalaw14).
-/
import Derived.Test.YtfcbgkcclganmaaDoorMgRefD1
import Derived.Test.YtfcbgkcclganmaaDoorMgRefD2
import Derived.Test.YtfcbgkcclganmaaDoorMgRefD3
import Derived.Test.YtfcbgkcclganmaaDoorMgRefD4
import Derived.Test.YtfcbgkcclganmaaDoorMgRefD5
import Derived.Test.YtfcbgkcclganmaaDoorFrRefB
set_option linter.unusedVariables false
set_option linter.unusedSimpArgs false
namespace Go.Proofs.YtfcbgkcclganmaaDoor
open Go.RowKit

theorem refPayload14 (m : Ms) (v : Value) (w : World) (r : Rgt m) (h : Bs w v m.d) :
    Calls Tryd.prog 29 #[msV m v] w fun e w' => ∃ v', e = .returned v' ∧ Bs w' v' (pay m) ∧ Below w.heap.size w w' := by
  obtain ⟨ad, cap, rfl, h1, h2⟩ := h.len
  have k1 := r.k1
  have k8 := r.k8
  obtain ⟨k, fr, inc, rd, hh, pt, ps, d⟩ := m
  dsimp only at h1 k1 k8 h ⊢
  rcases kind8 (k := k) k1 k8 with rfl | rfl | rfl | rfl | rfl | rfl | rfl | rfl
  · exact refPayload1 fr inc rd hh pt ps d ad _ cap w rfl r h
  · exact refPayload2 fr inc rd hh pt ps d ad _ cap w rfl r h
  · exact refPayload3 fr inc rd hh pt ps d ad _ cap w rfl r h
  · exact refPayload4 fr inc rd hh pt ps d ad _ cap w rfl r h
  · exact refPayload5 fr inc rd hh pt ps d ad _ cap w rfl r h
  · exact refPayload6 fr inc rd hh pt ps d ad _ cap w rfl r h
  · exact refPayload7 fr inc rd hh pt ps d ad _ cap w rfl r h
  · exact refPayload8 fr inc rd hh pt ps d ad _ cap w rfl r h

set_option maxRecDepth 100000 in
set_option maxHeartbeats 4000000 in
/-- The document's Encode. -/
theorem refEncode14 (m : Ms) (v : Value) (w : World) (r : Rgt m) (hy : ∀ c ∈ m.d, c < 256) (h : Bs w v m.d) :
    Calls Tryd.prog 13 #[msV m v] w fun e w' => ∃ v', e = .returned v' ∧ Bs w' v' (fsl m.k.toNat (pay m)) ∧ Below w.heap.size w w' := by
  have HP : Hid (∀ W, Below w.heap.size w W → Calls Tryd.prog 29 #[msV m v] W fun e w' => ∃ v', e = .returned v' ∧ Bs w' v' (pay m) ∧ Below W.heap.size W w') := fun W hW => refPayload14 m v W r (h.later hW)
  have HL : Hid ((pay m).length ≤ 70000 ∧ ∀ c ∈ pay m, c < 256) := ⟨by have := pay_len r; omega, pay_byte hy⟩
  have k1 := r.k1
  have k8 := r.k8
  obtain ⟨K, hKk⟩ : ∃ K : Nat, m.k = (K : Int) := ⟨m.k.toNat, by omega⟩
  have HK : Hid (K < 256) := by show _ < _; omega
  obtain ⟨ad, cap, rfl, -, -⟩ := h.len
  clear r h hy k1 k8
  generalize hpy : pay m = S at *
  generalize m.d.length = n at *
  clear hpy
  have HM : Hid (msV m (.slice ad n cap) = .agg #[.int .i64 (K : Int), .int .i64 m.fr, .int .i64 m.inc, .int .i64 m.rd, .int .i64 m.h, .int .i64 m.pt, .int .i64 m.ps, .slice ad n cap]) := by show _ = _; unfold msV; rw [hKk]
  have e1 : m.k.toNat = K := by omega
  rw [e1, HM.out]
  rw [HM.out] at HP
  clear HM e1 hKk
  generalize m.fr = fr at *
  generalize m.inc = inc at *
  generalize m.rd = rd at *
  generalize m.h = h at *
  generalize m.pt = pt at *
  generalize m.ps = ps at *
  obtain ⟨wA, hwA⟩ : ∃ wA, wA = (w.alloc (.cells #[.int .i64 (K : Int), .int .i64 fr, .int .i64 inc, .int .i64 rd, .int .i64 h, .int .i64 pt, .int .i64 ps, .slice ad n cap] 26)) := ⟨_, rfl⟩
  have HA : Hid (B8 w.heap.size ⟨K, fr, inc, rd, h, pt, ps, []⟩ (.slice ad n cap) wA.drew ∧ Below w.heap.size w wA.drew) := by
    rw [hwA]
    refine ⟨B8.later (B8.new w ⟨K, fr, inc, rd, h, pt, ps, []⟩ _ _) (Below.refl _ _).drew, (bel1 _ _).drew⟩
  go_enter Tryd.func13, Tryd.ntmps13
  go_upto_region 1 with fail
  rw [← hwA]
  clear hwA
  refine wp_region_held_drew (S := B8 w.heap.size ⟨K, fr, inc, rd, h, pt, ps, []⟩ (.slice ad n cap)) (by kernel_rfl) HA.out.1 (fun HS => ?_)
  generalize wA.drew = q0 at *
  refine wpAnyH_take (i := 0) (v := ?v1) rfl (by kernel_rfl) (by kernel_rfl) (by kernel_rfl) (fun _ _ _ h => h) (Or.inl ⟨by kernel_rfl, ?h1⟩) HS ?r1
  case h1 => (rintro w ⟨n0, n1, n2, n3, n4, n5, n6, n7⟩; go_simp) <;> with_reducible rfl
  try simp only [Act.put, List.getElem_toArray, List.getElem_cons_succ, List.getElem_cons_zero, List.setIfInBounds_toArray, List.set_cons_zero, List.set_cons_succ]
  refine wpAnyH_take (i := 1) (v := ?v2) rfl (by kernel_rfl) (by kernel_rfl) (by kernel_rfl) (fun _ _ _ h => h) (Or.inl ⟨by kernel_rfl, ?h2⟩) HS ?r2
  case h2 => (rintro w ⟨n0, n1, n2, n3, n4, n5, n6, n7⟩; go_simp) <;> with_reducible rfl
  try simp only [Act.put, List.getElem_toArray, List.getElem_cons_succ, List.getElem_cons_zero, List.setIfInBounds_toArray, List.set_cons_zero, List.set_cons_succ]
  refine wpAnyH_take (i := 2) (v := ?v3) rfl (by kernel_rfl) (by kernel_rfl) (by kernel_rfl) (fun _ _ _ h => h) (Or.inl ⟨by kernel_rfl, ?h3⟩) HS ?r3
  case h3 => (rintro w ⟨n0, n1, n2, n3, n4, n5, n6, n7⟩; go_simp) <;> with_reducible rfl
  try simp only [Act.put, List.getElem_toArray, List.getElem_cons_succ, List.getElem_cons_zero, List.setIfInBounds_toArray, List.set_cons_zero, List.set_cons_succ]
  refine wpAnyH_ready (rs := [3]) (by kernel_rfl) (by simp) ?_
  refine AllReadyH.cons rfl (fun K hK => ?_) AllReadyH.nil
  go_simp
  refine (HP.out q0 HA.out.2).mono ?_
  rintro e q1 ⟨v1, rfl, hP1, hb1⟩
  obtain ⟨a1, p1, rfl, -, -⟩ := hP1.len
  have HB1 : Hid (Bs q1 (.slice a1 S.length p1) S ∧ Below w.heap.size w q1) := ⟨hP1, bchain HA.out.2 hb1⟩
  refine hK.out _ _ (HS.later hb1) (fun HS => ?_)
  clear hK hb1 HA HP hP1
  try simp only [Act.put, List.getElem_toArray, List.getElem_cons_succ, List.getElem_cons_zero, List.setIfInBounds_toArray, List.set_cons_zero, List.set_cons_succ]
  refine wpAnyH_ready (rs := [4]) (by kernel_rfl) (by simp) ?_
  refine AllReadyH.cons rfl (fun K hK => ?_) AllReadyH.nil
  go_simp
  refine (refSeal _ HK.out _ S HL.out.2 HL.out.1 q1 HB1.out.1).mono ?_
  rintro e q2 ⟨v2, rfl, hP2, hb2⟩
  obtain ⟨a2, p2, rfl, -, -⟩ := hP2.len
  have HB2 : Hid (Bs q2 (.slice a2 _ p2) (fsl _ S) ∧ Below w.heap.size w q2) := ⟨hP2, bchain HB1.out.2 hb2⟩
  refine hK.out _ _ (HS.later hb2) (fun HS => ?_)
  clear hK hb2 hP2 HB1
  try simp only [Act.put, List.getElem_toArray, List.getElem_cons_succ, List.getElem_cons_zero, List.setIfInBounds_toArray, List.set_cons_zero, List.set_cons_succ]
  refine wpAnyH_take (i := 5) (v := ?v4) rfl (by kernel_rfl) (by kernel_rfl) (by kernel_rfl) (fun _ _ _ h => h) (Or.inl ⟨by kernel_rfl, ?h4⟩) HS ?r4
  case h4 => (rintro w ⟨n0, n1, n2, n3, n4, n5, n6, n7⟩; go_simp) <;> with_reducible rfl
  try simp only [Act.put, List.getElem_toArray, List.getElem_cons_succ, List.getElem_cons_zero, List.setIfInBounds_toArray, List.set_cons_zero, List.set_cons_succ]
  refine wpAnyH_done (by kernel_rfl) ?_ _
  clear HS
  go_wp2
  go_ret
  exact ⟨_, rfl, HB2.out.1, HB2.out.2⟩
end Go.Proofs.YtfcbgkcclganmaaDoor
