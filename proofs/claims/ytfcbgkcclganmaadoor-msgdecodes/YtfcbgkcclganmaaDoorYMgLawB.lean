/-
  The laws of layer 14: MsgDecodes.
-/
import Derived.Test.YtfcbgkcclganmaaDoorZ14

set_option linter.unusedVariables false
set_option linter.unusedSimpArgs false
namespace Go.Proofs.YtfcbgkcclganmaaDoor
open Go.RowKit

set_option maxRecDepth 100000 in
set_option maxHeartbeats 8000000 in
theorem msgDecodes_any (V : Mg1) (v : Value) (l : List Nat) (hb : ∀ c ∈ l, c < 256) (w : World) (h : Bs w v l) (hT : FT w) :
    Calls Tryd.prog 4 #[v] w fun e w' => e = .returned (.bool true) ∧ Below w.heap.size w w' := by
  have HL : Hid (Bs w v l) := h
  have HY : Hid (∀ c ∈ l, c < 256) := hb
  have HT : Hid (FT w) := hT
  obtain ⟨ad, cap, rfl, k1, k2⟩ := h.len
  unfold maxLen at k2
  obtain ⟨n, hn⟩ : ∃ n, l.length = n := ⟨_, rfl⟩
  have HN : Hid (l.length = n) := hn
  rw [hn] at k1 HL ⊢
  clear h hn hb hT
  go_enter Tryd.func4, Tryd.ntmps4
  go_wp2_with fail
  refine (awake14 V w HT.out).mono ?_
  rintro e w1 ⟨rfl, hb1⟩
  have HB1 : Hid (Below w.heap.size w w1) := hb1
  clear hb1
  by_cases q1 : 2000 < n
  · have q1I : (2000 : Int) < (n : Int) := by omega
    go_wp2
    go_ret
    exact ⟨rfl, HB1.out⟩
  have q1I : ¬ (2000 : Int) < (n : Int) := by omega
  have HC : Hid (∀ W, Bs W (.slice ad n cap) l → Calls Tryd.prog 15 #[.slice ad n cap] W fun e w' => ∃ vd, e = .returned (.tuple #[msV (dcM l) vd, .int .i64 ((dcE l : Nat) : Int)]) ∧ Bs w' vd (dcM l).d ∧ Ow W.heap.size vd ∧ Below W.heap.size W w') := fun W hW => refDecode _ l HY.out (by have := HN.out; omega) W hW
  go_wp2_with fail
  refine (V.dec _ _ l (HL.out.later HB1.out) HY.out (by have := HN.out; omega) (HT.out.later HB1.out)).mono ?_
  rintro e w2 ⟨v2, rfl, hL2, -, hB2⟩
  generalize dcE l = E at *
  generalize dcM l = M at *
  obtain ⟨k, fr, inc, rd, hh, pt, ps, d⟩ := M
  unfold msV at HC ⊢
  dsimp only at HC hL2 ⊢
  obtain ⟨ad2, cap2, rfl, -, -⟩ := hL2.len
  obtain ⟨nd, hnd⟩ : ∃ nd, d.length = nd := ⟨_, rfl⟩
  rw [hnd] at hL2 ⊢
  obtain ⟨wB, hwB⟩ : ∃ wB, wB = w2.alloc (.cells #[.int .i64 k, .int .i64 fr, .int .i64 inc, .int .i64 rd, .int .i64 hh, .int .i64 pt, .int .i64 ps, .slice ad2 nd cap2] 24) := ⟨_, rfl⟩
  have HB2 : Hid (B8 w2.heap.size ⟨k, fr, inc, rd, hh, pt, ps, d⟩ (.slice ad2 nd cap2) wB ∧ Below w.heap.size w wB ∧ Bs wB (.slice ad2 nd cap2) d) := by
    rw [hwB]
    exact ⟨B8.new w2 ⟨k, fr, inc, rd, hh, pt, ps, d⟩ _ _, bchain (bchain HB1.out hB2) (bel1 _ _), hL2.later (bel1 _ _)⟩
  clear hL2 hB2 HB1
  go_upto_region 6 with fail
  rw [← hwB]
  clear hwB
  generalize hg : w2.heap.size = g at *
  clear hg w2
  go_wp2_with fail
  refine (HC.out wB (HL.out.later HB2.out.2.1)).mono ?_
  rintro e w3 ⟨v3, rfl, hL3, -, hB3⟩
  obtain ⟨ad3, cap3, rfl, -, -⟩ := hL3.len
  rw [hnd] at hL3 ⊢
  obtain ⟨wC, hwC⟩ : ∃ wC, wC = w3.alloc (.cells #[.int .i64 k, .int .i64 fr, .int .i64 inc, .int .i64 rd, .int .i64 hh, .int .i64 pt, .int .i64 ps, .slice ad3 nd cap3] 26) := ⟨_, rfl⟩
  have HB3 : Hid ((B8 g ⟨k, fr, inc, rd, hh, pt, ps, d⟩ (.slice ad2 nd cap2) wC.drew ∧ B8 w3.heap.size ⟨k, fr, inc, rd, hh, pt, ps, d⟩ (.slice ad3 nd cap3) wC.drew) ∧ Below w.heap.size w wC.drew ∧ Bs wC.drew (.slice ad2 nd cap2) d ∧ Bs wC.drew (.slice ad3 nd cap3) d) := by
    rw [hwC]
    have hb := fun o => bchain hB3 ((bel1 w3 o).drew)
    exact ⟨⟨HB2.out.1.later (hb _), (B8.new w3 ⟨k, fr, inc, rd, hh, pt, ps, d⟩ _ _).later (Below.refl _ _).drew⟩, bchain HB2.out.2.1 (hb _), HB2.out.2.2.later (hb _), hL3.later (bel1 _ _).drew⟩
  clear hL3 hB3 HB2 HC
  go_upto_region 7 with fail
  rw [← hwC]
  clear hwC
  generalize hg3 : w3.heap.size = g3 at *
  clear hg3 w3 hnd
  refine wp_region_held_drew (S := fun W => B8 g ⟨k, fr, inc, rd, hh, pt, ps, d⟩ (.slice ad2 nd cap2) W ∧ B8 g3 ⟨k, fr, inc, rd, hh, pt, ps, d⟩ (.slice ad3 nd cap3) W) (by kernel_rfl) HB3.out.1 (fun HS => ?_)
  generalize wC.drew = q0 at *
  refine wpAnyH_take (i := 0) (v := ?v1) rfl (by kernel_rfl) (by kernel_rfl) (by kernel_rfl) (fun _ _ _ h => h) (Or.inl ⟨by kernel_rfl, ?h1⟩) HS ?r1
  case h1 => (rintro w ⟨⟨n0, n1, n2, n3, n4, n5, n6, n7⟩, ⟨o0, o1, o2, o3, o4, o5, o6, o7⟩⟩; go_simp) <;> with_reducible rfl
  try simp only [Act.put, List.getElem_toArray, List.getElem_cons_succ, List.getElem_cons_zero, List.setIfInBounds_toArray, List.set_cons_zero, List.set_cons_succ]
  refine wpAnyH_take (i := 1) (v := ?v2) rfl (by kernel_rfl) (by kernel_rfl) (by kernel_rfl) (fun _ _ _ h => h) (Or.inl ⟨by kernel_rfl, ?h2⟩) HS ?r2
  case h2 => (rintro w ⟨⟨n0, n1, n2, n3, n4, n5, n6, n7⟩, ⟨o0, o1, o2, o3, o4, o5, o6, o7⟩⟩; go_simp) <;> with_reducible rfl
  try simp only [Act.put, List.getElem_toArray, List.getElem_cons_succ, List.getElem_cons_zero, List.setIfInBounds_toArray, List.set_cons_zero, List.set_cons_succ]
  refine wpAnyH_take (i := 2) (v := ?v3) rfl (by kernel_rfl) (by kernel_rfl) (by kernel_rfl) (fun _ _ _ h => h) (Or.inl ⟨by kernel_rfl, ?h3⟩) HS ?r3
  case h3 => (rintro w ⟨⟨n0, n1, n2, n3, n4, n5, n6, n7⟩, ⟨o0, o1, o2, o3, o4, o5, o6, o7⟩⟩; go_simp) <;> with_reducible rfl
  try simp only [Act.put, List.getElem_toArray, List.getElem_cons_succ, List.getElem_cons_zero, List.setIfInBounds_toArray, List.set_cons_zero, List.set_cons_succ]
  refine wpAnyH_take (i := 3) (v := ?v4) rfl (by kernel_rfl) (by kernel_rfl) (by kernel_rfl) (fun _ _ _ h => h) (Or.inl ⟨by kernel_rfl, ?h4⟩) HS ?r4
  case h4 => (rintro w ⟨⟨n0, n1, n2, n3, n4, n5, n6, n7⟩, ⟨o0, o1, o2, o3, o4, o5, o6, o7⟩⟩; go_simp) <;> with_reducible rfl
  try simp only [Act.put, List.getElem_toArray, List.getElem_cons_succ, List.getElem_cons_zero, List.setIfInBounds_toArray, List.set_cons_zero, List.set_cons_succ]
  refine wpAnyH_take (i := 4) (v := ?v5) rfl (by kernel_rfl) (by kernel_rfl) (by kernel_rfl) (fun _ _ _ h => h) (Or.inl ⟨by kernel_rfl, ?h5⟩) HS ?r5
  case h5 => (rintro w ⟨⟨n0, n1, n2, n3, n4, n5, n6, n7⟩, ⟨o0, o1, o2, o3, o4, o5, o6, o7⟩⟩; go_simp) <;> with_reducible rfl
  try simp only [Act.put, List.getElem_toArray, List.getElem_cons_succ, List.getElem_cons_zero, List.setIfInBounds_toArray, List.set_cons_zero, List.set_cons_succ]
  refine wpAnyH_take (i := 6) (v := ?v6) rfl (by kernel_rfl) (by kernel_rfl) (by kernel_rfl) (fun _ _ _ h => h) (Or.inl ⟨by kernel_rfl, ?h6⟩) HS ?r6
  case h6 => (rintro w ⟨⟨n0, n1, n2, n3, n4, n5, n6, n7⟩, ⟨o0, o1, o2, o3, o4, o5, o6, o7⟩⟩; go_simp) <;> with_reducible rfl
  try simp only [Act.put, List.getElem_toArray, List.getElem_cons_succ, List.getElem_cons_zero, List.setIfInBounds_toArray, List.set_cons_zero, List.set_cons_succ]
  refine wpAnyH_ready (rs := [5]) (by kernel_rfl) (by simp) ?_
  refine AllReadyH.cons rfl (fun K hK => ?_) AllReadyH.nil
  go_simp
  refine (plain14 ⟨k, fr, inc, rd, hh, pt, ps, d⟩ ad2 nd cap2 q0).mono ?_
  rintro e q1 ⟨rfl, hb1⟩
  have HB4 : Hid (Below w.heap.size w q1 ∧ Bs q1 (.slice ad2 nd cap2) d ∧ Bs q1 (.slice ad3 nd cap3) d) := ⟨bchain HB3.out.2.1 hb1, HB3.out.2.2.1.later hb1, HB3.out.2.2.2.later hb1⟩
  refine hK.out _ _ ⟨HS.1.later hb1, HS.2.later hb1⟩ (fun HS => ?_)
  clear hK K hb1 HB3
  try simp only [Act.put, List.getElem_toArray, List.getElem_cons_succ, List.getElem_cons_zero, List.setIfInBounds_toArray, List.set_cons_zero, List.set_cons_succ]
  refine wpAnyH_ready (rs := [7]) (by kernel_rfl) (by simp) ?_
  refine AllReadyH.cons rfl (fun K hK => ?_) AllReadyH.nil
  go_simp
  refine (same14 ⟨k, fr, inc, rd, hh, pt, ps, d⟩ _ _ q1 HB4.out.2.1 HB4.out.2.2).mono ?_
  rintro e q2 ⟨rfl, hb2⟩
  have HB5 : Hid (Below w.heap.size w q2) := bchain HB4.out.1 hb2
  refine hK.out _ _ ⟨HS.1.later hb2, HS.2.later hb2⟩ (fun HS => ?_)
  clear hK K hb2 HB4
  try simp only [Act.put, List.getElem_toArray, List.getElem_cons_succ, List.getElem_cons_zero, List.setIfInBounds_toArray, List.set_cons_zero, List.set_cons_succ]
  refine wpAnyH_take (i := 8) (v := ?v7) rfl (by kernel_rfl) (by kernel_rfl) (by kernel_rfl) (fun _ _ _ h => h) (Or.inl ⟨by kernel_rfl, ?h7⟩) HS ?r7
  case h7 => (rintro w ⟨⟨n0, n1, n2, n3, n4, n5, n6, n7⟩, ⟨o0, o1, o2, o3, o4, o5, o6, o7⟩⟩; go_simp) <;> with_reducible rfl
  try simp only [Act.put, List.getElem_toArray, List.getElem_cons_succ, List.getElem_cons_zero, List.setIfInBounds_toArray, List.set_cons_zero, List.set_cons_succ]
  refine wpAnyH_take (i := 9) (v := ?v8) rfl (by kernel_rfl) (by kernel_rfl) (by kernel_rfl) (fun _ _ _ h => h) (Or.inl ⟨by kernel_rfl, ?h8⟩) HS ?r8
  case h8 => (rintro w ⟨⟨n0, n1, n2, n3, n4, n5, n6, n7⟩, ⟨o0, o1, o2, o3, o4, o5, o6, o7⟩⟩; go_simp) <;> with_reducible rfl
  try simp only [Act.put, List.getElem_toArray, List.getElem_cons_succ, List.getElem_cons_zero, List.setIfInBounds_toArray, List.set_cons_zero, List.set_cons_succ]
  refine wpAnyH_done (by kernel_rfl) ?_ _
  clear HS
  go_wp2
  go_ret
  exact ⟨rfl, HB5.out⟩
end Go.Proofs.YtfcbgkcclganmaaDoor
