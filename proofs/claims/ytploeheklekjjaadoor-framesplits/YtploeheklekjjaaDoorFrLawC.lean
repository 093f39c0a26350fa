/-
  The law FrameSplits.
-/
import Derived.Test.YtploeheklekjjaaDoorFrRefC
import Derived.Test.YtploeheklekjjaaDoorFrDefs3
set_option linter.unusedVariables false
set_option linter.unusedSimpArgs false
namespace Go.Proofs.YtploeheklekjjaaDoor
open Go.RowKit

/-- What the region of FrameSplits reads. -/
structure Rd4 (b : Nat) (u v : Value) (c o : Nat) (x y : Value) (w : World) : Prop where
  c0 : w.cell? ⟨b, 0, none⟩ = some u
  c1 : w.cell? ⟨b, 1, none⟩ = some v
  d0 : w.cell? ⟨c, o, none⟩ = some x
  d1 : w.cell? ⟨c, o + 1, none⟩ = some y
theorem Rd4.later {b : Nat} {u v : Value} {c o : Nat} {x y : Value} {w w' : World} (h : Rd4 b u v c o x y w) (k : Below w.heap.size w w') : Rd4 b u v c o x y w' := ⟨cell_later k h.c0, cell_later k h.c1, cell_later k h.d0, cell_later k h.d1⟩
set_option maxRecDepth 100000 in
set_option maxHeartbeats 8000000 in
theorem frameSplits_any (V : Fr1) (V2 : Fr2) (v : Value) (l : List Nat) (hb : ∀ c ∈ l, c < 256) (w : World) (h : Bs w v l) (hT : FT w) :
    Calls Tryd.prog 5 #[v] w fun e w' => e = .returned (.bool true) ∧ Below w.heap.size w w' := by
  have HL : Hid (Bs w v l) := h
  have HY : Hid (∀ c ∈ l, c < 256) := hb
  have HT : Hid (FT w) := hT
  obtain ⟨ad, cap, rfl, k1, k2⟩ := h.len
  unfold maxLen at k2
  obtain ⟨n, hn⟩ : ∃ n, l.length = n := ⟨_, rfl⟩
  have HN : Hid (l.length = n) := hn
  rw [hn] at k1 HL ⊢
  clear h hn hb hT
  go_enter Tryd.func5, Tryd.ntmps5
  go_wp2_with fail
  refine (awake13 V w HT.out).mono ?_
  rintro e w1 ⟨rfl, hb1⟩
  have HB1 : Hid (Below w.heap.size w w1) := hb1
  clear hb1
  by_cases q1 : 2000 < n
  · have q1I : (2000 : Int) < (n : Int) := by omega
    go_wp2
    go_ret
    exact ⟨rfl, HB1.out⟩
  have q1I : ¬ (2000 : Int) < (n : Int) := by omega
  go_wp2_with fail
  refine (V2.split _ _ l (HL.out.later HB1.out) HY.out (by have := HN.out; omega) (HT.out.later HB1.out)).mono ?_
  rintro e w2 ⟨v2, rfl, hF2, hB2⟩
  have HF2 : Hid (Frs w2 v2 (spl l).1 ∧ Below w.heap.size w w2) := ⟨hF2, bchain HB1.out hB2⟩
  obtain ⟨ad2, cap2, rfl, q2, q3⟩ := hF2.len
  clear hF2 hB2 HB1
  have HC : Hid (∀ W, Bs W (.slice ad n cap) l → Calls Tryd.prog 17 #[.slice ad n cap] W fun e w' => ∃ v', e = .returned (.tuple #[v', .int .i64 (((spl l).2.1 : Nat) : Int), .int .i64 (((spl l).2.2 : Nat) : Int)]) ∧ Frs w' v' (spl l).1 ∧ Below W.heap.size W w') := fun W hW => refSplit _ l HY.out (by have := HN.out; omega) W hW
  generalize (spl l).2.1 = P at *
  generalize (spl l).2.2 = E at *
  generalize (spl l).1 = fs at *
  obtain ⟨Kn, hKn⟩ : ∃ Kn, fs.length = Kn := ⟨_, rfl⟩
  have HKn : Hid (fs.length = Kn) := hKn
  rw [hKn] at HF2 q2 ⊢
  clear hKn
  unfold maxLen at q3
  go_wp2_with fail
  refine (HC.out _ (HL.out.later HF2.out.2)).mono ?_
  rintro e w3 ⟨v3, rfl, hF3, hB3⟩
  have HF3 : Hid (Frs w3 (.slice ad2 Kn cap2) fs ∧ Frs w3 v3 fs ∧ Below w.heap.size w w3) := ⟨HF2.out.1.later hB3, hF3, bchain HF2.out.2 hB3⟩
  obtain ⟨ad3, cap3, rfl, q4, q5⟩ := hF3.len
  have hKn := HKn.out
  rw [hKn] at HF3 q4 ⊢
  unfold maxLen at q5
  clear hF3 hB3 HF2 HC hKn
  have e1 : ((Kn : Int) != (Kn : Int)) = false := neF rfl
  have e2 : ((P : Int) != (P : Int)) = false := neF rfl
  have e3 : ((E : Int) != (E : Int)) = false := neF rfl
  go_upto_region 10 with fail
  clear e1 e2 e3
  go_loopw [45] (fun s45 wr => ∃ j : Nat, j ≤ Kn ∧ s45 = .int .i64 (j : Int) ∧ Hid (Below w3.heap.size w3 wr)) (fun s45 _ => Kn - (intOf s45).toNat)
  case atStart => exact ⟨0, by omega, rfl, Below.refl _ _⟩
  case round =>
    obtain ⟨j, hj, rfl, HB⟩ := hrel
    by_cases hlt : j < Kn
    · have hjI : (j : Int) < (Kn : Int) := by omega
      have hKn := HKn.out
      obtain ⟨b2, o2, vp, rfl, c0, c1, hp⟩ := HF3.out.1.cel j (by omega)
      obtain ⟨b3, o3, vq, rfl, d0, d1, hq⟩ := HF3.out.2.1.cel j (by omega)
      obtain ⟨ap, pp, rfl, -, -⟩ := hp.len
      obtain ⟨aq, pq, rfl, -, -⟩ := hq.len
      generalize (fs.getD j fr0).1 = kk at *
      generalize (fs.getD j fr0).2 = pl at *
      have x0 := cell_later HB.out c0
      have x1 := cell_later HB.out c1
      have y0 := cell_later HB.out d0
      have y1 := cell_later HB.out d1
      have HP : Hid (Bs wr (.slice ap pl.length pp) pl ∧ Bs wr (.slice aq pl.length pq) pl) := ⟨hp.later HB.out, hq.later HB.out⟩
      clear c0 c1 d0 d1 hp hq hKn
      have HRd : Hid (Rd4 wr.heap.size (.int .i64 (kk : Int)) (.slice ap pl.length pp) b3 (o3 + j * 2) (.int .i64 (kk : Int)) (.slice aq pl.length pq) (wr.alloc (.cells #[.int .i64 (kk : Int), .slice ap pl.length pp] 31)).drew) := ⟨by simp [go_sem], by simp [go_sem], cell_later (bel1 _ _).drew y0, cell_later (bel1 _ _).drew y1⟩
      have HPd : Hid (Bs (wr.alloc (.cells #[.int .i64 (kk : Int), .slice ap pl.length pp] 31)).drew (.slice ap pl.length pp) pl ∧ Bs (wr.alloc (.cells #[.int .i64 (kk : Int), .slice ap pl.length pp] 31)).drew (.slice aq pl.length pq) pl ∧ Below w3.heap.size w3 (wr.alloc (.cells #[.int .i64 (kk : Int), .slice ap pl.length pp] 31)).drew) := ⟨HP.out.1.later (bel1 _ _).drew, HP.out.2.later (bel1 _ _).drew, (HB.out.alloc HB.out.size _).drew⟩
      go_upto_region 12 with fail
      refine wp_region_held_drew (S := Rd4 wr.heap.size (.int .i64 (kk : Int)) (.slice ap pl.length pp) b3 (o3 + j * 2) (.int .i64 (kk : Int)) (.slice aq pl.length pq)) (by kernel_rfl) HRd.out (fun HS => ?_)
      clear x0 x1 y0 y1 HP HRd
      generalize (wr.alloc (.cells #[.int .i64 (kk : Int), .slice ap pl.length pp] 31)).drew = q0 at *
      refine wpAnyH_take (i := 0) (v := ?v21) rfl (by kernel_rfl) (by kernel_rfl) (by kernel_rfl) (fun _ _ _ h => h) (Or.inl ⟨by kernel_rfl, ?h21⟩) HS ?r21
      case h21 => (rintro w ⟨n0, n1, n2, n3⟩; go_simp) <;> with_reducible rfl
      try simp only [Act.put, List.getElem_toArray, List.getElem_cons_succ, List.getElem_cons_zero, List.setIfInBounds_toArray, List.set_cons_zero, List.set_cons_succ]
      refine wpAnyH_take (i := 1) (v := ?v22) rfl (by kernel_rfl) (by kernel_rfl) (by kernel_rfl) (fun _ _ _ h => h) (Or.inl ⟨by kernel_rfl, ?h22⟩) HS ?r22
      case h22 => (rintro w ⟨n0, n1, n2, n3⟩; go_simp) <;> with_reducible rfl
      try simp only [Act.put, List.getElem_toArray, List.getElem_cons_succ, List.getElem_cons_zero, List.setIfInBounds_toArray, List.set_cons_zero, List.set_cons_succ]
      refine wpAnyH_take (i := 2) (v := ?v23) rfl (by kernel_rfl) (by kernel_rfl) (by kernel_rfl) (fun _ _ _ h => h) (Or.inl ⟨by kernel_rfl, ?h23⟩) HS ?r23
      case h23 => (rintro w ⟨n0, n1, n2, n3⟩; go_simp) <;> with_reducible rfl
      try simp only [Act.put, List.getElem_toArray, List.getElem_cons_succ, List.getElem_cons_zero, List.setIfInBounds_toArray, List.set_cons_zero, List.set_cons_succ]
      refine wpAnyH_take (i := 3) (v := ?v24) rfl (by kernel_rfl) (by kernel_rfl) (by kernel_rfl) (fun _ _ _ h => h) (Or.inl ⟨by kernel_rfl, ?h24⟩) HS ?r24
      case h24 => (rintro w ⟨n0, n1, n2, n3⟩; go_simp) <;> with_reducible rfl
      try simp only [Act.put, List.getElem_toArray, List.getElem_cons_succ, List.getElem_cons_zero, List.setIfInBounds_toArray, List.set_cons_zero, List.set_cons_succ]
      refine wpAnyH_take (i := 4) (v := ?v25) rfl (by kernel_rfl) (by kernel_rfl) (by kernel_rfl) (fun _ _ _ h => h) (Or.inl ⟨by kernel_rfl, ?h25⟩) HS ?r25
      case h25 => (rintro w ⟨n0, n1, n2, n3⟩; go_simp) <;> with_reducible rfl
      try simp only [Act.put, List.getElem_toArray, List.getElem_cons_succ, List.getElem_cons_zero, List.setIfInBounds_toArray, List.set_cons_zero, List.set_cons_succ]
      refine wpAnyH_ready (rs := [5]) (by kernel_rfl) (by simp) ?_
      refine AllReadyH.cons rfl (fun K hK => ?_) AllReadyH.nil
      go_simp
      refine (like13 (kk : Int) _ _ pl _ HPd.out.1 HPd.out.2.1).mono ?_
      rintro e q1 ⟨rfl, hb4⟩
      have HB4 : Hid (Below w3.heap.size w3 q1) := bchain HPd.out.2.2 hb4
      refine hK.out _ _ (HS.later hb4) (fun HS => ?_)
      clear hK K hb4 HPd
      try simp only [Act.put, List.getElem_toArray, List.getElem_cons_succ, List.getElem_cons_zero, List.setIfInBounds_toArray, List.set_cons_zero, List.set_cons_succ]
      refine wpAnyH_take (i := 6) (v := ?v26) rfl (by kernel_rfl) (by kernel_rfl) (by kernel_rfl) (fun _ _ _ h => h) (Or.inl ⟨by kernel_rfl, ?h26⟩) HS ?r26
      case h26 => (rintro w ⟨n0, n1, n2, n3⟩; go_simp) <;> with_reducible rfl
      try simp only [Act.put, List.getElem_toArray, List.getElem_cons_succ, List.getElem_cons_zero, List.setIfInBounds_toArray, List.set_cons_zero, List.set_cons_succ]
      refine wpAnyH_done (by kernel_rfl) ?_ _
      clear HS
      go_wp2
      go_roundw
      case rel => exact ⟨j + 1, by omega, by go_num, HB4⟩
      case measure => simp [intOf]; omega
    · obtain rfl : j = Kn := by omega
      have hjI : ¬ (j : Int) < (j : Int) := by omega
      have HB5 : Hid (Below w.heap.size w wr) := bchain HF3.out.2.2 HB.out
      go_wp2
      go_ret
      exact ⟨rfl, HB5.out⟩
end Go.Proofs.YtploeheklekjjaaDoor
