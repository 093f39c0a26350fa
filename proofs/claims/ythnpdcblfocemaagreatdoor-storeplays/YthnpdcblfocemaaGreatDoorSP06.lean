/-
  Texts of this proof, joined: DkRefC DkRefD.
-/
import Derived.Test.YthnpdcblfocemaaGreatDoorSP05
set_option linter.unusedVariables false
set_option linter.unusedSimpArgs false
namespace Go.Proofs.YthnpdcblfocemaaGreatDoor
open Go.RowKit

theorem Rd5.addB {w w1 w2 : World} {b : Nat} {vB vU vB' x : Value} {cs ds : List Value} {F : Nat → Prop} {s : Dsk} (h : Rd5 w b vB vU cs ds F s) (k1 : Below w.heap.size w w1) (t : List Nat) (hx : Bs w1 x t) (hO : Ow w.heap.size x) (ht : okb t) (o : Obj)
    (hown : w2.ownsRow 0 30 1 vB' (s.bl.length + 1) (cs ++ [x])) (hg : (w1.alloc o).grownBy w2 vB.ownBlock) (hat : vB'.ownBlock = vB.ownBlock ∨ vB'.ownBlock = some (w1.alloc o).heap.size) :
    Rd5 (w2.setCell ⟨b, 0, none⟩ vB') b vB' vU (cs ++ [x]) ds (fun k => F k ∨ (w.heap.size ≤ k ∧ k < w2.heap.size)) { s with bl := s.bl ++ [t] } ∧ Kp F w (w2.setCell ⟨b, 0, none⟩ vB') := by
  have hs1 := k1.size
  have hs2 := hg.size
  rw [World.size_alloc] at hs2
  have hbl := h.lt b h.fb
  have hol : ∀ g, vB.ownBlock = some g → g < w.heap.size := fun g q => (h.rB.lt g q).2
  have hul : ∀ g, vU.ownBlock = some g → g < w.heap.size := fun g q => (h.rU.lt g q).2
  have hnl : ∀ g, vB'.ownBlock = some g → g < w2.heap.size := fun g q => (hown.lt g q).2
  have hnew : ∀ g, vB'.ownBlock = some g → vB.ownBlock = some g ∨ w1.heap.size < g := fun g q => by
    rcases hat with e | e
    · exact Or.inl (e.symm.trans q)
    · rw [e, World.size_alloc] at q
      have := Option.some.inj q
      exact Or.inr (by omega)
  have k2 : ∀ k, k < w1.heap.size → vB.ownBlock ≠ some k → w2.heap[k]? = w1.heap[k]? := fun k hk hn => by
    rw [hg.block k (by rw [World.size_alloc]; omega) (fun e => hn e.symm), Below.heap_alloc _ _ _ hk]
  have k3 : ∀ k, k < w.heap.size → vB.ownBlock ≠ some k → w2.heap[k]? = w.heap[k]? := fun k hk hn => (k2 k (by omega) hn).trans (k1.block k hk)
  have hub : vB.ownBlock ≠ some b := fun e => (h.gB b e).2 rfl
  have hub' : vB'.ownBlock ≠ some b := fun e => by
    rcases hnew b e with q | q
    · exact hub q
    · omega
  have c0 := cell_blk5 (a := ⟨b, 0, none⟩) (k3 b hbl hub) h.c0
  have c1 := cell_blk5 (a := ⟨b, 1, none⟩) (k3 b hbl hub) h.c1
  have c2 := cell_blk5 (a := ⟨b, 2, none⟩) (k3 b hbl hub) h.c2
  have c3 := cell_blk5 (a := ⟨b, 3, none⟩) (k3 b hbl hub) h.c3
  have c4 := cell_blk5 (a := ⟨b, 4, none⟩) (k3 b hbl hub) h.c4
  have told : ∀ (y : Value) (l : List Nat), Tq w F b vB vU y l → Tq (w2.setCell ⟨b, 0, none⟩ vB') (fun k => F k ∨ (w.heap.size ≤ k ∧ k < w2.heap.size)) b vB' vU y l := fun y l ty => by
    refine ⟨bs_blk ty.1 (fun a n c e hn => ?_), fun a n c e hn => ?_⟩
    · obtain ⟨q1, q2, q3, q4⟩ := ty.2 a n c e hn
      exact (out5 q2).trans (k3 _ (h.lt _ q1) q3)
    · obtain ⟨q1, q2, q3, q4⟩ := ty.2 a n c e hn
      refine ⟨Or.inl q1, q2, fun e2 => ?_, q4⟩
      have := h.lt _ q1
      rcases hnew _ e2 with q | q
      · exact q3 q
      · omega
  have tnew : Tq (w2.setCell ⟨b, 0, none⟩ vB') (fun k => F k ∨ (w.heap.size ≤ k ∧ k < w2.heap.size)) b vB' vU x t := by
    have hlo := Ls.lo hx
    refine ⟨bs_blk hx (fun a n c e hn => ?_), fun a n c e hn => ?_⟩
    · have q1 := hO a n c e hn
      have q2 := hlo a n c e hn
      exact (out5 (by omega)).trans (k2 _ q2 (fun e2 => by have := hol _ e2; omega))
    · have q1 := hO a n c e hn
      have q2 := hlo a n c e hn
      refine ⟨Or.inr ⟨q1, by omega⟩, by omega, fun e2 => ?_, fun e2 => by have := hul _ e2; omega⟩
      rcases hnew _ e2 with q | q
      · have := hol _ q; omega
      · omega
  have hdl : cs.length = s.bl.length := by have := h.rB.1; omega
  have hll : (s.bl ++ [t]).length = s.bl.length + 1 := by rw [List.length_append]; rfl
  refine ⟨⟨⟨fun c hc => ?_, fun u hu => ?_⟩, fun k hk => ?_, Or.inl h.fb, same5 c0, far5 c1 (by omega), far5 c2 (by omega), far5 c3 (by omega), far5 c4 (by omega), fun j hj => ?_, ?_, ?_, fun g hg' => ?_, fun g hg' => ⟨Or.inl (h.gU g hg').1, (h.gU g hg').2⟩, fun g hg' e => ?_, fun j hj => ?_, fun j hj => ?_⟩, ?_⟩
  · rcases List.mem_append.1 hc with q | q
    · exact h.ok.bl c q
    · obtain rfl : c = t := by simpa using q
      exact ht
  · have := h.ok.un u hu
    exact ⟨by show u.1 < (s.bl ++ [t]).length; omega, this.2⟩
  · rw [World.size_setCell]
    rcases hk with q | q
    · have := h.lt k q; omega
    · exact q.2
  · rw [World.frozen?_setCell]
    exact frz_blk5 (a := ⟨b, j, none⟩) (k3 b hbl hub) (h.f0 j hj)
  · show World.ownsRow _ _ _ _ _ (s.bl ++ [t]).length _
    rw [hll]
    exact own_block16 hown (fun g hg' => out5 (fun e => hub' (by rw [← e]; exact hg')))
  · exact own_block16 h.rU (fun g hg' => (out5 (h.gU g hg').2).trans (k3 g (hul g hg') (fun e => h.gBU g e hg')))
  · rcases hnew g hg' with q | q
    · exact ⟨Or.inl (h.gB g q).1, (h.gB g q).2⟩
    · exact ⟨Or.inr ⟨by omega, hnl g hg'⟩, by omega⟩
  · rcases hnew g hg' with q | q
    · exact h.gBU g q e
    · have := hul g e; omega
  · have hj2 : j < s.bl.length + 1 := by rw [← hll]; exact hj
    show ∃ x_1, (cs ++ [x])[j]? = some x_1 ∧ Tq _ _ b vB' vU x_1 ((s.bl ++ [t]).getD j [])
    rcases Nat.lt_or_ge j s.bl.length with q | q
    · obtain ⟨y, e1, ty⟩ := h.tB j q
      have e3 : (s.bl ++ [t]).getD j [] = s.bl.getD j [] := by simp [List.getD, List.getElem?_append, q]
      rw [e3, List.getElem?_append_left (by omega)]
      exact ⟨y, e1, told y _ ty⟩
    · obtain rfl : j = s.bl.length := by omega
      have e3 : (s.bl ++ [t]).getD s.bl.length [] = t := by simp [List.getD]
      rw [e3, List.getElem?_append_right (by omega), hdl, Nat.sub_self]
      exact ⟨x, rfl, tnew⟩
  · obtain ⟨y, e1, e2, ty⟩ := h.tU j hj
    exact ⟨y, e1, e2, told y _ ty⟩
  · refine ⟨?_, ?_, ?_, by rw [World.size_setCell]; omega, fun k hk hn => ?_⟩
    · exact (hg.os.trans (by rfl)).trans k1.os
    · exact (hg.tape.trans (by rfl)).trans k1.tape
    · exact (hg.output.trans (by rfl)).trans k1.output
    · exact (out5 (fun e => hn (by rw [e]; exact h.fb))).trans (k3 k hk (fun e => hn (h.gB k e).1))
theorem dinfo_tx : (Tryz.prog.info? 30).map (fun i => (i.zero, i.size, i.bytes)) = some (some (.slice none 0 0), 1, 24) := by kernel_rfl
theorem apBl_op {o : Oper} {a : Act} {w w1 : World} {K : Act → World → Prop} {Q : Exit → Act → World → Prop} (s x : Operand)
    (ho : o.op = .call { callee := .builtin .append, args := #[s, x], argTypes := #[31, 31] })
    {b : Nat} {vB vU : Value} {cs ds : List Value} {F : Nat → Prop} {st : Dsk} (hR : Rd5 w b vB vU cs ds F st) (hs : a.eval s = vB) (k1 : Below w.heap.size w w1) (ad : Option Addr) (n cap : Nat) (t : List Nat) (hx : Bs w1 (.slice ad n cap) t) (hO : Ow w.heap.size (.slice ad n cap)) (ht : okb t) (ty : TypeId) (hv : a.eval x = .slice (some ⟨w1.heap.size, 0, none⟩) 1 1) (hlen : st.bl.length ≤ 100000)
    (h : ∀ (vB' : Value) (w2 : World), (∃ ad' cap', vB' = .slice ad' (st.bl.length + 1) cap') → w2.cell? ⟨b, 0, none⟩ = some vB → w2.frozen? ⟨b, 0, none⟩ = false →
      Rd5 (w2.setCell ⟨b, 0, none⟩ vB') b vB' vU (cs ++ [.slice ad n cap]) ds (fun k => F k ∨ (w.heap.size ≤ k ∧ k < w2.heap.size)) { st with bl := st.bl ++ [t] } → Kp F w (w2.setCell ⟨b, 0, none⟩ vB') → K (a.put o.dst vB') w2) : o.wp Tryz.prog a (w1.alloc (.cells #[.slice ad n cap] ty)) K Q := by
  obtain ⟨i0, hti, hy0, hy1, hy2⟩ := info_parts dinfo_tx
  obtain ⟨v', w2, hr, h2, h3, h4, h5⟩ := run_append_own_at (P := Tryz.prog) (w1.alloc (.cells #[.slice ad n cap] ty)) 0 31 o.type 30 i0 (.slice none 0 0) 1 24 Tryz.underlying31 hti hy0 hy1 hy2 rfl (by decide) vB st.bl.length cs (own_later (own_later hR.rB k1) (bel1 _ _)) ⟨w1.heap.size, 0, none⟩ 1 1 [.slice ad n cap] rfl
    (fun j u hj => by
      rcases j with _ | j
      · simp at hj; subst hj; simp [go_sem, Addr.add]
      · simp at hj)
    (fun u hu => by simp only [List.mem_cons, List.not_mem_nil, or_false] at hu; rcases hu with rfl; rfl) (by unfold maxLen; omega) (by omega) (Nat.zero_le _)
  obtain ⟨r1, r2⟩ := hR.addB k1 t hx hO ht _ h2 h3 h5
  have hub : vB.ownBlock ≠ some b := fun e => (hR.gB b e).2 rfl
  have hbl := hR.lt b hR.fb
  have hbk : w2.heap[b]? = w.heap[b]? := by
    rw [h3.block b (by rw [World.size_alloc]; have := k1.size; omega) (fun e => hub e.symm), Below.heap_alloc _ _ _ (by have := k1.size; omega), k1.block b hbl]
  unfold Oper.wp execOp
  simp only [ho, resolve, invoke, builtin, Sem.run_bind, Sem.run_pure, Result.andThen_ok, List.map_toArray, List.map_cons, List.map_nil, hs, hv, hr]
  exact h v' w2 (own_sl h2) (cell_blk5 (a := ⟨b, 0, none⟩) hbk hR.c0) (frz_blk5 (a := ⟨b, 0, none⟩) hbk (hR.f0 0 (by omega))) r1 r2
def dBare (j : Nat) : Dsk := ⟨List.replicate j (List.replicate 128 0), [], false, 0, false⟩
theorem dBare_more (j : Nat) : { dBare j with bl := (dBare j).bl ++ [List.replicate 128 0] } = dBare (j + 1) := by
  have e := (List.replicate_succ' (n := j) (a := List.replicate 128 0)).symm
  show Dsk.mk (List.replicate j (List.replicate 128 0) ++ [List.replicate 128 0]) [] false 0 false = Dsk.mk (List.replicate (j + 1) (List.replicate 128 0)) [] false 0 false
  rw [e]
theorem bs_made15 (w : World) (n : Nat) (hn : n ≤ 2000000) : Bs (w.alloc (.cells (madeCells #[.int .u8 0] n) 5)) (.slice (some ⟨w.heap.size, 0, none⟩) n n) (List.replicate n 0) := by
  have hr := Rw.made w (.int .u8 0) n 5
  refine ⟨_, n, w.heap.size, 0, by rw [List.length_replicate], by rw [List.length_replicate]; exact Nat.le_refl _, ⟨by unfold maxLen; omega, fun e => by cases e⟩, fun _ => rfl, fun k hk => ?_⟩
  rw [List.length_replicate] at hk
  rw [Nat.zero_add, hr.c k hk]
  simp [b8f, List.getD, hk]
theorem rd5_new (w : World) (t : TypeId) : Rd5 (w.alloc (.cells #[.slice none 0 0, .slice none 0 0, .bool false, .int .i64 0, .bool false] t)) w.heap.size (.slice none 0 0) (.slice none 0 0) [] [] (fun k => k = w.heap.size) (dBare 0) := by
  refine ⟨⟨fun c hc => (by cases hc), fun u hu => (by cases hu)⟩, fun k hk => by rw [World.size_alloc]; omega, rfl, by simp [go_sem], by simp [go_sem], by simp [go_sem, dBare], by simp [go_sem, dBare], by simp [go_sem, dBare], fun k hk => by simp [go_sem], World.ownsRow_nil _ _ _ _, World.ownsRow_nil _ _ _ _, fun g hg => (by cases hg), fun g hg => (by cases hg), fun g hg => (by cases hg), fun k hk => by simp [dBare] at hk, fun k hk => by simp [dBare] at hk⟩
set_option maxRecDepth 100000 in
set_option maxHeartbeats 8000000 in
theorem refNew (w : World) (n : Nat) (hn : n ≤ 20000) :
    Calls Tryz.prog 9 #[.int .i64 (n : Int)] w fun e w' => ∃ p F, e = .returned p ∧ RD w' p F (dNew n) ∧ (∀ k, F k → w.heap.size ≤ k) ∧ Below w.heap.size w w' := by
  have hmk : ∀ W : World, (Instr.makeSlice 30 (.int .i64 128) (.int .i64 128)).run Tryz.prog W = .ok (.slice (some ⟨W.heap.size, 0, none⟩) 128 128) (W.alloc (.cells (madeCells #[.int .u8 0] 128) 5)) := fun W => make_by15 128 (by omega) W
  go_enter Tryz.func9, Tryz.ntmps9
  go_upto_region 3 with fail
  go_loopw [4] (fun s4 wr => ∃ (j : Nat), j ≤ n ∧ s4 = .int .i64 (j : Int) ∧ Hid (∃ (vB : Value) (cs : List Value) (F : Nat → Prop), Rd5 wr w.heap.size vB (.slice none 0 0) cs [] F (dBare j) ∧ (∀ k, F k → w.heap.size ≤ k) ∧ Below w.heap.size w wr)) (fun s4 _ => n - (intOf s4).toNat)
  case atStart => exact ⟨0, by omega, rfl, _, _, _, rd5_new w _, fun k hk => by omega, bel1 _ _⟩
  case round =>
    obtain ⟨j, hj, rfl, HW⟩ := hrel
    by_cases hlt : j < n
    · have hjI : (j : Int) < (n : Int) := by omega
      obtain ⟨vB, cs, F, hR, hF, hB⟩ := HW.out
      obtain ⟨aB, pB, rfl⟩ := hR.sB
      have hbl : (dBare j).bl.length = j := List.length_replicate
      rw [hbl] at hR
      clear HW hbl
      go_upto_region 5 with fail
      have hbD : Below wr.heap.size wr wr.drew := (Below.refl _ _).drew
      have HR : Hid (Rd5 wr.drew w.heap.size (.slice aB j pB) (.slice none 0 0) cs [] F (dBare j) ∧ (∀ k, F k → w.heap.size ≤ k) ∧ Below w.heap.size w wr.drew) := ⟨hR.later hbD, hF, hB.trans (hbD.mono hB.size)⟩
      have d0 := HR.out.1.c0
      refine wp_region_held_drew (S := fun _ => True) (by kernel_rfl) trivial (fun HS => ?_)
      clear hbD hR hF hB
      generalize wr.drew = q0 at *
      have e0 : ∀ ob, (q0.alloc ob).cell? ⟨w.heap.size, 0, none⟩ = some (.slice aB j pB) := fun ob => cell_later (bel1 _ _) d0
      have e1 : ∀ ob ob', ((q0.alloc ob).alloc ob').cell? ⟨w.heap.size, 0, none⟩ = some (.slice aB j pB) := fun ob ob' => cell_later (bel1 _ _) (e0 ob)
      refine wpAnyH_take (i := 0) (v := ?v1) rfl (by kernel_rfl) (by kernel_rfl) (by kernel_rfl) (fun _ _ _ h => h) (Or.inl ⟨by kernel_rfl, ?h1⟩) HS ?r1
      case h1 => (rintro w n0; go_simp) <;> with_reducible rfl
      try simp only [Act.put, List.getElem_toArray, List.getElem_cons_succ, List.getElem_cons_zero, List.setIfInBounds_toArray, List.set_cons_zero, List.set_cons_succ]
      refine wpAnyH_take (i := 1) (v := ?v2) rfl (by kernel_rfl) (by kernel_rfl) (by kernel_rfl) (fun _ _ _ h => h) (Or.inl ⟨by kernel_rfl, ?h2⟩) HS ?r2
      case h2 => (rintro w n0; go_simp) <;> with_reducible rfl
      try simp only [Act.put, List.getElem_toArray, List.getElem_cons_succ, List.getElem_cons_zero, List.setIfInBounds_toArray, List.set_cons_zero, List.set_cons_succ]
      refine wpAnyH_take (i := 2) (v := ?v3) rfl (by kernel_rfl) (by kernel_rfl) (by kernel_rfl) (fun _ _ _ h => h) (Or.inl ⟨by kernel_rfl, ?h3⟩) HS ?r3
      case h3 => (rintro w n0; go_simp) <;> with_reducible rfl
      try simp only [Act.put, List.getElem_toArray, List.getElem_cons_succ, List.getElem_cons_zero, List.setIfInBounds_toArray, List.set_cons_zero, List.set_cons_succ]
      refine wpAnyH_take (i := 3) (v := ?v4) rfl (by kernel_rfl) (by kernel_rfl) (by kernel_rfl) (fun _ _ _ h => h) (Or.inl ⟨by kernel_rfl, ?h4⟩) HS ?r4
      case h4 => (rintro w n0; go_simp) <;> with_reducible rfl
      try simp only [Act.put, List.getElem_toArray, List.getElem_cons_succ, List.getElem_cons_zero, List.setIfInBounds_toArray, List.set_cons_zero, List.set_cons_succ]
      refine wpAnyH_ready (rs := [4, 5]) (by kernel_rfl) (by simp) ?_
      refine AllReadyH.cons rfl (fun K hK => ?ba) (AllReadyH.cons rfl (fun K hK => ?bb) AllReadyH.nil)
      case' ba =>
        go_simp
        refine hK.out _ _ trivial (fun HS => ?_)
        clear hK K
        try simp only [Act.put, List.getElem_toArray, List.getElem_cons_succ, List.getElem_cons_zero, List.setIfInBounds_toArray, List.set_cons_zero, List.set_cons_succ]
        refine wpAnyH_ready (rs := [5]) (by kernel_rfl) (by simp) ?_
        refine AllReadyH.cons rfl (fun K hK => ?_) AllReadyH.nil
        go_simp
        refine hK.out _ _ trivial (fun HS => ?_)
        clear hK K
        try simp only [Act.put, List.getElem_toArray, List.getElem_cons_succ, List.getElem_cons_zero, List.setIfInBounds_toArray, List.set_cons_zero, List.set_cons_succ]
        refine wpAnyH_ready (rs := [6]) (by kernel_rfl) (by simp) ?_
        refine AllReadyH.cons rfl (fun K hK => ?_) AllReadyH.nil
        go_simp
        refine hK.out _ _ trivial (fun HS => ?_)
        clear hK K
        try simp only [Act.put, List.getElem_toArray, List.getElem_cons_succ, List.getElem_cons_zero, List.setIfInBounds_toArray, List.set_cons_zero, List.set_cons_succ]
      case' bb =>
        go_simp
        refine hK.out _ _ trivial (fun HS => ?_)
        clear hK K
        try simp only [Act.put, List.getElem_toArray, List.getElem_cons_succ, List.getElem_cons_zero, List.setIfInBounds_toArray, List.set_cons_zero, List.set_cons_succ]
        refine wpAnyH_ready (rs := [4, 6]) (by kernel_rfl) (by simp) ?_
        refine AllReadyH.cons rfl (fun K hK => ?bc) (AllReadyH.cons rfl (fun K hK => ?bd) AllReadyH.nil)
      case' bc =>
        go_simp
        refine hK.out _ _ trivial (fun HS => ?_)
        clear hK K
        try simp only [Act.put, List.getElem_toArray, List.getElem_cons_succ, List.getElem_cons_zero, List.setIfInBounds_toArray, List.set_cons_zero, List.set_cons_succ]
        refine wpAnyH_ready (rs := [6]) (by kernel_rfl) (by simp) ?_
        refine AllReadyH.cons rfl (fun K hK => ?_) AllReadyH.nil
        go_simp
        refine hK.out _ _ trivial (fun HS => ?_)
        clear hK K
        try simp only [Act.put, List.getElem_toArray, List.getElem_cons_succ, List.getElem_cons_zero, List.setIfInBounds_toArray, List.set_cons_zero, List.set_cons_succ]
      case' bd =>
        go_simp
        refine hK.out _ _ trivial (fun HS => ?_)
        clear hK K
        try simp only [Act.put, List.getElem_toArray, List.getElem_cons_succ, List.getElem_cons_zero, List.setIfInBounds_toArray, List.set_cons_zero, List.set_cons_succ]
        refine wpAnyH_ready (rs := [4]) (by kernel_rfl) (by simp) ?_
        refine AllReadyH.cons rfl (fun K hK => ?_) AllReadyH.nil
        go_simp
        refine hK.out _ _ trivial (fun HS => ?_)
        clear hK K
        try simp only [Act.put, List.getElem_toArray, List.getElem_cons_succ, List.getElem_cons_zero, List.setIfInBounds_toArray, List.set_cons_zero, List.set_cons_succ]
      all_goals
        clear d0 e0 e1
        have HN : Hid (Bs (q0.alloc (.cells (madeCells #[.int .u8 0] 128) 5)) (.slice (some ⟨q0.heap.size, 0, none⟩) 128 128) (List.replicate 128 0) ∧ Below q0.heap.size q0 (q0.alloc (.cells (madeCells #[.int .u8 0] 128) 5)) ∧ Ow q0.heap.size (.slice (some ⟨q0.heap.size, 0, none⟩) 128 128) ∧ okb (List.replicate 128 0)) := ⟨bs_made15 q0 128 (by omega), bel1 _ _, fun a n c e hn => (by cases e; exact Nat.le_refl _), ⟨List.length_replicate, fun c hc => by rw [(List.mem_replicate.1 hc).2]; omega⟩⟩
        refine wpAnyH_ready (rs := [7]) (by kernel_rfl) (by simp) ?_
        refine AllReadyH.cons rfl (fun K hK => ?_) AllReadyH.nil
        rw [if_pos (by kernel_rfl)]
        refine apBl_op _ _ rfl HR.out.1 rfl HN.out.2.1 (some ⟨q0.heap.size, 0, none⟩) 128 128 (List.replicate 128 0) HN.out.1 HN.out.2.2.1 HN.out.2.2.2 _ (by first | rfl | (rw [World.size_alloc]; rfl)) (by show (List.replicate j _).length ≤ _; rw [List.length_replicate]; omega) ?_
        intro vB' q2 hsl hc0 hf0 hR2 hK2
        obtain ⟨a2, p2, rfl⟩ := hsl
        rw [dBare_more] at hR2
        have hbl : (dBare j).bl.length = j := List.length_replicate
        rw [hbl] at hR2 hK2 ⊢
        have HR2 : Hid (Rd5 (q2.setCell ⟨w.heap.size, 0, none⟩ (.slice a2 (j + 1) p2)) w.heap.size (.slice a2 (j + 1) p2) (.slice none 0 0) (cs ++ [.slice (some ⟨q0.heap.size, 0, none⟩) 128 128]) [] (fun k => F k ∨ (q0.heap.size ≤ k ∧ k < q2.heap.size)) (dBare (j + 1)) ∧ Kp F q0 (q2.setCell ⟨w.heap.size, 0, none⟩ (.slice a2 (j + 1) p2))) := ⟨hR2, hK2⟩
        clear hR2 hK2 hbl HN
        refine hK.out _ _ trivial (fun HS => ?_)
        clear hK K
        try simp only [Act.put, List.getElem_toArray, List.getElem_cons_succ, List.getElem_cons_zero, List.setIfInBounds_toArray, List.set_cons_zero, List.set_cons_succ]
        refine wpAnyH_take (i := 8) (v := ?_) rfl (by kernel_rfl) (by kernel_rfl) (by kernel_rfl) (fun _ _ _ h => h) (Or.inl ⟨by kernel_rfl, ?_⟩) HS ?_
        rotate_left
        · (rintro w n0; go_simp) <;> with_reducible rfl
        try simp only [Act.put, List.getElem_toArray, List.getElem_cons_succ, List.getElem_cons_zero, List.setIfInBounds_toArray, List.set_cons_zero, List.set_cons_succ]
        refine wpAnyH_take (i := 9) (v := ?_) rfl (by kernel_rfl) (by kernel_rfl) (by kernel_rfl) (fun _ _ _ h => h) (Or.inl ⟨by kernel_rfl, ?_⟩) HS ?_
        rotate_left
        · (rintro w n0; go_simp) <;> with_reducible rfl
        try simp only [Act.put, List.getElem_toArray, List.getElem_cons_succ, List.getElem_cons_zero, List.setIfInBounds_toArray, List.set_cons_zero, List.set_cons_succ]
        refine wpAnyH_ready (rs := [10]) (by kernel_rfl) (by simp) ?_
        refine AllReadyH.cons rfl (fun K hK => ?_) AllReadyH.nil
        go_simp
        refine hK.out _ _ trivial (fun HS => ?_)
        clear hK K
        try simp only [Act.put, List.getElem_toArray, List.getElem_cons_succ, List.getElem_cons_zero, List.setIfInBounds_toArray, List.set_cons_zero, List.set_cons_succ]
        refine wpAnyH_done (by kernel_rfl) ?_ _
        clear HS hc0 hf0
        have HW2 : Hid (∃ (vB : Value) (cs : List Value) (F : Nat → Prop), Rd5 (q2.setCell ⟨w.heap.size, 0, none⟩ (.slice a2 (j + 1) p2)) w.heap.size vB (.slice none 0 0) cs [] F (dBare (j + 1)) ∧ (∀ k, F k → w.heap.size ≤ k) ∧ Below w.heap.size w (q2.setCell ⟨w.heap.size, 0, none⟩ (.slice a2 (j + 1) p2))) := by
          refine ⟨_, _, _, HR2.out.1, fun k hk => ?_, HR2.out.2.next HR.out.2.2 HR.out.2.1 HR.out.2.2.size⟩
          rcases hk with q | q
          · exact HR.out.2.1 k q
          · have := HR.out.2.2.size; omega
        clear HR HR2
        go_upto_region 4 with fail
        generalize q2.setCell ⟨w.heap.size, 0, none⟩ (.slice a2 (j + 1) p2) = q3 at *
        go_wp2
        go_roundw
        case rel => exact ⟨j + 1, by omega, by go_num, HW2⟩
        case measure => simp [intOf]; omega
    · obtain rfl : j = n := by omega
      have hjI : ¬ (j : Int) < (j : Int) := by omega
      go_wp2
      go_ret
      obtain ⟨vB, cs, F, hR, hF, hB⟩ := HW.out
      exact ⟨_, rfl, F, ⟨w.heap.size, vB, _, cs, [], rfl, hR, ⟨by show Bd64 0; unfold Bd64; omega, fun q => by cases q⟩⟩, hF, hB⟩
end Go.Proofs.YthnpdcblfocemaaGreatDoor
set_option linter.unusedVariables false
set_option linter.unusedSimpArgs false
namespace Go.Proofs.YthnpdcblfocemaaGreatDoor
open Go.RowKit

theorem Rd5.atB {w : World} {b n cap : Nat} {aB : Option Addr} {vU : Value} {cs ds : List Value} {F : Nat → Prop} {s : Dsk} (h : Rd5 w b (.slice aB n cap) vU cs ds F s) (k : Nat) (hk : k < s.bl.length) : ∃ (g : Nat) (x : Value), aB = some ⟨g, 0, none⟩ ∧ w.cell? ⟨g, k, none⟩ = some x ∧ w.frozen? ⟨g, k, none⟩ = false ∧ Tq w F b (.slice aB n cap) vU x (s.bl.getD k []) ∧ g ≠ b ∧ vU.ownBlock ≠ some g := by
  obtain ⟨x, e, t⟩ := h.tB k hk
  have hr := h.rB
  rcases id hr.2 with ⟨_, h0⟩ | ⟨g, c, cur, hv, hg, hh, r⟩
  · omega
  · injection hv with v1 v2 v3
    subst v1
    subst v2
    have hc := hr.cellAt k (by omega)
    have hf := hr.frozenAt k
    exact ⟨g, x, rfl, by rw [hc]; exact e, hf, t, (h.gB g rfl).2, h.gBU g rfl⟩
theorem Rd5.atU {w : World} {b m cap : Nat} {aU : Option Addr} {vB : Value} {cs ds : List Value} {F : Nat → Prop} {s : Dsk} (h : Rd5 w b vB (.slice aU m cap) cs ds F s) (k : Nat) (hk : k < s.un.length) : ∃ (g : Nat) (x : Value), aU = some ⟨g, 0, none⟩ ∧ w.cell? ⟨g, k * 2, none⟩ = some (.int .i64 (((s.un.getD k (0, [])).1 : Nat) : Int)) ∧ w.cell? ⟨g, k * 2 + 1, none⟩ = some x ∧ Tq w F b vB (.slice aU m cap) x (s.un.getD k (0, [])).2 ∧ g ≠ b ∧ vB.ownBlock ≠ some g := by
  obtain ⟨x, e1, e2, t⟩ := h.tU k hk
  have hr := h.rU
  rcases id hr.2 with ⟨_, h0⟩ | ⟨g, c, cur, hv, hg, hh, r⟩
  · omega
  · injection hv with v1 v2 v3
    subst v1
    subst v2
    have hc := hr.cellAt (k * 2) (by omega)
    have hc2 := hr.cellAt (k * 2 + 1) (by omega)
    exact ⟨g, x, rfl, by rw [hc]; exact e1, by rw [hc2]; exact e2, t, (h.gU g rfl).2, fun e => h.gBU g e rfl⟩
theorem take_more {un : List (Nat × List Nat)} {j : Nat} (hj : j < un.length) : un.take (j + 1) = un.take j ++ [un.getD j (0, [])] := by
  rw [List.take_add_one]
  congr 1
  simp [List.getD, hj]
theorem lastU_more {un : List (Nat × List Nat)} {j : Nat} (hj : j < un.length) (i : Nat) (d : List Nat) : lastU (un.take (j + 1)) i d = if (un.getD j (0, [])).1 = i then (un.getD j (0, [])).2 else lastU (un.take j) i d := by
  rw [take_more hj]
  unfold lastU
  rw [List.foldl_append]
  rfl
set_option maxRecDepth 100000 in
set_option maxHeartbeats 8000000 in
theorem refRead {w : World} {p : Value} {F : Nat → Prop} {s : Dsk} (h : RD w p F s) (i : Int) (hu : s.un.length ≤ 100000) :
    Calls Tryz.prog 73 #[p, .int .i64 i] w fun e w' => ∃ v, e = .returned (.tuple #[v, .int .i64 ((dAsk s i : Nat) : Int)]) ∧ Bs w v (rdB s i) ∧ w' = w := by
  obtain ⟨b, vB, vU, cs, ds, rfl, h, hd⟩ := h
  have HR : Hid (Rd5 w b vB vU cs ds F s) := h
  obtain ⟨aB, pB, rfl⟩ := h.sB
  obtain ⟨aU, pU, rfl⟩ := h.sU
  have HE : Hid (rdB s i = if dAsk s i ≠ 0 then [] else lastU s.un i.toNat (s.bl.getD i.toNat [])) := rfl
  obtain ⟨m, hm⟩ : ∃ m, s.un.length = m := ⟨_, rfl⟩
  obtain ⟨n, hn⟩ : ∃ n, s.bl.length = n := ⟨_, rfl⟩
  have HM : Hid (s.un.length = m ∧ m ≤ 100000 ∧ s.bl.length = n) := ⟨hm, by omega, hn⟩
  have c0 := h.c0
  have c1 := h.c1
  rw [hm] at HR c1
  rw [hn] at HR c0
  clear h hd hm hn hu
  go_enter Tryz.func73, Tryz.ntmps73
  go_wp2_with fail
  refine (refAsked HR.out i).mono ?_
  rintro e w1 ⟨rfl, hw1⟩
  subst hw1
  by_cases hA : dAsk s i ≠ 0
  · rw [if_pos hA] at HE
    obtain ⟨A, hAA⟩ : ∃ A, dAsk s i = A := ⟨_, rfl⟩
    rw [hAA] at hA ⊢
    have hAI : ¬ (A : Int) = 0 := by omega
    have HAk : Hid (dAsk s i = A) := hAA
    clear hAA
    go_wp2
    go_ret2
    exact ⟨.slice none 0 0, by rw [HAk.out]; rfl, by rw [HE.out]; exact (ob_nil 0 _).bs.1, rfl⟩
  have hA0 : dAsk s i = 0 := by omega
  rw [if_neg hA] at HE
  have HLt := hid5 (dAsk_lt hA0)
  rw [hA0]
  have HAk : Hid (dAsk s i = 0) := hA0
  clear hA hA0
  obtain ⟨I, rfl⟩ : ∃ I : Nat, i = (I : Int) := ⟨i.toNat, by have := HLt.out; omega⟩
  have HI : Hid (I < s.bl.length) := by have := HLt.out.2.2; rw [Int.toNat_natCast] at this; exact this
  rw [Int.toNat_natCast] at HE
  clear HLt
  have hmI : IntKind.i64.wrap ((m : Int) - 1) = (m : Int) - 1 := by have := HM.out; rw [IntKind.wrap_i64]; omega
  go_upto_region 5 with fail
  go_loopw [7] (fun s7 wr => ∃ j : Nat, j ≤ m ∧ s7 = .int .i64 ((j : Int) - 1) ∧ wr = w1 ∧ Hid (lastU s.un I (s.bl.getD I []) = lastU (s.un.take j) I (s.bl.getD I []))) (fun s7 _ => ((intOf s7) + 1).toNat)
  case atStart => exact ⟨m, Nat.le_refl _, rfl, rfl, by show _ = _; rw [List.take_of_length_le (by have := HM.out; omega)]⟩
  case round =>
    obtain ⟨j, hj, rfl, hwr, HP⟩ := hrel
    have hwr2 := hwr.symm
    subst hwr2
    clear hwr
    by_cases hj0 : j = 0
    · subst hj0
      have HPe : Hid (rdB s (I : Int) = s.bl.getD I []) := by
        show _ = _
        rw [HE.out, HP.out]
        rfl
      obtain ⟨g, x, rfl, cx, -, tx, -⟩ := HR.out.atB I HI.out
      obtain ⟨T, hTT⟩ : ∃ T, s.bl.getD I [] = T := ⟨_, rfl⟩
      have tx1 := tx.1
      rw [hTT] at tx1 HPe
      have HT : Hid (Bs w1 x T) := tx1
      obtain ⟨ax, px, rfl, -, -⟩ := tx1.len
      clear hTT tx1
      have hIn : (I : Int) < (n : Int) := by have h1 := HI.out; have h2 := HM.out; omega
      have hI0 : (0 : Int) ≤ (I : Int) := by omega
      clear tx HP hmI
      generalize T.length = L at *
      go_wp2
      go_ret2
      exact ⟨.slice ax L px, by rw [HAk.out]; rfl, by rw [HPe.out]; exact HT.out, rfl⟩
    · obtain ⟨k, rfl⟩ : ∃ k, j = k + 1 := ⟨j - 1, by omega⟩
      have hkI : (((k + 1 : Nat) : Int) - 1) = (k : Int) := by omega
      rw [hkI]
      have hkm : k < s.un.length := by have := HM.out; omega
      have HLm := hid5 (lastU_more hkm I (s.bl.getD I []))
      obtain ⟨g, x, rfl, ca, cx, tx, -⟩ := HR.out.atU k hkm
      obtain ⟨T, hTT⟩ : ∃ T, (s.un.getD k (0, [])).2 = T := ⟨_, rfl⟩
      have tx1 := tx.1
      rw [hTT] at tx1 HLm
      have HT : Hid (Bs w1 x T) := tx1
      obtain ⟨ax, px, rfl, -, -⟩ := tx1.len
      clear hTT tx1
      have hk0 : (0 : Int) ≤ (k : Int) := by omega
      have hkmI : (k : Int) < (m : Int) := by omega
      have hks : IntKind.i64.wrap ((k : Int) - 1) = (k : Int) - 1 := by have := HM.out; rw [IntKind.wrap_i64]; omega
      clear tx hkm hkI hj0 hmI
      obtain ⟨a, ha⟩ : ∃ a, (s.un.getD k (0, [])).1 = a := ⟨_, rfl⟩
      rw [ha] at ca HLm
      clear ha
      by_cases hai : a = I
      · subst hai
        rw [if_pos rfl] at HLm
        have HPe : Hid (rdB s (a : Int) = T) := by
          show _ = _
          rw [HE.out, HP.out, HLm.out]
        clear HLm HP
        generalize T.length = L at *
        go_wp2
        go_ret2
        exact ⟨.slice ax L px, by rw [HAk.out]; rfl, by rw [HPe.out]; exact HT.out, rfl⟩
      · have haiI : ¬ (a : Int) = (I : Int) := by omega
        rw [if_neg hai] at HLm
        have HP2 : Hid (lastU s.un I (s.bl.getD I []) = lastU (s.un.take k) I (s.bl.getD I [])) := by
          show _ = _
          rw [HP.out, HLm.out]
        clear HLm HP
        go_wp2
        go_roundw
        case rel => exact ⟨k, by omega, rfl, by trivial, HP2⟩
        case measure => simp only [intOf]; omega
end Go.Proofs.YthnpdcblfocemaaGreatDoor
