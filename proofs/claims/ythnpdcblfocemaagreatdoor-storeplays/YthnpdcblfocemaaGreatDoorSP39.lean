/-
  Texts of this proof, joined: JqF.
-/
import Derived.Test.YthnpdcblfocemaaGreatDoorSP35
import Derived.Test.YthnpdcblfocemaaGreatDoorSP38
set_option linter.unusedVariables false
set_option linter.unusedSimpArgs false
namespace Go.Proofs.YthnpdcblfocemaaGreatDoor
open Go.RowKit Go.Shelf
attribute [local go_sem] Oper.semAt_some

structure Jw (V : Disk1) (w2 : World) (p : Value) (F : Nat → Prop) (s : Dsk) (P : Nat) (r : List Nat) (n g cnt : Nat) (i : Nat) (X : World) : Prop where
  dk : ∃ (si : Dsk) (F' : Nat → Prop), V.Dt X p F' si ∧ (∀ k, F' k → F k ∨ w2.heap.size + 2 ≤ k) ∧ jwr P r n g cnt 0 s = jwr P r n g (cnt - i) i si ∧ si.un.length ≤ s.un.length + i
  kq : Kq w2.heap.size F w2 X
theorem Jw.put {V : Disk1} {w2 : World} {p : Value} {F : Nat → Prop} {s : Dsk} {P : Nat} {r : List Nat} {n g cnt i : Nat} {X X' : World} (h : Jw V w2 p F s P r n g cnt i X) (k : Kp (fun k => k = w2.heap.size + 1) X X') (hF : ∀ k, F k → k < w2.heap.size) : Jw V w2 p F s P r n g cnt i X' := by
  obtain ⟨⟨si, F', q1, q2, q3, q4⟩, h2⟩ := h
  refine ⟨⟨si, F', V.dtK q1 (fun i hi => k.block i (V.dtB q1 i hi) (fun e => ?_)) k.size, q2, q3, q4⟩, ⟨k.os.trans h2.os, k.tape.trans h2.tape, k.output.trans h2.output, Nat.le_trans h2.size k.size, fun i hi hi2 hn => ?_⟩⟩
  · rcases q2 i hi with q | q
    · have := hF i q; omega
    · omega
  · exact (k.block i (Nat.lt_of_lt_of_le hi2 h2.size) (by omega)).trans (h2.block i hi hi2 hn)
structure Je (V : Disk1) (w : World) (N : Nat) (p : Value) (F : Nat → Prop) (b1 : Nat) (c : Nat) (s' : Dsk) (X : World) : Prop where
  dk : ∃ F' : Nat → Prop, V.Dt X p F' s' ∧ (∀ k, F' k → F k ∨ N ≤ k)
  kp : Kp F w X
  c1 : X.cell? ⟨b1, 0, none⟩ = some (.int .i64 (c : Int))
theorem Je.put {V : Disk1} {w : World} {N : Nat} {p : Value} {F : Nat → Prop} {b1 c : Nat} {s' : Dsk} {X X' : World} (h : Je V w N p F b1 c s' X) {G : Nat → Prop} (k : Kp G X X') (hG : ∀ k, G k → w.heap.size ≤ k ∧ b1 < k ∧ k < N) (hF : ∀ k, F k → k < w.heap.size) : Je V w N p F b1 c s' X' := by
  obtain ⟨⟨F', q1, q2⟩, h2, h3⟩ := h
  refine ⟨⟨F', V.dtK q1 (fun i hi => k.block i (V.dtB q1 i hi) (fun e => ?_)) k.size, q2⟩, h2.trans k (fun i hi => Or.inr (hG i hi).1), k.cell (fun q => by have := (hG _ q).2.1; dsimp only at this; omega) h3⟩
  have := hG i e
  rcases q2 i hi with q | q
  · have := hF i q; omega
  · omega
theorem Je.ad {V : Disk1} {w : World} {N : Nat} {p : Value} {F : Nat → Prop} {b1 c : Nat} {s' : Dsk} {X : World} (h : Je V w N p F b1 c s' X) (hw : w.heap.size ≤ N) : Ad V.Dt p F s' w X := by
  obtain ⟨⟨F', q1, q2⟩, h2, h3⟩ := h
  exact ⟨F', q1, fun k hk => by rcases q2 k hk with q | q; exact Or.inl q; exact Or.inr (by omega), h2⟩
theorem wrS_un17 (s : Dsk) (i : Int) (b : List Nat) : (wrS s i b).un.length ≤ s.un.length + 1 := by
  unfold wrS
  split
  · omega
  · rw [(dGone_bl _).2]
    simp
structure Sw17 (B b1 c : Nat) (vj vr : Value) (g n b : Nat) (W : World) : Prop where
  n0 : W.cell? ⟨B, 0, none⟩ = some vj
  n1 : W.cell? ⟨b1, 0, none⟩ = some vr
  n2 : W.cell? ⟨c, 3, none⟩ = some (.int .i64 (g : Int))
  n3 : W.cell? ⟨c, 4, none⟩ = some (.int .i64 (n : Int))
  n4 : W.cell? ⟨c, 5, none⟩ = some (.int .i64 (b : Int))
theorem Sw17.later {B b1 c : Nat} {vj vr : Value} {g n b : Nat} {W W' : World} (h : Sw17 B b1 c vj vr g n b W) (k : Below W.heap.size W W') : Sw17 B b1 c vj vr g n b W' := ⟨cell_later k h.n0, cell_later k h.n1, cell_later k h.n2, cell_later k h.n3, cell_later k h.n4⟩
structure Sv17 (B c d base b : Nat) (W : World) : Prop where
  n0 : W.cell? ⟨B, 0, none⟩ = some (.pointer (some ⟨c, 0, none⟩))
  n1 : W.cell? ⟨c, 0, none⟩ = some (.pointer (some ⟨d, 0, none⟩))
  n2 : W.cell? ⟨c, 1, none⟩ = some (.int .i64 (base : Int))
  n3 : W.cell? ⟨c, 5, none⟩ = some (.int .i64 (b : Int))
theorem alJ {ops : Array Oper} {o : Oper} {a : Act} {w : World} {K : Act → World → Prop} {Q : Exit → Act → World → Prop} {E : Prop} (hgd : o.guard = none) (T : TypeId) (xs : List Value)
    (hz : ∀ w, (zeroValue T).run Tryz.prog w = .ok (.agg xs.toArray) w) (ho : o.op = .alloc T)
    (h : ∀ w', Vb w' w.heap.size T xs → Below w.heap.size w w' → w'.heap.size = w.heap.size + 1 → K (a.put o.dst (.pointer (some ⟨w.heap.size, 0, none⟩))) w') : if Region.wanted o (yielded ops a.tmps) = true then Oper.wp Tryz.prog o a w K Q else E := by
  have hw : Region.wanted o (yielded ops a.tmps) = true := by simp [Region.wanted, hgd]
  rw [if_pos hw]
  exact alO T xs hz ho h
set_option maxRecDepth 100000 in
set_option maxHeartbeats 8000000 in
theorem jwrite17 (V : Disk1) (w : World) (c d : Nat) (F : Nat → Prop) (s : Dsk) (base size g n b : Nat) (v : Value) (r : List Nat) (hP : Pj w c d base size g n b) (hD : V.Dt w (.pointer (some ⟨d, 0, none⟩)) F s) (hFc : ∀ k, F k → k ≠ c) (hT : JT w) (hFT : ∀ k, F k → k ≠ 0)
    (hv : Bs w v r) (hnf : Nf F v) (hx : ∀ x ∈ r, x < 256) (hl : prt r.length ≤ 900) (hu : s.un.length ≤ 100) (hg : g < 9223372036854775808) (hn : n ≤ 1000000000) (hb : base + b ≤ 1000) :
    Calls Tryz.prog 58 #[.pointer (some ⟨c, 0, none⟩), v] w fun e w' => e = .returned (.int .i64 (((jfl (jwr (base + b) r n g (prt r.length) 0 s)).1 : Nat) : Int)) ∧ Ad V.Dt (.pointer (some ⟨d, 0, none⟩)) F (jfl (jwr (base + b) r n g (prt r.length) 0 s)).2 w w' := by
  obtain ⟨ad, cap, rfl, -, -⟩ := hv.len
  obtain ⟨m, hm⟩ : ∃ m, r.length = m := ⟨_, rfl⟩
  obtain ⟨cnt, hcnt⟩ : ∃ cnt, prt m = cnt := ⟨_, rfl⟩
  obtain ⟨P, hPb⟩ : ∃ P, base + b = P := ⟨_, rfl⟩
  rw [hm] at hv hnf hl ⊢
  rw [hcnt] at hl ⊢
  have HN : Hid (r.length = m ∧ prt m = cnt ∧ cnt ≤ 900 ∧ m ≤ 93600 ∧ 1 ≤ cnt ∧ base + b = P ∧ P ≤ 1000) := ⟨hm, hcnt, hl, by have := prt_room m; omega, by have := prt_pos m; omega, hPb, by omega⟩
  have HS1 : Hid (s.un.length ≤ 100 ∧ g < 9223372036854775808 ∧ n ≤ 1000000000) := ⟨hu, hg, hn⟩
  have HL : Hid (∀ k, F k → k < w.heap.size) := fun k hk => V.dtB hD k hk
  have HD : Hid (V.Dt w (.pointer (some ⟨d, 0, none⟩)) F s ∧ Bs w (.slice ad m cap) r ∧ Nf F (.slice ad m cap) ∧ (∀ x ∈ r, x < 256) ∧ Pj w c d base size g n b ∧ JT w ∧ (∀ k, F k → k ≠ c) ∧ (∀ k, F k → k ≠ 0)) := ⟨hD, hv, hnf, hx, hP, hT, hFc, hFT⟩
  rw [hPb]
  obtain ⟨js, hjs⟩ : ∃ js, jwr P r n g cnt 0 s = js := ⟨_, rfl⟩
  have HQ : Hid (jwr P r n g cnt 0 s = js) := hjs
  rw [hjs]
  clear hD hv hnf hx hP hT hFc hFT hm hcnt hl hu hg hn hb hPb hjs
  refine (callsIn_wide (n := 10)).1 ?_
  refine callsIn_of_wp_marks Tryz.func58 rfl trivial ?_ rfl
  refine wpIn_wide.2 ?_
  simp only [Tryz.ntmps58, List.size_toArray, List.length_cons, List.length_nil, Nat.reduceAdd, Nat.reduceSub, Array.replicate_succ, Array.replicate_zero, List.push_toArray, List.append_toArray, List.nil_append, List.cons_append]
  go_upto_region 1 with fail
  obtain ⟨w1, hw1⟩ : ∃ w1, w1 = ((w.alloc (.cells #[.pointer (some ⟨c, 0, none⟩)] 69)).alloc (.cells #[.slice ad m cap] 30)).alloc (.cells #[.int .i64 0] 26) := ⟨_, rfl⟩
  have H1 : Hid (Below w.heap.size w w1 ∧ w1.heap.size = w.heap.size + 3 ∧ w1.cell? ⟨w.heap.size, 0, none⟩ = some (.pointer (some ⟨c, 0, none⟩)) ∧ w1.cell? ⟨w.heap.size + 1, 0, none⟩ = some (.slice ad m cap) ∧ w1.cell? ⟨w.heap.size + 2, 0, none⟩ = some (.int .i64 0) ∧ w1.frozen? ⟨w.heap.size + 2, 0, none⟩ = false) := by
    rw [hw1]
    exact ⟨((bel1 _ _).alloc (by simp) _).alloc (by simp; omega) _, by simp, by simp [go_sem], by simp [go_sem], by simp [go_sem], by simp [go_sem]⟩
  have hch := parts17 ad m cap w1
  have c1 := H1.out.2.2.2.1
  rw [← hw1]
  clear hw1
  go_wp2_with (go_at_call 71; refine hch.mono ?_; rintro e w2 ⟨rfl, hw2⟩; clear hch c1)
  have hB2 : Below w1.heap.size w1 w2 := by rw [hw2]; exact bel1 _ _
  have H2 : Hid (w2.cell? ⟨w.heap.size + 3, 0, none⟩ = some (.slice ad m cap) ∧ w2.heap.size = w.heap.size + 4) := by
    have e1 := H1.out.2.1
    rw [hw2, ← e1]
    exact ⟨by simp [go_sem], by rw [World.size_alloc]; omega⟩
  have e1 := H1.out.2.1
  rw [e1]
  have H3 : Hid (Below w.heap.size w w2 ∧ w2.cell? ⟨w.heap.size, 0, none⟩ = some (.pointer (some ⟨c, 0, none⟩)) ∧ w2.cell? ⟨w.heap.size + 1, 0, none⟩ = some (.slice ad m cap) ∧ w2.cell? ⟨w.heap.size + 2, 0, none⟩ = some (.int .i64 0) ∧ w2.frozen? ⟨w.heap.size + 2, 0, none⟩ = false) :=
    ⟨bchain H1.out.1 hB2, cell_later hB2 H1.out.2.2.1, cell_later hB2 H1.out.2.2.2.1, cell_later hB2 H1.out.2.2.2.2.1, frozen_later hB2 H1.out.2.2.2.2.1 H1.out.2.2.2.2.2⟩
  rw [← hw2]
  clear hw2 hB2 H1 e1
  obtain ⟨B, hB⟩ : ∃ B, w.heap.size = B := ⟨_, rfl⟩
  have HB : Hid (w.heap.size = B) := hB
  rw [hB] at H2 H3 HL ⊢
  clear hB
  obtain ⟨b1, hb1⟩ : ∃ b1, B + 1 = b1 := ⟨_, rfl⟩
  obtain ⟨b2, hb2⟩ : ∃ b2, b1 + 1 = b2 := ⟨_, rfl⟩
  obtain ⟨b3, hb3⟩ : ∃ b3, B + 3 = b3 := ⟨_, rfl⟩
  have HZ : Hid (b1 = B + 1 ∧ b2 = B + 2 ∧ b3 = B + 3 ∧ w2.heap.size = B + 4) := ⟨hb1.symm, by omega, hb3.symm, H2.out.2⟩
  rw [show B + 2 = b2 by omega, hb1] at H3
  rw [hb3] at H2
  rw [hb1, hb2, hb3]
  clear hb1 hb2 hb3
  have HLF : Hid (∀ k, F k → k < w2.heap.size) := fun k hk => by have := HL.out k hk; have := HZ.out; omega
  have HTl : Hid (Tells0 Fence.wide 9 Tryz.prog 88 #[.pointer (some ⟨b3, 0, none⟩)] (jps r) (EC17 F w2.heap.size) F w2) := by
    refine parts_tells b3 _ ad m cap r (HD.out.2.1.later (by rw [HB.out]; exact H3.out.1)) HN.out.1 (by have := HN.out; omega) HD.out.2.2.1 ?_ H2.out.1
    intro hf
    have := HL.out _ hf
    have := HZ.out
    omega
  refine (wpIn_wide (n := 10)).1 ?_
  refine range_told0 (FB := F) rfl (by omega) (gf := 88) (lb := #[.pointer (some ⟨b3, 0, none⟩)]) rfl trivial (enters_of Tryz.func88 (by kernel_rfl) rfl) HTl.out ?f4 HLF.out (fun k => F k ∨ k = b2) ?f6
    (fun i X => Jw V w2 (.pointer (some ⟨d, 0, none⟩)) F s P r n g cnt i X) (fun cd i X => cd = .ret ∧ js.1 ≠ 0 ∧ Je V w (w2.heap.size + 2) (.pointer (some ⟨d, 0, none⟩)) F b2 js.1 js.2 X)
    (fun i a' X => ∃ v', a' = { tmps := #[Value.pointer (some { block := c, off := 0 }), Value.slice ad m cap, Value.pointer (some { block := B, off := 0 }), Value.pointer (some { block := b1, off := 0 }), Value.pointer (some { block := b2, off := 0 }), .int .i64 (i : Int), v', undef, undef, Value.slice ad m cap, Value.func (Fn.func 88) #[] #[Value.pointer (some { block := b3, off := 0 })], .int .i64 (i : Int), v', undef, undef, undef, undef, undef, undef, undef, undef, undef, undef, undef, undef, undef, undef, undef, undef, undef, undef, undef, undef, undef, undef, undef, undef, undef, undef, undef, undef, undef, undef, undef, undef, undef, undef, undef, undef], defers := [] } ∧ Jw V w2 (.pointer (some ⟨d, 0, none⟩)) F s P r n g cnt i X ∧ Bs X v' (jcd r i) ∧ Nf F v' ∧ Lo w2.heap.size v')
    ?f7 ?f8 ?f9 ?f10 ?assign ?body ?done ?left
  case f4 => rintro y args Xp X ⟨v', rfl, -⟩; rfl
  case f6 => intro k hk; have := HZ.out; rcases hk with hk | hk; exact HLF.out k hk; omega
  case f7 => intro i X X' hX k; exact hX.put k HLF.out
  case f8 =>
    rintro cd i X X' ⟨rfl, h1, h2⟩ k
    exact ⟨rfl, h1, h2.put k (fun q hq => by have := HZ.out; have := HB.out; omega) (by rw [HB.out]; exact HL.out)⟩
  case f9 =>
    rintro i a' X X' ⟨v', ha', h1, h2, h3, h4⟩ k
    exact ⟨v', ha', h1.put k HLF.out, k.bs h2 (fun a n c e hn hf => by have := h4 a n c e hn; omega), h3, h4⟩
  case f10 =>
    exact ⟨⟨s, F, V.dtK HD.out.1 (fun i hi => H3.out.1.block i (HL.out i hi)) (by have := HZ.out; have := HB.out; omega), fun k hk => Or.inl hk, rfl, Nat.le_refl _⟩, ⟨rfl, rfl, rfl, Nat.le_refl _, fun _ _ _ _ => rfl⟩⟩
  case assign =>
    rintro i u args Xp X hu hX hpX ⟨v', rfl, hv1, hv2, hv3⟩ hsz hno
    have HX : Hid (Jw V w2 (.pointer (some ⟨d, 0, none⟩)) F s P r n g cnt i X ∧ Bs X v' (jcd r i) ∧ Nf F v' ∧ Lo w2.heap.size v' ∧ u.1 = i) := by
      have hr : i < cnt := by have := (List.getElem?_eq_some_iff.1 hu).1; rw [jps_len, HN.out.1, HN.out.2.1] at this; exact this
      rw [jps_get r i (by rw [HN.out.1, HN.out.2.1]; exact hr)] at hu
      cases hu
      exact ⟨hX.put (Kp.of hpX) HLF.out, hv1, hv2, hv3, rfl⟩
    clear hX hpX hno hsz hv1 hv2 hv3 hu
    gi_wp2
    rw [HX.out.2.2.2.2]
    exact ⟨⟨v', rfl, HX.out.1, HX.out.2.1, HX.out.2.2.1, HX.out.2.2.2.1⟩, Kq.of (Kp.refl _ _)⟩
  case done =>
    rintro X hX hD
    have HX : Hid (X.heap[w2.heap.size]? = some (.deferred (some [])) ∧ w2.heap.size < X.heap.size) := ⟨hD, (Array.getElem?_eq_some_iff.1 hD).1⟩
    rw [jps_len, HN.out.1, HN.out.2.1] at hX
    obtain ⟨⟨si, F', q1, q2, q3, q4⟩, h2⟩ := hX
    rw [Nat.sub_self] at q3
    have HA : Hid (js = (0, si)) := by
      show _ = _
      rw [← HQ.out, q3]
      rfl
    have hfl := V.flush X (.pointer (some ⟨d, 0, none⟩)) F' si q1 (by have := HS1.out; have := HN.out; omega)
    have hPx : Pj X c d base size g n b := by
      refine (HD.out.2.2.2.2.1.later (by rw [HB.out]; exact H3.out.1)).kept ?_
      have hc := HD.out.2.2.2.2.1.lt
      have hz := HZ.out
      have hb := HB.out
      exact h2.block c (by omega) (by omega) (fun hf => HD.out.2.2.2.2.2.2.1 c hf rfl)
    have HP : Hid (Kp F w X ∧ (∀ k, F' k → F k ∨ w2.heap.size + 2 ≤ k) ∧ X.cell? ⟨b2, 0, none⟩ = some (.int .i64 0) ∧ X.frozen? ⟨b2, 0, none⟩ = false) := by
      have hz := HZ.out
      have hb := HB.out
      have hbl := H3.out.1
      have e1 : X.heap[b2]? = w2.heap[b2]? := h2.block b2 (by omega) (by omega) (fun e => by have := HL.out _ e; omega)
      refine ⟨⟨h2.os.trans hbl.os, h2.tape.trans hbl.tape, h2.output.trans hbl.output, by have := h2.size; omega, fun i hi hn => ?_⟩, q2, cell_blk5 (a := ⟨b2, 0, none⟩) e1 H3.out.2.2.2.1, frz_blk5 (a := ⟨b2, 0, none⟩) e1 H3.out.2.2.2.2⟩
      exact (h2.block i (by omega) (by omega) (fun e => hn e)).trans (hbl.block i (by omega))
    have x0 : X.cell? ⟨B, 0, none⟩ = some (.pointer (some ⟨c, 0, none⟩)) := cell_blk5 (a := ⟨B, 0, none⟩) (h2.block B (by have := HZ.out; omega) (by have := HZ.out; omega) (fun e => by have := HL.out _ e; omega)) H3.out.2.1
    have c0 := hPx.c0
    clear q1 q2 q3 q4 h2 hD hPx
    go_upto_region 8 with fail
    obtain ⟨E, hE⟩ : ∃ E, flE si = E := ⟨_, rfl⟩
    have HJs : Hid (jfl js = (E, flS si)) := by
      show _ = _
      rw [HA.out, ← hE]
      rfl
    rw [hE] at hfl
    have hn1 : ¬ F' b2 := fun e => by have := HZ.out; rcases HP.out.2.1 _ e with q | q; have := HL.out _ q; omega; omega
    have hfl2 : Calls Tryz.prog 78 #[.pointer (some ⟨d, 0, none⟩)] X fun e X2 => e = .returned (.int .i64 (E : Int)) ∧ X2.cell? ⟨b2, 0, none⟩ = some (.int .i64 0) ∧ X2.frozen? ⟨b2, 0, none⟩ = false ∧ Ad V.Dt (.pointer (some ⟨d, 0, none⟩)) F' (flS si) X X2 :=
      hfl.mono (fun e X2 ⟨h1, h2⟩ => ⟨h1, h2.choose_spec.2.2.cell hn1 HP.out.2.2.1, h2.choose_spec.2.2.frozen hn1 HP.out.2.2.1 HP.out.2.2.2, h2⟩)
    clear hfl
    go_wp2_with (go_at_call 78; refine hfl2.mono ?_; rintro e X2 ⟨rfl, z1, z2, hA⟩; clear hfl2)
    have HTe : Hid (Je V w (w2.heap.size + 1) (.pointer (some ⟨d, 0, none⟩)) F b2 E (flS si) ((X2.setCell ⟨b2, 0, none⟩ (.int .i64 (E : Int))).putObj w2.heap.size (.deferred none)) ∧ (X2.setCell ⟨b2, 0, none⟩ (.int .i64 (E : Int))).heap[w2.heap.size]? = some (.deferred (some []))) := by
      obtain ⟨F2, q1, q2, q3⟩ := hA
      have hk2 : Kp (fun k => k = b2) X2 (X2.setCell ⟨b2, 0, none⟩ (.int .i64 (E : Int))) := Kp.set (F := fun k => k = b2) (Kp.refl _ _) (Or.inl rfl) _
      have hz := HZ.out
      have hb := HB.out
      have hF3 : ∀ k, F2 k → F k ∨ w2.heap.size + 1 ≤ k := fun k hk => by
        have h1 := HX.out.2
        rcases q2 k hk with q | q
        · rcases HP.out.2.1 k q with q | q
          · exact Or.inl q
          · right; omega
        · right
          omega
      have h1 : Je V w (w2.heap.size + 1) (.pointer (some ⟨d, 0, none⟩)) F b2 E (flS si) (X2.setCell ⟨b2, 0, none⟩ (.int .i64 (E : Int))) := by
        refine ⟨⟨F2, V.dtK q1 (fun i hi => hk2.block i (V.dtB q1 i hi) (fun e => ?_)) hk2.size, hF3⟩, ?_, World.cell?_setCell_same' _ _ _ (by rw [z1]; rfl)⟩
        · rcases hF3 i hi with q | q
          · have := HL.out _ q; omega
          · omega
        · refine (HP.out.1.trans q3 (fun i hi => ?_)).trans hk2 (fun i hi => Or.inr (by omega))
          rcases HP.out.2.1 i hi with q | q
          · exact Or.inl q
          · exact Or.inr (by omega)
      refine ⟨h1.put (kp_put _ w2.heap.size _) (fun q hq => by omega) (by rw [HB.out]; exact HL.out), (hk2.block _ ?_ (by omega)).trans ((q3.block _ HX.out.2 (fun e => ?_)).trans HX.out.1)⟩
      · exact Nat.lt_of_lt_of_le HX.out.2 q3.size
      · rcases HP.out.2.1 _ e with q | q
        · have := HL.out _ q; omega
        · omega
    clear hA z1 z2 hn1
    refine ⟨by simp, Or.inl ⟨w2.heap.size, _, rfl, run_takeDeferred (ds := []) HTe.out.2, ?_⟩⟩
    have z1 := HTe.out.1.c1
    exact ⟨.int .i64 (E : Int), by simp [results, Tryz.results58, go_sem, z1], by rw [HJs.out], by rw [HJs.out]; exact HTe.out.1.ad (by have := HZ.out; have := HB.out; omega)⟩
  case left =>
    rintro cd i X hi ⟨rfl, h1, h2⟩ hD
    have HX : Hid (X.heap[w2.heap.size]? = some (.deferred (some []))) := hD
    have HA : Hid (jfl js = js) := by
      show _ = _
      unfold jfl
      rw [if_pos h1]
    have HRf : Hid (Je V w (w2.heap.size + 2) (.pointer (some ⟨d, 0, none⟩)) F b2 js.1 js.2 (X.putObj w2.heap.size (.deferred none))) := h2.put (kp_put _ w2.heap.size _) (fun q hq => by have := HZ.out; have := HB.out; omega) (by rw [HB.out]; exact HL.out)
    clear h1 h2 hD hi
    refine wpIn_wide.2 ?_
    go_wp2
    refine ⟨by simp, Or.inl ⟨w2.heap.size, _, rfl, run_takeDeferred (ds := []) HX.out, ?_⟩⟩
    have z1 := HRf.out.c1
    exact ⟨.int .i64 ((js.1 : Nat) : Int), by simp [results, Tryz.results58, go_sem, z1], by rw [HA.out], by rw [HA.out]; exact HRf.out.ad (by have := HZ.out; have := HB.out; omega)⟩
  case body =>
    rintro i y a' X hy ⟨v', rfl, hX, hv1, hv2, hv3⟩ hsz
    have hr : i < cnt := by have := (List.getElem?_eq_some_iff.1 hy).1; rw [jps_len, HN.out.1, HN.out.2.1] at this; exact this
    obtain ⟨⟨si, F', q1, q2, q3, q4⟩, h2⟩ := hX
    obtain ⟨pc, hpc⟩ : ∃ pc, jcd r i = pc := ⟨_, rfl⟩
    rw [hpc] at hv1
    obtain ⟨av, cv, ev, -, -⟩ := hv1.len
    obtain ⟨np, hnp⟩ : ∃ np, pc.length = np := ⟨_, rfl⟩
    rw [hnp] at ev
    subst ev
    have HSZ : Hid (w2.heap.size + 2 ≤ X.heap.size) := hsz
    have hkB : Kq w2.heap.size F w2 X := h2
    have hPx : Pj X c d base size g n b := by
      refine (HD.out.2.2.2.2.1.later (by rw [HB.out]; exact H3.out.1)).kept ?_
      have hc := HD.out.2.2.2.2.1.lt
      have hz := HZ.out
      have hb := HB.out
      exact h2.block c (by omega) (by omega) (fun hf => HD.out.2.2.2.2.2.2.1 c hf rfl)
    have hTx : JT X := by
      have hc := HD.out.2.2.2.2.2.1.lt
      have hz := HZ.out
      have hb := HB.out
      exact (HD.out.2.2.2.2.2.1.later (by rw [HB.out]; exact H3.out.1)).kept (h2.block _ (by omega) (by omega) (fun hf => HD.out.2.2.2.2.2.2.2 _ hf rfl))
    have hx0 : X.cell? ⟨B, 0, none⟩ = some (.pointer (some ⟨c, 0, none⟩)) := cell_blk5 (a := ⟨B, 0, none⟩) (h2.block B (by have := HZ.out; omega) (by have := HZ.out; omega) (fun hf => by have := HL.out _ hf; omega)) H3.out.2.1
    have hx1 : X.cell? ⟨b1, 0, none⟩ = some (.slice ad m cap) := cell_blk5 (a := ⟨b1, 0, none⟩) (h2.block b1 (by have := HZ.out; omega) (by have := HZ.out; omega) (fun hf => by have := HL.out _ hf; have := HZ.out; omega)) H3.out.2.2.1
    have hbD : Below X.heap.size X X.drew := (Below.refl _ _).drew
    have HX : Hid (V.Dt X (.pointer (some ⟨d, 0, none⟩)) F' si ∧ (∀ k, F' k → F k ∨ w2.heap.size + 2 ≤ k) ∧ js = jwr P r n g (cnt - i) i si ∧ si.un.length ≤ s.un.length + i ∧ Kq w2.heap.size F w2 X ∧ Bs X (.slice av np cv) pc ∧ Nf F (.slice av np cv) ∧ Lo w2.heap.size (.slice av np cv)) := ⟨q1, q2, by rw [← q3]; exact HQ.out.symm, q4, h2, hv1, hv2, hv3⟩
    have HPc : Hid (jcd r i = pc ∧ pc.length = np ∧ np ≤ 104 ∧ (∀ x ∈ pc, x < 256) ∧ i < cnt) := ⟨hpc, hnp, by rw [← hnp, ← hpc]; exact jcd_len r i, by
      rw [← hpc]
      unfold jcd
      exact fun x hx => HD.out.2.2.2.1 x (List.mem_of_mem_drop (List.mem_of_mem_take hx)), hr⟩
    have HPx : Hid (Pj X c d base size g n b ∧ JT X) := ⟨hPx, hTx⟩
    have h3 := hPx.c3
    have h4 := hPx.c4
    have h5 := hPx.c5
    clear hr q1 q2 q3 q4 h2 hv1 hv2 hv3 hsz hy hpc hnp hkB hPx hTx
    gi_wp2
    have hS0 : Sw17 B b1 c (.pointer (some ⟨c, 0, none⟩)) (.slice ad m cap) g n b X.drew := ⟨cell_later hbD hx0, cell_later hbD hx1, cell_later hbD h3, cell_later hbD h4, cell_later hbD h5⟩
    refine region_round_held (Sw17 B b1 c (.pointer (some ⟨c, 0, none⟩)) (.slice ad m cap) g n b) (by kernel_rfl) (by kernel_rfl) (by rintro ⟨_, _, _, h⟩) hS0 (fun HS => ?_)
    have HX4 : Hid (Bs X.drew (.slice av np cv) pc ∧ JT X.drew ∧ Below X.heap.size X X.drew ∧ X.drew.heap.size = X.heap.size) := ⟨HX.out.2.2.2.2.2.1.later hbD, HPx.out.2.later hbD, hbD, rfl⟩
    have hzb := zero_jb17
    have HS2 : Hid (g < 9223372036854775808 ∧ n ≤ 1000000000 ∧ m ≤ 1000000000 ∧ i ≤ 1000000000) := by have := HS1.out; have := HN.out; have := HPc.out; exact ⟨by omega, by omega, by omega, by omega⟩
    have HTg : Hid (m < 18446744073709551616 ∧ prt m < 18446744073709551616 ∧ i < 18446744073709551616 ∧ n < 18446744073709551616 ∧ g < 18446744073709551616) := by have := HS1.out; have := HN.out; have := HPc.out; exact ⟨by omega, by omega, by omega, by omega, by omega⟩
    obtain ⟨bk, hbk⟩ : ∃ bk, jblk r i n g = bk := ⟨_, rfl⟩
    have HBk : Hid (jbN pc m (prt m) i n g = bk) := by
      show _ = _
      rw [← hbk, ← HPc.out.1, ← HN.out.1]
      rfl
    have HBl : Hid (jblk r i n g = bk ∧ bk.length = 128 ∧ ∀ x ∈ bk, x < 256) := ⟨hbk, by rw [← hbk]; exact jblk_len r i n g, by rw [← hbk]; exact (jblk_ok HD.out.2.2.2.1 i n g).2⟩
    clear hbD hx0 hx1 h3 h4 h5 hbk
    generalize X.drew = q0 at *
    have HA0 : Hid (Sw17 B b1 c (.pointer (some ⟨c, 0, none⟩)) (.slice ad m cap) g n b q0 ∧ Below q0.heap.size q0 q0) := ⟨hS0, Below.refl _ _⟩
    clear hS0
    refine wpAnyH_take (i := 0) (v := ?v1) rfl (by kernel_rfl) (by kernel_rfl) (by kernel_rfl) (fun _ _ _ h => h) (Or.inl ⟨by kernel_rfl, ?h1⟩) HS ?r1
    case h1 => (rintro w ⟨n0, n1, n2, n3, n4⟩; go_simp) <;> with_reducible rfl
    try simp only [Act.put, List.getElem_toArray, List.getElem_cons_succ, List.getElem_cons_zero, List.setIfInBounds_toArray, List.set_cons_zero, List.set_cons_succ]
    refine wpAnyH_take (i := 1) (v := ?v2) rfl (by kernel_rfl) (by kernel_rfl) (by kernel_rfl) (fun _ _ _ h => h) (Or.inl ⟨by kernel_rfl, ?h2⟩) HS ?r2
    case h2 => (rintro w ⟨n0, n1, n2, n3, n4⟩; go_simp) <;> with_reducible rfl
    try simp only [Act.put, List.getElem_toArray, List.getElem_cons_succ, List.getElem_cons_zero, List.setIfInBounds_toArray, List.set_cons_zero, List.set_cons_succ]
    refine wpAnyH_take (i := 2) (v := ?v3) rfl (by kernel_rfl) (by kernel_rfl) (by kernel_rfl) (fun _ _ _ h => h) (Or.inl ⟨by kernel_rfl, ?h3⟩) HS ?r3
    case h3 => (rintro w ⟨n0, n1, n2, n3, n4⟩; go_simp) <;> with_reducible rfl
    try simp only [Act.put, List.getElem_toArray, List.getElem_cons_succ, List.getElem_cons_zero, List.setIfInBounds_toArray, List.set_cons_zero, List.set_cons_succ]
    refine wpAnyH_take (i := 3) (v := ?v4) rfl (by kernel_rfl) (by kernel_rfl) (by kernel_rfl) (fun _ _ _ h => h) (Or.inl ⟨by kernel_rfl, ?h4⟩) HS ?r4
    case h4 => (rintro w ⟨n0, n1, n2, n3, n4⟩; go_simp) <;> with_reducible rfl
    try simp only [Act.put, List.getElem_toArray, List.getElem_cons_succ, List.getElem_cons_zero, List.setIfInBounds_toArray, List.set_cons_zero, List.set_cons_succ]
    refine wpAnyH_take (i := 4) (v := ?v5) rfl (by kernel_rfl) (by kernel_rfl) (by kernel_rfl) (fun _ _ _ h => h) (Or.inl ⟨by kernel_rfl, ?h5⟩) HS ?r5
    case h5 => (rintro w ⟨n0, n1, n2, n3, n4⟩; go_simp) <;> with_reducible rfl
    try simp only [Act.put, List.getElem_toArray, List.getElem_cons_succ, List.getElem_cons_zero, List.setIfInBounds_toArray, List.set_cons_zero, List.set_cons_succ]
    refine wpAnyH_take (i := 5) (v := ?v6) rfl (by kernel_rfl) (by kernel_rfl) (by kernel_rfl) (fun _ _ _ h => h) (Or.inl ⟨by kernel_rfl, ?h6⟩) HS ?r6
    case h6 => (rintro w ⟨n0, n1, n2, n3, n4⟩; go_simp) <;> with_reducible rfl
    try simp only [Act.put, List.getElem_toArray, List.getElem_cons_succ, List.getElem_cons_zero, List.setIfInBounds_toArray, List.set_cons_zero, List.set_cons_succ]
    refine wpAnyH_take (i := 6) (v := ?v7) rfl (by kernel_rfl) (by kernel_rfl) (by kernel_rfl) (fun _ _ _ h => h) (Or.inl ⟨by kernel_rfl, ?h7⟩) HS ?r7
    case h7 => (rintro w ⟨n0, n1, n2, n3, n4⟩; go_simp) <;> with_reducible rfl
    try simp only [Act.put, List.getElem_toArray, List.getElem_cons_succ, List.getElem_cons_zero, List.setIfInBounds_toArray, List.set_cons_zero, List.set_cons_succ]
    refine wpAnyH_take (i := 7) (v := ?v8) rfl (by kernel_rfl) (by kernel_rfl) (by kernel_rfl) (fun _ _ _ h => h) (Or.inl ⟨by kernel_rfl, ?h8⟩) HS ?r8
    case h8 => (rintro w ⟨n0, n1, n2, n3, n4⟩; go_simp) <;> with_reducible rfl
    try simp only [Act.put, List.getElem_toArray, List.getElem_cons_succ, List.getElem_cons_zero, List.setIfInBounds_toArray, List.set_cons_zero, List.set_cons_succ]
    refine wpAnyH_ready (rs := [8, 10]) (by kernel_rfl) (by simp) ?_
    refine AllReadyH.cons rfl (fun K hK => ?xa) (AllReadyH.cons rfl (fun K hK => ?xb) AllReadyH.nil)
    case' xa =>
      go_simp
      refine (ptag17 g n b m i HS2.out.1 HS2.out.2.1 HS2.out.2.2.1 HS2.out.2.2.2 q0).mono ?_
      rintro e q1 ⟨rfl, hBq⟩
      have HA1 : Hid (Sw17 B b1 c (.pointer (some ⟨c, 0, none⟩)) (.slice ad m cap) g n b q1 ∧ Below q0.heap.size q0 q1) := ⟨HA0.out.1.later hBq, bchain HA0.out.2 hBq⟩
      refine hK.out _ _ HA1.out.1 (fun HS => ?_)
      clear hK K hBq
      try simp only [Act.put, List.getElem_toArray, List.getElem_cons_succ, List.getElem_cons_zero, List.setIfInBounds_toArray, List.set_cons_zero, List.set_cons_succ]
      refine wpAnyH_ready (rs := [9, 10]) (by kernel_rfl) (by simp) ?_
      refine AllReadyH.cons rfl (fun K hK => ?ya) (AllReadyH.cons rfl (fun K hK => ?yb) AllReadyH.nil)
      case' ya =>
        go_simp
        refine (blockOf17 q1 av np cv pc (HX4.out.1.later HA1.out.2) HPc.out.2.1 HPc.out.2.2.1 HPc.out.2.2.2.1 (HX4.out.2.1.later HA1.out.2) m (prt m) i n g HTg.out).mono ?_
        rintro e q2 ⟨rfl, hBq⟩
        rw [HBk.out]
        have HA2 : Hid (Sw17 B b1 c (.pointer (some ⟨c, 0, none⟩)) (.slice ad m cap) g n b q2 ∧ Below q0.heap.size q0 q2) := ⟨HA1.out.1.later hBq, bchain HA1.out.2 hBq⟩
        refine hK.out _ _ HA2.out.1 (fun HS => ?_)
        clear hK K hBq
        try simp only [Act.put, List.getElem_toArray, List.getElem_cons_succ, List.getElem_cons_zero, List.setIfInBounds_toArray, List.set_cons_zero, List.set_cons_succ]
        refine wpAnyH_ready (rs := [10]) (by kernel_rfl) (by simp) ?_
        refine AllReadyH.cons rfl (fun K hK => ?_) AllReadyH.nil
        refine alJ rfl 134 (b8 zr15) hzb rfl ?_
        intro q3 hV7 hBq hS7
        obtain ⟨g7, hg7⟩ : ∃ g7, q2.heap.size = g7 := ⟨_, rfl⟩
        rw [hg7] at hV7 ⊢
        have HG3 : Hid ((Sw17 B b1 c (.pointer (some ⟨c, 0, none⟩)) (.slice ad m cap) g n b q3 ∧ Below q0.heap.size q0 q3) ∧ Vb q3 g7 134 (b8 zr15) ∧ q0.heap.size ≤ g7) := ⟨⟨HA2.out.1.later hBq, bchain HA2.out.2 hBq⟩, hV7, by rw [← hg7]; exact HA2.out.2.size⟩
        refine hK.out _ _ HG3.out.1.1 (fun HS => ?_)
        clear hK K hBq hV7 hS7 hg7
        try simp only [Act.put, List.getElem_toArray, List.getElem_cons_succ, List.getElem_cons_zero, List.setIfInBounds_toArray, List.set_cons_zero, List.set_cons_succ]
      case' yb =>
        refine alJ rfl 134 (b8 zr15) hzb rfl ?_
        intro q2 hV7 hBq hS7
        obtain ⟨g7, hg7⟩ : ∃ g7, q1.heap.size = g7 := ⟨_, rfl⟩
        rw [hg7] at hV7 ⊢
        have HG2 : Hid ((Sw17 B b1 c (.pointer (some ⟨c, 0, none⟩)) (.slice ad m cap) g n b q2 ∧ Below q0.heap.size q0 q2) ∧ Vb q2 g7 134 (b8 zr15) ∧ q0.heap.size ≤ g7) := ⟨⟨HA1.out.1.later hBq, bchain HA1.out.2 hBq⟩, hV7, by rw [← hg7]; exact HA1.out.2.size⟩
        refine hK.out _ _ HG2.out.1.1 (fun HS => ?_)
        clear hK K hBq hV7 hS7 hg7
        try simp only [Act.put, List.getElem_toArray, List.getElem_cons_succ, List.getElem_cons_zero, List.setIfInBounds_toArray, List.set_cons_zero, List.set_cons_succ]
        refine wpAnyH_ready (rs := [9]) (by kernel_rfl) (by simp) ?_
        refine AllReadyH.cons rfl (fun K hK => ?_) AllReadyH.nil
        go_simp
        refine (blockOf17 q2 av np cv pc (HX4.out.1.later HG2.out.1.2) HPc.out.2.1 HPc.out.2.2.1 HPc.out.2.2.2.1 (HX4.out.2.1.later HG2.out.1.2) m (prt m) i n g HTg.out).mono ?_
        rintro e q3 ⟨rfl, hBq⟩
        rw [HBk.out]
        have HG3 : Hid ((Sw17 B b1 c (.pointer (some ⟨c, 0, none⟩)) (.slice ad m cap) g n b q3 ∧ Below q0.heap.size q0 q3) ∧ Vb q3 g7 134 (b8 zr15) ∧ q0.heap.size ≤ g7) := ⟨⟨HG2.out.1.1.later hBq, bchain HG2.out.1.2 hBq⟩, HG2.out.2.1.later hBq, HG2.out.2.2⟩
        refine hK.out _ _ HG3.out.1.1 (fun HS => ?_)
        clear hK K hBq
        try simp only [Act.put, List.getElem_toArray, List.getElem_cons_succ, List.getElem_cons_zero, List.setIfInBounds_toArray, List.set_cons_zero, List.set_cons_succ]
    case' xb =>
      refine alJ rfl 134 (b8 zr15) hzb rfl ?_
      intro q1 hV7 hBq hS7
      obtain ⟨g7, hg7⟩ : ∃ g7, q0.heap.size = g7 := ⟨_, rfl⟩
      rw [hg7] at hV7 ⊢
      have HG1 : Hid ((Sw17 B b1 c (.pointer (some ⟨c, 0, none⟩)) (.slice ad m cap) g n b q1 ∧ Below q0.heap.size q0 q1) ∧ Vb q1 g7 134 (b8 zr15) ∧ q0.heap.size ≤ g7) := ⟨⟨HA0.out.1.later hBq, bchain HA0.out.2 hBq⟩, hV7, by rw [← hg7]; exact HA0.out.2.size⟩
      refine hK.out _ _ HG1.out.1.1 (fun HS => ?_)
      clear hK K hBq hV7 hS7 hg7
      try simp only [Act.put, List.getElem_toArray, List.getElem_cons_succ, List.getElem_cons_zero, List.setIfInBounds_toArray, List.set_cons_zero, List.set_cons_succ]
      refine wpAnyH_ready (rs := [8]) (by kernel_rfl) (by simp) ?_
      refine AllReadyH.cons rfl (fun K hK => ?_) AllReadyH.nil
      go_simp
      refine (ptag17 g n b m i HS2.out.1 HS2.out.2.1 HS2.out.2.2.1 HS2.out.2.2.2 q1).mono ?_
      rintro e q2 ⟨rfl, hBq⟩
      have HG2 : Hid ((Sw17 B b1 c (.pointer (some ⟨c, 0, none⟩)) (.slice ad m cap) g n b q2 ∧ Below q0.heap.size q0 q2) ∧ Vb q2 g7 134 (b8 zr15) ∧ q0.heap.size ≤ g7) := ⟨⟨HG1.out.1.1.later hBq, bchain HG1.out.1.2 hBq⟩, HG1.out.2.1.later hBq, HG1.out.2.2⟩
      refine hK.out _ _ HG2.out.1.1 (fun HS => ?_)
      clear hK K hBq
      try simp only [Act.put, List.getElem_toArray, List.getElem_cons_succ, List.getElem_cons_zero, List.setIfInBounds_toArray, List.set_cons_zero, List.set_cons_succ]
      refine wpAnyH_ready (rs := [9]) (by kernel_rfl) (by simp) ?_
      refine AllReadyH.cons rfl (fun K hK => ?_) AllReadyH.nil
      go_simp
      refine (blockOf17 q2 av np cv pc (HX4.out.1.later HG2.out.1.2) HPc.out.2.1 HPc.out.2.2.1 HPc.out.2.2.2.1 (HX4.out.2.1.later HG2.out.1.2) m (prt m) i n g HTg.out).mono ?_
      rintro e q3 ⟨rfl, hBq⟩
      rw [HBk.out]
      have HG3 : Hid ((Sw17 B b1 c (.pointer (some ⟨c, 0, none⟩)) (.slice ad m cap) g n b q3 ∧ Below q0.heap.size q0 q3) ∧ Vb q3 g7 134 (b8 zr15) ∧ q0.heap.size ≤ g7) := ⟨⟨HG2.out.1.1.later hBq, bchain HG2.out.1.2 hBq⟩, HG2.out.2.1.later hBq, HG2.out.2.2⟩
      refine hK.out _ _ HG3.out.1.1 (fun HS => ?_)
      clear hK K hBq
      try simp only [Act.put, List.getElem_toArray, List.getElem_cons_succ, List.getElem_cons_zero, List.setIfInBounds_toArray, List.set_cons_zero, List.set_cons_succ]
    all_goals
      refine wpAnyH_ready (rs := [11]) (by kernel_rfl) (by simp) ?_
      refine AllReadyH.cons rfl (fun K hK => ?_) AllReadyH.nil
      refine stJ rfl 134 _ _ rfl g7 (b8 zr15) (b8 bk) rfl rfl HG3.out.2.1 (by rw [b8_len, b8_len, HBl.out.2.1, zr_len]) (by rw [b8_len, HBl.out.2.1]; exact sz_jb17) (b8_one _) ?_
      intro qs hVs hKs hSs
      have hSw : Sw17 B b1 c (.pointer (some ⟨c, 0, none⟩)) (.slice ad m cap) g n b qs := by
        have hz := HZ.out
        have hq := HX4.out.2.2.2
        have hg := HG3.out.2.2
        have hx := HSZ.out
        have hpl := HPx.out.1.lt
        have h := HG3.out.1.1
        have k3 : qs.heap[c]? = q3.heap[c]? := hKs.block c (World.block_lt_of_cell? _ _ h.n2) (by omega)
        exact ⟨cell_blk5 (a := ⟨B, 0, none⟩) (hKs.block B (World.block_lt_of_cell? _ _ h.n0) (by omega)) h.n0, cell_blk5 (a := ⟨b1, 0, none⟩) (hKs.block b1 (World.block_lt_of_cell? _ _ h.n1) (by omega)) h.n1, cell_blk5 (a := ⟨c, 3, none⟩) k3 h.n2, cell_blk5 (a := ⟨c, 4, none⟩) k3 h.n3, cell_blk5 (a := ⟨c, 5, none⟩) k3 h.n4⟩
      have HY : Hid (Below X.heap.size X qs ∧ Vb qs g7 134 (b8 bk) ∧ X.heap.size ≤ g7) := by
        have hq := HX4.out.2.2.2
        have hg := HG3.out.2.2
        refine ⟨?_, hVs, by omega⟩
        have h1 := hKs.next HG3.out.1.2 (fun i hi => by omega) (by have := HG3.out.1.2.size; omega)
        rw [hq] at h1
        exact HX4.out.2.2.1.trans h1
      refine hK.out _ _ hSw (fun HS => ?_)
      clear hK K hVs hKs hSs hSw HG3 HS
      try simp only [Act.put, List.getElem_toArray, List.getElem_cons_succ, List.getElem_cons_zero, List.setIfInBounds_toArray, List.set_cons_zero, List.set_cons_succ]
      refine wpAnyH_done (by kernel_rfl) ?_ _
      gi_wp2
      have hbD : Below qs.heap.size qs qs.drew := (Below.refl _ _).drew
      have hkX : Below X.heap.size X qs.drew := HY.out.1.drew
      have HYd : Hid (Below X.heap.size X qs.drew ∧ Vb qs.drew g7 134 (b8 bk) ∧ X.heap.size ≤ g7) := ⟨hkX, HY.out.2.1, HY.out.2.2⟩
      have hSv : Sv17 B c d base b qs.drew := by
        refine ⟨cell_later hkX ?_, cell_later hkX HPx.out.1.c0, cell_later hkX HPx.out.1.c1, cell_later hkX HPx.out.1.c5⟩
        exact cell_blk5 (a := ⟨B, 0, none⟩) (HX.out.2.2.2.2.1.block B (by have := HZ.out; omega) (by have := HZ.out; omega) (fun hf => by have := HL.out _ hf; omega)) H3.out.2.1
      obtain ⟨Q, hQ⟩ : ∃ Q, P + i = Q := ⟨_, rfl⟩
      have y1 : IntKind.i64.wrap ((base : Int) + (b : Int)) = (P : Int) := by rw [IntKind.wrap_i64]; have := HN.out; omega
      have y2 : IntKind.i64.wrap ((P : Int) + (i : Int)) = (Q : Int) := by rw [IntKind.wrap_i64]; have := HN.out; have := HPc.out; omega
      have hbs : Bs qs.drew (.slice (some ⟨g7, 0, none⟩) 128 128) bk := by
        have h := HYd.out.2.1.bs 0 bk (fun j hj => by rw [Nat.zero_add]; exact b8_cell _ _ hj) 128 (by have := HBl.out.2.1; omega) (by unfold maxLen; omega)
        rw [HBl.out.2.1] at h
        exact h
      have C := V.write qs.drew (.pointer (some ⟨d, 0, none⟩)) F' si (Q : Int) (.slice (some ⟨g7, 0, none⟩) 128 128) bk (V.dtK HX.out.1 (fun k hk => hkX.block k (V.dtB HX.out.1 k hk)) hkX.size) hbs (fun a n c e hn hf => by cases e; have := V.dtB HX.out.1 _ hf; have := HYd.out.2.2; dsimp only at *; omega) HBl.out.2.2 (by rw [HBl.out.2.1]; omega) (by have := HX.out.2.2.2.1; have := HS1.out; have := HPc.out; have := HN.out; omega)
      obtain ⟨E, hE⟩ : ∃ E, wrE si (Q : Int) bk = E := ⟨_, rfl⟩
      rw [hE] at C
      have HE : Hid (P + i = Q ∧ wrE si (Q : Int) bk = E) := ⟨hQ, hE⟩
      have hstep : js = if E ≠ 0 then (E, wrS si (Q : Int) bk) else jwr P r n g (cnt - (i + 1)) (i + 1) (wrS si (Q : Int) bk) := by
        rw [HX.out.2.2.1, show cnt - i = (cnt - (i + 1)) + 1 by have := HPc.out; omega, ← hE, ← hQ, ← HBl.out.1]
        rfl
      have HQs : Hid (js = if E ≠ 0 then (E, wrS si (Q : Int) bk) else jwr P r n g (cnt - (i + 1)) (i + 1) (wrS si (Q : Int) bk)) := hstep
      have hnF : ¬ F' B ∧ ¬ F' c ∧ ¬ F' b2 := by
        have hz := HZ.out
        have hb := HB.out
        have hc := HD.out.2.2.2.2.1.lt
        refine ⟨fun hf => ?_, fun hf => ?_, fun hf => ?_⟩
        · rcases HX.out.2.1 _ hf with q | q
          · have := HL.out _ q; omega
          · omega
        · rcases HX.out.2.1 _ hf with q | q
          · exact HD.out.2.2.2.2.2.2.1 c q rfl
          · omega
        · rcases HX.out.2.1 _ hf with q | q
          · have := HL.out _ q; omega
          · omega
      have HnF : Hid (¬ F' B ∧ ¬ F' c ∧ ¬ F' b2) := hnF
      clear hbD hkX hQ hE hstep hbs HY hnF
      refine region_round_held (Sv17 B c d base b) (by kernel_rfl) (by kernel_rfl) (by rintro ⟨_, _, _, h⟩) hSv (fun HS => ?_)
      clear hSv
      generalize qs.drew = q4 at *
      refine wpAnyH_take (i := 0) (v := ?_) rfl (by kernel_rfl) (by kernel_rfl) (by kernel_rfl) (fun _ _ _ h => h) (Or.inl ⟨by kernel_rfl, ?_⟩) HS ?_
      rotate_left
      · (rintro w ⟨n0, n1, n2, n3⟩; go_simp) <;> with_reducible rfl
      try simp only [Act.put, List.getElem_toArray, List.getElem_cons_succ, List.getElem_cons_zero, List.setIfInBounds_toArray, List.set_cons_zero, List.set_cons_succ]
      refine wpAnyH_take (i := 1) (v := ?_) rfl (by kernel_rfl) (by kernel_rfl) (by kernel_rfl) (fun _ _ _ h => h) (Or.inl ⟨by kernel_rfl, ?_⟩) HS ?_
      rotate_left
      · (rintro w ⟨n0, n1, n2, n3⟩; go_simp) <;> with_reducible rfl
      try simp only [Act.put, List.getElem_toArray, List.getElem_cons_succ, List.getElem_cons_zero, List.setIfInBounds_toArray, List.set_cons_zero, List.set_cons_succ]
      refine wpAnyH_take (i := 2) (v := ?_) rfl (by kernel_rfl) (by kernel_rfl) (by kernel_rfl) (fun _ _ _ h => h) (Or.inl ⟨by kernel_rfl, ?_⟩) HS ?_
      rotate_left
      · (rintro w ⟨n0, n1, n2, n3⟩; go_simp) <;> with_reducible rfl
      try simp only [Act.put, List.getElem_toArray, List.getElem_cons_succ, List.getElem_cons_zero, List.setIfInBounds_toArray, List.set_cons_zero, List.set_cons_succ]
      refine wpAnyH_take (i := 3) (v := ?_) rfl (by kernel_rfl) (by kernel_rfl) (by kernel_rfl) (fun _ _ _ h => h) (Or.inl ⟨by kernel_rfl, ?_⟩) HS ?_
      rotate_left
      · (rintro w ⟨n0, n1, n2, n3⟩; go_simp) <;> with_reducible rfl
      try simp only [Act.put, List.getElem_toArray, List.getElem_cons_succ, List.getElem_cons_zero, List.setIfInBounds_toArray, List.set_cons_zero, List.set_cons_succ]
      refine wpAnyH_take (i := 4) (v := ?_) rfl (by kernel_rfl) (by kernel_rfl) (by kernel_rfl) (fun _ _ _ h => h) (Or.inl ⟨by kernel_rfl, ?_⟩) HS ?_
      rotate_left
      · (rintro w ⟨n0, n1, n2, n3⟩; go_simp) <;> with_reducible rfl
      try simp only [Act.put, List.getElem_toArray, List.getElem_cons_succ, List.getElem_cons_zero, List.setIfInBounds_toArray, List.set_cons_zero, List.set_cons_succ]
      refine wpAnyH_take (i := 5) (v := ?_) rfl (by kernel_rfl) (by kernel_rfl) (by kernel_rfl) (fun _ _ _ h => h) (Or.inl ⟨by kernel_rfl, ?_⟩) HS ?_
      rotate_left
      · (rintro w ⟨n0, n1, n2, n3⟩; go_simp) <;> with_reducible rfl
      try simp only [Act.put, List.getElem_toArray, List.getElem_cons_succ, List.getElem_cons_zero, List.setIfInBounds_toArray, List.set_cons_zero, List.set_cons_succ]
      refine wpAnyH_take (i := 6) (v := ?_) rfl (by kernel_rfl) (by kernel_rfl) (by kernel_rfl) (fun _ _ _ h => h) (Or.inl ⟨by kernel_rfl, ?_⟩) HS ?_
      rotate_left
      · (rintro w ⟨n0, n1, n2, n3⟩; go_simp) <;> with_reducible rfl
      try simp only [Act.put, List.getElem_toArray, List.getElem_cons_succ, List.getElem_cons_zero, List.setIfInBounds_toArray, List.set_cons_zero, List.set_cons_succ]
      refine wpAnyH_take (i := 7) (v := ?_) rfl (by kernel_rfl) (by kernel_rfl) (by kernel_rfl) (fun _ _ _ h => h) (Or.inl ⟨by kernel_rfl, ?_⟩) HS ?_
      rotate_left
      · (rintro w ⟨n0, n1, n2, n3⟩; go_simp) <;> with_reducible rfl
      try simp only [Act.put, List.getElem_toArray, List.getElem_cons_succ, List.getElem_cons_zero, List.setIfInBounds_toArray, List.set_cons_zero, List.set_cons_succ]
      refine wpAnyH_take (i := 8) (v := ?_) rfl (by kernel_rfl) (by kernel_rfl) (by kernel_rfl) (fun _ _ _ h => h) (Or.inl ⟨by kernel_rfl, ?_⟩) HS ?_
      rotate_left
      · (rintro w ⟨n0, n1, n2, n3⟩; go_simp) <;> with_reducible rfl
      try simp only [Act.put, List.getElem_toArray, List.getElem_cons_succ, List.getElem_cons_zero, List.setIfInBounds_toArray, List.set_cons_zero, List.set_cons_succ]
      refine wpAnyH_take (i := 9) (v := ?_) rfl (by kernel_rfl) (by kernel_rfl) (by kernel_rfl) (fun _ _ _ h => h) (Or.inl ⟨by kernel_rfl, ?_⟩) HS ?_
      rotate_left
      · (rintro w ⟨n0, n1, n2, n3⟩; go_simp) <;> with_reducible rfl
      try simp only [Act.put, List.getElem_toArray, List.getElem_cons_succ, List.getElem_cons_zero, List.setIfInBounds_toArray, List.set_cons_zero, List.set_cons_succ]
      refine wpAnyH_take (i := 10) (v := ?_) rfl (by kernel_rfl) (by kernel_rfl) (by kernel_rfl) (fun _ _ _ h => h) (Or.inl ⟨by kernel_rfl, ?_⟩) HS ?_
      rotate_left
      · (rintro w ⟨n0, n1, n2, n3⟩; go_simp) <;> with_reducible rfl
      try simp only [Act.put, List.getElem_toArray, List.getElem_cons_succ, List.getElem_cons_zero, List.setIfInBounds_toArray, List.set_cons_zero, List.set_cons_succ]
      refine wpAnyH_take (i := 11) (v := ?_) rfl (by kernel_rfl) (by kernel_rfl) (by kernel_rfl) (fun _ _ _ h => h) (Or.inl ⟨by kernel_rfl, ?_⟩) HS ?_
      rotate_left
      · (rintro w ⟨n0, n1, n2, n3⟩; go_simp) <;> with_reducible rfl
      try simp only [Act.put, List.getElem_toArray, List.getElem_cons_succ, List.getElem_cons_zero, List.setIfInBounds_toArray, List.set_cons_zero, List.set_cons_succ]
      refine wpAnyH_take (i := 12) (v := ?_) rfl (by kernel_rfl) (by kernel_rfl) (by kernel_rfl) (fun _ _ _ h => h) (Or.inl ⟨by kernel_rfl, ?_⟩) HS ?_
      rotate_left
      · (rintro w ⟨n0, n1, n2, n3⟩; go_simp) <;> with_reducible rfl
      try simp only [Act.put, List.getElem_toArray, List.getElem_cons_succ, List.getElem_cons_zero, List.setIfInBounds_toArray, List.set_cons_zero, List.set_cons_succ]
      refine wpAnyH_take (i := 13) (v := ?_) rfl (by kernel_rfl) (by kernel_rfl) (by kernel_rfl) (fun _ _ _ h => h) (Or.inl ⟨by kernel_rfl, ?_⟩) HS ?_
      rotate_left
      · (rintro w ⟨n0, n1, n2, n3⟩; go_simp) <;> with_reducible rfl
      try simp only [Act.put, List.getElem_toArray, List.getElem_cons_succ, List.getElem_cons_zero, List.setIfInBounds_toArray, List.set_cons_zero, List.set_cons_succ]
      refine wpAnyH_take (i := 14) (v := ?_) rfl (by kernel_rfl) (by kernel_rfl) (by kernel_rfl) (fun _ _ _ h => h) (Or.inl ⟨by kernel_rfl, ?_⟩) HS ?_
      rotate_left
      · (rintro w ⟨n0, n1, n2, n3⟩; go_simp) <;> with_reducible rfl
      try simp only [Act.put, List.getElem_toArray, List.getElem_cons_succ, List.getElem_cons_zero, List.setIfInBounds_toArray, List.set_cons_zero, List.set_cons_succ]
      refine wpAnyH_take (i := 15) (v := ?_) rfl (by kernel_rfl) (by kernel_rfl) (by kernel_rfl) (fun _ _ _ h => h) (Or.inl ⟨by kernel_rfl, ?_⟩) HS ?_
      rotate_left
      · (rintro w ⟨n0, n1, n2, n3⟩; go_simp) <;> with_reducible rfl
      try simp only [Act.put, List.getElem_toArray, List.getElem_cons_succ, List.getElem_cons_zero, List.setIfInBounds_toArray, List.set_cons_zero, List.set_cons_succ]
      refine wpAnyH_take (i := 16) (v := ?_) rfl (by kernel_rfl) (by kernel_rfl) (by kernel_rfl) (fun _ _ _ h => h) (Or.inl ⟨by kernel_rfl, ?_⟩) HS ?_
      rotate_left
      · (rintro w ⟨n0, n1, n2, n3⟩; go_simp) <;> with_reducible rfl
      try simp only [Act.put, List.getElem_toArray, List.getElem_cons_succ, List.getElem_cons_zero, List.setIfInBounds_toArray, List.set_cons_zero, List.set_cons_succ]
      refine wpAnyH_ready (rs := [17]) (by kernel_rfl) (by simp) ?_
      refine AllReadyH.cons rfl (fun K hK => ?_) AllReadyH.nil
      go_simp
      refine C.mono ?_
      rintro e X2 ⟨rfl, hA⟩
      have hSv2 : Sv17 B c d base b X2 := by
        obtain ⟨F2, z1, z2, z3⟩ := hA
        exact ⟨z3.cell HnF.out.1 HS.n0, z3.cell HnF.out.2.1 HS.n1, z3.cell HnF.out.2.1 HS.n2, z3.cell HnF.out.2.1 HS.n3⟩
      refine hK.out _ _ hSv2 (fun HS => ?_)
      clear hK K C hSv2
      try simp only [Act.put, List.getElem_toArray, List.getElem_cons_succ, List.getElem_cons_zero, List.setIfInBounds_toArray, List.set_cons_zero, List.set_cons_succ]
      refine wpAnyH_take (i := 18) (v := ?_) rfl (by kernel_rfl) (by kernel_rfl) (by kernel_rfl) (fun _ _ _ h => h) (Or.inl ⟨by kernel_rfl, ?_⟩) HS ?_
      rotate_left
      · (rintro w ⟨n0, n1, n2, n3⟩; go_simp) <;> with_reducible rfl
      try simp only [Act.put, List.getElem_toArray, List.getElem_cons_succ, List.getElem_cons_zero, List.setIfInBounds_toArray, List.set_cons_zero, List.set_cons_succ]
      refine wpAnyH_done (by kernel_rfl) ?_ _
      have hI : ∃ F2 : Nat → Prop, V.Dt X2 (.pointer (some ⟨d, 0, none⟩)) F2 (wrS si (Q : Int) bk) ∧ (∀ k, F2 k → F k ∨ w2.heap.size + 2 ≤ k) ∧ Kq (w2.heap.size + 2) F X X2 := by
        obtain ⟨F2, z1, z2, z3⟩ := hA
        have hx := HSZ.out
        have hy := HYd.out.1.size
        refine ⟨F2, z1, fun k hk => ?_, ⟨z3.os.trans HYd.out.1.os, z3.tape.trans HYd.out.1.tape, z3.output.trans HYd.out.1.output, Nat.le_trans hy z3.size, fun k hk hk2 hn => ?_⟩⟩
        · rcases z2 k hk with q | q
          · exact HX.out.2.1 k q
          · right; omega
        · refine (z3.block k (Nat.lt_of_lt_of_le hk2 hy) (fun e => ?_)).trans (HYd.out.1.block k hk2)
          rcases HX.out.2.1 k e with q | q
          · exact hn q
          · omega
      obtain ⟨F2, z1, z2, z3⟩ := hI
      have hkq : Kq w2.heap.size F w2 X2 := HX.out.2.2.2.2.1.trans (z3.mono (by omega) (fun k h => h))
      have hun := wrS_un17 si (Q : Int) bk
      by_cases hE0 : E = 0
      · have hJ : Jw V w2 (.pointer (some ⟨d, 0, none⟩)) F s P r n g cnt (i + 1) X2 := ⟨⟨_, F2, z1, z2, by rw [HQ.out, HQs.out, if_neg (by omega)], by have := HX.out.2.2.2.1; omega⟩, hkq⟩
        have HI : Hid (Jw V w2 (.pointer (some ⟨d, 0, none⟩)) F s P r n g cnt (i + 1) X2 ∧ Kq (w2.heap.size + 2) F X X2) := ⟨hJ, z3⟩
        subst hE0
        clear z1 z2 z3 hkq hun hJ hA HS
        gi_wp2
        exact HI.out
      · have hEI : ¬ (E : Int) = 0 := by omega
        have hjs : js = (E, wrS si (Q : Int) bk) := by rw [HQs.out, if_pos hE0]
        have e2 : X2.heap[b2]? = w2.heap[b2]? := hkq.block b2 (by have := HZ.out; omega) (by have := HZ.out; omega) (fun e => by have := HZ.out; have := HL.out _ e; omega)
        have y1' : X2.cell? ⟨b2, 0, none⟩ = some (.int .i64 0) := cell_blk5 (a := ⟨b2, 0, none⟩) e2 H3.out.2.2.2.1
        have y2' : X2.frozen? ⟨b2, 0, none⟩ = false := frz_blk5 (a := ⟨b2, 0, none⟩) e2 H3.out.2.2.2.2
        have HI : Hid (js.1 ≠ 0 ∧ Je V w (w2.heap.size + 2) (.pointer (some ⟨d, 0, none⟩)) F b2 js.1 js.2 (X2.setCell ⟨b2, 0, none⟩ (.int .i64 (E : Int))) ∧ Kq (w2.heap.size + 2) (fun k => F k ∨ k = b2) X (X2.setCell ⟨b2, 0, none⟩ (.int .i64 (E : Int)))) := by
          rw [hjs]
          have hk2 : Kp (fun k => k = b2) X2 (X2.setCell ⟨b2, 0, none⟩ (.int .i64 (E : Int))) := Kp.set (F := fun k => k = b2) (Kp.refl _ _) (Or.inl rfl) _
          refine ⟨hE0, ⟨⟨F2, V.dtK z1 (fun i hi => hk2.block i (V.dtB z1 i hi) (fun e => ?_)) hk2.size, z2⟩, ?_, World.cell?_setCell_same' _ _ _ (by rw [y1']; rfl)⟩, ?_⟩
          · have := HZ.out
            rcases z2 i hi with q | q
            · have := HL.out _ q; omega
            · omega
          · have hz := HZ.out
            have hb := HB.out
            have hbl := H3.out.1
            have h5 := hkq.size
            refine ⟨hk2.os.trans (hkq.os.trans hbl.os), hk2.tape.trans (hkq.tape.trans hbl.tape), hk2.output.trans (hkq.output.trans hbl.output), by have := hk2.size; omega, fun i hi hn => ?_⟩
            exact (hk2.block i (by omega) (by omega)).trans ((hkq.block i (by omega) (by omega) (fun e => hn e)).trans (hbl.block i (by omega)))
          · exact (z3.mono (Nat.le_refl _) (fun k h => Or.inl h)).trans ((Kq.of hk2).mono (Nat.le_refl _) (fun k h => Or.inr h))
        have hj1 : js.1 = E := by rw [hjs]
        clear z1 z2 z3 hkq hun hA HS e2 hjs
        gi_wp2
        exact ⟨⟨rfl, HI.out.1, HI.out.2.1⟩, HI.out.2.2⟩
end Go.Proofs.YthnpdcblfocemaaGreatDoor
