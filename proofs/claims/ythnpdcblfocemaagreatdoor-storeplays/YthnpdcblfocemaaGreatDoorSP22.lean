/-
  Texts of this proof, joined: SqD CWalk.
-/
import Derived.Test.YthnpdcblfocemaaGreatDoorSP00
import Derived.Test.YthnpdcblfocemaaGreatDoorSP02
import Derived.Test.YthnpdcblfocemaaGreatDoorSP14
import Derived.Test.YthnpdcblfocemaaGreatDoorSP15
import Derived.Test.YthnpdcblfocemaaGreatDoorSP21
set_option linter.unusedVariables false
set_option linter.unusedSimpArgs false
namespace Go.Proofs.YthnpdcblfocemaaGreatDoor
open Go.RowKit Go.Shelf
attribute [local go_sem] Oper.semAt_some

def twE (a : Nat) (d : List Nat) (s : Dsk) : Nat := if (svW a d ((d.length + 127) / 128) 0 s).1 ≠ 0 then (svW a d ((d.length + 127) / 128) 0 s).1 else flE (svW a d ((d.length + 127) / 128) 0 s).2
def twS (a : Nat) (d : List Nat) (s : Dsk) : Dsk := if (svW a d ((d.length + 127) / 128) 0 s).1 ≠ 0 then (svW a d ((d.length + 127) / 128) 0 s).2 else flS (svW a d ((d.length + 127) / 128) 0 s).2
structure Tw (V : Disk1) (w2 : World) (p : Value) (F : Nat → Prop) (s : Dsk) (a : Nat) (d : List Nat) (cnt b2 : Nat) (r : Nat) (X : World) : Prop where
  dk : ∃ (si : Dsk) (F' : Nat → Prop), V.Dt X p F' si ∧ (∀ k, F' k → F k ∨ w2.heap.size + 2 ≤ k) ∧ svW a d cnt 0 s = svW a d (cnt - r) r si ∧ si.un.length ≤ s.un.length + r
  kq : Kq w2.heap.size (fun k => F k ∨ k = b2) w2 X
  c3 : X.cell? ⟨b2, 0, none⟩ = some (.int .i64 ((a + r : Nat) : Int))
  f3 : X.frozen? ⟨b2, 0, none⟩ = false
theorem Tw.put {V : Disk1} {w2 : World} {p : Value} {F : Nat → Prop} {s : Dsk} {a : Nat} {d : List Nat} {cnt b2 r : Nat} {X X' : World} (h : Tw V w2 p F s a d cnt b2 r X) (k : Kp (fun k => k = w2.heap.size + 1) X X') (hF : ∀ k, F k → k < w2.heap.size) (hb : b2 < w2.heap.size) : Tw V w2 p F s a d cnt b2 r X' := by
  obtain ⟨⟨si, F', q1, q2, q3, q4⟩, h2, h3, h4⟩ := h
  refine ⟨⟨si, F', V.dtK q1 (fun i hi => k.block i (V.dtB q1 i hi) (fun e => ?_)) k.size, q2, q3, q4⟩, ⟨k.os.trans h2.os, k.tape.trans h2.tape, k.output.trans h2.output, Nat.le_trans h2.size k.size, fun i hi hi2 hn => ?_⟩, k.cell (by dsimp only; omega) h3, k.frozen (by dsimp only; omega) h3 h4⟩
  · rcases q2 i hi with q | q
    · have := hF i q; omega
    · omega
  · exact (k.block i (Nat.lt_of_lt_of_le hi2 h2.size) (by omega)).trans (h2.block i hi hi2 hn)
structure Te (V : Disk1) (w : World) (N : Nat) (p : Value) (F : Nat → Prop) (b1 : Nat) (c : Nat) (s' : Dsk) (X : World) : Prop where
  dk : ∃ F' : Nat → Prop, V.Dt X p F' s' ∧ (∀ k, F' k → F k ∨ N ≤ k)
  kp : Kp F w X
  c1 : X.cell? ⟨b1, 0, none⟩ = some (.int .i64 (c : Int))
theorem Te.put {V : Disk1} {w : World} {N : Nat} {p : Value} {F : Nat → Prop} {b1 c : Nat} {s' : Dsk} {X X' : World} (h : Te V w N p F b1 c s' X) {G : Nat → Prop} (k : Kp G X X') (hG : ∀ k, G k → w.heap.size ≤ k ∧ b1 < k ∧ k < N) (hF : ∀ k, F k → k < w.heap.size) : Te V w N p F b1 c s' X' := by
  obtain ⟨⟨F', q1, q2⟩, h2, h3⟩ := h
  refine ⟨⟨F', V.dtK q1 (fun i hi => k.block i (V.dtB q1 i hi) (fun e => ?_)) k.size, q2⟩, h2.trans k (fun i hi => Or.inr (hG i hi).1), k.cell (fun q => by have := (hG _ q).2.1; dsimp only at this; omega) h3⟩
  have := hG i e
  rcases q2 i hi with q | q
  · have := hF i q; omega
  · omega
theorem Te.ad {V : Disk1} {w : World} {N : Nat} {p : Value} {F : Nat → Prop} {b1 c : Nat} {s' : Dsk} {X : World} (h : Te V w N p F b1 c s' X) (hw : w.heap.size ≤ N) : Ad V.Dt p F s' w X := by
  obtain ⟨⟨F', q1, q2⟩, h2, h3⟩ := h
  exact ⟨F', q1, fun k hk => by rcases q2 k hk with q | q; exact Or.inl q; exact Or.inr (by omega), h2⟩
set_option maxRecDepth 100000 in
set_option maxHeartbeats 8000000 in
theorem twrite16 (V : Disk1) (w : World) (p : Value) (F : Nat → Prop) (s : Dsk) (which a room nn : Nat) (v : Value) (d : List Nat) (h : V.Dt w p F s) (hv : Bs w v d) (hnf : Nf F v) (hb : ∀ c ∈ d, c < 256) (hl : d.length ≤ 64000) (hu : s.un.length ≤ 400) (ha : a ≤ 100000) :
    Calls Tryz.prog 84 #[.agg #[p, .int .i64 (which : Int), .int .i64 (a : Int), .int .i64 (room : Int), .int .i64 (nn : Int), v]] w fun e w' => e = .returned (.int .i64 ((twE a d s : Nat) : Int)) ∧ Ad V.Dt p F (twS a d s) w w' := by
  obtain ⟨ad, cap, rfl, -, -⟩ := hv.len
  obtain ⟨n, hn⟩ : ∃ n, d.length = n := ⟨_, rfl⟩
  obtain ⟨cnt, hcnt⟩ : ∃ cnt, (n + 127) / 128 = cnt := ⟨_, rfl⟩
  have HN : Hid (d.length = n ∧ (n + 127) / 128 = cnt ∧ n ≤ 64000) := ⟨hn, hcnt, by omega⟩
  have HS : Hid (s.un.length ≤ 400) := hu
  have HT : Hid (twE a d s = (if (svW a d cnt 0 s).1 ≠ 0 then (svW a d cnt 0 s).1 else flE (svW a d cnt 0 s).2) ∧ twS a d s = (if (svW a d cnt 0 s).1 ≠ 0 then (svW a d cnt 0 s).2 else flS (svW a d cnt 0 s).2)) := by
    unfold twE twS
    rw [hn, hcnt]
    exact ⟨rfl, rfl⟩
  have HL : Hid (∀ k, F k → k < w.heap.size) := fun k hk => V.dtB h k hk
  rw [hn] at hv hnf ⊢
  have HD : Hid (V.Dt w p F s ∧ Bs w (.slice ad n cap) d ∧ Nf F (.slice ad n cap) ∧ ∀ c ∈ d, c < 256) := ⟨h, hv, hnf, hb⟩
  clear h hv hnf hb hn hcnt hl hu
  refine (callsIn_wide (n := 10)).1 ?_
  refine callsIn_of_wp_marks Tryz.func84 rfl trivial ?_ rfl
  refine wpIn_wide.2 ?_
  simp only [Tryz.ntmps84, List.size_toArray, List.length_cons, List.length_nil, Nat.reduceAdd, Nat.reduceSub, Array.replicate_succ, Array.replicate_zero, List.push_toArray, List.append_toArray, List.nil_append, List.cons_append]
  go_upto_region 2 with fail
  obtain ⟨w1, hw1⟩ : ∃ w1, w1 = ((w.alloc (.cells #[p, .int .i64 (which : Int), .int .i64 (a : Int), .int .i64 (room : Int), .int .i64 (nn : Int), .slice ad n cap] 128)).alloc (.cells #[.int .i64 0] 26)).alloc (.cells #[.int .i64 (a : Int)] 3) := ⟨_, rfl⟩
  have H1 : Hid (Below w.heap.size w w1 ∧ w1.heap.size = w.heap.size + 3 ∧ w1.cell? ⟨w.heap.size, 0, none⟩ = some p ∧ w1.cell? ⟨w.heap.size, 5, none⟩ = some (.slice ad n cap) ∧ w1.cell? ⟨w.heap.size + 1, 0, none⟩ = some (.int .i64 0) ∧ w1.frozen? ⟨w.heap.size + 1, 0, none⟩ = false ∧ w1.cell? ⟨w.heap.size + 2, 0, none⟩ = some (.int .i64 (a : Int)) ∧ w1.frozen? ⟨w.heap.size + 2, 0, none⟩ = false) := by
    rw [hw1]
    exact ⟨((bel1 _ _).alloc (by simp) _).alloc (by simp; omega) _, by simp, by simp [go_sem], by simp [go_sem], by simp [go_sem], by simp [go_sem], by simp [go_sem], by simp [go_sem]⟩
  have hch := chunk16 ad n cap w1
  have c5 := H1.out.2.2.2.1
  rw [← hw1]
  clear hw1
  go_wp2_with (go_at_call 96; refine hch.mono ?_; rintro e w2 ⟨rfl, hw2⟩; clear hch c5)
  have hB2 : Below w1.heap.size w1 w2 := by rw [hw2]; exact bel2 _ _ _
  have H2 : Hid (w2.cell? ⟨w.heap.size + 3, 0, none⟩ = some (.slice ad n cap) ∧ w2.cell? ⟨w.heap.size + 4, 0, none⟩ = some (.int .i64 128) ∧ w2.heap.size = w.heap.size + 5) := by
    have e1 := H1.out.2.1
    rw [hw2, ← show w.heap.size + 3 + 1 = w.heap.size + 4 by rfl, ← e1]
    exact ⟨by simp [go_sem], by simp [go_sem], by simp; omega⟩
  have e1 := H1.out.2.1
  rw [e1, show w.heap.size + 3 + 1 = w.heap.size + 4 by rfl]
  have H3 : Hid (Below w.heap.size w w2 ∧ w2.cell? ⟨w.heap.size, 0, none⟩ = some p ∧ w2.cell? ⟨w.heap.size + 1, 0, none⟩ = some (.int .i64 0) ∧ w2.frozen? ⟨w.heap.size + 1, 0, none⟩ = false ∧ w2.cell? ⟨w.heap.size + 2, 0, none⟩ = some (.int .i64 (a : Int)) ∧ w2.frozen? ⟨w.heap.size + 2, 0, none⟩ = false) :=
    ⟨bchain H1.out.1 hB2, cell_later hB2 H1.out.2.2.1, cell_later hB2 H1.out.2.2.2.2.1, frozen_later hB2 H1.out.2.2.2.2.1 H1.out.2.2.2.2.2.1, cell_later hB2 H1.out.2.2.2.2.2.2.1, frozen_later hB2 H1.out.2.2.2.2.2.2.1 H1.out.2.2.2.2.2.2.2⟩
  rw [← hw2]
  clear hw2 hB2 H1 e1
  obtain ⟨B, hB⟩ : ∃ B, w.heap.size = B := ⟨_, rfl⟩
  have HB : Hid (w.heap.size = B) := hB
  rw [hB] at H2 H3 HL ⊢
  clear hB
  obtain ⟨b1, hb1⟩ : ∃ b1, B + 1 = b1 := ⟨_, rfl⟩
  obtain ⟨b2, hb2⟩ : ∃ b2, b1 + 1 = b2 := ⟨_, rfl⟩
  obtain ⟨b3, hb3⟩ : ∃ b3, B + 3 = b3 := ⟨_, rfl⟩
  obtain ⟨b4, hb4⟩ : ∃ b4, B + 4 = b4 := ⟨_, rfl⟩
  have HZ : Hid (b1 = B + 1 ∧ b2 = B + 2 ∧ b3 = B + 3 ∧ b4 = B + 4 ∧ w2.heap.size = B + 5) := ⟨hb1.symm, by omega, hb3.symm, hb4.symm, H2.out.2.2⟩
  rw [show B + 2 = b2 by omega, show B + 1 = b1 by omega] at H3
  rw [hb3, hb4] at H2
  rw [hb1, hb2, hb3, hb4]
  clear hb1 hb2 hb3 hb4
  have HTl : Hid (Tells0 Fence.wide 9 Tryz.prog 102 #[.pointer (some ⟨b3, 0, none⟩), .pointer (some ⟨b4, 0, none⟩)] (cks d) (EC16 (fun k => F k ∨ k = b2) w2.heap.size) (fun k => F k ∨ k = b2) w2) := by
    refine chunk_tells b3 b4 _ ad n cap d (HD.out.2.1.later (by rw [HB.out]; exact H3.out.1)) HN.out.1 (by have := HN.out.2.2; omega) ?_ ?_ ?_ H2.out.1 H2.out.2.1
    · intro a' n' c' e' hn' hf
      rcases hf with hf | hf
      · exact HD.out.2.2.1 a' n' c' e' hn' hf
      · cases e'
        obtain ⟨b', o', e', hc⟩ := HD.out.2.1.cel 0 (by rw [HN.out.1]; exact hn')
        cases e'
        have h1 := World.block_lt_of_cell? _ _ hc
        rw [HB.out] at h1
        dsimp only at h1 hf
        have := HZ.out
        omega
    · intro hf
      have := HZ.out
      rcases hf with hf | hf
      · have := HL.out _ hf; omega
      · omega
    · intro hf
      have := HZ.out
      rcases hf with hf | hf
      · have := HL.out _ hf; omega
      · omega
  refine (wpIn_wide (n := 10)).1 ?_
  have HLF : Hid (∀ k, F k → k < w2.heap.size) := fun k hk => by have := HL.out k hk; have := HZ.out; omega
  have HIR : Hid (∀ r, r < cnt → r ≤ 500) := fun r hr => by have := HN.out; omega
  refine range_told0 (FB := fun k => F k ∨ k = b2) rfl (by omega) (gf := 102) (lb := #[.pointer (some ⟨b3, 0, none⟩), .pointer (some ⟨b4, 0, none⟩)]) rfl trivial (enters_of Tryz.func102 (by kernel_rfl) rfl) HTl.out ?f4 ?f5 (fun k => F k ∨ k = b1 ∨ k = b2) ?f6
    (fun r X => Tw V w2 p F s a d cnt b2 r X) (fun c r X => c = .ret ∧ (svW a d cnt 0 s).1 ≠ 0 ∧ Te V w (w2.heap.size + 2) p F b1 (svW a d cnt 0 s).1 (svW a d cnt 0 s).2 X)
    (fun r a' X => ∃ v', a' = { tmps := #[Value.agg #[p, Value.int IntKind.i64 (which : Int), Value.int IntKind.i64 (a : Int), Value.int IntKind.i64 (room : Int), Value.int IntKind.i64 (nn : Int), Value.slice ad n cap], Value.pointer (some { block := B, off := 0 }), Value.pointer (some { block := b1, off := 0 }), Value.pointer (some { block := b2, off := 0 }), v', undef, Value.pointer (some { block := B, off := 0 }), Value.pointer (some { block := B, off := 2 }), Value.int IntKind.i64 (a : Int), Value.pointer (some { block := B, off := 5 }), Value.slice ad n cap, Value.func (Fn.func 102) #[] #[Value.pointer (some { block := b3, off := 0 }), Value.pointer (some { block := b4, off := 0 })], v', undef, undef, undef, undef, undef, undef, undef, undef, undef, undef, undef, undef, undef, undef, undef], defers := [] } ∧ Tw V w2 p F s a d cnt b2 r X ∧ Bs X v' (ck d r) ∧ Nf (fun k => F k ∨ k = b2) v' ∧ Lo w2.heap.size v')
    ?f7 ?f8 ?f9 ?f10 ?assign ?body ?done ?left
  case f4 => rintro y args Xp X ⟨v', rfl, -⟩; rfl
  case f5 => intro k hk; have := HZ.out; rcases hk with hk | hk; exact HLF.out k hk; omega
  case f6 => intro k hk; have := HZ.out; rcases hk with hk | hk; exact HLF.out k hk; omega
  case f7 => intro r X X' hX k; exact hX.put k HLF.out (by have := HZ.out; omega)
  case f8 =>
    rintro c r X X' ⟨rfl, h1, h2⟩ k
    exact ⟨rfl, h1, h2.put k (fun q hq => by have := HZ.out; have := HB.out; omega) (by rw [HB.out]; exact HL.out)⟩
  case f9 =>
    rintro r a' X X' ⟨v', ha', h1, h2, h3, h4⟩ k
    exact ⟨v', ha', h1.put k HLF.out (by have := HZ.out; omega), k.bs h2 (fun a n c e hn hf => by have := h4 a n c e hn; omega), h3, h4⟩
  case f10 =>
    exact ⟨⟨s, F, V.dtK HD.out.1 (fun i hi => H3.out.1.block i (HL.out i hi)) (by have := HZ.out; have := HB.out; omega), fun k hk => Or.inl hk, rfl, Nat.le_refl _⟩, ⟨rfl, rfl, rfl, Nat.le_refl _, fun _ _ _ _ => rfl⟩, H3.out.2.2.2.2.1, H3.out.2.2.2.2.2⟩
  case assign =>
    rintro r u args Xp X hu hX hpX ⟨v', rfl, hv1, hv2, hv3⟩ hsz hno
    have HX : Hid (Tw V w2 p F s a d cnt b2 r X ∧ Bs X v' (ck d r) ∧ Nf (fun k => F k ∨ k = b2) v' ∧ Lo w2.heap.size v') := by
      have hr : r < cnt := by have := (List.getElem?_eq_some_iff.1 hu).1; rw [cks_len, HN.out.1, HN.out.2.1] at this; exact this
      rw [cks_get d r (by rw [HN.out.1, HN.out.2.1]; exact hr)] at hu
      cases hu
      exact ⟨hX.put (Kp.of hpX) HLF.out (by have := HZ.out; omega), hv1, hv2, hv3⟩
    clear hX hpX hno hsz hv1 hv2 hv3 hu
    gi_wp2
    exact ⟨⟨v', rfl, HX.out⟩, Kq.of (Kp.refl _ _)⟩
  case done =>
    rintro X hX hD
    have HX : Hid (X.heap[w2.heap.size]? = some (.deferred (some [])) ∧ w2.heap.size < X.heap.size ∧ Tw V w2 p F s a d cnt b2 (cks d).length X) := ⟨hD, (Array.getElem?_eq_some_iff.1 hD).1, hX⟩
    rw [cks_len, HN.out.1, HN.out.2.1] at hX
    obtain ⟨⟨si, F', q1, q2, q3, q4⟩, h2, h3, h4⟩ := hX
    rw [Nat.sub_self] at q3
    have HA : Hid (twE a d s = flE si ∧ twS a d s = flS si) := by
      rw [HT.out.1, HT.out.2, q3]
      exact ⟨rfl, rfl⟩
    have hfl := V.flush X p F' si q1 (by have := HS.out; have := HN.out; omega)
    have HP : Hid (Kp F w X ∧ (∀ k, F' k → F k ∨ w2.heap.size + 2 ≤ k) ∧ X.cell? ⟨b1, 0, none⟩ = some (.int .i64 0) ∧ X.frozen? ⟨b1, 0, none⟩ = false) := by
      have hz := HZ.out
      have hb := HB.out
      have hbl := H3.out.1
      have e1 : X.heap[b1]? = w2.heap[b1]? := h2.block b1 (by omega) (by omega) (fun e => by rcases e with e | e; have := HL.out _ e; omega; omega)
      refine ⟨⟨h2.os.trans hbl.os, h2.tape.trans hbl.tape, h2.output.trans hbl.output, by have := h2.size; omega, fun i hi hn => ?_⟩, q2, cell_blk5 (a := ⟨b1, 0, none⟩) e1 H3.out.2.2.1, frz_blk5 (a := ⟨b1, 0, none⟩) e1 H3.out.2.2.2.1⟩
      exact (h2.block i (by omega) (by omega) (fun e => by rcases e with e | e; exact hn e; omega)).trans (hbl.block i (by omega))
    have c0 : X.cell? ⟨B, 0, none⟩ = some p := cell_blk5 (a := ⟨B, 0, none⟩) (h2.block B (by have := HZ.out; omega) (by have := HZ.out; omega) (fun e => by have := HZ.out; rcases e with e | e; have := HL.out _ e; omega; omega)) H3.out.2.1
    clear q1 q2 q3 q4 h2 h3 h4 hD
    go_upto_region 8 with fail
    have HXq : Hid (∃ si' : Dsk, si' = si ∧ flE si' = flE si) := ⟨si, rfl, rfl⟩
    obtain ⟨E, hE⟩ : ∃ E, flE si = E := ⟨_, rfl⟩
    rw [hE] at hfl HA
    have hn1 : ¬ F' b1 := fun e => by have := HZ.out; rcases HP.out.2.1 _ e with q | q; have := HL.out _ q; omega; omega
    have hfl2 : Calls Tryz.prog 78 #[p] X fun e X2 => e = .returned (.int .i64 (E : Int)) ∧ X2.cell? ⟨b1, 0, none⟩ = some (.int .i64 0) ∧ X2.frozen? ⟨b1, 0, none⟩ = false ∧ Ad V.Dt p F' (flS si) X X2 :=
      hfl.mono (fun e X2 ⟨h1, h2⟩ => ⟨h1, h2.choose_spec.2.2.cell hn1 HP.out.2.2.1, h2.choose_spec.2.2.frozen hn1 HP.out.2.2.1 HP.out.2.2.2, h2⟩)
    clear hfl
    go_wp2_with (go_at_call 78; refine hfl2.mono ?_; rintro e X2 ⟨rfl, z1, z2, hA⟩; clear hfl2)
    have HTe : Hid (Te V w (w2.heap.size + 1) p F b1 E (flS si) ((X2.setCell ⟨b1, 0, none⟩ (.int .i64 (E : Int))).putObj w2.heap.size (.deferred none)) ∧ (X2.setCell ⟨b1, 0, none⟩ (.int .i64 (E : Int))).heap[w2.heap.size]? = some (.deferred (some []))) := by
      obtain ⟨F2, q1, q2, q3⟩ := hA
      have hk2 : Kp (fun k => k = b1) X2 (X2.setCell ⟨b1, 0, none⟩ (.int .i64 (E : Int))) := Kp.set (F := fun k => k = b1) (Kp.refl _ _) (Or.inl rfl) _
      have hz := HZ.out
      have hb := HB.out
      have hF3 : ∀ k, F2 k → F k ∨ w2.heap.size + 1 ≤ k := fun k hk => by
        have h1 := HX.out.2.1
        rcases q2 k hk with q | q
        · rcases HP.out.2.1 k q with q | q
          · exact Or.inl q
          · right; omega
        · right
          omega
      have h1 : Te V w (w2.heap.size + 1) p F b1 E (flS si) (X2.setCell ⟨b1, 0, none⟩ (.int .i64 (E : Int))) := by
        refine ⟨⟨F2, V.dtK q1 (fun i hi => hk2.block i (V.dtB q1 i hi) (fun e => ?_)) hk2.size, hF3⟩, ?_, World.cell?_setCell_same' _ _ _ (by rw [z1]; rfl)⟩
        · rcases hF3 i hi with q | q
          · have := HL.out _ q; omega
          · omega
        · refine (HP.out.1.trans q3 (fun i hi => ?_)).trans hk2 (fun i hi => Or.inr (by omega))
          rcases HP.out.2.1 i hi with q | q
          · exact Or.inl q
          · exact Or.inr (by omega)
      refine ⟨h1.put (kp_put _ w2.heap.size _) (fun q hq => by omega) (by rw [HB.out]; exact HL.out), (hk2.block _ ?_ (by omega)).trans ((q3.block _ HX.out.2.1 (fun e => ?_)).trans HX.out.1)⟩
      · exact Nat.lt_of_lt_of_le HX.out.2.1 q3.size
      · rcases HP.out.2.1 _ e with q | q
        · have := HL.out _ q; omega
        · omega
    clear hA z1 z2 hn1
    refine ⟨by simp, Or.inl ⟨w2.heap.size, _, rfl, run_takeDeferred (ds := []) HTe.out.2, ?_⟩⟩
    have z1 := HTe.out.1.c1
    exact ⟨.int .i64 (E : Int), by simp [results, Tryz.results84, go_sem, z1], by rw [HA.out.1], by rw [HA.out.2]; exact HTe.out.1.ad (by have := HZ.out; have := HB.out; omega)⟩
  case left =>
    rintro c r X hi ⟨rfl, h1, h2⟩ hD
    have HX : Hid (X.heap[w2.heap.size]? = some (.deferred (some []))) := hD
    have HA : Hid (twE a d s = (svW a d cnt 0 s).1 ∧ twS a d s = (svW a d cnt 0 s).2) := by
      rw [HT.out.1, HT.out.2, if_pos h1, if_pos h1]
      exact ⟨rfl, rfl⟩
    have HRf : Hid (Te V w (w2.heap.size + 2) p F b1 (svW a d cnt 0 s).1 (svW a d cnt 0 s).2 (X.putObj w2.heap.size (.deferred none))) := h2.put (kp_put _ w2.heap.size _) (fun q hq => by have := HZ.out; have := HB.out; omega) (by rw [HB.out]; exact HL.out)
    clear h1 h2 hD hi
    refine wpIn_wide.2 ?_
    go_wp2
    refine ⟨by simp, Or.inl ⟨w2.heap.size, _, rfl, run_takeDeferred (ds := []) HX.out, ?_⟩⟩
    have z1 := HRf.out.c1
    exact ⟨.int .i64 (((svW a d cnt 0 s).1 : Nat) : Int), by simp [results, Tryz.results84, go_sem, z1], by rw [HA.out.1], by rw [HA.out.2]; exact HRf.out.ad (by have := HZ.out; have := HB.out; omega)⟩
  case body =>
    rintro r y a' X hy ⟨v', rfl, hX, hv1, hv2, hv3⟩ hsz
    have hr : r < cnt := by have := (List.getElem?_eq_some_iff.1 hy).1; rw [cks_len, HN.out.1, HN.out.2.1] at this; exact this
    have hr5 : r ≤ 500 := by have := HN.out; omega
    obtain ⟨⟨si, F', q1, q2, q3, q4⟩, h2, h3, h4⟩ := hX
    obtain ⟨m, hm⟩ : ∃ m, a + r = m := ⟨_, rfl⟩
    obtain ⟨m1, hm1⟩ : ∃ m1, m + 1 = m1 := ⟨_, rfl⟩
    rw [hm] at h3
    have hw : IntKind.i64.wrap ((m : Int) + 1) = (m1 : Int) := by rw [IntKind.wrap_i64]; omega
    have hx : X.cell? ⟨B, 0, none⟩ = some p := cell_blk5 (a := ⟨B, 0, none⟩) (h2.block B (by have := HZ.out; omega) (by have := HZ.out; omega) (fun e => by have := HZ.out; rcases e with e | e; have := HL.out _ e; omega; omega)) H3.out.2.1
    obtain ⟨X1, hX1⟩ : ∃ X1, X1 = X.setCell ⟨b2, 0, none⟩ (.int .i64 (m1 : Int)) := ⟨_, rfl⟩
    have hk : Kp (fun k => k = b2) X X1 := by rw [hX1]; exact Kp.set (F := fun k => k = b2) (Kp.refl _ _) (Or.inl rfl) _
    have hF2 : ∀ k, F' k → k ≠ b2 := fun k hk e => by have := HZ.out; rcases q2 k hk with q | q; have := HL.out _ q; omega; omega
    have hc0 : X1.cell? ⟨B, 0, none⟩ = some p := hk.cell (by have := HZ.out; dsimp only; omega) hx
    have hc2 : X1.cell? ⟨b2, 0, none⟩ = some (.int .i64 (m1 : Int)) := by rw [hX1]; exact World.cell?_setCell_same' _ _ _ (by rw [h3]; rfl)
    have hf2 : X1.frozen? ⟨b2, 0, none⟩ = false := by rw [hX1]; simp [h4]
    have hwr := V.write X1 p F' si (m1 : Int) v' (ck d r) (V.dtK q1 (fun i hi => hk.block i (V.dtB q1 i hi) (hF2 i hi)) hk.size) (hk.bs hv1 (fun a n c e hn hf => hv2 a n c e hn (Or.inr hf))) (fun a n c e hn hf => by rcases q2 _ hf with q | q; exact hv2 a n c e hn (Or.inl q); have := hv3 a n c e hn; omega) (ck_byte HD.out.2.2.2 r) (by have := ck_len d r; omega) (by have := HS.out; omega)
    obtain ⟨E, hE⟩ : ∃ E, wrE si (m1 : Int) (ck d r) = E := ⟨_, rfl⟩
    have HX : Hid (Kp (fun k => k = b2) X X1 ∧ Kq w2.heap.size (fun k => F k ∨ k = b2) w2 X ∧ (∀ k, F' k → F k ∨ w2.heap.size + 2 ≤ k)) := ⟨hk, h2, q2⟩
    have HM : Hid (m1 = a + 1 + r ∧ a + (r + 1) = m1) := ⟨by omega, by omega⟩
    have HE : Hid (wrE si (m1 : Int) (ck d r) = E) := hE
    have HQ : Hid (svW a d cnt 0 s = svW a d (cnt - r) r si ∧ si.un.length ≤ s.un.length + r ∧ cnt - r = (cnt - (r + 1)) + 1) := ⟨q3, q4, by omega⟩
    have HC2 : Hid (X1.cell? ⟨b2, 0, none⟩ = some (.int .i64 (m1 : Int)) ∧ X1.frozen? ⟨b2, 0, none⟩ = false) := ⟨hc2, hf2⟩
    rw [hE] at hwr
    have hsz2 : w2.heap.size + 2 ≤ X.heap.size := hsz
    have hsz2 : Hid (w2.heap.size + 2 ≤ X.heap.size) := hsz2
    clear hr hr5 q1 q2 q3 q4 h2 hv1 hv2 hv3 hsz hm hm1 hE hF2 hk hx hf2 hy
    subst hX1
    gi_wp2
    refine ⟨trivial, (callsIn_wide (n := 7)).2 ?_⟩
    refine hwr.mono ?_
    rintro e X2 ⟨rfl, hA⟩
    obtain ⟨F2, q1, q2, q3⟩ := hA
    have hF3 : ∀ k, F2 k → F k ∨ w2.heap.size + 2 ≤ k := fun k hk => by
      have h1 := HX.out.1.size
      have h2 := hsz2.out
      rcases q2 k hk with q | q
      · exact HX.out.2.2 k q
      · right; omega
    have hb2 : ¬ F' b2 := fun e => by have := HZ.out; rcases HX.out.2.2 _ e with q | q; have := HL.out _ q; omega; omega
    have hbk : Kq (w2.heap.size + 2) (fun k => F k ∨ k = b2) X X2 := by
      refine ⟨q3.os.trans HX.out.1.os, q3.tape.trans HX.out.1.tape, q3.output.trans HX.out.1.output, Nat.le_trans HX.out.1.size q3.size, fun i hi hi2 hn => ?_⟩
      refine (q3.block i (Nat.lt_of_lt_of_le hi2 HX.out.1.size) (fun e => ?_)).trans (HX.out.1.block i hi2 (fun e => hn (Or.inr e)))
      rcases HX.out.2.2 i e with q | q
      · exact hn (Or.inl q)
      · omega
    have hkq : Kq w2.heap.size (fun k => F k ∨ k = b2) w2 X2 := HX.out.2.1.trans (hbk.mono (by omega) (fun k h => h))
    have hcB := q3.cell hb2 HC2.out.1
    have hfB := q3.frozen hb2 HC2.out.1 HC2.out.2
    have hun := (wrS_unS si (m1 : Int) (ck d r)).1
    have hstep : svW a d cnt 0 s = if E ≠ 0 then (E, wrS si (m1 : Int) (ck d r)) else svW a d (cnt - (r + 1)) (r + 1) (wrS si (m1 : Int) (ck d r)) := by
      rw [HQ.out.1, HQ.out.2.2, ← HE.out, HM.out.1]
      rfl
    by_cases hE0 : E = 0
    · rw [if_neg (by omega)] at hstep
      have HI : Hid (Tw V w2 p F s a d cnt b2 (r + 1) X2 ∧ Kq (w2.heap.size + 2) (fun k => F k ∨ k = b2) X X2) := ⟨⟨⟨_, F2, q1, hF3, hstep, by have := HQ.out; omega⟩, hkq, by rw [HM.out.2]; exact hcB, hfB⟩, hbk⟩
      subst hE0
      clear q1 q2 q3 hF3 hb2 hbk hkq hcB hfB hun hstep hwr hc0 hc2
      gi_wp2
      exact HI.out
    · rw [if_pos hE0] at hstep
      have hEI : ¬ (E : Int) = 0 := by omega
      have hn1 : ¬ F' b1 := fun e => by have := HZ.out; rcases HX.out.2.2 _ e with q | q; have := HL.out _ q; omega; omega
      have e1 : X.heap[b1]? = w2.heap[b1]? := HX.out.2.1.block b1 (by have := HZ.out; omega) (by have := HZ.out; omega) (fun e => by have := HZ.out; rcases e with e | e; have := HL.out _ e; omega; omega)
      have e2 : X2.heap[b1]? = w2.heap[b1]? := (hkq.block b1 (by have := HZ.out; omega) (by have := HZ.out; omega) (fun e => by have := HZ.out; rcases e with e | e; have := HL.out _ e; omega; omega))
      have z1 : X2.cell? ⟨b1, 0, none⟩ = some (.int .i64 0) := cell_blk5 (a := ⟨b1, 0, none⟩) e2 H3.out.2.2.1
      have z2 : X2.frozen? ⟨b1, 0, none⟩ = false := frz_blk5 (a := ⟨b1, 0, none⟩) e2 H3.out.2.2.2.1
      have HI : Hid ((svW a d cnt 0 s).1 ≠ 0 ∧ Te V w (w2.heap.size + 2) p F b1 (svW a d cnt 0 s).1 (svW a d cnt 0 s).2 (X2.setCell ⟨b1, 0, none⟩ (.int .i64 (E : Int))) ∧ Kq (w2.heap.size + 2) (fun k => F k ∨ k = b1 ∨ k = b2) X (X2.setCell ⟨b1, 0, none⟩ (.int .i64 (E : Int)))) := by
        rw [hstep]
        have hk2 : Kp (fun k => k = b1) X2 (X2.setCell ⟨b1, 0, none⟩ (.int .i64 (E : Int))) := Kp.set (F := fun k => k = b1) (Kp.refl _ _) (Or.inl rfl) _
        refine ⟨hE0, ⟨⟨F2, V.dtK q1 (fun i hi => hk2.block i (V.dtB q1 i hi) (fun e => ?_)) hk2.size, hF3⟩, ?_, World.cell?_setCell_same' _ _ _ (by rw [z1]; rfl)⟩, ?_⟩
        · have := HZ.out
          rcases hF3 i hi with q | q
          · have := HL.out _ q; omega
          · omega
        · have hz := HZ.out
          have hb := HB.out
          have hbl := H3.out.1
          have h5 := hkq.size
          refine ⟨hk2.os.trans (hkq.os.trans hbl.os), hk2.tape.trans (hkq.tape.trans hbl.tape), hk2.output.trans (hkq.output.trans hbl.output), by have := hk2.size; omega, fun i hi hn => ?_⟩
          refine (hk2.block i (by omega) (by omega)).trans ((hkq.block i (by omega) (by omega) (fun e => ?_)).trans (hbl.block i (by omega)))
          rcases e with e | e
          · exact hn e
          · omega
        · refine (hbk.mono (Nat.le_refl _) (fun k h => ?_)).trans ((Kq.of hk2).mono (Nat.le_refl _) (fun k h => Or.inr (Or.inl h)))
          rcases h with h | h
          · exact Or.inl h
          · exact Or.inr (Or.inr h)
      clear q1 q2 q3 hF3 hb2 hbk hkq hcB hfB hun hstep hwr hc0 hc2 hn1 e1 e2
      gi_wp2
      exact ⟨⟨rfl, HI.out.1, HI.out.2.1⟩, HI.out.2.2⟩
end Go.Proofs.YthnpdcblfocemaaGreatDoor
set_option linter.unusedVariables false
set_option linter.unusedSimpArgs false
namespace Go.Proofs.YthnpdcblfocemaaGreatDoor
open Go.RowKit

theorem half_facts (r : Nat) (hr : r < 4294967296) (w : World) (hT : TbAt w) : ∃ q d z : Nat, q < 16 ∧ bits .and .u32 (r : Int) 15 = (q : Int) ∧ (r : Int) / 16 = (d : Int) ∧ w.cell? ⟨1, q, none⟩ = some (.int .u32 (z : Int)) ∧ bits .xor .u32 (d : Int) (z : Int) = ((cZs 4 r : Nat) : Int) := by
  refine ⟨r % 16, r / 16, cZs 4 (r % 16), by omega, ?_, by omega, hT _ (by omega), ?_⟩
  · have h := and32 r 15 hr (by omega)
    rw [show r &&& 15 = r % 16 from Nat.and_two_pow_sub_one_eq_mod r 4] at h
    exact h
  · rw [xor32 _ _ (by omega) (cZs_lt 4 _ (by omega)), half_eq r]
set_option maxRecDepth 100000 in
set_option maxHeartbeats 4000000 in
theorem more11 (s : Nat) (v : Value) (n : Nat) (f : Nat → Nat) (w : World) (hs : s < 4294967296) (hn : n ≤ 100000) (hf : ∀ k, f k < 256) (hT : TbAt w) (hl : Ls w v n (by8 f)) :
    Calls Tryz.prog 101 #[.int .u32 (s : Int), v] w fun e w' => e = .returned (.int .u32 ((4294967295 - cR (cBt f) (4294967295 - s) (8 * n) : Nat) : Int)) ∧ Below w.heap.size w w' := by
  obtain ⟨ad, cap, rfl, l1, l2⟩ := hl.len
  unfold maxLen at l2
  have HL : Hid (Ls w (.slice ad n cap) n (by8 f)) := hl
  have CH : Hid (∀ r : Nat, r < 4294967296 → ∃ q d z : Nat, q < 16 ∧ bits .and .u32 (r : Int) 15 = (q : Int) ∧ (r : Int) / 16 = (d : Int) ∧ w.cell? ⟨1, q, none⟩ = some (.int .u32 (z : Int)) ∧ bits .xor .u32 (d : Int) (z : Int) = ((cZs 4 r : Nat) : Int)) := fun r hr => half_facts r hr w hT
  have hnot := not32 s hs
  obtain ⟨r0, hr0⟩ : ∃ r0, 4294967295 - s = r0 := ⟨_, rfl⟩
  have hrt := cR_lt (cBt f) r0 (by omega) (cBt_lt f)
  rw [hr0] at hnot ⊢
  clear hl hT hr0
  go_enter Tryz.func101, Tryz.ntmps101
  go_upto_region 3 with fail
  go_loopw [5, 12] (fun s5 s12 wr => ∃ j : Nat, j ≤ n ∧ s12 = .int .i64 (j : Int) ∧ s5 = .int .u32 ((cR (cBt f) r0 (8 * j) : Nat) : Int) ∧ wr = w) (fun _ s12 _ => n - (intOf s12).toNat)
  case atStart => exact ⟨0, by omega, rfl, by first | rfl | (rw [← hnot]; rfl), rfl⟩
  case round =>
    obtain ⟨j, hj, rfl, rfl, rfl⟩ := hrel
    have hr := hrt (8 * j)
    by_cases hlt : j < n
    · have hjI : (j : Int) < (n : Int) := by omega
      obtain ⟨b, o, cp, e1, hc⟩ := HL.out.spot j hlt
      cases e1
      unfold by8 at hc
      have hfj := hf j
      have HS : Hid (cR (cBt f) r0 (8 * (j + 1)) = cZs 4 (cZs 4 (cR (cBt f) r0 (8 * j) ^^^ f j))) := by
        show _ = _
        rw [cR_byte f r0 j hfj, ← cZs_add]
      have hw : IntKind.u32.wrap ((f j : Nat) : Int) = ((f j : Nat) : Int) := by rw [IntKind.wrap_u32]; omega
      have hx := xor32 (cR (cBt f) r0 (8 * j)) (f j) hr (by omega)
      have hy : cR (cBt f) r0 (8 * j) ^^^ f j < 4294967296 := Nat.xor_lt_two_pow (n := 32) hr (by omega)
      have hy2 := cZs_lt 4 _ hy
      obtain ⟨q1, d1, z1, a1, a2, a3, a4, a5⟩ := CH.out _ hy
      obtain ⟨q2, d2, z2, b1, b2, b3, b4, b5⟩ := CH.out _ hy2
      have a1I : (q1 : Int) < 16 := by omega
      have b1I : (q2 : Int) < 16 := by omega
      generalize cR (cBt f) r0 (8 * j) = r at *
      generalize f j = x at *
      generalize r ^^^ x = y at *
      generalize cZs 4 y = y2 at *
      generalize cZs 4 y2 = y3 at *
      clear hrt CH
      go_wp2
      go_roundw
      case rel => exact ⟨j + 1, by omega, by go_num, by rw [HS.out], trivial⟩
      case measure => simp [intOf]; omega
    · obtain rfl : j = n := by omega
      have hjI : ¬ (j : Int) < (j : Int) := by omega
      have hnot2 := not32 (cR (cBt f) r0 (8 * j)) hr
      go_wp2
      go_ret
      exact ⟨by first | rfl | rw [← hnot2], Below.refl _ _⟩
theorem cF_zero (ns : Nat → Nat) (fs : Nat → Nat → Nat) (r : Nat) : cF ns fs r 0 = r := rfl
theorem cF_succ (ns : Nat → Nat) (fs : Nat → Nat → Nat) (r j : Nat) : cF ns fs r (j + 1) = cR (cBt (fs j)) (cF ns fs r j) (8 * ns j) := rfl
set_option maxRecDepth 100000 in
set_option maxHeartbeats 4000000 in
theorem of11 (v : Value) (K : Nat) (ns : Nat → Nat) (fs : Nat → Nat → Nat) (w : World) (hK : K ≤ 1000) (hn : ∀ j, ns j ≤ 100000) (hf : ∀ j k, fs j k < 256) (hT : TbAt w) (hl : Lb w v K ns fs) :
    Calls Tryz.prog 95 #[v] w fun e w' => e = .returned (.int .u32 ((4294967295 - cF ns fs 4294967295 K : Nat) : Int)) ∧ Below w.heap.size w w' := by
  obtain ⟨ad, cap, rfl, l1, l2⟩ := hl.len
  unfold maxLen at l2
  have HL : Hid (Lb w (.slice ad K cap) K ns fs) := hl
  have CM : Hid (∀ (W : World) (s j : Nat) (u : Value), Below w.heap.size w W → s < 4294967296 → Ls w u (ns j) (by8 (fs j)) → Calls Tryz.prog 101 #[.int .u32 (s : Int), u] W fun e w' => e = .returned (.int .u32 ((4294967295 - cR (cBt (fs j)) (4294967295 - s) (8 * ns j) : Nat) : Int)) ∧ Below W.heap.size W w') := fun W s j u hb h1 h2 => more11 s u (ns j) (fs j) W h1 (hn j) (hf j) (hT.later hb) (h2.later hb)
  have hlt := cF_lt ns fs 4294967295 (by omega)
  clear hl hT
  go_enter Tryz.func95, Tryz.ntmps95
  go_upto_region 3 with fail
  go_loopw [3, 8] (fun s3 s8 wr => ∃ j : Nat, j ≤ K ∧ s8 = .int .i64 (j : Int) ∧ s3 = .int .u32 ((4294967295 - cF ns fs 4294967295 j : Nat) : Int) ∧ Hid (Below w.heap.size w wr)) (fun _ s8 _ => K - (intOf s8).toNat)
  case atStart => exact ⟨0, by omega, rfl, by rw [cF_zero, Nat.sub_self]; rfl, Below.refl _ _⟩
  case round =>
    obtain ⟨j, hj, rfl, rfl, HB⟩ := hrel
    have hr := hlt j
    by_cases hjK : j < K
    · have hjI : (j : Int) < (K : Int) := by omega
      obtain ⟨b, o, cp, ad2, ca2, e1, hc, hls⟩ := HL.out.spot j hjK
      cases e1
      have hc2 := cell_later HB.out hc
      have C1 := CM.out wr (4294967295 - cF ns fs 4294967295 j) j _ HB.out (by omega) hls
      rw [show 4294967295 - (4294967295 - cF ns fs 4294967295 j) = cF ns fs 4294967295 j by omega] at C1
      have HS : Hid (cF ns fs 4294967295 (j + 1) = cR (cBt (fs j)) (cF ns fs 4294967295 j) (8 * ns j)) := cF_succ ns fs _ j
      clear hc hls CM
      generalize cF ns fs 4294967295 j = r at *
      go_wp2_with fail
      refine C1.mono ?_
      rintro e w1 ⟨rfl, hb⟩
      have HB1 : Hid (Below w.heap.size w w1) := bchain HB.out hb
      clear hb C1
      go_wp2
      go_roundw
      case rel => exact ⟨j + 1, by omega, by go_num, by rw [HS.out], HB1⟩
      case measure => simp [intOf]; omega
    · obtain rfl : j = K := by omega
      have hjI : ¬ (j : Int) < (j : Int) := by omega
      go_wp2
      go_ret
      exact ⟨rfl, HB.out⟩
end Go.Proofs.YthnpdcblfocemaaGreatDoor
