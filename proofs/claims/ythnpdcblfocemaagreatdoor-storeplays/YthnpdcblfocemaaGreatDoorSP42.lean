/-
  Texts of this proof, joined: JqL TqB TqC.
-/
import Derived.Test.YthnpdcblfocemaaGreatDoorSP13
import Derived.Test.YthnpdcblfocemaaGreatDoorSP14
import Derived.Test.YthnpdcblfocemaaGreatDoorSP33
import Derived.Test.YthnpdcblfocemaaGreatDoorSP41
set_option linter.unusedVariables false
set_option linter.unusedSimpArgs false
namespace Go.Proofs.YthnpdcblfocemaaGreatDoor
open Go.RowKit

set_option maxRecDepth 100000 in
set_option maxHeartbeats 8000000 in
theorem jreadD17 (V : Disk1) (w : World) (c d : Nat) (F : Nat → Prop) (s : Dsk) (base size pg pn pb g : Nat) (hP : Pj w c d base size pg pn pb) (hD : V.Dt w (.pointer (some ⟨d, 0, none⟩)) F s) (h1 : 1 ≤ g) (hs1 : 1 ≤ size) (hs : base + size ≤ s.bl.length) (hbl : s.bl.length ≤ 1000) (hd : s.dn = true) :
    Calls Tryz.prog 51 #[.pointer (some ⟨c, 0, none⟩), .int .i64 (g : Int)] w fun e w' => e = .returned (.tuple #[.slice none 0 0, .int .i64 150]) ∧ Below w.heap.size w w' := by
  have hm := fun W (hB : Below w.heap.size w W) => made17 (hP.later hB)
  have HD : Hid (Pj w c d base size pg pn pb ∧ V.Dt w (.pointer (some ⟨d, 0, none⟩)) F s ∧ 1 ≤ size ∧ base + size ≤ s.bl.length ∧ s.bl.length ≤ 1000 ∧ s.dn = true) := ⟨hP, hD, hs1, hs, hbl, hd⟩
  have hkI : ¬ (g : Int) < 1 := by omega
  have hkB : decide ((g : Int) < 1) = false := decide_eq_false hkI
  clear hP hD h1 hs1 hs hbl hd
  go_enter Tryz.func51, Tryz.ntmps51
  go_upto_region 1 with fail
  obtain ⟨w1, hw1⟩ : ∃ w1, w1 = ((w.alloc (.cells #[.pointer (some ⟨c, 0, none⟩)] 69)).alloc (.cells #[.slice none 0 0] 31)).alloc (.cells #[.int .i64 0] 26) := ⟨_, rfl⟩
  have H1 : Hid (Vb w1 w.heap.size 69 [.pointer (some ⟨c, 0, none⟩)] ∧ Vb w1 (w.heap.size + 1) 31 [.slice none 0 0] ∧ Vb w1 (w.heap.size + 1 + 1) 26 [.int .i64 0] ∧ Below w.heap.size w w1 ∧ w1.heap.size = w.heap.size + 3) := by
    rw [hw1]
    refine ⟨((Vb.new w _ [_]).old _).old _, ?_, ?_, ((bel1 _ _).alloc (by simp) _).alloc (by simp; omega) _, by simp⟩
    · have h := (Vb.new (w.alloc (.cells #[.pointer (some ⟨c, 0, none⟩)] 69)) 31 [.slice none 0 0]).old (.cells #[.int .i64 0] 26)
      simpa using h
    · have h := Vb.new ((w.alloc (.cells #[.pointer (some ⟨c, 0, none⟩)] 69)).alloc (.cells #[.slice none 0 0] 31)) 26 [.int .i64 0]
      simpa using h
  have x0 := H1.out.1.cell 0 _ rfl
  have hmd := hm w1 H1.out.2.2.2.1
  rw [← hw1]
  clear hw1 hm
  go_step3
  go_upto_region 3 with (go_at_call 55; refine hmd.mono ?_; rintro e w' ⟨rfl, hw⟩; replace hw := hw.symm; subst hw; clear hmd)
  have hf := first17 g w1
  unfold plJ at hf
  go_upto_region 6 with fail
  go_wp2_with (go_at_call 67; refine hf.mono ?_; rintro e w2 ⟨rfl, hB2⟩; clear hf)
  go_step3
  obtain ⟨bp, hbp⟩ : ∃ bp, w2.heap.size = bp := ⟨_, rfl⟩
  obtain ⟨w3, hw3⟩ : ∃ w3, w3 = w2.alloc (.cells #[.int .i64 (g : Int), .int .i64 1, .int .i64 0] 117) := ⟨_, rfl⟩
  have HR0 : Hid (Rj w c bp g 1 0 w3) := by
    have hb3 : Below w2.heap.size w2 w3 := by rw [hw3]; exact bel1 _ _
    refine ⟨(H1.out.1.later hB2).later hb3, (H1.out.2.1.later hB2).later hb3, (H1.out.2.2.1.later hB2).later hb3, ?_, bchain (bchain H1.out.2.2.2.1 hB2) hb3, ?_⟩
    · rw [hw3, ← hbp]; exact Vb.new w2 117 (plL g 1 0)
    · have := H1.out.2.2.2.2; have := hB2.size; omega
  rw [hbp, ← hw3]
  clear hB2 hbp hw3 H1 x0
  go_wp2
  go_loopw [25] (fun _ wr => wr = w3) (fun _ _ => 0)
  case atStart => rfl
  case round =>
    have hwr := hrel.symm
    subst hwr
    clear hrel
    have x0 := HR0.out.j.cell 0 _ rfl
    have c7 : w3.cell? ⟨bp, 2, none⟩ = some (.int .i64 0) := HR0.out.p.cell 2 _ rfl
    have c2 : w3.cell? ⟨c, 2, none⟩ = some (.int .i64 (size : Int)) := (HD.out.1.later HR0.out.k).c2
    have hI : (0 : Int) < (size : Int) := by have := HD.out.2.2.1; omega
    have hB : decide ((0 : Int) < (size : Int)) = true := decide_eq_true hI
    go_upto_region 7 with fail
    go_quiet (fail)
    have HX1 : Hid (Rj w c bp g 1 0 (w3.drewN nq)) := HR0.out.later (below_drewP (Below.refl _ _) nq)
    clear x0 c7 c2 HR0
    generalize w3.drewN nq = X1 at *
    have x0 := HX1.out.j.cell 0 _ rfl
    have c7 : X1.cell? ⟨bp, 2, none⟩ = some (.int .i64 0) := HX1.out.p.cell 2 _ rfl
    have C := read17 V X1 c d F s base size pg pn pb 0 (HD.out.1.later HX1.out.k) (V.dtK HD.out.2.1 (fun k hk => HX1.out.k.block k (V.dtB HD.out.2.1 k hk)) HX1.out.k.size) (by have := HD.out; omega) HD.out.2.2.2.2.1
    have e1 : rdV s (base + 0) = bkV zr15 := by unfold rdV; rw [if_pos HD.out.2.2.2.2.2]
    have e2 : rdN s = 150 := by unfold rdN; rw [if_pos HD.out.2.2.2.2.2]
    rw [e1, e2] at C
    have hzb := zero_jb17
    clear e1 e2
    go_upto_region 9 with (first
      | (go_at_call 69; refine C.mono ?_; rintro e X2 ⟨rfl, hB2⟩; clear C; have HX2 : Hid (Rj w c bp g 1 0 X2) := hid5 (HX1.out.later hB2); clear hB2 x0 c7 HX1)
      | (refine alV rfl 134 (b8 zr15) hzb rfl ?_; intro X3 hV3 hB3 hS3)
      | (refine stV rfl 134 _ _ rfl X2.heap.size (b8 zr15) (b8 zr15) rfl rfl hV3 rfl (by rw [b8_len, zr_len]; exact sz_jb17) (b8_one _) ?_; intro X4 hV4 hK4 hS4))
    have HX4 : Hid (Rj w c bp g 1 0 X4) := HX2.out.later (hK4.next hB3 (fun i hi => by omega) (by omega))
    clear hV3 hB3 hS3 hV4 hK4 hS4 HX2 hzb
    have e1 := HX4.out.l.cell 0 _ rfl
    have e2 := HX4.out.e.cell 0 _ rfl
    have f1 := HX4.out.l.fro 0
    have f2 := HX4.out.e.fro 0
    go_wp2
    try rw [Exit.noGoto_ret]
    exact bodyPost_ret (v := .tuple #[.slice none 0 0, .int .i64 150]) (by simp [results, Tryz.results51, go_sem, e1, e2]) rfl ⟨rfl, (HX4.out.k.setCell (by dsimp only; omega) _).setCell (by dsimp only; omega) _⟩
theorem txs_nil17 (w : World) : Txs w (.slice none 0 0) [] := (txo_nil 0 w).txs
theorem jread_any17 (V : Disk1) (w : World) (c d : Nat) (F : Nat → Prop) (s : Dsk) (base size : Nat) (j : Jst) (gen : Int) (hP : Pjj w c d base size j) (hD : V.Dt w (.pointer (some ⟨d, 0, none⟩)) F s) (hT : JT w) (hs1 : 1 ≤ size) (hs : base + size ≤ s.bl.length) (hbl : s.bl.length ≤ 1000) (hg : gen < 9223372036854775808) :
    Calls Tryz.prog 51 #[.pointer (some ⟨c, 0, none⟩), .int .i64 gen] w fun e w' => ∃ v, e = .returned (.tuple #[v, .int .i64 ((rdE17 s gen : Nat) : Int)]) ∧ TxB w.heap.size w' v (rdL17 s base size gen) ∧ Below w.heap.size w w' := by
  obtain ⟨pg, pn, pb, hp⟩ : ∃ pg pn pb, Pj w c d base size pg pn pb := by
    unfold Pjj at hP
    split at hP
    · exact ⟨_, _, _, hP⟩
    · exact ⟨_, _, _, hP⟩
  by_cases h1 : gen < 1
  · have e1 : rdE17 s gen = 2 := by unfold rdE17; rw [if_pos h1]
    have e2 : rdL17 s base size gen = [] := by unfold rdL17; rw [if_pos h1]
    rw [e1, e2]
    exact (jreadE17 hp gen h1).mono fun e w' ⟨q1, q2⟩ => ⟨_, q1, txb_nil _ _, q2⟩
  · obtain ⟨g, rfl⟩ : ∃ g : Nat, gen = (g : Int) := ⟨gen.toNat, by omega⟩
    by_cases hd : s.dn = true
    · have e1 : rdE17 s g = 150 := by unfold rdE17; rw [if_neg h1, if_pos hd]
      have e2 : rdL17 s base size g = [] := by unfold rdL17; rw [if_neg h1, if_pos hd]
      rw [e1, e2]
      exact (jreadD17 V w c d F s base size pg pn pb g hp hD (by omega) hs1 hs hbl hd).mono fun e w' ⟨q1, q2⟩ => ⟨_, q1, txb_nil _ _, q2⟩
    · have e1 : rdE17 s g = 0 := by unfold rdE17; rw [if_neg h1, if_neg hd]
      have e2 : rdL17 s base size g = jread (rb s) base size g := by unfold rdL17; rw [if_neg h1, if_neg hd, Int.toNat_natCast]
      rw [e1, e2]
      exact jreadL17 V w c d F s base size pg pn pb g hp hD hT (by omega) (by omega) hs hbl (by simpa using hd)
def jour1 : Jour1 disk1 where
  Jt := fun w q p G base size j => ∃ c d, q = .pointer (some ⟨c, 0, none⟩) ∧ p = .pointer (some ⟨d, 0, none⟩) ∧ Pjj w c d base size j ∧ (1 ≤ size ∧ size ≤ 100000) ∧ ∀ k, G k ↔ k = c
  jtK := fun h k hs => by
    obtain ⟨c, d, e1, e2, h1, h2, h3⟩ := h
    exact ⟨c, d, e1, e2, h1.kept (k c ((h3 c).2 rfl)), h2, h3⟩
  jtB := fun h k hk => by
    obtain ⟨c, d, e1, e2, h1, h2, h3⟩ := h
    obtain rfl := (h3 k).1 hk
    exact h1.lt
  newY := fun w p F s base size hD h1 hr => by
    have hn : s.bl.length ≤ 16384 := by
      obtain ⟨_, _, _, _, _, h⟩ := id hD
      exact h.n2
    obtain ⟨g, rfl⟩ : ∃ g, p = .pointer (some ⟨g, 0, none⟩) := by obtain ⟨g, _, _, _, e, _⟩ := hD; exact ⟨g, e⟩
    exact (newY17 w g F s base size hD h1 hr).mono fun e w' ⟨c, q1, q2, q3, q4⟩ => ⟨⟨c, 0, none⟩, fun k => k = c, q1, ⟨c, g, rfl, rfl, by unfold Pjj; rw [if_pos rfl]; exact q2, ⟨h1, by omega⟩, fun _ => Iff.rfl⟩, fun k hk => by subst hk; exact q3, q4⟩
  newN := fun w p F s base size hD ha hm hno => newN17 w p F s base size hD ha hm hno
  read := fun w q p F G s base size j gen h hD hd hT hr hbl hu hg => by
    obtain ⟨c, d, rfl, rfl, h1, h2, h3⟩ := h
    exact (jread_any17 disk1 w c d F s base size j gen h1 hD hT h2.1 hr hbl (by unfold Bd64 at hg; omega)).mono fun e w' ⟨v, q1, q2, q3⟩ => ⟨v, q1, q2.txs, q3⟩
  begin := fun w q p F G s base size j gen h hD hd hg => by
    obtain ⟨c, d, rfl, rfl, h1, h2, h3⟩ := h
    have hp : ∃ pg pn pb, Pj w c d base size pg pn pb := by
      unfold Pjj at h1
      split at h1
      · exact ⟨_, _, _, h1⟩
      · exact ⟨_, _, _, h1⟩
    obtain ⟨pg, pn, pb, hp⟩ := hp
    by_cases hg1 : gen < 1
    · rw [if_pos hg1, if_pos hg1]
      exact (beginE17 hp gen hg1).mono fun e w' ⟨q1, q2⟩ => ⟨q1, G, ⟨c, d, rfl, rfl, by rw [q2]; exact h1, h2, h3⟩, fun k hk => Or.inl hk, by rw [q2]; exact Kp.refl _ _⟩
    · obtain ⟨k, rfl⟩ : ∃ k : Nat, gen = (k : Int) := ⟨gen.toNat, by omega⟩
      rw [if_neg hg1, if_neg hg1, Int.toNat_natCast]
      exact (begin17 hp k (by omega)).mono fun e w' ⟨q1, q2, q3⟩ => ⟨q1, G, ⟨c, d, rfl, rfl, by unfold Pjj; rw [if_neg (show ¬ (⟨k, 0, 0⟩ : Jst).gen = 0 by dsimp only; omega)]; exact q2, h2, h3⟩, fun k hk => Or.inl hk, q3.mono (fun i hi => (h3 i).2 hi)⟩
  append := fun w q p F G s base size j v r h hD hd hT hFT hGT hr hbl hu hnx hn hgn hv hnf hng hx hl => by
    obtain ⟨c, d, rfl, rfl, h1, h2, h3⟩ := h
    refine (append17 disk1 w c d F s base size j v r h1 hD (fun k hk e => hd k hk ((h3 k).2 e)) hT hFT hr hbl hu hnx hn hgn hv hnf hx hl).mono fun e w' ⟨q1, F', q2, q3, q4, q5⟩ => ⟨q1, F', G, q2, ⟨c, d, rfl, rfl, q3, h2, h3⟩, fun k hk hg => ?_, q4, fun k hk => Or.inl hk, q5.mono (fun k hk => hk.imp id (fun e => (h3 k).2 e))⟩
    rcases q4 k hk with e | e
    · exact hd k e hg
    · have := h1.lt; have := (h3 k).1 hg; omega
  left := fun w q p F G s base size j h hD hn => by
    obtain ⟨c, d, rfl, rfl, h1, h2, h3⟩ := h
    unfold Pjj at h1
    have hb : size ≤ 1000000 := by have := h2.2; omega
    split at h1
    · rename_i hg
      rw [if_pos hg]
      exact leftN17 h1
    · rename_i hg
      rw [if_neg hg]
      exact leftY17 h1 (by omega) hn hb
structure JourB (V : Disk1) (J : Jour1 V) : Prop where
  read : ∀ (w : World) (q d : Value) (F G : Nat → Prop) (s : Dsk) (base size : Nat) (j : Jst) (gen : Int), J.Jt w q d G base size j → V.Dt w d F s → (∀ k, F k → ¬ G k) → JT w → base + size ≤ s.bl.length → s.bl.length ≤ 1000 → s.un.length ≤ 400 → Bd64 gen →
    Calls Tryz.prog 51 #[q, .int .i64 gen] w fun e w' => ∃ v, e = .returned (.tuple #[v, .int .i64 ((rdE17 s gen : Nat) : Int)]) ∧ TxB w.heap.size w' v (rdL17 s base size gen) ∧ Below w.heap.size w w'
theorem jourB : JourB disk1 jour1 where
  read := fun w q p F G s base size j gen h hD hd hT hr hbl hu hg => by
    obtain ⟨c, d, rfl, rfl, h1, h2, h3⟩ := h
    exact jread_any17 disk1 w c d F s base size j gen h1 hD hT h2.1 hr hbl (by unfold Bd64 at hg; omega)
end Go.Proofs.YthnpdcblfocemaaGreatDoor
set_option linter.unusedVariables false
set_option linter.unusedSimpArgs false
namespace Go.Proofs.YthnpdcblfocemaaGreatDoor
open Go.RowKit

theorem slt_two (B : Nat → List Nat) (at_ room which : Nat) : slt B at_ room which = ([], 0) ∨ (1 ≤ (slt B at_ room which).2 ∧ (slt B at_ room which).2 ≤ 4611686018427387904) := by
  unfold slt
  split
  · rename_i h
    split
    · exact Or.inr ⟨h.2.1, h.2.2.1⟩
    · exact Or.inl rfl
  · exact Or.inl rfl
theorem ldV_two (B : Nat → List Nat) (at_ room : Nat) : ((ldV B at_ room).2.2 = 0 ∧ 1 ≤ (ldV B at_ room).2.1 ∧ (ldV B at_ room).2.1 ≤ 4611686018427387904) ∨ ldV B at_ room = ([], 0, 160) := by
  have h0 := slt_two B at_ room 0
  have h1 := slt_two B at_ room 1
  unfold ldV
  by_cases q : (slt B at_ room 0).2 = 0 ∧ (slt B at_ room 1).2 = 0
  · rw [if_pos q]; exact Or.inr rfl
  · rw [if_neg q]
    by_cases q2 : (slt B at_ room 1).2 < (slt B at_ room 0).2
    · rw [if_pos q2]
      refine Or.inl ⟨rfl, ?_, ?_⟩
      · show 1 ≤ (slt B at_ room 0).2; omega
      · show (slt B at_ room 0).2 ≤ _
        rcases h0 with e | e
        · rw [e]; exact Nat.zero_le _
        · exact e.2
    · rw [if_neg q2]
      refine Or.inl ⟨rfl, ?_, ?_⟩
      · show 1 ≤ (slt B at_ room 1).2; omega
      · show (slt B at_ room 1).2 ≤ _
        rcases h1 with e | e
        · rw [e]; exact Nat.zero_le _
        · exact e.2
theorem ldW_two (s : Dsk) (at_ room : Nat) (hd : s.dn = false) : ((ldW s at_ room).2.2 = 0 ∧ 1 ≤ (ldW s at_ room).2.1 ∧ (ldW s at_ room).2.1 ≤ 4611686018427387904) ∨ ldW s at_ room = ([], 0, 160) := by
  unfold ldW
  rw [if_neg (by rw [hd]; simp)]
  exact ldV_two _ _ _
theorem svF_num18 (a n : Nat) (d : List Nat) (w : Nat × Dsk) (h : (svF a n d w).2.1 = 0) : (svF a n d w).1 = n := by
  unfold svF at h ⊢
  split
  · rename_i q; rw [if_pos q] at h; exact absurd h q
  · rename_i q
    rw [if_neg q] at h
    split
    · rename_i q2; rw [if_pos q2] at h; exact absurd h q2
    · rename_i q2
      rw [if_neg q2] at h
      unfold svH at h ⊢
      split
      · rename_i q3; rw [if_pos q3] at h; exact absurd h q3
      · rename_i q3
        rw [if_neg q3] at h
        split
        · rename_i q4; rw [if_pos q4] at h; exact absurd h q4
        · rfl
theorem svR_num18 (s : Dsk) (at_ room : Nat) (d : List Nat) (h : (svR s at_ room d).2.1 = 0) : 1 ≤ (svR s at_ room d).1 ∧ (svR s at_ room d).1 ≤ 4611686018427387904 := by
  unfold svR at h ⊢
  by_cases q1 : room * 128 < d.length
  · rw [if_pos q1] at h; exact absurd h (by simp)
  rw [if_neg q1] at h ⊢
  by_cases q2 : s.dn = true
  · rw [if_pos q2] at h; exact absurd h (by simp)
  rw [if_neg q2] at h ⊢
  unfold svN at h ⊢
  by_cases q3 : 4611686018427387904 < (ldV (rb s) at_ room).2.1 + 1
  · rw [if_pos q3] at h; exact absurd h (by simp)
  rw [if_neg q3] at h ⊢
  rw [svF_num18 _ _ _ _ h]
  omega
theorem wrE_two {s : Dsk} {i : Nat} {b : List Nat} (hi : i < s.bl.length) (hb : b.length ≤ 128) : wrE s (i : Int) b = 0 ∨ wrE s (i : Int) b = 150 := by
  by_cases q : s.dn = true
  · have ha : dAsk s (i : Int) = 150 := by unfold dAsk; rw [if_pos q]
    unfold wrE
    rw [ha, if_pos (by simp)]
    exact Or.inr rfl
  · have ha : dAsk s (i : Int) = 0 := by unfold dAsk; rw [if_neg q, if_neg (by omega)]
    unfold wrE
    rw [ha, if_neg (by simp), if_neg (by omega)]
    split
    · exact Or.inl rfl
    · exact Or.inr rfl
theorem wrS_bll (s : Dsk) (i : Int) (b : List Nat) : (wrS s i b).bl.length = s.bl.length := by
  unfold wrS
  split
  · rfl
  · rw [(dGone_bl _).1]
theorem jwr_two (p : Nat) (r : List Nat) (n gen : Nat) : ∀ (k i : Nat) (s : Dsk), p + i + k ≤ s.bl.length → (jwr p r n gen k i s).1 = 0 ∨ (jwr p r n gen k i s).1 = 150 := by
  intro k
  induction k with
  | zero => intro i s _; exact Or.inl rfl
  | succ k ih =>
    intro i s h
    have h2 := wrE_two (s := s) (i := p + i) (b := jblk r i n gen) (by omega) (by rw [jblk_len]; exact Nat.le_refl _)
    rw [jwr]
    split
    · rename_i q
      rcases h2 with e | e
      · exact absurd e q
      · exact Or.inr e
    · exact ih (i + 1) _ (by rw [wrS_bll]; omega)
theorem flE_two (s : Dsk) : flE s = 0 ∨ flE s = 150 := by
  unfold flE
  split
  · exact Or.inr rfl
  · split
    · exact Or.inl rfl
    · exact Or.inr rfl
theorem jput_two (s : Dsk) (base : Nat) (j : Jst) (r : List Nat) (h : base + j.next + prt r.length ≤ s.bl.length) : (jput s base j r).1 = 0 ∨ (jput s base j r).1 = 150 := by
  have hw := jwr_two (base + j.next) r (j.n + 1) j.gen (prt r.length) 0 s (by omega)
  unfold jput jfl
  split
  · exact hw
  · exact flE_two _
theorem japp_four (s : Dsk) (base size : Nat) (j : Jst) (r : List Nat) (hg : j.gen ≠ 0) (hr : base + size ≤ s.bl.length) (hn : j.next ≤ size) : (japp s base size j r).1 = 0 ∨ (japp s base size j r).1 = 3 ∨ (japp s base size j r).1 = 170 ∨ (japp s base size j r).1 = 150 := by
  unfold japp
  rw [if_neg hg]
  split
  · exact Or.inr (Or.inl rfl)
  · split
    · exact Or.inr (Or.inr (Or.inl rfl))
    · split
      · rename_i q
        have hw := jput_two s base j r (by omega)
        rcases hw with e | e
        · exact absurd e q
        · exact Or.inr (Or.inr (Or.inr e))
      · exact Or.inl rfl
theorem apS_unh (s : Dsk) (room : Nat) (j : Sst) (r : List Nat) (hb : j.bg = true) (hg : j.j.gen ≠ 0) (hr : fb18 room + 1 ≤ s.bl.length) (hn : j.j.next ≤ s.bl.length - fb18 room) :
    apS s room j r = ((japp s (fb18 room) (fz18 s room) j.j r).1, (japp s (fb18 room) (fz18 s room) j.j r).2.1, ⟨(japp s (fb18 room) (fz18 s room) j.j r).2.2, unh (((japp s (fb18 room) (fz18 s room) j.j r).1 : Nat) : Int)⟩) := by
  have h := japp_four s (fb18 room) (fz18 s room) j.j r hg (by unfold fz18; omega) (by unfold fz18; omega)
  unfold apS
  rw [if_neg (by rw [hb]; simp)]
  have e : (if (japp s (fb18 room) (fz18 s room) j.j r).1 = 150 then false else true) = unh (((japp s (fb18 room) (fz18 s room) j.j r).1 : Nat) : Int) := by
    rcases h with e | e | e | e <;> rw [e] <;> rfl
  rw [e]
theorem japp_gen (s : Dsk) (base size : Nat) (j : Jst) (r : List Nat) (hg : j.gen ≠ 0) (hr : base + size ≤ s.bl.length) (hn : j.next ≤ size) (h : unh (((japp s base size j r).1 : Nat) : Int) = true) : (japp s base size j r).2.2.gen ≠ 0 := by
  unfold japp at h ⊢
  rw [if_neg hg] at h ⊢
  by_cases q1 : 262144 < r.length
  · rw [if_pos q1]; exact hg
  rw [if_neg q1] at h ⊢
  by_cases q2 : size - j.next < prt r.length
  · rw [if_pos q2]; exact hg
  rw [if_neg q2] at h ⊢
  by_cases q3 : (jput s base j r).1 ≠ 0
  · rw [if_pos q3] at h
    exfalso
    have hw := jput_two s base j r (by omega)
    have h3 : unh (((jput s base j r).1 : Nat) : Int) = true := h
    rcases hw with e | e
    · exact q3 e
    · rw [e] at h3
      exact absurd h3 (by decide)
  · rw [if_neg q3]; exact hg
def zst18 : List Value := [.pointer none, .pointer none]
theorem info_st18 : (Tryz.prog.info? 71).map (fun i => (i.zero, i.size)) = some (some (.agg zst18.toArray), 2) := by kernel_rfl
theorem sz_st18 : (Tryz.prog.info? 71).map (·.size) = some 2 := by kernel_rfl
theorem zero_st18 (w : World) : (zeroValue 71).run Tryz.prog w = .ok (.agg zst18.toArray) w := by
  have h := info_st18
  cases hq : Tryz.prog.info? 71 with
  | none => rw [hq] at h; simp at h
  | some i =>
    rw [hq] at h
    simp only [Option.map_some, Option.some.injEq, Prod.mk.injEq] at h
    simp [zeroValue, typeInfo, hq, h.1]
theorem und_st18 : ∃ d, Tryz.prog.underlying 71 = some d ∧ (match d with | .struct _ => true | _ => false) = true := by
  have hu : (match Tryz.prog.underlying 71 with | some (.struct _) => true | _ => false) = true := by kernel_rfl
  cases hq : Tryz.prog.underlying 71 with
  | none => rw [hq] at hu; cases hu
  | some d =>
    rw [hq] at hu
    cases d <;> first | (cases hu; done) | exact ⟨_, rfl, rfl⟩
theorem built_st18 (p q : Value) (hp : p.oneCell' = true) (hq : q.oneCell' = true) : Tryz.prog.built 71 [(0, p), (1, q)] = some #[p, q] := by
  cases p <;> cases q <;> first | (cases hp; done) | (cases hq; done) | kernel_rfl
theorem built_z18 : Tryz.prog.built 71 [] = some zst18.toArray := by kernel_rfl
theorem built_St18 (p q : Addr) : Tryz.prog.built 77 [(0, .agg #[.pointer (some p), .pointer (some q)])] = some #[.pointer (some p), .pointer (some q), .bool false] := by kernel_rfl
theorem ldSt18 {ops : Array Oper} {rest : List Oper} {o : Oper} {a : Act} {w : World} {Q : Exit → Act → World → Prop} (hgd : o.guard = none) (x : Operand) (ho : o.op = .load 71 x)
    (g : Nat) (xs : List Value) (hx : a.eval x = .pointer (some ⟨g, 0, none⟩)) (hr : Vb w g 71 xs) (hb : xs.length = 2)
    (h : wpList Tryz.prog ops Q rest (a.put o.dst (.agg xs.toArray)) w) : wpList Tryz.prog ops Q (o :: rest) a w := by
  obtain ⟨d, hq, hd⟩ := und_st18
  exact wpList_load_mid hgd 71 x ho g 0 hx xs d hr.all hq (by cases d <;> first | rfl | cases hd) (by rw [hb]; exact sz_st18) h
theorem res_st18 {fn : Func} {p u : Tmp} (hr : fn.results = #[.cell p 71, .tmp u]) (tmps : Array Value) {w : World} {g : Nat} {xs : List Value} (h : Vb w g 71 xs) (hb : xs.length = 2) (hp : tmps.getD p undef = .pointer (some ⟨g, 0, none⟩)) :
    (results fn tmps).run Tryz.prog w = .ok (.tuple #[.agg xs.toArray, tmps.getD u undef]) w := by
  rw [results_cell_tmp hr tmps Tryz.prog w, hp]
  obtain ⟨d, hq, hd⟩ := und_st18
  have h2 := run_loadVar_row (P := Tryz.prog) w g 71 71 xs.toArray (0, 0) d h hq (by cases d <;> first | rfl | cases hd) (by rw [List.size_toArray, hb]; exact sz_st18)
  simp [asAddr, h2, Result.andThen]
theorem bdZ18 {ops : Array Oper} {rest : List Oper} {o : Oper} {a : Act} {w : World} {Q : Exit → Act → World → Prop} (hgd : o.guard = none) (ho : o.op = .build 71 #[])
    (h : wpList Tryz.prog ops Q rest (a.put o.dst (.agg zst18.toArray)) w) : wpList Tryz.prog ops Q (o :: rest) a w :=
  wpList_plain hgd fun K hK => by
    have hrun : (Instr.build 71 #[]).run Tryz.prog w = .ok (.agg zst18.toArray) w := run_build w _ _ _ built_z18
    unfold Oper.wp
    simp [execOp, ho, hrun, Result.andThen]
    exact hK _ _ h
theorem bdS18 {ops : Array Oper} {rest : List Oper} {o : Oper} {a : Act} {w : World} {Q : Exit → Act → World → Prop} (hgd : o.guard = none) (x y : Operand) (ho : o.op = .build 71 #[(0, x), (1, y)]) (p q : Value) (hx : a.eval x = p) (hy : a.eval y = q) (hp : p.oneCell' = true) (hq : q.oneCell' = true)
    (h : wpList Tryz.prog ops Q rest (a.put o.dst (.agg [p, q].toArray)) w) : wpList Tryz.prog ops Q (o :: rest) a w :=
  wpList_plain hgd fun K hK => by
    have hrun : (Instr.build 71 #[(0, p), (1, q)]).run Tryz.prog w = .ok (.agg [p, q].toArray) w := run_build w _ _ _ (built_st18 p q hp hq)
    unfold Oper.wp
    simp [execOp, ho, hx, hy, hrun, Result.andThen]
    exact hK _ _ h
theorem bdO18 {ops : Array Oper} {rest : List Oper} {o : Oper} {a : Act} {w : World} {Q : Exit → Act → World → Prop} (hgd : o.guard = none) (x : Operand) (ho : o.op = .build 77 #[(0, x)]) (p q : Addr) (hx : a.eval x = .agg #[.pointer (some p), .pointer (some q)])
    (h : wpList Tryz.prog ops Q rest (a.put o.dst (.agg #[.pointer (some p), .pointer (some q), .bool false])) w) : wpList Tryz.prog ops Q (o :: rest) a w :=
  wpList_plain hgd fun K hK => by
    have hrun : (Instr.build 77 #[(0, .agg #[.pointer (some p), .pointer (some q)])]).run Tryz.prog w = .ok (.agg #[.pointer (some p), .pointer (some q), .bool false]) w := run_build w _ _ _ (built_St18 p q)
    unfold Oper.wp
    simp [execOp, ho, hx, hrun, Result.andThen]
    exact hK _ _ h
theorem one_st18 (p q : Option Addr) : ∀ v ∈ [Value.pointer p, Value.pointer q], v.oneCell' = true := by
  intro v hv
  simp only [List.mem_cons, List.not_mem_nil, or_false] at hv
  rcases hv with rfl | rfl <;> rfl
set_option maxRecDepth 100000 in
set_option maxHeartbeats 8000000 in
theorem over18 (V : Disk1) (S : Snap1 V) (J : Jour1 V) (w : World) (d : Value) (F : Nat → Prop) (s : Dsk) (room : Nat) (hD : V.Dt w d F s) (h1 : 1 ≤ room) (h2 : room ≤ 16384) (hr : fb18 room + 1 ≤ s.bl.length) (hbl : s.bl.length ≤ 16384) :
    Calls Tryz.prog 27 #[d, .int .i64 (room : Int)] w fun e w' => ∃ a b G1 G2, e = .returned (.tuple #[.agg #[.pointer (some a), .pointer (some b)], .int .i64 0]) ∧ S.St w' (.pointer (some a)) d 0 room G1 ∧ J.Jt w' (.pointer (some b)) d G2 (fb18 room) (s.bl.length - fb18 room) ⟨0, 0, 0⟩ ∧ (∀ k, G1 k → w.heap.size ≤ k) ∧ (∀ k, G2 k → w.heap.size ≤ k) ∧ (∀ k, G1 k → ¬ G2 k) ∧ Below w.heap.size w w' := by
  have hz := zero_st18
  have HD : Hid (V.Dt w d F s ∧ 1 ≤ room ∧ room ≤ 16384 ∧ fb18 room + 1 ≤ s.bl.length ∧ s.bl.length ≤ 16384) := ⟨hD, h1, h2, hr, hbl⟩
  obtain ⟨n, hn⟩ : ∃ n, s.bl.length = n := ⟨_, rfl⟩
  obtain ⟨R1, hR1⟩ : ∃ R1, 1 + room = R1 := ⟨_, rfl⟩
  obtain ⟨R2, hR2⟩ : ∃ R2, 2 * R1 = R2 := ⟨_, rfl⟩
  obtain ⟨L, hL⟩ : ∃ L, n - R2 = L := ⟨_, rfl⟩
  have hf : fb18 room = R2 := by unfold fb18; omega
  have y1 : IntKind.i64.wrap (1 + (room : Int)) = (R1 : Int) := by rw [IntKind.wrap_i64]; omega
  have y2 : IntKind.i64.wrap (2 * (R1 : Int)) = (R2 : Int) := by rw [IntKind.wrap_i64]; omega
  have y3 : IntKind.i64.wrap ((n : Int) - (R2 : Int)) = (L : Int) := by rw [IntKind.wrap_i64]; omega
  have HN : Hid (s.bl.length = n ∧ fb18 room = R2 ∧ n - R2 = L ∧ 1 ≤ L ∧ R2 + L = n ∧ 0 + 2 * (room + 1) ≤ n) := ⟨hn, hf, hL, by omega, by omega, by omega⟩
  clear hD h1 h2 hr hbl hn hR1 hR2 hL hf
  go_enter Tryz.func27, Tryz.ntmps27
  go_upto_region 1 with (refine alV rfl 71 zst18 hz rfl ?_; intro w1 hV1 hB1 hS1)
  have H1 : Hid (Vb w1 w.heap.size 71 zst18 ∧ Below w.heap.size w w1) := ⟨hV1, hB1⟩
  have C := S.newY w1 d F s 0 room (V.dtK HD.out.1 (fun k hk => hB1.block k (V.dtB HD.out.1 k hk)) hB1.size) HD.out.2.1 HD.out.2.2.1 (by rw [HN.out.1]; exact HN.out.2.2.2.2.2)
  rw [show ((0 : Nat) : Int) = 0 from rfl] at C
  clear hV1 hB1 hS1 hz
  go_upto_region 2 with (go_at_call 47; refine C.mono ?_; rintro e w2 ⟨a, G1, rfl, hS, hG, hB⟩; clear C)
  have H2 : Hid (S.St w2 (.pointer (some a)) d 0 room G1 ∧ (∀ k, G1 k → w1.heap.size ≤ k) ∧ Below w1.heap.size w1 w2 ∧ Vb w2 w.heap.size 71 zst18 ∧ Below w.heap.size w w2) := ⟨hS, hG, hB, H1.out.1.later hB, bchain H1.out.2 hB⟩
  have HDt : Hid (V.Dt w2 d F s) := V.dtK HD.out.1 (fun k hk => H2.out.2.2.2.2.block k (V.dtB HD.out.1 k hk)) H2.out.2.2.2.2.size
  clear hS hG hB
  have CB := V.blocks w2 d F s HDt.out
  rw [HN.out.1] at CB
  have CJ : ∀ w3, Below w2.heap.size w2 w3 → _ := fun w3 hB => J.newY w3 d F s R2 L (V.dtK HDt.out (fun k hk => hB.block k (V.dtB HDt.out k hk)) hB.size) HN.out.2.2.2.1 (by rw [HN.out.1, HN.out.2.2.2.2.1]; exact Nat.le_refl _)
  go_upto_region 6 with (first
    | (go_at_call 49; refine CB.mono ?_; rintro e w3 ⟨rfl, hB3⟩; clear CB; have C := CJ w3 hB3; have H3 : Hid (Below w2.heap.size w2 w3) := hid5 hB3; clear CJ hB3)
    | (go_at_call 48; refine C.mono ?_; rintro e w4 ⟨b, G2, rfl, hJ, hG, hB⟩; clear C))
  have H4 : Hid (J.Jt w4 (.pointer (some b)) d G2 R2 L ⟨0, 0, 0⟩ ∧ (∀ k, G2 k → w3.heap.size ≤ k) ∧ Below w3.heap.size w3 w4) := ⟨hJ, hG, hB⟩
  clear hJ hG hB
  have hV4 := (H2.out.2.2.2.1.later H3.out).later H4.out.2.2
  go_wp2_with (first
    | (refine bdS18 rfl _ _ rfl (.pointer (some a)) (.pointer (some b)) rfl rfl rfl rfl ?_)
    | (refine stV rfl 71 _ _ rfl w.heap.size zst18 [.pointer (some a), .pointer (some b)] rfl rfl hV4 rfl sz_st18 (one_st18 _ _) ?_; intro w5 hV5 hK5 hS5))
  have k24 := bchain H3.out H4.out.2.2
  have hk5 : ∀ k, k < w2.heap.size → k ≠ w.heap.size → w5.heap[k]? = w2.heap[k]? := fun k hk hne => (hK5.block k (Nat.lt_of_lt_of_le hk k24.size) hne).trans (k24.block k hk)
  have s1 := H1.out.2.size
  have v1 := H1.out.1.lt
  have v2 := H2.out.2.2.1.size
  refine bodyPost_ret (v := .tuple #[.agg #[.pointer (some a), .pointer (some b)], .int .i64 0]) (by refine (res_st18 (p := 4) (u := 5) rfl _ hV5 rfl rfl).trans ?_; rfl) rfl ⟨a, b, G1, G2, rfl, ?_, ?_, fun k hk => by have := H2.out.2.1 k hk; omega, fun k hk => by have := H4.out.2.1 k hk; have := H3.out.size; omega, fun k hk hk2 => by have := S.stB H2.out.1 k hk; have := H4.out.2.1 k hk2; have := H3.out.size; omega, ?_⟩
  · exact S.stK H2.out.1 (fun k hk => hk5 k (S.stB H2.out.1 k hk) (by have := H2.out.2.1 k hk; omega))
  · rw [HN.out.1, HN.out.2.1, HN.out.2.2.1]
    exact J.jtK H4.out.1 (fun k hk => hK5.block k (J.jtB H4.out.1 k hk) (by have := H4.out.2.1 k hk; have := H3.out.size; omega)) hK5.size
  · exact hK5.next (bchain H2.out.2.2.2.2 k24) (fun k hk => by omega) (bchain H2.out.2.2.2.2 k24).size
end Go.Proofs.YthnpdcblfocemaaGreatDoor
set_option linter.unusedVariables false
set_option linter.unusedSimpArgs false
namespace Go.Proofs.YthnpdcblfocemaaGreatDoor
open Go.RowKit

theorem bs_told18 {B E : Nat} {X X' : World} {v : Value} {l : List Nat} (h : Bs X v l) (ho : Ow B v) (hE : X.heap.size ≤ E) (k : ∀ i, B ≤ i → i < E → X'.heap[i]? = X.heap[i]?) : Bs X' v l := by
  obtain ⟨ad, cap, b, o, rfl, h1, h2, h3, h4⟩ := h
  refine ⟨ad, cap, b, o, rfl, h1, h2, h3, fun j hj => ?_⟩
  have e := h4 j hj
  have lb := ho ⟨b, o, none⟩ l.length cap (by rw [h3 (by omega)]) (by omega)
  have ub := World.block_lt_of_cell? _ _ e
  dsimp only at lb ub
  exact (World.cell?_of_block (w := X) (a := ⟨b, o + j, none⟩) (k b lb (by omega))).trans e
theorem told18 {G : Nat → Prop} {w w2 w3 w' : World} {vb vl : Value} {b : List Nat} {ls : List (List Nat)} (h1 : Bs w3 vb b) (h2 : Ow w2.heap.size vb) (h3 : TxB w2.heap.size w3 vl ls) (h4 : Below w3.heap.size w3 w') (h5 : w.heap.size ≤ w2.heap.size) (h6 : ∀ k, G k → k < w2.heap.size ∨ w3.heap.size ≤ k) : Told G w w' vb vl b ls := by
  obtain ⟨ad, cap, bb, o, cs, rfl, t2, t3, t4, t5, t6, t7⟩ := h3
  refine ⟨fun k => w2.heap.size ≤ k ∧ k < w3.heap.size, cs, fun k hk => ⟨by omega, by have := h4.size; omega, fun g => by have := h6 k g; omega⟩, fun w'' hw => ?_⟩
  have hk : ∀ i, w2.heap.size ≤ i → i < w3.heap.size → w''.heap[i]? = w3.heap[i]? := fun i q1 q2 => (hw i ⟨q1, q2⟩).trans (h4.block i q2)
  refine ⟨bs_told18 h1 h2 (Nat.le_refl _) hk, ad, cap, bb, o, rfl, t2, t3, t4, fun q => (t5 q).1, t6, fun j hj => ?_⟩
  obtain ⟨x, e1, e2, e3, e4⟩ := t7 j hj
  have lb := (t5 (by omega)).2
  have ub := World.block_lt_of_cell? _ _ e2
  dsimp only at ub
  exact ⟨x, e1, (World.cell?_of_block (w := w3) (a := ⟨bb, o + j, none⟩) (hk bb lb ub)).trans e2, bs_told18 e3 e4 (Nat.le_refl _) hk⟩
def kpE18 (s : Dsk) : Nat := if s.dn = true then 150 else 0
set_option maxRecDepth 100000 in
set_option maxHeartbeats 8000000 in
theorem kept18 (V : Disk1) (S : Snap1 V) (J : Jour1 V) (B : JourB V J) (w : World) (a b : Addr) (d : Value) (F G1 G2 : Nat → Prop) (s : Dsk) (room : Nat) (hS : S.St w (.pointer (some a)) d 0 room G1) (hJ : J.Jt w (.pointer (some b)) d G2 (fb18 room) (s.bl.length - fb18 room) ⟨0, 0, 0⟩) (hD : V.Dt w d F s) (hF : ∀ k, F k → ¬ G2 k) (hT : S8 w) (h1 : 1 ≤ room) (hr : fb18 room + 1 ≤ s.bl.length) (hbl : s.bl.length ≤ 900) (hu : s.un.length ≤ 100) :
    Calls Tryz.prog 28 #[.agg #[.pointer (some a), .pointer (some b)]] w fun e w' => ∃ vb vl, e = .returned (.tuple #[vb, vl, .int .i64 ((kpE18 s : Nat) : Int)]) ∧ Bs w' vb (opB s room) ∧ Ow w.heap.size vb ∧ TxB w.heap.size w' vl (opL s room) ∧ Below w.heap.size w w' := by
  have HD : Hid (V.Dt w d F s ∧ S8 w ∧ J.Jt w (.pointer (some b)) d G2 (fb18 room) (s.bl.length - fb18 room) ⟨0, 0, 0⟩ ∧ (∀ k, F k → ¬ G2 k) ∧ fb18 room + 1 ≤ s.bl.length ∧ s.bl.length ≤ 900 ∧ s.un.length ≤ 100) := ⟨hD, hT, hJ, hF, hr, hbl, hu⟩
  have hr2 : 0 + 2 * (room + 1) ≤ s.bl.length := by unfold fb18 at hr; omega
  have CL := fun (X : World) (hB : Below w.heap.size w X) => S.load X (.pointer (some a)) d F G1 s 0 room (S.stL hS hB) (V.dtK hD (fun k hk => hB.block k (V.dtB hD k hk)) hB.size) (hT.later hB).1 h1 hr2 (by omega) (by omega)
  have HO : Hid ((opB s room = (ldW s 0 room).1) ∧ (opL s room = if (ldW s 0 room).2.2 ≠ 0 then [] else rdL17 s (fb18 room) (s.bl.length - fb18 room) (((ldW s 0 room).2.1 : Nat) : Int))) := ⟨rfl, rfl⟩
  clear hS hJ hD hF hT h1 hr hbl hu hr2
  obtain ⟨w1, hw1⟩ : ∃ w1, w1 = w.alloc (.cells #[.pointer (some a), .pointer (some b)] 71) := ⟨_, rfl⟩
  have hb1 : Below w.heap.size w w1 := by rw [hw1]; exact bel1 _ _
  have x0 : w1.cell? ⟨w.heap.size, 0, none⟩ = some (.pointer (some a)) := by rw [hw1]; simp [go_sem]
  have x1 : w1.cell? ⟨w.heap.size, 1, none⟩ = some (.pointer (some b)) := by rw [hw1]; simp [go_sem]
  have C := CL w1 hb1
  clear CL
  by_cases hd : s.dn = true
  · have e1 : ldW s 0 room = ([], 0, 150) := by unfold ldW; rw [if_pos hd]
    have e2 : kpE18 s = 150 := by unfold kpE18; rw [if_pos hd]
    rw [e1] at C HO
    rw [e2, HO.out.1, HO.out.2]
    have HB1 : Hid (Below w.heap.size w w1) := hb1
    clear hb1
    go_enter Tryz.func28, Tryz.ntmps28
    go_upto_region 1 with fail
    rw [← hw1]
    clear hw1
    go_wp2_with (go_at_call 50; refine C.mono ?_; rintro e w2 ⟨v, rfl, hB, hO, hk⟩; clear C; obtain ⟨ad, cap, rfl, -, -⟩ := hB.len; have HE : Hid (Bs w2 (.slice ad ([] : List Nat).length cap) [] ∧ Ow w1.heap.size (.slice ad ([] : List Nat).length cap) ∧ Below w.heap.size w w2) := hid5 ⟨hB, hO, bchain HB1.out hk⟩; clear hB hO hk)
    go_ret3
    exact ⟨_, _, rfl, HE.out.1, fun a' n c e h0 => Nat.le_trans HB1.out.size (HE.out.2.1 a' n c e h0), txb_nil _ _, HE.out.2.2⟩
  have hd2 : s.dn = false := by simpa using hd
  have e2 : kpE18 s = 0 := by unfold kpE18; rw [if_neg hd]
  rw [e2]
  rcases ldW_two s 0 room hd2 with ⟨g0, g1, g2⟩ | e1
  · obtain ⟨n, hn⟩ : ∃ n, (ldW s 0 room).2.1 = n := ⟨_, rfl⟩
    have e3 : rdE17 s (n : Int) = 0 := by unfold rdE17; rw [if_neg (by omega), if_neg hd]
    rw [g0, hn] at C HO
    rw [if_neg (by simp)] at HO
    rw [HO.out.1, HO.out.2]
    have CR := fun (X : World) (hB : Below w.heap.size w X) => B.read X (.pointer (some b)) d F G2 s (fb18 room) (s.bl.length - fb18 room) ⟨0, 0, 0⟩ (n : Int) (J.jtK HD.out.2.2.1 (fun k hk => hB.block k (J.jtB HD.out.2.2.1 k hk)) hB.size) (V.dtK HD.out.1 (fun k hk => hB.block k (V.dtB HD.out.1 k hk)) hB.size) HD.out.2.2.2.1 (HD.out.2.1.later hB).2 (by have := HD.out.2.2.2.2.1; omega) (by have := HD.out.2.2.2.2.2.1; omega) (by have := HD.out.2.2.2.2.2.2; omega) (by rw [hn] at g2; unfold Bd64; omega)
    rw [e3] at CR
    obtain ⟨LB, hLB⟩ : ∃ LB, (ldW s 0 room).1 = LB := ⟨_, rfl⟩
    obtain ⟨LL, hLL⟩ : ∃ LL, rdL17 s (fb18 room) (s.bl.length - fb18 room) (n : Int) = LL := ⟨_, rfl⟩
    rw [hLB] at C ⊢
    rw [hLL] at CR ⊢
    have HB1 : Hid (Below w.heap.size w w1) := hb1
    clear hb1 g0 g1 g2 hn e3 hLB hLL HO e2 hd hd2
    go_enter Tryz.func28, Tryz.ntmps28
    go_upto_region 1 with fail
    rw [← hw1]
    clear hw1
    go_upto_region 2 with (go_at_call 50; refine C.mono ?_; rintro e w2 ⟨v, rfl, hB, hO, hk⟩; clear C)
    obtain ⟨ad, cap, rfl, -, -⟩ := hB.len
    have HE : Hid (Bs w2 (.slice ad LB.length cap) LB ∧ Ow w1.heap.size (.slice ad LB.length cap) ∧ Below w1.heap.size w1 w2) := ⟨hB, hO, hk⟩
    replace x1 := cell_later hk x1
    have C := CR w2 (bchain HB1.out hk)
    clear hB hO hk CR x0
    go_wp2_with (go_at_call 51; refine C.mono ?_; rintro e w3 ⟨vl, rfl, hL, hk⟩; clear C; have HL : Hid (TxB w2.heap.size w3 vl LL ∧ Below w2.heap.size w2 w3) := hid5 ⟨hL, hk⟩; clear hL hk)
    go_ret3
    exact ⟨_, _, rfl, HE.out.1.later HL.out.2, fun a' n c e h0 => Nat.le_trans HB1.out.size (HE.out.2.1 a' n c e h0), HL.out.1.low (by have := HB1.out.size; have := HE.out.2.2.size; omega), bchain (bchain HB1.out HE.out.2.2) HL.out.2⟩
  · rw [e1] at C HO
    rw [if_pos (by decide)] at HO
    rw [HO.out.1, HO.out.2]
    have HB1 : Hid (Below w.heap.size w w1) := hb1
    clear hb1
    go_enter Tryz.func28, Tryz.ntmps28
    go_upto_region 1 with fail
    rw [← hw1]
    clear hw1
    go_wp2_with (go_at_call 50; refine C.mono ?_; rintro e w2 ⟨v, rfl, hB, hO, hk⟩; clear C; obtain ⟨ad, cap, rfl, -, -⟩ := hB.len; have HE : Hid (Bs w2 (.slice ad ([] : List Nat).length cap) [] ∧ Ow w1.heap.size (.slice ad ([] : List Nat).length cap) ∧ Below w.heap.size w w2) := hid5 ⟨hB, hO, bchain HB1.out hk⟩; clear hB hO hk)
    go_ret3
    exact ⟨_, _, rfl, HE.out.1, fun a' n c e h0 => Nat.le_trans HB1.out.size (HE.out.2.1 a' n c e h0), txb_nil _ _, HE.out.2.2⟩
end Go.Proofs.YthnpdcblfocemaaGreatDoor
