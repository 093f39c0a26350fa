/-
  The program's journal keeps its contracts.
-/
import Derived.Test.YtkbpcmjdfaokhaaDoorZ42
import Derived.Test.YtkbpcmjdfaokhaaDoorYJnLawN

set_option linter.unusedVariables false
set_option linter.unusedSimpArgs false
namespace Go.Proofs.YtkbpcmjdfaokhaaDoor
open Go.RowKit

set_option maxRecDepth 100000 in
set_option maxHeartbeats 8000000 in
theorem jreadD17 (V : Disk1) (w : World) (c d : Nat) (F : Nat → Prop) (s : Dsk) (base size pg pn pb g : Nat) (hP : Pj w c d base size pg pn pb) (hD : V.Dt w (.pointer (some ⟨d, 0, none⟩)) F s) (h1 : 1 ≤ g) (hs1 : 1 ≤ size) (hs : base + size ≤ s.bl.length) (hbl : s.bl.length ≤ 1000) (hd : s.dn = true) :
    Calls Tryd.prog 16 #[.pointer (some ⟨c, 0, none⟩), .int .i64 (g : Int)] w fun e w' => e = .returned (.tuple #[.slice none 0 0, .int .i64 150]) ∧ Below w.heap.size w w' := by
  have hm := fun W (hB : Below w.heap.size w W) => made17 (hP.later hB)
  have HD : Hid (Pj w c d base size pg pn pb ∧ V.Dt w (.pointer (some ⟨d, 0, none⟩)) F s ∧ 1 ≤ size ∧ base + size ≤ s.bl.length ∧ s.bl.length ≤ 1000 ∧ s.dn = true) := ⟨hP, hD, hs1, hs, hbl, hd⟩
  have hkI : ¬ (g : Int) < 1 := by omega
  have hkB : decide ((g : Int) < 1) = false := decide_eq_false hkI
  clear hP hD h1 hs1 hs hbl hd
  go_enter Tryd.func16, Tryd.ntmps16
  go_upto_region 1 with fail
  obtain ⟨w1, hw1⟩ : ∃ w1, w1 = ((w.alloc (.cells #[.pointer (some ⟨c, 0, none⟩)] 31)).alloc (.cells #[.slice none 0 0] 53)).alloc (.cells #[.int .i64 0] 28) := ⟨_, rfl⟩
  have H1 : Hid (Vb w1 w.heap.size 31 [.pointer (some ⟨c, 0, none⟩)] ∧ Vb w1 (w.heap.size + 1) 53 [.slice none 0 0] ∧ Vb w1 (w.heap.size + 1 + 1) 28 [.int .i64 0] ∧ Below w.heap.size w w1 ∧ w1.heap.size = w.heap.size + 3) := by
    rw [hw1]
    refine ⟨((Vb.new w _ [_]).old _).old _, ?_, ?_, ((bel1 _ _).alloc (by simp) _).alloc (by simp; omega) _, by simp⟩
    · have h := (Vb.new (w.alloc (.cells #[.pointer (some ⟨c, 0, none⟩)] 31)) 53 [.slice none 0 0]).old (.cells #[.int .i64 0] 28)
      simpa using h
    · have h := Vb.new ((w.alloc (.cells #[.pointer (some ⟨c, 0, none⟩)] 31)).alloc (.cells #[.slice none 0 0] 53)) 28 [.int .i64 0]
      simpa using h
  have x0 := H1.out.1.cell 0 _ rfl
  have hmd := hm w1 H1.out.2.2.2.1
  rw [← hw1]
  clear hw1 hm
  go_step3
  go_upto_region 3 with (go_at_call 37; refine hmd.mono ?_; rintro e w' ⟨rfl, hw⟩; replace hw := hw.symm; subst hw; clear hmd)
  have hf := first17 g w1
  unfold plJ at hf
  go_upto_region 6 with fail
  go_wp2_with (go_at_call 38; refine hf.mono ?_; rintro e w2 ⟨rfl, hB2⟩; clear hf)
  go_step3
  obtain ⟨bp, hbp⟩ : ∃ bp, w2.heap.size = bp := ⟨_, rfl⟩
  obtain ⟨w3, hw3⟩ : ∃ w3, w3 = w2.alloc (.cells #[.int .i64 (g : Int), .int .i64 1, .int .i64 0] 49) := ⟨_, rfl⟩
  have HR0 : Hid (Rj w c bp g 1 0 w3) := by
    have hb3 : Below w2.heap.size w2 w3 := by rw [hw3]; exact bel1 _ _
    refine ⟨(H1.out.1.later hB2).later hb3, (H1.out.2.1.later hB2).later hb3, (H1.out.2.2.1.later hB2).later hb3, ?_, bchain (bchain H1.out.2.2.2.1 hB2) hb3, ?_⟩
    · rw [hw3, ← hbp]; exact Vb.new w2 49 (plL g 1 0)
    · have := H1.out.2.2.2.2; have := hB2.size; omega
  rw [hbp, ← hw3]
  clear hB2 hbp hw3 H1 x0
  go_wp2
  go_loopw [25] (fun _ wr => wr = w3) (fun _ _ => 0)
  case atStart => rfl
  case round =>
    have hwr := hrel.symm
    subst hwr
    clear hrel
    have x0 := HR0.out.j.cell 0 _ rfl
    have c7 : w3.cell? ⟨bp, 2, none⟩ = some (.int .i64 0) := HR0.out.p.cell 2 _ rfl
    have c2 : w3.cell? ⟨c, 2, none⟩ = some (.int .i64 (size : Int)) := (HD.out.1.later HR0.out.k).c2
    have hI : (0 : Int) < (size : Int) := by have := HD.out.2.2.1; omega
    have hB : decide ((0 : Int) < (size : Int)) = true := decide_eq_true hI
    go_upto_region 7 with fail
    go_quiet (fail)
    have HX1 : Hid (Rj w c bp g 1 0 (w3.drewN nq)) := HR0.out.later (below_drewP (Below.refl _ _) nq)
    clear x0 c7 c2 HR0
    generalize w3.drewN nq = X1 at *
    have x0 := HX1.out.j.cell 0 _ rfl
    have c7 : X1.cell? ⟨bp, 2, none⟩ = some (.int .i64 0) := HX1.out.p.cell 2 _ rfl
    have C := read17 V X1 c d F s base size pg pn pb 0 (HD.out.1.later HX1.out.k) (V.dtK HD.out.2.1 (fun k hk => HX1.out.k.block k (V.dtB HD.out.2.1 k hk)) HX1.out.k.size) (by have := HD.out; omega) HD.out.2.2.2.2.1
    have e1 : rdV s (base + 0) = bkV zr15 := by unfold rdV; rw [if_pos HD.out.2.2.2.2.2]
    have e2 : rdN s = 150 := by unfold rdN; rw [if_pos HD.out.2.2.2.2.2]
    rw [e1, e2] at C
    have hzb := zero_jb17
    clear e1 e2
    go_upto_region 9 with (first
      | (go_at_call 39; refine C.mono ?_; rintro e X2 ⟨rfl, hB2⟩; clear C; have HX2 : Hid (Rj w c bp g 1 0 X2) := hid5 (HX1.out.later hB2); clear hB2 x0 c7 HX1)
      | (refine alV rfl 89 (b8 zr15) hzb rfl ?_; intro X3 hV3 hB3 hS3)
      | (refine stV rfl 89 _ _ rfl X2.heap.size (b8 zr15) (b8 zr15) rfl rfl hV3 rfl (by rw [b8_len, zr_len]; exact sz_jb17) (b8_one _) ?_; intro X4 hV4 hK4 hS4))
    have HX4 : Hid (Rj w c bp g 1 0 X4) := HX2.out.later (hK4.next hB3 (fun i hi => by omega) (by omega))
    clear hV3 hB3 hS3 hV4 hK4 hS4 HX2 hzb
    have e1 := HX4.out.l.cell 0 _ rfl
    have e2 := HX4.out.e.cell 0 _ rfl
    have f1 := HX4.out.l.fro 0
    have f2 := HX4.out.e.fro 0
    go_wp2
    try rw [Exit.noGoto_ret]
    exact bodyPost_ret (v := .tuple #[.slice none 0 0, .int .i64 150]) (by simp [results, Tryd.results16, go_sem, e1, e2]) rfl ⟨rfl, (HX4.out.k.setCell (by dsimp only; omega) _).setCell (by dsimp only; omega) _⟩
theorem txs_nil17 (w : World) : Txs w (.slice none 0 0) [] := (txo_nil 0 w).txs
theorem jread_any17 (V : Disk1) (w : World) (c d : Nat) (F : Nat → Prop) (s : Dsk) (base size : Nat) (j : Jst) (gen : Int) (hP : Pjj w c d base size j) (hD : V.Dt w (.pointer (some ⟨d, 0, none⟩)) F s) (hT : JT w) (hs1 : 1 ≤ size) (hs : base + size ≤ s.bl.length) (hbl : s.bl.length ≤ 1000) (hg : gen < 9223372036854775808) :
    Calls Tryd.prog 16 #[.pointer (some ⟨c, 0, none⟩), .int .i64 gen] w fun e w' => ∃ v, e = .returned (.tuple #[v, .int .i64 ((rdE17 s gen : Nat) : Int)]) ∧ Txs w' v (rdL17 s base size gen) ∧ Below w.heap.size w w' := by
  obtain ⟨pg, pn, pb, hp⟩ : ∃ pg pn pb, Pj w c d base size pg pn pb := by
    unfold Pjj at hP
    split at hP
    · exact ⟨_, _, _, hP⟩
    · exact ⟨_, _, _, hP⟩
  by_cases h1 : gen < 1
  · have e1 : rdE17 s gen = 2 := by unfold rdE17; rw [if_pos h1]
    have e2 : rdL17 s base size gen = [] := by unfold rdL17; rw [if_pos h1]
    rw [e1, e2]
    exact (jreadE17 hp gen h1).mono fun e w' ⟨q1, q2⟩ => ⟨_, q1, txs_nil17 _, q2⟩
  · obtain ⟨g, rfl⟩ : ∃ g : Nat, gen = (g : Int) := ⟨gen.toNat, by omega⟩
    by_cases hd : s.dn = true
    · have e1 : rdE17 s g = 150 := by unfold rdE17; rw [if_neg h1, if_pos hd]
      have e2 : rdL17 s base size g = [] := by unfold rdL17; rw [if_neg h1, if_pos hd]
      rw [e1, e2]
      exact (jreadD17 V w c d F s base size pg pn pb g hp hD (by omega) hs1 hs hbl hd).mono fun e w' ⟨q1, q2⟩ => ⟨_, q1, txs_nil17 _, q2⟩
    · have e1 : rdE17 s g = 0 := by unfold rdE17; rw [if_neg h1, if_neg hd]
      have e2 : rdL17 s base size g = jread (rb s) base size g := by unfold rdL17; rw [if_neg h1, if_neg hd, Int.toNat_natCast]
      rw [e1, e2]
      exact jreadL17 V w c d F s base size pg pn pb g hp hD hT (by omega) (by omega) hs hbl (by simpa using hd)
def jour1 : Jour1 disk1 where
  Jt := fun w q p G base size j => ∃ c d, q = .pointer (some ⟨c, 0, none⟩) ∧ p = .pointer (some ⟨d, 0, none⟩) ∧ Pjj w c d base size j ∧ (1 ≤ size ∧ size ≤ 100000) ∧ ∀ k, G k ↔ k = c
  jtK := fun h k hs => by
    obtain ⟨c, d, e1, e2, h1, h2, h3⟩ := h
    exact ⟨c, d, e1, e2, h1.kept (k c ((h3 c).2 rfl)), h2, h3⟩
  jtB := fun h k hk => by
    obtain ⟨c, d, e1, e2, h1, h2, h3⟩ := h
    obtain rfl := (h3 k).1 hk
    exact h1.lt
  newY := fun w p F s base size hD h1 hr => by
    have hn : s.bl.length ≤ 16384 := by
      obtain ⟨_, _, _, _, _, h⟩ := id hD
      exact h.n2
    obtain ⟨g, rfl⟩ : ∃ g, p = .pointer (some ⟨g, 0, none⟩) := by obtain ⟨g, _, _, _, e, _⟩ := hD; exact ⟨g, e⟩
    exact (newY17 w g F s base size hD h1 hr).mono fun e w' ⟨c, q1, q2, q3, q4⟩ => ⟨⟨c, 0, none⟩, fun k => k = c, q1, ⟨c, g, rfl, rfl, by unfold Pjj; rw [if_pos rfl]; exact q2, ⟨h1, by omega⟩, fun _ => Iff.rfl⟩, fun k hk => by subst hk; exact q3, q4⟩
  newN := fun w p F s base size hD ha hm hno => newN17 w p F s base size hD ha hm hno
  read := fun w q p F G s base size j gen h hD hd hT hr hbl hu hg => by
    obtain ⟨c, d, rfl, rfl, h1, h2, h3⟩ := h
    exact jread_any17 disk1 w c d F s base size j gen h1 hD hT h2.1 hr hbl (by unfold Bd64 at hg; omega)
  begin := fun w q p F G s base size j gen h hD hd hg => by
    obtain ⟨c, d, rfl, rfl, h1, h2, h3⟩ := h
    have hp : ∃ pg pn pb, Pj w c d base size pg pn pb := by
      unfold Pjj at h1
      split at h1
      · exact ⟨_, _, _, h1⟩
      · exact ⟨_, _, _, h1⟩
    obtain ⟨pg, pn, pb, hp⟩ := hp
    by_cases hg1 : gen < 1
    · rw [if_pos hg1, if_pos hg1]
      exact (beginE17 hp gen hg1).mono fun e w' ⟨q1, q2⟩ => ⟨q1, G, ⟨c, d, rfl, rfl, by rw [q2]; exact h1, h2, h3⟩, fun k hk => Or.inl hk, by rw [q2]; exact Kp.refl _ _⟩
    · obtain ⟨k, rfl⟩ : ∃ k : Nat, gen = (k : Int) := ⟨gen.toNat, by omega⟩
      rw [if_neg hg1, if_neg hg1, Int.toNat_natCast]
      exact (begin17 hp k (by omega)).mono fun e w' ⟨q1, q2, q3⟩ => ⟨q1, G, ⟨c, d, rfl, rfl, by unfold Pjj; rw [if_neg (show ¬ (⟨k, 0, 0⟩ : Jst).gen = 0 by dsimp only; omega)]; exact q2, h2, h3⟩, fun k hk => Or.inl hk, q3.mono (fun i hi => (h3 i).2 hi)⟩
  append := fun w q p F G s base size j v r h hD hd hT hFT hGT hr hbl hu hnx hn hgn hv hnf hng hx hl => by
    obtain ⟨c, d, rfl, rfl, h1, h2, h3⟩ := h
    refine (append17 disk1 w c d F s base size j v r h1 hD (fun k hk e => hd k hk ((h3 k).2 e)) hT hFT hr hbl hu hnx hn hgn hv hnf hx hl).mono fun e w' ⟨q1, F', q2, q3, q4, q5⟩ => ⟨q1, F', G, q2, ⟨c, d, rfl, rfl, q3, h2, h3⟩, fun k hk hg => ?_, q4, fun k hk => Or.inl hk, q5.mono (fun k hk => hk.imp id (fun e => (h3 k).2 e))⟩
    rcases q4 k hk with e | e
    · exact hd k e hg
    · have := h1.lt; have := (h3 k).1 hg; omega
  left := fun w q p F G s base size j h hD hn => by
    obtain ⟨c, d, rfl, rfl, h1, h2, h3⟩ := h
    unfold Pjj at h1
    have hb : size ≤ 1000000 := by have := h2.2; omega
    split at h1
    · rename_i hg
      rw [if_pos hg]
      exact leftN17 h1
    · rename_i hg
      rw [if_neg hg]
      exact leftY17 h1 (by omega) hn hb
/-! A journal that is none. -/
def Qj (w : World) (q : Value) : Prop := q = .pointer none ∨ ∃ c : Nat, q = .pointer (some ⟨c, 0, none⟩) ∧ w.cell? ⟨c, 0, none⟩ = some (.pointer none)
theorem Qj.later {w w' : World} {p : Value} (h : Qj w p) (k : Below w.heap.size w w') : Qj w' p := by
  rcases h with e | ⟨d, e, c⟩
  · exact Or.inl e
  · exact Or.inr ⟨d, e, cell_later k c⟩
theorem made_no17 {w : World} {q : Value} (h : Qj w q) : Calls Tryd.prog 37 #[q] w fun e w' => e = .returned (.bool false) ∧ w' = w := by
  rcases h with rfl | ⟨d, rfl, c⟩
  · go_enter Tryd.func37, Tryd.ntmps37
    go_wp2
    go_ret
    exact ⟨rfl, rfl⟩
  · go_enter Tryd.func37, Tryd.ntmps37
    go_wp2
    go_ret
    exact ⟨rfl, rfl⟩
theorem begun_no17 {w : World} {q : Value} (h : Qj w q) : Calls Tryd.prog 36 #[q] w fun e w' => e = .returned (.bool false) ∧ w' = w := by
  have hm := made_no17 h
  clear h
  go_enter Tryd.func36, Tryd.ntmps36
  go_wp2_with (go_at_call 37; refine hm.mono ?_; rintro e w' ⟨rfl, hw⟩; replace hw := hw.symm; subst hw; clear hm)
  go_ret
  exact ⟨rfl, rfl⟩
set_option maxRecDepth 100000 in
theorem newZ17 (w : World) (p : Value) (at_ room : Int) (h : Nd w p) :
    Calls Tryd.prog 10 #[p, .int .i64 at_, .int .i64 room] w fun e w' => e = .returned (.tuple #[.pointer none, .int .i64 1]) ∧ Below w.heap.size w w' := by
  have hB := blocksN15 w p h
  clear h
  go_enter Tryd.func10, Tryd.ntmps10
  go_upto_region 2 with (go_at_call 22; refine hB.mono ?_; rintro e w1 ⟨rfl, hBw⟩; clear hB)
  have HB : Hid (Below w.heap.size w w1) := hBw
  clear hBw
  go_wp2_with fail
  go_ret2
  exact ⟨rfl, HB.out⟩
set_option maxRecDepth 100000 in
theorem beginZ17 (w : World) (q : Value) (k : Int) (h : Qj w q) :
    Calls Tryd.prog 17 #[q, .int .i64 k] w fun e w' => e = .returned (.int .i64 1) ∧ Below w.heap.size w w' := by
  have hm := made_no17 h
  clear h
  go_enter Tryd.func17, Tryd.ntmps17
  go_wp2_with (go_at_call 37; refine hm.mono ?_; rintro e w' ⟨rfl, hw⟩; replace hw := hw.symm; subst hw; clear hm)
  go_ret
  exact ⟨rfl, Below.refl _ _⟩
set_option maxRecDepth 100000 in
theorem appendZ17 (w : World) (q v : Value) (d : List Nat) (h : Qj w q) (hv : Bs w v d) :
    Calls Tryd.prog 18 #[q, v] w fun e w' => e = .returned (.int .i64 1) ∧ Below w.heap.size w w' := by
  have hm := made_no17 h
  obtain ⟨ad, cap, rfl, -, -⟩ := hv.len
  clear h hv
  go_enter Tryd.func18, Tryd.ntmps18
  go_wp2_with (go_at_call 37; refine hm.mono ?_; rintro e w' ⟨rfl, hw⟩; replace hw := hw.symm; subst hw; clear hm)
  go_ret
  exact ⟨rfl, Below.refl _ _⟩
set_option maxRecDepth 100000 in
theorem leftZ17 (w : World) (q : Value) (h : Qj w q) :
    Calls Tryd.prog 15 #[q] w fun e w' => e = .returned (.int .i64 0) ∧ Below w.heap.size w w' := by
  have hm := begun_no17 h
  clear h
  go_enter Tryd.func15, Tryd.ntmps15
  go_wp2_with (go_at_call 36; refine hm.mono ?_; rintro e w' ⟨rfl, hw⟩; replace hw := hw.symm; subst hw; clear hm)
  go_ret
  exact ⟨rfl, Below.refl _ _⟩
set_option maxRecDepth 100000 in
set_option maxHeartbeats 4000000 in
theorem readZ17 (w : World) (q : Value) (k : Int) (h : Qj w q) : Calls Tryd.prog 16 #[q, .int .i64 k] w fun e w' => e = .returned (.tuple #[.slice none 0 0, .int .i64 1]) ∧ Below w.heap.size w w' := by
  have hm := fun W (hB : Below w.heap.size w W) => made_no17 (h.later hB)
  obtain ⟨pq, rfl⟩ : ∃ pq, q = .pointer pq := by
    rcases h with rfl | ⟨d, rfl, -⟩
    · exact ⟨_, rfl⟩
    · exact ⟨_, rfl⟩
  clear h
  go_enter Tryd.func16, Tryd.ntmps16
  go_upto_region 1 with fail
  obtain ⟨w1, hw1⟩ : ∃ w1, w1 = ((w.alloc (.cells #[.pointer pq] 31)).alloc (.cells #[.slice none 0 0] 53)).alloc (.cells #[.int .i64 0] 28) := ⟨_, rfl⟩
  have hB1 : Below w.heap.size w w1 := by rw [hw1]; exact ((bel1 _ _).alloc (by simp) _).alloc (by simp; omega) _
  have x0 : w1.cell? ⟨w.heap.size, 0, none⟩ = some (.pointer pq) := by rw [hw1]; simp [go_sem]
  have x1 : w1.cell? ⟨w.heap.size + 1, 0, none⟩ = some (.slice none 0 0) := by rw [hw1]; simp [go_sem]
  have x2 : w1.cell? ⟨w.heap.size + 1 + 1, 0, none⟩ = some (.int .i64 0) := by rw [hw1]; simp [go_sem]
  have f1 : w1.frozen? ⟨w.heap.size + 1, 0, none⟩ = false := by rw [hw1]; simp [go_sem]
  have f2 : w1.frozen? ⟨w.heap.size + 1 + 1, 0, none⟩ = false := by rw [hw1]; simp [go_sem]
  have hmd := hm w1 hB1
  have HB : Hid (Below w.heap.size w w1) := hB1
  rw [← hw1]
  clear hw1 hm hB1
  go_step3
  go_wp2_with (go_at_call 37; refine hmd.mono ?_; rintro e w' ⟨rfl, hw⟩; replace hw := hw.symm; subst hw; clear hmd)
  try rw [Exit.noGoto_ret]
  exact bodyPost_ret (v := .tuple #[.slice none 0 0, .int .i64 1]) (by simp [results, Tryd.results16, go_sem, x1, x2]) rfl ⟨rfl, (HB.out.setCell (by dsimp only; omega) _).setCell (by dsimp only; omega) _⟩
def jour0 : Jour0 where
  Qt := Qj
  qL := fun h k => h.later k
  qN := fun _ => Or.inl rfl
  qZ := fun w => Or.inr ⟨w.heap.size, rfl, by simp [go_sem]⟩
  new := fun w at_ size _ _ => newZ17 w (.pointer none) at_ size (Or.inl rfl)
  read := fun w q h => (readZ17 w q 1 h).mono fun e w' ⟨q1, q2⟩ => ⟨_, q1, txs_nil17 _, q2⟩
  begin := fun w q h => beginZ17 w q 1 h
  append := fun w q v d h hv _ => appendZ17 w q v d h hv
  left := fun w q h => leftZ17 w q h
end Go.Proofs.YtkbpcmjdfaokhaaDoor
