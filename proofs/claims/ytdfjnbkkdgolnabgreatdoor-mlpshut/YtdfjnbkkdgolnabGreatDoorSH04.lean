/-
  Texts of this proof, joined: PWalkC PWalkE PWalkG0 PWalkH VOut.
-/
import Derived.Test.YtdfjnbkkdgolnabGreatDoorSH02
import Derived.Test.YtdfjnbkkdgolnabGreatDoorSH03
import Derived.Deep.QuietTactic
import Derived.BigQuiet
import Derived.Lib.SliceRun
import Derived.Lib.AppendZerosOnto
import Derived.Lib.AppendZeros
set_option linter.unusedVariables false
set_option linter.unusedSimpArgs false
namespace Go.Proofs.YtdfjnbkkdgolnabGreatDoor
open Go.RowKit


set_option maxHeartbeats 2000000 in
theorem Dot_un (va vb : Value) (n m : Nat) (f g : Nat → Int) (d : Nat) (c : Int) (w : World) (hn : n ≤ 70000) (hm : m ≤ 70000) (c0 : 0 ≤ c) (c1 : c ≤ 900000000) (hV : VT w) (hA : Ar w va n f) (hB : Ar w vb m g) (ha : Nb va d) (hb : Nb vb d) (hU : Uc w d c) :
    Calls Tryz.prog 53 #[.pointer (some ⟨d, 0, none⟩), va, vb] w fun e w' => e = .returned (.tuple #[.int .i64 (dX n m f g), .int .i64 (dE n m)]) ∧ Un d (c + bi (dO n m f g)) w w' := by
  obtain ⟨ada, ca, ba, oa, rfl, k1, k2, -, -⟩ := id hA
  obtain ⟨adb, cb, bb, ob, rfl, q1, q2, -, -⟩ := id hB
  have hb0 := bel1 w (.cells #[.slice ada n ca, .slice adb m cb] 23)
  obtain ⟨hc, hf⟩ := hU
  have hc' := cell_later hb0 hc
  have hf' := frozen_later hb0 hc hf
  unfold maxLen at *
  rcases (show (n = m ∧ n ≤ 65536) ∨ (n = m ∧ 65536 < n) ∨ n ≠ m by omega) with ⟨hnm, hl⟩ | ⟨hnm, hl⟩ | hnm
  · subst hnm
    have hE : dE n n = 0 := by unfold dE; rw [if_neg (by omega), if_pos rfl]
    have hs1 : ¬ (65536 : Int) < (n : Int) := by omega
    have CK : Hid (Calls Tryz.prog 32 #[.bool true, .slice (some ⟨w.heap.size, 0, none⟩) 2 2] (w.alloc (.cells #[.slice ada n ca, .slice adb n cb] 23)) fun e w' => e = .returned (.int .i64 0) ∧ w' = w.alloc (.cells #[.slice ada n ca, .slice adb n cb] 23)) := by
      have h := check2_any true w ada adb n ca n cb (by unfold maxLen; omega) (by unfold maxLen; omega)
      rw [if_neg (by omega), if_pos rfl] at h
      exact h
    have CD : Hid (Calls Tryz.prog 72 #[.pointer (some ⟨d, 0, none⟩), .slice ada n ca, .slice adb n cb] (w.alloc (.cells #[.slice ada n ca, .slice adb n cb] 23)) fun e w' => e = .returned (.int .i64 (clv (rr (dotV f g n) 32))) ∧ Un d (c + bi (ovv (rr (dotV f g n) 32))) (w.alloc (.cells #[.slice ada n ca, .slice adb n cb] 23)) w') := vdot_un _ _ n f g hn d c c0 (by omega) _ (VT.later hV hb0) (hA.later hb0) (hB.later hb0) hc' hf'
    rw [show dX n n f g = clv (rr (dotV f g n) 32) by unfold dX; rw [if_pos hE], show dO n n f g = ovv (rr (dotV f g n) 32) by unfold dO; rw [if_pos hE], hE]
    generalize clv (rr (dotV f g n) 32) = x at *
    generalize bi (ovv (rr (dotV f g n) 32)) = z at *
    clear hA hB hV hc hf ha hb hE
    go_enter Tryz.func53, Tryz.ntmps53
    go_wp2_with fail
    refine CK.out.mono ?_
    rintro e w1 ⟨rfl, hz⟩
    subst hz
    clear CK
    go_wp2_with fail
    refine CD.out.mono ?_
    rintro e w3 ⟨rfl, hU⟩
    have hX := Un.after hb0 hU
    clear hU hc' hf' CD hb0
    go_wp2
    go_ret2
    exact ⟨rfl, hX⟩
  · subst hnm
    have hE : dE n n = 3 := by unfold dE; rw [if_pos (by omega)]
    have CK : Hid (Calls Tryz.prog 32 #[.bool true, .slice (some ⟨w.heap.size, 0, none⟩) 2 2] (w.alloc (.cells #[.slice ada n ca, .slice adb n cb] 23)) fun e w' => e = .returned (.int .i64 3) ∧ w' = w.alloc (.cells #[.slice ada n ca, .slice adb n cb] 23)) := by
      have h := check2_any true w ada adb n ca n cb (by unfold maxLen; omega) (by unfold maxLen; omega)
      rw [if_pos (by omega)] at h
      exact h
    rw [show dX n n f g = 0 by unfold dX; rw [if_neg (by rw [hE]; decide)], show dO n n f g = false by unfold dO; rw [if_neg (by rw [hE]; decide)], hE]
    rw [show c + bi false = c by unfold bi; simp]
    have hX := Un.after hb0 (Un.same hc' hf')
    clear hA hB hV hc hf ha hb hc' hf' hb0 hE
    go_enter Tryz.func53, Tryz.ntmps53
    go_wp2_with fail
    refine CK.out.mono ?_
    rintro e w1 ⟨rfl, hz⟩
    subst hz
    clear CK
    go_wp2
    go_ret2
    exact ⟨rfl, hX⟩
  · have hnI : ((n : Int) == (m : Int)) = false := beq_eq_false_iff_ne.2 (by omega)
    obtain ⟨E, hE⟩ : ∃ E, dE n m = E := ⟨_, rfl⟩
    have hck : (if 65536 < n ∨ 65536 < m then (3 : Int) else if false = true then 0 else 40) = E := by rw [← hE]; unfold dE; rw [if_neg (show ¬ false = true by decide), if_neg hnm]
    have hne : ¬ E = 0 := by rw [← hE]; unfold dE; split <;> simp [hnm]
    have CK : Hid (Calls Tryz.prog 32 #[.bool false, .slice (some ⟨w.heap.size, 0, none⟩) 2 2] (w.alloc (.cells #[.slice ada n ca, .slice adb m cb] 23)) fun e w' => e = .returned (.int .i64 E) ∧ w' = w.alloc (.cells #[.slice ada n ca, .slice adb m cb] 23)) := by
      have h := check2_any false w ada adb n ca m cb (by unfold maxLen; omega) (by unfold maxLen; omega)
      rw [hck] at h
      exact h
    rw [show dX n m f g = 0 by unfold dX; rw [if_neg (by rw [hE]; exact hne)], show dO n m f g = false by unfold dO; rw [if_neg (by rw [hE]; exact hne)], hE]
    rw [show c + bi false = c by unfold bi; simp]
    have hX := Un.after hb0 (Un.same hc' hf')
    clear hA hB hV hc hf ha hb hc' hf' hb0 hE
    go_enter Tryz.func53, Tryz.ntmps53
    go_wp2_with fail
    refine CK.out.mono ?_
    rintro e w1 ⟨rfl, hz⟩
    subst hz
    clear CK
    go_wp2
    go_ret2
    exact ⟨rfl, hX⟩

set_option maxHeartbeats 2000000 in
theorem Sum_un (va : Value) (n : Nat) (f : Nat → Int) (d : Nat) (c : Int) (w : World) (hn : n ≤ 70000) (c0 : 0 ≤ c) (c1 : c ≤ 900000000) (hV : VT w) (hA : Ar w va n f) (ha : Nb va d) (hU : Uc w d c) :
    Calls Tryz.prog 144 #[.pointer (some ⟨d, 0, none⟩), va] w fun e w' => e = .returned (.tuple #[.int .i64 (sX n f), .int .i64 (sE n)]) ∧ Un d (c + bi (sO n f)) w w' := by
  obtain ⟨ada, ca, ba, oa, rfl, k1, k2, -, -⟩ := id hA
  have hb0 := bel1 w (.cells #[.slice ada n ca] 23)
  obtain ⟨hc, hf⟩ := hU
  have hc' := cell_later hb0 hc
  have hf' := frozen_later hb0 hc hf
  unfold maxLen at *
  by_cases hl : n ≤ 65536
  · have hs1 : ¬ (65536 : Int) < (n : Int) := by omega
    have hE : sE n = 0 := by unfold sE; rw [if_neg (by omega)]
    have CK : Hid (Calls Tryz.prog 32 #[.bool true, .slice (some ⟨w.heap.size, 0, none⟩) 1 1] (w.alloc (.cells #[.slice ada n ca] 23)) fun e w' => e = .returned (.int .i64 0) ∧ w' = w.alloc (.cells #[.slice ada n ca] 23)) := by
      have h := check1_any true w ada n ca (by unfold maxLen; omega)
      rw [if_neg (by omega), if_pos rfl] at h
      exact h
    have CT : Hid (Calls Tryz.prog 41 #[.slice ada n ca] (w.alloc (.cells #[.slice ada n ca] 23)) fun e w' => e = .returned (.agg #[.int .i64 (hi (sumV f n)), .int .u64 (lo (sumV f n))]) ∧ Below (w.alloc (.cells #[.slice ada n ca] 23)).heap.size (w.alloc (.cells #[.slice ada n ca] 23)) w') := total_any _ n f _ (hA.later hb0)
    obtain ⟨v0, v1⟩ := sumV_rng _ n f (by omega) w hA
    have CD : Hid (∀ W : World, W.cell? ⟨d, 0, none⟩ = some (.int .i64 c) → W.frozen? ⟨d, 0, none⟩ = false → Calls Tryz.prog 60 #[.pointer (some ⟨d, 0, none⟩), .agg #[.int .i64 (hi (sumV f n)), .int .u64 (lo (sumV f n))]] W fun e w' => e = .returned (.int .i64 (clv (sumV f n))) ∧ Un d (c + bi (ovv (sumV f n))) W w') := fun W x y => vhold_un (sumV f n) v0 v1 d c c0 (by omega) W x y
    clear v0 v1
    rw [show sX n f = clv (sumV f n) by unfold sX; rw [if_pos hE], show sO n f = ovv (sumV f n) by unfold sO; rw [if_pos hE], hE]
    generalize clv (sumV f n) = x at *
    generalize bi (ovv (sumV f n)) = z at *
    generalize hi (sumV f n) = sh at *
    generalize lo (sumV f n) = sl at *
    clear hA hV hc hf ha hE
    go_enter Tryz.func144, Tryz.ntmps144
    go_wp2_with fail
    refine CK.out.mono ?_
    rintro e w1 ⟨rfl, hz⟩
    subst hz
    clear CK
    go_wp2_with fail
    refine CT.out.mono ?_
    rintro e w2 ⟨rfl, hb2⟩
    have W2 := bchain hb0 hb2
    clear CT
    have x2 := cell_later hb2 hc'
    have y2 := frozen_later hb2 hc' hf'
    clear hc' hf' hb2 hb0
    go_wp2_with fail
    refine (CD.out _ x2 y2).mono ?_
    rintro e w3 ⟨rfl, hU⟩
    have hX := Un.after W2 hU
    clear hU x2 y2 CD W2
    go_wp2
    go_ret2
    exact ⟨rfl, hX⟩
  · have hE : sE n = 3 := by unfold sE; rw [if_pos (by omega)]
    have CK : Hid (Calls Tryz.prog 32 #[.bool true, .slice (some ⟨w.heap.size, 0, none⟩) 1 1] (w.alloc (.cells #[.slice ada n ca] 23)) fun e w' => e = .returned (.int .i64 3) ∧ w' = w.alloc (.cells #[.slice ada n ca] 23)) := by
      have h := check1_any true w ada n ca (by unfold maxLen; omega)
      rw [if_pos (by omega)] at h
      exact h
    rw [show sX n f = 0 by unfold sX; rw [if_neg (by rw [hE]; decide)], show sO n f = false by unfold sO; rw [if_neg (by rw [hE]; decide)], hE]
    rw [show c + bi false = c by unfold bi; simp]
    have hX := Un.after hb0 (Un.same hc' hf')
    clear hA hV hc hf ha hc' hf' hb0 hE
    go_enter Tryz.func144, Tryz.ntmps144
    go_wp2_with fail
    refine CK.out.mono ?_
    rintro e w1 ⟨rfl, hz⟩
    subst hz
    clear CK
    go_wp2
    go_ret2
    exact ⟨rfl, hX⟩

set_option maxHeartbeats 2000000 in
theorem Dot_nil (va vb : Value) (n m : Nat) (f g : Nat → Int) (w : World) (hn : n ≤ 70000) (hm : m ≤ 70000) (hV : VT w) (hA : Ar w va n f) (hB : Ar w vb m g) :
    Calls Tryz.prog 53 #[.pointer none, va, vb] w fun e w' => e = .returned (.tuple #[.int .i64 (dX n m f g), .int .i64 (dE n m)]) ∧ Below w.heap.size w w' := by
  obtain ⟨ada, ca, ba, oa, rfl, k1, k2, -, -⟩ := id hA
  obtain ⟨adb, cb, bb, ob, rfl, q1, q2, -, -⟩ := id hB
  have hb0 := bel1 w (.cells #[.slice ada n ca, .slice adb m cb] 23)
  unfold maxLen at *
  rcases (show (n = m ∧ n ≤ 65536) ∨ (n = m ∧ 65536 < n) ∨ n ≠ m by omega) with ⟨hnm, hl⟩ | ⟨hnm, hl⟩ | hnm
  · subst hnm
    have hE : dE n n = 0 := by unfold dE; rw [if_neg (by omega), if_pos rfl]
    have hs1 : ¬ (65536 : Int) < (n : Int) := by omega
    have CK : Hid (Calls Tryz.prog 32 #[.bool true, .slice (some ⟨w.heap.size, 0, none⟩) 2 2] (w.alloc (.cells #[.slice ada n ca, .slice adb n cb] 23)) fun e w' => e = .returned (.int .i64 0) ∧ w' = w.alloc (.cells #[.slice ada n ca, .slice adb n cb] 23)) := by
      have h := check2_any true w ada adb n ca n cb (by unfold maxLen; omega) (by unfold maxLen; omega)
      rw [if_neg (by omega), if_pos rfl] at h
      exact h
    have CD : Hid (Calls Tryz.prog 72 #[.pointer none, .slice ada n ca, .slice adb n cb] (w.alloc (.cells #[.slice ada n ca, .slice adb n cb] 23)) fun e w' => e = .returned (.int .i64 (clv (rr (dotV f g n) 32))) ∧ Below (w.alloc (.cells #[.slice ada n ca, .slice adb n cb] 23)).heap.size (w.alloc (.cells #[.slice ada n ca, .slice adb n cb] 23)) w') := vdot_nil _ _ n f g hn _ (VT.later hV hb0) (hA.later hb0) (hB.later hb0)
    rw [show dX n n f g = clv (rr (dotV f g n) 32) by unfold dX; rw [if_pos hE], hE]
    generalize clv (rr (dotV f g n) 32) = x at *
    clear hA hB hV hE
    go_enter Tryz.func53, Tryz.ntmps53
    go_wp2_with fail
    refine CK.out.mono ?_
    rintro e w1 ⟨rfl, hz⟩
    subst hz
    clear CK
    go_wp2_with fail
    refine CD.out.mono ?_
    rintro e w3 ⟨rfl, hb3⟩
    have hX := bchain hb0 hb3
    clear hb3 CD hb0
    go_wp2
    go_ret2
    exact ⟨rfl, hX⟩
  · subst hnm
    have hE : dE n n = 3 := by unfold dE; rw [if_pos (by omega)]
    have CK : Hid (Calls Tryz.prog 32 #[.bool true, .slice (some ⟨w.heap.size, 0, none⟩) 2 2] (w.alloc (.cells #[.slice ada n ca, .slice adb n cb] 23)) fun e w' => e = .returned (.int .i64 3) ∧ w' = w.alloc (.cells #[.slice ada n ca, .slice adb n cb] 23)) := by
      have h := check2_any true w ada adb n ca n cb (by unfold maxLen; omega) (by unfold maxLen; omega)
      rw [if_pos (by omega)] at h
      exact h
    rw [show dX n n f g = 0 by unfold dX; rw [if_neg (by rw [hE]; decide)], hE]
    clear hA hB hV hE
    go_enter Tryz.func53, Tryz.ntmps53
    go_wp2_with fail
    refine CK.out.mono ?_
    rintro e w1 ⟨rfl, hz⟩
    subst hz
    clear CK
    go_wp2
    go_ret2
    exact ⟨rfl, hb0⟩
  · have hnI : ((n : Int) == (m : Int)) = false := beq_eq_false_iff_ne.2 (by omega)
    obtain ⟨E, hE⟩ : ∃ E, dE n m = E := ⟨_, rfl⟩
    have hck : (if 65536 < n ∨ 65536 < m then (3 : Int) else if false = true then 0 else 40) = E := by rw [← hE]; unfold dE; rw [if_neg (show ¬ false = true by decide), if_neg hnm]
    have hne : ¬ E = 0 := by rw [← hE]; unfold dE; split <;> simp [hnm]
    have CK : Hid (Calls Tryz.prog 32 #[.bool false, .slice (some ⟨w.heap.size, 0, none⟩) 2 2] (w.alloc (.cells #[.slice ada n ca, .slice adb m cb] 23)) fun e w' => e = .returned (.int .i64 E) ∧ w' = w.alloc (.cells #[.slice ada n ca, .slice adb m cb] 23)) := by
      have h := check2_any false w ada adb n ca m cb (by unfold maxLen; omega) (by unfold maxLen; omega)
      rw [hck] at h
      exact h
    rw [show dX n m f g = 0 by unfold dX; rw [if_neg (by rw [hE]; exact hne)], hE]
    clear hA hB hV hE
    go_enter Tryz.func53, Tryz.ntmps53
    go_wp2_with fail
    refine CK.out.mono ?_
    rintro e w1 ⟨rfl, hz⟩
    subst hz
    clear CK
    go_wp2
    go_ret2
    exact ⟨rfl, hb0⟩

set_option maxHeartbeats 2000000 in
theorem Sum_nil (va : Value) (n : Nat) (f : Nat → Int) (w : World) (hn : n ≤ 70000) (hV : VT w) (hA : Ar w va n f) :
    Calls Tryz.prog 144 #[.pointer none, va] w fun e w' => e = .returned (.tuple #[.int .i64 (sX n f), .int .i64 (sE n)]) ∧ Below w.heap.size w w' := by
  obtain ⟨ada, ca, ba, oa, rfl, k1, k2, -, -⟩ := id hA
  have hb0 := bel1 w (.cells #[.slice ada n ca] 23)
  unfold maxLen at *
  by_cases hl : n ≤ 65536
  · have hs1 : ¬ (65536 : Int) < (n : Int) := by omega
    have hE : sE n = 0 := by unfold sE; rw [if_neg (by omega)]
    have CK : Hid (Calls Tryz.prog 32 #[.bool true, .slice (some ⟨w.heap.size, 0, none⟩) 1 1] (w.alloc (.cells #[.slice ada n ca] 23)) fun e w' => e = .returned (.int .i64 0) ∧ w' = w.alloc (.cells #[.slice ada n ca] 23)) := by
      have h := check1_any true w ada n ca (by unfold maxLen; omega)
      rw [if_neg (by omega), if_pos rfl] at h
      exact h
    have CT : Hid (Calls Tryz.prog 41 #[.slice ada n ca] (w.alloc (.cells #[.slice ada n ca] 23)) fun e w' => e = .returned (.agg #[.int .i64 (hi (sumV f n)), .int .u64 (lo (sumV f n))]) ∧ Below (w.alloc (.cells #[.slice ada n ca] 23)).heap.size (w.alloc (.cells #[.slice ada n ca] 23)) w') := total_any _ n f _ (hA.later hb0)
    obtain ⟨v0, v1⟩ := sumV_rng _ n f (by omega) w hA
    have CD : Hid (∀ W : World, Calls Tryz.prog 60 #[.pointer none, .agg #[.int .i64 (hi (sumV f n)), .int .u64 (lo (sumV f n))]] W fun e w' => e = .returned (.int .i64 (clv (sumV f n))) ∧ Below W.heap.size W w') := fun W => vhold_nil (sumV f n) v0 v1 W
    clear v0 v1
    rw [show sX n f = clv (sumV f n) by unfold sX; rw [if_pos hE], hE]
    generalize clv (sumV f n) = x at *
    generalize hi (sumV f n) = sh at *
    generalize lo (sumV f n) = sl at *
    clear hA hV hE
    go_enter Tryz.func144, Tryz.ntmps144
    go_wp2_with fail
    refine CK.out.mono ?_
    rintro e w1 ⟨rfl, hz⟩
    subst hz
    clear CK
    go_wp2_with fail
    refine CT.out.mono ?_
    rintro e w2 ⟨rfl, hb2⟩
    have W2 := bchain hb0 hb2
    clear CT
    clear hb2 hb0
    go_wp2_with fail
    refine (CD.out _).mono ?_
    rintro e w3 ⟨rfl, hb3⟩
    have hX := bchain W2 hb3
    clear hb3 CD W2
    go_wp2
    go_ret2
    exact ⟨rfl, hX⟩
  · have hE : sE n = 3 := by unfold sE; rw [if_pos (by omega)]
    have CK : Hid (Calls Tryz.prog 32 #[.bool true, .slice (some ⟨w.heap.size, 0, none⟩) 1 1] (w.alloc (.cells #[.slice ada n ca] 23)) fun e w' => e = .returned (.int .i64 3) ∧ w' = w.alloc (.cells #[.slice ada n ca] 23)) := by
      have h := check1_any true w ada n ca (by unfold maxLen; omega)
      rw [if_pos (by omega)] at h
      exact h
    rw [show sX n f = 0 by unfold sX; rw [if_neg (by rw [hE]; decide)], hE]
    clear hA hV hE
    go_enter Tryz.func144, Tryz.ntmps144
    go_wp2_with fail
    refine CK.out.mono ?_
    rintro e w1 ⟨rfl, hz⟩
    subst hz
    clear CK
    go_wp2
    go_ret2
    exact ⟨rfl, hb0⟩

end Go.Proofs.YtdfjnbkkdgolnabGreatDoor
set_option linter.unusedVariables false
set_option linter.unusedSimpArgs false
namespace Go.Proofs.YtdfjnbkkdgolnabGreatDoor
open Go.RowKit

theorem Un.setnew {d : Nat} {c : Int} {w w1 : World} (h : Un d c w w1) (a : Addr) (u : Value) (hd : d < w.heap.size) (ha : w.heap.size ≤ a.block) : Un d c w (w1.setCell a u) where
  c := cell_set (by dsimp only; omega) h.c
  f := by rw [World.frozen?_setCell]; exact h.f
  b := fun base w0 h1 h2 h3 => (h.b base w0 h1 h2 h3).setCell (by omega) _
  o := fun b v hb hc => cell_set (by have := World.block_lt_of_cell? _ _ hc; omega) (h.o b v hb hc)
  s := by rw [World.size_setCell]; exact h.s
  k := fun i hi hn => (Below.heap_setCell _ _ _ _ (by omega)).trans (h.k i hi hn)
theorem hmf_any : ∀ (fn : Fn) (first cap : Array Value) (w : World), (Instr.makeFunc fn first cap).run Tryz.prog w = .ok (.func fn first cap) w := fun _ _ _ _ => rfl
theorem cell_new1 (w : World) (x : Value) (t : TypeId) (h : x.oneCell' = true := by rfl) : (w.alloc (.cells #[x] t)).cell? ⟨w.heap.size, 0, none⟩ = some x := by simp [go_sem]

set_option maxHeartbeats 1000000 in
theorem sc1_un (k x : Int) (k0 : -9223372036854775808 ≤ k) (k1 : k ≤ 9223372036854775807) (x0 : -9223372036854775808 ≤ x) (x1 : x ≤ 9223372036854775807) (bu bk : Nat) (d : Nat) (c : Int) (c0 : 0 ≤ c) (c1 : c ≤ 1000000000) (w : World) (hc : w.cell? ⟨d, 0, none⟩ = some (.int .i64 c)) (hf : w.frozen? ⟨d, 0, none⟩ = false) (cu : w.cell? ⟨bu, 0, none⟩ = some (.pointer (some ⟨d, 0, none⟩))) (ck : w.cell? ⟨bk, 0, none⟩ = some (.int .i64 k)) :
    Calls Tryz.prog 89 #[.int .i64 x, .pointer (some ⟨bu, 0, none⟩), .pointer (some ⟨bk, 0, none⟩)] w fun e w' => e = .returned (.int .i64 (clv (rnd (k * x) 32))) ∧ Un d (c + bi (ovv (rnd (k * x) 32))) w w' := by
  have CM : Hid (Calls Tryz.prog 90 #[.pointer (some ⟨d, 0, none⟩), .int .i64 k, .int .i64 x] w fun e w' => e = .returned (.int .i64 (clv (rnd (k * x) 32))) ∧ Un d (c + bi (ovv (rnd (k * x) 32))) w w') := uMul_un k x k0 k1 x0 x1 d c c0 c1 w hc hf
  obtain ⟨r0, r1⟩ := clv_fit (rnd (k * x) 32)
  generalize clv (rnd (k * x) 32) = X at *
  clear hc hf
  go_enter Tryz.func89, Tryz.ntmps89
  go_wp2_with fail
  refine CM.out.mono ?_
  rintro e w1 ⟨rfl, hb⟩
  clear CM cu ck
  go_wp2
  go_ret
  exact ⟨rfl, hb⟩

set_option maxHeartbeats 1000000 in
theorem sc1_nil (k x : Int) (k0 : -9223372036854775808 ≤ k) (k1 : k ≤ 9223372036854775807) (x0 : -9223372036854775808 ≤ x) (x1 : x ≤ 9223372036854775807) (bu bk : Nat) (w : World) (cu : w.cell? ⟨bu, 0, none⟩ = some (.pointer none)) (ck : w.cell? ⟨bk, 0, none⟩ = some (.int .i64 k)) :
    Calls Tryz.prog 89 #[.int .i64 x, .pointer (some ⟨bu, 0, none⟩), .pointer (some ⟨bk, 0, none⟩)] w fun e w' => e = .returned (.int .i64 (clv (rnd (k * x) 32))) ∧ Below w.heap.size w w' := by
  have CM : Hid (Calls Tryz.prog 90 #[.pointer none, .int .i64 k, .int .i64 x] w fun e w' => e = .returned (.int .i64 (clv (rnd (k * x) 32))) ∧ Below w.heap.size w w') := uMul_nil k x k0 k1 x0 x1 w
  obtain ⟨r0, r1⟩ := clv_fit (rnd (k * x) 32)
  generalize clv (rnd (k * x) 32) = X at *
  skip
  go_enter Tryz.func89, Tryz.ntmps89
  go_wp2_with fail
  refine CM.out.mono ?_
  rintro e w1 ⟨rfl, hb⟩
  clear CM cu ck
  go_wp2
  go_ret
  exact ⟨rfl, hb⟩

set_option maxHeartbeats 2000000 in
theorem scaled_un (k : Int) (k0 : -9223372036854775808 ≤ k) (k1 : k ≤ 9223372036854775807) (va : Value) (n : Nat) (f : Nat → Int) (hn : n ≤ 70000) (d : Nat) (c : Int) (c0 : 0 ≤ c) (c1 : c ≤ 900000000) (w : World) (hA : Ar w va n f) (ha : Nb va d) (hc : w.cell? ⟨d, 0, none⟩ = some (.int .i64 c)) (hf : w.frozen? ⟨d, 0, none⟩ = false) :
    Calls Tryz.prog 70 #[.pointer (some ⟨d, 0, none⟩), .int .i64 k, va] w fun e w' => e = .returned (.slice (some ⟨w.heap.size + 2, 0, none⟩) n n) ∧ Ar w' (.slice (some ⟨w.heap.size + 2, 0, none⟩) n n) n (fun i => clv (rnd (k * f i) 32)) ∧ Un d (c + cntV (fun i => ovv (rnd (k * f i) 32)) n) w w' := by
  have hmf := hmf_any
  have hb0 := bel2 w (.cells #[.pointer (some ⟨d, 0, none⟩)] 45) (.cells #[.int .i64 k] 32)
  have cu : ((w.alloc (.cells #[.pointer (some ⟨d, 0, none⟩)] 45)).alloc (.cells #[.int .i64 k] 32)).cell? ⟨w.heap.size, 0, none⟩ = some (.pointer (some ⟨d, 0, none⟩)) := cell_later (bel1 _ _) (cell_new1 w _ _)
  have ck : ((w.alloc (.cells #[.pointer (some ⟨d, 0, none⟩)] 45)).alloc (.cells #[.int .i64 k] 32)).cell? ⟨w.heap.size + 1, 0, none⟩ = some (.int .i64 k) := by have h := cell_new1 (w.alloc (.cells #[.pointer (some ⟨d, 0, none⟩)] 45)) (.int .i64 k) 32; rw [World.size_alloc] at h; exact h
  have hsz : ((w.alloc (.cells #[.pointer (some ⟨d, 0, none⟩)] 45)).alloc (.cells #[.int .i64 k] 32)).heap.size = w.heap.size + 2 := by simp
  have CE : Hid (Calls Tryz.prog 88 #[va, .func (.func 89) #[] #[.pointer (some ⟨w.heap.size, 0, none⟩), .pointer (some ⟨w.heap.size + 1, 0, none⟩)]] ((w.alloc (.cells #[.pointer (some ⟨d, 0, none⟩)] 45)).alloc (.cells #[.int .i64 k] 32)) fun e w' => e = .returned (.slice (some ⟨w.heap.size + 2, 0, none⟩) n n) ∧ Ar w' (.slice (some ⟨w.heap.size + 2, 0, none⟩) n n) n (fun i => clv (rnd (k * f i) 32)) ∧ Un d (c + cntV (fun i => ovv (rnd (k * f i) 32)) n) w w') := by
    have hd := World.block_lt_of_cell? _ _ hc
    dsimp only at hd
    have hc2 := cell_later hb0 hc
    have hf2 := frozen_later hb0 hc hf
    have h := each_scaled (.pointer (some ⟨w.heap.size, 0, none⟩)) (.pointer (some ⟨w.heap.size + 1, 0, none⟩)) (fun j W => Un d (c + cntV (fun i => ovv (rnd (k * f i) 32)) j) ((w.alloc (.cells #[.pointer (some ⟨d, 0, none⟩)] 45)).alloc (.cells #[.int .i64 k] 32)) W) va n f (fun i => clv (rnd (k * f i) 32)) ((w.alloc (.cells #[.pointer (some ⟨d, 0, none⟩)] 45)).alloc (.cells #[.int .i64 k] 32)) hn (hA.later hb0) (by simpa [cntV] using Un.same hc2 hf2) (fun j W W' h hb => h.ahead hb) (fun j W a x hx h => h.setnew a x (by rw [hsz]; omega) hx) (fun j W h => (hA.later hb0).un ha h) (fun j _ => clv_fit _) (fun j W hj hW h => by
      have r := cnt_rng (fun i => ovv (rnd (k * f i) 32)) j
      obtain ⟨_, _, _, _, _, _, _, _, hx⟩ := hA
      have hx := (hx j hj).2
      refine (sc1_un k (f j) k0 k1 hx.1 hx.2 w.heap.size (w.heap.size + 1) d _ (by omega) (by omega) W h.c h.f (h.o _ _ (by dsimp only; omega) cu) (h.o _ _ (by dsimp only; omega) ck)).mono ?_
      rintro e w' ⟨rfl, hU⟩
      refine ⟨rfl, ?_, hU.k _ (by omega) (by rw [hsz]; omega), hU.s⟩
      have e1 : c + cntV (fun i => ovv (rnd (k * f i) 32)) (j + 1) = c + cntV (fun i => ovv (rnd (k * f i) 32)) j + bi (ovv (rnd (k * f j) 32)) := by rw [Int.add_assoc]; rfl
      show Un d (c + cntV (fun i => ovv (rnd (k * f i) 32)) (j + 1)) _ w'
      rw [e1]
      exact h.chain hU)
    refine h.mono ?_
    rintro e w' ⟨rfl, hS, hX⟩
    rw [hsz] at hX ⊢
    exact ⟨rfl, hX, Un.after hb0 hS⟩
  obtain ⟨adr, cap, b, o, rfl, -, -, -, -⟩ := hA
  clear cu ck hb0 hsz ha hc hf
  go_enter Tryz.func70, Tryz.ntmps70
  go_wp2_with fail
  refine CE.out.mono ?_
  rintro e w' ⟨rfl, hX, hU⟩
  have HX : Hid (Ar w' (.slice (some ⟨w.heap.size + 2, 0, none⟩) n n) n (fun i => clv (rnd (k * f i) 32))) := hX
  clear CE hX
  go_wp2
  go_ret
  exact ⟨rfl, HX.out, hU⟩

set_option maxHeartbeats 2000000 in
theorem scaled_nil (k : Int) (k0 : -9223372036854775808 ≤ k) (k1 : k ≤ 9223372036854775807) (va : Value) (n : Nat) (f : Nat → Int) (hn : n ≤ 70000) (w : World) (hA : Ar w va n f) :
    Calls Tryz.prog 70 #[.pointer none, .int .i64 k, va] w fun e w' => e = .returned (.slice (some ⟨w.heap.size + 2, 0, none⟩) n n) ∧ Ar w' (.slice (some ⟨w.heap.size + 2, 0, none⟩) n n) n (fun i => clv (rnd (k * f i) 32)) ∧ Below w.heap.size w w' := by
  have hmf := hmf_any
  have hb0 := bel2 w (.cells #[.pointer none] 45) (.cells #[.int .i64 k] 32)
  have cu : ((w.alloc (.cells #[.pointer none] 45)).alloc (.cells #[.int .i64 k] 32)).cell? ⟨w.heap.size, 0, none⟩ = some (.pointer none) := cell_later (bel1 _ _) (cell_new1 w _ _)
  have ck : ((w.alloc (.cells #[.pointer none] 45)).alloc (.cells #[.int .i64 k] 32)).cell? ⟨w.heap.size + 1, 0, none⟩ = some (.int .i64 k) := by have h := cell_new1 (w.alloc (.cells #[.pointer none] 45)) (.int .i64 k) 32; rw [World.size_alloc] at h; exact h
  have hsz : ((w.alloc (.cells #[.pointer none] 45)).alloc (.cells #[.int .i64 k] 32)).heap.size = w.heap.size + 2 := by simp
  have CE : Hid (Calls Tryz.prog 88 #[va, .func (.func 89) #[] #[.pointer (some ⟨w.heap.size, 0, none⟩), .pointer (some ⟨w.heap.size + 1, 0, none⟩)]] ((w.alloc (.cells #[.pointer none] 45)).alloc (.cells #[.int .i64 k] 32)) fun e w' => e = .returned (.slice (some ⟨w.heap.size + 2, 0, none⟩) n n) ∧ Ar w' (.slice (some ⟨w.heap.size + 2, 0, none⟩) n n) n (fun i => clv (rnd (k * f i) 32)) ∧ Below w.heap.size w w') := by
    have h := each_scaled (.pointer (some ⟨w.heap.size, 0, none⟩)) (.pointer (some ⟨w.heap.size + 1, 0, none⟩)) (fun _ W => Below ((w.alloc (.cells #[.pointer none] 45)).alloc (.cells #[.int .i64 k] 32)).heap.size ((w.alloc (.cells #[.pointer none] 45)).alloc (.cells #[.int .i64 k] 32)) W) va n f (fun i => clv (rnd (k * f i) 32)) ((w.alloc (.cells #[.pointer none] 45)).alloc (.cells #[.int .i64 k] 32)) hn (hA.later hb0) (Below.refl _ _) (fun j W W' h hb => bchain h hb) (fun j W a x hx h => h.setCell hx _) (fun j W h => (hA.later hb0).later h) (fun j _ => clv_fit _) (fun j W hj hW h => by
      obtain ⟨_, _, _, _, _, _, _, _, hx⟩ := hA
      have hx := (hx j hj).2
      refine (sc1_nil k (f j) k0 k1 hx.1 hx.2 w.heap.size (w.heap.size + 1) W (cell_later h cu) (cell_later h ck)).mono ?_
      rintro e w' ⟨rfl, hb⟩
      exact ⟨rfl, bchain h hb, hb.block _ hW, hb.size⟩)
    refine h.mono ?_
    rintro e w' ⟨rfl, hS, hX⟩
    rw [hsz] at hX ⊢
    exact ⟨rfl, hX, bchain hb0 hS⟩
  obtain ⟨adr, cap, b, o, rfl, -, -, -, -⟩ := hA
  clear cu ck hb0 hsz
  go_enter Tryz.func70, Tryz.ntmps70
  go_wp2_with fail
  refine CE.out.mono ?_
  rintro e w' ⟨rfl, hX, hU⟩
  have HX : Hid (Ar w' (.slice (some ⟨w.heap.size + 2, 0, none⟩) n n) n (fun i => clv (rnd (k * f i) 32))) := hX
  clear CE hX
  go_wp2
  go_ret
  exact ⟨rfl, HX.out, hU⟩

set_option maxHeartbeats 2000000 in
theorem paired_of (fv : Value) (ada adb : Option Addr) (n m ca cb : Nat) (hn : n ≤ 70000) (hm : m ≤ 70000) (w : World) (Q : Value → World → Prop)
    (CP : n = m → n ≤ 65536 → Calls Tryz.prog 138 #[.slice ada n ca, .slice adb m cb, fv] (w.alloc (.cells #[.slice ada n ca, .slice adb m cb] 23)) fun e w' => ∃ b, e = .returned (.slice (some ⟨b, 0, none⟩) n n) ∧ Q (.slice (some ⟨b, 0, none⟩) n n) w') :
    Calls Tryz.prog 136 #[.slice ada n ca, .slice adb m cb, fv] w fun e w' => ∃ (ad : Option Addr) (l cp : Nat), e = .returned (.tuple #[.slice ad l cp, .int .i64 (dE n m)]) ∧ (dE n m = 0 → Q (.slice ad l cp) w') ∧ (dE n m ≠ 0 → ad = none ∧ l = 0 ∧ cp = 0 ∧ w' = (w.alloc (.cells #[.slice ada n ca, .slice adb m cb] 23))) := by
  rcases (show (n = m ∧ n ≤ 65536) ∨ (n = m ∧ 65536 < n) ∨ n ≠ m by omega) with ⟨hnm, hl⟩ | ⟨hnm, hl⟩ | hnm
  · subst hnm
    have hE : dE n n = 0 := by unfold dE; rw [if_neg (by omega), if_pos rfl]
    have CK : Hid (Calls Tryz.prog 32 #[.bool true, .slice (some ⟨w.heap.size, 0, none⟩) 2 2] (w.alloc (.cells #[.slice ada n ca, .slice adb n cb] 23)) fun e w' => e = .returned (.int .i64 0) ∧ w' = (w.alloc (.cells #[.slice ada n ca, .slice adb n cb] 23))) := by
      have h := check2_any true w ada adb n ca n cb (by unfold maxLen; omega) (by unfold maxLen; omega)
      rw [if_neg (by omega), if_pos rfl] at h
      exact h
    have HP : Hid (Calls Tryz.prog 138 #[.slice ada n ca, .slice adb n cb, fv] (w.alloc (.cells #[.slice ada n ca, .slice adb n cb] 23)) fun e w' => ∃ b, e = .returned (.slice (some ⟨b, 0, none⟩) n n) ∧ Q (.slice (some ⟨b, 0, none⟩) n n) w') := CP rfl hl
    rw [hE]
    clear CP hE
    go_enter Tryz.func136, Tryz.ntmps136
    go_wp2_with fail
    refine CK.out.mono ?_
    rintro e w1 ⟨rfl, hz⟩
    subst hz
    clear CK
    go_wp2_with fail
    refine HP.out.mono ?_
    rintro e w3 ⟨b, rfl, hQ⟩
    have HQ : Hid (Q (.slice (some ⟨b, 0, none⟩) n n) w3) := hQ
    clear HP hQ
    go_wp2
    go_ret2
    exact ⟨_, _, _, rfl, fun _ => HQ.out, fun h => absurd rfl h⟩
  · subst hnm
    have hE : dE n n = 3 := by unfold dE; rw [if_pos (by omega)]
    have CK : Hid (Calls Tryz.prog 32 #[.bool true, .slice (some ⟨w.heap.size, 0, none⟩) 2 2] (w.alloc (.cells #[.slice ada n ca, .slice adb n cb] 23)) fun e w' => e = .returned (.int .i64 3) ∧ w' = (w.alloc (.cells #[.slice ada n ca, .slice adb n cb] 23))) := by
      have h := check2_any true w ada adb n ca n cb (by unfold maxLen; omega) (by unfold maxLen; omega)
      rw [if_pos (by omega)] at h
      exact h
    rw [hE]
    clear CP hE
    go_enter Tryz.func136, Tryz.ntmps136
    go_wp2_with fail
    refine CK.out.mono ?_
    rintro e w1 ⟨rfl, hz⟩
    subst hz
    clear CK
    go_wp2
    go_ret2
    exact ⟨_, _, _, rfl, fun h => (by cases h), fun _ => ⟨rfl, rfl, rfl, rfl⟩⟩
  · have hnI : ((n : Int) == (m : Int)) = false := beq_eq_false_iff_ne.2 (by omega)
    obtain ⟨E, hE⟩ : ∃ E, dE n m = E := ⟨_, rfl⟩
    have hne : ¬ E = 0 := by rw [← hE]; unfold dE; split <;> simp [hnm]
    have CK : Hid (Calls Tryz.prog 32 #[.bool false, .slice (some ⟨w.heap.size, 0, none⟩) 2 2] (w.alloc (.cells #[.slice ada n ca, .slice adb m cb] 23)) fun e w' => e = .returned (.int .i64 E) ∧ w' = (w.alloc (.cells #[.slice ada n ca, .slice adb m cb] 23))) := by
      have h := check2_any false w ada adb n ca m cb (by unfold maxLen; omega) (by unfold maxLen; omega)
      rw [show (if 65536 < n ∨ 65536 < m then (3 : Int) else if false = true then 0 else 40) = E by rw [← hE]; unfold dE; rw [if_neg (show ¬ false = true by decide), if_neg hnm]] at h
      exact h
    rw [hE]
    clear CP hE
    go_enter Tryz.func136, Tryz.ntmps136
    go_wp2_with fail
    refine CK.out.mono ?_
    rintro e w1 ⟨rfl, hz⟩
    subst hz
    clear CK
    go_wp2
    go_ret2
    exact ⟨_, _, _, rfl, fun h => absurd h hne, fun _ => ⟨rfl, rfl, rfl, rfl⟩⟩

set_option maxHeartbeats 2000000 in
theorem Sub_un (va vb : Value) (n m : Nat) (f g : Nat → Int) (d : Nat) (c : Int) (w : World) (hn : n ≤ 70000) (hm : m ≤ 70000) (c0 : 0 ≤ c) (c1 : c ≤ 800000000) (hA : Ar w va n f) (hB : Ar w vb m g) (ha : Nb va d) (hb : Nb vb d) (hU : Uc w d c) :
    Calls Tryz.prog 135 #[.pointer (some ⟨d, 0, none⟩), va, vb] w fun e w' => ∃ v', e = .returned (.tuple #[v', .int .i64 (dE n m)]) ∧ LL w w' v' n (fun i => clv (f i - g i)) (dE n m) ∧ Un d (c + cE (dE n m) (cntV (fun i => ovv (f i - g i)) n)) w w' := by
  obtain ⟨ada, ca, ba, oa, rfl, x1, x2, -, -⟩ := id hA
  obtain ⟨adb, cb, bb, ob, rfl, y1, y2, -, -⟩ := id hB
  have hb0 := bel1 w (.cells #[.slice ada n ca, .slice adb m cb] 23)
  have hmf := hmf_any
  obtain ⟨hc, hf⟩ := hU
  have hd := World.block_lt_of_cell? _ _ hc
  dsimp only at hd
  have hc' := cell_later hb0 hc
  have hf' := frozen_later hb0 hc hf
  have CP : Hid (Calls Tryz.prog 136 #[.slice ada n ca, .slice adb m cb, .func (.func 137) #[.pointer (some ⟨d, 0, none⟩)] #[]] w fun e w' => ∃ (ad : Option Addr) (l cp : Nat), e = .returned (.tuple #[.slice ad l cp, .int .i64 (dE n m)]) ∧ (dE n m = 0 → (fun v' w' => LL w w' v' n (fun i => clv (f i - g i)) 0 ∧ Un d (c + (cntV (fun i => ovv (f i - g i)) n)) w w') (.slice ad l cp) w') ∧ (dE n m ≠ 0 → ad = none ∧ l = 0 ∧ cp = 0 ∧ w' = (w.alloc (.cells #[.slice ada n ca, .slice adb m cb] 23)))) := by
    refine paired_of _ ada adb n m ca cb hn hm w (fun v' w' => LL w w' v' n (fun i => clv (f i - g i)) 0 ∧ Un d (c + (cntV (fun i => ovv (f i - g i)) n)) w w') ?_
    intro hnm hl
    subst hnm
    have hsz : (w.alloc (.cells #[.slice ada n ca, .slice adb n cb] 23)).heap.size = w.heap.size + 1 := by simp
    have h := pairs_Sub (.pointer (some ⟨d, 0, none⟩)) (fun j W => Un d (c + cntV (fun i => ovv (f i - g i)) j) (w.alloc (.cells #[.slice ada n ca, .slice adb n cb] 23)) W) _ _ n f g (fun i => clv (f i - g i)) (w.alloc (.cells #[.slice ada n ca, .slice adb n cb] 23)) hn (hA.later hb0) (hB.later hb0) (by simpa [cntV] using Un.same hc' hf') (fun j W W' h hb => h.ahead hb) (fun j W a x hx h => h.setnew a x (by rw [hsz]; omega) hx) (fun j W h => ⟨(hA.later hb0).un ha h, (hB.later hb0).un hb h⟩) (fun j _ => clv_fit _) (fun j W hj hW h => by
      have r := cnt_rng (fun i => ovv (f i - g i)) j
      obtain ⟨_, _, _, _, _, _, _, _, hx⟩ := hA
      obtain ⟨_, _, _, _, _, _, _, _, hy⟩ := hB
      have hx := (hx j hj).2
      have hy := (hy j hj).2
      refine (uSub_un (f j) (g j) hx.1 hx.2 hy.1 hy.2 d _ (by omega) (by omega) W h.c h.f).mono ?_
      rintro e w' ⟨rfl, hU⟩
      refine ⟨rfl, ?_, hU.k _ (by omega) (by rw [hsz]; omega), hU.s⟩
      have e1 : c + cntV (fun i => ovv (f i - g i)) (j + 1) = c + cntV (fun i => ovv (f i - g i)) j + bi (ovv (f j - g j)) := by rw [Int.add_assoc]; rfl
      show Un d (c + cntV (fun i => ovv (f i - g i)) (j + 1)) _ w'
      rw [e1]
      exact h.chain hU)
    refine h.mono ?_
    rintro e w' ⟨rfl, hS, hX⟩
    exact ⟨_, rfl, ⟨fun _ => hX, fun h => absurd rfl h, fun a n' cap' e _ => (by cases e; simp)⟩, Un.after hb0 hS⟩
  have HU : Hid (Un d c w (w.alloc (.cells #[.slice ada n ca, .slice adb m cb] 23))) := Un.after hb0 (Un.same hc' hf')
  clear hA hB ha hb hc hf hc' hf' hb0
  go_enter Tryz.func135, Tryz.ntmps135
  go_wp2_with fail
  refine CP.out.mono ?_
  rintro e w1 ⟨ad, l, cp, rfl, hQ, hN⟩
  have HQN : Hid ((dE n m = 0 → (fun v' w' => LL w w' v' n (fun i => clv (f i - g i)) 0 ∧ Un d (c + (cntV (fun i => ovv (f i - g i)) n)) w w') (.slice ad l cp) w1) ∧ (dE n m ≠ 0 → ad = none ∧ l = 0 ∧ cp = 0 ∧ w1 = (w.alloc (.cells #[.slice ada n ca, .slice adb m cb] 23)))) := ⟨hQ, hN⟩
  clear CP hQ hN
  go_wp2
  go_ret2
  by_cases hE : dE n m = 0
  · obtain ⟨h1, h2⟩ := HQN.out.1 hE
    rw [hE]
    exact ⟨_, rfl, h1, (by unfold cE; rw [if_pos rfl]; exact h2)⟩
  · obtain ⟨rfl, rfl, rfl, rfl⟩ := HQN.out.2 hE
    exact ⟨_, rfl, ⟨fun h => absurd h hE, fun _ => ⟨none, 0, rfl⟩, fun a n' cap' e => (by cases e)⟩, (by unfold cE; rw [if_neg hE, Int.add_zero]; exact HU.out)⟩

set_option maxHeartbeats 2000000 in
theorem Sub_nil (va vb : Value) (n m : Nat) (f g : Nat → Int) (w : World) (hn : n ≤ 70000) (hm : m ≤ 70000) (hA : Ar w va n f) (hB : Ar w vb m g) :
    Calls Tryz.prog 135 #[.pointer none, va, vb] w fun e w' => ∃ v', e = .returned (.tuple #[v', .int .i64 (dE n m)]) ∧ LL w w' v' n (fun i => clv (f i - g i)) (dE n m) ∧ Below w.heap.size w w' := by
  obtain ⟨ada, ca, ba, oa, rfl, x1, x2, -, -⟩ := id hA
  obtain ⟨adb, cb, bb, ob, rfl, y1, y2, -, -⟩ := id hB
  have hb0 := bel1 w (.cells #[.slice ada n ca, .slice adb m cb] 23)
  have hmf := hmf_any
  have CP : Hid (Calls Tryz.prog 136 #[.slice ada n ca, .slice adb m cb, .func (.func 137) #[.pointer none] #[]] w fun e w' => ∃ (ad : Option Addr) (l cp : Nat), e = .returned (.tuple #[.slice ad l cp, .int .i64 (dE n m)]) ∧ (dE n m = 0 → (fun v' w' => LL w w' v' n (fun i => clv (f i - g i)) 0 ∧ Below w.heap.size w w') (.slice ad l cp) w') ∧ (dE n m ≠ 0 → ad = none ∧ l = 0 ∧ cp = 0 ∧ w' = (w.alloc (.cells #[.slice ada n ca, .slice adb m cb] 23)))) := by
    refine paired_of _ ada adb n m ca cb hn hm w (fun v' w' => LL w w' v' n (fun i => clv (f i - g i)) 0 ∧ Below w.heap.size w w') ?_
    intro hnm hl
    subst hnm
    have hsz : (w.alloc (.cells #[.slice ada n ca, .slice adb n cb] 23)).heap.size = w.heap.size + 1 := by simp
    have h := pairs_Sub (.pointer none) (fun j W => Below (w.alloc (.cells #[.slice ada n ca, .slice adb n cb] 23)).heap.size (w.alloc (.cells #[.slice ada n ca, .slice adb n cb] 23)) W) _ _ n f g (fun i => clv (f i - g i)) (w.alloc (.cells #[.slice ada n ca, .slice adb n cb] 23)) hn (hA.later hb0) (hB.later hb0) (Below.refl _ _) (fun j W W' h hb => bchain h hb) (fun j W a x hx h => h.setCell hx _) (fun j W h => ⟨(hA.later hb0).later h, (hB.later hb0).later h⟩) (fun j _ => clv_fit _) (fun j W hj hW h => by
      obtain ⟨_, _, _, _, _, _, _, _, hx⟩ := hA
      obtain ⟨_, _, _, _, _, _, _, _, hy⟩ := hB
      have hx := (hx j hj).2
      have hy := (hy j hj).2
      refine (uSub_nil (f j) (g j) hx.1 hx.2 hy.1 hy.2 W).mono ?_
      rintro e w' ⟨rfl, hb⟩
      exact ⟨rfl, bchain h hb, hb.block _ hW, hb.size⟩)
    refine h.mono ?_
    rintro e w' ⟨rfl, hS, hX⟩
    exact ⟨_, rfl, ⟨fun _ => hX, fun h => absurd rfl h, fun a n' cap' e _ => (by cases e; simp)⟩, bchain hb0 hS⟩
  have HU : Hid (Below w.heap.size w (w.alloc (.cells #[.slice ada n ca, .slice adb m cb] 23))) := hb0
  clear hA hB hb0
  go_enter Tryz.func135, Tryz.ntmps135
  go_wp2_with fail
  refine CP.out.mono ?_
  rintro e w1 ⟨ad, l, cp, rfl, hQ, hN⟩
  have HQN : Hid ((dE n m = 0 → (fun v' w' => LL w w' v' n (fun i => clv (f i - g i)) 0 ∧ Below w.heap.size w w') (.slice ad l cp) w1) ∧ (dE n m ≠ 0 → ad = none ∧ l = 0 ∧ cp = 0 ∧ w1 = (w.alloc (.cells #[.slice ada n ca, .slice adb m cb] 23)))) := ⟨hQ, hN⟩
  clear CP hQ hN
  go_wp2
  go_ret2
  by_cases hE : dE n m = 0
  · obtain ⟨h1, h2⟩ := HQN.out.1 hE
    rw [hE]
    exact ⟨_, rfl, h1, h2⟩
  · obtain ⟨rfl, rfl, rfl, rfl⟩ := HQN.out.2 hE
    exact ⟨_, rfl, ⟨fun h => absurd h hE, fun _ => ⟨none, 0, rfl⟩, fun a n' cap' e => (by cases e)⟩, HU.out⟩

end Go.Proofs.YtdfjnbkkdgolnabGreatDoor
set_option linter.unusedVariables false
set_option linter.unusedSimpArgs false
namespace Go.Proofs.YtdfjnbkkdgolnabGreatDoor
open Go.RowKit

set_option maxRecDepth 100000 in
set_option maxHeartbeats 2000000 in
theorem clone_any (va : Value) (n : Nat) (f : Nat → Int) (hn : n ≤ 70000) (w : World) (hA : Ar w va n f) :
    Calls Tryz.prog 25 #[va] w fun e w' => ∃ (ad : Option Addr) (cap : Nat), e = .returned (.slice ad n cap) ∧ Ar w' (.slice ad n cap) n f ∧ Ow w.heap.size (.slice ad n cap) ∧ Below w.heap.size w w' := by
  obtain ⟨i0, hi, hz0, hz1, hz2⟩ := info_parts dinfo_fx
  have qT : ∀ (w : World) (a : Option Addr) (n c n' c' : Nat), (binOp .eql 23 (.slice a n c) (.slice none n' c')).run Tryz.prog w = .ok (.bool a.isNone) w := fun w a n c n' c' => Lib.run_eql_slice_nil w _ _ a n c n' c' Tryz.underlying23
  obtain ⟨adr, cap, b, o, rfl, k1, k2, k3, k4⟩ := hA
  unfold maxLen at k2
  have HB : Hid (∀ k, k < n → -9223372036854775808 ≤ f k ∧ f k ≤ 9223372036854775807) := fun k hk => (k4 k hk).2
  cases adr with
  | none =>
    obtain rfl : n = 0 := by
      rcases Nat.eq_zero_or_pos n with h | h
      · exact h
      · cases k3 h
    clear k3 k4
    go_enter Tryz.func25, Tryz.ntmps25
    go_wp2
    go_ret
    exact ⟨none, 0, rfl, ⟨none, 0, 0, 0, rfl, by omega, by unfold maxLen; omega, fun h => by omega, fun k hk => by omega⟩, fun a n cap e => (by cases e), Below.refl _ _⟩
  | some a =>
    have HC : Hid (∀ (j : Nat) (u : Value), (il f n)[j]? = some u → w.cell? (a.add j) = some u) := fun j u hj => by
      have hjn : j < n := by
        have := (List.getElem?_eq_some_iff.1 hj).1
        rw [il_len] at this
        exact this
      have e := Option.some.inj (k3 (by omega))
      subst e
      rw [il_get f n j hjn] at hj
      rw [Addr.add_lit, ← hj]
      exact (k4 j hjn).1
    clear k3 k4
    go_enter Tryz.func25, Tryz.ntmps25
    go_wp2_with (at_builtin; refine wpList_append_own _ rfl _ _ 23 rfl w.heap.size 32 i0 (.int .i64 0) 1 8 Tryz.underlying23 hi hz0 hz1 hz2 rfl (by decide) _ _ _ rfl (World.ownsRow_made w #[] 0 (Nat.le_refl _) (Nat.zero_le _) (by simp)) a n cap (il f n) rfl ?qc1 ?qc2 ?qc3 ?qc4 ?qc5 ?qc6 ?_)
    case qc1 => rw [il_len, Nat.mul_one]
    case qc2 =>
      intro j u hj
      exact cell_later (bel1 w _) (HC.out j u hj)
    case qc3 =>
      intro u hu
      unfold il at hu
      obtain ⟨k, _, rfl⟩ := List.mem_map.1 hu
      rfl
    case qc4 => unfold maxLen; omega
    case qc5 => omega
    case qc6 => simp
    intro v' w1 hown hgrow hnil
    have HO : Hid (Ar w1 v' n f ∧ Ow w.heap.size v') := ar_of_own (by simpa using hown) HB.out
    have HW : Hid (Below w.heap.size w w1) := ((Below.refl _ w).alloc (Nat.le_refl _) _).grown hgrow (by simp) (by intro k hk; simp [Value.ownBlock] at hk; omega)
    clear hown hgrow hnil HC
    obtain ⟨ad', cap', -, -, rfl, -, -, -, -⟩ := id HO.out.1
    go_wp2
    go_ret
    exact ⟨ad', cap', rfl, HO.out.1, HO.out.2, HW.out⟩
end Go.Proofs.YtdfjnbkkdgolnabGreatDoor
set_option linter.unusedVariables false
set_option linter.unusedSimpArgs false
namespace Go.Proofs.YtdfjnbkkdgolnabGreatDoor
open Go.RowKit

theorem Ar.far {w : World} {g n cap : Nat} {f : Nat → Int} {p : Addr} (h : Ar w (.slice (some ⟨g, 0, none⟩) n cap) n f) (u : Value) (hp : p.block ≠ g) : Ar (w.setCell p u) (.slice (some ⟨g, 0, none⟩) n cap) n f := by
  obtain ⟨ad, ca, b, o, e, h1, h2, h3, h4⟩ := h
  cases e
  refine ⟨_, _, b, o, rfl, h1, h2, h3, fun k hk => ⟨cell_set ?_ (h4 k hk).1, (h4 k hk).2⟩⟩
  have e := h3 (by omega)
  cases e
  exact hp
theorem B3.block {b : Nat} {x y z : Value} {w w' : World} (h : B3 b x y z w) (hb : w'.heap[b]? = w.heap[b]?) : B3 b x y z w' :=
  ⟨(World.cell?_of_block (w := w) hb).trans h.c0, (World.cell?_of_block (w := w) hb).trans h.c1, (World.cell?_of_block (w := w) hb).trans h.c2, (World.frozen?_of_block (w := w) hb).trans h.f0, (World.frozen?_of_block (w := w) hb).trans h.f1, (World.frozen?_of_block (w := w) hb).trans h.f2⟩
theorem fits_iff (r c : Int) (r0 : 1 ≤ r) (c0 : 1 ≤ c) : r ≤ 65536 / c ↔ r * c ≤ 65536 := Int.le_ediv_iff_mul_le (by omega)
set_option maxHeartbeats 1000000 in
theorem fits_any (r c : Int) (r0 : 1 ≤ r) (r1 : r ≤ 9223372036854775807) (c0 : 1 ≤ c) (c1 : c ≤ 9223372036854775807) (w : World) :
    Calls Tryz.prog 67 #[.int .i64 r, .int .i64 c] w fun e w' => e = .returned (.bool (decide (r * c ≤ 65536))) ∧ w' = w := by
  have hi := fits_iff r c r0 c0
  have hb : (65536 : Int) / c ≤ 65536 := Int.ediv_le_self _ (by omega)
  have hb0 : (0 : Int) ≤ 65536 / c := Int.ediv_nonneg (by omega) (by omega)
  have hc : ¬ c = 0 := by omega
  by_cases h : r ≤ 65536 / c
  · rw [decide_eq_true (hi.1 h)]
    clear hi
    go_enter Tryz.func67, Tryz.ntmps67
    go_wp2
    go_ret
    exact ⟨by simp [h], rfl⟩
  · rw [decide_eq_false (fun h' => h (hi.2 h'))]
    clear hi
    go_enter Tryz.func67, Tryz.ntmps67
    go_wp2
    go_ret
    exact ⟨by simp [h], rfl⟩
set_option maxRecDepth 100000 in
set_option maxHeartbeats 1000000 in
theorem grow_any (n : Nat) (hn : 1 ≤ n) (hn2 : n ≤ 1000000) (w : World) :
    Calls Tryz.prog 91 #[.slice none 0 0, .int .i64 (n : Int)] w fun e w' => ∃ cap, e = .returned (.slice (some ⟨w.heap.size, 0, none⟩) 0 cap) ∧ w'.ownsRow w.heap.size 32 1 (.slice (some ⟨w.heap.size, 0, none⟩) 0 cap) 0 [] ∧ Below w.heap.size w w' := by
  obtain ⟨i0, hi, hz0, hz1, hz2⟩ := info_parts dinfo_fx
  have hold : (Builtin.firstCells i0.size 0 (.slice none 0 0)).run Tryz.prog w.drew = .ok ([] : List Value).toArray w.drew := run_firstCells_none w.drew i0.size 0 0 0
  have hrz : ∀ ty, (Builtin.append_ #[23, 3] ty #[.slice none 0 0, .int .i64 (n : Int)]).run Tryz.prog w =
      .ok (.slice (some ⟨w.heap.size, 0, none⟩) n (grownCap w n 0 32)) (w.drew.alloc (.cells (([] : List Value).toArray ++ Builtin.zeroCells (Value.int .i64 0).cells n ++ Builtin.zeroCells (Value.int .i64 0).cells (grownCap w n 0 32 - n)) 32)) := fun ty => by
    have h := Lib.run_append_grow_zeros w 23 3 ty 32 i0 (.int .i64 0) .i64 .i64 Tryz.underlying23 Tryz.underlying3 hi hz0 none 0 0 [] hold n (by omega) (by rw [hz1]; omega) (by omega) (by omega) (by rw [hz2]; omega) (by rw [Nat.zero_add]; exact growslice_fits (by omega) (by rw [hz2]; omega))
    rw [Nat.zero_add] at h
    exact h
  have hGn : n ≤ grownCap w n 0 32 := grownCap_ge w _ _ _
  have hG63 := grownCap_le_maxLen w n 0 32 (by unfold maxLen; omega)
  obtain ⟨G, hG⟩ : ∃ G, G = grownCap w n 0 32 := ⟨_, rfl⟩
  rw [← hG] at hrz hGn hG63
  have HO : Hid ((w.alloc (.cells (Builtin.zeroCells #[Value.int .i64 0] n ++ Builtin.zeroCells #[Value.int .i64 0] (G - n)) 32)).drew.ownsRow w.heap.size 32 1 (.slice (some ⟨w.heap.size, 0, none⟩) 0 G) 0 []) := (World.ownsRow_made w _ G (Nat.le_refl _) hG63 (by simp [Builtin.zeroCells]; omega)).drew
  have HW : Hid (Below w.heap.size w (w.alloc (.cells (Builtin.zeroCells #[Value.int .i64 0] n ++ Builtin.zeroCells #[Value.int .i64 0] (G - n)) 32)).drew) := ((Below.refl _ w).alloc (Nat.le_refl _) _).drew
  unfold maxLen at hG63
  clear hold hG
  go_enter Tryz.func91, Tryz.ntmps91
  go_wp2_with (at_builtin; refine Lib.wpList_append_run _ rfl _ _ _ _ rfl _ _ rfl rfl _ _ (hrz _) ?_)
  all_goals
    go_ret
    exact ⟨_, rfl, HO.out, HW.out⟩
theorem rows_il (F : Nat → Nat → Int) (m j : Nat) : il (fun i => F (i / m) (i % m)) (j * m) ++ il (F j) m = il (fun i => F (i / m) (i % m)) (j * m + m) := by
  unfold il
  rw [List.range_add, List.map_append, List.map_map]
  congr 1
  apply List.map_congr_left
  intro k hk
  have hk := List.mem_range.1 hk
  show _ = Value.int .i64 (F ((j * m + k) / m) ((j * m + k) % m))
  rw [show (j * m + k) / m = j by rw [Nat.mul_comm, Nat.mul_add_div (by omega), Nat.div_eq_of_lt hk, Nat.add_zero], show (j * m + k) % m = k by rw [Nat.mul_comm, Nat.mul_add_mod, Nat.mod_eq_of_lt hk]]
theorem il_one1 (f : Nat → Int) (n : Nat) : ∀ u ∈ il f n, u.oneCell' = true := by
  intro u hu
  unfold il at hu
  obtain ⟨k, _, rfl⟩ := List.mem_map.1 hu
  rfl

set_option maxRecDepth 100000 in
set_option maxHeartbeats 4000000 in
theorem concat_any (b n m : Nat) (h : Nat → Nat) (F : Nat → Nat → Int) (hn : 1 ≤ n) (hm : 1 ≤ m) (hnm : n * m ≤ 65536) (w : World) (hR : Rw b n (fun k => .slice (some ⟨h k, 0, none⟩) m m) w) (hA : ∀ k, k < n → Ar w (.slice (some ⟨h k, 0, none⟩) m m) m (F k)) :
    Calls Tryz.prog 71 #[.slice (some ⟨b, 0, none⟩) n n] w fun e w' => ∃ g cap, e = .returned (.slice (some ⟨g, 0, none⟩) (n * m) cap) ∧ Ar w' (.slice (some ⟨g, 0, none⟩) (n * m) cap) (n * m) (fun i => F (i / m) (i % m)) ∧ w.heap.size ≤ g ∧ Below w.heap.size w w' := by
  obtain ⟨i0, hi, hz0, hz1, hz2⟩ := info_parts dinfo_fx
  have hn1 : n ≤ 65536 := Nat.le_trans (Nat.le_mul_of_pos_right n hm) hnm
  have hm1 : m ≤ 65536 := Nat.le_trans (Nat.le_mul_of_pos_left m hn) hnm
  have HR : Hid (Rw b n (fun k => .slice (some ⟨h k, 0, none⟩) m m) w) := hR
  have HA : Hid (∀ k, k < n → Ar w (.slice (some ⟨h k, 0, none⟩) m m) m (F k)) := hA
  have HM : Hid (∀ k, k ≤ n → k * m ≤ n * m) := fun k hk => Nat.mul_le_mul_right m hk
  have HN : Hid (n * m ≤ 65536) := hnm
  clear hR hA hnm
  obtain ⟨P, hP⟩ : ∃ P, n * m = P := ⟨_, rfl⟩
  have HP : Hid (n * m = P) := hP
  have hP1 : P ≤ 65536 := by rw [← hP]; exact HN.out
  have hP0 : 1 ≤ P := by rw [← hP]; exact Nat.mul_pos hn hm
  rw [hP]
  clear hP HN
  go_enter Tryz.func71, Tryz.ntmps71
  go_wp2
  go_loopw [3, 11] (fun s3 s11 wr => ∃ (k p : Nat), k ≤ n ∧ s3 = .int .i64 (p : Int) ∧ p ≤ P ∧ Hid (p = k * m) ∧ s11 = .int .i64 (k : Int) ∧ wr = w) (fun _ s11 _ => n - (intOf s11).toNat)
  case atStart => exact ⟨0, 0, by omega, rfl, by omega, by show _ = _; simp, rfl, rfl⟩
  case round =>
    obtain ⟨k, p, hk, rfl, hp, hpk, rfl, rfl⟩ := hrel
    by_cases hlt : k < n
    · have hkI : (k : Int) < (n : Int) := by omega
      have hc := HR.out.c k hlt
      have hp2 : p + m ≤ P := by rw [hpk.out, ← HP.out, ← Nat.succ_mul]; exact HM.out (k + 1) (by omega)
      have hpk2 : Hid (p + m = (k + 1) * m) := by show _ = _; rw [hpk.out, Nat.succ_mul]
      have hneg : ¬ ((p : Int) + (m : Int)) < 0 := by omega
      clear hpk
      go_wp2
      go_roundw
      case rel => exact ⟨k + 1, p + m, by omega, by go_num, hp2, hpk2, by go_num, trivial⟩
      case measure => simp [intOf]; omega
    · obtain rfl : k = n := by omega
      have hkI : ¬ (k : Int) < (k : Int) := by omega
      obtain rfl : p = P := by rw [hpk.out]; exact HP.out
      rename World => wo
      have CG : Hid (Calls Tryz.prog 91 #[.slice none 0 0, .int .i64 (p : Int)] wo fun e w' => ∃ cap, e = .returned (.slice (some ⟨wo.heap.size, 0, none⟩) 0 cap) ∧ w'.ownsRow wo.heap.size 32 1 (.slice (some ⟨wo.heap.size, 0, none⟩) 0 cap) 0 [] ∧ Below wo.heap.size wo w') := grow_any p hP0 (by omega) wo
      go_wp2_with fail
      refine CG.out.mono ?_
      rintro e w1 ⟨cap, rfl, hown, hb⟩
      have HO1 : Hid (w1.ownsRow wo.heap.size 32 1 (.slice (some ⟨wo.heap.size, 0, none⟩) 0 cap) 0 (il (fun i => F (i / m) (i % m)) 0)) := hown
      have HB1 : Hid (Below wo.heap.size wo w1) := hb
      clear hown hb CG hpk
      go_wp2
      go_loopw [6, 27] (fun s6 s27 wr => ∃ (q g cp t : Nat), q ≤ k ∧ s6 = .slice (some ⟨g, 0, none⟩) t cp ∧ t ≤ p ∧ Hid (t = q * m) ∧ s27 = .int .i64 (q : Int) ∧ Hid (wr.ownsRow wo.heap.size 32 1 (.slice (some ⟨g, 0, none⟩) t cp) t (il (fun i => F (i / m) (i % m)) t)) ∧ Hid (Below wo.heap.size wo wr)) (fun _ s27 _ => k - (intOf s27).toNat)
      case atStart => exact ⟨0, wo.heap.size, cap, 0, by omega, rfl, by omega, by show _ = _; simp, rfl, HO1, HB1⟩
      case round =>
        clear HO1 HB1
        obtain ⟨q, g, cp, t, hq, rfl, ht, htq, rfl, hown, hB⟩ := hrel
        by_cases hlt : q < k
        · have hqI : (q : Int) < (k : Int) := by omega
          have hc := (hB.out.cell (World.block_lt_of_cell? _ _ (HR.out.c q hlt))).trans (HR.out.c q hlt)
          have hA2 := (HA.out q hlt).later hB.out
          have HN : Hid (∀ (j : Nat) (u : Value), (il (F q) m)[j]? = some u → wr.cell? ((⟨h q, 0, none⟩ : Addr).add j) = some u) := fun j u hj => by
            have hjm : j < m := by
              have := (List.getElem?_eq_some_iff.1 hj).1
              rw [il_len] at this
              exact this
            obtain ⟨b', o', e, c', -, -⟩ := hA2.at j hjm
            cases e
            rw [il_get (F q) m j hjm] at hj
            rw [Addr.add_lit, ← hj]
            exact c'
          have ht2 : t + m ≤ p := by rw [htq.out, ← HP.out, ← Nat.succ_mul]; exact HM.out (q + 1) (by omega)
          have htq2 : Hid (t + m = (q + 1) * m) := by show _ = _; rw [htq.out, Nat.succ_mul]
          have hil : Hid (il (fun i => F (i / m) (i % m)) t ++ il (F q) m = il (fun i => F (i / m) (i % m)) (t + m)) := by show _ = _; rw [htq.out]; exact rows_il F m q
          have hownU := hown.out
          have hBU := hB.out.size
          clear hA2 htq
          go_wp2_with (at_builtin; refine wpList_append_own _ rfl _ _ 23 rfl wo.heap.size 32 i0 (.int .i64 0) 1 8 Tryz.underlying23 hi hz0 hz1 hz2 rfl (by decide) _ _ _ rfl hownU ⟨h q, 0, none⟩ m m (il (F q) m) rfl (by rw [il_len, Nat.mul_one]) HN.out (il_one1 (F q) m) (by unfold maxLen; omega) (by omega) hBU ?_; intro v' w2 hown' hgrow hnil)
          have hW2 : Hid (Below wo.heap.size wo w2) := hB.out.grown hgrow hBU (fun k' hk' => by
            rcases hownU.2 with ⟨h0, h1⟩ | ⟨g', cap', cur, hv, hbs, -⟩
            · first | cases h0 | cases h1
            · cases hv
              cases hk'
              exact hbs)
          have hown2 : Hid (w2.ownsRow wo.heap.size 32 1 v' (t + m) (il (fun i => F (i / m) (i % m)) (t + m))) := by show World.ownsRow _ _ _ _ _ _ _; rw [← hil.out]; exact hown'
          obtain ⟨g', cap', rfl⟩ : ∃ g' cap', v' = .slice (some ⟨g', 0, none⟩) (t + m) cap' := by
            rcases hown'.2 with ⟨h0, h1⟩ | ⟨g', cap', cur, hv, -⟩
            · omega
            · exact ⟨g', cap', hv⟩
          clear hown' hgrow hnil hownU hBU HN hown hB hil
          go_wp2
          go_roundw
          case rel => exact ⟨q + 1, g', cap', t + m, by omega, rfl, ht2, htq2, by go_num, hown2, hW2⟩
          case measure => simp [intOf]; omega
        · obtain rfl : q = k := by omega
          have hqI : ¬ (q : Int) < (q : Int) := by omega
          obtain rfl : t = p := by rw [htq.out]; exact HP.out
          have HX : Hid (Ar wr (.slice (some ⟨g, 0, none⟩) t cp) t (fun i => F (i / m) (i % m)) ∧ Ow wo.heap.size (.slice (some ⟨g, 0, none⟩) t cp)) := ar_of_own hown.out (fun i hi => by
            have h1 : i / m < q := by rw [Nat.div_lt_iff_lt_mul hm, HP.out]; exact hi
            have h2 : i % m < m := Nat.mod_lt _ hm
            obtain ⟨_, _, _, _, _, _, _, _, h3⟩ := HA.out (i / m) h1
            exact (h3 _ h2).2)
          clear hown
          go_wp2
          go_ret
          exact ⟨g, cp, rfl, HX.out.1, HX.out.2 _ _ _ rfl (by omega), hB.out⟩

end Go.Proofs.YtdfjnbkkdgolnabGreatDoor
set_option linter.unusedVariables false
set_option linter.unusedSimpArgs false
namespace Go.Proofs.YtdfjnbkkdgolnabGreatDoor
open Go.RowKit

/-- Outer's error. -/
def oE (n m : Nat) : Int := if 65536 < n ∨ 65536 < m then 3 else if n = 0 ∨ m = 0 then 40 else if 65536 < n * m then 3 else 0
end Go.Proofs.YtdfjnbkkdgolnabGreatDoor
