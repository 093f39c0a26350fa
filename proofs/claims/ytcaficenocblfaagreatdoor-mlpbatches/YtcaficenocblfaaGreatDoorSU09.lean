/-
  Texts of this proof, joined: PWalkC PWalkG0 PWalkH VOut PWalkI.
-/
import Derived.Test.YtcaficenocblfaaGreatDoorSU07
import Derived.Test.YtcaficenocblfaaGreatDoorSU08
import Derived.Lib.SliceRun
import Derived.Lib.AppendZerosOnto
import Derived.Lib.AppendZeros
set_option linter.unusedVariables false
set_option linter.unusedSimpArgs false
namespace Go.Proofs.YtcaficenocblfaaGreatDoor
open Go.RowKit


set_option maxHeartbeats 2000000 in
theorem Dot_un (va vb : Value) (n m : Nat) (f g : Nat → Int) (d : Nat) (c : Int) (w : World) (hn : n ≤ 70000) (hm : m ≤ 70000) (c0 : 0 ≤ c) (c1 : c ≤ 900000000) (hV : VT w) (hA : Ar w va n f) (hB : Ar w vb m g) (ha : Nb va d) (hb : Nb vb d) (hU : Uc w d c) :
    Calls Tryz.prog 59 #[.pointer (some ⟨d, 0, none⟩), va, vb] w fun e w' => e = .returned (.tuple #[.int .i64 (dX n m f g), .int .i64 (dE n m)]) ∧ Un d (c + bi (dO n m f g)) w w' := by
  obtain ⟨ada, ca, ba, oa, rfl, k1, k2, -, -⟩ := id hA
  obtain ⟨adb, cb, bb, ob, rfl, q1, q2, -, -⟩ := id hB
  have hb0 := bel1 w (.cells #[.slice ada n ca, .slice adb m cb] 23)
  obtain ⟨hc, hf⟩ := hU
  have hc' := cell_later hb0 hc
  have hf' := frozen_later hb0 hc hf
  unfold maxLen at *
  rcases (show (n = m ∧ n ≤ 65536) ∨ (n = m ∧ 65536 < n) ∨ n ≠ m by omega) with ⟨hnm, hl⟩ | ⟨hnm, hl⟩ | hnm
  · subst hnm
    have hE : dE n n = 0 := by unfold dE; rw [if_neg (by omega), if_pos rfl]
    have hs1 : ¬ (65536 : Int) < (n : Int) := by omega
    have CK : Hid (Calls Tryz.prog 32 #[.bool true, .slice (some ⟨w.heap.size, 0, none⟩) 2 2] (w.alloc (.cells #[.slice ada n ca, .slice adb n cb] 23)) fun e w' => e = .returned (.int .i64 0) ∧ w' = w.alloc (.cells #[.slice ada n ca, .slice adb n cb] 23)) := by
      have h := check2_any true w ada adb n ca n cb (by unfold maxLen; omega) (by unfold maxLen; omega)
      rw [if_neg (by omega), if_pos rfl] at h
      exact h
    have CD : Hid (Calls Tryz.prog 91 #[.pointer (some ⟨d, 0, none⟩), .slice ada n ca, .slice adb n cb] (w.alloc (.cells #[.slice ada n ca, .slice adb n cb] 23)) fun e w' => e = .returned (.int .i64 (clv (rr (dotV f g n) 32))) ∧ Un d (c + bi (ovv (rr (dotV f g n) 32))) (w.alloc (.cells #[.slice ada n ca, .slice adb n cb] 23)) w') := vdot_un _ _ n f g hn d c c0 (by omega) _ (VT.later hV hb0) (hA.later hb0) (hB.later hb0) hc' hf'
    rw [show dX n n f g = clv (rr (dotV f g n) 32) by unfold dX; rw [if_pos hE], show dO n n f g = ovv (rr (dotV f g n) 32) by unfold dO; rw [if_pos hE], hE]
    generalize clv (rr (dotV f g n) 32) = x at *
    generalize bi (ovv (rr (dotV f g n) 32)) = z at *
    clear hA hB hV hc hf ha hb hE
    go_enter Tryz.func59, Tryz.ntmps59
    go_wp2_with fail
    refine CK.out.mono ?_
    rintro e w1 ⟨rfl, hz⟩
    subst hz
    clear CK
    go_wp2_with fail
    refine CD.out.mono ?_
    rintro e w3 ⟨rfl, hU⟩
    have hX := Un.after hb0 hU
    clear hU hc' hf' CD hb0
    go_wp2
    go_ret2
    exact ⟨rfl, hX⟩
  · subst hnm
    have hE : dE n n = 3 := by unfold dE; rw [if_pos (by omega)]
    have CK : Hid (Calls Tryz.prog 32 #[.bool true, .slice (some ⟨w.heap.size, 0, none⟩) 2 2] (w.alloc (.cells #[.slice ada n ca, .slice adb n cb] 23)) fun e w' => e = .returned (.int .i64 3) ∧ w' = w.alloc (.cells #[.slice ada n ca, .slice adb n cb] 23)) := by
      have h := check2_any true w ada adb n ca n cb (by unfold maxLen; omega) (by unfold maxLen; omega)
      rw [if_pos (by omega)] at h
      exact h
    rw [show dX n n f g = 0 by unfold dX; rw [if_neg (by rw [hE]; decide)], show dO n n f g = false by unfold dO; rw [if_neg (by rw [hE]; decide)], hE]
    rw [show c + bi false = c by unfold bi; simp]
    have hX := Un.after hb0 (Un.same hc' hf')
    clear hA hB hV hc hf ha hb hc' hf' hb0 hE
    go_enter Tryz.func59, Tryz.ntmps59
    go_wp2_with fail
    refine CK.out.mono ?_
    rintro e w1 ⟨rfl, hz⟩
    subst hz
    clear CK
    go_wp2
    go_ret2
    exact ⟨rfl, hX⟩
  · have hnI : ((n : Int) == (m : Int)) = false := beq_eq_false_iff_ne.2 (by omega)
    obtain ⟨E, hE⟩ : ∃ E, dE n m = E := ⟨_, rfl⟩
    have hck : (if 65536 < n ∨ 65536 < m then (3 : Int) else if false = true then 0 else 40) = E := by rw [← hE]; unfold dE; rw [if_neg (show ¬ false = true by decide), if_neg hnm]
    have hne : ¬ E = 0 := by rw [← hE]; unfold dE; split <;> simp [hnm]
    have CK : Hid (Calls Tryz.prog 32 #[.bool false, .slice (some ⟨w.heap.size, 0, none⟩) 2 2] (w.alloc (.cells #[.slice ada n ca, .slice adb m cb] 23)) fun e w' => e = .returned (.int .i64 E) ∧ w' = w.alloc (.cells #[.slice ada n ca, .slice adb m cb] 23)) := by
      have h := check2_any false w ada adb n ca m cb (by unfold maxLen; omega) (by unfold maxLen; omega)
      rw [hck] at h
      exact h
    rw [show dX n m f g = 0 by unfold dX; rw [if_neg (by rw [hE]; exact hne)], show dO n m f g = false by unfold dO; rw [if_neg (by rw [hE]; exact hne)], hE]
    rw [show c + bi false = c by unfold bi; simp]
    have hX := Un.after hb0 (Un.same hc' hf')
    clear hA hB hV hc hf ha hb hc' hf' hb0 hE
    go_enter Tryz.func59, Tryz.ntmps59
    go_wp2_with fail
    refine CK.out.mono ?_
    rintro e w1 ⟨rfl, hz⟩
    subst hz
    clear CK
    go_wp2
    go_ret2
    exact ⟨rfl, hX⟩

set_option maxHeartbeats 2000000 in
theorem Sum_un (va : Value) (n : Nat) (f : Nat → Int) (d : Nat) (c : Int) (w : World) (hn : n ≤ 70000) (c0 : 0 ≤ c) (c1 : c ≤ 900000000) (hV : VT w) (hA : Ar w va n f) (ha : Nb va d) (hU : Uc w d c) :
    Calls Tryz.prog 171 #[.pointer (some ⟨d, 0, none⟩), va] w fun e w' => e = .returned (.tuple #[.int .i64 (sX n f), .int .i64 (sE n)]) ∧ Un d (c + bi (sO n f)) w w' := by
  obtain ⟨ada, ca, ba, oa, rfl, k1, k2, -, -⟩ := id hA
  have hb0 := bel1 w (.cells #[.slice ada n ca] 23)
  obtain ⟨hc, hf⟩ := hU
  have hc' := cell_later hb0 hc
  have hf' := frozen_later hb0 hc hf
  unfold maxLen at *
  by_cases hl : n ≤ 65536
  · have hs1 : ¬ (65536 : Int) < (n : Int) := by omega
    have hE : sE n = 0 := by unfold sE; rw [if_neg (by omega)]
    have CK : Hid (Calls Tryz.prog 32 #[.bool true, .slice (some ⟨w.heap.size, 0, none⟩) 1 1] (w.alloc (.cells #[.slice ada n ca] 23)) fun e w' => e = .returned (.int .i64 0) ∧ w' = w.alloc (.cells #[.slice ada n ca] 23)) := by
      have h := check1_any true w ada n ca (by unfold maxLen; omega)
      rw [if_neg (by omega), if_pos rfl] at h
      exact h
    have CT : Hid (Calls Tryz.prog 41 #[.slice ada n ca] (w.alloc (.cells #[.slice ada n ca] 23)) fun e w' => e = .returned (.agg #[.int .i64 (hi (sumV f n)), .int .u64 (lo (sumV f n))]) ∧ Below (w.alloc (.cells #[.slice ada n ca] 23)).heap.size (w.alloc (.cells #[.slice ada n ca] 23)) w') := total_any _ n f _ (hA.later hb0)
    obtain ⟨v0, v1⟩ := sumV_rng _ n f (by omega) w hA
    have CD : Hid (∀ W : World, W.cell? ⟨d, 0, none⟩ = some (.int .i64 c) → W.frozen? ⟨d, 0, none⟩ = false → Calls Tryz.prog 67 #[.pointer (some ⟨d, 0, none⟩), .agg #[.int .i64 (hi (sumV f n)), .int .u64 (lo (sumV f n))]] W fun e w' => e = .returned (.int .i64 (clv (sumV f n))) ∧ Un d (c + bi (ovv (sumV f n))) W w') := fun W x y => vhold_un (sumV f n) v0 v1 d c c0 (by omega) W x y
    clear v0 v1
    rw [show sX n f = clv (sumV f n) by unfold sX; rw [if_pos hE], show sO n f = ovv (sumV f n) by unfold sO; rw [if_pos hE], hE]
    generalize clv (sumV f n) = x at *
    generalize bi (ovv (sumV f n)) = z at *
    generalize hi (sumV f n) = sh at *
    generalize lo (sumV f n) = sl at *
    clear hA hV hc hf ha hE
    go_enter Tryz.func171, Tryz.ntmps171
    go_wp2_with fail
    refine CK.out.mono ?_
    rintro e w1 ⟨rfl, hz⟩
    subst hz
    clear CK
    go_wp2_with fail
    refine CT.out.mono ?_
    rintro e w2 ⟨rfl, hb2⟩
    have W2 := bchain hb0 hb2
    clear CT
    have x2 := cell_later hb2 hc'
    have y2 := frozen_later hb2 hc' hf'
    clear hc' hf' hb2 hb0
    go_wp2_with fail
    refine (CD.out _ x2 y2).mono ?_
    rintro e w3 ⟨rfl, hU⟩
    have hX := Un.after W2 hU
    clear hU x2 y2 CD W2
    go_wp2
    go_ret2
    exact ⟨rfl, hX⟩
  · have hE : sE n = 3 := by unfold sE; rw [if_pos (by omega)]
    have CK : Hid (Calls Tryz.prog 32 #[.bool true, .slice (some ⟨w.heap.size, 0, none⟩) 1 1] (w.alloc (.cells #[.slice ada n ca] 23)) fun e w' => e = .returned (.int .i64 3) ∧ w' = w.alloc (.cells #[.slice ada n ca] 23)) := by
      have h := check1_any true w ada n ca (by unfold maxLen; omega)
      rw [if_pos (by omega)] at h
      exact h
    rw [show sX n f = 0 by unfold sX; rw [if_neg (by rw [hE]; decide)], show sO n f = false by unfold sO; rw [if_neg (by rw [hE]; decide)], hE]
    rw [show c + bi false = c by unfold bi; simp]
    have hX := Un.after hb0 (Un.same hc' hf')
    clear hA hV hc hf ha hc' hf' hb0 hE
    go_enter Tryz.func171, Tryz.ntmps171
    go_wp2_with fail
    refine CK.out.mono ?_
    rintro e w1 ⟨rfl, hz⟩
    subst hz
    clear CK
    go_wp2
    go_ret2
    exact ⟨rfl, hX⟩

set_option maxHeartbeats 2000000 in
theorem Mean_un (va : Value) (n : Nat) (f : Nat → Int) (d : Nat) (c : Int) (w : World) (hn : n ≤ 70000) (c0 : 0 ≤ c) (c1 : c ≤ 900000000) (hV : VT w) (hA : Ar w va n f) (ha : Nb va d) (hU : Uc w d c) :
    Calls Tryz.prog 20 #[.pointer (some ⟨d, 0, none⟩), va] w fun e w' => e = .returned (.tuple #[.int .i64 (mX n f), .int .i64 (mE n)]) ∧ Un d (c + bi (mO n f)) w w' := by
  obtain ⟨ada, ca, ba, oa, rfl, k1, k2, -, -⟩ := id hA
  have hb0 := bel1 w (.cells #[.slice ada n ca] 23)
  obtain ⟨hc, hf⟩ := hU
  have hc' := cell_later hb0 hc
  have hf' := frozen_later hb0 hc hf
  unfold maxLen at *
  rcases (show (0 < n ∧ n ≤ 65536) ∨ 65536 < n ∨ n = 0 by omega) with ⟨h0, hl⟩ | hl | h0
  · have hs1 : ¬ (65536 : Int) < (n : Int) := by omega
    have hE : mE n = 0 := by unfold mE; rw [if_neg (by omega), if_neg (by omega)]
    have hp : (0 : Int) < (n : Int) := by omega
    have CK : Hid (Calls Tryz.prog 32 #[.bool true, .slice (some ⟨w.heap.size, 0, none⟩) 1 1] (w.alloc (.cells #[.slice ada n ca] 23)) fun e w' => e = .returned (.int .i64 0) ∧ w' = w.alloc (.cells #[.slice ada n ca] 23)) := by
      have h := check1_any true w ada n ca (by unfold maxLen; omega)
      rw [if_neg (by omega), if_pos rfl] at h
      exact h
    have CT : Hid (Calls Tryz.prog 41 #[.slice ada n ca] (w.alloc (.cells #[.slice ada n ca] 23)) fun e w' => e = .returned (.agg #[.int .i64 (hi (sumV f n)), .int .u64 (lo (sumV f n))]) ∧ Below (w.alloc (.cells #[.slice ada n ca] 23)).heap.size (w.alloc (.cells #[.slice ada n ca] 23)) w') := total_any _ n f _ (hA.later hb0)
    obtain ⟨v0, v1⟩ := sumV_rng _ n f (by omega) w hA
    obtain ⟨g0, g1⟩ := sumV_small _ n f w hA
    obtain ⟨u0, u1⟩ := quo_in (sumV f n) (n : Int) (by omega) ((n : Int) * 9223372036854775808) (by omega) g0 g1
    have CD : Hid (∀ W : World, W.cell? ⟨d, 0, none⟩ = some (.int .i64 c) → W.frozen? ⟨d, 0, none⟩ = false → Calls Tryz.prog 40 #[.pointer (some ⟨d, 0, none⟩), .agg #[.int .i64 (hi (sumV f n)), .int .u64 (lo (sumV f n))], .int .i64 (n : Int)] W fun e w' => e = .returned (.int .i64 (clv (quo (sumV f n) (n : Int)))) ∧ Un d (c + bi (ovv (quo (sumV f n) (n : Int)))) W w') := fun W x y => vmean_un (sumV f n) (n : Int) v0 v1 (by omega) (by omega) (by omega) (by omega) d c c0 (by omega) W x y
    clear v0 v1 g0 g1 u0 u1
    rw [show mX n f = clv (quo (sumV f n) (n : Int)) by unfold mX; rw [if_pos hE], show mO n f = ovv (quo (sumV f n) (n : Int)) by unfold mO; rw [if_pos hE], hE]
    generalize clv (quo (sumV f n) (n : Int)) = x at *
    generalize bi (ovv (quo (sumV f n) (n : Int))) = z at *
    generalize hi (sumV f n) = sh at *
    generalize lo (sumV f n) = sl at *
    clear hA hV hc hf ha hE
    go_enter Tryz.func20, Tryz.ntmps20
    go_wp2_with fail
    refine CK.out.mono ?_
    rintro e w1 ⟨rfl, hz⟩
    subst hz
    clear CK
    go_wp2_with fail
    refine CT.out.mono ?_
    rintro e w2 ⟨rfl, hb2⟩
    have W2 := bchain hb0 hb2
    clear CT
    have x2 := cell_later hb2 hc'
    have y2 := frozen_later hb2 hc' hf'
    clear hc' hf' hb2 hb0
    go_wp2_with fail
    refine (CD.out _ x2 y2).mono ?_
    rintro e w3 ⟨rfl, hU⟩
    have hX := Un.after W2 hU
    clear hU x2 y2 CD W2
    go_wp2
    go_ret2
    exact ⟨rfl, hX⟩
  · have hE : mE n = 3 := by unfold mE; rw [if_pos (by omega)]
    have hp : 0 < n := by omega
    have CK : Hid (Calls Tryz.prog 32 #[.bool true, .slice (some ⟨w.heap.size, 0, none⟩) 1 1] (w.alloc (.cells #[.slice ada n ca] 23)) fun e w' => e = .returned (.int .i64 3) ∧ w' = w.alloc (.cells #[.slice ada n ca] 23)) := by
      have h := check1_any true w ada n ca (by unfold maxLen; omega)
      rw [if_pos (by omega)] at h
      exact h
    rw [show mX n f = 0 by unfold mX; rw [if_neg (by rw [hE]; decide)], show mO n f = false by unfold mO; rw [if_neg (by rw [hE]; decide)], hE]
    rw [show c + bi false = c by unfold bi; simp]
    have hX := Un.after hb0 (Un.same hc' hf')
    clear hA hV hc hf ha hc' hf' hb0 hE
    go_enter Tryz.func20, Tryz.ntmps20
    go_wp2_with fail
    refine CK.out.mono ?_
    rintro e w1 ⟨rfl, hz⟩
    subst hz
    clear CK
    go_wp2
    go_ret2
    exact ⟨rfl, hX⟩
  · have hE : mE n = 40 := by unfold mE; rw [if_neg (by omega), if_pos h0]
    have hp : ¬ 0 < n := by omega
    have CK : Hid (Calls Tryz.prog 32 #[.bool false, .slice (some ⟨w.heap.size, 0, none⟩) 1 1] (w.alloc (.cells #[.slice ada n ca] 23)) fun e w' => e = .returned (.int .i64 40) ∧ w' = w.alloc (.cells #[.slice ada n ca] 23)) := by
      have h := check1_any false w ada n ca (by unfold maxLen; omega)
      rw [if_neg (by omega), if_neg (by decide)] at h
      exact h
    rw [show mX n f = 0 by unfold mX; rw [if_neg (by rw [hE]; decide)], show mO n f = false by unfold mO; rw [if_neg (by rw [hE]; decide)], hE]
    rw [show c + bi false = c by unfold bi; simp]
    have hX := Un.after hb0 (Un.same hc' hf')
    clear hA hV hc hf ha hc' hf' hb0 hE h0
    go_enter Tryz.func20, Tryz.ntmps20
    go_wp2_with fail
    refine CK.out.mono ?_
    rintro e w1 ⟨rfl, hz⟩
    subst hz
    clear CK
    go_wp2
    go_ret2
    exact ⟨rfl, hX⟩

set_option maxHeartbeats 2000000 in
theorem Dot_nil (va vb : Value) (n m : Nat) (f g : Nat → Int) (w : World) (hn : n ≤ 70000) (hm : m ≤ 70000) (hV : VT w) (hA : Ar w va n f) (hB : Ar w vb m g) :
    Calls Tryz.prog 59 #[.pointer none, va, vb] w fun e w' => e = .returned (.tuple #[.int .i64 (dX n m f g), .int .i64 (dE n m)]) ∧ Below w.heap.size w w' := by
  obtain ⟨ada, ca, ba, oa, rfl, k1, k2, -, -⟩ := id hA
  obtain ⟨adb, cb, bb, ob, rfl, q1, q2, -, -⟩ := id hB
  have hb0 := bel1 w (.cells #[.slice ada n ca, .slice adb m cb] 23)
  unfold maxLen at *
  rcases (show (n = m ∧ n ≤ 65536) ∨ (n = m ∧ 65536 < n) ∨ n ≠ m by omega) with ⟨hnm, hl⟩ | ⟨hnm, hl⟩ | hnm
  · subst hnm
    have hE : dE n n = 0 := by unfold dE; rw [if_neg (by omega), if_pos rfl]
    have hs1 : ¬ (65536 : Int) < (n : Int) := by omega
    have CK : Hid (Calls Tryz.prog 32 #[.bool true, .slice (some ⟨w.heap.size, 0, none⟩) 2 2] (w.alloc (.cells #[.slice ada n ca, .slice adb n cb] 23)) fun e w' => e = .returned (.int .i64 0) ∧ w' = w.alloc (.cells #[.slice ada n ca, .slice adb n cb] 23)) := by
      have h := check2_any true w ada adb n ca n cb (by unfold maxLen; omega) (by unfold maxLen; omega)
      rw [if_neg (by omega), if_pos rfl] at h
      exact h
    have CD : Hid (Calls Tryz.prog 91 #[.pointer none, .slice ada n ca, .slice adb n cb] (w.alloc (.cells #[.slice ada n ca, .slice adb n cb] 23)) fun e w' => e = .returned (.int .i64 (clv (rr (dotV f g n) 32))) ∧ Below (w.alloc (.cells #[.slice ada n ca, .slice adb n cb] 23)).heap.size (w.alloc (.cells #[.slice ada n ca, .slice adb n cb] 23)) w') := vdot_nil _ _ n f g hn _ (VT.later hV hb0) (hA.later hb0) (hB.later hb0)
    rw [show dX n n f g = clv (rr (dotV f g n) 32) by unfold dX; rw [if_pos hE], hE]
    generalize clv (rr (dotV f g n) 32) = x at *
    clear hA hB hV hE
    go_enter Tryz.func59, Tryz.ntmps59
    go_wp2_with fail
    refine CK.out.mono ?_
    rintro e w1 ⟨rfl, hz⟩
    subst hz
    clear CK
    go_wp2_with fail
    refine CD.out.mono ?_
    rintro e w3 ⟨rfl, hb3⟩
    have hX := bchain hb0 hb3
    clear hb3 CD hb0
    go_wp2
    go_ret2
    exact ⟨rfl, hX⟩
  · subst hnm
    have hE : dE n n = 3 := by unfold dE; rw [if_pos (by omega)]
    have CK : Hid (Calls Tryz.prog 32 #[.bool true, .slice (some ⟨w.heap.size, 0, none⟩) 2 2] (w.alloc (.cells #[.slice ada n ca, .slice adb n cb] 23)) fun e w' => e = .returned (.int .i64 3) ∧ w' = w.alloc (.cells #[.slice ada n ca, .slice adb n cb] 23)) := by
      have h := check2_any true w ada adb n ca n cb (by unfold maxLen; omega) (by unfold maxLen; omega)
      rw [if_pos (by omega)] at h
      exact h
    rw [show dX n n f g = 0 by unfold dX; rw [if_neg (by rw [hE]; decide)], hE]
    clear hA hB hV hE
    go_enter Tryz.func59, Tryz.ntmps59
    go_wp2_with fail
    refine CK.out.mono ?_
    rintro e w1 ⟨rfl, hz⟩
    subst hz
    clear CK
    go_wp2
    go_ret2
    exact ⟨rfl, hb0⟩
  · have hnI : ((n : Int) == (m : Int)) = false := beq_eq_false_iff_ne.2 (by omega)
    obtain ⟨E, hE⟩ : ∃ E, dE n m = E := ⟨_, rfl⟩
    have hck : (if 65536 < n ∨ 65536 < m then (3 : Int) else if false = true then 0 else 40) = E := by rw [← hE]; unfold dE; rw [if_neg (show ¬ false = true by decide), if_neg hnm]
    have hne : ¬ E = 0 := by rw [← hE]; unfold dE; split <;> simp [hnm]
    have CK : Hid (Calls Tryz.prog 32 #[.bool false, .slice (some ⟨w.heap.size, 0, none⟩) 2 2] (w.alloc (.cells #[.slice ada n ca, .slice adb m cb] 23)) fun e w' => e = .returned (.int .i64 E) ∧ w' = w.alloc (.cells #[.slice ada n ca, .slice adb m cb] 23)) := by
      have h := check2_any false w ada adb n ca m cb (by unfold maxLen; omega) (by unfold maxLen; omega)
      rw [hck] at h
      exact h
    rw [show dX n m f g = 0 by unfold dX; rw [if_neg (by rw [hE]; exact hne)], hE]
    clear hA hB hV hE
    go_enter Tryz.func59, Tryz.ntmps59
    go_wp2_with fail
    refine CK.out.mono ?_
    rintro e w1 ⟨rfl, hz⟩
    subst hz
    clear CK
    go_wp2
    go_ret2
    exact ⟨rfl, hb0⟩

set_option maxHeartbeats 2000000 in
theorem Sum_nil (va : Value) (n : Nat) (f : Nat → Int) (w : World) (hn : n ≤ 70000) (hV : VT w) (hA : Ar w va n f) :
    Calls Tryz.prog 171 #[.pointer none, va] w fun e w' => e = .returned (.tuple #[.int .i64 (sX n f), .int .i64 (sE n)]) ∧ Below w.heap.size w w' := by
  obtain ⟨ada, ca, ba, oa, rfl, k1, k2, -, -⟩ := id hA
  have hb0 := bel1 w (.cells #[.slice ada n ca] 23)
  unfold maxLen at *
  by_cases hl : n ≤ 65536
  · have hs1 : ¬ (65536 : Int) < (n : Int) := by omega
    have hE : sE n = 0 := by unfold sE; rw [if_neg (by omega)]
    have CK : Hid (Calls Tryz.prog 32 #[.bool true, .slice (some ⟨w.heap.size, 0, none⟩) 1 1] (w.alloc (.cells #[.slice ada n ca] 23)) fun e w' => e = .returned (.int .i64 0) ∧ w' = w.alloc (.cells #[.slice ada n ca] 23)) := by
      have h := check1_any true w ada n ca (by unfold maxLen; omega)
      rw [if_neg (by omega), if_pos rfl] at h
      exact h
    have CT : Hid (Calls Tryz.prog 41 #[.slice ada n ca] (w.alloc (.cells #[.slice ada n ca] 23)) fun e w' => e = .returned (.agg #[.int .i64 (hi (sumV f n)), .int .u64 (lo (sumV f n))]) ∧ Below (w.alloc (.cells #[.slice ada n ca] 23)).heap.size (w.alloc (.cells #[.slice ada n ca] 23)) w') := total_any _ n f _ (hA.later hb0)
    obtain ⟨v0, v1⟩ := sumV_rng _ n f (by omega) w hA
    have CD : Hid (∀ W : World, Calls Tryz.prog 67 #[.pointer none, .agg #[.int .i64 (hi (sumV f n)), .int .u64 (lo (sumV f n))]] W fun e w' => e = .returned (.int .i64 (clv (sumV f n))) ∧ Below W.heap.size W w') := fun W => vhold_nil (sumV f n) v0 v1 W
    clear v0 v1
    rw [show sX n f = clv (sumV f n) by unfold sX; rw [if_pos hE], hE]
    generalize clv (sumV f n) = x at *
    generalize hi (sumV f n) = sh at *
    generalize lo (sumV f n) = sl at *
    clear hA hV hE
    go_enter Tryz.func171, Tryz.ntmps171
    go_wp2_with fail
    refine CK.out.mono ?_
    rintro e w1 ⟨rfl, hz⟩
    subst hz
    clear CK
    go_wp2_with fail
    refine CT.out.mono ?_
    rintro e w2 ⟨rfl, hb2⟩
    have W2 := bchain hb0 hb2
    clear CT
    clear hb2 hb0
    go_wp2_with fail
    refine (CD.out _).mono ?_
    rintro e w3 ⟨rfl, hb3⟩
    have hX := bchain W2 hb3
    clear hb3 CD W2
    go_wp2
    go_ret2
    exact ⟨rfl, hX⟩
  · have hE : sE n = 3 := by unfold sE; rw [if_pos (by omega)]
    have CK : Hid (Calls Tryz.prog 32 #[.bool true, .slice (some ⟨w.heap.size, 0, none⟩) 1 1] (w.alloc (.cells #[.slice ada n ca] 23)) fun e w' => e = .returned (.int .i64 3) ∧ w' = w.alloc (.cells #[.slice ada n ca] 23)) := by
      have h := check1_any true w ada n ca (by unfold maxLen; omega)
      rw [if_pos (by omega)] at h
      exact h
    rw [show sX n f = 0 by unfold sX; rw [if_neg (by rw [hE]; decide)], hE]
    clear hA hV hE
    go_enter Tryz.func171, Tryz.ntmps171
    go_wp2_with fail
    refine CK.out.mono ?_
    rintro e w1 ⟨rfl, hz⟩
    subst hz
    clear CK
    go_wp2
    go_ret2
    exact ⟨rfl, hb0⟩

set_option maxHeartbeats 2000000 in
theorem Mean_nil (va : Value) (n : Nat) (f : Nat → Int) (w : World) (hn : n ≤ 70000) (hV : VT w) (hA : Ar w va n f) :
    Calls Tryz.prog 20 #[.pointer none, va] w fun e w' => e = .returned (.tuple #[.int .i64 (mX n f), .int .i64 (mE n)]) ∧ Below w.heap.size w w' := by
  obtain ⟨ada, ca, ba, oa, rfl, k1, k2, -, -⟩ := id hA
  have hb0 := bel1 w (.cells #[.slice ada n ca] 23)
  unfold maxLen at *
  rcases (show (0 < n ∧ n ≤ 65536) ∨ 65536 < n ∨ n = 0 by omega) with ⟨h0, hl⟩ | hl | h0
  · have hs1 : ¬ (65536 : Int) < (n : Int) := by omega
    have hE : mE n = 0 := by unfold mE; rw [if_neg (by omega), if_neg (by omega)]
    have hp : (0 : Int) < (n : Int) := by omega
    have CK : Hid (Calls Tryz.prog 32 #[.bool true, .slice (some ⟨w.heap.size, 0, none⟩) 1 1] (w.alloc (.cells #[.slice ada n ca] 23)) fun e w' => e = .returned (.int .i64 0) ∧ w' = w.alloc (.cells #[.slice ada n ca] 23)) := by
      have h := check1_any true w ada n ca (by unfold maxLen; omega)
      rw [if_neg (by omega), if_pos rfl] at h
      exact h
    have CT : Hid (Calls Tryz.prog 41 #[.slice ada n ca] (w.alloc (.cells #[.slice ada n ca] 23)) fun e w' => e = .returned (.agg #[.int .i64 (hi (sumV f n)), .int .u64 (lo (sumV f n))]) ∧ Below (w.alloc (.cells #[.slice ada n ca] 23)).heap.size (w.alloc (.cells #[.slice ada n ca] 23)) w') := total_any _ n f _ (hA.later hb0)
    obtain ⟨v0, v1⟩ := sumV_rng _ n f (by omega) w hA
    obtain ⟨g0, g1⟩ := sumV_small _ n f w hA
    obtain ⟨u0, u1⟩ := quo_in (sumV f n) (n : Int) (by omega) ((n : Int) * 9223372036854775808) (by omega) g0 g1
    have CD : Hid (∀ W : World, Calls Tryz.prog 40 #[.pointer none, .agg #[.int .i64 (hi (sumV f n)), .int .u64 (lo (sumV f n))], .int .i64 (n : Int)] W fun e w' => e = .returned (.int .i64 (clv (quo (sumV f n) (n : Int)))) ∧ Below W.heap.size W w') := fun W => vmean_nil (sumV f n) (n : Int) v0 v1 (by omega) (by omega) (by omega) (by omega) W
    clear v0 v1 g0 g1 u0 u1
    rw [show mX n f = clv (quo (sumV f n) (n : Int)) by unfold mX; rw [if_pos hE], hE]
    generalize clv (quo (sumV f n) (n : Int)) = x at *
    generalize hi (sumV f n) = sh at *
    generalize lo (sumV f n) = sl at *
    clear hA hV hE
    go_enter Tryz.func20, Tryz.ntmps20
    go_wp2_with fail
    refine CK.out.mono ?_
    rintro e w1 ⟨rfl, hz⟩
    subst hz
    clear CK
    go_wp2_with fail
    refine CT.out.mono ?_
    rintro e w2 ⟨rfl, hb2⟩
    have W2 := bchain hb0 hb2
    clear CT
    clear hb2 hb0
    go_wp2_with fail
    refine (CD.out _).mono ?_
    rintro e w3 ⟨rfl, hb3⟩
    have hX := bchain W2 hb3
    clear hb3 CD W2
    go_wp2
    go_ret2
    exact ⟨rfl, hX⟩
  · have hE : mE n = 3 := by unfold mE; rw [if_pos (by omega)]
    have hp : 0 < n := by omega
    have CK : Hid (Calls Tryz.prog 32 #[.bool true, .slice (some ⟨w.heap.size, 0, none⟩) 1 1] (w.alloc (.cells #[.slice ada n ca] 23)) fun e w' => e = .returned (.int .i64 3) ∧ w' = w.alloc (.cells #[.slice ada n ca] 23)) := by
      have h := check1_any true w ada n ca (by unfold maxLen; omega)
      rw [if_pos (by omega)] at h
      exact h
    rw [show mX n f = 0 by unfold mX; rw [if_neg (by rw [hE]; decide)], hE]
    clear hA hV hE
    go_enter Tryz.func20, Tryz.ntmps20
    go_wp2_with fail
    refine CK.out.mono ?_
    rintro e w1 ⟨rfl, hz⟩
    subst hz
    clear CK
    go_wp2
    go_ret2
    exact ⟨rfl, hb0⟩
  · have hE : mE n = 40 := by unfold mE; rw [if_neg (by omega), if_pos h0]
    have hp : ¬ 0 < n := by omega
    have CK : Hid (Calls Tryz.prog 32 #[.bool false, .slice (some ⟨w.heap.size, 0, none⟩) 1 1] (w.alloc (.cells #[.slice ada n ca] 23)) fun e w' => e = .returned (.int .i64 40) ∧ w' = w.alloc (.cells #[.slice ada n ca] 23)) := by
      have h := check1_any false w ada n ca (by unfold maxLen; omega)
      rw [if_neg (by omega), if_neg (by decide)] at h
      exact h
    rw [show mX n f = 0 by unfold mX; rw [if_neg (by rw [hE]; decide)], hE]
    clear hA hV hE h0
    go_enter Tryz.func20, Tryz.ntmps20
    go_wp2_with fail
    refine CK.out.mono ?_
    rintro e w1 ⟨rfl, hz⟩
    subst hz
    clear CK
    go_wp2
    go_ret2
    exact ⟨rfl, hb0⟩

end Go.Proofs.YtcaficenocblfaaGreatDoor
set_option linter.unusedVariables false
set_option linter.unusedSimpArgs false
namespace Go.Proofs.YtcaficenocblfaaGreatDoor
open Go.RowKit

set_option maxRecDepth 100000 in
set_option maxHeartbeats 2000000 in
theorem clone_any (va : Value) (n : Nat) (f : Nat → Int) (hn : n ≤ 70000) (w : World) (hA : Ar w va n f) :
    Calls Tryz.prog 55 #[va] w fun e w' => ∃ (ad : Option Addr) (cap : Nat), e = .returned (.slice ad n cap) ∧ Ar w' (.slice ad n cap) n f ∧ Ow w.heap.size (.slice ad n cap) ∧ Below w.heap.size w w' := by
  obtain ⟨i0, hi, hz0, hz1, hz2⟩ := info_parts dinfo_fx
  have qT : ∀ (w : World) (a : Option Addr) (n c n' c' : Nat), (binOp .eql 23 (.slice a n c) (.slice none n' c')).run Tryz.prog w = .ok (.bool a.isNone) w := fun w a n c n' c' => Lib.run_eql_slice_nil w _ _ a n c n' c' Tryz.underlying23
  obtain ⟨adr, cap, b, o, rfl, k1, k2, k3, k4⟩ := hA
  unfold maxLen at k2
  have HB : Hid (∀ k, k < n → -9223372036854775808 ≤ f k ∧ f k ≤ 9223372036854775807) := fun k hk => (k4 k hk).2
  cases adr with
  | none =>
    obtain rfl : n = 0 := by
      rcases Nat.eq_zero_or_pos n with h | h
      · exact h
      · cases k3 h
    clear k3 k4
    go_enter Tryz.func55, Tryz.ntmps55
    go_wp2
    go_ret
    exact ⟨none, 0, rfl, ⟨none, 0, 0, 0, rfl, by omega, by unfold maxLen; omega, fun h => by omega, fun k hk => by omega⟩, fun a n cap e => (by cases e), Below.refl _ _⟩
  | some a =>
    have HC : Hid (∀ (j : Nat) (u : Value), (il f n)[j]? = some u → w.cell? (a.add j) = some u) := fun j u hj => by
      have hjn : j < n := by
        have := (List.getElem?_eq_some_iff.1 hj).1
        rw [il_len] at this
        exact this
      have e := Option.some.inj (k3 (by omega))
      subst e
      rw [il_get f n j hjn] at hj
      rw [Addr.add_lit, ← hj]
      exact (k4 j hjn).1
    clear k3 k4
    go_enter Tryz.func55, Tryz.ntmps55
    go_wp2_with (at_builtin; refine wpList_append_own _ rfl _ _ 23 rfl w.heap.size 36 i0 (.int .i64 0) 1 8 Tryz.underlying23 hi hz0 hz1 hz2 rfl (by decide) _ _ _ rfl (World.ownsRow_made w #[] 0 (Nat.le_refl _) (Nat.zero_le _) (by simp)) a n cap (il f n) rfl ?qc1 ?qc2 ?qc3 ?qc4 ?qc5 ?qc6 ?_)
    case qc1 => rw [il_len, Nat.mul_one]
    case qc2 =>
      intro j u hj
      exact cell_later (bel1 w _) (HC.out j u hj)
    case qc3 =>
      intro u hu
      unfold il at hu
      obtain ⟨k, _, rfl⟩ := List.mem_map.1 hu
      rfl
    case qc4 => unfold maxLen; omega
    case qc5 => omega
    case qc6 => simp
    intro v' w1 hown hgrow hnil
    have HO : Hid (Ar w1 v' n f ∧ Ow w.heap.size v') := ar_of_own (by simpa using hown) HB.out
    have HW : Hid (Below w.heap.size w w1) := ((Below.refl _ w).alloc (Nat.le_refl _) _).grown hgrow (by simp) (by intro k hk; simp [Value.ownBlock] at hk; omega)
    clear hown hgrow hnil HC
    obtain ⟨ad', cap', -, -, rfl, -, -, -, -⟩ := id HO.out.1
    go_wp2
    go_ret
    exact ⟨ad', cap', rfl, HO.out.1, HO.out.2, HW.out⟩
end Go.Proofs.YtcaficenocblfaaGreatDoor
set_option linter.unusedVariables false
set_option linter.unusedSimpArgs false
namespace Go.Proofs.YtcaficenocblfaaGreatDoor
open Go.RowKit

theorem Ar.far {w : World} {g n cap : Nat} {f : Nat → Int} {p : Addr} (h : Ar w (.slice (some ⟨g, 0, none⟩) n cap) n f) (u : Value) (hp : p.block ≠ g) : Ar (w.setCell p u) (.slice (some ⟨g, 0, none⟩) n cap) n f := by
  obtain ⟨ad, ca, b, o, e, h1, h2, h3, h4⟩ := h
  cases e
  refine ⟨_, _, b, o, rfl, h1, h2, h3, fun k hk => ⟨cell_set ?_ (h4 k hk).1, (h4 k hk).2⟩⟩
  have e := h3 (by omega)
  cases e
  exact hp
theorem B3.block {b : Nat} {x y z : Value} {w w' : World} (h : B3 b x y z w) (hb : w'.heap[b]? = w.heap[b]?) : B3 b x y z w' :=
  ⟨(World.cell?_of_block (w := w) hb).trans h.c0, (World.cell?_of_block (w := w) hb).trans h.c1, (World.cell?_of_block (w := w) hb).trans h.c2, (World.frozen?_of_block (w := w) hb).trans h.f0, (World.frozen?_of_block (w := w) hb).trans h.f1, (World.frozen?_of_block (w := w) hb).trans h.f2⟩
theorem fits_iff (r c : Int) (r0 : 1 ≤ r) (c0 : 1 ≤ c) : r ≤ 65536 / c ↔ r * c ≤ 65536 := Int.le_ediv_iff_mul_le (by omega)
set_option maxHeartbeats 1000000 in
theorem fits_any (r c : Int) (r0 : 1 ≤ r) (r1 : r ≤ 9223372036854775807) (c0 : 1 ≤ c) (c1 : c ≤ 9223372036854775807) (w : World) :
    Calls Tryz.prog 86 #[.int .i64 r, .int .i64 c] w fun e w' => e = .returned (.bool (decide (r * c ≤ 65536))) ∧ w' = w := by
  have hi := fits_iff r c r0 c0
  have hb : (65536 : Int) / c ≤ 65536 := Int.ediv_le_self _ (by omega)
  have hb0 : (0 : Int) ≤ 65536 / c := Int.ediv_nonneg (by omega) (by omega)
  have hc : ¬ c = 0 := by omega
  by_cases h : r ≤ 65536 / c
  · rw [decide_eq_true (hi.1 h)]
    clear hi
    go_enter Tryz.func86, Tryz.ntmps86
    go_wp2
    go_ret
    exact ⟨by simp [h], rfl⟩
  · rw [decide_eq_false (fun h' => h (hi.2 h'))]
    clear hi
    go_enter Tryz.func86, Tryz.ntmps86
    go_wp2
    go_ret
    exact ⟨by simp [h], rfl⟩
set_option maxRecDepth 100000 in
set_option maxHeartbeats 1000000 in
theorem grow_any (n : Nat) (hn : 1 ≤ n) (hn2 : n ≤ 1000000) (w : World) :
    Calls Tryz.prog 111 #[.slice none 0 0, .int .i64 (n : Int)] w fun e w' => ∃ cap, e = .returned (.slice (some ⟨w.heap.size, 0, none⟩) 0 cap) ∧ w'.ownsRow w.heap.size 36 1 (.slice (some ⟨w.heap.size, 0, none⟩) 0 cap) 0 [] ∧ Below w.heap.size w w' := by
  obtain ⟨i0, hi, hz0, hz1, hz2⟩ := info_parts dinfo_fx
  have hold : (Builtin.firstCells i0.size 0 (.slice none 0 0)).run Tryz.prog w.drew = .ok ([] : List Value).toArray w.drew := run_firstCells_none w.drew i0.size 0 0 0
  have hrz : ∀ ty, (Builtin.append_ #[23, 3] ty #[.slice none 0 0, .int .i64 (n : Int)]).run Tryz.prog w =
      .ok (.slice (some ⟨w.heap.size, 0, none⟩) n (grownCap w n 0 36)) (w.drew.alloc (.cells (([] : List Value).toArray ++ Builtin.zeroCells (Value.int .i64 0).cells n ++ Builtin.zeroCells (Value.int .i64 0).cells (grownCap w n 0 36 - n)) 36)) := fun ty => by
    have h := Lib.run_append_grow_zeros w 23 3 ty 36 i0 (.int .i64 0) .i64 .i64 Tryz.underlying23 Tryz.underlying3 hi hz0 none 0 0 [] hold n (by omega) (by rw [hz1]; omega) (by omega) (by omega) (by rw [hz2]; omega) (by rw [Nat.zero_add]; exact growslice_fits (by omega) (by rw [hz2]; omega))
    rw [Nat.zero_add] at h
    exact h
  have hGn : n ≤ grownCap w n 0 36 := grownCap_ge w _ _ _
  have hG63 := grownCap_le_maxLen w n 0 36 (by unfold maxLen; omega)
  obtain ⟨G, hG⟩ : ∃ G, G = grownCap w n 0 36 := ⟨_, rfl⟩
  rw [← hG] at hrz hGn hG63
  have HO : Hid ((w.alloc (.cells (Builtin.zeroCells #[Value.int .i64 0] n ++ Builtin.zeroCells #[Value.int .i64 0] (G - n)) 36)).drew.ownsRow w.heap.size 36 1 (.slice (some ⟨w.heap.size, 0, none⟩) 0 G) 0 []) := (World.ownsRow_made w _ G (Nat.le_refl _) hG63 (by simp [Builtin.zeroCells]; omega)).drew
  have HW : Hid (Below w.heap.size w (w.alloc (.cells (Builtin.zeroCells #[Value.int .i64 0] n ++ Builtin.zeroCells #[Value.int .i64 0] (G - n)) 36)).drew) := ((Below.refl _ w).alloc (Nat.le_refl _) _).drew
  unfold maxLen at hG63
  clear hold hG
  go_enter Tryz.func111, Tryz.ntmps111
  go_wp2_with (at_builtin; refine Lib.wpList_append_run _ rfl _ _ _ _ rfl _ _ rfl rfl _ _ (hrz _) ?_)
  all_goals
    go_ret
    exact ⟨_, rfl, HO.out, HW.out⟩
theorem rows_il (F : Nat → Nat → Int) (m j : Nat) : il (fun i => F (i / m) (i % m)) (j * m) ++ il (F j) m = il (fun i => F (i / m) (i % m)) (j * m + m) := by
  unfold il
  rw [List.range_add, List.map_append, List.map_map]
  congr 1
  apply List.map_congr_left
  intro k hk
  have hk := List.mem_range.1 hk
  show _ = Value.int .i64 (F ((j * m + k) / m) ((j * m + k) % m))
  rw [show (j * m + k) / m = j by rw [Nat.mul_comm, Nat.mul_add_div (by omega), Nat.div_eq_of_lt hk, Nat.add_zero], show (j * m + k) % m = k by rw [Nat.mul_comm, Nat.mul_add_mod, Nat.mod_eq_of_lt hk]]
theorem il_one1 (f : Nat → Int) (n : Nat) : ∀ u ∈ il f n, u.oneCell' = true := by
  intro u hu
  unfold il at hu
  obtain ⟨k, _, rfl⟩ := List.mem_map.1 hu
  rfl

set_option maxRecDepth 100000 in
set_option maxHeartbeats 4000000 in
theorem concat_any (b n m : Nat) (h : Nat → Nat) (F : Nat → Nat → Int) (hn : 1 ≤ n) (hm : 1 ≤ m) (hnm : n * m ≤ 65536) (w : World) (hR : Rw b n (fun k => .slice (some ⟨h k, 0, none⟩) m m) w) (hA : ∀ k, k < n → Ar w (.slice (some ⟨h k, 0, none⟩) m m) m (F k)) :
    Calls Tryz.prog 90 #[.slice (some ⟨b, 0, none⟩) n n] w fun e w' => ∃ g cap, e = .returned (.slice (some ⟨g, 0, none⟩) (n * m) cap) ∧ Ar w' (.slice (some ⟨g, 0, none⟩) (n * m) cap) (n * m) (fun i => F (i / m) (i % m)) ∧ w.heap.size ≤ g ∧ Below w.heap.size w w' := by
  obtain ⟨i0, hi, hz0, hz1, hz2⟩ := info_parts dinfo_fx
  have hn1 : n ≤ 65536 := Nat.le_trans (Nat.le_mul_of_pos_right n hm) hnm
  have hm1 : m ≤ 65536 := Nat.le_trans (Nat.le_mul_of_pos_left m hn) hnm
  have HR : Hid (Rw b n (fun k => .slice (some ⟨h k, 0, none⟩) m m) w) := hR
  have HA : Hid (∀ k, k < n → Ar w (.slice (some ⟨h k, 0, none⟩) m m) m (F k)) := hA
  have HM : Hid (∀ k, k ≤ n → k * m ≤ n * m) := fun k hk => Nat.mul_le_mul_right m hk
  have HN : Hid (n * m ≤ 65536) := hnm
  clear hR hA hnm
  obtain ⟨P, hP⟩ : ∃ P, n * m = P := ⟨_, rfl⟩
  have HP : Hid (n * m = P) := hP
  have hP1 : P ≤ 65536 := by rw [← hP]; exact HN.out
  have hP0 : 1 ≤ P := by rw [← hP]; exact Nat.mul_pos hn hm
  rw [hP]
  clear hP HN
  go_enter Tryz.func90, Tryz.ntmps90
  go_wp2
  go_loopw [3, 11] (fun s3 s11 wr => ∃ (k p : Nat), k ≤ n ∧ s3 = .int .i64 (p : Int) ∧ p ≤ P ∧ Hid (p = k * m) ∧ s11 = .int .i64 (k : Int) ∧ wr = w) (fun _ s11 _ => n - (intOf s11).toNat)
  case atStart => exact ⟨0, 0, by omega, rfl, by omega, by show _ = _; simp, rfl, rfl⟩
  case round =>
    obtain ⟨k, p, hk, rfl, hp, hpk, rfl, rfl⟩ := hrel
    by_cases hlt : k < n
    · have hkI : (k : Int) < (n : Int) := by omega
      have hc := HR.out.c k hlt
      have hp2 : p + m ≤ P := by rw [hpk.out, ← HP.out, ← Nat.succ_mul]; exact HM.out (k + 1) (by omega)
      have hpk2 : Hid (p + m = (k + 1) * m) := by show _ = _; rw [hpk.out, Nat.succ_mul]
      have hneg : ¬ ((p : Int) + (m : Int)) < 0 := by omega
      clear hpk
      go_wp2
      go_roundw
      case rel => exact ⟨k + 1, p + m, by omega, by go_num, hp2, hpk2, by go_num, trivial⟩
      case measure => simp [intOf]; omega
    · obtain rfl : k = n := by omega
      have hkI : ¬ (k : Int) < (k : Int) := by omega
      obtain rfl : p = P := by rw [hpk.out]; exact HP.out
      rename World => wo
      have CG : Hid (Calls Tryz.prog 111 #[.slice none 0 0, .int .i64 (p : Int)] wo fun e w' => ∃ cap, e = .returned (.slice (some ⟨wo.heap.size, 0, none⟩) 0 cap) ∧ w'.ownsRow wo.heap.size 36 1 (.slice (some ⟨wo.heap.size, 0, none⟩) 0 cap) 0 [] ∧ Below wo.heap.size wo w') := grow_any p hP0 (by omega) wo
      go_wp2_with fail
      refine CG.out.mono ?_
      rintro e w1 ⟨cap, rfl, hown, hb⟩
      have HO1 : Hid (w1.ownsRow wo.heap.size 36 1 (.slice (some ⟨wo.heap.size, 0, none⟩) 0 cap) 0 (il (fun i => F (i / m) (i % m)) 0)) := hown
      have HB1 : Hid (Below wo.heap.size wo w1) := hb
      clear hown hb CG hpk
      go_wp2
      go_loopw [6, 27] (fun s6 s27 wr => ∃ (q g cp t : Nat), q ≤ k ∧ s6 = .slice (some ⟨g, 0, none⟩) t cp ∧ t ≤ p ∧ Hid (t = q * m) ∧ s27 = .int .i64 (q : Int) ∧ Hid (wr.ownsRow wo.heap.size 36 1 (.slice (some ⟨g, 0, none⟩) t cp) t (il (fun i => F (i / m) (i % m)) t)) ∧ Hid (Below wo.heap.size wo wr)) (fun _ s27 _ => k - (intOf s27).toNat)
      case atStart => exact ⟨0, wo.heap.size, cap, 0, by omega, rfl, by omega, by show _ = _; simp, rfl, HO1, HB1⟩
      case round =>
        clear HO1 HB1
        obtain ⟨q, g, cp, t, hq, rfl, ht, htq, rfl, hown, hB⟩ := hrel
        by_cases hlt : q < k
        · have hqI : (q : Int) < (k : Int) := by omega
          have hc := (hB.out.cell (World.block_lt_of_cell? _ _ (HR.out.c q hlt))).trans (HR.out.c q hlt)
          have hA2 := (HA.out q hlt).later hB.out
          have HN : Hid (∀ (j : Nat) (u : Value), (il (F q) m)[j]? = some u → wr.cell? ((⟨h q, 0, none⟩ : Addr).add j) = some u) := fun j u hj => by
            have hjm : j < m := by
              have := (List.getElem?_eq_some_iff.1 hj).1
              rw [il_len] at this
              exact this
            obtain ⟨b', o', e, c', -, -⟩ := hA2.at j hjm
            cases e
            rw [il_get (F q) m j hjm] at hj
            rw [Addr.add_lit, ← hj]
            exact c'
          have ht2 : t + m ≤ p := by rw [htq.out, ← HP.out, ← Nat.succ_mul]; exact HM.out (q + 1) (by omega)
          have htq2 : Hid (t + m = (q + 1) * m) := by show _ = _; rw [htq.out, Nat.succ_mul]
          have hil : Hid (il (fun i => F (i / m) (i % m)) t ++ il (F q) m = il (fun i => F (i / m) (i % m)) (t + m)) := by show _ = _; rw [htq.out]; exact rows_il F m q
          have hownU := hown.out
          have hBU := hB.out.size
          clear hA2 htq
          go_wp2_with (at_builtin; refine wpList_append_own _ rfl _ _ 23 rfl wo.heap.size 36 i0 (.int .i64 0) 1 8 Tryz.underlying23 hi hz0 hz1 hz2 rfl (by decide) _ _ _ rfl hownU ⟨h q, 0, none⟩ m m (il (F q) m) rfl (by rw [il_len, Nat.mul_one]) HN.out (il_one1 (F q) m) (by unfold maxLen; omega) (by omega) hBU ?_; intro v' w2 hown' hgrow hnil)
          have hW2 : Hid (Below wo.heap.size wo w2) := hB.out.grown hgrow hBU (fun k' hk' => by
            rcases hownU.2 with ⟨h0, h1⟩ | ⟨g', cap', cur, hv, hbs, -⟩
            · first | cases h0 | cases h1
            · cases hv
              cases hk'
              exact hbs)
          have hown2 : Hid (w2.ownsRow wo.heap.size 36 1 v' (t + m) (il (fun i => F (i / m) (i % m)) (t + m))) := by show World.ownsRow _ _ _ _ _ _ _; rw [← hil.out]; exact hown'
          obtain ⟨g', cap', rfl⟩ : ∃ g' cap', v' = .slice (some ⟨g', 0, none⟩) (t + m) cap' := by
            rcases hown'.2 with ⟨h0, h1⟩ | ⟨g', cap', cur, hv, -⟩
            · omega
            · exact ⟨g', cap', hv⟩
          clear hown' hgrow hnil hownU hBU HN hown hB hil
          go_wp2
          go_roundw
          case rel => exact ⟨q + 1, g', cap', t + m, by omega, rfl, ht2, htq2, by go_num, hown2, hW2⟩
          case measure => simp [intOf]; omega
        · obtain rfl : q = k := by omega
          have hqI : ¬ (q : Int) < (q : Int) := by omega
          obtain rfl : t = p := by rw [htq.out]; exact HP.out
          have HX : Hid (Ar wr (.slice (some ⟨g, 0, none⟩) t cp) t (fun i => F (i / m) (i % m)) ∧ Ow wo.heap.size (.slice (some ⟨g, 0, none⟩) t cp)) := ar_of_own hown.out (fun i hi => by
            have h1 : i / m < q := by rw [Nat.div_lt_iff_lt_mul hm, HP.out]; exact hi
            have h2 : i % m < m := Nat.mod_lt _ hm
            obtain ⟨_, _, _, _, _, _, _, _, h3⟩ := HA.out (i / m) h1
            exact (h3 _ h2).2)
          clear hown
          go_wp2
          go_ret
          exact ⟨g, cp, rfl, HX.out.1, HX.out.2 _ _ _ rfl (by omega), hB.out⟩

end Go.Proofs.YtcaficenocblfaaGreatDoor
set_option linter.unusedVariables false
set_option linter.unusedSimpArgs false
namespace Go.Proofs.YtcaficenocblfaaGreatDoor
open Go.RowKit

def oE (n m : Nat) : Int := if 65536 < n ∨ 65536 < m then 3 else if n = 0 ∨ m = 0 then 40 else if 65536 < n * m then 3 else 0
end Go.Proofs.YtcaficenocblfaaGreatDoor
set_option linter.unusedVariables false
set_option linter.unusedSimpArgs false
namespace Go.Proofs.YtcaficenocblfaaGreatDoor
open Go.RowKit

def updN (h : Nat → Nat) (j b : Nat) : Nat → Nat := fun k => if k = j then b else h k
theorem upd_at (h : Nat → Nat) (j b : Nat) : updN h j b j = b := by unfold updN; simp
theorem upd_lt (h : Nat → Nat) (j b k : Nat) (hk : k < j) : updN h j b k = h k := by unfold updN; rw [if_neg (by omega)]
theorem dinfo_fs : (Tryz.prog.info? 23).map (fun i => (i.zero, i.size, i.bytes)) = some (some (.slice none 0 0), 1, 24) := by kernel_rfl
theorem make_fs (n : Nat) (hn : n ≤ 1000000) (w : World) : (Instr.makeSlice 60 (.int .i64 (n : Int)) (.int .i64 (n : Int))).run Tryz.prog w = .ok (.slice (some ⟨w.heap.size, 0, none⟩) n n) (w.alloc (.cells (madeCells #[.slice none 0 0] n) 23)) := by
  obtain ⟨i0, hi, hz0, hz1, hz2⟩ := info_parts dinfo_fs
  have h := run_make (P := Tryz.prog) w 60 23 i0 (.slice none 0 0) Tryz.underlying60 hi hz0 .i64 .i64 (n : Int) (n : Int) (by omega) (by omega) (by rw [hz2]; omega) (by omega)
  rw [hz1, Nat.mul_one] at h
  exact h

set_option maxRecDepth 100000 in
set_option maxHeartbeats 4000000 in
theorem each_outer (p q : Value) (S : Nat → (Nat → Nat) → World → Prop) (va : Value) (n m : Nat) (f : Nat → Int) (w : World) (hn : n ≤ 70000) (hA : Ar w va n f)
    (S0 : ∀ h, S 0 h w) (SL : ∀ j h W W', S j h W → Below W.heap.size W W' → S j h W') (SS : ∀ j h W (a : Addr) u, w.heap.size = a.block → S j h W → S j h (W.setCell a u)) (SA : ∀ j h W, S j h W → Ar W va n f)
    (HS : ∀ j h W, j < n → w.heap.size < W.heap.size → S j h W → Calls Tryz.prog 88 #[.int .i64 (f j), p, q] W fun e w' => ∃ b, e = .returned (.slice (some ⟨b, 0, none⟩) m m) ∧ S (j + 1) (updN h j b) w' ∧ w'.heap[w.heap.size]? = W.heap[w.heap.size]? ∧ W.heap.size ≤ w'.heap.size) :
    Calls Tryz.prog 87 #[va, .func (.func 88) #[] #[p, q]] w fun e w' => e = .returned (.slice (some ⟨w.heap.size, 0, none⟩) n n) ∧ ∃ h, S n h w' ∧ Rw w.heap.size n (fun k => .slice (some ⟨h k, 0, none⟩) m m) w' := by
  obtain ⟨adr, cap, b, o, rfl, k1, k2, -, -⟩ := id hA
  unfold maxLen at *
  have hmk := make_fs n (by omega)
  have hR0 := Rw.made w (.slice none 0 0) n 23
  have hS0 : Hid (∀ h, S 0 h (w.alloc (.cells (madeCells #[.slice none 0 0] n) 23))) := fun h => SL 0 h _ _ (S0 h) (bel1 _ _)
  have hz0 : w.heap.size < (w.alloc (.cells (madeCells #[.slice none 0 0] n) 23)).heap.size := by rw [World.size_alloc]; omega
  have HSA : Hid (∀ j h W, S j h W → Ar W (.slice adr n cap) n f) := SA
  have HHS : Hid (∀ j h W, j < n → w.heap.size < W.heap.size → S j h W → Calls Tryz.prog 88 #[.int .i64 (f j), p, q] W fun e w' => ∃ b, e = .returned (.slice (some ⟨b, 0, none⟩) m m) ∧ S (j + 1) (updN h j b) w' ∧ w'.heap[w.heap.size]? = W.heap[w.heap.size]? ∧ W.heap.size ≤ w'.heap.size) := HS
  have HSS : Hid (∀ j h W (a : Addr) u, w.heap.size = a.block → S j h W → S j h (W.setCell a u)) := SS
  clear SA HS SS SL S0 hA
  go_enter Tryz.func87, Tryz.ntmps87
  go_upto_region 3 with fail
  generalize w.alloc (.cells (madeCells #[.slice none 0 0] n) 23) = w0 at *
  clear hmk
  go_loopw [13] (fun si wr => ∃ (j : Nat) (h : Nat → Nat), j ≤ n ∧ si = .int .i64 (j : Int) ∧ Hid (S j h wr) ∧ Hid (Rw w.heap.size n (fun k => if k < j then .slice (some ⟨h k, 0, none⟩) m m else .slice none 0 0) wr) ∧ w.heap.size < wr.heap.size) (fun si _ => n - (intOf si).toNat)
  case atStart =>
    exact ⟨0, fun _ => 0, by omega, rfl, hS0.out _, hR0.congr (fun k hk => by simp), hz0⟩
  case round =>
    obtain ⟨j, h, hj, rfl, hS, hR, hz⟩ := hrel
    by_cases hlt : j < n
    · have hjI : (j : Int) < (n : Int) := by omega
      obtain ⟨b, o, rfl, cA, -, -⟩ := (HSA.out j h wr hS.out).at j hlt
      have CM : Hid (Calls Tryz.prog 88 #[.int .i64 (f j), p, q] wr fun e w' => ∃ b, e = .returned (.slice (some ⟨b, 0, none⟩) m m) ∧ S (j + 1) (updN h j b) w' ∧ w'.heap[w.heap.size]? = wr.heap[w.heap.size]? ∧ wr.heap.size ≤ w'.heap.size) := HHS.out j h wr hlt hz hS.out
      clear hS
      go_wp2_with (go_at_call 88; refine CM.out.mono ?_; rintro e wz ⟨bz, rfl, hSz, hbz, hsz⟩; have HSz : Hid (S (j + 1) (updN h j bz) wz) := hSz; have HRz := hR.out.block hbz; have cz : wz.cell? ⟨w.heap.size, j, none⟩ = some (.slice none 0 0) := (by have := HRz.c j hlt; rw [if_neg (by omega)] at this; exact this); have fz := HRz.f j hlt; replace HRz : Hid _ := HRz; clear hSz hbz hR cA)
      have hS2 : Hid (S (j + 1) (updN h j bz) (wz.setCell ⟨w.heap.size, j, none⟩ (.slice (some ⟨bz, 0, none⟩) m m))) := HSS.out _ _ _ _ _ rfl HSz.out
      have hR2 : Hid (Rw w.heap.size n (fun k => if k < j + 1 then .slice (some ⟨updN h j bz k, 0, none⟩) m m else .slice none 0 0) (wz.setCell ⟨w.heap.size, j, none⟩ (.slice (some ⟨bz, 0, none⟩) m m))) := (HRz.out.set j (.slice (some ⟨bz, 0, none⟩) m m)).congr (fun k hk => by
        by_cases e : k = j
        · subst e; rw [if_pos rfl, if_pos (by omega), upd_at]
        · rw [if_neg e]
          by_cases e2 : k < j
          · rw [if_pos e2, if_pos (by omega), upd_lt h j bz k e2]
          · rw [if_neg e2, if_neg (by omega)])
      have hz2 : w.heap.size < (wz.setCell ⟨w.heap.size, j, none⟩ (.slice (some ⟨bz, 0, none⟩) m m)).heap.size := by rw [World.size_setCell]; omega
      go_roundw
      case rel => exact ⟨j + 1, updN h j bz, by omega, by go_num, hS2, hR2, hz2⟩
      case measure => simp [intOf]; omega
    · obtain rfl : j = n := by omega
      have hjI : ¬ (j : Int) < (j : Int) := by omega
      have hAr : Hid (Rw w.heap.size j (fun k => .slice (some ⟨h k, 0, none⟩) m m) wr) := hR.out.congr (fun k hk => by rw [if_pos hk])
      clear hR
      go_wp2
      go_ret
      exact ⟨rfl, h, hS.out, hAr.out⟩

set_option maxHeartbeats 1000000 in
theorem out1_un (k : Int) (k0 : -9223372036854775808 ≤ k) (k1 : k ≤ 9223372036854775807) (va : Value) (n : Nat) (f : Nat → Int) (hn : n ≤ 70000) (bu bl : Nat) (d : Nat) (c : Int) (c0 : 0 ≤ c) (c1 : c ≤ 900000000) (w : World) (hA : Ar w va n f) (ha : Nb va d) (hc : w.cell? ⟨d, 0, none⟩ = some (.int .i64 c)) (hf : w.frozen? ⟨d, 0, none⟩ = false) (cu : w.cell? ⟨bu, 0, none⟩ = some (.pointer (some ⟨d, 0, none⟩))) (cl : w.cell? ⟨bl, 0, none⟩ = some va) :
    Calls Tryz.prog 88 #[.int .i64 k, .pointer (some ⟨bu, 0, none⟩), .pointer (some ⟨bl, 0, none⟩)] w fun e w' => e = .returned (.slice (some ⟨w.heap.size + 2, 0, none⟩) n n) ∧ Ar w' (.slice (some ⟨w.heap.size + 2, 0, none⟩) n n) n (fun i => clv (rnd (k * f i) 32)) ∧ Un d (c + cntV (fun i => ovv (rnd (k * f i) 32)) n) w w' := by
  have CS : Hid (Calls Tryz.prog 89 #[.pointer (some ⟨d, 0, none⟩), .int .i64 k, va] w fun e w' => e = .returned (.slice (some ⟨w.heap.size + 2, 0, none⟩) n n) ∧ Ar w' (.slice (some ⟨w.heap.size + 2, 0, none⟩) n n) n (fun i => clv (rnd (k * f i) 32)) ∧ Un d (c + cntV (fun i => ovv (rnd (k * f i) 32)) n) w w') := scaled_un k k0 k1 va n f hn d c c0 c1 w hA ha hc hf
  obtain ⟨adr, cap, b, o, rfl, -, -, -, -⟩ := hA
  clear ha hc hf
  go_enter Tryz.func88, Tryz.ntmps88
  go_wp2_with fail
  refine CS.out.mono ?_
  rintro e w1 ⟨rfl, hX, hU⟩
  have HX : Hid (Ar w1 (.slice (some ⟨w.heap.size + 2, 0, none⟩) n n) n (fun i => clv (rnd (k * f i) 32))) := hX
  clear CS cu cl hX
  go_wp2
  go_ret
  exact ⟨rfl, HX.out, hU⟩

set_option maxHeartbeats 1000000 in
theorem out1_nil (k : Int) (k0 : -9223372036854775808 ≤ k) (k1 : k ≤ 9223372036854775807) (va : Value) (n : Nat) (f : Nat → Int) (hn : n ≤ 70000) (bu bl : Nat) (w : World) (hA : Ar w va n f) (cu : w.cell? ⟨bu, 0, none⟩ = some (.pointer none)) (cl : w.cell? ⟨bl, 0, none⟩ = some va) :
    Calls Tryz.prog 88 #[.int .i64 k, .pointer (some ⟨bu, 0, none⟩), .pointer (some ⟨bl, 0, none⟩)] w fun e w' => e = .returned (.slice (some ⟨w.heap.size + 2, 0, none⟩) n n) ∧ Ar w' (.slice (some ⟨w.heap.size + 2, 0, none⟩) n n) n (fun i => clv (rnd (k * f i) 32)) ∧ Below w.heap.size w w' := by
  have CS : Hid (Calls Tryz.prog 89 #[.pointer none, .int .i64 k, va] w fun e w' => e = .returned (.slice (some ⟨w.heap.size + 2, 0, none⟩) n n) ∧ Ar w' (.slice (some ⟨w.heap.size + 2, 0, none⟩) n n) n (fun i => clv (rnd (k * f i) 32)) ∧ Below w.heap.size w w') := scaled_nil k k0 k1 va n f hn w hA
  obtain ⟨adr, cap, b, o, rfl, -, -, -, -⟩ := hA
  skip
  go_enter Tryz.func88, Tryz.ntmps88
  go_wp2_with fail
  refine CS.out.mono ?_
  rintro e w1 ⟨rfl, hX, hU⟩
  have HX : Hid (Ar w1 (.slice (some ⟨w.heap.size + 2, 0, none⟩) n n) n (fun i => clv (rnd (k * f i) 32))) := hX
  clear CS cu cl hX
  go_wp2
  go_ret
  exact ⟨rfl, HX.out, hU⟩

set_option maxRecDepth 100000 in
set_option maxHeartbeats 8000000 in
theorem Outer_un (va vb : Value) (n m : Nat) (f g : Nat → Int) (d : Nat) (c : Int) (w : World) (hn : n ≤ 70000) (hm : m ≤ 70000) (c0 : 0 ≤ c) (c1 : c ≤ 800000000) (hA : Ar w va n f) (hB : Ar w vb m g) (ha : Nb va d) (hb : Nb vb d) (hU : Uc w d c) :
    Calls Tryz.prog 58 #[.pointer (some ⟨d, 0, none⟩), va, vb] w fun e w' => ∃ (r k : Int) (v' : Value), e = .returned (.tuple #[.agg #[.int .i64 r, .int .i64 k, v'], .int .i64 (oE n m)]) ∧ r = cE (oE n m) (n : Int) ∧ k = cE (oE n m) (m : Int) ∧ LL w w' v' (n * m) (otX f g m) (oE n m) ∧ Un d (c + cE (oE n m) (otN f g m n)) w w' := by
  obtain ⟨ada, ca, ba, oa, rfl, x1, x2, -, -⟩ := id hA
  obtain ⟨adb, cb, bb, ob, rfl, y1, y2, -, -⟩ := id hB
  have hmf := hmf_any
  have hb3 := bel3 w (.cells #[.pointer (some ⟨d, 0, none⟩)] 28) (.cells #[.slice adb m cb] 23) (.cells #[.int .i64 0, .int .i64 0, .slice none 0 0] 85)
  have hb4 := bchain hb3 (bel1 _ (.cells #[.slice ada n ca, .slice adb m cb] 23))
  have hs4 : ((((w.alloc (.cells #[.pointer (some ⟨d, 0, none⟩)] 28)).alloc (.cells #[.slice adb m cb] 23)).alloc (.cells #[.int .i64 0, .int .i64 0, .slice none 0 0] 85)).alloc (.cells #[.slice ada n ca, .slice adb m cb] 23)).heap.size = w.heap.size + 4 := by simp
  have cu : ((((w.alloc (.cells #[.pointer (some ⟨d, 0, none⟩)] 28)).alloc (.cells #[.slice adb m cb] 23)).alloc (.cells #[.int .i64 0, .int .i64 0, .slice none 0 0] 85)).alloc (.cells #[.slice ada n ca, .slice adb m cb] 23)).cell? ⟨w.heap.size, 0, none⟩ = some (.pointer (some ⟨d, 0, none⟩)) := cell_later (bel1 _ _) (cell_later (bel1 _ _) (cell_later (bel1 _ _) (cell_new1 w _ _)))
  have cl : ((((w.alloc (.cells #[.pointer (some ⟨d, 0, none⟩)] 28)).alloc (.cells #[.slice adb m cb] 23)).alloc (.cells #[.int .i64 0, .int .i64 0, .slice none 0 0] 85)).alloc (.cells #[.slice ada n ca, .slice adb m cb] 23)).cell? ⟨w.heap.size + 1, 0, none⟩ = some (.slice adb m cb) := by have h := cell_new1 (w.alloc (.cells #[.pointer (some ⟨d, 0, none⟩)] 28)) (.slice adb m cb) 23; rw [World.size_alloc] at h; exact cell_later (bel1 _ _) (cell_later (bel1 _ _) h)
  have cl3 : (((w.alloc (.cells #[.pointer (some ⟨d, 0, none⟩)] 28)).alloc (.cells #[.slice adb m cb] 23)).alloc (.cells #[.int .i64 0, .int .i64 0, .slice none 0 0] 85)).cell? ⟨w.heap.size + 1, 0, none⟩ = some (.slice adb m cb) := by have h := cell_new1 (w.alloc (.cells #[.pointer (some ⟨d, 0, none⟩)] 28)) (.slice adb m cb) 23; rw [World.size_alloc] at h; exact cell_later (bel1 _ _) h
  have R4 : B3 (w.heap.size + 2) (.int .i64 0) (.int .i64 0) (.slice none 0 0) ((((w.alloc (.cells #[.pointer (some ⟨d, 0, none⟩)] 28)).alloc (.cells #[.slice adb m cb] 23)).alloc (.cells #[.int .i64 0, .int .i64 0, .slice none 0 0] 85)).alloc (.cells #[.slice ada n ca, .slice adb m cb] 23)) := by
    have h := (B3.new ((w.alloc (.cells #[.pointer (some ⟨d, 0, none⟩)] 28)).alloc (.cells #[.slice adb m cb] 23)) (.int .i64 0) (.int .i64 0) (.slice none 0 0) 85).later (bel1 _ (.cells #[.slice ada n ca, .slice adb m cb] 23))
    simp only [World.size_alloc] at h
    exact h
  obtain ⟨hc, hf⟩ := hU
  have hd := World.block_lt_of_cell? _ _ hc
  dsimp only at hd
  have hc' := cell_later hb4 hc
  have hf' := frozen_later hb4 hc hf
  unfold maxLen at *
  have HU4 : Hid (Un d (c) w ((((w.alloc (.cells #[.pointer (some ⟨d, 0, none⟩)] 28)).alloc (.cells #[.slice adb m cb] 23)).alloc (.cells #[.int .i64 0, .int .i64 0, .slice none 0 0] 85)).alloc (.cells #[.slice ada n ca, .slice adb m cb] 23))) := Un.after hb4 (Un.same hc' hf')
  generalize hW4 : ((((w.alloc (.cells #[.pointer (some ⟨d, 0, none⟩)] 28)).alloc (.cells #[.slice adb m cb] 23)).alloc (.cells #[.int .i64 0, .int .i64 0, .slice none 0 0] 85)).alloc (.cells #[.slice ada n ca, .slice adb m cb] 23)) = W4 at *
  have HW4 : Hid (((((w.alloc (.cells #[.pointer (some ⟨d, 0, none⟩)] 28)).alloc (.cells #[.slice adb m cb] 23)).alloc (.cells #[.int .i64 0, .int .i64 0, .slice none 0 0] 85)).alloc (.cells #[.slice ada n ca, .slice adb m cb] 23)) = W4) := hW4
  clear hW4
  have ERR : ∀ E : Int, oE n m = E → E ≠ 0 → Hid (∀ W : World, W = ((W4.setCell ⟨w.heap.size + 2, 0, none⟩ (.int .i64 0)).setCell ⟨w.heap.size + 2, 1, none⟩ (.int .i64 0)).setCell ⟨w.heap.size + 2, 2, none⟩ (.slice none 0 0) → ∃ (r k : Int) (v' : Value), Ending.returned (.tuple #[.agg #[.int .i64 0, .int .i64 0, .slice none 0 0], .int .i64 E]) = .returned (.tuple #[.agg #[.int .i64 r, .int .i64 k, v'], .int .i64 (oE n m)]) ∧ r = cE (oE n m) (n : Int) ∧ k = cE (oE n m) (m : Int) ∧ LL w W v' (n * m) (otX f g m) (oE n m) ∧ Un d (c + cE (oE n m) (otN f g m n)) w W) := by
    intro E hE hne W hW
    subst hW
    rw [hE]
    refine ⟨0, 0, .slice none 0 0, rfl, by unfold cE; rw [if_neg hne], by unfold cE; rw [if_neg hne], ⟨fun h => absurd h hne, fun _ => ⟨none, 0, rfl⟩, fun a n' cap' e => by cases e⟩, ?_⟩
    unfold cE; rw [if_neg hne, Int.add_zero]; exact ((HU4.out.setnew _ _ hd (by dsimp only; omega)).setnew _ _ hd (by dsimp only; omega)).setnew _ _ hd (by dsimp only; omega)
  rcases (show n = 0 ∨ (0 < n ∧ m = 0) ∨ (0 < n ∧ 0 < m ∧ (65536 < n ∨ 65536 < m)) ∨ (0 < n ∧ 0 < m ∧ n ≤ 65536 ∧ m ≤ 65536) by omega) with h0 | ⟨h1, h0⟩ | ⟨h1, h2, h3⟩ | ⟨h1, h2, h3, h4⟩
  · have hp1 : ¬ 0 < n := by omega
    have hp2 : ¬ (0 : Int) < (n : Int) := by omega
    obtain ⟨E, hE⟩ : ∃ E, oE n m = E := ⟨_, rfl⟩
    have hne : ¬ E = 0 := by rw [← hE]; unfold oE; split; decide; rw [if_pos (Or.inl h0)]; decide
    have hck : (if 65536 < n ∨ 65536 < m then (3 : Int) else if false = true then 0 else 40) = E := by rw [← hE]; unfold oE; rw [if_neg (show ¬ false = true by decide), if_pos (Or.inl h0)]
    clear h0
    have CK : Hid (Calls Tryz.prog 32 #[.bool false, .slice (some ⟨(((w.alloc (.cells #[.pointer (some ⟨d, 0, none⟩)] 28)).alloc (.cells #[.slice adb m cb] 23)).alloc (.cells #[.int .i64 0, .int .i64 0, .slice none 0 0] 85)).heap.size, 0, none⟩) 2 2] W4 fun e w' => e = .returned (.int .i64 E) ∧ w' = W4) := by
      have h := check2_any false (((w.alloc (.cells #[.pointer (some ⟨d, 0, none⟩)] 28)).alloc (.cells #[.slice adb m cb] 23)).alloc (.cells #[.int .i64 0, .int .i64 0, .slice none 0 0] 85)) ada adb n ca m cb (by unfold maxLen; omega) (by unfold maxLen; omega)
      rw [hck] at h
      rw [HW4.out] at h
      exact h
    simp only [World.size_alloc] at CK
    have HERR := ERR E hE hne
    have z0 := R4.c0
    have z1 := R4.c1
    have z2 := R4.c2
    have q0 := R4.f0
    have q1 := R4.f1
    have q2 := R4.f2
    have S0 := ((R4.set0 (.int .i64 0)).set1 (.int .i64 0)).set2 (.slice none 0 0)
    have s0 := S0.c0
    have s1 := S0.c1
    have s2 := S0.c2
    clear hA hB ha hb hc hf hc' hf' R4 S0 hb3 hb4 hs4 ERR cu HU4
    go_enter Tryz.func58, Tryz.ntmps58
    go_wp2_with fail
    rw [HW4.out]
    refine CK.out.mono ?_
    rintro e w1 ⟨rfl, hz⟩
    subst hz
    clear CK
    go_wp2
    exact bodyPost_ret (v := .tuple #[.agg #[.int .i64 0, .int .i64 0, .slice none 0 0], .int .i64 E]) (by simp [results, Tryz.results58, go_sem, s0, s1, s2] <;> rfl) rfl (HERR.out _ rfl)
  · have hp2 : (0 : Int) < (n : Int) := by omega
    have hp3 : ¬ 0 < m := by omega
    have hp4 : ¬ (0 : Int) < (m : Int) := by omega
    obtain ⟨E, hE⟩ : ∃ E, oE n m = E := ⟨_, rfl⟩
    have hne : ¬ E = 0 := by rw [← hE]; unfold oE; split; decide; rw [if_pos (Or.inr h0)]; decide
    have hck : (if 65536 < n ∨ 65536 < m then (3 : Int) else if false = true then 0 else 40) = E := by rw [← hE]; unfold oE; rw [if_neg (show ¬ false = true by decide), if_pos (Or.inr h0)]
    clear h0
    have CK : Hid (Calls Tryz.prog 32 #[.bool false, .slice (some ⟨(((w.alloc (.cells #[.pointer (some ⟨d, 0, none⟩)] 28)).alloc (.cells #[.slice adb m cb] 23)).alloc (.cells #[.int .i64 0, .int .i64 0, .slice none 0 0] 85)).heap.size, 0, none⟩) 2 2] W4 fun e w' => e = .returned (.int .i64 E) ∧ w' = W4) := by
      have h := check2_any false (((w.alloc (.cells #[.pointer (some ⟨d, 0, none⟩)] 28)).alloc (.cells #[.slice adb m cb] 23)).alloc (.cells #[.int .i64 0, .int .i64 0, .slice none 0 0] 85)) ada adb n ca m cb (by unfold maxLen; omega) (by unfold maxLen; omega)
      rw [hck] at h
      rw [HW4.out] at h
      exact h
    simp only [World.size_alloc] at CK
    have HERR := ERR E hE hne
    have z0 := R4.c0
    have z1 := R4.c1
    have z2 := R4.c2
    have q0 := R4.f0
    have q1 := R4.f1
    have q2 := R4.f2
    have S0 := ((R4.set0 (.int .i64 0)).set1 (.int .i64 0)).set2 (.slice none 0 0)
    have s0 := S0.c0
    have s1 := S0.c1
    have s2 := S0.c2
    clear hA hB ha hb hc hf hc' hf' R4 S0 hb3 hb4 hs4 ERR cu HU4
    go_enter Tryz.func58, Tryz.ntmps58
    go_wp2_with fail
    rw [HW4.out]
    refine CK.out.mono ?_
    rintro e w1 ⟨rfl, hz⟩
    subst hz
    clear CK
    go_wp2
    exact bodyPost_ret (v := .tuple #[.agg #[.int .i64 0, .int .i64 0, .slice none 0 0], .int .i64 E]) (by simp [results, Tryz.results58, go_sem, s0, s1, s2] <;> rfl) rfl (HERR.out _ rfl)
  · have hp2 : (0 : Int) < (n : Int) := by omega
    have hp4 : (0 : Int) < (m : Int) := by omega
    have CK : Hid (Calls Tryz.prog 32 #[.bool true, .slice (some ⟨(((w.alloc (.cells #[.pointer (some ⟨d, 0, none⟩)] 28)).alloc (.cells #[.slice adb m cb] 23)).alloc (.cells #[.int .i64 0, .int .i64 0, .slice none 0 0] 85)).heap.size, 0, none⟩) 2 2] W4 fun e w' => e = .returned (.int .i64 3) ∧ w' = W4) := by
      have h := check2_any true (((w.alloc (.cells #[.pointer (some ⟨d, 0, none⟩)] 28)).alloc (.cells #[.slice adb m cb] 23)).alloc (.cells #[.int .i64 0, .int .i64 0, .slice none 0 0] 85)) ada adb n ca m cb (by unfold maxLen; omega) (by unfold maxLen; omega)
      rw [if_pos h3] at h
      rw [HW4.out] at h
      exact h
    simp only [World.size_alloc] at CK
    have HERR := ERR 3 (by unfold oE; rw [if_pos h3]) (by decide)
    have z0 := R4.c0
    have z1 := R4.c1
    have z2 := R4.c2
    have q0 := R4.f0
    have q1 := R4.f1
    have q2 := R4.f2
    have S0 := ((R4.set0 (.int .i64 0)).set1 (.int .i64 0)).set2 (.slice none 0 0)
    have s0 := S0.c0
    have s1 := S0.c1
    have s2 := S0.c2
    clear hA hB ha hb hc hf hc' hf' R4 S0 hb3 hb4 hs4 ERR cu HU4
    go_enter Tryz.func58, Tryz.ntmps58
    go_wp2_with fail
    rw [HW4.out]
    refine CK.out.mono ?_
    rintro e w1 ⟨rfl, hz⟩
    subst hz
    clear CK
    go_wp2
    exact bodyPost_ret (v := .tuple #[.agg #[.int .i64 0, .int .i64 0, .slice none 0 0], .int .i64 3]) (by simp [results, Tryz.results58, go_sem, s0, s1, s2] <;> rfl) rfl (HERR.out _ rfl)
  · have hp2 : (0 : Int) < (n : Int) := by omega
    have hp4 : (0 : Int) < (m : Int) := by omega
    have CK : Hid (Calls Tryz.prog 32 #[.bool true, .slice (some ⟨(((w.alloc (.cells #[.pointer (some ⟨d, 0, none⟩)] 28)).alloc (.cells #[.slice adb m cb] 23)).alloc (.cells #[.int .i64 0, .int .i64 0, .slice none 0 0] 85)).heap.size, 0, none⟩) 2 2] W4 fun e w' => e = .returned (.int .i64 0) ∧ w' = W4) := by
      have h := check2_any true (((w.alloc (.cells #[.pointer (some ⟨d, 0, none⟩)] 28)).alloc (.cells #[.slice adb m cb] 23)).alloc (.cells #[.int .i64 0, .int .i64 0, .slice none 0 0] 85)) ada adb n ca m cb (by unfold maxLen; omega) (by unfold maxLen; omega)
      rw [if_neg (by omega), if_pos rfl, HW4.out] at h
      exact h
    simp only [World.size_alloc] at CK
    have CF : Hid (∀ W : World, Calls Tryz.prog 86 #[.int .i64 (n : Int), .int .i64 (m : Int)] W fun e w' => e = .returned (.bool (decide (n * m ≤ 65536))) ∧ w' = W) := fun W => by
      have h := fits_any (n : Int) (m : Int) (by omega) (by omega) (by omega) (by omega) W
      rw [show decide ((n : Int) * (m : Int) ≤ 65536) = decide (n * m ≤ 65536) by rw [← Int.natCast_mul]; exact decide_eq_decide.2 (by omega)] at h
      exact h
    have z0 := R4.c0
    have z1 := R4.c1
    have z2 := R4.c2
    have q0 := R4.f0
    have q1 := R4.f1
    have q2 := R4.f2
    by_cases hnm : n * m ≤ 65536
    · rw [decide_eq_true hnm] at CF
      have hE : oE n m = 0 := by unfold oE; rw [if_neg (by omega), if_neg (by omega), if_neg (by omega)]
      have CE : Hid (Calls Tryz.prog 87 #[.slice ada n ca, .func (.func 88) #[] #[.pointer (some ⟨w.heap.size, 0, none⟩), .pointer (some ⟨w.heap.size + 1, 0, none⟩)]] W4 fun e w' => e = .returned (.slice (some ⟨W4.heap.size, 0, none⟩) n n) ∧ ∃ h : Nat → Nat, (Un d (c + otN f g m n) W4 w' ∧ ∀ k, k < n → W4.heap.size < h k ∧ Ar w' (.slice (some ⟨h k, 0, none⟩) m m) m (fun i => clv (rnd (f k * g i) 32))) ∧ Rw W4.heap.size n (fun k => .slice (some ⟨h k, 0, none⟩) m m) w') := by
        refine each_outer (.pointer (some ⟨w.heap.size, 0, none⟩)) (.pointer (some ⟨w.heap.size + 1, 0, none⟩)) (fun (j : Nat) (h : Nat → Nat) (W : World) => Un d (c + otN f g m j) W4 W ∧ ∀ k, k < j → W4.heap.size < h k ∧ Ar W (.slice (some ⟨h k, 0, none⟩) m m) m (fun i => clv (rnd (f k * g i) 32))) _ n m f W4 hn (hA.later hb4) ?_ ?_ ?_ ?_ ?_
        · intro h
          exact ⟨by simpa [otN] using Un.same hc' hf', fun k hk => absurd hk (Nat.not_lt_zero _)⟩
        · intro j h W W' hS hb'
          exact ⟨hS.1.ahead hb', fun k hk => ⟨(hS.2 k hk).1, (hS.2 k hk).2.later hb'⟩⟩
        · intro j h W a x ha' hS
          exact ⟨hS.1.setnew a x (by rw [hs4]; omega) (by omega), fun k hk => ⟨(hS.2 k hk).1, (hS.2 k hk).2.far x (by have := (hS.2 k hk).1; omega)⟩⟩
        · intro j h W hS
          exact (hA.later hb4).un ha hS.1
        · intro j h W hj hW hS
          obtain ⟨_, _, _, _, _, _, _, _, hx⟩ := id hA
          have hx := (hx j hj).2
          have r := ot_rng f g m j
          have rj : j * m ≤ n * m := Nat.mul_le_mul_right m (by omega)
          refine (out1_un (f j) hx.1 hx.2 (.slice adb m cb) m g hm w.heap.size (w.heap.size + 1) d (c + otN f g m j) (by omega) (by omega) W ((hB.later hb4).un hb hS.1) hb hS.1.c hS.1.f (hS.1.o _ _ (by dsimp only; omega) cu) (hS.1.o _ _ (by dsimp only; omega) cl)).mono ?_
          rintro e w' ⟨rfl, hX, hU⟩
          refine ⟨_, rfl, ⟨?_, ?_⟩, hU.k _ hW (by rw [hs4]; omega), hU.s⟩
          · have e1 : c + otN f g m (j + 1) = c + otN f g m j + cntV (fun i => ovv (rnd (f j * g i) 32)) m := by rw [Int.add_assoc]; rfl
            rw [e1]
            exact hS.1.chain hU
          · intro k hk
            by_cases e : k = j
            · subst e
              rw [upd_at]
              exact ⟨by omega, hX⟩
            · rw [upd_lt h j _ k (by omega)]
              have hk2 := hS.2 k (by omega)
              exact ⟨hk2.1, hk2.2.un (fun a n' cap' e' _ => by cases e'; rw [hs4] at hk2; show h k ≠ d; omega) hU⟩
      rw [hs4] at CE
      rw [hE]
      rw [show c + cE 0 (otN f g m n) = c + otN f g m n by unfold cE; rw [if_pos rfl]]
      clear hA hB ha hb hc hf hc' hf' ERR cu hE hb3
      go_enter Tryz.func58, Tryz.ntmps58
      go_wp2_with fail
      rw [HW4.out]
      refine CK.out.mono ?_
      rintro e w1 ⟨rfl, hz⟩
      subst hz
      clear CK
      go_wp2_with fail
      refine (CF.out _).mono ?_
      rintro e w1 ⟨rfl, hz⟩
      subst hz
      clear CF
      go_wp2_with fail
      refine CE.out.mono ?_
      rintro e w5 ⟨rfl, h, ⟨hU5, hrow⟩, hR5⟩
      skip
      have HU5 : Hid (Un d (c + otN f g m n) w w5) := HU4.out.chain hU5
      have A0 : w5.cell? ⟨w.heap.size + 1, 0, none⟩ = some (.slice adb m cb) := hU5.o _ _ (by dsimp only; omega) cl
      have R5 := R4.block (hU5.k (w.heap.size + 2) (by rw [hs4]; omega) (by omega))
      have hs5 : w.heap.size + 4 ≤ w5.heap.size := by have := hU5.s; rw [hs4] at this; exact this
      have CC : Hid (∀ W : World, Below w5.heap.size w5 W → Calls Tryz.prog 90 #[.slice (some ⟨w.heap.size + 4, 0, none⟩) n n] W fun e w' => ∃ g' cap, e = .returned (.slice (some ⟨g', 0, none⟩) (n * m) cap) ∧ Ar w' (.slice (some ⟨g', 0, none⟩) (n * m) cap) (n * m) (otX f g m) ∧ W.heap.size ≤ g' ∧ Below W.heap.size W w') := fun W hW => concat_any (w.heap.size + 4) n m h (fun k i => clv (rnd (f k * g i) 32)) h1 h2 hnm W (hR5.later hW) (fun k hk => (hrow k hk).2.later hW)
      clear CE hU5 hrow hR5 R4 z0 z1 z2 q0 q1 q2 cl cl3 HU4 hb4 hs4
      go_upto_region 7 with fail
      have hd1 : Below w5.heap.size w5 w5.drew := (Below.refl _ _).drew
      have CO := R5.later hd1
      have A := cell_later hd1 A0
      have CW : Hid (Below w5.heap.size w5 w5.drew) := hd1
      have CC0 := CO.c0
      have CC1 := CO.c1
      have CC2 := CO.c2
      have CF0 := CO.f0
      have CF1 := CO.f1
      have CF2 := CO.f2
      clear hd1 A0 R5
      go_region_held3 (fun w' => w'.cell? ⟨w.heap.size + 1, 0, none⟩ = some (.slice adb m cb))
        (first | exact A | exact cell_set (by dsimp only; omega) (cell_set (by dsimp only; omega) (cell_set (by dsimp only; omega) A)))
        (first
          | (go_at_call 90; refine (CC.out _ CW.out).mono ?_; rintro e wz ⟨g', cap, rfl, hX, hg, hb⟩; have HX : Hid (Ar wz (.slice (some ⟨g', 0, none⟩) (n * m) cap) (n * m) (otX f g m)) := hX; have hg' : w.heap.size + 4 ≤ g' := (by have := CW.out.size; omega); clear hX hg; replace A := cell_later hb A; replace CC0 := cell_later hb CC0; replace CC1 := cell_later hb CC1; replace CC2 := cell_later hb CC2; replace CF0 := frozen_later hb CO.c0 CF0; replace CF1 := frozen_later hb CO.c1 CF1; replace CF2 := frozen_later hb CO.c2 CF2; replace CO := CO.later hb; replace CW := hidD CW hb; clear hb))
      have S0 := ((CO.set0 (.int .i64 (n : Int))).set1 (.int .i64 (m : Int))).set2 (.slice (some ⟨g', 0, none⟩) (n * m) cap)
      have s0 := S0.c0
      have s1 := S0.c1
      have s2 := S0.c2
      have HW6 : Hid (Un d (c + otN f g m n) w wz) := HU5.out.ahead CW.out
      clear A CC0 CC1 CC2 CF0 CF1 CF2 CO CW CC S0 HU5
      go_wp2
      exact bodyPost_ret (v := .tuple #[.agg #[.int .i64 (n : Int), .int .i64 (m : Int), .slice (some ⟨g', 0, none⟩) (n * m) cap], .int .i64 0]) (by simp [results, Tryz.results58, go_sem, s0, s1, s2] <;> rfl) rfl ⟨_, _, _, rfl, rfl, rfl, ⟨fun _ => ((HX.out.far _ (by dsimp only; omega)).far _ (by dsimp only; omega)).far _ (by dsimp only; omega), fun h => absurd rfl h, fun a n' cap' e _ => (by cases e; show w.heap.size ≤ g'; omega)⟩, ((HW6.out.setnew _ _ hd (by dsimp only; omega)).setnew _ _ hd (by dsimp only; omega)).setnew _ _ hd (by dsimp only; omega)⟩
    · rw [decide_eq_false hnm] at CF
      have HERR := ERR 3 (by unfold oE; rw [if_neg (by omega), if_neg (by omega), if_pos (by omega)]) (by decide)
      have S0 := ((R4.set0 (.int .i64 0)).set1 (.int .i64 0)).set2 (.slice none 0 0)
      have s0 := S0.c0
      have s1 := S0.c1
      have s2 := S0.c2
      clear hA hB ha hb hc hf hc' hf' R4 S0 hb3 hb4 hs4 ERR cu HU4
      go_enter Tryz.func58, Tryz.ntmps58
      go_wp2_with fail
      rw [HW4.out]
      refine CK.out.mono ?_
      rintro e w1 ⟨rfl, hz⟩
      subst hz
      clear CK
      go_wp2_with fail
      refine (CF.out _).mono ?_
      rintro e w1 ⟨rfl, hz⟩
      subst hz
      clear CF
      go_wp2
      exact bodyPost_ret (v := .tuple #[.agg #[.int .i64 0, .int .i64 0, .slice none 0 0], .int .i64 3]) (by simp [results, Tryz.results58, go_sem, s0, s1, s2] <;> rfl) rfl (HERR.out _ rfl)

set_option maxRecDepth 100000 in
set_option maxHeartbeats 8000000 in
theorem Outer_nil (va vb : Value) (n m : Nat) (f g : Nat → Int) (w : World) (hn : n ≤ 70000) (hm : m ≤ 70000) (hA : Ar w va n f) (hB : Ar w vb m g) :
    Calls Tryz.prog 58 #[.pointer none, va, vb] w fun e w' => ∃ (r k : Int) (v' : Value), e = .returned (.tuple #[.agg #[.int .i64 r, .int .i64 k, v'], .int .i64 (oE n m)]) ∧ r = cE (oE n m) (n : Int) ∧ k = cE (oE n m) (m : Int) ∧ LL w w' v' (n * m) (otX f g m) (oE n m) ∧ Below w.heap.size w w' := by
  obtain ⟨ada, ca, ba, oa, rfl, x1, x2, -, -⟩ := id hA
  obtain ⟨adb, cb, bb, ob, rfl, y1, y2, -, -⟩ := id hB
  have hmf := hmf_any
  have hb3 := bel3 w (.cells #[.pointer none] 28) (.cells #[.slice adb m cb] 23) (.cells #[.int .i64 0, .int .i64 0, .slice none 0 0] 85)
  have hb4 := bchain hb3 (bel1 _ (.cells #[.slice ada n ca, .slice adb m cb] 23))
  have hs4 : ((((w.alloc (.cells #[.pointer none] 28)).alloc (.cells #[.slice adb m cb] 23)).alloc (.cells #[.int .i64 0, .int .i64 0, .slice none 0 0] 85)).alloc (.cells #[.slice ada n ca, .slice adb m cb] 23)).heap.size = w.heap.size + 4 := by simp
  have cu : ((((w.alloc (.cells #[.pointer none] 28)).alloc (.cells #[.slice adb m cb] 23)).alloc (.cells #[.int .i64 0, .int .i64 0, .slice none 0 0] 85)).alloc (.cells #[.slice ada n ca, .slice adb m cb] 23)).cell? ⟨w.heap.size, 0, none⟩ = some (.pointer none) := cell_later (bel1 _ _) (cell_later (bel1 _ _) (cell_later (bel1 _ _) (cell_new1 w _ _)))
  have cl : ((((w.alloc (.cells #[.pointer none] 28)).alloc (.cells #[.slice adb m cb] 23)).alloc (.cells #[.int .i64 0, .int .i64 0, .slice none 0 0] 85)).alloc (.cells #[.slice ada n ca, .slice adb m cb] 23)).cell? ⟨w.heap.size + 1, 0, none⟩ = some (.slice adb m cb) := by have h := cell_new1 (w.alloc (.cells #[.pointer none] 28)) (.slice adb m cb) 23; rw [World.size_alloc] at h; exact cell_later (bel1 _ _) (cell_later (bel1 _ _) h)
  have cl3 : (((w.alloc (.cells #[.pointer none] 28)).alloc (.cells #[.slice adb m cb] 23)).alloc (.cells #[.int .i64 0, .int .i64 0, .slice none 0 0] 85)).cell? ⟨w.heap.size + 1, 0, none⟩ = some (.slice adb m cb) := by have h := cell_new1 (w.alloc (.cells #[.pointer none] 28)) (.slice adb m cb) 23; rw [World.size_alloc] at h; exact cell_later (bel1 _ _) h
  have R4 : B3 (w.heap.size + 2) (.int .i64 0) (.int .i64 0) (.slice none 0 0) ((((w.alloc (.cells #[.pointer none] 28)).alloc (.cells #[.slice adb m cb] 23)).alloc (.cells #[.int .i64 0, .int .i64 0, .slice none 0 0] 85)).alloc (.cells #[.slice ada n ca, .slice adb m cb] 23)) := by
    have h := (B3.new ((w.alloc (.cells #[.pointer none] 28)).alloc (.cells #[.slice adb m cb] 23)) (.int .i64 0) (.int .i64 0) (.slice none 0 0) 85).later (bel1 _ (.cells #[.slice ada n ca, .slice adb m cb] 23))
    simp only [World.size_alloc] at h
    exact h
  unfold maxLen at *
  have HU4 : Hid (Below w.heap.size w ((((w.alloc (.cells #[.pointer none] 28)).alloc (.cells #[.slice adb m cb] 23)).alloc (.cells #[.int .i64 0, .int .i64 0, .slice none 0 0] 85)).alloc (.cells #[.slice ada n ca, .slice adb m cb] 23))) := hb4
  generalize hW4 : ((((w.alloc (.cells #[.pointer none] 28)).alloc (.cells #[.slice adb m cb] 23)).alloc (.cells #[.int .i64 0, .int .i64 0, .slice none 0 0] 85)).alloc (.cells #[.slice ada n ca, .slice adb m cb] 23)) = W4 at *
  have HW4 : Hid (((((w.alloc (.cells #[.pointer none] 28)).alloc (.cells #[.slice adb m cb] 23)).alloc (.cells #[.int .i64 0, .int .i64 0, .slice none 0 0] 85)).alloc (.cells #[.slice ada n ca, .slice adb m cb] 23)) = W4) := hW4
  clear hW4
  have ERR : ∀ E : Int, oE n m = E → E ≠ 0 → Hid (∀ W : World, W = ((W4.setCell ⟨w.heap.size + 2, 0, none⟩ (.int .i64 0)).setCell ⟨w.heap.size + 2, 1, none⟩ (.int .i64 0)).setCell ⟨w.heap.size + 2, 2, none⟩ (.slice none 0 0) → ∃ (r k : Int) (v' : Value), Ending.returned (.tuple #[.agg #[.int .i64 0, .int .i64 0, .slice none 0 0], .int .i64 E]) = .returned (.tuple #[.agg #[.int .i64 r, .int .i64 k, v'], .int .i64 (oE n m)]) ∧ r = cE (oE n m) (n : Int) ∧ k = cE (oE n m) (m : Int) ∧ LL w W v' (n * m) (otX f g m) (oE n m) ∧ Below w.heap.size w W) := by
    intro E hE hne W hW
    subst hW
    rw [hE]
    refine ⟨0, 0, .slice none 0 0, rfl, by unfold cE; rw [if_neg hne], by unfold cE; rw [if_neg hne], ⟨fun h => absurd h hne, fun _ => ⟨none, 0, rfl⟩, fun a n' cap' e => by cases e⟩, ?_⟩
    exact ((HU4.out.setCell (by dsimp only; omega) _).setCell (by dsimp only; omega) _).setCell (by dsimp only; omega) _
  rcases (show n = 0 ∨ (0 < n ∧ m = 0) ∨ (0 < n ∧ 0 < m ∧ (65536 < n ∨ 65536 < m)) ∨ (0 < n ∧ 0 < m ∧ n ≤ 65536 ∧ m ≤ 65536) by omega) with h0 | ⟨h1, h0⟩ | ⟨h1, h2, h3⟩ | ⟨h1, h2, h3, h4⟩
  · have hp1 : ¬ 0 < n := by omega
    have hp2 : ¬ (0 : Int) < (n : Int) := by omega
    obtain ⟨E, hE⟩ : ∃ E, oE n m = E := ⟨_, rfl⟩
    have hne : ¬ E = 0 := by rw [← hE]; unfold oE; split; decide; rw [if_pos (Or.inl h0)]; decide
    have hck : (if 65536 < n ∨ 65536 < m then (3 : Int) else if false = true then 0 else 40) = E := by rw [← hE]; unfold oE; rw [if_neg (show ¬ false = true by decide), if_pos (Or.inl h0)]
    clear h0
    have CK : Hid (Calls Tryz.prog 32 #[.bool false, .slice (some ⟨(((w.alloc (.cells #[.pointer none] 28)).alloc (.cells #[.slice adb m cb] 23)).alloc (.cells #[.int .i64 0, .int .i64 0, .slice none 0 0] 85)).heap.size, 0, none⟩) 2 2] W4 fun e w' => e = .returned (.int .i64 E) ∧ w' = W4) := by
      have h := check2_any false (((w.alloc (.cells #[.pointer none] 28)).alloc (.cells #[.slice adb m cb] 23)).alloc (.cells #[.int .i64 0, .int .i64 0, .slice none 0 0] 85)) ada adb n ca m cb (by unfold maxLen; omega) (by unfold maxLen; omega)
      rw [hck] at h
      rw [HW4.out] at h
      exact h
    simp only [World.size_alloc] at CK
    have HERR := ERR E hE hne
    have z0 := R4.c0
    have z1 := R4.c1
    have z2 := R4.c2
    have q0 := R4.f0
    have q1 := R4.f1
    have q2 := R4.f2
    have S0 := ((R4.set0 (.int .i64 0)).set1 (.int .i64 0)).set2 (.slice none 0 0)
    have s0 := S0.c0
    have s1 := S0.c1
    have s2 := S0.c2
    clear hA hB R4 S0 hb3 hb4 hs4 ERR cu HU4
    go_enter Tryz.func58, Tryz.ntmps58
    go_wp2_with fail
    rw [HW4.out]
    refine CK.out.mono ?_
    rintro e w1 ⟨rfl, hz⟩
    subst hz
    clear CK
    go_wp2
    exact bodyPost_ret (v := .tuple #[.agg #[.int .i64 0, .int .i64 0, .slice none 0 0], .int .i64 E]) (by simp [results, Tryz.results58, go_sem, s0, s1, s2] <;> rfl) rfl (HERR.out _ rfl)
  · have hp2 : (0 : Int) < (n : Int) := by omega
    have hp3 : ¬ 0 < m := by omega
    have hp4 : ¬ (0 : Int) < (m : Int) := by omega
    obtain ⟨E, hE⟩ : ∃ E, oE n m = E := ⟨_, rfl⟩
    have hne : ¬ E = 0 := by rw [← hE]; unfold oE; split; decide; rw [if_pos (Or.inr h0)]; decide
    have hck : (if 65536 < n ∨ 65536 < m then (3 : Int) else if false = true then 0 else 40) = E := by rw [← hE]; unfold oE; rw [if_neg (show ¬ false = true by decide), if_pos (Or.inr h0)]
    clear h0
    have CK : Hid (Calls Tryz.prog 32 #[.bool false, .slice (some ⟨(((w.alloc (.cells #[.pointer none] 28)).alloc (.cells #[.slice adb m cb] 23)).alloc (.cells #[.int .i64 0, .int .i64 0, .slice none 0 0] 85)).heap.size, 0, none⟩) 2 2] W4 fun e w' => e = .returned (.int .i64 E) ∧ w' = W4) := by
      have h := check2_any false (((w.alloc (.cells #[.pointer none] 28)).alloc (.cells #[.slice adb m cb] 23)).alloc (.cells #[.int .i64 0, .int .i64 0, .slice none 0 0] 85)) ada adb n ca m cb (by unfold maxLen; omega) (by unfold maxLen; omega)
      rw [hck] at h
      rw [HW4.out] at h
      exact h
    simp only [World.size_alloc] at CK
    have HERR := ERR E hE hne
    have z0 := R4.c0
    have z1 := R4.c1
    have z2 := R4.c2
    have q0 := R4.f0
    have q1 := R4.f1
    have q2 := R4.f2
    have S0 := ((R4.set0 (.int .i64 0)).set1 (.int .i64 0)).set2 (.slice none 0 0)
    have s0 := S0.c0
    have s1 := S0.c1
    have s2 := S0.c2
    clear hA hB R4 S0 hb3 hb4 hs4 ERR cu HU4
    go_enter Tryz.func58, Tryz.ntmps58
    go_wp2_with fail
    rw [HW4.out]
    refine CK.out.mono ?_
    rintro e w1 ⟨rfl, hz⟩
    subst hz
    clear CK
    go_wp2
    exact bodyPost_ret (v := .tuple #[.agg #[.int .i64 0, .int .i64 0, .slice none 0 0], .int .i64 E]) (by simp [results, Tryz.results58, go_sem, s0, s1, s2] <;> rfl) rfl (HERR.out _ rfl)
  · have hp2 : (0 : Int) < (n : Int) := by omega
    have hp4 : (0 : Int) < (m : Int) := by omega
    have CK : Hid (Calls Tryz.prog 32 #[.bool true, .slice (some ⟨(((w.alloc (.cells #[.pointer none] 28)).alloc (.cells #[.slice adb m cb] 23)).alloc (.cells #[.int .i64 0, .int .i64 0, .slice none 0 0] 85)).heap.size, 0, none⟩) 2 2] W4 fun e w' => e = .returned (.int .i64 3) ∧ w' = W4) := by
      have h := check2_any true (((w.alloc (.cells #[.pointer none] 28)).alloc (.cells #[.slice adb m cb] 23)).alloc (.cells #[.int .i64 0, .int .i64 0, .slice none 0 0] 85)) ada adb n ca m cb (by unfold maxLen; omega) (by unfold maxLen; omega)
      rw [if_pos h3] at h
      rw [HW4.out] at h
      exact h
    simp only [World.size_alloc] at CK
    have HERR := ERR 3 (by unfold oE; rw [if_pos h3]) (by decide)
    have z0 := R4.c0
    have z1 := R4.c1
    have z2 := R4.c2
    have q0 := R4.f0
    have q1 := R4.f1
    have q2 := R4.f2
    have S0 := ((R4.set0 (.int .i64 0)).set1 (.int .i64 0)).set2 (.slice none 0 0)
    have s0 := S0.c0
    have s1 := S0.c1
    have s2 := S0.c2
    clear hA hB R4 S0 hb3 hb4 hs4 ERR cu HU4
    go_enter Tryz.func58, Tryz.ntmps58
    go_wp2_with fail
    rw [HW4.out]
    refine CK.out.mono ?_
    rintro e w1 ⟨rfl, hz⟩
    subst hz
    clear CK
    go_wp2
    exact bodyPost_ret (v := .tuple #[.agg #[.int .i64 0, .int .i64 0, .slice none 0 0], .int .i64 3]) (by simp [results, Tryz.results58, go_sem, s0, s1, s2] <;> rfl) rfl (HERR.out _ rfl)
  · have hp2 : (0 : Int) < (n : Int) := by omega
    have hp4 : (0 : Int) < (m : Int) := by omega
    have CK : Hid (Calls Tryz.prog 32 #[.bool true, .slice (some ⟨(((w.alloc (.cells #[.pointer none] 28)).alloc (.cells #[.slice adb m cb] 23)).alloc (.cells #[.int .i64 0, .int .i64 0, .slice none 0 0] 85)).heap.size, 0, none⟩) 2 2] W4 fun e w' => e = .returned (.int .i64 0) ∧ w' = W4) := by
      have h := check2_any true (((w.alloc (.cells #[.pointer none] 28)).alloc (.cells #[.slice adb m cb] 23)).alloc (.cells #[.int .i64 0, .int .i64 0, .slice none 0 0] 85)) ada adb n ca m cb (by unfold maxLen; omega) (by unfold maxLen; omega)
      rw [if_neg (by omega), if_pos rfl, HW4.out] at h
      exact h
    simp only [World.size_alloc] at CK
    have CF : Hid (∀ W : World, Calls Tryz.prog 86 #[.int .i64 (n : Int), .int .i64 (m : Int)] W fun e w' => e = .returned (.bool (decide (n * m ≤ 65536))) ∧ w' = W) := fun W => by
      have h := fits_any (n : Int) (m : Int) (by omega) (by omega) (by omega) (by omega) W
      rw [show decide ((n : Int) * (m : Int) ≤ 65536) = decide (n * m ≤ 65536) by rw [← Int.natCast_mul]; exact decide_eq_decide.2 (by omega)] at h
      exact h
    have z0 := R4.c0
    have z1 := R4.c1
    have z2 := R4.c2
    have q0 := R4.f0
    have q1 := R4.f1
    have q2 := R4.f2
    by_cases hnm : n * m ≤ 65536
    · rw [decide_eq_true hnm] at CF
      have hE : oE n m = 0 := by unfold oE; rw [if_neg (by omega), if_neg (by omega), if_neg (by omega)]
      have CE : Hid (Calls Tryz.prog 87 #[.slice ada n ca, .func (.func 88) #[] #[.pointer (some ⟨w.heap.size, 0, none⟩), .pointer (some ⟨w.heap.size + 1, 0, none⟩)]] W4 fun e w' => e = .returned (.slice (some ⟨W4.heap.size, 0, none⟩) n n) ∧ ∃ h : Nat → Nat, (Below W4.heap.size W4 w' ∧ ∀ k, k < n → W4.heap.size < h k ∧ Ar w' (.slice (some ⟨h k, 0, none⟩) m m) m (fun i => clv (rnd (f k * g i) 32))) ∧ Rw W4.heap.size n (fun k => .slice (some ⟨h k, 0, none⟩) m m) w') := by
        refine each_outer (.pointer (some ⟨w.heap.size, 0, none⟩)) (.pointer (some ⟨w.heap.size + 1, 0, none⟩)) (fun (j : Nat) (h : Nat → Nat) (W : World) => Below W4.heap.size W4 W ∧ ∀ k, k < j → W4.heap.size < h k ∧ Ar W (.slice (some ⟨h k, 0, none⟩) m m) m (fun i => clv (rnd (f k * g i) 32))) _ n m f W4 hn (hA.later hb4) ?_ ?_ ?_ ?_ ?_
        · intro h
          exact ⟨Below.refl _ _, fun k hk => absurd hk (Nat.not_lt_zero _)⟩
        · intro j h W W' hS hb'
          exact ⟨bchain hS.1 hb', fun k hk => ⟨(hS.2 k hk).1, (hS.2 k hk).2.later hb'⟩⟩
        · intro j h W a x ha' hS
          exact ⟨hS.1.setCell (by omega) _, fun k hk => ⟨(hS.2 k hk).1, (hS.2 k hk).2.far x (by have := (hS.2 k hk).1; omega)⟩⟩
        · intro j h W hS
          exact (hA.later hb4).later hS.1
        · intro j h W hj hW hS
          obtain ⟨_, _, _, _, _, _, _, _, hx⟩ := id hA
          have hx := (hx j hj).2
          refine (out1_nil (f j) hx.1 hx.2 (.slice adb m cb) m g hm w.heap.size (w.heap.size + 1) W ((hB.later hb4).later hS.1) (cell_later hS.1 cu) (cell_later hS.1 cl)).mono ?_
          rintro e w' ⟨rfl, hX, hU⟩
          refine ⟨_, rfl, ⟨bchain hS.1 hU, ?_⟩, hU.block _ hW, hU.size⟩
          intro k hk
          by_cases e : k = j
          · subst e
            rw [upd_at]
            exact ⟨by omega, hX⟩
          · rw [upd_lt h j _ k (by omega)]
            have hk2 := hS.2 k (by omega)
            exact ⟨hk2.1, hk2.2.later hU⟩
      rw [hs4] at CE
      rw [hE]
      skip
      clear hA hB ERR cu hE hb3
      go_enter Tryz.func58, Tryz.ntmps58
      go_wp2_with fail
      rw [HW4.out]
      refine CK.out.mono ?_
      rintro e w1 ⟨rfl, hz⟩
      subst hz
      clear CK
      go_wp2_with fail
      refine (CF.out _).mono ?_
      rintro e w1 ⟨rfl, hz⟩
      subst hz
      clear CF
      go_wp2_with fail
      refine CE.out.mono ?_
      rintro e w5 ⟨rfl, h, ⟨hU5, hrow⟩, hR5⟩
      rw [← hs4] at hU5
      have HU5 : Hid (Below w.heap.size w w5) := bchain HU4.out hU5
      have A0 : w5.cell? ⟨w.heap.size + 1, 0, none⟩ = some (.slice adb m cb) := cell_later hU5 cl
      have R5 := R4.block (hU5.block (w.heap.size + 2) (by rw [hs4]; omega))
      have hs5 : w.heap.size + 4 ≤ w5.heap.size := by have := hU5.size; rw [hs4] at this; exact this
      have CC : Hid (∀ W : World, Below w5.heap.size w5 W → Calls Tryz.prog 90 #[.slice (some ⟨w.heap.size + 4, 0, none⟩) n n] W fun e w' => ∃ g' cap, e = .returned (.slice (some ⟨g', 0, none⟩) (n * m) cap) ∧ Ar w' (.slice (some ⟨g', 0, none⟩) (n * m) cap) (n * m) (otX f g m) ∧ W.heap.size ≤ g' ∧ Below W.heap.size W w') := fun W hW => concat_any (w.heap.size + 4) n m h (fun k i => clv (rnd (f k * g i) 32)) h1 h2 hnm W (hR5.later hW) (fun k hk => (hrow k hk).2.later hW)
      clear CE hU5 hrow hR5 R4 z0 z1 z2 q0 q1 q2 cl cl3 HU4 hb4 hs4
      go_upto_region 7 with fail
      have hd1 : Below w5.heap.size w5 w5.drew := (Below.refl _ _).drew
      have CO := R5.later hd1
      have A := cell_later hd1 A0
      have CW : Hid (Below w5.heap.size w5 w5.drew) := hd1
      have CC0 := CO.c0
      have CC1 := CO.c1
      have CC2 := CO.c2
      have CF0 := CO.f0
      have CF1 := CO.f1
      have CF2 := CO.f2
      clear hd1 A0 R5
      go_region_held3 (fun w' => w'.cell? ⟨w.heap.size + 1, 0, none⟩ = some (.slice adb m cb))
        (first | exact A | exact cell_set (by dsimp only; omega) (cell_set (by dsimp only; omega) (cell_set (by dsimp only; omega) A)))
        (first
          | (go_at_call 90; refine (CC.out _ CW.out).mono ?_; rintro e wz ⟨g', cap, rfl, hX, hg, hb⟩; have HX : Hid (Ar wz (.slice (some ⟨g', 0, none⟩) (n * m) cap) (n * m) (otX f g m)) := hX; have hg' : w.heap.size + 4 ≤ g' := (by have := CW.out.size; omega); clear hX hg; replace A := cell_later hb A; replace CC0 := cell_later hb CC0; replace CC1 := cell_later hb CC1; replace CC2 := cell_later hb CC2; replace CF0 := frozen_later hb CO.c0 CF0; replace CF1 := frozen_later hb CO.c1 CF1; replace CF2 := frozen_later hb CO.c2 CF2; replace CO := CO.later hb; replace CW := hidD CW hb; clear hb))
      have S0 := ((CO.set0 (.int .i64 (n : Int))).set1 (.int .i64 (m : Int))).set2 (.slice (some ⟨g', 0, none⟩) (n * m) cap)
      have s0 := S0.c0
      have s1 := S0.c1
      have s2 := S0.c2
      have HW6 : Hid (Below w.heap.size w wz) := bchain HU5.out CW.out
      clear A CC0 CC1 CC2 CF0 CF1 CF2 CO CW CC S0 HU5
      go_wp2
      exact bodyPost_ret (v := .tuple #[.agg #[.int .i64 (n : Int), .int .i64 (m : Int), .slice (some ⟨g', 0, none⟩) (n * m) cap], .int .i64 0]) (by simp [results, Tryz.results58, go_sem, s0, s1, s2] <;> rfl) rfl ⟨_, _, _, rfl, rfl, rfl, ⟨fun _ => ((HX.out.far _ (by dsimp only; omega)).far _ (by dsimp only; omega)).far _ (by dsimp only; omega), fun h => absurd rfl h, fun a n' cap' e _ => (by cases e; show w.heap.size ≤ g'; omega)⟩, ((HW6.out.setCell (by dsimp only; omega) _).setCell (by dsimp only; omega) _).setCell (by dsimp only; omega) _⟩
    · rw [decide_eq_false hnm] at CF
      have HERR := ERR 3 (by unfold oE; rw [if_neg (by omega), if_neg (by omega), if_pos (by omega)]) (by decide)
      have S0 := ((R4.set0 (.int .i64 0)).set1 (.int .i64 0)).set2 (.slice none 0 0)
      have s0 := S0.c0
      have s1 := S0.c1
      have s2 := S0.c2
      clear hA hB R4 S0 hb3 hb4 hs4 ERR cu HU4
      go_enter Tryz.func58, Tryz.ntmps58
      go_wp2_with fail
      rw [HW4.out]
      refine CK.out.mono ?_
      rintro e w1 ⟨rfl, hz⟩
      subst hz
      clear CK
      go_wp2_with fail
      refine (CF.out _).mono ?_
      rintro e w1 ⟨rfl, hz⟩
      subst hz
      clear CF
      go_wp2
      exact bodyPost_ret (v := .tuple #[.agg #[.int .i64 0, .int .i64 0, .slice none 0 0], .int .i64 3]) (by simp [results, Tryz.results58, go_sem, s0, s1, s2] <;> rfl) rfl (HERR.out _ rfl)

end Go.Proofs.YtcaficenocblfaaGreatDoor
