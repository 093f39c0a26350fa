/-
  The contracts of vec's Dot, Sum, Mean and Norm.
-/
import Derived.Test.YtldnnjcfihjkdaaDoorBK
import Derived.Test.YtldnnjcfihjkdaaDoorPWalkA
import Derived.Test.YtldnnjcfihjkdaaDoorPWalkB
set_option linter.unusedVariables false
set_option linter.unusedSimpArgs false
namespace Go.Proofs.YtldnnjcfihjkdaaDoor
open Go.RowKit


set_option maxHeartbeats 2000000 in
theorem Dot_un (va vb : Value) (n m : Nat) (f g : Nat → Int) (d : Nat) (c : Int) (w : World) (hn : n ≤ 70000) (hm : m ≤ 70000) (c0 : 0 ≤ c) (c1 : c ≤ 900000000) (hV : VT w) (hA : Ar w va n f) (hB : Ar w vb m g) (ha : Nb va d) (hb : Nb vb d) (hU : Uc w d c) :
    Calls Tryd.prog 11 #[.pointer (some ⟨d, 0, none⟩), va, vb] w fun e w' => e = .returned (.tuple #[.int .i64 (dX n m f g), .int .i64 (dE n m)]) ∧ Un d (c + bi (dO n m f g)) w w' := by
  obtain ⟨ada, ca, ba, oa, rfl, k1, k2, -, -⟩ := id hA
  obtain ⟨adb, cb, bb, ob, rfl, q1, q2, -, -⟩ := id hB
  have hb0 := bel1 w (.cells #[.slice ada n ca, .slice adb m cb] 22)
  obtain ⟨hc, hf⟩ := hU
  have hc' := cell_later hb0 hc
  have hf' := frozen_later hb0 hc hf
  unfold maxLen at *
  rcases (show (n = m ∧ n ≤ 65536) ∨ (n = m ∧ 65536 < n) ∨ n ≠ m by omega) with ⟨hnm, hl⟩ | ⟨hnm, hl⟩ | hnm
  · subst hnm
    have hE : dE n n = 0 := by unfold dE; rw [if_neg (by omega), if_pos rfl]
    have hs1 : ¬ (65536 : Int) < (n : Int) := by omega
    have CK : Hid (Calls Tryd.prog 46 #[.bool true, .slice (some ⟨w.heap.size, 0, none⟩) 2 2] (w.alloc (.cells #[.slice ada n ca, .slice adb n cb] 22)) fun e w' => e = .returned (.int .i64 0) ∧ w' = w.alloc (.cells #[.slice ada n ca, .slice adb n cb] 22)) := by
      have h := check2_any true w ada adb n ca n cb (by unfold maxLen; omega) (by unfold maxLen; omega)
      rw [if_neg (by omega), if_pos rfl] at h
      exact h
    have CD : Hid (Calls Tryd.prog 47 #[.pointer (some ⟨d, 0, none⟩), .slice ada n ca, .slice adb n cb] (w.alloc (.cells #[.slice ada n ca, .slice adb n cb] 22)) fun e w' => e = .returned (.int .i64 (clv (rr (dotV f g n) 32))) ∧ Un d (c + bi (ovv (rr (dotV f g n) 32))) (w.alloc (.cells #[.slice ada n ca, .slice adb n cb] 22)) w') := vdot_un _ _ n f g hn d c c0 (by omega) _ (VT.later hV hb0) (hA.later hb0) (hB.later hb0) hc' hf'
    rw [show dX n n f g = clv (rr (dotV f g n) 32) by unfold dX; rw [if_pos hE], show dO n n f g = ovv (rr (dotV f g n) 32) by unfold dO; rw [if_pos hE], hE]
    generalize clv (rr (dotV f g n) 32) = x at *
    generalize bi (ovv (rr (dotV f g n) 32)) = z at *
    clear hA hB hV hc hf ha hb hE
    go_enter Tryd.func11, Tryd.ntmps11
    go_wp2_with fail
    refine CK.out.mono ?_
    rintro e w1 ⟨rfl, hz⟩
    subst hz
    clear CK
    go_wp2_with fail
    refine CD.out.mono ?_
    rintro e w3 ⟨rfl, hU⟩
    have hX := Un.after hb0 hU
    clear hU hc' hf' CD hb0
    go_wp2
    go_ret2
    exact ⟨rfl, hX⟩
  · subst hnm
    have hE : dE n n = 3 := by unfold dE; rw [if_pos (by omega)]
    have CK : Hid (Calls Tryd.prog 46 #[.bool true, .slice (some ⟨w.heap.size, 0, none⟩) 2 2] (w.alloc (.cells #[.slice ada n ca, .slice adb n cb] 22)) fun e w' => e = .returned (.int .i64 3) ∧ w' = w.alloc (.cells #[.slice ada n ca, .slice adb n cb] 22)) := by
      have h := check2_any true w ada adb n ca n cb (by unfold maxLen; omega) (by unfold maxLen; omega)
      rw [if_pos (by omega)] at h
      exact h
    rw [show dX n n f g = 0 by unfold dX; rw [if_neg (by rw [hE]; decide)], show dO n n f g = false by unfold dO; rw [if_neg (by rw [hE]; decide)], hE]
    rw [show c + bi false = c by unfold bi; simp]
    have hX := Un.after hb0 (Un.same hc' hf')
    clear hA hB hV hc hf ha hb hc' hf' hb0 hE
    go_enter Tryd.func11, Tryd.ntmps11
    go_wp2_with fail
    refine CK.out.mono ?_
    rintro e w1 ⟨rfl, hz⟩
    subst hz
    clear CK
    go_wp2
    go_ret2
    exact ⟨rfl, hX⟩
  · have hnI : ((n : Int) == (m : Int)) = false := beq_eq_false_iff_ne.2 (by omega)
    obtain ⟨E, hE⟩ : ∃ E, dE n m = E := ⟨_, rfl⟩
    have hck : (if 65536 < n ∨ 65536 < m then (3 : Int) else if false = true then 0 else 40) = E := by rw [← hE]; unfold dE; rw [if_neg (show ¬ false = true by decide), if_neg hnm]
    have hne : ¬ E = 0 := by rw [← hE]; unfold dE; split <;> simp [hnm]
    have CK : Hid (Calls Tryd.prog 46 #[.bool false, .slice (some ⟨w.heap.size, 0, none⟩) 2 2] (w.alloc (.cells #[.slice ada n ca, .slice adb m cb] 22)) fun e w' => e = .returned (.int .i64 E) ∧ w' = w.alloc (.cells #[.slice ada n ca, .slice adb m cb] 22)) := by
      have h := check2_any false w ada adb n ca m cb (by unfold maxLen; omega) (by unfold maxLen; omega)
      rw [hck] at h
      exact h
    rw [show dX n m f g = 0 by unfold dX; rw [if_neg (by rw [hE]; exact hne)], show dO n m f g = false by unfold dO; rw [if_neg (by rw [hE]; exact hne)], hE]
    rw [show c + bi false = c by unfold bi; simp]
    have hX := Un.after hb0 (Un.same hc' hf')
    clear hA hB hV hc hf ha hb hc' hf' hb0 hE
    go_enter Tryd.func11, Tryd.ntmps11
    go_wp2_with fail
    refine CK.out.mono ?_
    rintro e w1 ⟨rfl, hz⟩
    subst hz
    clear CK
    go_wp2
    go_ret2
    exact ⟨rfl, hX⟩

set_option maxHeartbeats 2000000 in
theorem Sum_un (va : Value) (n : Nat) (f : Nat → Int) (d : Nat) (c : Int) (w : World) (hn : n ≤ 70000) (c0 : 0 ≤ c) (c1 : c ≤ 900000000) (hV : VT w) (hA : Ar w va n f) (ha : Nb va d) (hU : Uc w d c) :
    Calls Tryd.prog 16 #[.pointer (some ⟨d, 0, none⟩), va] w fun e w' => e = .returned (.tuple #[.int .i64 (sX n f), .int .i64 (sE n)]) ∧ Un d (c + bi (sO n f)) w w' := by
  obtain ⟨ada, ca, ba, oa, rfl, k1, k2, -, -⟩ := id hA
  have hb0 := bel1 w (.cells #[.slice ada n ca] 22)
  obtain ⟨hc, hf⟩ := hU
  have hc' := cell_later hb0 hc
  have hf' := frozen_later hb0 hc hf
  unfold maxLen at *
  by_cases hl : n ≤ 65536
  · have hs1 : ¬ (65536 : Int) < (n : Int) := by omega
    have hE : sE n = 0 := by unfold sE; rw [if_neg (by omega)]
    have CK : Hid (Calls Tryd.prog 46 #[.bool true, .slice (some ⟨w.heap.size, 0, none⟩) 1 1] (w.alloc (.cells #[.slice ada n ca] 22)) fun e w' => e = .returned (.int .i64 0) ∧ w' = w.alloc (.cells #[.slice ada n ca] 22)) := by
      have h := check1_any true w ada n ca (by unfold maxLen; omega)
      rw [if_neg (by omega), if_pos rfl] at h
      exact h
    have CT : Hid (Calls Tryd.prog 52 #[.slice ada n ca] (w.alloc (.cells #[.slice ada n ca] 22)) fun e w' => e = .returned (.agg #[.int .i64 (hi (sumV f n)), .int .u64 (lo (sumV f n))]) ∧ Below (w.alloc (.cells #[.slice ada n ca] 22)).heap.size (w.alloc (.cells #[.slice ada n ca] 22)) w') := total_any _ n f _ (hA.later hb0)
    obtain ⟨v0, v1⟩ := sumV_rng _ n f (by omega) w hA
    have CD : Hid (∀ W : World, W.cell? ⟨d, 0, none⟩ = some (.int .i64 c) → W.frozen? ⟨d, 0, none⟩ = false → Calls Tryd.prog 51 #[.pointer (some ⟨d, 0, none⟩), .agg #[.int .i64 (hi (sumV f n)), .int .u64 (lo (sumV f n))]] W fun e w' => e = .returned (.int .i64 (clv (sumV f n))) ∧ Un d (c + bi (ovv (sumV f n))) W w') := fun W x y => vhold_un (sumV f n) v0 v1 d c c0 (by omega) W x y
    clear v0 v1
    rw [show sX n f = clv (sumV f n) by unfold sX; rw [if_pos hE], show sO n f = ovv (sumV f n) by unfold sO; rw [if_pos hE], hE]
    generalize clv (sumV f n) = x at *
    generalize bi (ovv (sumV f n)) = z at *
    generalize hi (sumV f n) = sh at *
    generalize lo (sumV f n) = sl at *
    clear hA hV hc hf ha hE
    go_enter Tryd.func16, Tryd.ntmps16
    go_wp2_with fail
    refine CK.out.mono ?_
    rintro e w1 ⟨rfl, hz⟩
    subst hz
    clear CK
    go_wp2_with fail
    refine CT.out.mono ?_
    rintro e w2 ⟨rfl, hb2⟩
    have W2 := bchain hb0 hb2
    clear CT
    have x2 := cell_later hb2 hc'
    have y2 := frozen_later hb2 hc' hf'
    clear hc' hf' hb2 hb0
    go_wp2_with fail
    refine (CD.out _ x2 y2).mono ?_
    rintro e w3 ⟨rfl, hU⟩
    have hX := Un.after W2 hU
    clear hU x2 y2 CD W2
    go_wp2
    go_ret2
    exact ⟨rfl, hX⟩
  · have hE : sE n = 3 := by unfold sE; rw [if_pos (by omega)]
    have CK : Hid (Calls Tryd.prog 46 #[.bool true, .slice (some ⟨w.heap.size, 0, none⟩) 1 1] (w.alloc (.cells #[.slice ada n ca] 22)) fun e w' => e = .returned (.int .i64 3) ∧ w' = w.alloc (.cells #[.slice ada n ca] 22)) := by
      have h := check1_any true w ada n ca (by unfold maxLen; omega)
      rw [if_pos (by omega)] at h
      exact h
    rw [show sX n f = 0 by unfold sX; rw [if_neg (by rw [hE]; decide)], show sO n f = false by unfold sO; rw [if_neg (by rw [hE]; decide)], hE]
    rw [show c + bi false = c by unfold bi; simp]
    have hX := Un.after hb0 (Un.same hc' hf')
    clear hA hV hc hf ha hc' hf' hb0 hE
    go_enter Tryd.func16, Tryd.ntmps16
    go_wp2_with fail
    refine CK.out.mono ?_
    rintro e w1 ⟨rfl, hz⟩
    subst hz
    clear CK
    go_wp2
    go_ret2
    exact ⟨rfl, hX⟩

set_option maxHeartbeats 2000000 in
theorem Mean_un (va : Value) (n : Nat) (f : Nat → Int) (d : Nat) (c : Int) (w : World) (hn : n ≤ 70000) (c0 : 0 ≤ c) (c1 : c ≤ 900000000) (hV : VT w) (hA : Ar w va n f) (ha : Nb va d) (hU : Uc w d c) :
    Calls Tryd.prog 18 #[.pointer (some ⟨d, 0, none⟩), va] w fun e w' => e = .returned (.tuple #[.int .i64 (mX n f), .int .i64 (mE n)]) ∧ Un d (c + bi (mO n f)) w w' := by
  obtain ⟨ada, ca, ba, oa, rfl, k1, k2, -, -⟩ := id hA
  have hb0 := bel1 w (.cells #[.slice ada n ca] 22)
  obtain ⟨hc, hf⟩ := hU
  have hc' := cell_later hb0 hc
  have hf' := frozen_later hb0 hc hf
  unfold maxLen at *
  rcases (show (0 < n ∧ n ≤ 65536) ∨ 65536 < n ∨ n = 0 by omega) with ⟨h0, hl⟩ | hl | h0
  · have hs1 : ¬ (65536 : Int) < (n : Int) := by omega
    have hE : mE n = 0 := by unfold mE; rw [if_neg (by omega), if_neg (by omega)]
    have hp : (0 : Int) < (n : Int) := by omega
    have CK : Hid (Calls Tryd.prog 46 #[.bool true, .slice (some ⟨w.heap.size, 0, none⟩) 1 1] (w.alloc (.cells #[.slice ada n ca] 22)) fun e w' => e = .returned (.int .i64 0) ∧ w' = w.alloc (.cells #[.slice ada n ca] 22)) := by
      have h := check1_any true w ada n ca (by unfold maxLen; omega)
      rw [if_neg (by omega), if_pos rfl] at h
      exact h
    have CT : Hid (Calls Tryd.prog 52 #[.slice ada n ca] (w.alloc (.cells #[.slice ada n ca] 22)) fun e w' => e = .returned (.agg #[.int .i64 (hi (sumV f n)), .int .u64 (lo (sumV f n))]) ∧ Below (w.alloc (.cells #[.slice ada n ca] 22)).heap.size (w.alloc (.cells #[.slice ada n ca] 22)) w') := total_any _ n f _ (hA.later hb0)
    obtain ⟨v0, v1⟩ := sumV_rng _ n f (by omega) w hA
    obtain ⟨g0, g1⟩ := sumV_small _ n f w hA
    obtain ⟨u0, u1⟩ := quo_in (sumV f n) (n : Int) (by omega) ((n : Int) * 9223372036854775808) (by omega) g0 g1
    have CD : Hid (∀ W : World, W.cell? ⟨d, 0, none⟩ = some (.int .i64 c) → W.frozen? ⟨d, 0, none⟩ = false → Calls Tryd.prog 54 #[.pointer (some ⟨d, 0, none⟩), .agg #[.int .i64 (hi (sumV f n)), .int .u64 (lo (sumV f n))], .int .i64 (n : Int)] W fun e w' => e = .returned (.int .i64 (clv (quo (sumV f n) (n : Int)))) ∧ Un d (c + bi (ovv (quo (sumV f n) (n : Int)))) W w') := fun W x y => vmean_un (sumV f n) (n : Int) v0 v1 (by omega) (by omega) (by omega) (by omega) d c c0 (by omega) W x y
    clear v0 v1 g0 g1 u0 u1
    rw [show mX n f = clv (quo (sumV f n) (n : Int)) by unfold mX; rw [if_pos hE], show mO n f = ovv (quo (sumV f n) (n : Int)) by unfold mO; rw [if_pos hE], hE]
    generalize clv (quo (sumV f n) (n : Int)) = x at *
    generalize bi (ovv (quo (sumV f n) (n : Int))) = z at *
    generalize hi (sumV f n) = sh at *
    generalize lo (sumV f n) = sl at *
    clear hA hV hc hf ha hE
    go_enter Tryd.func18, Tryd.ntmps18
    go_wp2_with fail
    refine CK.out.mono ?_
    rintro e w1 ⟨rfl, hz⟩
    subst hz
    clear CK
    go_wp2_with fail
    refine CT.out.mono ?_
    rintro e w2 ⟨rfl, hb2⟩
    have W2 := bchain hb0 hb2
    clear CT
    have x2 := cell_later hb2 hc'
    have y2 := frozen_later hb2 hc' hf'
    clear hc' hf' hb2 hb0
    go_wp2_with fail
    refine (CD.out _ x2 y2).mono ?_
    rintro e w3 ⟨rfl, hU⟩
    have hX := Un.after W2 hU
    clear hU x2 y2 CD W2
    go_wp2
    go_ret2
    exact ⟨rfl, hX⟩
  · have hE : mE n = 3 := by unfold mE; rw [if_pos (by omega)]
    have hp : 0 < n := by omega
    have CK : Hid (Calls Tryd.prog 46 #[.bool true, .slice (some ⟨w.heap.size, 0, none⟩) 1 1] (w.alloc (.cells #[.slice ada n ca] 22)) fun e w' => e = .returned (.int .i64 3) ∧ w' = w.alloc (.cells #[.slice ada n ca] 22)) := by
      have h := check1_any true w ada n ca (by unfold maxLen; omega)
      rw [if_pos (by omega)] at h
      exact h
    rw [show mX n f = 0 by unfold mX; rw [if_neg (by rw [hE]; decide)], show mO n f = false by unfold mO; rw [if_neg (by rw [hE]; decide)], hE]
    rw [show c + bi false = c by unfold bi; simp]
    have hX := Un.after hb0 (Un.same hc' hf')
    clear hA hV hc hf ha hc' hf' hb0 hE
    go_enter Tryd.func18, Tryd.ntmps18
    go_wp2_with fail
    refine CK.out.mono ?_
    rintro e w1 ⟨rfl, hz⟩
    subst hz
    clear CK
    go_wp2
    go_ret2
    exact ⟨rfl, hX⟩
  · have hE : mE n = 40 := by unfold mE; rw [if_neg (by omega), if_pos h0]
    have hp : ¬ 0 < n := by omega
    have CK : Hid (Calls Tryd.prog 46 #[.bool false, .slice (some ⟨w.heap.size, 0, none⟩) 1 1] (w.alloc (.cells #[.slice ada n ca] 22)) fun e w' => e = .returned (.int .i64 40) ∧ w' = w.alloc (.cells #[.slice ada n ca] 22)) := by
      have h := check1_any false w ada n ca (by unfold maxLen; omega)
      rw [if_neg (by omega), if_neg (by decide)] at h
      exact h
    rw [show mX n f = 0 by unfold mX; rw [if_neg (by rw [hE]; decide)], show mO n f = false by unfold mO; rw [if_neg (by rw [hE]; decide)], hE]
    rw [show c + bi false = c by unfold bi; simp]
    have hX := Un.after hb0 (Un.same hc' hf')
    clear hA hV hc hf ha hc' hf' hb0 hE h0
    go_enter Tryd.func18, Tryd.ntmps18
    go_wp2_with fail
    refine CK.out.mono ?_
    rintro e w1 ⟨rfl, hz⟩
    subst hz
    clear CK
    go_wp2
    go_ret2
    exact ⟨rfl, hX⟩

set_option maxHeartbeats 2000000 in
theorem Norm_un (va : Value) (n : Nat) (f : Nat → Int) (d : Nat) (c : Int) (w : World) (hn : n ≤ 70000) (c0 : 0 ≤ c) (c1 : c ≤ 900000000) (hV : VT w) (hA : Ar w va n f) (ha : Nb va d) (hU : Uc w d c) :
    Calls Tryd.prog 40 #[.pointer (some ⟨d, 0, none⟩), va] w fun e w' => e = .returned (.tuple #[.int .i64 (nX n f), .int .i64 (sE n)]) ∧ Un d (c + bi (nO n f)) w w' := by
  obtain ⟨ada, ca, ba, oa, rfl, k1, k2, -, -⟩ := id hA
  have hb0 := bel1 w (.cells #[.slice ada n ca] 22)
  obtain ⟨hc, hf⟩ := hU
  have hc' := cell_later hb0 hc
  have hf' := frozen_later hb0 hc hf
  unfold maxLen at *
  by_cases hl : n ≤ 65536
  · have hs1 : ¬ (65536 : Int) < (n : Int) := by omega
    have hE : sE n = 0 := by unfold sE; rw [if_neg (by omega)]
    have CK : Hid (Calls Tryd.prog 46 #[.bool true, .slice (some ⟨w.heap.size, 0, none⟩) 1 1] (w.alloc (.cells #[.slice ada n ca] 22)) fun e w' => e = .returned (.int .i64 0) ∧ w' = w.alloc (.cells #[.slice ada n ca] 22)) := by
      have h := check1_any true w ada n ca (by unfold maxLen; omega)
      rw [if_neg (by omega), if_pos rfl] at h
      exact h
    have CD : Hid (Calls Tryd.prog 78 #[.pointer (some ⟨d, 0, none⟩), .slice ada n ca] (w.alloc (.cells #[.slice ada n ca] 22)) fun e w' => e = .returned (.int .i64 (rtX (dotV f f n))) ∧ Un d (c + bi (rtO (dotV f f n))) (w.alloc (.cells #[.slice ada n ca] 22)) w') := vnorm_un _ n f hn d c c0 (by omega) _ (hA.later hb0) hc' hf'
    rw [show nX n f = rtX (dotV f f n) by unfold nX; rw [if_pos hE], show nO n f = rtO (dotV f f n) by unfold nO; rw [if_pos hE], hE]
    generalize rtX (dotV f f n) = x at *
    generalize bi (rtO (dotV f f n)) = z at *
    clear hA hV hc hf ha hE
    go_enter Tryd.func40, Tryd.ntmps40
    go_wp2_with fail
    refine CK.out.mono ?_
    rintro e w1 ⟨rfl, hz⟩
    subst hz
    clear CK
    go_wp2_with fail
    refine CD.out.mono ?_
    rintro e w3 ⟨rfl, hU⟩
    have hX := Un.after hb0 hU
    clear hU hc' hf' CD hb0
    go_wp2
    go_ret2
    exact ⟨rfl, hX⟩
  · have hE : sE n = 3 := by unfold sE; rw [if_pos (by omega)]
    have CK : Hid (Calls Tryd.prog 46 #[.bool true, .slice (some ⟨w.heap.size, 0, none⟩) 1 1] (w.alloc (.cells #[.slice ada n ca] 22)) fun e w' => e = .returned (.int .i64 3) ∧ w' = w.alloc (.cells #[.slice ada n ca] 22)) := by
      have h := check1_any true w ada n ca (by unfold maxLen; omega)
      rw [if_pos (by omega)] at h
      exact h
    rw [show nX n f = 0 by unfold nX; rw [if_neg (by rw [hE]; decide)], show nO n f = false by unfold nO; rw [if_neg (by rw [hE]; decide)], hE]
    rw [show c + bi false = c by unfold bi; simp]
    have hX := Un.after hb0 (Un.same hc' hf')
    clear hA hV hc hf ha hc' hf' hb0 hE
    go_enter Tryd.func40, Tryd.ntmps40
    go_wp2_with fail
    refine CK.out.mono ?_
    rintro e w1 ⟨rfl, hz⟩
    subst hz
    clear CK
    go_wp2
    go_ret2
    exact ⟨rfl, hX⟩

set_option maxHeartbeats 2000000 in
theorem Dot_nil (va vb : Value) (n m : Nat) (f g : Nat → Int) (w : World) (hn : n ≤ 70000) (hm : m ≤ 70000) (hV : VT w) (hA : Ar w va n f) (hB : Ar w vb m g) :
    Calls Tryd.prog 11 #[.pointer none, va, vb] w fun e w' => e = .returned (.tuple #[.int .i64 (dX n m f g), .int .i64 (dE n m)]) ∧ Below w.heap.size w w' := by
  obtain ⟨ada, ca, ba, oa, rfl, k1, k2, -, -⟩ := id hA
  obtain ⟨adb, cb, bb, ob, rfl, q1, q2, -, -⟩ := id hB
  have hb0 := bel1 w (.cells #[.slice ada n ca, .slice adb m cb] 22)
  unfold maxLen at *
  rcases (show (n = m ∧ n ≤ 65536) ∨ (n = m ∧ 65536 < n) ∨ n ≠ m by omega) with ⟨hnm, hl⟩ | ⟨hnm, hl⟩ | hnm
  · subst hnm
    have hE : dE n n = 0 := by unfold dE; rw [if_neg (by omega), if_pos rfl]
    have hs1 : ¬ (65536 : Int) < (n : Int) := by omega
    have CK : Hid (Calls Tryd.prog 46 #[.bool true, .slice (some ⟨w.heap.size, 0, none⟩) 2 2] (w.alloc (.cells #[.slice ada n ca, .slice adb n cb] 22)) fun e w' => e = .returned (.int .i64 0) ∧ w' = w.alloc (.cells #[.slice ada n ca, .slice adb n cb] 22)) := by
      have h := check2_any true w ada adb n ca n cb (by unfold maxLen; omega) (by unfold maxLen; omega)
      rw [if_neg (by omega), if_pos rfl] at h
      exact h
    have CD : Hid (Calls Tryd.prog 47 #[.pointer none, .slice ada n ca, .slice adb n cb] (w.alloc (.cells #[.slice ada n ca, .slice adb n cb] 22)) fun e w' => e = .returned (.int .i64 (clv (rr (dotV f g n) 32))) ∧ Below (w.alloc (.cells #[.slice ada n ca, .slice adb n cb] 22)).heap.size (w.alloc (.cells #[.slice ada n ca, .slice adb n cb] 22)) w') := vdot_nil _ _ n f g hn _ (VT.later hV hb0) (hA.later hb0) (hB.later hb0)
    rw [show dX n n f g = clv (rr (dotV f g n) 32) by unfold dX; rw [if_pos hE], hE]
    generalize clv (rr (dotV f g n) 32) = x at *
    clear hA hB hV hE
    go_enter Tryd.func11, Tryd.ntmps11
    go_wp2_with fail
    refine CK.out.mono ?_
    rintro e w1 ⟨rfl, hz⟩
    subst hz
    clear CK
    go_wp2_with fail
    refine CD.out.mono ?_
    rintro e w3 ⟨rfl, hb3⟩
    have hX := bchain hb0 hb3
    clear hb3 CD hb0
    go_wp2
    go_ret2
    exact ⟨rfl, hX⟩
  · subst hnm
    have hE : dE n n = 3 := by unfold dE; rw [if_pos (by omega)]
    have CK : Hid (Calls Tryd.prog 46 #[.bool true, .slice (some ⟨w.heap.size, 0, none⟩) 2 2] (w.alloc (.cells #[.slice ada n ca, .slice adb n cb] 22)) fun e w' => e = .returned (.int .i64 3) ∧ w' = w.alloc (.cells #[.slice ada n ca, .slice adb n cb] 22)) := by
      have h := check2_any true w ada adb n ca n cb (by unfold maxLen; omega) (by unfold maxLen; omega)
      rw [if_pos (by omega)] at h
      exact h
    rw [show dX n n f g = 0 by unfold dX; rw [if_neg (by rw [hE]; decide)], hE]
    clear hA hB hV hE
    go_enter Tryd.func11, Tryd.ntmps11
    go_wp2_with fail
    refine CK.out.mono ?_
    rintro e w1 ⟨rfl, hz⟩
    subst hz
    clear CK
    go_wp2
    go_ret2
    exact ⟨rfl, hb0⟩
  · have hnI : ((n : Int) == (m : Int)) = false := beq_eq_false_iff_ne.2 (by omega)
    obtain ⟨E, hE⟩ : ∃ E, dE n m = E := ⟨_, rfl⟩
    have hck : (if 65536 < n ∨ 65536 < m then (3 : Int) else if false = true then 0 else 40) = E := by rw [← hE]; unfold dE; rw [if_neg (show ¬ false = true by decide), if_neg hnm]
    have hne : ¬ E = 0 := by rw [← hE]; unfold dE; split <;> simp [hnm]
    have CK : Hid (Calls Tryd.prog 46 #[.bool false, .slice (some ⟨w.heap.size, 0, none⟩) 2 2] (w.alloc (.cells #[.slice ada n ca, .slice adb m cb] 22)) fun e w' => e = .returned (.int .i64 E) ∧ w' = w.alloc (.cells #[.slice ada n ca, .slice adb m cb] 22)) := by
      have h := check2_any false w ada adb n ca m cb (by unfold maxLen; omega) (by unfold maxLen; omega)
      rw [hck] at h
      exact h
    rw [show dX n m f g = 0 by unfold dX; rw [if_neg (by rw [hE]; exact hne)], hE]
    clear hA hB hV hE
    go_enter Tryd.func11, Tryd.ntmps11
    go_wp2_with fail
    refine CK.out.mono ?_
    rintro e w1 ⟨rfl, hz⟩
    subst hz
    clear CK
    go_wp2
    go_ret2
    exact ⟨rfl, hb0⟩

set_option maxHeartbeats 2000000 in
theorem Sum_nil (va : Value) (n : Nat) (f : Nat → Int) (w : World) (hn : n ≤ 70000) (hV : VT w) (hA : Ar w va n f) :
    Calls Tryd.prog 16 #[.pointer none, va] w fun e w' => e = .returned (.tuple #[.int .i64 (sX n f), .int .i64 (sE n)]) ∧ Below w.heap.size w w' := by
  obtain ⟨ada, ca, ba, oa, rfl, k1, k2, -, -⟩ := id hA
  have hb0 := bel1 w (.cells #[.slice ada n ca] 22)
  unfold maxLen at *
  by_cases hl : n ≤ 65536
  · have hs1 : ¬ (65536 : Int) < (n : Int) := by omega
    have hE : sE n = 0 := by unfold sE; rw [if_neg (by omega)]
    have CK : Hid (Calls Tryd.prog 46 #[.bool true, .slice (some ⟨w.heap.size, 0, none⟩) 1 1] (w.alloc (.cells #[.slice ada n ca] 22)) fun e w' => e = .returned (.int .i64 0) ∧ w' = w.alloc (.cells #[.slice ada n ca] 22)) := by
      have h := check1_any true w ada n ca (by unfold maxLen; omega)
      rw [if_neg (by omega), if_pos rfl] at h
      exact h
    have CT : Hid (Calls Tryd.prog 52 #[.slice ada n ca] (w.alloc (.cells #[.slice ada n ca] 22)) fun e w' => e = .returned (.agg #[.int .i64 (hi (sumV f n)), .int .u64 (lo (sumV f n))]) ∧ Below (w.alloc (.cells #[.slice ada n ca] 22)).heap.size (w.alloc (.cells #[.slice ada n ca] 22)) w') := total_any _ n f _ (hA.later hb0)
    obtain ⟨v0, v1⟩ := sumV_rng _ n f (by omega) w hA
    have CD : Hid (∀ W : World, Calls Tryd.prog 51 #[.pointer none, .agg #[.int .i64 (hi (sumV f n)), .int .u64 (lo (sumV f n))]] W fun e w' => e = .returned (.int .i64 (clv (sumV f n))) ∧ Below W.heap.size W w') := fun W => vhold_nil (sumV f n) v0 v1 W
    clear v0 v1
    rw [show sX n f = clv (sumV f n) by unfold sX; rw [if_pos hE], hE]
    generalize clv (sumV f n) = x at *
    generalize hi (sumV f n) = sh at *
    generalize lo (sumV f n) = sl at *
    clear hA hV hE
    go_enter Tryd.func16, Tryd.ntmps16
    go_wp2_with fail
    refine CK.out.mono ?_
    rintro e w1 ⟨rfl, hz⟩
    subst hz
    clear CK
    go_wp2_with fail
    refine CT.out.mono ?_
    rintro e w2 ⟨rfl, hb2⟩
    have W2 := bchain hb0 hb2
    clear CT
    clear hb2 hb0
    go_wp2_with fail
    refine (CD.out _).mono ?_
    rintro e w3 ⟨rfl, hb3⟩
    have hX := bchain W2 hb3
    clear hb3 CD W2
    go_wp2
    go_ret2
    exact ⟨rfl, hX⟩
  · have hE : sE n = 3 := by unfold sE; rw [if_pos (by omega)]
    have CK : Hid (Calls Tryd.prog 46 #[.bool true, .slice (some ⟨w.heap.size, 0, none⟩) 1 1] (w.alloc (.cells #[.slice ada n ca] 22)) fun e w' => e = .returned (.int .i64 3) ∧ w' = w.alloc (.cells #[.slice ada n ca] 22)) := by
      have h := check1_any true w ada n ca (by unfold maxLen; omega)
      rw [if_pos (by omega)] at h
      exact h
    rw [show sX n f = 0 by unfold sX; rw [if_neg (by rw [hE]; decide)], hE]
    clear hA hV hE
    go_enter Tryd.func16, Tryd.ntmps16
    go_wp2_with fail
    refine CK.out.mono ?_
    rintro e w1 ⟨rfl, hz⟩
    subst hz
    clear CK
    go_wp2
    go_ret2
    exact ⟨rfl, hb0⟩

set_option maxHeartbeats 2000000 in
theorem Mean_nil (va : Value) (n : Nat) (f : Nat → Int) (w : World) (hn : n ≤ 70000) (hV : VT w) (hA : Ar w va n f) :
    Calls Tryd.prog 18 #[.pointer none, va] w fun e w' => e = .returned (.tuple #[.int .i64 (mX n f), .int .i64 (mE n)]) ∧ Below w.heap.size w w' := by
  obtain ⟨ada, ca, ba, oa, rfl, k1, k2, -, -⟩ := id hA
  have hb0 := bel1 w (.cells #[.slice ada n ca] 22)
  unfold maxLen at *
  rcases (show (0 < n ∧ n ≤ 65536) ∨ 65536 < n ∨ n = 0 by omega) with ⟨h0, hl⟩ | hl | h0
  · have hs1 : ¬ (65536 : Int) < (n : Int) := by omega
    have hE : mE n = 0 := by unfold mE; rw [if_neg (by omega), if_neg (by omega)]
    have hp : (0 : Int) < (n : Int) := by omega
    have CK : Hid (Calls Tryd.prog 46 #[.bool true, .slice (some ⟨w.heap.size, 0, none⟩) 1 1] (w.alloc (.cells #[.slice ada n ca] 22)) fun e w' => e = .returned (.int .i64 0) ∧ w' = w.alloc (.cells #[.slice ada n ca] 22)) := by
      have h := check1_any true w ada n ca (by unfold maxLen; omega)
      rw [if_neg (by omega), if_pos rfl] at h
      exact h
    have CT : Hid (Calls Tryd.prog 52 #[.slice ada n ca] (w.alloc (.cells #[.slice ada n ca] 22)) fun e w' => e = .returned (.agg #[.int .i64 (hi (sumV f n)), .int .u64 (lo (sumV f n))]) ∧ Below (w.alloc (.cells #[.slice ada n ca] 22)).heap.size (w.alloc (.cells #[.slice ada n ca] 22)) w') := total_any _ n f _ (hA.later hb0)
    obtain ⟨v0, v1⟩ := sumV_rng _ n f (by omega) w hA
    obtain ⟨g0, g1⟩ := sumV_small _ n f w hA
    obtain ⟨u0, u1⟩ := quo_in (sumV f n) (n : Int) (by omega) ((n : Int) * 9223372036854775808) (by omega) g0 g1
    have CD : Hid (∀ W : World, Calls Tryd.prog 54 #[.pointer none, .agg #[.int .i64 (hi (sumV f n)), .int .u64 (lo (sumV f n))], .int .i64 (n : Int)] W fun e w' => e = .returned (.int .i64 (clv (quo (sumV f n) (n : Int)))) ∧ Below W.heap.size W w') := fun W => vmean_nil (sumV f n) (n : Int) v0 v1 (by omega) (by omega) (by omega) (by omega) W
    clear v0 v1 g0 g1 u0 u1
    rw [show mX n f = clv (quo (sumV f n) (n : Int)) by unfold mX; rw [if_pos hE], hE]
    generalize clv (quo (sumV f n) (n : Int)) = x at *
    generalize hi (sumV f n) = sh at *
    generalize lo (sumV f n) = sl at *
    clear hA hV hE
    go_enter Tryd.func18, Tryd.ntmps18
    go_wp2_with fail
    refine CK.out.mono ?_
    rintro e w1 ⟨rfl, hz⟩
    subst hz
    clear CK
    go_wp2_with fail
    refine CT.out.mono ?_
    rintro e w2 ⟨rfl, hb2⟩
    have W2 := bchain hb0 hb2
    clear CT
    clear hb2 hb0
    go_wp2_with fail
    refine (CD.out _).mono ?_
    rintro e w3 ⟨rfl, hb3⟩
    have hX := bchain W2 hb3
    clear hb3 CD W2
    go_wp2
    go_ret2
    exact ⟨rfl, hX⟩
  · have hE : mE n = 3 := by unfold mE; rw [if_pos (by omega)]
    have hp : 0 < n := by omega
    have CK : Hid (Calls Tryd.prog 46 #[.bool true, .slice (some ⟨w.heap.size, 0, none⟩) 1 1] (w.alloc (.cells #[.slice ada n ca] 22)) fun e w' => e = .returned (.int .i64 3) ∧ w' = w.alloc (.cells #[.slice ada n ca] 22)) := by
      have h := check1_any true w ada n ca (by unfold maxLen; omega)
      rw [if_pos (by omega)] at h
      exact h
    rw [show mX n f = 0 by unfold mX; rw [if_neg (by rw [hE]; decide)], hE]
    clear hA hV hE
    go_enter Tryd.func18, Tryd.ntmps18
    go_wp2_with fail
    refine CK.out.mono ?_
    rintro e w1 ⟨rfl, hz⟩
    subst hz
    clear CK
    go_wp2
    go_ret2
    exact ⟨rfl, hb0⟩
  · have hE : mE n = 40 := by unfold mE; rw [if_neg (by omega), if_pos h0]
    have hp : ¬ 0 < n := by omega
    have CK : Hid (Calls Tryd.prog 46 #[.bool false, .slice (some ⟨w.heap.size, 0, none⟩) 1 1] (w.alloc (.cells #[.slice ada n ca] 22)) fun e w' => e = .returned (.int .i64 40) ∧ w' = w.alloc (.cells #[.slice ada n ca] 22)) := by
      have h := check1_any false w ada n ca (by unfold maxLen; omega)
      rw [if_neg (by omega), if_neg (by decide)] at h
      exact h
    rw [show mX n f = 0 by unfold mX; rw [if_neg (by rw [hE]; decide)], hE]
    clear hA hV hE h0
    go_enter Tryd.func18, Tryd.ntmps18
    go_wp2_with fail
    refine CK.out.mono ?_
    rintro e w1 ⟨rfl, hz⟩
    subst hz
    clear CK
    go_wp2
    go_ret2
    exact ⟨rfl, hb0⟩

set_option maxHeartbeats 2000000 in
theorem Norm_nil (va : Value) (n : Nat) (f : Nat → Int) (w : World) (hn : n ≤ 70000) (hV : VT w) (hA : Ar w va n f) :
    Calls Tryd.prog 40 #[.pointer none, va] w fun e w' => e = .returned (.tuple #[.int .i64 (nX n f), .int .i64 (sE n)]) ∧ Below w.heap.size w w' := by
  obtain ⟨ada, ca, ba, oa, rfl, k1, k2, -, -⟩ := id hA
  have hb0 := bel1 w (.cells #[.slice ada n ca] 22)
  unfold maxLen at *
  by_cases hl : n ≤ 65536
  · have hs1 : ¬ (65536 : Int) < (n : Int) := by omega
    have hE : sE n = 0 := by unfold sE; rw [if_neg (by omega)]
    have CK : Hid (Calls Tryd.prog 46 #[.bool true, .slice (some ⟨w.heap.size, 0, none⟩) 1 1] (w.alloc (.cells #[.slice ada n ca] 22)) fun e w' => e = .returned (.int .i64 0) ∧ w' = w.alloc (.cells #[.slice ada n ca] 22)) := by
      have h := check1_any true w ada n ca (by unfold maxLen; omega)
      rw [if_neg (by omega), if_pos rfl] at h
      exact h
    have CD : Hid (Calls Tryd.prog 78 #[.pointer none, .slice ada n ca] (w.alloc (.cells #[.slice ada n ca] 22)) fun e w' => e = .returned (.int .i64 (rtX (dotV f f n))) ∧ Below (w.alloc (.cells #[.slice ada n ca] 22)).heap.size (w.alloc (.cells #[.slice ada n ca] 22)) w') := vnorm_nil _ n f hn _ (hA.later hb0)
    rw [show nX n f = rtX (dotV f f n) by unfold nX; rw [if_pos hE], hE]
    generalize rtX (dotV f f n) = x at *
    clear hA hV hE
    go_enter Tryd.func40, Tryd.ntmps40
    go_wp2_with fail
    refine CK.out.mono ?_
    rintro e w1 ⟨rfl, hz⟩
    subst hz
    clear CK
    go_wp2_with fail
    refine CD.out.mono ?_
    rintro e w3 ⟨rfl, hb3⟩
    have hX := bchain hb0 hb3
    clear hb3 CD hb0
    go_wp2
    go_ret2
    exact ⟨rfl, hX⟩
  · have hE : sE n = 3 := by unfold sE; rw [if_pos (by omega)]
    have CK : Hid (Calls Tryd.prog 46 #[.bool true, .slice (some ⟨w.heap.size, 0, none⟩) 1 1] (w.alloc (.cells #[.slice ada n ca] 22)) fun e w' => e = .returned (.int .i64 3) ∧ w' = w.alloc (.cells #[.slice ada n ca] 22)) := by
      have h := check1_any true w ada n ca (by unfold maxLen; omega)
      rw [if_pos (by omega)] at h
      exact h
    rw [show nX n f = 0 by unfold nX; rw [if_neg (by rw [hE]; decide)], hE]
    clear hA hV hE
    go_enter Tryd.func40, Tryd.ntmps40
    go_wp2_with fail
    refine CK.out.mono ?_
    rintro e w1 ⟨rfl, hz⟩
    subst hz
    clear CK
    go_wp2
    go_ret2
    exact ⟨rfl, hb0⟩

theorem vec1 : Vec1 where
  dotU := fun va vb n m f g d c w hn hm c0 c1 hV hA hB ha hb hU => Dot_un va vb n m f g d c w hn hm c0 c1 hV hA hB ha hb hU
  dotN := fun va vb n m f g w hn hm hV hA hB => Dot_nil va vb n m f g w hn hm hV hA hB
  sumU := fun va n f d c w hn c0 c1 hV hA ha hU => Sum_un va n f d c w hn c0 c1 hV hA ha hU
  meanU := fun va n f d c w hn c0 c1 hV hA ha hU => Mean_un va n f d c w hn c0 c1 hV hA ha hU
  normU := fun va n f d c w hn c0 c1 hV hA ha hU => Norm_un va n f d c w hn c0 c1 hV hA ha hU
  normN := fun va n f w hn hV hA => Norm_nil va n f w hn hV hA
end Go.Proofs.YtldnnjcfihjkdaaDoor
