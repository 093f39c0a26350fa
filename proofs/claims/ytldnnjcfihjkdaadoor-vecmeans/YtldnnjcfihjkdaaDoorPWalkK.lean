/-
  The contracts of vec's Right, and of MatVec and VecMat where they refuse.
-/
import Derived.Test.YtldnnjcfihjkdaaDoorPWalkH
import Derived.Test.YtldnnjcfihjkdaaDoorBJ
set_option linter.unusedVariables false
set_option linter.unusedSimpArgs false
namespace Go.Proofs.YtldnnjcfihjkdaaDoor
open Go.RowKit

/-- MatVec's and VecMat's errors. -/
def mvE (r c : Int) (n m : Nat) : Int := if 65536 < m then 3 else if mtB r c n = true ∧ (m : Int) = c then 0 else 40
def vmE (r c : Int) (n m : Nat) : Int := if 65536 < m then 3 else if mtB r c n = true ∧ (m : Int) = r then 0 else 40
theorem mt_yes {r c : Int} {n : Nat} (h : mtB r c n = true) : 1 ≤ r ∧ 1 ≤ c ∧ r ≤ 65536 ∧ c ≤ 65536 ∧ r * c ≤ 65536 ∧ (n : Int) = r * c := by
  unfold mtB at h
  simp only [Bool.and_eq_true, decide_eq_true_eq] at h
  exact ⟨h.1.1.1.1.1, h.1.1.1.1.2, h.1.1.1.2, h.1.1.2, h.1.2, h.2⟩
theorem mt_of {r c : Int} {n : Nat} (r1 : 1 ≤ r) (c1 : 1 ≤ c) (h : r * c ≤ 65536) (hn : (n : Int) = r * c) : mtB r c n = true := by
  have a : r * 1 ≤ r * c := Int.mul_le_mul_of_nonneg_left c1 (by omega)
  have b : 1 * c ≤ r * c := Int.mul_le_mul_of_nonneg_right r1 (by omega)
  unfold mtB
  simp only [Bool.and_eq_true, decide_eq_true_eq]
  exact ⟨⟨⟨⟨⟨r1, c1⟩, by omega⟩, by omega⟩, h⟩, hn⟩
theorem mt_no {r c : Int} {n : Nat} (h : ¬ (1 ≤ r ∧ 1 ≤ c ∧ r * c ≤ 65536 ∧ (n : Int) = r * c)) : mtB r c n = false := by
  rw [Bool.eq_false_iff]
  intro e
  obtain ⟨a, b, -, -, c', d⟩ := mt_yes e
  exact h ⟨a, b, c', d⟩

set_option maxHeartbeats 4000000 in
theorem Right_any (r c : Int) (r0 : -9223372036854775808 ≤ r) (r1 : r ≤ 9223372036854775807) (c0 : -9223372036854775808 ≤ c) (c1 : c ≤ 9223372036854775807) (adr : Option Addr) (n cap : Nat) (hn : n ≤ 9223372036854775807) (w : World) :
    Calls Tryd.prog 32 #[.agg #[.int .i64 r, .int .i64 c, .slice adr n cap]] w fun e w' => e = .returned (.bool (mtB r c n)) ∧ Below w.heap.size w w' := by
  have hB : Hid (Below w.heap.size w _) := bel1 w (.cells #[.int .i64 r, .int .i64 c, .slice adr n cap] 56)
  rcases (show r ≤ 0 ∨ (0 < r ∧ c ≤ 0) ∨ (0 < r ∧ 0 < c ∧ ¬ r * c ≤ 65536) ∨ (0 < r ∧ 0 < c ∧ r * c ≤ 65536 ∧ (n : Int) ≠ r * c) ∨ (0 < r ∧ 0 < c ∧ r * c ≤ 65536 ∧ (n : Int) = r * c) by omega) with h | ⟨h, h'⟩ | ⟨h, h', h2⟩ | ⟨h, h', h2, h3⟩ | ⟨h, h', h2, h3⟩
  · have q1 : ¬ 0 < r := by omega
    rw [mt_no (fun x => by omega)]
    go_enter Tryd.func32, Tryd.ntmps32
    go_wp2
    go_ret
    exact ⟨by first | rfl | simp, hB.out⟩
  · have q1 : ¬ 0 < c := by omega
    rw [mt_no (fun x => by omega)]
    go_enter Tryd.func32, Tryd.ntmps32
    go_wp2
    go_ret
    exact ⟨by first | rfl | simp, hB.out⟩
  · have CF : Hid (∀ W : World, Calls Tryd.prog 70 #[.int .i64 r, .int .i64 c] W fun e w' => e = .returned (.bool false) ∧ w' = W) := fun W => by
      have h := fits_any r c (by omega) r1 (by omega) c1 W
      rw [decide_eq_false h2] at h
      exact h
    rw [mt_no (fun x => h2 x.2.2.1)]
    go_enter Tryd.func32, Tryd.ntmps32
    go_wp2_with (go_at_call 70; refine (CF.out _).mono ?_; rintro e wz ⟨rfl, hz⟩; subst hz)
    go_ret
    exact ⟨by first | rfl | simp, hB.out⟩
  · have CF : Hid (∀ W : World, Calls Tryd.prog 70 #[.int .i64 r, .int .i64 c] W fun e w' => e = .returned (.bool true) ∧ w' = W) := fun W => by
      have h := fits_any r c (by omega) r1 (by omega) c1 W
      rw [decide_eq_true h2] at h
      exact h
    have hp : 0 ≤ r * c := Int.mul_nonneg (by omega) (by omega)
    have hq : ((n : Int) == r * c) = false := beq_eq_false_iff_ne.2 h3
    rw [mt_no (fun x => h3 x.2.2.2)]
    go_enter Tryd.func32, Tryd.ntmps32
    go_wp2_with (go_at_call 70; refine (CF.out _).mono ?_; rintro e wz ⟨rfl, hz⟩; subst hz)
    go_ret
    exact ⟨by first | rfl | simp, hB.out⟩
  · have CF : Hid (∀ W : World, Calls Tryd.prog 70 #[.int .i64 r, .int .i64 c] W fun e w' => e = .returned (.bool true) ∧ w' = W) := fun W => by
      have h := fits_any r c (by omega) r1 (by omega) c1 W
      rw [decide_eq_true h2] at h
      exact h
    have hp : 0 ≤ r * c := Int.mul_nonneg (by omega) (by omega)
    have hq : ((n : Int) == r * c) = true := by rw [h3]; exact beq_self_eq_true _
    clear h3
    rw [mt_of (by omega) (by omega) h2 (eq_of_beq hq)]
    go_enter Tryd.func32, Tryd.ntmps32
    go_wp2_with (go_at_call 70; refine (CF.out _).mono ?_; rintro e wz ⟨rfl, hz⟩; subst hz)
    go_ret
    exact ⟨by first | rfl | simp, hB.out⟩

set_option maxHeartbeats 4000000 in
theorem MatVec_err (p : Option Addr) (r c : Int) (r0 : -9223372036854775808 ≤ r) (r1 : r ≤ 9223372036854775807) (c0 : -9223372036854775808 ≤ c) (c1 : c ≤ 9223372036854775807) (ada adx : Option Addr) (n ca m cx : Nat) (hn : n ≤ 9223372036854775807) (hm : m ≤ 9223372036854775807) (w : World) (hE : ¬ (mtB r c n = true ∧ (m : Int) = c)) :
    Calls Tryd.prog 34 #[.pointer p, .agg #[.int .i64 r, .int .i64 c, .slice ada n ca], .slice adx m cx] w fun e w' => e = .returned (.tuple #[.slice none 0 0, .int .i64 (mvE r c n m)]) ∧ Below w.heap.size w w' := by
  have CR : Hid (∀ W : World, Calls Tryd.prog 32 #[.agg #[.int .i64 r, .int .i64 c, .slice ada n ca]] W fun e w' => e = .returned (.bool (mtB r c n)) ∧ Below W.heap.size W w') := fun W => Right_any r c r0 r1 c0 c1 ada n ca hn W
  have D1 := B3.new w (.int .i64 r) (.int .i64 c) (.slice ada n ca) 56
  have HB1 : Hid (Below w.heap.size w (w.alloc (.cells #[.int .i64 r, .int .i64 c, .slice ada n ca] 56))) := bel1 w _
  obtain ⟨E, hEq⟩ : ∃ E, mvE r c n m = E := ⟨_, rfl⟩
  have HE : Hid (¬ E = 0 ∧ (if 65536 < m then (3 : Int) else if false = true then 0 else 40) = E) := by
    rw [← hEq]
    unfold mvE
    rw [if_neg hE, if_neg (show ¬ false = true by decide)]
    refine ⟨?_, rfl⟩
    split <;> decide
  rw [hEq]
  have hne := HE.out.1
  clear hEq
  by_cases hR : mtB r c n = true
  · have hq : ((m : Int) == c) = false := beq_eq_false_iff_ne.2 (fun e => hE ⟨hR, e⟩)
    rw [hR] at CR
    clear hE hR
    go_enter Tryd.func34, Tryd.ntmps34
    go_wp2_with fail
    refine (CR.out _).mono ?_
    rintro e w2 ⟨rfl, hb2⟩
    have HB2 : Hid (Below w.heap.size w w2) := bchain HB1.out hb2
    have D2 := D1.later hb2
    have y0 := D2.c0
    have y1 := D2.c1
    have y2 := D2.c2
    have CK : Hid (Calls Tryd.prog 46 #[.bool false, .slice (some ⟨w2.heap.size, 0, none⟩) 1 1] (w2.alloc (.cells #[.slice adx m cx] 22)) fun e w' => e = .returned (.int .i64 E) ∧ w' = w2.alloc (.cells #[.slice adx m cx] 22)) := by
      have h := check1_any false w2 adx m cx (by unfold maxLen; omega)
      rw [HE.out.2] at h
      exact h
    clear hb2 CR D1 D2
    go_wp2_with fail
    refine CK.out.mono ?_
    rintro e w3 ⟨rfl, hz⟩
    subst hz
    have HB3 : Hid (Below w.heap.size w (w2.alloc (.cells #[.slice adx m cx] 22))) := bchain HB2.out (bel1 _ _)
    clear CK HB2
    go_wp2
    go_ret2
    exact ⟨rfl, HB3.out⟩
  · rw [Bool.eq_false_iff.2 hR] at CR
    clear hE hR
    go_enter Tryd.func34, Tryd.ntmps34
    go_wp2_with fail
    refine (CR.out _).mono ?_
    rintro e w2 ⟨rfl, hb2⟩
    have HB2 : Hid (Below w.heap.size w w2) := bchain HB1.out hb2
    have D2 := D1.later hb2
    have y0 := D2.c0
    have y1 := D2.c1
    have y2 := D2.c2
    have CK : Hid (Calls Tryd.prog 46 #[.bool false, .slice (some ⟨w2.heap.size, 0, none⟩) 1 1] (w2.alloc (.cells #[.slice adx m cx] 22)) fun e w' => e = .returned (.int .i64 E) ∧ w' = w2.alloc (.cells #[.slice adx m cx] 22)) := by
      have h := check1_any false w2 adx m cx (by unfold maxLen; omega)
      rw [HE.out.2] at h
      exact h
    clear hb2 CR D1 D2
    go_wp2_with fail
    refine CK.out.mono ?_
    rintro e w3 ⟨rfl, hz⟩
    subst hz
    have HB3 : Hid (Below w.heap.size w (w2.alloc (.cells #[.slice adx m cx] 22))) := bchain HB2.out (bel1 _ _)
    clear CK HB2
    go_wp2
    go_ret2
    exact ⟨rfl, HB3.out⟩

set_option maxHeartbeats 4000000 in
theorem VecMat_err (p : Option Addr) (r c : Int) (r0 : -9223372036854775808 ≤ r) (r1 : r ≤ 9223372036854775807) (c0 : -9223372036854775808 ≤ c) (c1 : c ≤ 9223372036854775807) (ada adx : Option Addr) (n ca m cx : Nat) (hn : n ≤ 9223372036854775807) (hm : m ≤ 9223372036854775807) (w : World) (hE : ¬ (mtB r c n = true ∧ (m : Int) = r)) :
    Calls Tryd.prog 36 #[.pointer p, .slice adx m cx, .agg #[.int .i64 r, .int .i64 c, .slice ada n ca]] w fun e w' => e = .returned (.tuple #[.slice none 0 0, .int .i64 (vmE r c n m)]) ∧ Below w.heap.size w w' := by
  have CR : Hid (∀ W : World, Calls Tryd.prog 32 #[.agg #[.int .i64 r, .int .i64 c, .slice ada n ca]] W fun e w' => e = .returned (.bool (mtB r c n)) ∧ Below W.heap.size W w') := fun W => Right_any r c r0 r1 c0 c1 ada n ca hn W
  have D1 := B3.new w (.int .i64 r) (.int .i64 c) (.slice ada n ca) 56
  have HB1 : Hid (Below w.heap.size w (w.alloc (.cells #[.int .i64 r, .int .i64 c, .slice ada n ca] 56))) := bel1 w _
  obtain ⟨E, hEq⟩ : ∃ E, vmE r c n m = E := ⟨_, rfl⟩
  have HE : Hid (¬ E = 0 ∧ (if 65536 < m then (3 : Int) else if false = true then 0 else 40) = E) := by
    rw [← hEq]
    unfold vmE
    rw [if_neg hE, if_neg (show ¬ false = true by decide)]
    refine ⟨?_, rfl⟩
    split <;> decide
  rw [hEq]
  have hne := HE.out.1
  clear hEq
  by_cases hR : mtB r c n = true
  · have hq : ((m : Int) == r) = false := beq_eq_false_iff_ne.2 (fun e => hE ⟨hR, e⟩)
    rw [hR] at CR
    clear hE hR
    go_enter Tryd.func36, Tryd.ntmps36
    go_wp2_with fail
    refine (CR.out _).mono ?_
    rintro e w2 ⟨rfl, hb2⟩
    have HB2 : Hid (Below w.heap.size w w2) := bchain HB1.out hb2
    have D2 := D1.later hb2
    have y0 := D2.c0
    have y1 := D2.c1
    have y2 := D2.c2
    have CK : Hid (Calls Tryd.prog 46 #[.bool false, .slice (some ⟨w2.heap.size, 0, none⟩) 1 1] (w2.alloc (.cells #[.slice adx m cx] 22)) fun e w' => e = .returned (.int .i64 E) ∧ w' = w2.alloc (.cells #[.slice adx m cx] 22)) := by
      have h := check1_any false w2 adx m cx (by unfold maxLen; omega)
      rw [HE.out.2] at h
      exact h
    clear hb2 CR D1 D2
    go_wp2_with fail
    refine CK.out.mono ?_
    rintro e w3 ⟨rfl, hz⟩
    subst hz
    have HB3 : Hid (Below w.heap.size w (w2.alloc (.cells #[.slice adx m cx] 22))) := bchain HB2.out (bel1 _ _)
    clear CK HB2
    go_wp2
    go_ret2
    exact ⟨rfl, HB3.out⟩
  · rw [Bool.eq_false_iff.2 hR] at CR
    clear hE hR
    go_enter Tryd.func36, Tryd.ntmps36
    go_wp2_with fail
    refine (CR.out _).mono ?_
    rintro e w2 ⟨rfl, hb2⟩
    have HB2 : Hid (Below w.heap.size w w2) := bchain HB1.out hb2
    have D2 := D1.later hb2
    have y0 := D2.c0
    have y1 := D2.c1
    have y2 := D2.c2
    have CK : Hid (Calls Tryd.prog 46 #[.bool false, .slice (some ⟨w2.heap.size, 0, none⟩) 1 1] (w2.alloc (.cells #[.slice adx m cx] 22)) fun e w' => e = .returned (.int .i64 E) ∧ w' = w2.alloc (.cells #[.slice adx m cx] 22)) := by
      have h := check1_any false w2 adx m cx (by unfold maxLen; omega)
      rw [HE.out.2] at h
      exact h
    clear hb2 CR D1 D2
    go_wp2_with fail
    refine CK.out.mono ?_
    rintro e w3 ⟨rfl, hz⟩
    subst hz
    have HB3 : Hid (Below w.heap.size w (w2.alloc (.cells #[.slice adx m cx] 22))) := bchain HB2.out (bel1 _ _)
    clear CK HB2
    go_wp2
    go_ret2
    exact ⟨rfl, HB3.out⟩

end Go.Proofs.YtldnnjcfihjkdaaDoor
