/-
  Plain lemmas on texts: what the program's scan of a text comes to.
-/
import Derived.Test.YtekdpeiemfppiabDoorDWalkD
import Derived.Lib.Bytealg
import Derived.Lib.Strings
set_option linter.unusedVariables false
set_option linter.unusedSimpArgs false
namespace Go.Proofs.YtekdpeiemfppiabDoor
open Go.RowKit

theorem pos_at (q : List UInt8) : pos q < q.length → gb q (pos q) = 46 := by
  induction q with
  | nil => intro h; simp [pos] at h
  | cons b t ih =>
    intro h
    unfold pos at h ⊢
    by_cases hb : b.toNat = 46
    · rw [if_pos hb]; exact hb
    · rw [if_neg hb] at h ⊢
      rw [gb_cons]
      exact ih (by simpa using h)
theorem pos_not (q : List UInt8) : ∀ i, i < pos q → gb q i ≠ 46 := by
  induction q with
  | nil => intro i h; simp [pos] at h
  | cons b t ih =>
    intro i h
    unfold pos at h
    by_cases hb : b.toNat = 46
    · rw [if_pos hb] at h; omega
    · rw [if_neg hb] at h
      cases i with
      | zero => exact hb
      | succ i => rw [gb_cons]; exact ih i (by omega)
theorem u8_eq (b c : UInt8) : b = c ↔ b.toNat = c.toNat := ⟨fun h => by rw [h], fun h => UInt8.toNat_inj.1 h⟩
theorem index_pos (q : List UInt8) : Lib.indexByte q 46 = if pos q < q.length then (pos q : Int) else -1 := by
  induction q with
  | nil => rfl
  | cons b t ih =>
    unfold Lib.indexByte pos
    by_cases hb : b.toNat = 46
    · have e : (b == 46) = true := by rw [beq_iff_eq, u8_eq]; exact hb
      rw [e, if_pos rfl, if_pos hb, if_pos (by simp)]
      rfl
    · have e : (b == 46) = false := by rw [beq_eq_false_iff_ne]; intro h; exact hb ((u8_eq _ _).1 h)
      rw [e, if_neg hb, ih, if_neg (by simp : ¬ (false = true))]
      by_cases h : pos t < t.length
      · have e2 : (((pos t : Nat) : Int) == -1) = false := by rw [beq_eq_false_iff_ne]; omega
        have h2 : pos t + 1 < (b :: t).length := by rw [List.length_cons]; omega
        rw [if_pos h, e2, if_pos h2, if_neg (by simp : ¬ (false = true))]
        omega
      · have h2 : ¬ pos t + 1 < (b :: t).length := by rw [List.length_cons]; omega
        rw [if_neg h, if_neg h2]
        rfl
/-- The first digit is no nought, or it is alone. -/
def plB (l : List UInt8) : Bool := decide (l = [48]) || (decide (l ≠ []) && decide (gb l 0 ≠ 48))
/-- All but the first point are digits. -/
def aG (q : List UInt8) : Prop := ∀ i, i < q.length → i ≠ pos q → isd (gb q i) = true
theorem gb_take (q : List UInt8) (n i : Nat) (h : i < n) : gb (q.take n) i = gb q i := by
  unfold gb
  rw [List.getD_eq_getElem?_getD, List.getD_eq_getElem?_getD, List.getElem?_take, if_pos h]
theorem gb_drop (q : List UInt8) (n i : Nat) : gb (q.drop n) i = gb q (n + i) := by
  unfold gb
  rw [List.getD_eq_getElem?_getD, List.getD_eq_getElem?_getD, List.getElem?_drop]
theorem suffix_dot (q : List UInt8) : Lib.hasSuffix q [46] = true ↔ 0 < q.length ∧ gb q (q.length - 1) = 46 := by
  unfold Lib.hasSuffix
  rw [List.isSuffixOf_iff_suffix]
  constructor
  · rintro ⟨t, rfl⟩
    refine ⟨by simp, ?_⟩
    unfold gb
    simp
  · rintro ⟨h1, h2⟩
    refine ⟨q.take (q.length - 1), ?_⟩
    have h3 : q.drop (q.length - 1) = [46] := by
      apply List.ext_getElem
      · simp; omega
      · intro i ha hb
        have hi : i = 0 := by simp at hb; exact hb
        subst hi
        rw [u8_eq]
        simp
        unfold gb at h2
        rw [List.getD_eq_getElem?_getD, List.getElem?_eq_getElem (by omega)] at h2
        simpa using h2
    rw [← h3, List.take_append_drop]
theorem isD_iff (l : List UInt8) : isD l = true ↔ (∀ i, i < l.length → isd (gb l i) = true) ∧ 0 < l.length := by
  unfold isD
  rw [Bool.and_eq_true, all_gb, decide_eq_true_iff]
theorem isd_not (n : Nat) (h : n = 46) : isd n = false := by subst h; rfl
theorem plB_ok (A : List UInt8) (h : ∀ i, i < A.length → isd (gb A i) = true) : (isD A && !(decide (1 < A.length) && decide (gb A 0 = 48))) = plB A := by
  unfold plB
  match A, h with
  | [], _ => rfl
  | [b], h =>
    have h1 : isD [b] = true := (isD_iff _).2 ⟨h, by simp⟩
    rw [h1]
    by_cases hb : b = 48
    · subst hb; rfl
    · have h2 : gb [b] 0 ≠ 48 := by
        intro e
        exact hb ((u8_eq b 48).2 e)
      simp [hb, h2]
  | b :: c :: t, h =>
    have h1 : isD (b :: c :: t) = true := (isD_iff _).2 ⟨h, by simp⟩
    rw [h1]
    simp
theorem apart_yes (l : List UInt8) (h : aG (pS l)) : (plB (pA l) && !(Lib.hasSuffix (pS l) [46])) = pOk l := by
  unfold pOk pO pW
  have hA : ∀ i, i < (pA l).length → isd (gb (pA l) i) = true := by
    intro i hi
    unfold pA at hi ⊢
    rw [List.length_take] at hi
    rw [gb_take _ _ _ (by omega)]
    exact h i (by omega) (by omega)
  rw [plB_ok (pA l) hA]
  congr 1
  by_cases hw : pos (pS l) = (pS l).length
  · have h1 : Lib.hasSuffix (pS l) [46] = false := by
      rw [Bool.eq_false_iff]
      intro e
      obtain ⟨a, b⟩ := (suffix_dot _).1 e
      exact pos_not (pS l) _ (by omega) b
    rw [h1, decide_eq_true hw]
    rfl
  · have hp := pos_le (pS l)
    have hE : ∀ i, i < (pE l).length → isd (gb (pE l) i) = true := by
      intro i hi
      unfold pE at hi ⊢
      rw [List.length_drop] at hi
      rw [gb_drop]
      exact h _ (by omega) (by omega)
    have hl : (pE l).length = (pS l).length - (pos (pS l) + 1) := by unfold pE; rw [List.length_drop]
    rw [decide_eq_false hw, Bool.false_or]
    by_cases h0 : 0 < (pE l).length
    · rw [(isD_iff _).2 ⟨hE, h0⟩]
      have h1 : Lib.hasSuffix (pS l) [46] = false := by
        rw [Bool.eq_false_iff]
        intro e
        obtain ⟨a, b⟩ := (suffix_dot _).1 e
        have h2 := h ((pS l).length - 1) (by omega) (by omega)
        rw [isd_not _ b] at h2
        cases h2
      rw [h1]
      rfl
    · have h1 : Lib.hasSuffix (pS l) [46] = true := by
        rw [suffix_dot]
        have h2 := pos_at (pS l) (by omega)
        rw [show pos (pS l) = (pS l).length - 1 by omega] at h2
        exact ⟨by omega, h2⟩
      have h3 : isD (pE l) = false := by
        rw [Bool.eq_false_iff]
        intro e
        exact h0 ((isD_iff _).1 e).2
      rw [h1, h3]
      rfl
theorem apart_no (l : List UInt8) (h : ¬ aG (pS l)) : pOk l = false := by
  rw [Bool.eq_false_iff]
  intro e
  unfold pOk pO pW at e
  rw [Bool.and_eq_true, Bool.and_eq_true] at e
  obtain ⟨⟨e1, _⟩, e2⟩ := e
  apply h
  intro i hi hne
  have hp := pos_le (pS l)
  rcases Nat.lt_or_ge i (pos (pS l)) with h1 | h1
  · have h2 := ((isD_iff _).1 e1).1 i (by unfold pA; rw [List.length_take]; omega)
    unfold pA at h2
    rw [gb_take _ _ _ h1] at h2
    exact h2
  · rw [Bool.or_eq_true, decide_eq_true_iff] at e2
    rcases e2 with e2 | e2
    · omega
    · have h2 := ((isD_iff _).1 e2).1 (i - (pos (pS l) + 1)) (by unfold pE; rw [List.length_drop]; omega)
      unfold pE at h2
      rw [gb_drop, show pos (pS l) + 1 + (i - (pos (pS l) + 1)) = i by omega] at h2
      exact h2
theorem prefix_is (l : List UInt8) : Lib.hasPrefix l [45] = pB l ∧ Lib.trimPrefix l [45] = pS l := by
  have h1 : Lib.hasPrefix l [45] = pB l := by
    unfold Lib.hasPrefix pB
    cases l with
    | nil => rfl
    | cons b t =>
      rw [Bool.eq_iff_iff]
      simp [List.isPrefixOf]
      have : gb (b :: t) 0 = b.toNat := rfl
      rw [this]
      constructor
      · intro h; rw [← h]; rfl
      · intro h; exact ((u8_eq b 45).2 h).symm
  refine ⟨h1, ?_⟩
  unfold Lib.trimPrefix pS
  rw [h1]
  rfl
end Go.Proofs.YtekdpeiemfppiabDoor
