/-
  Plain lemmas: what Int and Parse reckon is what the text says.
-/
import Derived.Test.YtekdpeiemfppiabDoorGMath
import Derived.Test.YtekdpeiemfppiabDoorGMath2
import Derived.Test.YtekdpeiemfppiabDoorDWalkH
import Derived.Test.YtekdpeiemfppiabDoorDMathB
set_option linter.unusedVariables false
set_option linter.unusedSimpArgs false
namespace Go.Proofs.YtekdpeiemfppiabDoor
open Go.RowKit

theorem pE_none (l : List UInt8) (h : pW l = true) : pE l = [] := by
  unfold pW at h
  rw [decide_eq_true_iff] at h
  unfold pE
  exact List.drop_of_length_le (by omega)
theorem bE_eq (l : List UInt8) : bE l = pE l := by
  unfold bE
  by_cases h : pW l = true
  · rw [if_pos h, pE_none l h]
  · rw [if_neg h]
theorem ok_parts3 (l : List UInt8) (h : pOk l = true) : isD (pA l) = true ∧ (∀ i, i < (pE l).length → 48 ≤ gb (pE l) i ∧ gb (pE l) i ≤ 57) ∧ ¬ (1 < (pA l).length ∧ gb (pA l) 0 = 48) := by
  unfold pOk pO at h
  rw [Bool.and_eq_true, Bool.and_eq_true] at h
  obtain ⟨⟨h1, h2⟩, h3⟩ := h
  refine ⟨h1, ?_, ?_⟩
  · rw [Bool.or_eq_true] at h3
    rcases h3 with h3 | h3
    · rw [pE_none l h3]
      intro i hi
      simp at hi
    · exact fun i hi => isD_at _ h3 i hi
  · rintro ⟨a, b⟩
    rw [decide_eq_true a, decide_eq_true b] at h2
    cases h2
theorem iOk_is (l : List UInt8) : iOk l = (pOk l && decide (pE l = []) && !decide (l = [45, 48])) := by
  unfold iOk
  congr 1
  unfold pOk
  cases h1 : pO l
  · rfl
  · rw [Bool.true_and, Bool.true_and]
    cases h2 : pW l
    · rw [Bool.false_or]
      by_cases h3 : pE l = []
      · rw [h3]; rfl
      · rw [decide_eq_false h3, Bool.and_false]
    · rw [decide_eq_true (pE_none l h2)]
      rfl
theorem num_ge (A : List UInt8) (hd : ∀ i, i < A.length → 48 ≤ gb A i ∧ gb A i ≤ 57) (h0 : gb A 0 ≠ 48) : ∀ j, j < A.length → 10 ^ j ≤ num (A.take (j + 1)) := by
  intro j
  induction j with
  | zero =>
    intro h
    have := (hd 0 h).1
    rw [num_take A 0 h, Nat.pow_zero]
    omega
  | succ j ih =>
    intro h
    have h1 := ih (by omega)
    rw [num_take A (j + 1) h, Nat.pow_succ]
    omega
theorem long_big (l : List UInt8) (h : pOk l = true) (hl : 20 < (pA l).length) : ovv (iV l) = true := by
  obtain ⟨h1, _, h3⟩ := ok_parts3 l h
  have hd := isD_at _ h1
  have h0 : gb (pA l) 0 ≠ 48 := fun e => h3 ⟨by omega, e⟩
  have h4 : 10 ^ 20 ≤ num ((pA l).take 21) := num_ge (pA l) hd h0 20 hl
  have h5 := num_mono (pA l) 21 (pA l).length (by omega) (Nat.le_refl _)
  rw [List.take_length] at h5
  have h6 : (10 : Nat) ^ 20 = 100000000000000000000 := by decide
  unfold iV ovv
  split
  · simp; omega
  · simp; omega
theorem num_small (A : List UInt8) (hd : ∀ i, i < A.length → 48 ≤ gb A i ∧ gb A i ≤ 57) (hl : A.length ≤ 20) : num A < 100000000000000000000 := by
  have h := (num_all A hd).1
  have h2 : 10 ^ A.length ≤ 10 ^ 20 := Nat.pow_le_pow_right (by omega) hl
  have h6 : (10 : Nat) ^ 20 = 100000000000000000000 := by decide
  omega
theorem pad_small (b : List UInt8) (hd : ∀ i, i < b.length → 48 ≤ gb b i ∧ gb b i ≤ 57) (hl : b.length ≤ 40) : num b * 10 ^ (40 - b.length) < 10 ^ 40 := by
  have h := (num_all b hd).1
  have h2 : (10 : Nat) ^ 40 = 10 ^ b.length * 10 ^ (40 - b.length) := by rw [← Nat.pow_add]; congr 1; omega
  rw [h2]
  exact Nat.mul_lt_mul_of_pos_right h (ten_pos _)
/-- What the program adds up, with two bits more. -/
theorem sum_is (a b : List UInt8) (hb : b.length ≤ 40) :
    num a * 17179869184 + stk (num b * 10 ^ (40 - b.length) * 17179869184 / 10 ^ 40) (num b * 10 ^ (40 - b.length) * 17179869184 % 10 ^ 40) = 4 * (num (a ++ b) * 4294967296 / 10 ^ b.length) + (rs (num (a ++ b) * 4294967296) b.length).toNat := by
  have h := stk_pad (num b) b.length (40 - b.length)
  rw [show b.length + (40 - b.length) = 40 by omega] at h
  rw [h, stk_rs, num_app]
theorem stk_le (q r : Nat) (h : q < 17179869184) : stk q r ≤ 17179869184 := by
  unfold stk
  repeat' split
  all_goals omega
theorem rq_le (L k : Nat) : rq L k ≤ L / 10 ^ k + 1 := by
  unfold rq
  split <;> omega
end Go.Proofs.YtekdpeiemfppiabDoor
