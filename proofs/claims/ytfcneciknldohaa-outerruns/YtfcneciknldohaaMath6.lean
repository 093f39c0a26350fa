/-
  Plain arithmetic: quotients undo products, and how far a quotient is from the true one.
-/
import Derived.Test.YtfcneciknldohaaBA
set_option linter.unusedVariables false
namespace Go.Proofs.Ytfcneciknldohaa

theorem ab_mul (a b : Int) : ab (a * b) = ab a * ab b := by
  unfold ab
  by_cases ha : a < 0
  · by_cases hb : b < 0
    · have : 0 ≤ (-a) * (-b) := Int.mul_nonneg (by omega) (by omega)
      rw [Int.neg_mul_neg] at this
      rw [if_pos ha, if_pos hb, if_neg (by omega), Int.neg_mul_neg]
    · by_cases hz : b = 0
      · subst hz; simp
      · have : 0 < (-a) * b := Int.mul_pos (by omega) (by omega)
        rw [Int.neg_mul] at this
        rw [if_pos ha, if_neg hb, if_pos (by omega), Int.neg_mul]
  · by_cases hb : b < 0
    · by_cases hz : a = 0
      · subst hz; simp
      · have : 0 < a * (-b) := Int.mul_pos (by omega) (by omega)
        rw [Int.mul_neg] at this
        rw [if_neg ha, if_pos hb, if_pos (by omega), Int.mul_neg]
    · have : 0 ≤ a * b := Int.mul_nonneg (by omega) (by omega)
      rw [if_neg ha, if_neg hb, if_neg (by omega)]
theorem sign_mul (a b : Int) (hb : b ≠ 0) (ha : a ≠ 0) : (decide (a * b < 0) != decide (b < 0)) = decide (a < 0) := by
  by_cases h1 : a < 0
  · by_cases h2 : b < 0
    · have : 0 < (-a) * (-b) := Int.mul_pos (by omega) (by omega)
      rw [Int.neg_mul_neg] at this
      rw [decide_eq_true h1, decide_eq_true h2, decide_eq_false (by omega)]; rfl
    · have : 0 < (-a) * b := Int.mul_pos (by omega) (by omega)
      rw [Int.neg_mul] at this
      rw [decide_eq_true h1, decide_eq_false h2, decide_eq_true (by omega)]; rfl
  · by_cases h2 : b < 0
    · have : 0 < a * (-b) := Int.mul_pos (by omega) (by omega)
      rw [Int.mul_neg] at this
      rw [decide_eq_false h1, decide_eq_true h2, decide_eq_true (by omega)]; rfl
    · have : 0 < a * b := Int.mul_pos (by omega) (by omega)
      rw [decide_eq_false h1, decide_eq_false h2, decide_eq_false (by omega)]; rfl
/-- A product divided by one of its factors is the other one. -/
theorem quo_mul (a b : Int) (hb : b ≠ 0) : quo (a * b) b = a := by
  have hb1 : 1 ≤ ab b := by unfold ab; split <;> omega
  have e1 : ab (a * b) / ab b = ab a := by rw [ab_mul, Int.mul_ediv_cancel _ (by omega)]
  have e2 : ab (a * b) % ab b = 0 := by rw [ab_mul, Int.mul_emod_left]
  have e3 : quoA (a * b) b = ab a := by
    unfold quoA
    rw [e1, e2, c3_lt _ _ (by omega)]
    have : gu (-1) (lo (ab a)) = false := by unfold gu; simp
    rw [this]
    rfl
  unfold quo
  rw [e3]
  by_cases ha : a = 0
  · subst ha
    have : ab 0 = 0 := rfl
    rw [this]
    split <;> rfl
  · rw [sign_mul a b hb ha]
    by_cases h : a < 0
    · rw [decide_eq_true h, if_pos rfl, ab_neg a h]; omega
    · rw [decide_eq_false h, if_neg (by decide), ab_pos a (by omega)]

/-- How far a quotient of numbers without signs is from the true one: twice what is left out is not above the divisor, and just at it only of an even one. -/
theorem quoA_near (v d : Int) (hd : 1 ≤ ab d) : -(ab d) ≤ 2 * (ab v - quoA v d * ab d) ∧ 2 * (ab v - quoA v d * ab d) ≤ ab d ∧ ((2 * (ab v - quoA v d * ab d) = ab d ∨ 2 * (ab v - quoA v d * ab d) = -(ab d)) → quoA v d % 2 = 0) := by
  have hm := Int.mul_ediv_add_emod (ab v) (ab d)
  have m0 := Int.emod_nonneg (ab v) (show ab d ≠ 0 by omega)
  have m1 := Int.emod_lt_of_pos (ab v) (show 0 < ab d by omega)
  rw [Int.mul_comm] at hm
  unfold quoA
  have hl : lo (ab v / ab d) % 2 = ab v / ab d % 2 := by unfold lo; omega
  generalize hq : ab v / ab d = q at *
  generalize ab v % ab d = r at *
  generalize ab d = D at *
  by_cases hg : gu (c3 (2 * r) D) (lo q) = true
  · rw [if_pos hg, Int.add_mul, Int.one_mul]
    have hgt : D ≤ 2 * r := by
      by_cases h : 2 * r < D
      · rw [c3_lt _ _ h] at hg
        unfold gu at hg
        simp at hg
      · omega
    refine ⟨by omega, by omega, ?_⟩
    intro h
    have he : 2 * r = D := by omega
    rw [he, c3_self] at hg
    unfold gu at hg
    simp at hg
    omega
  · rw [if_neg hg]
    have hle : 2 * r ≤ D := by
      by_cases h : D < 2 * r
      · rw [c3_gt _ _ h] at hg
        unfold gu at hg
        simp at hg
      · omega
    refine ⟨by omega, by omega, ?_⟩
    intro h
    have he : 2 * r = D := by omega
    rw [he, c3_self] at hg
    unfold gu at hg
    simp at hg
    omega
theorem quoA_ge (v d : Int) (hd : 1 ≤ ab d) : 0 ≤ quoA v d := by
  have h0 : 0 ≤ ab v / ab d := Int.ediv_nonneg (ab_ge v) (by omega)
  unfold quoA
  split <;> omega
/-- The same of numbers with signs: the rest, without its sign. -/
theorem quo_near (v d : Int) (hd : d ≠ 0) : 2 * ab (v - quo v d * d) ≤ ab d ∧ (2 * ab (v - quo v d * d) = ab d → quo v d % 2 = 0) := by
  have hd1 : 1 ≤ ab d := by unfold ab; split <;> omega
  obtain ⟨n1, n2, n3⟩ := quoA_near v d hd1
  have hs : ab (v - quo v d * d) = ab (ab v - quoA v d * ab d) ∧ quo v d % 2 = quoA v d % 2 := by
    unfold quo
    by_cases h1 : v < 0
    · by_cases h2 : d < 0
      · rw [decide_eq_true h1, decide_eq_true h2, if_neg (by decide), ab_neg v h1, ab_neg d h2, Int.mul_neg]
        generalize quoA v d * d = P
        refine ⟨?_, rfl⟩
        unfold ab
        split <;> split <;> omega
      · rw [decide_eq_true h1, decide_eq_false h2, if_pos (by decide), ab_neg v h1, ab_pos d (by omega), Int.neg_mul]
        generalize quoA v d * d = P
        refine ⟨?_, by omega⟩
        unfold ab
        split <;> split <;> omega
    · by_cases h2 : d < 0
      · rw [decide_eq_false h1, decide_eq_true h2, if_pos (by decide), ab_pos v (by omega), ab_neg d h2, Int.mul_neg, Int.neg_mul]
        generalize quoA v d * d = P
        exact ⟨rfl, by omega⟩
      · rw [decide_eq_false h1, decide_eq_false h2, if_neg (by decide), ab_pos v (by omega), ab_pos d (by omega)]
        exact ⟨rfl, rfl⟩
  rw [hs.1, hs.2]
  generalize ab v - quoA v d * ab d = X at *
  unfold ab at *
  constructor
  · split at * <;> split <;> omega
  · intro h
    apply n3
    split at * <;> split at * <;> omega

end Go.Proofs.Ytfcneciknldohaa
