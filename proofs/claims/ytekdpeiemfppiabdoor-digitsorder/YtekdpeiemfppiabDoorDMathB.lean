/-
  Plain facts on texts: their parts, put together and taken apart; numbers of digits.
-/
import Derived.Test.YtekdpeiemfppiabDoorDMathA
set_option linter.unusedVariables false
set_option linter.unusedSimpArgs false
namespace Go.Proofs.YtekdpeiemfppiabDoor

/-- A text of these parts. -/
def mk (neg : Bool) (A : List UInt8) (dot : Bool) (F : List UInt8) : List UInt8 := (if neg = true then [45] else []) ++ (A ++ (if dot = true then 46 :: F else []))
theorem gb_zero (b : UInt8) (t : List UInt8) : gb (b :: t) 0 = b.toNat := rfl
theorem pos_of (A T : List UInt8) (hA : ∀ i, i < A.length → gb A i ≠ 46) (hT : T = [] ∨ gb T 0 = 46) : pos (A ++ T) = A.length := by
  refine pos_is _ _ (by rw [List.length_append]; omega) (fun i hi => ?_) ?_
  · rw [gb_app, if_pos hi]; exact hA i hi
  · rcases hT with h | h
    · subst h; left; simp
    · right; rw [gb_app, if_neg (by omega), Nat.sub_self]; exact h
theorem mk_parts (neg : Bool) (A : List UInt8) (dot : Bool) (F : List UInt8) (hA : isD A = true) :
    pB (mk neg A dot F) = neg ∧ pS (mk neg A dot F) = A ++ (if dot = true then 46 :: F else []) ∧ pA (mk neg A dot F) = A ∧ pW (mk neg A dot F) = !dot ∧ (dot = true → pE (mk neg A dot F) = F) := by
  have hne := isD_ne A hA
  have hlen : 1 ≤ A.length := by cases A with | nil => exact absurd rfl hne | cons x t => simp
  have hd := isD_at A hA
  have hB : pB (mk neg A dot F) = neg := by
    unfold pB mk
    cases neg
    · have h0 := hd 0 (by omega)
      simp only [Bool.false_eq_true, if_false, List.nil_append]
      rw [show gb (A ++ (if dot = true then 46 :: F else [])) 0 = gb A 0 from by rw [gb_app]; exact if_pos (by omega), decide_eq_false (show ¬ gb A 0 = 45 by omega), Bool.and_false]
    · simp only [if_true]
      rw [show gb ([45] ++ (A ++ if dot = true then 46 :: F else [])) 0 = 45 from rfl]
      simp
  have hS : pS (mk neg A dot F) = A ++ (if dot = true then 46 :: F else []) := by
    unfold pS
    rw [hB]
    unfold mk
    cases neg <;> simp
  have hP : pos (A ++ (if dot = true then 46 :: F else [])) = A.length := by
    refine pos_of A _ (fun i hi => by have := hd i hi; omega) ?_
    cases dot
    · left; rfl
    · right; rfl
  refine ⟨hB, hS, ?_, ?_, ?_⟩
  · unfold pA; rw [hS, hP]; simp
  · unfold pW; rw [hS, hP, List.length_append]
    cases dot <;> simp
  · intro h
    subst h
    unfold pE; rw [hS, hP]
    simp only [if_true]
    rw [List.drop_append]
    simp
/-- What is a text of a number is of such parts. -/
theorem mk_of (l : List UInt8) : l = mk (pB l) (pA l) (!pW l) (pE l) := by
  have h1 : l = (if pB l = true then [45] else []) ++ pS l := by
    unfold pS
    cases h : pB l
    · simp
    · unfold pB at h
      rw [Bool.and_eq_true] at h
      simp at h
      cases l with
      | nil => simp at h
      | cons b t =>
        have hb : b = 45 := by
          have h2 := h.2
          rw [gb_zero] at h2
          exact UInt8.toNat_inj.1 h2
        subst hb
        simp
  have hpl := pos_le (pS l)
  have h2 : pS l = pA l ++ (if (!pW l) = true then 46 :: pE l else []) := by
    unfold pA pE
    cases h : pW l
    · unfold pW at h
      simp at h
      have hlt : pos (pS l) < (pS l).length := by omega
      have h46 : (pS l)[pos (pS l)]'hlt = 46 := by
        have : gb (pS l) (pos (pS l)) = 46 := by
          generalize pS l = q at *
          clear h1 h hpl
          induction q with
          | nil => simp at hlt
          | cons b t ih =>
            by_cases hb : b.toNat = 46
            · have : pos (b :: t) = 0 := by unfold pos; rw [if_pos hb]
              rw [this]; exact hb
            · have e : pos (b :: t) = pos t + 1 := by show (if b.toNat = 46 then 0 else pos t + 1) = _; rw [if_neg hb]
              rw [e, gb_cons]
              refine ih ?_
              rw [e] at hlt
              simp at hlt
              exact hlt
        have e : gb (pS l) (pos (pS l)) = ((pS l)[pos (pS l)]'hlt).toNat := by unfold gb; simp [List.getD, hlt]
        rw [e] at this
        exact UInt8.toNat_inj.1 this
      simp only [Bool.not_false, if_true]
      have e2 := List.drop_eq_getElem_cons hlt
      rw [h46] at e2
      rw [← e2, List.take_append_drop]
    · unfold pW at h
      simp at h
      simp only [Bool.not_true, Bool.false_eq_true, if_false, List.append_nil]
      rw [h, List.take_length]
  unfold mk
  rw [← h2]
  exact h1
theorem num_app (a b : List UInt8) : num (a ++ b) = num a * 10 ^ b.length + num b := by
  have gen : ∀ (b : List UInt8) (x : Nat), b.foldl (fun n b => 10 * n + (b.toNat - 48)) x = x * 10 ^ b.length + b.foldl (fun n b => 10 * n + (b.toNat - 48)) 0 := by
    intro b
    induction b with
    | nil => intro x; simp
    | cons c t ih =>
      intro x
      rw [List.foldl_cons, List.foldl_cons, ih (10 * x + (c.toNat - 48)), ih (10 * 0 + (c.toNat - 48)), List.length_cons, Nat.pow_succ, Nat.add_mul, Nat.mul_zero, Nat.zero_add, Nat.mul_comm 10 x, Nat.mul_assoc, Nat.mul_comm 10 (10 ^ t.length)]
      omega
  unfold num
  rw [List.foldl_append, gen b]
theorem num_noughts (k : Nat) : num (List.replicate k 48) = 0 := by
  induction k with
  | zero => rfl
  | succ k ih =>
    rw [List.replicate_succ', num_app, ih]
    rfl
theorem isD_app (a b : List UInt8) (ha : isD a = true) (hb : ∀ i, i < b.length → 48 ≤ gb b i ∧ gb b i ≤ 57) : isD (a ++ b) = true := by
  have hne := isD_ne a ha
  have h := dig_app a b (fun i hi => isD_at a ha i hi) hb
  unfold isD
  rw [(all_gb (a ++ b)).2 (fun i hi => by have := h i hi; unfold isd; simp; exact this)]
  cases a with
  | nil => exact absurd rfl hne
  | cons x t => simp
end Go.Proofs.YtekdpeiemfppiabDoor
