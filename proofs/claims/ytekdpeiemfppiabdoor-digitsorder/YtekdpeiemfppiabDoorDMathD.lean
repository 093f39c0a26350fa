/-
  Plain facts: noughts behind; a minus sign ahead.
-/
import Derived.Test.YtekdpeiemfppiabDoorDMathC
set_option linter.unusedVariables false
set_option linter.unusedSimpArgs false
namespace Go.Proofs.YtekdpeiemfppiabDoor

theorem mod_scale (L i k : Nat) : L * 10 ^ k % 10 ^ (i + k) = L % 10 ^ i * 10 ^ k := by rw [Nat.pow_add, Nat.mul_mod_mul_right]
theorem div_scale (L i k : Nat) : L * 10 ^ k / 10 ^ (i + k) = L / 10 ^ i := by rw [Nat.pow_add, Nat.mul_div_mul_right _ _ (ten_pos k)]
theorem rs_scale (L i k : Nat) : rs (L * 10 ^ k) (i + k) = rs L i := by
  have hp := ten_pos k
  unfold rs
  rw [mod_scale, Nat.pow_add]
  generalize L % 10 ^ i = r
  generalize 10 ^ i = P
  generalize 10 ^ k = T at *
  have h1 : r * T = 0 ↔ r = 0 := by
    rw [Nat.mul_eq_zero]
    omega
  have h2 : 2 * (r * T) < P * T ↔ 2 * r < P := by rw [← Nat.mul_assoc]; exact Nat.mul_lt_mul_right hp
  have h3 : 2 * (r * T) = P * T ↔ 2 * r = P := by rw [← Nat.mul_assoc]; exact Nat.mul_left_inj (by omega)
  simp only [h1, h2, h3]
theorem rq_scale (L i k : Nat) : rq (L * 10 ^ k) (i + k) = rq L i := by unfold rq; rw [rs_scale, div_scale]
/-- The parts of a text of a number. -/
theorem ok_parts (l : List UInt8) (h : pOk l = true) : isD (pA l) = true ∧ ¬ (1 < (pA l).length ∧ gb (pA l) 0 = 48) ∧ ((!pW l) = true → isD (bE l) = true) ∧ ((!pW l) = false → bE l = []) ∧ l = mk (pB l) (pA l) (!pW l) (bE l) := by
  unfold pOk at h
  rw [Bool.and_eq_true] at h
  obtain ⟨h1, h2⟩ := h
  have h1' := h1
  unfold pO at h1
  rw [Bool.and_eq_true] at h1
  refine ⟨h1.1, ?_, ?_, ?_, ?_⟩
  · intro hc
    have := h1.2
    rw [decide_eq_true hc.1, decide_eq_true hc.2] at this
    simp at this
  · intro hw
    have hw' : pW l = false := by simpa using hw
    unfold bE
    rw [hw'] at h2 ⊢
    exact h2
  · intro hw
    have hw' : pW l = true := by simpa using hw
    unfold bE
    rw [hw']
    rfl
  · have e := mk_of l
    unfold mk at e ⊢
    unfold bE
    cases hw : pW l
    · rw [hw] at e; exact e
    · rw [hw] at e; exact e
theorem isD_noughts (k : Nat) : ∀ i, i < (List.replicate k (48 : UInt8)).length → 48 ≤ gb (List.replicate k 48) i ∧ gb (List.replicate k 48) i ≤ 57 := by
  intro i hi
  have : gb (List.replicate k 48) i = 48 := by
    unfold gb
    rw [List.length_replicate] at hi
    simp [List.getD, hi]
  omega
/-- More noughts behind. -/
theorem more_read (l : List UInt8) (k : Nat) (h : pOk l = true) (k0 : 1 ≤ k) (la : (pA l).length ≤ 20) (lb : (bE l).length + k ≤ 40) :
    prX (l ++ (if bE l = [] then [46] else []) ++ List.replicate k 48) = prX l ∧ prH (l ++ (if bE l = [] then [46] else []) ++ List.replicate k 48) = prH l ∧ prE l = 0 ∧ prE (l ++ (if bE l = [] then [46] else []) ++ List.replicate k 48) = 0 := by
  obtain ⟨h1, h2, h3, h4, h5⟩ := ok_parts l h
  obtain ⟨r1, r2, r3⟩ := mk_read (pB l) (pA l) (!pW l) (bE l) h1 h2 h3 h4 la (by omega) _ rfl
  rw [← h5] at r1 r2 r3
  have e : l ++ (if bE l = [] then [46] else []) ++ List.replicate k 48 = mk (pB l) (pA l) true (bE l ++ List.replicate k 48) := by
    have e0 : l ++ (if bE l = [] then [46] else []) = mk (pB l) (pA l) true (bE l) := by
      cases hw : (!pW l)
      · have hb := h4 hw
        rw [hw, hb] at h5
        rw [if_pos hb, hb]
        unfold mk at h5 ⊢
        exact (congrArg (· ++ [46]) h5).trans (by simp)
      · have hb := isD_ne _ (h3 hw)
        rw [hw] at h5
        rw [if_neg hb, List.append_nil]
        exact h5
    rw [e0]
    unfold mk
    simp
  have hF : isD (bE l ++ List.replicate k 48) = true := by
    refine isD_of _ ?_ (by rw [List.length_append, List.length_replicate]; omega)
    refine dig_app _ _ ?_ (isD_noughts k)
    intro i hi
    cases hw : (!pW l)
    · rw [h4 hw] at hi; simp at hi
    · exact isD_at _ (h3 hw) i hi
  have hm : rq (num (pA l ++ (bE l ++ List.replicate k 48)) * 4294967296) (bE l ++ List.replicate k 48).length = rq (num (pA l ++ bE l) * 4294967296) (bE l).length := by
    rw [← List.append_assoc, num_app, num_noughts, List.length_append, List.length_replicate, Nat.add_zero, Nat.mul_right_comm]
    exact rq_scale _ _ _
  obtain ⟨s1, s2, s3⟩ := mk_read (pB l) (pA l) true (bE l ++ List.replicate k 48) h1 h2 (fun _ => hF) (fun h => by cases h) la (by rw [List.length_append, List.length_replicate]; omega) _ hm
  rw [e, r1, r2, s1, s2]
  exact ⟨rfl, rfl, r3, s3⟩
/-- A minus sign ahead. -/
theorem minus_parts (l : List UInt8) (h : pOk l = true) (hB : pB l = false) : pOk (45 :: l) = true ∧ pL (45 :: l) = pL l ∧ pV (45 :: l) = -(pV l) ∧ 0 ≤ pV l := by
  obtain ⟨h1, h2, h3, h4, h5⟩ := ok_parts l h
  have e : 45 :: l = mk true (pA l) (!pW l) (bE l) := by
    rw [hB] at h5
    unfold mk at h5 ⊢
    simp only [Bool.false_eq_true, if_false, List.nil_append, if_true] at h5 ⊢
    rw [← h5]
    rfl
  obtain ⟨q1, q2, q3, q4, q5⟩ := mk_parts true (pA l) (!pW l) (bE l) h1
  have hO := pO_of (pA l) _ q3 h1 h2
  rw [← e] at q1 q3 q4 q5 hO
  have hbE : bE (45 :: l) = bE l := by
    show (if pW (45 :: l) = true then [] else pE (45 :: l)) = bE l
    rw [q4]
    cases hw : (!pW l)
    · rw [h4 hw]; rfl
    · rw [q5 hw]; rfl
  refine ⟨?_, ?_, ?_, ?_⟩
  · unfold pOk
    rw [hO, q4]
    cases hw : (!pW l)
    · rfl
    · rw [q5 hw, h3 hw]; rfl
  · unfold pL; rw [q3, hbE]
  · unfold pV; rw [q1, q3, hbE, hB, if_pos rfl, if_neg (by simp)]
  · unfold pV; rw [hB, if_neg (by simp)]; exact Int.natCast_nonneg _
end Go.Proofs.YtekdpeiemfppiabDoor
