/-
  Plain facts: what is told is read again as it was; noughts behind; a minus sign ahead.
-/
import Derived.Test.YtekdpeiemfppiabDoorDMathB
set_option linter.unusedVariables false
set_option linter.unusedSimpArgs false
namespace Go.Proofs.YtekdpeiemfppiabDoor

theorem byte_dig (n : Nat) (h : n < 10) : (UInt8.ofNat (48 + n)).toNat = 48 + n := by
  rw [UInt8.toNat_ofNat']
  omega
theorem gb_one (b : UInt8) : gb [b] 0 = b.toNat := rfl
/-- The digits of a number: digits, no nought ahead, and the number. -/
theorem dl_good (n : Nat) : isD (dl n) = true ∧ num (dl n) = n ∧ (1 < (dl n).length → gb (dl n) 0 ≠ 48) ∧ (n ≠ 0 → gb (dl n) 0 ≠ 48) := by
  induction n using Nat.strongRecOn with
  | ind n ih =>
    by_cases h : n < 10
    · rw [dl_lt n h]
      have hb := byte_dig n h
      refine ⟨?_, ?_, ?_, ?_⟩
      · unfold isD isd
        simp only [List.all_cons, List.all_nil, Bool.and_true, List.length_cons, List.length_nil]
        rw [hb]
        simp
        omega
      · unfold num
        simp only [List.foldl_cons, List.foldl_nil]
        rw [hb]
        omega
      · intro h1; simp at h1
      · intro h1; rw [gb_one, hb]; omega
    · obtain ⟨i1, i2, i3, i4⟩ := ih (n / 10) (by omega)
      have hb := byte_dig (n % 10) (by omega)
      have hg : gb (dl (n / 10) ++ [UInt8.ofNat (48 + n % 10)]) 0 = gb (dl (n / 10)) 0 := by
        have hne := isD_ne _ i1
        rw [gb_app, if_pos (by cases hx : dl (n / 10) with | nil => exact absurd hx hne | cons x t => simp)]
      rw [dl_ge n h]
      refine ⟨isD_app _ _ i1 ?_, ?_, ?_, ?_⟩
      · intro i hi
        simp at hi
        subst hi
        rw [gb_one, hb]
        omega
      · rw [num_app, i2]
        unfold num
        simp only [List.foldl_cons, List.foldl_nil, List.length_cons, List.length_nil]
        rw [hb]
        omega
      · intro _; rw [hg]; exact i4 (by omega)
      · intro _; rw [hg]; exact i4 (by omega)
/-- The digits behind the point. -/
theorem flg_good (k r : Nat) (hr : r < 4294967296) : (∀ i, i < (flg k r).length → 48 ≤ gb (flg k r) i ∧ gb (flg k r) i ≤ 57) ∧ (flg k r).length ≤ k ∧ (r * 10 ^ k % 4294967296 = 0 → num (flg k r) * 4294967296 = r * 10 ^ (flg k r).length) := by
  induction k generalizing r with
  | zero =>
    refine ⟨fun i hi => by simp [flg] at hi, Nat.le_refl _, fun h => ?_⟩
    rw [Nat.pow_zero, Nat.mul_one, Nat.mod_eq_of_lt hr] at h
    subst h
    rfl
  | succ k ih =>
    by_cases h0 : r = 0
    · subst h0
      refine ⟨fun i hi => by simp [flg] at hi, by simp [flg], fun _ => by simp [flg, num]⟩
    · have e : flg (k + 1) r = UInt8.ofNat (48 + 10 * r / 4294967296) :: flg k (10 * r % 4294967296) := by
        show (if r = 0 then [] else _) = _
        rw [if_neg h0]
      obtain ⟨i1, i2, i3⟩ := ih (10 * r % 4294967296) (Nat.mod_lt _ (by omega))
      have hb := byte_dig (10 * r / 4294967296) (by omega)
      rw [e]
      refine ⟨fun i hi => ?_, by rw [List.length_cons]; omega, fun hz => ?_⟩
      · cases i with
        | zero => rw [gb_zero, hb]; omega
        | succ i => rw [gb_cons]; exact i1 i (by simp at hi; exact hi)
      · have hz2 : 10 * r % 4294967296 * 10 ^ k % 4294967296 = 0 := by
          rw [Nat.mod_mul_mod, Nat.mul_comm 10 r, Nat.mul_assoc, Nat.mul_comm 10, ← Nat.pow_succ]
          exact hz
        have h3 := i3 hz2
        rw [show UInt8.ofNat (48 + 10 * r / 4294967296) :: flg k (10 * r % 4294967296) = [UInt8.ofNat (48 + 10 * r / 4294967296)] ++ flg k (10 * r % 4294967296) from rfl, num_app, List.length_append]
        have hn : num [UInt8.ofNat (48 + 10 * r / 4294967296)] = 10 * r / 4294967296 := by
          unfold num
          simp only [List.foldl_cons, List.foldl_nil]
          rw [hb]
          omega
        rw [hn, Nat.add_mul, h3]
        generalize (flg k (10 * r % 4294967296)).length = m
        rw [show ([UInt8.ofNat (48 + 10 * r / 4294967296)] : List UInt8).length = 1 from rfl, Nat.add_comm 1 m, Nat.pow_succ, Nat.mul_right_comm, ← Nat.add_mul, Nat.mul_comm (10 ^ m) 10, ← Nat.mul_assoc]
        have e9 : 10 * r / 4294967296 * 4294967296 + 10 * r % 4294967296 = r * 10 := by rw [Nat.div_add_mod', Nat.mul_comm]
        rw [e9]
theorem rs_exact (m k : Nat) : rs (m * 10 ^ k) k = 0 := by unfold rs; rw [if_pos (Nat.mul_mod_left _ _)]
theorem rq_exact (m k : Nat) : rq (m * 10 ^ k) k = m := by
  unfold rq
  rw [rs_exact, if_neg (by omega), Nat.mul_div_cancel _ (ten_pos k)]
theorem isD_of (l : List UInt8) (h : ∀ i, i < l.length → 48 ≤ gb l i ∧ gb l i ≤ 57) (hl : 0 < l.length) : isD l = true := by
  unfold isD
  rw [(all_gb l).2 (fun i hi => by have := h i hi; unfold isd; simp; exact this), decide_eq_true hl]
  rfl
theorem rest_33 (r : Nat) : r * 10 ^ 33 % 4294967296 = 0 := by
  have h : (10 : Nat) ^ 33 = 4294967296 * 232830643653869628906250 := by decide
  rw [h, ← Nat.mul_assoc, Nat.mul_comm r, Nat.mul_assoc, Nat.mul_mod_right]

theorem pO_of (A : List UInt8) (l : List UInt8) (h : pA l = A) (hA : isD A = true) (h0 : ¬ (1 < A.length ∧ gb A 0 = 48)) : pO l = true := by
  unfold pO
  rw [h, hA]
  by_cases h1 : 1 < A.length
  · rw [decide_eq_false (fun h2 => h0 ⟨h1, h2⟩)]; simp
  · rw [decide_eq_false h1]; rfl
/-- What such a text is read as. -/
theorem mk_read (neg : Bool) (A : List UInt8) (dot : Bool) (F : List UInt8) (hA : isD A = true) (h0 : ¬ (1 < A.length ∧ gb A 0 = 48)) (hF : dot = true → isD F = true) (hN : dot = false → F = []) (la : A.length ≤ 20) (lf : F.length ≤ 40) (m : Nat)
    (hm : rq (num (A ++ F) * 4294967296) F.length = m) :
    prX (mk neg A dot F) = clv (if neg = true then -(m : Int) else (m : Int)) ∧ prH (mk neg A dot F) = ovv (if neg = true then -(m : Int) else (m : Int)) ∧ prE (mk neg A dot F) = 0 := by
  obtain ⟨q1, q2, q3, q4, q5⟩ := mk_parts neg A dot F hA
  have hO := pO_of A _ q3 hA h0
  have hbE : bE (mk neg A dot F) = F := by
    unfold bE
    rw [q4]
    cases dot
    · exact (hN rfl).symm
    · exact q5 rfl
  have hok : pOk (mk neg A dot F) = true := by
    unfold pOk
    rw [hO, q4]
    cases dot
    · rfl
    · rw [q5 rfl, hF rfl]; rfl
  have hL : pL (mk neg A dot F) = false := by
    unfold pL
    rw [q3, hbE, decide_eq_false (by omega), decide_eq_false (by omega)]
    rfl
  have hV : pV (mk neg A dot F) = if neg = true then -(m : Int) else (m : Int) := by
    unfold pV
    rw [q1, q3, hbE, hm]
  obtain ⟨h1, h2, h3⟩ := pOk_good _ hok hL
  rw [h1, h2, h3, hV]
  exact ⟨rfl, rfl, rfl⟩
/-- A number's text is read as the number. -/
theorem text_back (a : Int) (a0 : -9223372036854775808 ≤ a) (a1 : a ≤ 9223372036854775807) : prX (tl a) = a ∧ prH (tl a) = false ∧ prE (tl a) = 0 ∧ (tl a).length ≤ 60 := by
  obtain ⟨d1, d2, d3, d4⟩ := dl_good (a.natAbs / 4294967296)
  have dlen := dl_len20 (a.natAbs / 4294967296) (by omega)
  have hr : a.natAbs % 4294967296 < 4294967296 := Nat.mod_lt _ (by omega)
  obtain ⟨f1, f2, f3⟩ := flg_good 33 (a.natAbs % 4294967296) hr
  have f3' := f3 (rest_33 _)
  have ha : (if decide (a < 0) = true then -((a.natAbs : Nat) : Int) else ((a.natAbs : Nat) : Int)) = a := by
    by_cases h : a < 0
    · rw [if_pos (decide_eq_true h)]; omega
    · rw [if_neg (by simpa using h)]; omega
  have hcl := clv_in a a0 a1
  by_cases h0 : a.natAbs % 4294967296 = 0
  · have ht : tl a = mk (decide (a < 0)) (dl (a.natAbs / 4294967296)) false [] := by
      unfold tl mk
      rw [if_pos h0, List.append_nil]
      by_cases h : a < 0
      · rw [if_pos h, if_pos (decide_eq_true h)]; simp
      · rw [if_neg h, if_neg (by simpa using h)]; simp
    have hm : rq (num (dl (a.natAbs / 4294967296) ++ []) * 4294967296) ([] : List UInt8).length = a.natAbs := by
      rw [List.append_nil, d2]
      have := rq_exact a.natAbs 0
      rw [Nat.pow_zero, Nat.mul_one] at this
      rw [Nat.div_mul_cancel (Nat.dvd_of_mod_eq_zero h0)]
      exact this
    have h := mk_read (decide (a < 0)) _ false [] d1 (fun h => d3 h.1 h.2) (fun h => by cases h) (fun _ => rfl) (by omega) (by simp) _ hm
    rw [ha, hcl.1, hcl.2] at h
    rw [ht]
    refine ⟨h.1, h.2.1, h.2.2, ?_⟩
    unfold mk
    rw [List.length_append, List.length_append]
    split <;> simp <;> omega
  · have ht : tl a = mk (decide (a < 0)) (dl (a.natAbs / 4294967296)) true (flg 33 (a.natAbs % 4294967296)) := by
      unfold tl mk
      rw [if_neg h0, flf_flg 33 _ hr, List.append_assoc]
      by_cases h : a < 0
      · rw [if_pos h, if_pos (decide_eq_true h)]; simp
      · rw [if_neg h, if_neg (by simpa using h)]; simp
    have hflen : 0 < (flg 33 (a.natAbs % 4294967296)).length := by
      show 0 < (if a.natAbs % 4294967296 = 0 then [] else _).length
      rw [if_neg h0]
      simp
    have hm : rq (num (dl (a.natAbs / 4294967296) ++ flg 33 (a.natAbs % 4294967296)) * 4294967296) (flg 33 (a.natAbs % 4294967296)).length = a.natAbs := by
      rw [num_app, d2, Nat.add_mul, f3', Nat.mul_right_comm, ← Nat.add_mul]
      rw [show a.natAbs / 4294967296 * 4294967296 + a.natAbs % 4294967296 = a.natAbs from Nat.div_add_mod' _ _]
      exact rq_exact _ _
    have h := mk_read (decide (a < 0)) _ true _ d1 (fun h => d3 h.1 h.2) (fun _ => isD_of _ f1 hflen) (fun h => by cases h) (by omega) (by omega) _ hm
    rw [ha, hcl.1, hcl.2] at h
    rw [ht]
    refine ⟨h.1, h.2.1, h.2.2, ?_⟩
    unfold mk
    rw [List.length_append, List.length_append]
    split <;> simp <;> omega
end Go.Proofs.YtekdpeiemfppiabDoor
