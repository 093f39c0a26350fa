/-
  Plain facts: the order of texts of as many digits is that of their numbers.
-/
import Derived.Test.YtekdpeiemfppiabDoorDMathD
set_option linter.unusedVariables false
set_option linter.unusedSimpArgs false
namespace Go.Proofs.YtekdpeiemfppiabDoor

theorem num_cons (c : UInt8) (t : List UInt8) : num (c :: t) = (c.toNat - 48) * 10 ^ t.length + num t := by
  rw [show c :: t = [c] ++ t from rfl, num_app]
  congr 1
  unfold num
  simp
theorem num_bound (t : List UInt8) (h : ∀ i, i < t.length → 48 ≤ gb t i ∧ gb t i ≤ 57) : num t < 10 ^ t.length := (num_all t h).1
/-- Texts of as many digits, a sign of the same place between. -/
theorem less_num (A A' E E' M : List UInt8) (hl : A.length = A'.length) (he : E.length = E'.length) (hA : ∀ i, i < A.length → 48 ≤ gb A i ∧ gb A i ≤ 57) (hA' : ∀ i, i < A'.length → 48 ≤ gb A' i ∧ gb A' i ≤ 57)
    (hE : ∀ i, i < E.length → 48 ≤ gb E i ∧ gb E i ≤ 57) (hE' : ∀ i, i < E'.length → 48 ≤ gb E' i ∧ gb E' i ≤ 57) (h : Op.bytesLess (A ++ (M ++ E)) (A' ++ (M ++ E')) = true) : num (A ++ E) ≤ num (A' ++ E') := by
  induction A generalizing A' with
  | nil =>
    cases A' with
    | cons x t => simp at hl
    | nil =>
      rw [List.nil_append, List.nil_append] at h ⊢
      have h2 : Op.bytesLess E E' = true := by
        induction M with
        | nil => exact h
        | cons m M ih =>
          apply ih
          rw [List.cons_append, List.cons_append] at h
          unfold Op.bytesLess at h
          simp at h
          exact h
      clear h
      induction E generalizing E' with
      | nil => exact Nat.zero_le _
      | cons c t ih =>
        cases E' with
        | nil => simp at he
        | cons d u =>
          have hlen : t.length = u.length := by simp at he; exact he
          have hc := hE 0 (by simp)
          have hd := hE' 0 (by simp)
          rw [gb_zero] at hc hd
          have ht : ∀ i, i < t.length → 48 ≤ gb t i ∧ gb t i ≤ 57 := fun i hi => hE (i + 1) (by simp; exact hi)
          have hu : ∀ i, i < u.length → 48 ≤ gb u i ∧ gb u i ≤ 57 := fun i hi => hE' (i + 1) (by simp; exact hi)
          rw [num_cons, num_cons, ← hlen]
          unfold Op.bytesLess at h2
          rw [Bool.or_eq_true, Bool.and_eq_true] at h2
          have hb := num_bound t ht
          rcases h2 with h2 | ⟨h2, h3⟩
          · have hlt : c.toNat < d.toNat := by simpa [UInt8.lt_iff_toNat_lt] using h2
            have hm := Nat.mul_le_mul_right (10 ^ t.length) (show c.toNat - 48 + 1 ≤ d.toNat - 48 by omega)
            rw [Nat.add_mul, Nat.one_mul] at hm
            omega
          · have heq : c = d := by simpa using h2
            subst heq
            have := ih u hlen ht hu h3
            omega
  | cons c t ih =>
    cases A' with
    | nil => simp at hl
    | cons d u =>
      have hlen : t.length = u.length := by simp at hl; exact hl
      have hc := hA 0 (by simp)
      have hd := hA' 0 (by simp)
      rw [gb_zero] at hc hd
      have ht : ∀ i, i < t.length → 48 ≤ gb t i ∧ gb t i ≤ 57 := fun i hi => hA (i + 1) (by simp; exact hi)
      have hu : ∀ i, i < u.length → 48 ≤ gb u i ∧ gb u i ≤ 57 := fun i hi => hA' (i + 1) (by simp; exact hi)
      rw [List.cons_append, List.cons_append] at h ⊢
      rw [num_cons, num_cons]
      unfold Op.bytesLess at h
      rw [Bool.or_eq_true, Bool.and_eq_true] at h
      have hb := num_bound (t ++ E) (dig_app t E ht hE)
      have hle : (u ++ E').length = (t ++ E).length := by rw [List.length_append, List.length_append, hlen, he]
      rw [hle]
      rcases h with h | ⟨h, h3⟩
      · have hlt : c.toNat < d.toNat := by simpa [UInt8.lt_iff_toNat_lt] using h
        have hm := Nat.mul_le_mul_right (10 ^ (t ++ E).length) (show c.toNat - 48 + 1 ≤ d.toNat - 48 by omega)
        rw [Nat.add_mul, Nat.one_mul] at hm
        omega
      · have heq : c = d := by simpa using h
        subst heq
        have := ih u hlen ht hu h3
        omega
theorem less_tri (a b : List UInt8) (h1 : Op.bytesLess a b = false) (h2 : a ≠ b) : Op.bytesLess b a = true := by
  induction a generalizing b with
  | nil =>
    cases b with
    | nil => exact absurd rfl h2
    | cons x t => simp [Op.bytesLess] at h1
  | cons c t ih =>
    cases b with
    | nil => rfl
    | cons d u =>
      unfold Op.bytesLess at h1 ⊢
      rw [Bool.or_eq_false_iff] at h1
      rw [Bool.or_eq_true, Bool.and_eq_true]
      have hn : ¬ c < d := by simpa using h1.1
      by_cases hcd : c = d
      · subst hcd
        right
        have h3 := h1.2
        simp at h3
        exact ⟨by simp, ih u h3 (fun h => h2 (by rw [h]))⟩
      · left
        simp
        rw [UInt8.lt_iff_toNat_lt] at hn ⊢
        have : c.toNat ≠ d.toNat := fun h => hcd (UInt8.toNat_inj.1 h)
        omega
theorem up_mono (q q' r r' P : Nat) (hr : r < P) (hr' : r' < P) (h : q * P + r ≤ q' * P + r') (U U' : Prop) [Decidable U] [Decidable U'] (hU : q = q' → r ≤ r' → U → U') : (if U then q + 1 else q) ≤ (if U' then q' + 1 else q') := by
  rcases Nat.lt_or_ge q q' with h1 | h1
  · split <;> split <;> omega
  · have hqq : q = q' := by
      rcases Nat.lt_or_ge q' q with h2 | h2
      · exfalso
        have := Nat.mul_le_mul_right P (show q' + 1 ≤ q by omega)
        rw [Nat.add_mul, Nat.one_mul] at this
        omega
      · omega
    subst hqq
    have hrr : r ≤ r' := by omega
    by_cases hu : U
    · rw [if_pos hu, if_pos (hU rfl hrr hu)]; omega
    · rw [if_neg hu]; split <;> omega
theorem rq_mono (L L' k : Nat) (h : L ≤ L') : rq L k ≤ rq L' k := by
  have hp := ten_pos k
  unfold rq
  refine up_mono (L / 10 ^ k) (L' / 10 ^ k) (L % 10 ^ k) (L' % 10 ^ k) (10 ^ k) (Nat.mod_lt _ hp) (Nat.mod_lt _ hp) (by rw [Nat.div_add_mod', Nat.div_add_mod']; exact h) _ _ ?_
  intro hq hr hU
  rw [← hq]
  have hm' := Nat.mod_lt L' hp
  unfold rs at hU ⊢
  generalize L % 10 ^ k = r at *
  generalize L' % 10 ^ k = r' at *
  generalize 10 ^ k = P at *
  by_cases c0 : r = 0
  · rw [if_pos c0] at hU; omega
  · rw [if_neg c0] at hU
    rw [if_neg (show ¬ r' = 0 by omega)]
    by_cases c1 : 2 * r < P
    · rw [if_pos c1] at hU; omega
    · rw [if_neg c1] at hU
      rw [if_neg (show ¬ 2 * r' < P by omega)]
      by_cases c2 : 2 * r = P
      · rw [if_pos c2] at hU
        by_cases c3 : 2 * r' = P
        · rw [if_pos c3]; exact hU
        · rw [if_neg c3]; left; rfl
      · rw [if_neg (show ¬ 2 * r' = P by omega)]; left; rfl
theorem clv_rise (u v : Int) (h : u ≤ v) : clv u ≤ clv v := by
  unfold clv
  split
  · split
    · omega
    · split <;> omega
  · split
    · split
      · omega
      · split <;> omega
    · split
      · omega
      · split <;> omega
/-- Two texts of as many digits. -/
theorem order_read (l t : List UInt8) (hl : pOk l = true) (ht : pOk t = true) (bl : pB l = false) (bt : pB t = false) (la : (pA l).length = (pA t).length) (lb : (bE l).length = (bE t).length) :
    prE l = prE t ∧ (Op.bytesLess l t = true → prX l ≤ prX t) := by
  obtain ⟨h1, h2, h3, h4, h5⟩ := ok_parts l hl
  obtain ⟨k1, k2, k3, k4, k5⟩ := ok_parts t ht
  have hL : pL l = pL t := by unfold pL; rw [la, lb]
  have hdot : (!pW l) = (!pW t) := by
    cases hw : (!pW l)
    · cases hv : (!pW t)
      · rfl
      · have e1 := h4 hw
        have e2 := isD_ne _ (k3 hv)
        rw [e1] at lb
        exact absurd (List.eq_nil_of_length_eq_zero lb.symm) e2
    · cases hv : (!pW t)
      · have e1 := k4 hv
        have e2 := isD_ne _ (h3 hw)
        rw [e1] at lb
        exact absurd (List.eq_nil_of_length_eq_zero lb) e2
      · rfl
  refine ⟨by unfold prE; rw [hl, ht, hL], fun hb => ?_⟩
  have hd1 : ∀ i, i < (bE l).length → 48 ≤ gb (bE l) i ∧ gb (bE l) i ≤ 57 := by
    intro i hi
    cases hw : (!pW l)
    · rw [h4 hw] at hi; simp at hi
    · exact isD_at _ (h3 hw) i hi
  have hd2 : ∀ i, i < (bE t).length → 48 ≤ gb (bE t) i ∧ gb (bE t) i ≤ 57 := by
    intro i hi
    cases hw : (!pW t)
    · rw [k4 hw] at hi; simp at hi
    · exact isD_at _ (k3 hw) i hi
  have hn : num (pA l ++ bE l) ≤ num (pA t ++ bE t) := by
    refine less_num (pA l) (pA t) (bE l) (bE t) (if (!pW l) = true then [46] else []) la lb (isD_at _ h1) (isD_at _ k1) hd1 hd2 ?_
    have e1 : l = pA l ++ ((if (!pW l) = true then [46] else []) ++ bE l) := by
      rw [bl] at h5
      unfold mk at h5
      cases hw : (!pW l)
      · rw [hw] at h5
        rw [h4 hw] at h5 ⊢
        exact h5
      · rw [hw] at h5
        exact h5
    have e2 : t = pA t ++ ((if (!pW l) = true then [46] else []) ++ bE t) := by
      rw [hdot]
      rw [bt] at k5
      unfold mk at k5
      cases hw : (!pW t)
      · rw [hw] at k5
        rw [k4 hw] at k5 ⊢
        exact k5
      · rw [hw] at k5
        exact k5
    rw [← e1, ← e2]
    exact hb
  have hV : pV l ≤ pV t := by
    unfold pV
    rw [bl, bt, if_neg (by simp), if_neg (by simp), lb]
    have := rq_mono _ _ (bE t).length (Nat.mul_le_mul_right 4294967296 hn)
    omega
  unfold prX
  rw [hl, ht, hL, if_pos rfl, if_pos rfl]
  split
  · omega
  · exact clv_rise _ _ hV
end Go.Proofs.YtekdpeiemfppiabDoor
