/-
  Plain arithmetic: what a number told as a float is read as again.
-/
import Derived.Test.YtpmlpcejmndidabFWalkB
set_option linter.unusedVariables false
set_option linter.unusedSimpArgs false
namespace Go.Proofs.Ytpmlpcejmndidab

theorem rr_up (x : Int) (j : Nat) : rr (x * 2 ^ j) j = x := by
  unfold rr
  by_cases h : j = 0
  · subst h; rw [if_pos rfl, Int.pow_zero, Int.mul_one]
  · rw [if_neg h]
    have hp := pow_pos' j
    have hp2 := pow_pos' (j - 1)
    unfold rnd
    rw [Int.mul_emod_left, Int.mul_ediv_cancel _ (by omega), c3_lt _ _ (by omega)]
    have : gu (-1) (lo x) = false := by unfold gu; simp
    rw [this]
    rfl
theorem rr_near (M : Int) (k : Nat) (hk : 1 ≤ k) : M - 2 ^ (k - 1) ≤ rr M k * 2 ^ k ∧ rr M k * 2 ^ k ≤ M + 2 ^ (k - 1) := by
  have hp := pow_pos' (k - 1)
  have hP : (2 : Int) ^ k = 2 ^ (k - 1) + 2 ^ (k - 1) := by rw [← pow_two, show k - 1 + 1 = k by omega]
  have h1 := Int.mul_ediv_add_emod M (2 ^ k)
  have h3 := Int.emod_nonneg M (show (2 : Int) ^ k ≠ 0 by omega)
  have h4 := Int.emod_lt_of_pos M (show (0 : Int) < 2 ^ k by omega)
  unfold rr
  rw [if_neg (by omega)]
  unfold rnd
  rw [Int.mul_comm] at h1
  have g1 : ∀ l, ¬ gu (-1) l = true := by intro l; unfold gu; simp
  have g2 : ∀ l, gu 1 l = true := by intro l; unfold gu; simp
  rcases (show M % 2 ^ k < 2 ^ (k - 1) ∨ M % 2 ^ k = 2 ^ (k - 1) ∨ 2 ^ (k - 1) < M % 2 ^ k by omega) with h | h | h
  · rw [c3_lt _ _ h, if_neg (g1 _)]
    omega
  · split
    · rw [Int.add_mul, Int.one_mul]; omega
    · omega
  · rw [c3_gt _ _ h, if_pos (g2 _), Int.add_mul, Int.one_mul]
    omega

/-- The bits of a number told as a float. -/
theorem fb_int (a : Int) (ha : a ≠ 0) : (fb a : Int) = (if a < 0 then 9223372036854775808 else 0) + ((a.natAbs.log2 : Int) + 990) * 4503599627370496 + (kp a.natAbs : Int) := by
  unfold fb
  rw [if_neg ha, word_d]
  by_cases h : a < 0
  · rw [if_pos (decide_eq_true h), if_pos h]
    generalize a.natAbs.log2 = L
    generalize kp a.natAbs = K
    rw [Int.natCast_add, Int.natCast_add, Int.natCast_mul, Int.natCast_add, ← Int.add_assoc]
    rfl
  · rw [if_neg (by simpa using h), if_neg h]
    generalize a.natAbs.log2 = L
    generalize kp a.natAbs = K
    rw [Int.natCast_add, Int.natCast_mul, Int.natCast_add, Int.zero_add]
    rfl
theorem fb_lt (a : Int) (a0 : -9223372036854775808 ≤ a) (a1 : a ≤ 9223372036854775807) : fb a < 18446744073709551616 := by
  by_cases ha : a = 0
  · subst ha; decide
  · have hm : a.natAbs ≠ 0 := by omega
    have hm1 : a.natAbs ≤ 9223372036854775808 := by omega
    have hl := log2_le63 _ hm hm1
    obtain ⟨k0, k1, _⟩ := kp_rng _ hm hm1
    have h := fb_int a ha
    generalize a.natAbs.log2 = L at *
    generalize kp a.natAbs = K at *
    have : ((fb a : Nat) : Int) < 18446744073709551616 := by rw [h]; split <;> omega
    omega
theorem fields (B s L K : Int) (hs : s = 0 ∨ s = 9223372036854775808) (L0 : 0 ≤ L) (L1 : L ≤ 63) (K0 : 4503599627370496 ≤ K) (hB : B = s + (L + 990) * 4503599627370496 + K) :
    (K < 9007199254740992 → fE B = L + 991 ∧ fF B = K - 4503599627370496) ∧ (K = 9007199254740992 → fE B = L + 992 ∧ fF B = 0) ∧ (K ≤ 9007199254740992 → (B / 9223372036854775808 = 1 ↔ s = 9223372036854775808)) := by
  subst hB
  unfold fE fF
  refine ⟨fun h => ?_, fun h => ?_, fun h => ?_⟩
  · rcases hs with h' | h' <;> subst h' <;> constructor <;> omega
  · subst h
    rcases hs with h' | h' <;> subst h' <;> constructor <;> omega
  · rcases hs with h' | h' <;> subst h' <;> constructor <;> intro h2 <;> omega
theorem big_near (m : Nat) (hm : m ≠ 0) (hm1 : m ≤ 9223372036854775808) (h53 : 53 ≤ m.log2) :
    (m : Int) - 512 ≤ (kp m : Int) * 2 ^ (m.log2 - 52) ∧ (kp m : Int) * 2 ^ (m.log2 - 52) ≤ m + 512 ∧ (kp m : Int) * 2 ^ (m.log2 - 52) ≤ 9223372036854775808 := by
  have hl := log2_le63 _ hm hm1
  obtain ⟨l0, l1⟩ := log2_rng _ hm
  obtain ⟨k0, k1, _⟩ := kp_rng _ hm hm1
  have hk : (kp m : Int) = rr (m : Int) (m.log2 - 52) := by
    have : kp m = (rr (m : Int) (m.log2 - 52)).toNat := by unfold kp; rw [if_neg (by omega)]
    omega
  by_cases h63 : m.log2 = 63
  · rw [h63] at l0
    have hm2 : m = 9223372036854775808 := by omega
    have he : (kp m : Int) * 2 ^ (m.log2 - 52) = m := by
      have h := rr_up 4503599627370496 11
      rw [hk, h63, hm2]
      have e : ((9223372036854775808 : Nat) : Int) = 4503599627370496 * 2 ^ 11 := by decide
      rw [e, h]
    omega
  · have hn := rr_near (m : Int) (m.log2 - 52) (by omega)
    rw [← hk] at hn
    have hp : (2 : Int) ^ (m.log2 - 52 - 1) ≤ 512 := by
      have h1 : (2 : Nat) ^ (m.log2 - 52 - 1) ≤ 2 ^ 9 := Nat.pow_le_pow_right (by omega) (by omega)
      have h2 : ((2 ^ (m.log2 - 52 - 1) : Nat) : Int) ≤ ((2 ^ 9 : Nat) : Int) := Int.ofNat_le.2 h1
      rw [Int.natCast_pow] at h2
      exact h2
    have hq : (2 : Int) ^ (m.log2 - 52) ≤ 1024 := by
      have h1 : (2 : Nat) ^ (m.log2 - 52) ≤ 2 ^ 10 := Nat.pow_le_pow_right (by omega) (by omega)
      have h2 : ((2 ^ (m.log2 - 52) : Nat) : Int) ≤ ((2 ^ 10 : Nat) : Int) := Int.ofNat_le.2 h1
      rw [Int.natCast_pow] at h2
      exact h2
    have hr := Int.mul_le_mul (show (kp m : Int) ≤ 9007199254740992 by omega) hq (by have := pow_pos' (m.log2 - 52); omega) (by omega)
    omega
/-- The number that it is read as again. -/
theorem fV_fb (a : Int) (a0 : -9223372036854775808 ≤ a) (a1 : a ≤ 9223372036854775807) :
    fN (fb a) = false ∧ ((-9007199254740992 < a ∧ a < 9007199254740992) → fV (fb a) = a) ∧ (¬ (-9007199254740992 < a ∧ a < 9007199254740992) → a - 512 ≤ fV (fb a) ∧ fV (fb a) ≤ a + 512 ∧ -9223372036854775808 ≤ fV (fb a)) := by
  by_cases ha : a = 0
  · subst ha
    have h0 : fb 0 = 0 := rfl
    rw [h0]
    refine ⟨by decide, fun _ => ?_, fun h => by omega⟩
    unfold fV
    rw [if_neg (by decide)]
    have e1 : fS ((0 : Nat) : Int) = 0 := by decide
    rw [e1]
    have h := rr_up 0 (-(fP ((0 : Nat) : Int) + 32)).toNat
    rw [Int.zero_mul] at h
    exact h
  · have hm : a.natAbs ≠ 0 := by omega
    have hm1 : a.natAbs ≤ 9223372036854775808 := by omega
    have hl := log2_le63 _ hm hm1
    obtain ⟨l0, l1⟩ := log2_rng _ hm
    obtain ⟨k0, k1, k2⟩ := kp_rng _ hm hm1
    have hB := fb_int a ha
    have hf := fields (fb a) (if a < 0 then 9223372036854775808 else 0) a.natAbs.log2 (kp a.natAbs) (by split <;> omega) (by omega) (by omega) (by omega) hB
    obtain ⟨f1, f2, f3⟩ := hf
    have f3' := f3 (by omega)
    have hsg : ∀ D : Int, fD (fb a) = D → fS (fb a) = if a < 0 then -D else D := by
      intro D hD
      unfold fS
      rw [hD]
      by_cases h : a < 0
      · rw [if_pos h] at f3'
        rw [if_pos (f3'.2 rfl), if_pos h]
      · rw [if_neg h] at f3'
        rw [if_neg (fun h2 => by have := f3'.1 h2; omega), if_neg h]
    by_cases hK : kp a.natAbs < 9007199254740992
    · obtain ⟨e1, e2⟩ := f1 (by omega)
      have hD : fD (fb a) = kp a.natAbs := by unfold fD; rw [e1, e2, if_pos (by omega)]; omega
      have hP : fP (fb a) + 32 = a.natAbs.log2 - 52 := by unfold fP; rw [e1, if_pos (by omega)]; omega
      have hS := hsg _ hD
      refine ⟨by unfold fN; rw [e1, decide_eq_false (by omega)]; rfl, ?_, ?_⟩
      · intro hr
        have hl52 : a.natAbs.log2 ≤ 52 := by
          have : a.natAbs.log2 < 53 := (Nat.log2_lt hm).2 (by omega)
          omega
        unfold fV
        rw [hP, if_neg (by omega), hS, show (-((a.natAbs.log2 : Int) - 52)).toNat = 52 - a.natAbs.log2 by omega]
        have hk : kp a.natAbs = a.natAbs * 2 ^ (52 - a.natAbs.log2) := by unfold kp; rw [if_pos hl52]
        have he : (if a < 0 then -(kp a.natAbs : Int) else (kp a.natAbs : Int)) = a * 2 ^ (52 - a.natAbs.log2) := by
          rw [hk, Int.natCast_mul, Int.natCast_pow]
          by_cases h : a < 0
          · rw [if_pos h, ← Int.neg_mul, show -(a.natAbs : Int) = a by omega]; rfl
          · rw [if_neg h, show (a.natAbs : Int) = a by omega]; rfl
        rw [he]
        exact rr_up _ _
      · intro hr
        have hl53 : 53 ≤ a.natAbs.log2 := (Nat.le_log2 hm).2 (by omega)
        obtain ⟨n1, n2, n3⟩ := big_near _ hm hm1 hl53
        unfold fV
        rw [hP, if_pos (by omega), hS, show (min ((a.natAbs.log2 : Int) - 52) 64).toNat = a.natAbs.log2 - 52 by omega]
        by_cases h : a < 0
        · rw [if_pos h, Int.neg_mul]
          generalize (kp a.natAbs : Int) * 2 ^ (a.natAbs.log2 - 52) = X at *
          omega
        · rw [if_neg h]
          generalize (kp a.natAbs : Int) * 2 ^ (a.natAbs.log2 - 52) = X at *
          omega
    · have hK2 : kp a.natAbs = 9007199254740992 := by omega
      have hl53 : 53 ≤ a.natAbs.log2 := by
        by_cases h : 53 ≤ a.natAbs.log2
        · exact h
        · exact absurd (k2 (by omega)) hK
      obtain ⟨e1, e2⟩ := f2 (by omega)
      have hD : fD (fb a) = 4503599627370496 := by unfold fD; rw [e1, e2, if_pos (by omega)]; rfl
      have hP : fP (fb a) + 32 = a.natAbs.log2 - 51 := by unfold fP; rw [e1, if_pos (by omega)]; omega
      have hS := hsg _ hD
      refine ⟨by unfold fN; rw [e1, decide_eq_false (by omega)]; rfl, ?_, ?_⟩
      · intro hr
        have : a.natAbs.log2 < 53 := (Nat.log2_lt hm).2 (by omega)
        omega
      · intro hr
        obtain ⟨n1, n2, n3⟩ := big_near _ hm hm1 hl53
        have hX : (4503599627370496 : Int) * 2 ^ (a.natAbs.log2 - 51) = (kp a.natAbs : Int) * 2 ^ (a.natAbs.log2 - 52) := by
          rw [hK2, show a.natAbs.log2 - 51 = a.natAbs.log2 - 52 + 1 by omega, Int.pow_succ, Int.mul_comm ((2 : Int) ^ _) 2, ← Int.mul_assoc]
          rfl
        unfold fV
        rw [hP, if_pos (by omega), hS, show (min ((a.natAbs.log2 : Int) - 51) 64).toNat = a.natAbs.log2 - 51 by omega]
        by_cases h : a < 0
        · rw [if_pos h, Int.neg_mul, hX]
          generalize (kp a.natAbs : Int) * 2 ^ (a.natAbs.log2 - 52) = X at *
          omega
        · rw [if_neg h, hX]
          generalize (kp a.natAbs : Int) * 2 ^ (a.natAbs.log2 - 52) = X at *
          omega
end Go.Proofs.Ytpmlpcejmndidab
