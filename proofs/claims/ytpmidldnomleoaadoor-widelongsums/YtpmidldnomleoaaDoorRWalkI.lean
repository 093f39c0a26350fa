/-
  The contract of regattaref01's Round.
-/
import Derived.Test.YtpmidldnomleoaaDoorRWalkH
set_option linter.unusedVariables false
set_option linter.unusedSimpArgs false
namespace Go.Proofs.YtpmidldnomleoaaDoor
open Go.RowKit

theorem inr_wide (m m' : Nat) (a : Int) (m0 : 1 ≤ m) (h : m ≤ m') (hr : InR m a) : InR m' a := by
  have hp : (2 : Int) ^ (m - 1) ≤ 2 ^ (m' - 1) := by
    have h2 : (2 : Nat) ^ (m - 1) ≤ 2 ^ (m' - 1) := Nat.pow_le_pow_right (by omega) (by omega)
    have h3 : (((2 : Nat) ^ (m - 1) : Nat) : Int) ≤ (((2 : Nat) ^ (m' - 1) : Nat) : Int) := by omega
    rw [Int.natCast_pow, Int.natCast_pow] at h3
    exact h3
  obtain ⟨h0, h1⟩ := hr
  exact ⟨by omega, by omega⟩
theorem inr_pow (m n : Nat) (x : Int) (h : n + 2 ≤ m) (x0 : 0 ≤ x) (x1 : x ≤ 2 ^ n) : InR m x := by
  have hp := pow_pos' n
  have h2 := pow_two n
  have h3 : (2 : Int) ^ (n + 1) ≤ 2 ^ (m - 1) := by
    have h2 : (2 : Nat) ^ (n + 1) ≤ 2 ^ (m - 1) := Nat.pow_le_pow_right (by omega) (by omega)
    have h3 : (((2 : Nat) ^ (n + 1) : Nat) : Int) ≤ (((2 : Nat) ^ (m - 1) : Nat) : Int) := by omega
    rw [Int.natCast_pow, Int.natCast_pow] at h3
    exact h3
  exact ⟨by omega, by omega⟩
theorem c3_twice (x y : Int) : c3 (2 * x) (2 * y) = c3 x y := by
  unfold c3
  by_cases h1 : x < y
  · rw [if_pos h1, if_pos (by omega)]
  · by_cases h2 : y < x
    · rw [if_neg h1, if_pos h2, if_neg (by omega), if_pos (by omega)]
    · rw [if_neg h1, if_neg h2, if_neg (by omega), if_neg (by omega)]
theorem rnd_eq (a : Int) (n : Nat) (n0 : 1 ≤ n) : rnd a n = if gu (c3 (a % 2 ^ n * 2) (2 ^ n)) (a / 2 ^ n % 2) = true then a / 2 ^ n + 1 else a / 2 ^ n := by
  have e : (2 : Int) ^ n = 2 * 2 ^ (n - 1) := by rw [show n = n - 1 + 1 by omega, pow_two]; simp; omega
  have e2 : c3 (a % 2 ^ n * 2) (2 ^ n) = c3 (a % 2 ^ n) (2 ^ (n - 1)) := by
    rw [← c3_twice (a % 2 ^ n) (2 ^ (n - 1)), ← e, Int.mul_comm]
  have e3 : gu (c3 (a % 2 ^ n) (2 ^ (n - 1))) (lo (a / 2 ^ n)) = gu (c3 (a % 2 ^ n) (2 ^ (n - 1))) (a / 2 ^ n % 2) := by
    unfold gu lo
    congr 2
    · apply decide_eq_decide.2
      omega
  unfold rnd
  rw [e3, e2]
theorem Bt.cut {w : World} {v : Value} {m m' : Nat} {a : Int} (h : Bt w v m a) (hm : m' ≤ m) : ∃ g cap : Nat, v = .slice (some ⟨g, 0, none⟩) m cap ∧ m ≤ cap ∧ cap ≤ maxLen ∧ Bt w (.slice (some ⟨g, 0, none⟩) m' cap) m' a := by
  obtain ⟨g, cap, hv, h1, h2, hc⟩ := h
  exact ⟨g, cap, hv, h1, h2, g, cap, rfl, by omega, h2, fun k hk => hc k (by omega)⟩

set_option maxHeartbeats 2000000 in
theorem rround_any (va : Value) (m n : Nat) (a : Int) (m0 : 1 ≤ m) (hm : m ≤ 900) (n0 : 1 ≤ n) (hn : n < m) (hr : InR m a) (w : World) (hA : Bt w va m a) :
    Calls Tryd.prog 13 #[va, .int .i64 n] w fun e w' => ∃ v, e = .returned v ∧ Bt w' v m (rnd a n) ∧ Below w.heap.size w w' := by
  have HR : Hid (rnd a n = if gu (c3 (a % 2 ^ n * 2) (2 ^ n)) (a / 2 ^ n % 2) = true then a / 2 ^ n + 1 else a / 2 ^ n) := rnd_eq a n n0
  have hp := pow_pos' n
  have l0 := Int.emod_nonneg a (show (2 : Int) ^ n ≠ 0 by omega)
  have l1 := Int.emod_lt_of_pos a (show (0 : Int) < 2 ^ n by omega)
  have HL : Hid (a + -(a / 2 ^ n * 2 ^ n) = a % 2 ^ n) := by show a + -(a / 2 ^ n * 2 ^ n) = a % 2 ^ n; rw [← left_eq]; omega
  have HI1 : Hid (InR (m + 2) (a % 2 ^ n * 2)) := inr_pow (m + 2) (n + 1) _ (by omega) (by omega) (by rw [pow_two]; omega)
  have HI2 : Hid (InR (m + 2) (2 ^ n)) := inr_pow (m + 2) n _ (by omega) (by omega) (by omega)
  have WD := fun W h => rwider_any va m (m + 2) a m0 (by omega) (by omega) hr W h
  rw [show ((m + 2 : Nat) : Int) = (m : Int) + 2 by omega] at WD
  have hrw := inr_wide m (m + 2) a m0 (by omega) hr
  have IO := fun W => int_any 1 (m + 2) (by omega) (by omega) (by omega) W
  rw [show ((m + 2 : Nat) : Int) = (m : Int) + 2 by omega] at IO
  have hn0 : ((n : Int) == 0) = false := beq_eq_false_iff_ne.2 (by omega)
  obtain ⟨g1, cap1, rfl, p1, p2, ha⟩ := id hA
  unfold maxLen at p2
  clear ha hr hp l0 l1
  go_enter Tryd.func13, Tryd.ntmps13
  go_wp2_with fail
  refine (WD _ hA).mono ?_
  rintro e w1 ⟨v1, rfl, hown, hb⟩
  have V1 := bt_own hown (by omega)
  have W1 : Below w.heap.size w w1 := hb
  clear hown hb WD hA
  go_wp2_with fail
  refine (rshr_any v1 (m + 2) n a (by omega) (by omega) (by omega) hrw _ V1).mono ?_
  rintro e w2 ⟨v2, rfl, hown, hb⟩
  have Q2 := bt_own hown (by omega)
  have V2 := V1.later hb
  have W2 := bchain W1 hb
  clear hown hb V1 W1 hrw
  go_wp2_with fail
  refine (rshl_any v2 (m + 2) n _ (by omega) (by omega) (by omega) _ Q2).mono ?_
  rintro e w3 ⟨v3, rfl, hown, hb⟩
  have S3 := bt_own hown (by omega)
  have V3 := V2.later hb
  have Q3 := Q2.later hb
  have W3 := bchain W2 hb
  clear hown hb V2 W2 Q2
  go_wp2_with fail
  refine (rneg_any v3 (m + 2) _ (by omega) (by omega) _ S3).mono ?_
  rintro e w4 ⟨v4, rfl, hown, hb⟩
  have S4 := bt_own hown (by omega)
  have V4 := V3.later hb
  have Q4 := Q3.later hb
  have W4 := bchain W3 hb
  clear hown hb V3 W3 Q3 S3
  go_wp2_with fail
  refine (radd_any v1 v4 (m + 2) _ _ (by omega) (by omega) _ V4 S4).mono ?_
  rintro e w5 ⟨v5, rfl, hown, hb⟩
  rw [HL.out] at hown
  have R5 := bt_own hown (by omega)
  have V5 := V4.later hb
  have Q5 := Q4.later hb
  have W5 := bchain W4 hb
  clear hown hb V4 W4 Q4 S4
  go_wp2_with fail
  refine (rshl_any v5 (m + 2) 1 _ (by omega) (by omega) (by omega) _ R5).mono ?_
  rintro e w6 ⟨v6, rfl, hown, hb⟩
  rw [show (2 : Int) ^ 1 = 2 from rfl] at hown
  have T6 := bt_own hown (by omega)
  have V6 := V5.later hb
  have Q6 := Q5.later hb
  have W6 := bchain W5 hb
  clear hown hb V5 W5 Q5 R5
  obtain ⟨g2, cap2, rfl, p3, p4, V6c⟩ := id V6
  unfold maxLen at p4
  clear V6c
  go_wp2_with fail
  refine (IO _).mono ?_
  rintro e w7 ⟨v7, rfl, hown, hb⟩
  have O7 := bt_own hown (by omega)
  have T7 := T6.later hb
  have Q7 := Q6.later hb
  have W7 := bchain W6 hb
  clear hown hb V6 W6 Q6 T6
  go_wp2_with fail
  refine (rshl_any v7 (m + 2) n _ (by omega) (by omega) (by omega) _ O7).mono ?_
  rintro e w8 ⟨v8, rfl, hown, hb⟩
  rw [Int.one_mul] at hown
  have P8 := bt_own hown (by omega)
  have T8 := T7.later hb
  have Q8 := Q7.later hb
  have W8 := bchain W7 hb
  clear hown hb W7 Q7 T7 O7
  go_wp2_with fail
  refine (rcmp_any v6 v8 (m + 2) _ _ (by omega) (by omega) HI1.out HI2.out _ T8 P8).mono ?_
  rintro e w9 ⟨rfl, hb⟩
  have Q9 := Q8.later hb
  have W9 := bchain W8 hb
  clear hb W8 Q8 T8 P8 HI1 HI2
  obtain ⟨g3, cap3, rfl, p5, p6, hq⟩ := id Q9
  unfold maxLen at p6
  have h00 := hq 0 (by omega)
  rw [Int.pow_zero, Int.ediv_one] at h00
  have hc3 : c3 (a % 2 ^ n * 2) (2 ^ n) = 1 ∨ c3 (a % 2 ^ n * 2) (2 ^ n) = 0 ∨ c3 (a % 2 ^ n * 2) (2 ^ n) = -1 := by
    unfold c3; split
    · exact .inr (.inr rfl)
    · split
      · exact .inl rfl
      · exact .inr (.inl rfl)
  generalize c3 (a % 2 ^ n * 2) (2 ^ n) = c at *
  generalize a / 2 ^ n = q at *
  clear hq HL
  have IO : Hid (∀ W : World, Calls Tryd.prog 27 #[.int .i64 1, .int .i64 ((m : Int) + 2)] W fun e w' => ∃ v, e = .returned v ∧ w'.ownsRow W.heap.size 3 1 v (m + 2) ((bl (m + 2) 1).map (Value.int .i64)) ∧ Below W.heap.size W w') := IO
  rcases hc3 with rfl | rfl | rfl
  · have HE : Hid (rnd a n = q + 1) := by show rnd a n = q + 1; rw [HR.out, if_pos (by unfold gu; simp)]
    go_wp2_with fail
    refine (IO.out _).mono ?_
    rintro e w10 ⟨v10, rfl, hown, hb⟩
    have O10 := bt_own hown (by omega)
    have Q10 := Q9.later hb
    have W10 := bchain W9 hb
    clear hown hb W9 Q9 h00
    go_wp2_with fail
    refine (radd_any _ _ (m + 2) _ _ (by omega) (by omega) _ Q10 O10).mono ?_
    rintro e w11 ⟨v11, rfl, hown, hb⟩
    have Q11 := bt_own hown (by omega)
    have W11 := bchain W10 hb
    obtain ⟨g4, cap4, rfl, p7, p8, B4⟩ := Q11.cut (m' := m) (by omega)
    unfold maxLen at p8
    have s1 : (m : Int) ≤ (cap4 : Int) := by omega
    clear hown hb W10 Q10 O10 Q11
    go_wp2
    go_ret
    exact ⟨_, rfl, by rw [HE.out]; exact B4, W11⟩
  · rcases bit_01 q with hq | hq
    · have HE : Hid (rnd a n = q) := by show rnd a n = q; rw [HR.out, if_neg (by unfold gu; simp; omega)]
      rw [hq] at h00
      clear hq
      obtain ⟨g4, cap4, hv4, p7, p8, B4⟩ := Q9.cut (m' := m) (by omega)
      cases hv4
      have s1 : (m : Int) ≤ (cap3 : Int) := by omega
      go_wp2
      go_ret
      exact ⟨_, rfl, by rw [HE.out]; exact B4, W9⟩
    · have HE : Hid (rnd a n = q + 1) := by show rnd a n = q + 1; rw [HR.out, if_pos (by unfold gu; simp; omega)]
      rw [hq] at h00
      clear hq
      go_wp2_with fail
      refine (IO.out _).mono ?_
      rintro e w10 ⟨v10, rfl, hown, hb⟩
      have O10 := bt_own hown (by omega)
      have Q10 := Q9.later hb
      have W10 := bchain W9 hb
      clear hown hb W9 Q9 h00
      go_wp2_with fail
      refine (radd_any _ _ (m + 2) _ _ (by omega) (by omega) _ Q10 O10).mono ?_
      rintro e w11 ⟨v11, rfl, hown, hb⟩
      have Q11 := bt_own hown (by omega)
      have W11 := bchain W10 hb
      obtain ⟨g4, cap4, rfl, p7, p8, B4⟩ := Q11.cut (m' := m) (by omega)
      unfold maxLen at p8
      have s1 : (m : Int) ≤ (cap4 : Int) := by omega
      clear hown hb W10 Q10 O10 Q11
      go_wp2
      go_ret
      exact ⟨_, rfl, by rw [HE.out]; exact B4, W11⟩
  · have HE : Hid (rnd a n = q) := by show rnd a n = q; rw [HR.out, if_neg (by unfold gu; simp)]
    obtain ⟨g4, cap4, hv4, p7, p8, B4⟩ := Q9.cut (m' := m) (by omega)
    cases hv4
    have s1 : (m : Int) ≤ (cap3 : Int) := by omega
    go_wp2
    go_ret
    exact ⟨_, rfl, by rw [HE.out]; exact B4, W9⟩

set_option maxHeartbeats 400000 in
theorem rround_zero (va : Value) (w : World) :
    Calls Tryd.prog 13 #[va, .int .i64 0] w fun e w' => e = .returned va ∧ w' = w := by
  go_enter Tryd.func13, Tryd.ntmps13
  go_wp2
  go_ret
  exact ⟨rfl, rfl⟩
end Go.Proofs.YtpmidldnomleoaaDoor
