/-
  The contract of regattaref01's Clamp.
-/
import Derived.Test.YtpmidldnomleoaaDoorRWalkE
set_option linter.unusedVariables false
set_option linter.unusedSimpArgs false
namespace Go.Proofs.YtpmidldnomleoaaDoor
open Go.RowKit

theorem inr_word (m : Nat) (x : Int) (hm : 64 ≤ m) (x0 : -9223372036854775808 ≤ x) (x1 : x ≤ 9223372036854775807) : InR m x := by
  have h : (9223372036854775808 : Int) ≤ 2 ^ (m - 1) := by
    have h2 : (2 : Nat) ^ 63 ≤ 2 ^ (m - 1) := Nat.pow_le_pow_right (by omega) (by omega)
    have h3 : (((2 : Nat) ^ 63 : Nat) : Int) ≤ (((2 : Nat) ^ (m - 1) : Nat) : Int) := by omega
    rw [Int.natCast_pow] at h3
    exact h3
  exact ⟨by omega, by omega⟩
theorem inr_128 (x : Int) (x0 : -170141183460469231731687303715884105728 ≤ x) (x1 : x ≤ 170141183460469231731687303715884105727) : InR 128 x := by
  unfold InR
  rw [show (2 : Int) ^ (128 - 1) = 170141183460469231731687303715884105728 from rfl]
  omega
theorem ovv_in (v : Int) (h0 : -9223372036854775808 ≤ v) (h1 : v ≤ 9223372036854775807) : sg (v % 18446744073709551616) = v := by unfold sg; omega
theorem sg_rng (v : Int) : -9223372036854775808 ≤ sg v ∧ sg v ≤ 9223372036854775807 := by unfold sg; omega

set_option maxHeartbeats 1000000 in
theorem rclamp_any (va : Value) (m : Nat) (a : Int) (m0 : 65 ≤ m) (hm : m ≤ 1000) (ra : InR m a) (w : World) (hA : Bt w va m a) :
    Calls Tryd.prog 12 #[va] w fun e w' => e = .returned (.tuple #[.int .i64 (clv a), .bool (ovv a)]) ∧ Below w.heap.size w w' := by
  obtain ⟨g1, cap1, hv, p1, p2, ha⟩ := id hA
  have hA64 : Bt w (.slice (some ⟨g1, 0, none⟩) 64 cap1) 64 a := ⟨g1, cap1, rfl, by omega, p2, fun k hk => ha k (by omega)⟩
  have hA' : Bt w (.slice (some ⟨g1, 0, none⟩) m cap1) m a := by rw [← hv]; exact hA
  unfold maxLen at p2
  subst hv
  clear ha hA
  obtain ⟨s0, s1⟩ := sg_rng (a % 18446744073709551616)
  have hsl : (64 : Int) ≤ (cap1 : Int) := by omega
  go_enter Tryd.func12, Tryd.ntmps12
  go_wp2_with fail
  refine (words_any _ 1 a (by omega) (by omega) _ hA64).mono ?_
  rintro e w1 ⟨v1, rfl, hown, hb⟩
  have W1 : Below w.heap.size w w1 := hb
  have A1 := hA'.later hb
  obtain ⟨g2, cap2, rfl, c1, c2, hc⟩ := words_form hown (by omega)
  have d0 := hc 0 (by omega)
  rw [show a / 2 ^ (64 * 0) % 18446744073709551616 = a % 18446744073709551616 by rw [Nat.mul_zero, Int.pow_zero, Int.ediv_one]] at d0
  have hh : wrap64 (a % 18446744073709551616) = sg (a % 18446744073709551616) := w64 _
  clear hc hown hb hA64 hA'
  go_wp2_with fail
  refine (int_any (sg (a % 18446744073709551616)) m s0 s1 hm _).mono ?_
  rintro e w2 ⟨v2, rfl, hown, hb⟩
  have W2 := bchain W1 hb
  have A2 := A1.later hb
  have X2 := bt_own hown (by omega)
  clear hown hb W1 A1 d0
  go_wp2_with fail
  refine (rcmp_any _ _ m (sg (a % 18446744073709551616)) a (by omega) hm (inr_word m _ (by omega) s0 s1) ra _ X2 A2).mono ?_
  rintro e w3 ⟨rfl, hb⟩
  have W3 := bchain W2 hb
  have A3 := A2.later hb
  clear hb W2 A2 X2
  by_cases c : -9223372036854775808 ≤ a ∧ a ≤ 9223372036854775807
  · obtain ⟨k0, k1⟩ := c
    have e1 := ovv_in a k0 k1
    obtain ⟨e2, e3⟩ := clv_in a k0 k1
    have HE : Hid (clv a = a ∧ ovv a = false) := ⟨e2, e3⟩
    rw [e1] at hh ⊢
    rw [c3_self]
    clear e1 e2 e3 hh s0 s1
    go_wp2
    go_ret2
    exact ⟨by rw [HE.out.1, HE.out.2]; rfl, W3⟩
  · have hne : c3 (sg (a % 18446744073709551616)) a = -1 ∨ c3 (sg (a % 18446744073709551616)) a = 1 := by
      rcases Int.lt_or_le (sg (a % 18446744073709551616)) a with h | h
      · exact .inl (c3_lt _ _ h)
      · exact .inr (c3_gt _ _ (by omega))
    have hne' : (c3 (sg (a % 18446744073709551616)) a == 0) = false := by
      rcases hne with h | h <;> rw [h] <;> rfl
    have BA := fun W h => rbelow_any (.slice (some ⟨g1, 0, none⟩) m cap1) m a (by omega) hm ra W h
    by_cases hn : a < 0
    · obtain ⟨e2, e3⟩ := clv_lo a (by omega)
      have HE : Hid (clv a = -9223372036854775808 ∧ ovv a = true) := ⟨e2, e3⟩
      rw [decide_eq_true hn] at BA
      clear e2 e3 hne c
      go_wp2_with fail
      refine (BA _ A3).mono ?_
      rintro e w4 ⟨rfl, hw⟩
      subst hw
      clear BA
      go_wp2
      go_ret2
      exact ⟨by rw [HE.out.1, HE.out.2]; rfl, W3⟩
    · obtain ⟨e2, e3⟩ := clv_hi a (by omega)
      have HE : Hid (clv a = 9223372036854775807 ∧ ovv a = true) := ⟨e2, e3⟩
      rw [decide_eq_false hn] at BA
      clear e2 e3 hne c
      go_wp2_with fail
      refine (BA _ A3).mono ?_
      rintro e w4 ⟨rfl, hw⟩
      subst hw
      clear BA
      go_wp2
      go_ret2
      exact ⟨by rw [HE.out.1, HE.out.2]; rfl, W3⟩
end Go.Proofs.YtpmidldnomleoaaDoor
