/-
  FixSquares: for every number a the law regattalaw02.FixSquares returns true: the root of a square is the number, or one step beside it, where the square isn't held and the number isn't small. No condition.
-/
import Derived.Test.YtpmlpcejmndidacFWalkC
set_option linter.unusedVariables false
set_option linter.unusedSimpArgs false
namespace Go.Proofs.Ytpmlpcejmndidac
open Go.RowKit

theorem rnd_near (v : Int) : v - 2147483648 ≤ rnd v 32 * 4294967296 ∧ rnd v 32 * 4294967296 ≤ v + 2147483648 := by
  have e1 : (2 : Int) ^ 32 = 4294967296 := rfl
  have e2 : (2 : Int) ^ (32 - 1) = 2147483648 := rfl
  unfold rnd
  rw [e1, e2]
  rcases (show v % 4294967296 < 2147483648 ∨ v % 4294967296 = 2147483648 ∨ 2147483648 < v % 4294967296 by omega) with h | h | h
  · have g1 : ∀ l, ¬ gu (-1) l = true := by intro l; unfold gu; simp
    rw [c3_lt _ _ h, if_neg (g1 _)]
    omega
  · split <;> omega
  · have g2 : ∀ l, gu 1 l = true := by intro l; unfold gu; simp
    rw [c3_gt _ _ h, if_pos (g2 _)]
    omega
theorem sq_lt (a : Int) (a0 : 0 ≤ a) (a1 : a < 199000000000000) : rnd (a * a) 32 ≤ 9223372036854775807 := by
  have h := rnd_near (a * a)
  have h2 := Int.mul_le_mul (show a ≤ 198999999999999 by omega) (show a ≤ 198999999999999 by omega) a0 (by omega)
  omega
theorem sq_root (a s r : Int) (a0 : 4294967296 ≤ a) (hs0 : a * a - 2147483648 ≤ s) (hs1 : s ≤ a * a + 2147483648) (r0 : 0 ≤ r) (h0 : r * r ≤ s) (h1 : s < (r + 1) * (r + 1)) : a - 1 ≤ r ∧ r ≤ a := by
  constructor
  · by_cases h : a - 1 ≤ r
    · exact h
    · exfalso
      have h2 := Int.mul_le_mul (show r + 1 ≤ a - 1 by omega) (show r + 1 ≤ a - 1 by omega) (show 0 ≤ r + 1 by omega) (by omega)
      rw [Int.sub_mul, Int.mul_sub, Int.mul_one, Int.one_mul] at h2
      omega
  · by_cases h : r ≤ a
    · exact h
    · exfalso
      have h2 := Int.mul_le_mul (show a + 1 ≤ r by omega) (show a + 1 ≤ r by omega) (by omega) (by omega)
      rw [Int.add_mul, Int.mul_add, Int.mul_one, Int.one_mul] at h2
      omega

set_option maxHeartbeats 2000000 in
theorem fixSquares_walk (a : Int) (a0 : -9223372036854775808 ≤ a) (a1 : a ≤ 9223372036854775807) (w : World) :
    Calls Try.prog 4 #[.int .i64 a] w fun e w' => e = .returned (.bool true) ∧ Below w.heap.size w w' := by
  by_cases hs : a < 4294967296
  · go_enter Try.func4, Try.ntmps4
    go_wp2_with fail
    refine (kawake_any _).mono ?_
    rintro e w1 ⟨rfl, W1⟩
    go_wp2
    go_ret
    exact ⟨rfl, W1⟩
  · have h := fun W => fmul_any a a a0 a1 a0 a1 W
    have hn := rnd_near (a * a)
    have hp := Int.mul_nonneg (show 0 ≤ a by omega) (show 0 ≤ a by omega)
    have hz : 0 ≤ rnd (a * a) 32 := by omega
    by_cases ho : 9223372036854775807 < rnd (a * a) 32
    · rw [(clv_hi _ ho).1, (clv_hi _ ho).2] at h
      have P1 : Hid (∀ W : World, Calls Try.prog 7 #[.int .i64 a, .int .i64 a] W fun e w' => e = .returned (.tuple #[.int .i64 9223372036854775807, .bool true]) ∧ Below W.heap.size W w') := h
      have hb : 199000000000000 ≤ a := by
        by_cases h2 : 199000000000000 ≤ a
        · exact h2
        · have := sq_lt a (by omega) (by omega); omega
      clear h hn hp hz ho
      go_enter Try.func4, Try.ntmps4
      go_wp2_with fail
      refine (kawake_any _).mono ?_
      rintro e w1 ⟨rfl, W1⟩
      go_wp2_with fail
      refine (P1.out _).mono ?_
      rintro e w2 ⟨rfl, hb⟩
      have W2 := bchain W1 hb
      clear hb W1 P1
      go_wp2
      go_ret
      exact ⟨rfl, W2⟩
    · rw [(clv_in _ (by omega) (by omega)).1, (clv_in _ (by omega) (by omega)).2] at h
      generalize rnd (a * a) 32 = s at *
      have P1 : Hid (∀ W : World, Calls Try.prog 7 #[.int .i64 a, .int .i64 a] W fun e w' => e = .returned (.tuple #[.int .i64 s, .bool false]) ∧ Below W.heap.size W w') := h
      have h2 := fun W => fsqrt_any s (by omega) (by omega) W
      rw [decide_eq_false (show ¬ s < 0 by omega)] at h2
      have hsv : sv s = rt (s * 4294967296) := by unfold sv; rw [if_neg (by omega)]
      have hr := rt_spec (s * 4294967296) (by omega) (by omega)
      rw [← hsv] at hr
      have hk := sq_root a (s * 4294967296) (sv s) (by omega) (by omega) (by omega) hr.1 hr.2.2.1 hr.2.2.2
      obtain ⟨k0, k1⟩ := hk
      have k2 : 0 ≤ sv s := hr.1
      clear hsv hr
      generalize sv s = r at *
      have P2 : Hid (∀ W : World, Calls Try.prog 8 #[.int .i64 s] W fun e w' => e = .returned (.tuple #[.int .i64 r, .bool false]) ∧ Below W.heap.size W w') := h2
      clear h h2 hn hp hz ho
      go_enter Try.func4, Try.ntmps4
      go_wp2_with fail
      refine (kawake_any _).mono ?_
      rintro e w1 ⟨rfl, W1⟩
      go_wp2_with fail
      refine (P1.out _).mono ?_
      rintro e w2 ⟨rfl, hb⟩
      have W2 := bchain W1 hb
      clear hb W1 P1
      go_wp2_with fail
      refine (P2.out _).mono ?_
      rintro e w3 ⟨rfl, hb⟩
      have W3 := bchain W2 hb
      clear hb W2 P2
      go_wp2
      go_ret
      exact ⟨rfl, W3⟩
end Go.Proofs.Ytpmlpcejmndidac
