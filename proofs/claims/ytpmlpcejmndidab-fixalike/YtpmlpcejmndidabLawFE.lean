/-
  FixAlike: for all numbers a, b the law regattalaw02.FixAlike returns true: times one, by one, and plus nothing a number stays; products and sums are the same either way round. No condition.
-/
import Derived.Test.YtpmlpcejmndidabFWalkD
import Derived.Test.YtpmlpcejmndidabMath7
set_option linter.unusedVariables false
set_option linter.unusedSimpArgs false
namespace Go.Proofs.Ytpmlpcejmndidab
open Go.RowKit

theorem rnd_up32 (a : Int) : rnd (a * 4294967296) 32 = a := by
  have e1 : (2 : Int) ^ 32 = 4294967296 := rfl
  have e2 : (2 : Int) ^ (32 - 1) = 2147483648 := rfl
  unfold rnd
  rw [e1, e2, Int.mul_emod_left, Int.mul_ediv_cancel _ (by omega), c3_lt _ _ (by omega)]
  have : gu (-1) (lo a) = false := by unfold gu; simp
  rw [this]
  rfl

set_option maxHeartbeats 2000000 in
theorem fixAlike_walk (a b : Int) (a0 : -9223372036854775808 ≤ a) (a1 : a ≤ 9223372036854775807) (b0 : -9223372036854775808 ≤ b) (b1 : b ≤ 9223372036854775807) (w : World) :
    Calls Try.prog 5 #[.int .i64 a, .int .i64 b] w fun e w' => e = .returned (.bool true) ∧ Below w.heap.size w w' := by
  have P1 : Hid (∀ W : World, Calls Try.prog 16 #[.int .i64 a, .int .i64 4294967296] W fun e w' => e = .returned (.tuple #[.int .i64 a, .bool false]) ∧ Below W.heap.size W w') := by
    intro W
    have h := fmul_any a 4294967296 a0 a1 (by omega) (by omega) W
    rw [rnd_up32, (clv_in a a0 a1).1, (clv_in a a0 a1).2] at h
    exact h
  have P2 : Hid (∀ W : World, Calls Try.prog 17 #[.int .i64 a, .int .i64 4294967296] W fun e w' => e = .returned (.tuple #[.int .i64 a, .bool false]) ∧ Below W.heap.size W w') := by
    intro W
    have h := fdiv_any a 4294967296 a0 a1 (by omega) (by omega) W
    unfold qv qo at h
    rw [if_neg (by omega), if_neg (by omega), quo_mul a 4294967296 (by omega), (clv_in a a0 a1).1, (clv_in a a0 a1).2] at h
    exact h
  have P3 : Hid (∀ W : World, Calls Try.prog 18 #[.int .i64 a, .int .i64 0] W fun e w' => e = .returned (.tuple #[.int .i64 a, .bool false]) ∧ Below W.heap.size W w') := by
    intro W
    have h := fadd_any a 0 a0 a1 (by omega) (by omega) W
    rw [Int.add_zero, (clv_in a a0 a1).1, (clv_in a a0 a1).2] at h
    exact h
  have h4 := fun W => fmul_any a b a0 a1 b0 b1 W
  have h5 := fun W => fmul_any b a b0 b1 a0 a1 W
  have h6 := fun W => fadd_any a b a0 a1 b0 b1 W
  have h7 := fun W => fadd_any b a b0 b1 a0 a1 W
  rw [Int.mul_comm b a] at h5
  rw [Int.add_comm b a] at h7
  generalize clv (rnd (a * b) 32) = p at *
  generalize ovv (rnd (a * b) 32) = i at *
  generalize clv (a + b) = s at *
  generalize ovv (a + b) = k at *
  have P4 : Hid (∀ W : World, Calls Try.prog 16 #[.int .i64 a, .int .i64 b] W fun e w' => e = .returned (.tuple #[.int .i64 p, .bool i]) ∧ Below W.heap.size W w') := h4
  have P5 : Hid (∀ W : World, Calls Try.prog 16 #[.int .i64 b, .int .i64 a] W fun e w' => e = .returned (.tuple #[.int .i64 p, .bool i]) ∧ Below W.heap.size W w') := h5
  have P6 : Hid (∀ W : World, Calls Try.prog 18 #[.int .i64 a, .int .i64 b] W fun e w' => e = .returned (.tuple #[.int .i64 s, .bool k]) ∧ Below W.heap.size W w') := h6
  have P7 : Hid (∀ W : World, Calls Try.prog 18 #[.int .i64 b, .int .i64 a] W fun e w' => e = .returned (.tuple #[.int .i64 s, .bool k]) ∧ Below W.heap.size W w') := h7
  clear h4 h5 h6 h7
  have bi : (i == i) = true := by cases i <;> rfl
  have bk : (k == k) = true := by cases k <;> rfl
  go_enter Try.func5, Try.ntmps5
  go_wp2_with fail
  refine (kawake_any _).mono ?_
  rintro e w1 ⟨rfl, W1⟩
  go_wp2_with fail
  refine (P1.out _).mono ?_
  rintro e w2 ⟨rfl, hb⟩
  have W2 := bchain W1 hb
  clear hb W1 P1
  go_wp2_with fail
  refine (P2.out _).mono ?_
  rintro e w3 ⟨rfl, hb⟩
  have W3 := bchain W2 hb
  clear hb W2 P2
  go_wp2_with fail
  refine (P3.out _).mono ?_
  rintro e w4 ⟨rfl, hb⟩
  have W4 := bchain W3 hb
  clear hb W3 P3
  go_wp2_with fail
  refine (P4.out _).mono ?_
  rintro e w5 ⟨rfl, hb⟩
  have W5 := bchain W4 hb
  clear hb W4 P4
  go_wp2_with fail
  refine (P5.out _).mono ?_
  rintro e w6 ⟨rfl, hb⟩
  have W6 := bchain W5 hb
  clear hb W5 P5
  go_wp2_with fail
  refine (P6.out _).mono ?_
  rintro e w7 ⟨rfl, hb⟩
  have W7 := bchain W6 hb
  clear hb W6 P6
  go_wp2_with fail
  refine (P7.out _).mono ?_
  rintro e w8 ⟨rfl, hb⟩
  have W8 := bchain W7 hb
  clear hb W7 P7
  go_wp2
  go_ret
  exact ⟨rfl, W8⟩
end Go.Proofs.Ytpmlpcejmndidab
