/-
  FixSums: for all numbers a, b the law regattalaw02.FixSums returns true: sums and differences are exact, or held at the nearer end. No condition.
-/
import Derived.Test.YtpmlpcejmndidaaFWalkC
import Derived.Test.YtpmlpcejmndidaaSWalkL
set_option linter.unusedVariables false
set_option linter.unusedSimpArgs false
namespace Go.Proofs.Ytpmlpcejmndidaa
open Go.RowKit

theorem rfsub_zero (b : Int) (b0 : -9223372036854775808 ≤ b) (b1 : b ≤ 9223372036854775807) (w : World) :
    Calls Try.prog 15 #[.int .i64 0, .int .i64 b] w fun e w' => e = .returned (.tuple #[.int .i64 (clv (-b)), .bool (ovv (-b))]) ∧ Below w.heap.size w w' := by
  have h := rfsub_any 0 b (by omega) (by omega) b0 b1 w
  rw [Int.zero_sub] at h
  exact h
set_option maxHeartbeats 2000000 in
theorem fixSums_walk (a b : Int) (a0 : -9223372036854775808 ≤ a) (a1 : a ≤ 9223372036854775807) (b0 : -9223372036854775808 ≤ b) (b1 : b ≤ 9223372036854775807) (w : World) :
    Calls Try.prog 3 #[.int .i64 a, .int .i64 b] w fun e w' => e = .returned (.bool true) ∧ Below w.heap.size w w' := by
  have P1 : Hid (∀ W : World, Calls Try.prog 10 #[.int .i64 a, .int .i64 b] W fun e w' => e = .returned (.tuple #[.int .i64 (clv (a + b)), .bool (ovv (a + b))]) ∧ Below W.heap.size W w') := fun W => fadd_any a b a0 a1 b0 b1 W
  have P2 : Hid (∀ W : World, Calls Try.prog 11 #[.int .i64 a, .int .i64 b] W fun e w' => e = .returned (.tuple #[.int .i64 (clv (a - b)), .bool (ovv (a - b))]) ∧ Below W.heap.size W w') := fun W => fsub_any a b a0 a1 b0 b1 W
  have P3 : Hid (∀ W : World, Calls Try.prog 12 #[.int .i64 b] W fun e w' => e = .returned (.tuple #[.int .i64 (clv (-b)), .bool (ovv (-b))]) ∧ Below W.heap.size W w') := fun W => fneg_any b b0 b1 W
  have R1 : Hid (∀ W : World, Calls Try.prog 14 #[.int .i64 a, .int .i64 b] W fun e w' => e = .returned (.tuple #[.int .i64 (clv (a + b)), .bool (ovv (a + b))]) ∧ Below W.heap.size W w') := fun W => rfadd_any a b a0 a1 b0 b1 W
  have R2 : Hid (∀ W : World, Calls Try.prog 15 #[.int .i64 a, .int .i64 b] W fun e w' => e = .returned (.tuple #[.int .i64 (clv (a - b)), .bool (ovv (a - b))]) ∧ Below W.heap.size W w') := fun W => rfsub_any a b a0 a1 b0 b1 W
  have R3 : Hid (∀ W : World, Calls Try.prog 15 #[.int .i64 0, .int .i64 b] W fun e w' => e = .returned (.tuple #[.int .i64 (clv (-b)), .bool (ovv (-b))]) ∧ Below W.heap.size W w') := fun W => rfsub_zero b b0 b1 W
  by_cases hn : a < 0
  · have P4 : Hid (∀ W : World, Calls Try.prog 13 #[.int .i64 a] W fun e w' => e = .returned (.tuple #[.int .i64 (clv (-a)), .bool (ovv (-a))]) ∧ Below W.heap.size W w') := fun W => fabs_neg a a0 hn W
    have R4 : Hid (∀ W : World, Calls Try.prog 15 #[.int .i64 0, .int .i64 a] W fun e w' => e = .returned (.tuple #[.int .i64 (clv (-a)), .bool (ovv (-a))]) ∧ Below W.heap.size W w') := fun W => rfsub_zero a a0 a1 W
    go_enter Try.func3, Try.ntmps3
    go_wp2_with fail
    refine (kawake_any _).mono ?_
    rintro e w1 ⟨rfl, W1⟩
    go_wp2_with fail
    refine (P1.out _).mono ?_
    rintro e w2 ⟨rfl, hb⟩
    have W2 := bchain W1 hb
    clear hb W1 P1
    go_wp2_with fail
    refine (P2.out _).mono ?_
    rintro e w3 ⟨rfl, hb⟩
    have W3 := bchain W2 hb
    clear hb W2 P2
    go_wp2_with fail
    refine (P3.out _).mono ?_
    rintro e w4 ⟨rfl, hb⟩
    have W4 := bchain W3 hb
    clear hb W3 P3
    go_wp2_with fail
    refine (P4.out _).mono ?_
    rintro e w5 ⟨rfl, hb⟩
    have W5 := bchain W4 hb
    clear hb W4 P4
    go_wp2_with fail
    refine (R1.out _).mono ?_
    rintro e w6 ⟨rfl, hb⟩
    have W6 := bchain W5 hb
    clear hb W5 R1
    go_wp2_with fail
    refine (R2.out _).mono ?_
    rintro e w7 ⟨rfl, hb⟩
    have W7 := bchain W6 hb
    clear hb W6 R2
    go_wp2_with fail
    refine (R3.out _).mono ?_
    rintro e w8 ⟨rfl, hb⟩
    have W8 := bchain W7 hb
    clear hb W7 R3
    go_wp2_with fail
    refine (R4.out _).mono ?_
    rintro e w9 ⟨rfl, hb⟩
    have W9 := bchain W8 hb
    clear hb W8 R4
    go_wp2_with fail
    refine (like_same _ _ _).mono ?_
    rintro e wz ⟨rfl, hz⟩
    subst hz
    go_wp2_with fail
    refine (like_same _ _ _).mono ?_
    rintro e wz ⟨rfl, hz⟩
    subst hz
    go_wp2_with fail
    refine (like_same _ _ _).mono ?_
    rintro e wz ⟨rfl, hz⟩
    subst hz
    go_wp2_with fail
    refine (like_same _ _ _).mono ?_
    rintro e wz ⟨rfl, hz⟩
    subst hz
    go_wp2
    go_ret
    exact ⟨rfl, W9⟩
  · have P4 : Hid (∀ W : World, Calls Try.prog 13 #[.int .i64 a] W fun e w' => e = .returned (.tuple #[.int .i64 (a), .bool (false)]) ∧ Below W.heap.size W w') := fun W => fabs_pos a hn W
    go_enter Try.func3, Try.ntmps3
    go_wp2_with fail
    refine (kawake_any _).mono ?_
    rintro e w1 ⟨rfl, W1⟩
    go_wp2_with fail
    refine (P1.out _).mono ?_
    rintro e w2 ⟨rfl, hb⟩
    have W2 := bchain W1 hb
    clear hb W1 P1
    go_wp2_with fail
    refine (P2.out _).mono ?_
    rintro e w3 ⟨rfl, hb⟩
    have W3 := bchain W2 hb
    clear hb W2 P2
    go_wp2_with fail
    refine (P3.out _).mono ?_
    rintro e w4 ⟨rfl, hb⟩
    have W4 := bchain W3 hb
    clear hb W3 P3
    go_wp2_with fail
    refine (P4.out _).mono ?_
    rintro e w5 ⟨rfl, hb⟩
    have W5 := bchain W4 hb
    clear hb W4 P4
    go_wp2_with fail
    refine (R1.out _).mono ?_
    rintro e w6 ⟨rfl, hb⟩
    have W6 := bchain W5 hb
    clear hb W5 R1
    go_wp2_with fail
    refine (R2.out _).mono ?_
    rintro e w7 ⟨rfl, hb⟩
    have W7 := bchain W6 hb
    clear hb W6 R2
    go_wp2_with fail
    refine (R3.out _).mono ?_
    rintro e w8 ⟨rfl, hb⟩
    have W8 := bchain W7 hb
    clear hb W7 R3
    go_wp2_with fail
    refine (like_same _ _ _).mono ?_
    rintro e wz ⟨rfl, hz⟩
    subst hz
    go_wp2_with fail
    refine (like_same _ _ _).mono ?_
    rintro e wz ⟨rfl, hz⟩
    subst hz
    go_wp2_with fail
    refine (like_same _ _ _).mono ?_
    rintro e wz ⟨rfl, hz⟩
    subst hz
    go_wp2_with fail
    refine (like_same _ _ _).mono ?_
    rintro e wz ⟨rfl, hz⟩
    subst hz
    go_wp2
    go_ret
    exact ⟨rfl, W8⟩
end Go.Proofs.Ytpmlpcejmndidaa
