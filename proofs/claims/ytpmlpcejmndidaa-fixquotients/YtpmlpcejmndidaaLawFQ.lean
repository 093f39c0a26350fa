/-
  FixQuotients: for all numbers a, b and all whole n the law regattalaw02.FixQuotients returns true: a quotient is the nearest number of steps, or held; by 0 it is an end. No condition.
-/
import Derived.Test.YtpmlpcejmndidaaFWalkD
import Derived.Test.YtpmlpcejmndidaaSWalkL
set_option linter.unusedVariables false
set_option linter.unusedSimpArgs false
namespace Go.Proofs.Ytpmlpcejmndidaa
open Go.RowKit

theorem sratio_0 (a b : Int) (a0 : -9223372036854775808 ≤ a) (a1 : a ≤ 9223372036854775807) (b0 : -9223372036854775808 ≤ b) (b1 : b ≤ 9223372036854775807) (w : World) :
    Calls Try.prog 25 #[.int .i64 a, .int .i64 0, .int .i64 b] w fun e w' => e = .returned (.tuple #[.int .i64 (qv a b), .bool (qo a b)]) ∧ Below w.heap.size w w' := by
  have h := sratio_any a b 0 (by omega) a0 a1 b0 b1 w
  rw [Nat.mul_zero, Int.pow_zero, Int.mul_one] at h
  exact h
set_option maxHeartbeats 2000000 in
theorem fixQuotients_walk (a b n : Int) (a0 : -9223372036854775808 ≤ a) (a1 : a ≤ 9223372036854775807) (b0 : -9223372036854775808 ≤ b) (b1 : b ≤ 9223372036854775807) (n0 : -9223372036854775808 ≤ n) (n1 : n ≤ 9223372036854775807) (w : World) :
    Calls Try.prog 5 #[.int .i64 a, .int .i64 b, .int .i64 n] w fun e w' => e = .returned (.bool true) ∧ Below w.heap.size w w' := by
  have P1 : Hid (∀ W : World, Calls Try.prog 22 #[.int .i64 a, .int .i64 b] W fun e w' => e = .returned (.tuple #[.int .i64 (qv (a * 4294967296) b), .bool (qo (a * 4294967296) b)]) ∧ Below W.heap.size W w') := fun W => fdiv_any a b a0 a1 b0 b1 W
  have P2 : Hid (∀ W : World, Calls Try.prog 23 #[.int .i64 a, .int .i64 n] W fun e w' => e = .returned (.tuple #[.int .i64 (qv a n), .bool (qo a n)]) ∧ Below W.heap.size W w') := fun W => fby_any a n a0 a1 n0 n1 W
  have R1 : Hid (∀ W : World, Calls Try.prog 24 #[.int .i64 a, .int .i64 b] W fun e w' => e = .returned (.tuple #[.int .i64 (qv (a * 4294967296) b), .bool (qo (a * 4294967296) b)]) ∧ Below W.heap.size W w') := fun W => rfdiv_any a b a0 a1 b0 b1 W
  have R2 : Hid (∀ W : World, Calls Try.prog 25 #[.int .i64 a, .int .i64 0, .int .i64 n] W fun e w' => e = .returned (.tuple #[.int .i64 (qv a n), .bool (qo a n)]) ∧ Below W.heap.size W w') := fun W => sratio_0 a n a0 a1 n0 n1 W
  go_enter Try.func5, Try.ntmps5
  go_wp2_with fail
  refine (kawake_any _).mono ?_
  rintro e w1 ⟨rfl, W1⟩
  go_wp2_with fail
  refine (P1.out _).mono ?_
  rintro e w2 ⟨rfl, hb⟩
  have W2 := bchain W1 hb
  clear hb W1 P1
  go_wp2_with fail
  refine (P2.out _).mono ?_
  rintro e w3 ⟨rfl, hb⟩
  have W3 := bchain W2 hb
  clear hb W2 P2
  go_wp2_with fail
  refine (R1.out _).mono ?_
  rintro e w4 ⟨rfl, hb⟩
  have W4 := bchain W3 hb
  clear hb W3 R1
  go_wp2_with fail
  refine (R2.out _).mono ?_
  rintro e w5 ⟨rfl, hb⟩
  have W5 := bchain W4 hb
  clear hb W4 R2
  go_wp2_with fail
  refine (like_same _ _ _).mono ?_
  rintro e wz ⟨rfl, hz⟩
  subst hz
  go_wp2_with fail
  refine (like_same _ _ _).mono ?_
  rintro e wz ⟨rfl, hz⟩
  subst hz
  go_wp2
  go_ret
  exact ⟨rfl, W5⟩
end Go.Proofs.Ytpmlpcejmndidaa
