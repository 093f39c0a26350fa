/-
  The contract of the law's op: what it is to answer.
-/
import Derived.Test.YtpmlpcejmndidabDoorFWalkV
import Derived.Test.YtpmlpcejmndidabDoorSWalkL
set_option linter.unusedVariables false
set_option linter.unusedSimpArgs false
namespace Go.Proofs.YtpmlpcejmndidabDoor
open Go.RowKit

theorem sratio_z (a b : Int) (a0 : -9223372036854775808 ≤ a) (a1 : a ≤ 9223372036854775807) (b0 : -9223372036854775808 ≤ b) (b1 : b ≤ 9223372036854775807) (w : World) :
    Calls Tryd.prog 17 #[.int .i64 a, .int .i64 0, .int .i64 b] w fun e w' => e = .returned (.tuple #[.int .i64 (qv a b), .bool (qo a b)]) ∧ Below w.heap.size w w' := by
  have h := sratio_any a b 0 (by omega) a0 a1 b0 b1 w
  rw [Nat.mul_zero, Int.pow_zero, Int.mul_one] at h
  exact h
/-- What an op answers, and whether it was held. -/
def wx (k a b : Int) : Int := if k = 1 then clv (a + b) else if k = 2 then clv (a - b) else if k = 3 ∨ k = 9 then clv (rnd (a * b) 32) else if k = 4 then qv (a * 4294967296) b else if k = 5 then qv a (b / 4294967296) else if k = 6 then sv a else a
def wo (k a b : Int) : Bool := if k = 1 then ovv (a + b) else if k = 2 then ovv (a - b) else if k = 3 ∨ k = 9 then ovv (rnd (a * b) 32) else if k = 4 then qo (a * 4294967296) b else if k = 5 then qo a (b / 4294967296) else if k = 6 then decide (a < 0) else decide (0 < b)
set_option maxHeartbeats 1000000 in
theorem want_1 (a b : Int) (a0 : -9223372036854775808 ≤ a) (a1 : a ≤ 9223372036854775807) (b0 : -9223372036854775808 ≤ b) (b1 : b ≤ 9223372036854775807) (w : World) :
    Calls Tryd.prog 6 #[.agg #[.int .i64 1, .int .i64 a, .int .i64 b]] w fun e w' => e = .returned (.tuple #[.int .i64 (clv (a + b)), .bool (ovv (a + b))]) ∧ Below w.heap.size w w' := by
  have W0 := bdrew (bel1 w (.cells #[.int .i64 1, .int .i64 a, .int .i64 b] 31))
  have P : Hid (∀ W : World, Calls Tryd.prog 13 #[.int .i64 a, .int .i64 b] W fun e w' => e = .returned (.tuple #[.int .i64 (clv (a + b)), .bool (ovv (a + b))]) ∧ Below W.heap.size W w') := fun W => rfadd_any a b a0 a1 b0 b1 W
  go_enter Tryd.func6, Tryd.ntmps6
  go_upto_region 1 with fail
  go_region
  go_wp2_with fail
  refine (P.out _).mono ?_
  rintro e w1 ⟨rfl, hb⟩
  have W1 := bchain W0 hb
  clear hb W0 P
  go_wp2
  go_ret2
  exact ⟨rfl, W1⟩
set_option maxHeartbeats 1000000 in
theorem want_2 (a b : Int) (a0 : -9223372036854775808 ≤ a) (a1 : a ≤ 9223372036854775807) (b0 : -9223372036854775808 ≤ b) (b1 : b ≤ 9223372036854775807) (w : World) :
    Calls Tryd.prog 6 #[.agg #[.int .i64 2, .int .i64 a, .int .i64 b]] w fun e w' => e = .returned (.tuple #[.int .i64 (clv (a - b)), .bool (ovv (a - b))]) ∧ Below w.heap.size w w' := by
  have W0 := bdrew (bel1 w (.cells #[.int .i64 2, .int .i64 a, .int .i64 b] 31))
  have P : Hid (∀ W : World, Calls Tryd.prog 14 #[.int .i64 a, .int .i64 b] W fun e w' => e = .returned (.tuple #[.int .i64 (clv (a - b)), .bool (ovv (a - b))]) ∧ Below W.heap.size W w') := fun W => rfsub_any a b a0 a1 b0 b1 W
  go_enter Tryd.func6, Tryd.ntmps6
  go_upto_region 1 with fail
  go_region
  go_wp2_with fail
  refine (P.out _).mono ?_
  rintro e w1 ⟨rfl, hb⟩
  have W1 := bchain W0 hb
  clear hb W0 P
  go_wp2
  go_ret2
  exact ⟨rfl, W1⟩
set_option maxHeartbeats 1000000 in
theorem want_3 (a b : Int) (a0 : -9223372036854775808 ≤ a) (a1 : a ≤ 9223372036854775807) (b0 : -9223372036854775808 ≤ b) (b1 : b ≤ 9223372036854775807) (w : World) :
    Calls Tryd.prog 6 #[.agg #[.int .i64 3, .int .i64 a, .int .i64 b]] w fun e w' => e = .returned (.tuple #[.int .i64 (clv (rnd (a * b) 32)), .bool (ovv (rnd (a * b) 32))]) ∧ Below w.heap.size w w' := by
  have W0 := bdrew (bel1 w (.cells #[.int .i64 3, .int .i64 a, .int .i64 b] 31))
  have P : Hid (∀ W : World, Calls Tryd.prog 15 #[.int .i64 a, .int .i64 b] W fun e w' => e = .returned (.tuple #[.int .i64 (clv (rnd (a * b) 32)), .bool (ovv (rnd (a * b) 32))]) ∧ Below W.heap.size W w') := fun W => rfmul_any a b a0 a1 b0 b1 W
  go_enter Tryd.func6, Tryd.ntmps6
  go_upto_region 1 with fail
  go_region
  go_wp2_with fail
  refine (P.out _).mono ?_
  rintro e w1 ⟨rfl, hb⟩
  have W1 := bchain W0 hb
  clear hb W0 P
  go_wp2
  go_ret2
  exact ⟨rfl, W1⟩
set_option maxHeartbeats 1000000 in
theorem want_4 (a b : Int) (a0 : -9223372036854775808 ≤ a) (a1 : a ≤ 9223372036854775807) (b0 : -9223372036854775808 ≤ b) (b1 : b ≤ 9223372036854775807) (w : World) :
    Calls Tryd.prog 6 #[.agg #[.int .i64 4, .int .i64 a, .int .i64 b]] w fun e w' => e = .returned (.tuple #[.int .i64 (qv (a * 4294967296) b), .bool (qo (a * 4294967296) b)]) ∧ Below w.heap.size w w' := by
  have W0 := bdrew (bel1 w (.cells #[.int .i64 4, .int .i64 a, .int .i64 b] 31))
  have P : Hid (∀ W : World, Calls Tryd.prog 16 #[.int .i64 a, .int .i64 b] W fun e w' => e = .returned (.tuple #[.int .i64 (qv (a * 4294967296) b), .bool (qo (a * 4294967296) b)]) ∧ Below W.heap.size W w') := fun W => rfdiv_any a b a0 a1 b0 b1 W
  go_enter Tryd.func6, Tryd.ntmps6
  go_upto_region 1 with fail
  go_region
  go_wp2_with fail
  refine (P.out _).mono ?_
  rintro e w1 ⟨rfl, hb⟩
  have W1 := bchain W0 hb
  clear hb W0 P
  go_wp2
  go_ret2
  exact ⟨rfl, W1⟩
set_option maxHeartbeats 1000000 in
theorem want_5 (a b : Int) (a0 : -9223372036854775808 ≤ a) (a1 : a ≤ 9223372036854775807) (b0 : -9223372036854775808 ≤ b) (b1 : b ≤ 9223372036854775807) (w : World) :
    Calls Tryd.prog 6 #[.agg #[.int .i64 5, .int .i64 a, .int .i64 b]] w fun e w' => e = .returned (.tuple #[.int .i64 (qv a (b / 4294967296)), .bool (qo a (b / 4294967296))]) ∧ Below w.heap.size w w' := by
  have W0 := bdrew (bel1 w (.cells #[.int .i64 5, .int .i64 a, .int .i64 b] 31))
  have P : Hid (∀ W : World, Calls Tryd.prog 17 #[.int .i64 a, .int .i64 0, .int .i64 (b / 4294967296)] W fun e w' => e = .returned (.tuple #[.int .i64 (qv a (b / 4294967296)), .bool (qo a (b / 4294967296))]) ∧ Below W.heap.size W w') := fun W => sratio_z a (b / 4294967296) a0 a1 (by omega) (by omega) W
  have q0 : -2147483648 ≤ b / 4294967296 := by omega
  have q1 : b / 4294967296 ≤ 2147483647 := by omega
  go_enter Tryd.func6, Tryd.ntmps6
  go_upto_region 1 with fail
  go_region
  go_wp2_with fail
  refine (P.out _).mono ?_
  rintro e w1 ⟨rfl, hb⟩
  have W1 := bchain W0 hb
  clear hb W0 P
  go_wp2
  go_ret2
  exact ⟨rfl, W1⟩
set_option maxHeartbeats 1000000 in
theorem want_6 (a b : Int) (a0 : -9223372036854775808 ≤ a) (a1 : a ≤ 9223372036854775807) (b0 : -9223372036854775808 ≤ b) (b1 : b ≤ 9223372036854775807) (w : World) :
    Calls Tryd.prog 6 #[.agg #[.int .i64 6, .int .i64 a, .int .i64 b]] w fun e w' => e = .returned (.tuple #[.int .i64 (sv a), .bool (decide (a < 0))]) ∧ Below w.heap.size w w' := by
  have W0 := bdrew (bel1 w (.cells #[.int .i64 6, .int .i64 a, .int .i64 b] 31))
  have P : Hid (∀ W : World, Calls Tryd.prog 18 #[.int .i64 a] W fun e w' => e = .returned (.tuple #[.int .i64 (sv a), .bool (decide (a < 0))]) ∧ Below W.heap.size W w') := fun W => rfsqrt_any a a0 a1 W
  go_enter Tryd.func6, Tryd.ntmps6
  go_upto_region 1 with fail
  go_region
  go_wp2_with fail
  refine (P.out _).mono ?_
  rintro e w1 ⟨rfl, hb⟩
  have W1 := bchain W0 hb
  clear hb W0 P
  go_wp2
  go_ret2
  exact ⟨rfl, W1⟩
set_option maxHeartbeats 1000000 in
theorem want_7 (a b : Int) (a0 : -9223372036854775808 ≤ a) (a1 : a ≤ 9223372036854775807) (b0 : -9223372036854775808 ≤ b) (b1 : b ≤ 9223372036854775807) (w : World) :
    Calls Tryd.prog 6 #[.agg #[.int .i64 7, .int .i64 a, .int .i64 b]] w fun e w' => e = .returned (.tuple #[.int .i64 (a), .bool (decide (0 < b))]) ∧ Below w.heap.size w w' := by
  have W0 := bdrew (bel1 w (.cells #[.int .i64 7, .int .i64 a, .int .i64 b] 31))
  go_enter Tryd.func6, Tryd.ntmps6
  go_upto_region 1 with fail
  go_region
  go_wp2
  go_ret2
  exact ⟨rfl, W0⟩
set_option maxHeartbeats 1000000 in
theorem want_9 (a b : Int) (a0 : -9223372036854775808 ≤ a) (a1 : a ≤ 9223372036854775807) (b0 : -9223372036854775808 ≤ b) (b1 : b ≤ 9223372036854775807) (w : World) :
    Calls Tryd.prog 6 #[.agg #[.int .i64 9, .int .i64 a, .int .i64 b]] w fun e w' => e = .returned (.tuple #[.int .i64 (clv (rnd (a * b) 32)), .bool (ovv (rnd (a * b) 32))]) ∧ Below w.heap.size w w' := by
  have W0 := bdrew (bel1 w (.cells #[.int .i64 9, .int .i64 a, .int .i64 b] 31))
  have P : Hid (∀ W : World, Calls Tryd.prog 15 #[.int .i64 a, .int .i64 b] W fun e w' => e = .returned (.tuple #[.int .i64 (clv (rnd (a * b) 32)), .bool (ovv (rnd (a * b) 32))]) ∧ Below W.heap.size W w') := fun W => rfmul_any a b a0 a1 b0 b1 W
  go_enter Tryd.func6, Tryd.ntmps6
  go_upto_region 1 with fail
  go_region
  go_wp2_with fail
  refine (P.out _).mono ?_
  rintro e w1 ⟨rfl, hb⟩
  have W1 := bchain W0 hb
  clear hb W0 P
  go_wp2
  go_ret2
  exact ⟨rfl, W1⟩
theorem want_any (k a b : Int) (k0 : 1 ≤ k) (k1 : k ≤ 9) (k8 : k ≠ 8) (a0 : -9223372036854775808 ≤ a) (a1 : a ≤ 9223372036854775807) (b0 : -9223372036854775808 ≤ b) (b1 : b ≤ 9223372036854775807) (w : World) :
    Calls Tryd.prog 6 #[.agg #[.int .i64 k, .int .i64 a, .int .i64 b]] w fun e w' => e = .returned (.tuple #[.int .i64 (wx k a b), .bool (wo k a b)]) ∧ Below w.heap.size w w' := by
  rcases (show k = 1 ∨ k = 2 ∨ k = 3 ∨ k = 4 ∨ k = 5 ∨ k = 6 ∨ k = 7 ∨ k = 9 by omega) with h | h | h | h | h | h | h | h <;> subst h
  · exact want_1 a b a0 a1 b0 b1 w
  · exact want_2 a b a0 a1 b0 b1 w
  · exact want_3 a b a0 a1 b0 b1 w
  · exact want_4 a b a0 a1 b0 b1 w
  · exact want_5 a b a0 a1 b0 b1 w
  · exact want_6 a b a0 a1 b0 b1 w
  · exact want_7 a b a0 a1 b0 b1 w
  · exact want_9 a b a0 a1 b0 b1 w
end Go.Proofs.YtpmlpcejmndidabDoor
