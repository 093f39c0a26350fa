/-
  FixProducts: for all numbers a, b and all whole n the law regattalaw02.FixProducts returns true: a product is the nearest number of steps, of two the even one, or held. No condition.
-/
import Derived.Test.YtpmlpcejmndidaaFWalkC
import Derived.Test.YtpmlpcejmndidaaSWalkL
set_option linter.unusedVariables false
set_option linter.unusedSimpArgs false
namespace Go.Proofs.Ytpmlpcejmndidaa
open Go.RowKit

theorem rfround0 (p q V B : Int) (hS : Sm p q V B) (hB : B < 3138550867693340381917894711603833208051177722232017256448) (w : World) :
    Calls Try.prog 21 #[.agg #[.int .u64 (dg (p) 0), .int .u64 (dg (p) 1), .int .u64 (dg (p) 2), .int .u64 (dg (p) 3), .int .u64 (dg (p) 4), .int .u64 (dg (p) 5), .int .u64 (dg (q) 0), .int .u64 (dg (q) 1), .int .u64 (dg (q) 2), .int .u64 (dg (q) 3), .int .u64 (dg (q) 4), .int .u64 (dg (q) 5)], .int .i64 0] w fun e w' => e = .returned (.tuple #[.int .i64 (clv V), .bool (ovv V)]) ∧ Below w.heap.size w w' := sround_of p q V B 0 (by omega) hS hB w
set_option maxHeartbeats 2000000 in
theorem fixProducts_walk (a b n : Int) (a0 : -9223372036854775808 ≤ a) (a1 : a ≤ 9223372036854775807) (b0 : -9223372036854775808 ≤ b) (b1 : b ≤ 9223372036854775807) (n0 : -9223372036854775808 ≤ n) (n1 : n ≤ 9223372036854775807) (w : World) :
    Calls Try.prog 4 #[.int .i64 a, .int .i64 b, .int .i64 n] w fun e w' => e = .returned (.bool true) ∧ Below w.heap.size w w' := by
  have P1 : Hid (∀ W : World, Calls Try.prog 17 #[.int .i64 a, .int .i64 b] W fun e w' => e = .returned (.tuple #[.int .i64 (clv (rnd (a * b) 32)), .bool (ovv (rnd (a * b) 32))]) ∧ Below W.heap.size W w') := fun W => fmul_any a b a0 a1 b0 b1 W
  have P2 : Hid (∀ W : World, Calls Try.prog 18 #[.int .i64 a, .int .i64 n] W fun e w' => e = .returned (.tuple #[.int .i64 (clv (a * n)), .bool (ovv (a * n))]) ∧ Below W.heap.size W w') := fun W => ftimes_any a n a0 a1 n0 n1 W
  have R1 : Hid (∀ W : World, Calls Try.prog 19 #[.int .i64 a, .int .i64 b] W fun e w' => e = .returned (.tuple #[.int .i64 (clv (rnd (a * b) 32)), .bool (ovv (rnd (a * b) 32))]) ∧ Below W.heap.size W w') := fun W => rfmul_any a b a0 a1 b0 b1 W
  have R2 : Hid (∀ W : World, Calls Try.prog 20 #[.agg #[.int .u64 0, .int .u64 0, .int .u64 0, .int .u64 0, .int .u64 0, .int .u64 0, .int .u64 0, .int .u64 0, .int .u64 0, .int .u64 0, .int .u64 0, .int .u64 0], .int .i64 a, .int .i64 n] W fun e w' => ∃ p' q', e = .returned (.agg #[.int .u64 (dg (p') 0), .int .u64 (dg (p') 1), .int .u64 (dg (p') 2), .int .u64 (dg (p') 3), .int .u64 (dg (p') 4), .int .u64 (dg (p') 5), .int .u64 (dg (q') 0), .int .u64 (dg (q') 1), .int .u64 (dg (q') 2), .int .u64 (dg (q') 3), .int .u64 (dg (q') 4), .int .u64 (dg (q') 5)]) ∧ Sm p' q' (a * n) 85070591730234615865843651857942052864 ∧ Below W.heap.size W w') := fun W => smul_zero a n a0 a1 n0 n1 W
  go_enter Try.func4, Try.ntmps4
  go_wp2_with fail
  refine (kawake_any _).mono ?_
  rintro e w1 ⟨rfl, W1⟩
  go_wp2_with fail
  refine (P1.out _).mono ?_
  rintro e w2 ⟨rfl, hb⟩
  have W2 := bchain W1 hb
  clear hb W1 P1
  go_wp2_with fail
  refine (P2.out _).mono ?_
  rintro e w3 ⟨rfl, hb⟩
  have W3 := bchain W2 hb
  clear hb W2 P2
  go_wp2_with fail
  refine (R1.out _).mono ?_
  rintro e w4 ⟨rfl, hb⟩
  have W4 := bchain W3 hb
  clear hb W3 R1
  go_wp2_with fail
  refine (R2.out _).mono ?_
  rintro e w5 ⟨p', q', rfl, hS, hb⟩
  have W5 := bchain W4 hb
  clear hb W4 R2
  have R3 : Hid (∀ W : World, Calls Try.prog 21 #[.agg #[.int .u64 (dg (p') 0), .int .u64 (dg (p') 1), .int .u64 (dg (p') 2), .int .u64 (dg (p') 3), .int .u64 (dg (p') 4), .int .u64 (dg (p') 5), .int .u64 (dg (q') 0), .int .u64 (dg (q') 1), .int .u64 (dg (q') 2), .int .u64 (dg (q') 3), .int .u64 (dg (q') 4), .int .u64 (dg (q') 5)], .int .i64 0] W fun e w' => e = .returned (.tuple #[.int .i64 (clv (a * n)), .bool (ovv (a * n))]) ∧ Below W.heap.size W w') := fun W => rfround0 p' q' _ _ hS (by omega) W
  clear hS
  go_wp2_with fail
  refine (R3.out _).mono ?_
  rintro e w6 ⟨rfl, hb⟩
  have W6 := bchain W5 hb
  clear hb W5 R3
  go_wp2_with fail
  refine (like_same _ _ _).mono ?_
  rintro e wz ⟨rfl, hz⟩
  subst hz
  go_wp2_with fail
  refine (like_same _ _ _).mono ?_
  rintro e wz ⟨rfl, hz⟩
  subst hz
  go_wp2
  go_ret
  exact ⟨rfl, W6⟩
end Go.Proofs.Ytpmlpcejmndidaa
