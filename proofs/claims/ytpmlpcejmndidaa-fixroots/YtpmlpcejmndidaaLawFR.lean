/-
  FixRoots: for every number a the law regattalaw02.FixRoots returns true: a root is the greatest number of steps whose square isn't above; there is none below 0. No condition.
-/
import Derived.Test.YtpmlpcejmndidaaFWalkC
import Derived.Test.YtpmlpcejmndidaaSWalkL
set_option linter.unusedVariables false
set_option linter.unusedSimpArgs false
namespace Go.Proofs.Ytpmlpcejmndidaa
open Go.RowKit

set_option maxHeartbeats 2000000 in
theorem fixRoots_walk (a : Int) (a0 : -9223372036854775808 ≤ a) (a1 : a ≤ 9223372036854775807) (w : World) :
    Calls Try.prog 6 #[.int .i64 a] w fun e w' => e = .returned (.bool true) ∧ Below w.heap.size w w' := by
  have P1 : Hid (∀ W : World, Calls Try.prog 26 #[.int .i64 a] W fun e w' => e = .returned (.tuple #[.int .i64 (sv a), .bool (decide (a < 0))]) ∧ Below W.heap.size W w') := fun W => fsqrt_any a a0 a1 W
  have R1 : Hid (∀ W : World, Calls Try.prog 27 #[.int .i64 a] W fun e w' => e = .returned (.tuple #[.int .i64 (sv a), .bool (decide (a < 0))]) ∧ Below W.heap.size W w') := fun W => rfsqrt_any a a0 a1 W
  have LK : Hid (∀ W : World, Calls Try.prog 16 #[.int .i64 (sv a), .bool (decide (a < 0)), .int .i64 (sv a), .bool (decide (a < 0))] W fun e w' => e = .returned (.bool true) ∧ w' = W) := fun W => like_same _ _ W
  go_enter Try.func6, Try.ntmps6
  go_wp2_with fail
  refine (kawake_any _).mono ?_
  rintro e w1 ⟨rfl, W1⟩
  go_wp2_with fail
  refine (P1.out _).mono ?_
  rintro e w2 ⟨rfl, hb⟩
  have W2 := bchain W1 hb
  clear hb W1 P1
  go_wp2_with fail
  refine (R1.out _).mono ?_
  rintro e w3 ⟨rfl, hb⟩
  have W3 := bchain W2 hb
  clear hb W2 R1
  go_wp2_with fail
  refine (LK.out _).mono ?_
  rintro e w4 ⟨rfl, rfl⟩
  clear LK
  go_wp2
  go_ret
  exact ⟨rfl, W3⟩
end Go.Proofs.Ytpmlpcejmndidaa
