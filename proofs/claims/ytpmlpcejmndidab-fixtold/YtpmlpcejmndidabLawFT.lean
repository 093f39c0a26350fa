/-
  FixTold: for every number a the law regattalaw02.FixTold returns true: it is told as the float64 that is nearest, of two the one whose last bit is 0; nought is above the line. No condition.
-/
import Derived.Test.YtpmlpcejmndidabFWalkE
import Derived.Test.YtpmlpcejmndidabSWalkO
set_option linter.unusedVariables false
set_option linter.unusedSimpArgs false
namespace Go.Proofs.Ytpmlpcejmndidab
open Go.RowKit

set_option maxHeartbeats 2000000 in
theorem fixTold_walk (a : Int) (a0 : -9223372036854775808 ≤ a) (a1 : a ≤ 9223372036854775807) (w : World) :
    Calls Try.prog 4 #[.int .i64 a] w fun e w' => e = .returned (.bool true) ∧ Below w.heap.size w w' := by
  have ht := fun W => ftold_any a a0 a1 W
  have hr := fun W => sfloat_any a a0 a1 W
  have B64 := run_bits64 (fb a)
  generalize fb a = B at *
  have P1 : Hid (∀ W : World, Calls Try.prog 14 #[.int .i64 a] W fun e w' => e = .returned (.float .f64 B) ∧ w' = W) := ht
  have P2 : Hid (∀ W : World, Calls Try.prog 15 #[.int .i64 a] W fun e w' => e = .returned (.int .u64 (B : Nat)) ∧ Below W.heap.size W w') := hr
  clear ht hr
  go_enter Try.func4, Try.ntmps4
  go_wp2_with fail
  refine (kawake_any _).mono ?_
  rintro e w1 ⟨rfl, W1⟩
  go_wp2_with fail
  refine (P1.out _).mono ?_
  rintro e wz ⟨rfl, hz⟩
  subst hz
  clear P1
  go_wp2_with fail
  refine (P2.out _).mono ?_
  rintro e w3 ⟨rfl, hb⟩
  have W3 := bchain W1 hb
  clear hb W1 P2
  go_wp2
  go_ret
  exact ⟨rfl, W3⟩
end Go.Proofs.Ytpmlpcejmndidab
