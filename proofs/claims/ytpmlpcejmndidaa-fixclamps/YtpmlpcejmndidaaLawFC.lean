/-
  FixClamps: for all numbers a, low, high the law regattalaw02.FixClamps returns true: a number is brought between two others. No condition.
-/
import Derived.Test.YtpmlpcejmndidaaFWalkC
set_option linter.unusedVariables false
set_option linter.unusedSimpArgs false
namespace Go.Proofs.Ytpmlpcejmndidaa
open Go.RowKit

set_option maxHeartbeats 1000000 in
theorem fixClamps_walk (a l h : Int) (a0 : -9223372036854775808 ≤ a) (a1 : a ≤ 9223372036854775807) (l0 : -9223372036854775808 ≤ l) (l1 : l ≤ 9223372036854775807) (h0 : -9223372036854775808 ≤ h) (h1 : h ≤ 9223372036854775807) (w : World) :
    Calls Try.prog 8 #[.int .i64 a, .int .i64 l, .int .i64 h] w fun e w' => e = .returned (.bool true) ∧ Below w.heap.size w w' := by
  have CL : Hid (∀ W : World, Calls Try.prog 33 #[.int .i64 a, .int .i64 l, .int .i64 h] W fun e w' => e = .returned (.int .i64 (cl3 a l h)) ∧ w' = W) := fun W => fclamp_any a l h W
  unfold cl3 at CL
  by_cases c1 : h < a
  · rw [if_pos c1] at CL
    go_enter Try.func8, Try.ntmps8
    go_wp2_with fail
    refine (kawake_any _).mono ?_
    rintro e w1 ⟨rfl, W1⟩
    go_wp2_with fail
    refine (CL.out _).mono ?_
    rintro e w2 ⟨rfl, rfl⟩
    go_wp2
    go_ret
    exact ⟨rfl, W1⟩
  · rw [if_neg c1] at CL
    by_cases c2 : a < l
    · rw [if_pos c2] at CL
      go_enter Try.func8, Try.ntmps8
      go_wp2_with fail
      refine (kawake_any _).mono ?_
      rintro e w1 ⟨rfl, W1⟩
      go_wp2_with fail
      refine (CL.out _).mono ?_
      rintro e w2 ⟨rfl, rfl⟩
      go_wp2
      go_ret
      exact ⟨rfl, W1⟩
    · rw [if_neg c2] at CL
      go_enter Try.func8, Try.ntmps8
      go_wp2_with fail
      refine (kawake_any _).mono ?_
      rintro e w1 ⟨rfl, W1⟩
      go_wp2_with fail
      refine (CL.out _).mono ?_
      rintro e w2 ⟨rfl, rfl⟩
      go_wp2
      go_ret
      exact ⟨rfl, W1⟩
end Go.Proofs.Ytpmlpcejmndidaa
