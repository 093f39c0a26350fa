/-
  The contract of fix's Float.
-/
import Derived.Test.YtpmlpcejmndidabFMath2
import Derived.Test.YtpmlpcejmndidabFWalkC
set_option linter.unusedVariables false
set_option linter.unusedSimpArgs false
namespace Go.Proofs.Ytpmlpcejmndidab
open Go.RowKit

theorem told_bits' (a : Int) (a0 : -9223372036854775808 ≤ a) (a1 : a ≤ 9223372036854775807) : floatBits .quo .f64 (floatOfInt .f64 a) 4751297606875873280 = some (fb a) := by
  have h := told_bits a a0 a1
  rw [show floatOfInt .f64 4294967296 = 4751297606875873280 by decide] at h
  exact h
set_option maxHeartbeats 1000000 in
theorem ftold_any (a : Int) (a0 : -9223372036854775808 ≤ a) (a1 : a ≤ 9223372036854775807) (w : World) :
    Calls Try.prog 14 #[.int .i64 a] w fun e w' => e = .returned (.float .f64 (fb a)) ∧ w' = w := by
  have hq := fun w => run_float_arith (P := Try.prog) w .quo 28 .f64 _ _ _ (told_bits' a a0 a1)
  go_enter Try.func14, Try.ntmps14
  go_wp2
  go_ret
  exact ⟨rfl, rfl⟩
end Go.Proofs.Ytpmlpcejmndidab
