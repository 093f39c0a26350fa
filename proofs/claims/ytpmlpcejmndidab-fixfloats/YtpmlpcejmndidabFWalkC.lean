/-
  The contracts of the laws' like and of fix's Clamp, Floor, Whole, whole, Int.
-/
import Derived.Test.YtpmlpcejmndidabFWalkB
set_option linter.unusedVariables false
set_option linter.unusedSimpArgs false
namespace Go.Proofs.Ytpmlpcejmndidab
open Go.RowKit

set_option maxHeartbeats 1000000 in
theorem like_same (a : Int) (o : Bool) (w : World) :
    Calls Try.prog 12 #[.int .i64 a, .bool o, .int .i64 a, .bool o] w fun e w' => e = .returned (.bool true) ∧ w' = w := by
  go_enter Try.func12, Try.ntmps12
  cases o
  · go_wp2
    go_ret
    exact ⟨rfl, rfl⟩
  · go_wp2
    go_ret
    exact ⟨rfl, rfl⟩
end Go.Proofs.Ytpmlpcejmndidab
