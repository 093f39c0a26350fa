/-
  The contracts of rand's Below, Part and Between.
-/
import Derived.Test.YtoojakjbpbjeaabHWalkA
import Derived.Test.YtoojakjbpbjeaabEWalkB
import Derived.Deep.RegionHeld3
set_option linter.unusedVariables false
set_option linter.unusedSimpArgs false
namespace Go.Proofs.Ytoojakjbpbjeaab
open Go.RowKit

set_option maxHeartbeats 1000000 in
theorem pBelow_none (s : Nat) (a b c i n : Int) (hn : n < 1) (w : World) :
    Calls Try.prog 15 #[.agg #[.int .u64 (s : Int), .int .i64 a, .int .i64 b, .int .i64 c], .int .i64 i, .int .i64 n] w fun e w' => e = .returned (.int .i64 0) ∧ Below w.heap.size w w' := by
  have hb0 := bel1 w (.cells #[.int .u64 (s : Int), .int .i64 a, .int .i64 b, .int .i64 c] 24)
  go_enter Try.func15, Try.ntmps15
  go_wp2
  go_ret
  exact ⟨rfl, hb0⟩
theorem btw_math (lw hg : Int) (D p : Nat) (hD : (D : Int) = hg - lw) : hg * (p : Int) - lw * (p : Int) = ((D * p : Nat) : Int) := by
  rw [← Int.sub_mul, ← hD, Int.natCast_mul]
end Go.Proofs.Ytoojakjbpbjeaab
