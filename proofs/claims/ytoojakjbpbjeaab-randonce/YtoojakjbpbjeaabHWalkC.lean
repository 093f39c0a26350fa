/-
  The contract of rand's Perm.
-/
import Derived.Test.YtoojakjbpbjeaabHWalkB
import Derived.Test.YtoojakjbpbjeaabEBase
import Derived.Test.YtoojakjbpbjeaabEDraw
set_option linter.unusedVariables false
set_option linter.unusedSimpArgs false
namespace Go.Proofs.Ytoojakjbpbjeaab
open Go.RowKit

set_option maxHeartbeats 1000000 in
theorem pPerm_bad (s : Nat) (a b c n : Int) (hn : n < 0 ∨ 65536 < n) (w : World) :
    Calls Try.prog 7 #[.agg #[.int .u64 (s : Int), .int .i64 a, .int .i64 b, .int .i64 c], .int .i64 n] w fun e w' => ∃ (ad : Option Addr) (cap : Nat), e = .returned (.tuple #[.slice ad 0 cap, .int .i64 2]) ∧ Below w.heap.size w w' := by
  have hb0 := bel1 w (.cells #[.int .u64 (s : Int), .int .i64 a, .int .i64 b, .int .i64 c] 24)
  by_cases h0 : n < 0
  · go_enter Try.func7, Try.ntmps7
    go_wp2
    go_ret2
    first | exact ⟨none, 0, rfl, hb0⟩ | exact ⟨⟨none, 0, rfl⟩, hb0⟩
  · have h1 : 65536 < n := by omega
    go_enter Try.func7, Try.ntmps7
    go_wp2
    go_ret2
    first | exact ⟨none, 0, rfl, hb0⟩ | exact ⟨⟨none, 0, rfl⟩, hb0⟩
end Go.Proofs.Ytoojakjbpbjeaab
