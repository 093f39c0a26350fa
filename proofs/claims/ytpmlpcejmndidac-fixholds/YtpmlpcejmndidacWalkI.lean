/-
  The contract of regattalaw01's awake: the chapter's examples come out as they should.
-/
import Derived.Test.YtpmlpcejmndidacWalkH
set_option linter.unusedVariables false
set_option linter.unusedSimpArgs false
namespace Go.Proofs.Ytpmlpcejmndidac
open Go.RowKit

theorem root_17 (w : World) : Calls Try.prog 15 #[.agg #[.int .i64 (t3 17), .int .u64 (m3 17), .int .u64 (lo 17)]] w fun e w' => e = .returned (.tuple #[.int .i64 4, .bool false]) ∧ Below w.heap.size w w' := by
  have h := root_mid 17 (by omega) (by omega) w
  rw [show rt 17 = 4 by kernel_rfl] at h
  exact h
theorem round_7 (w : World) : Calls Try.prog 13 #[.agg #[.int .i64 (hi 7), .int .u64 (lo 7)], .int .i64 1] w fun e w' => e = .returned (.agg #[.int .i64 (hi 4), .int .u64 (lo 4)]) ∧ Below w.heap.size w w' := by
  have h := round_mid 7 1 (by omega) (by omega) (by omega) (by omega) w
  rw [show rnd 7 1 = 4 from rfl] at h
  exact h

end Go.Proofs.Ytpmlpcejmndidac
