/-
  The contract of regattalaw01's awake: the chapter's examples come out as they should.
-/
import Derived.Test.YtpmlpcejmndidabDoorWalkH
set_option linter.unusedVariables false
set_option linter.unusedSimpArgs false
namespace Go.Proofs.YtpmlpcejmndidabDoor
open Go.RowKit

theorem quo_5 (w : World) : Calls Tryd.prog 76 #[.agg #[.int .i64 (hi (-5)), .int .u64 (lo (-5))], .int .i64 2] w fun e w' => e = .returned (.tuple #[.agg #[.int .i64 (hi (-2)), .int .u64 (lo (-2))], .bool true]) ∧ Below w.heap.size w w' := by
  have D1 : DivAt 0 (ab (-5) / 18446744073709551616) (ab 2) := by
    rw [show ab (-5) / 18446744073709551616 = 0 from rfl, show ab 2 = 2 from rfl]
    exact div64_zero 0 2 (by omega) (by omega) (by omega) (by omega)
  have D2 : DivAt (ab (-5) / 18446744073709551616 % ab 2) (lo (ab (-5))) (ab 2) := by
    rw [show ab (-5) / 18446744073709551616 % ab 2 = 0 from rfl, show ab 2 = 2 from rfl, show lo (ab (-5)) = 5 from rfl]
    exact div64_zero 5 2 (by omega) (by omega) (by omega) (by omega)
  have h := quo_of (-5) 2 (by omega) (by omega) (by omega) (by omega) (by omega) D1 D2 w
  rw [show quo (-5) 2 = -2 from rfl] at h
  exact h
theorem root_17 (w : World) : Calls Tryd.prog 33 #[.agg #[.int .i64 (t3 17), .int .u64 (m3 17), .int .u64 (lo 17)]] w fun e w' => e = .returned (.tuple #[.int .i64 4, .bool false]) ∧ Below w.heap.size w w' := by
  have h := root_mid 17 (by omega) (by omega) w
  rw [show rt 17 = 4 by kernel_rfl] at h
  exact h
theorem round_7 (w : World) : Calls Tryd.prog 32 #[.agg #[.int .i64 (hi 7), .int .u64 (lo 7)], .int .i64 1] w fun e w' => e = .returned (.agg #[.int .i64 (hi 4), .int .u64 (lo 4)]) ∧ Below w.heap.size w w' := by
  have h := round_mid 7 1 (by omega) (by omega) (by omega) (by omega) w
  rw [show rnd 7 1 = 4 from rfl] at h
  exact h

end Go.Proofs.YtpmlpcejmndidabDoor
