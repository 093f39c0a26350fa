/-
  The contract of regatta/wide's Root.
-/
import Derived.Test.YtekdpeiemfppiabDoorWalkG
import Derived.Test.YtekdpeiemfppiabDoorMath4
set_option linter.unusedVariables false
set_option linter.unusedSimpArgs false
namespace Go.Proofs.YtekdpeiemfppiabDoor
open Go.RowKit

theorem or_bit (r : Int) (k : Nat) (hk : k ≤ 62) (h0 : 0 ≤ r) (hm : r % 2 ^ (k + 1) = 0) (ht : r + 2 ^ (k + 1) ≤ 9223372036854775808) : bits .or .i64 r (2 ^ k) = r + 2 ^ k := by
  have hp := pow_pos' k
  have e2 := pow_two k
  rw [or_i64 r (2 ^ k) (k + 1) (by omega) hm (by omega) (by omega), sg_id _ (by omega) (by omega)]

end Go.Proofs.YtekdpeiemfppiabDoor
