/-
  The contracts of the laws' like and of fix's Clamp, Floor, Whole, whole, Int.
-/
import Derived.Test.YtpmlpcejmndidabDoorFWalkB
set_option linter.unusedVariables false
set_option linter.unusedSimpArgs false
namespace Go.Proofs.YtpmlpcejmndidabDoor
open Go.RowKit

end Go.Proofs.YtpmlpcejmndidabDoor
