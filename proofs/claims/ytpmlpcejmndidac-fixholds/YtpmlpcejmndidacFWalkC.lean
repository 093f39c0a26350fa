/-
  The contracts of the laws' like and of fix's Clamp, Floor, Whole, whole, Int.
-/
import Derived.Test.YtpmlpcejmndidacFWalkB
set_option linter.unusedVariables false
set_option linter.unusedSimpArgs false
namespace Go.Proofs.Ytpmlpcejmndidac
open Go.RowKit

end Go.Proofs.Ytpmlpcejmndidac
