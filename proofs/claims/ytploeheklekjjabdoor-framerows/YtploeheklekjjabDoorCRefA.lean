/-
  The document's sum (regattaref11): number, bits.
-/
import Derived.Test.YtploeheklekjjabDoorCBase
set_option linter.unusedVariables false
set_option linter.unusedSimpArgs false
namespace Go.Proofs.YtploeheklekjjabDoor
open Go.RowKit

end Go.Proofs.YtploeheklekjjabDoor
