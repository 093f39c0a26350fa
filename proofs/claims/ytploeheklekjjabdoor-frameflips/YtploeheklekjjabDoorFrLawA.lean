/-
  The laws of layer 13: like, FrameSeals, FrameOpens.
-/
import Derived.Test.YtploeheklekjjabDoorFrDefs
set_option linter.unusedVariables false
set_option linter.unusedSimpArgs false
namespace Go.Proofs.YtploeheklekjjabDoor
open Go.RowKit

end Go.Proofs.YtploeheklekjjabDoor
