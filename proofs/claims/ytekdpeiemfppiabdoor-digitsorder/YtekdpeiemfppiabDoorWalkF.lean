/-
  Contracts of math/bits.Div64 where the high word is nought, and of regatta/wide's divide, over what Div64 gives at the two calls.
-/
import Derived.Test.YtekdpeiemfppiabDoorWalkE
import Derived.Test.YtekdpeiemfppiabDoorMath3
set_option linter.unusedVariables false
set_option linter.unusedSimpArgs false
namespace Go.Proofs.YtekdpeiemfppiabDoor
open Go.RowKit

end Go.Proofs.YtekdpeiemfppiabDoor
