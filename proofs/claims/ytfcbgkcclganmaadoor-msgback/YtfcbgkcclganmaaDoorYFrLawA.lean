/-
  The laws of layer 13: like, FrameSeals, FrameOpens.
-/
import Derived.Test.YtfcbgkcclganmaaDoorZ06

set_option linter.unusedVariables false
set_option linter.unusedSimpArgs false
namespace Go.Proofs.YtfcbgkcclganmaaDoor
open Go.RowKit

end Go.Proofs.YtfcbgkcclganmaaDoor
