/-
  RandWords: any key and place have the document's word.
-/
import Derived.Test.YtoojakjbpbjeaabEBase
import Derived.Deep.RegionHeld3
set_option linter.unusedVariables false
set_option linter.unusedSimpArgs false
namespace Go.Proofs.Ytoojakjbpbjeaab
open Go.RowKit

end Go.Proofs.Ytoojakjbpbjeaab
