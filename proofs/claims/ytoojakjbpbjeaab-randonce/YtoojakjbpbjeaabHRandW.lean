/-
  What rand gives: its words and orders, as the laws ask for them.
-/
import Derived.Test.YtoojakjbpbjeaabHWalkC
set_option linter.unusedVariables false
namespace Go.Proofs.Ytoojakjbpbjeaab
end Go.Proofs.Ytoojakjbpbjeaab
