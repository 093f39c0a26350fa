/-
  What rand gives: its words and orders, as the laws ask for them.
-/
import Derived.Test.YtoojakjbpbjeaabHWalkC
set_option linter.unusedVariables false
namespace Go.Proofs.Ytoojakjbpbjeaab
theorem rand1 : Rand1 where
  word := fun s a b c i w hk i0 i1 _ => pWord_any s a b c i hk i0 i1 w
  perm := fun s a b c n w hk hn _ => pPerm_any s a b c n hk hn w
end Go.Proofs.Ytoojakjbpbjeaab
