/-
  What rand gives: its contracts, as the laws ask for them.
-/
import Derived.Test.YtoojakjbpbjeaaaHWalkC
import Derived.Test.YtoojakjbpbjeaaaLawRB
import Derived.Test.YtoojakjbpbjeaaaLawRE
set_option linter.unusedVariables false
namespace Go.Proofs.Ytoojakjbpbjeaaa
theorem rand1 : Rand1 where
  word := fun s a b c i w hk i0 i1 _ => pWord_any s a b c i hk i0 i1 w
  perm := fun s a b c n w hk hn _ => pPerm_any s a b c n hk hn w
theorem rand3 : Rand3 where
  below := fun s a b c i n w hk i0 i1 n0 n1 _ => pBelow_any s a b c i n hk i0 i1 n0 n1 w
  belowN := fun s a b c i n w hn => pBelow_none s a b c i n hn w
theorem rand4 : Rand4 where
  permE := fun s a b c n w hn => pPerm_bad s a b c n hn w
end Go.Proofs.Ytoojakjbpbjeaaa
