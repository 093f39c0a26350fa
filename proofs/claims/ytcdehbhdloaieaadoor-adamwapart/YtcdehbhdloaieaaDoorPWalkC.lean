/-
  The contracts of vec's Dot, Sum, Mean and Norm.
-/
import Derived.Test.YtcdehbhdloaieaaDoorBK
import Derived.Test.YtcdehbhdloaieaaDoorPWalkA
import Derived.Test.YtcdehbhdloaieaaDoorPWalkB
set_option linter.unusedVariables false
set_option linter.unusedSimpArgs false
namespace Go.Proofs.YtcdehbhdloaieaaDoor
open Go.RowKit


end Go.Proofs.YtcdehbhdloaieaaDoor
