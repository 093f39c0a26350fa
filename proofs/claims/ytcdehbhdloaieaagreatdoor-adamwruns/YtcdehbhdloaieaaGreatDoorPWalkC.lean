/-
  The contracts of vec's Dot, Sum, Mean and Norm.
-/
import Derived.Test.YtcdehbhdloaieaaGreatDoorBK
import Derived.Test.YtcdehbhdloaieaaGreatDoorPWalkA
import Derived.Test.YtcdehbhdloaieaaGreatDoorPWalkB
set_option linter.unusedVariables false
set_option linter.unusedSimpArgs false
namespace Go.Proofs.YtcdehbhdloaieaaGreatDoor
open Go.RowKit


end Go.Proofs.YtcdehbhdloaieaaGreatDoor
