/-
  What every row's step wants.
-/
import Derived.Test.YtcdehbhdloaieaaGreatDoorRows
import Derived.Test.YtcdehbhdloaieaaGreatDoorBA
import Derived.WalkKit
import Derived.ProofKit
import Derived.OpenShut
import Derived.ChangeOld
import Derived.Below
import Derived.Lib.SmallJoins
set_option linter.unusedVariables false
namespace Go.Proofs.YtcdehbhdloaieaaGreatDoor
open Go.ChangeShapes Go.WideShapes Go.ChangeAt Go.RowKit Go.Joins

theorem own : ownKnob Tryz.prog.godebug = none := by kernel_rfl
end Go.Proofs.YtcdehbhdloaieaaGreatDoor
