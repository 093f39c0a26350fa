/-
  What every row's step wants.
-/
import Derived.Test.YtcdehbhdloaieaaDoorRows
import Derived.Test.YtcdehbhdloaieaaDoorBA
import Derived.WalkKit
import Derived.ProofKit
import Derived.OpenShut
import Derived.ChangeOld
import Derived.Below
import Derived.Lib.SmallJoins
set_option linter.unusedVariables false
namespace Go.Proofs.YtcdehbhdloaieaaDoor
open Go.ChangeShapes Go.WideShapes Go.ChangeAt Go.RowKit Go.Joins

theorem own : ownKnob Tryd.prog.godebug = none := by kernel_rfl
end Go.Proofs.YtcdehbhdloaieaaDoor
