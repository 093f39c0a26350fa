/-
  What every row's step wants.
-/
import Derived.Test.YtfcneciknldohaaRows
import Derived.Test.YtfcneciknldohaaBA
import Derived.WalkKit
import Derived.ProofKit
import Derived.OpenShut
import Derived.ChangeOld
import Derived.Below
import Derived.Lib.SmallJoins
set_option linter.unusedVariables false
namespace Go.Proofs.Ytfcneciknldohaa
open Go.ChangeShapes Go.WideShapes Go.ChangeAt Go.RowKit Go.Joins

theorem own : ownKnob Try.prog.godebug = none := by kernel_rfl
end Go.Proofs.Ytfcneciknldohaa
