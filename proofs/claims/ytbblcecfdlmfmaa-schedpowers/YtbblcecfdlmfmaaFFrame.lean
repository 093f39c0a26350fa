/-
  What every row's step wants.
-/
import Derived.Test.YtbblcecfdlmfmaaRows
import Derived.Test.YtbblcecfdlmfmaaBA
import Derived.WalkKit
import Derived.ProofKit
import Derived.OpenShut
import Derived.ChangeOld
import Derived.Below
import Derived.Lib.SmallJoins
set_option linter.unusedVariables false
namespace Go.Proofs.Ytbblcecfdlmfmaa
open Go.ChangeShapes Go.WideShapes Go.ChangeAt Go.RowKit Go.Joins

theorem own : ownKnob Try.prog.godebug = none := by kernel_rfl
end Go.Proofs.Ytbblcecfdlmfmaa
