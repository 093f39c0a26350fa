/-
  What every row's step wants.
-/
import Derived.Test.YtbblcecfdlmfmabRows
import Derived.Test.YtbblcecfdlmfmabBA
import Derived.WalkKit
import Derived.ProofKit
import Derived.OpenShut
import Derived.ChangeOld
import Derived.Below
import Derived.Lib.SmallJoins
set_option linter.unusedVariables false
namespace Go.Proofs.Ytbblcecfdlmfmab
open Go.ChangeShapes Go.WideShapes Go.ChangeAt Go.RowKit Go.Joins

theorem own : ownKnob Try.prog.godebug = none := by kernel_rfl
end Go.Proofs.Ytbblcecfdlmfmab
