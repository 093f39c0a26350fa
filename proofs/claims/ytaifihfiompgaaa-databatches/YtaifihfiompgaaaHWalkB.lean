/-
  The contracts of rand's Below, Part and Between.
-/
import Derived.Test.YtaifihfiompgaaaHWalkA
import Derived.Test.YtaifihfiompgaaaEWalkB
import Derived.Deep.RegionHeld3
set_option linter.unusedVariables false
set_option linter.unusedSimpArgs false
namespace Go.Proofs.Ytaifihfiompgaaa
open Go.RowKit

theorem btw_math (lw hg : Int) (D p : Nat) (hD : (D : Int) = hg - lw) : hg * (p : Int) - lw * (p : Int) = ((D * p : Nat) : Int) := by
  rw [← Int.sub_mul, ← hD, Int.natCast_mul]
end Go.Proofs.Ytaifihfiompgaaa
