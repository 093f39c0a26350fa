/-
  The document's small steps of layer 9 (regattaref09): mean, mul, div, add; clipping, its list apart from the unit.
-/
import Derived.Test.YtcdehbhdloaieaaDoorAMath
import Derived.Test.YtcdehbhdloaieaaDoorBG
import Derived.Test.YtcdehbhdloaieaaDoorBI
set_option linter.unusedVariables false
set_option linter.unusedSimpArgs false
namespace Go.Proofs.YtcdehbhdloaieaaDoor
open Go.RowKit

theorem rr_32 (v : Int) : rr v 32 = rnd v 32 := by unfold rr; rw [if_neg (by omega)]
end Go.Proofs.YtcdehbhdloaieaaDoor
