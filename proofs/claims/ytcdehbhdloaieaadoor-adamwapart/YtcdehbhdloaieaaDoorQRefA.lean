/-
  The document's answers of layer 8: powers, rates, paces (regattaref08).
-/
import Derived.Test.YtcdehbhdloaieaaDoorQWalkD
import Derived.Test.YtcdehbhdloaieaaDoorBG
import Derived.Test.YtcdehbhdloaieaaDoorBI
set_option linter.unusedVariables false
set_option linter.unusedSimpArgs false
namespace Go.Proofs.YtcdehbhdloaieaaDoor
open Go.RowKit

end Go.Proofs.YtcdehbhdloaieaaDoor
