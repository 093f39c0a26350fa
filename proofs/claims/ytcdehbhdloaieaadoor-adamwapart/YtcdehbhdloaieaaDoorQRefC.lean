/-
  The document's rate of a step (regattaref08); the laws' own rates and pace.
-/
import Derived.Test.YtcdehbhdloaieaaDoorQRefB
import Derived.Test.YtcdehbhdloaieaaDoorBI
set_option linter.unusedVariables false
set_option linter.unusedSimpArgs false
namespace Go.Proofs.YtcdehbhdloaieaaDoor
open Go.RowKit

end Go.Proofs.YtcdehbhdloaieaaDoor
