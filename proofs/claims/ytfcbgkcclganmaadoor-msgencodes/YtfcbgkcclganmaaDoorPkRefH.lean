/-
  The document's reader (regattaref12.R): Ints, Fixes.
-/
import Derived.Test.YtfcbgkcclganmaaDoorPkRefG
set_option linter.unusedVariables false
set_option linter.unusedSimpArgs false
namespace Go.Proofs.YtfcbgkcclganmaaDoor
open Go.RowKit

theorem pvS_err {each : Nat} {s : Sta} {x : Nat} (h : pn (rS each) s = .error x) : pv (rS each) 0 s = 0 := by
  rcases pnS_err h with rfl | ⟨r, rfl, h2 | ⟨n, t, h2, h3, rfl⟩⟩
  · rfl
  · exact pv_no (rS_no h2)
  · exact pv_no (rS_lack h2 h3)
end Go.Proofs.YtfcbgkcclganmaaDoor
