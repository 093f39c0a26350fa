/-
  What rand must give (assumed by the laws), and the laws' awake.
-/
import Derived.Test.YtaifihfiompgaaaEWalkD
set_option linter.unusedVariables false
set_option linter.unusedSimpArgs false
namespace Go.Proofs.Ytaifihfiompgaaa
open Go.RowKit

/-- What rand asks of the world. -/
def RT (w : World) : Prop := True
theorem RT.later {w w' : World} (h : RT w) (hb : Below w.heap.size w w') : RT w' := trivial
/-- A key's value. -/
def ky (s : Nat) (a b c : Int) : Value := .agg #[.int .u64 (s : Int), .int .i64 a, .int .i64 b, .int .i64 c]
/-- Which one changes places with i. -/
def jN (s : Nat) (a b c : Int) (i : Nat) : Nat := blN (wdN s a b c (i : Int)) (i + 1)
theorem wd_awake : wdN 1 0 0 0 0 ≠ 0 := by decide +kernel
theorem bel_rt {w w' : World} (h : RT w) (hb : Below w.heap.size w w') : RT w' := h.later hb
end Go.Proofs.Ytaifihfiompgaaa
