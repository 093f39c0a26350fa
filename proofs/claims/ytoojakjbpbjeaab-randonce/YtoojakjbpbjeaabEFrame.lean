/-
  An argument that is a key, opened.
-/
import Derived.Test.YtoojakjbpbjeaabFFrame
import Derived.Test.YtoojakjbpbjeaabVFrame
import Derived.Test.YtoojakjbpbjeaabEWalkA
set_option linter.unusedVariables false
namespace Go.Proofs.Ytoojakjbpbjeaab
open Go.ChangeShapes Go.WideShapes Go.ChangeAt Go.RowKit Go.Joins

theorem cellsKa : Try.prog.cellsOf 24 = 4 := by kernel_rfl
theorem bounds_u64' {x : Int} (h : (Lit.int .u64 x).wf = true) : 0 ≤ x ∧ x ≤ 18446744073709551615 := by
  simp [Lit.wf, IntKind.min, IntKind.max, IntKind.bits, IntKind.signed] at h
  omega
end Go.Proofs.Ytoojakjbpbjeaab
