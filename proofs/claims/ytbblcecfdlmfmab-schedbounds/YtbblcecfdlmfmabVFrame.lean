/-
  An argument that is a list of numbers, opened.
-/
import Derived.Test.YtbblcecfdlmfmabFFrame
import Derived.Test.YtbblcecfdlmfmabBI
import Derived.Deep.SlicePairs
import Derived.Carry
set_option linter.unusedVariables false
namespace Go.Proofs.Ytbblcecfdlmfmab
open Go.ChangeShapes Go.WideShapes Go.ChangeAt Go.RowKit Go.Joins

theorem laidOutV : laidOutB Try.prog = true := by kernel_rfl
theorem cellsFx : Try.prog.cellsOf 35 = 1 := by kernel_rfl
theorem add_noneV (b o n : Nat) : (⟨b, o, none⟩ : Addr).add n = ⟨b, o + n, none⟩ := by
  unfold Addr.add
  split
  · subst n; rfl
  · rfl
end Go.Proofs.Ytbblcecfdlmfmab
