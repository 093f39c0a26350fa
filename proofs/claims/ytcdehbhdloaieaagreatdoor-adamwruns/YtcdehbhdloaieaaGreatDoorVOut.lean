/-
  vec's Outer: its error, and what the laws ask of it.
-/
import Derived.Test.YtcdehbhdloaieaaGreatDoorBK
import Derived.Test.YtcdehbhdloaieaaGreatDoorBJ
set_option linter.unusedVariables false
set_option linter.unusedSimpArgs false
namespace Go.Proofs.YtcdehbhdloaieaaGreatDoor
open Go.RowKit

/-- Outer's error. -/
def oE (n m : Nat) : Int := if 65536 < n ∨ 65536 < m then 3 else if n = 0 ∨ m = 0 then 40 else if 65536 < n * m then 3 else 0
theorem oE_few (n m : Nat) (hn : n ≤ 200) (hm : m ≤ 200) : oE n m = (if n = 0 ∨ m = 0 then 40 else 0) := by
  unfold oE
  have h := Nat.mul_le_mul hn hm
  rw [if_neg (by omega)]
  split
  · rfl
  · rw [if_neg (by omega)]
end Go.Proofs.YtcdehbhdloaieaaGreatDoor
