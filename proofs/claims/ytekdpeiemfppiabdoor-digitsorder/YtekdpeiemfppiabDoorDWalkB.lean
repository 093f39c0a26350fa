/-
  The contract of regattaref03's Text.
-/
import Derived.Test.YtekdpeiemfppiabDoorDWalkA
set_option linter.unusedVariables false
set_option linter.unusedSimpArgs false
namespace Go.Proofs.YtekdpeiemfppiabDoor
open Go.RowKit

/-- The digits behind the point, at most so many. -/
def flf : Nat → Nat → List UInt8
  | 0, _ => []
  | k + 1, r => if r = 0 then [] else dl (10 * r / 4294967296) ++ flf k (10 * r % 4294967296)
/-- A number's text. -/
def tl (a : Int) : List UInt8 := (if a < 0 then [45] else []) ++ dl (a.natAbs / 4294967296) ++ (if a.natAbs % 4294967296 = 0 then [] else 46 :: flf 33 (a.natAbs % 4294967296))
/-- A string's length. -/
def szOf : Value → Nat
  | .string b => b.size
  | _ => 0
theorem flf_zero (k : Nat) : flf k 0 = [] := by cases k <;> rfl
theorem flf_succ (k r : Nat) (h : r ≠ 0) : flf (k + 1) r = dl (10 * r / 4294967296) ++ flf k (10 * r % 4294967296) := by
  show (if r = 0 then [] else _) = _
  rw [if_neg h]
theorem rest_next (r j : Nat) : 10 * (r * 10 ^ j % 4294967296) % 4294967296 = r * 10 ^ (j + 1) % 4294967296 := by
  rw [Nat.pow_succ, ← Nat.mul_assoc, Nat.mul_comm (r * 10 ^ j) 10, Nat.mul_mod, Nat.mod_mod, ← Nat.mul_mod]
theorem rest_end (r : Nat) : r * 10 ^ 32 % 4294967296 = 0 := by
  have h : (10 : Nat) ^ 32 = 4294967296 * 23283064365386962890625 := by decide
  rw [h, ← Nat.mul_assoc, Nat.mul_comm r, Nat.mul_assoc, Nat.mul_mod_right]

end Go.Proofs.YtekdpeiemfppiabDoor
