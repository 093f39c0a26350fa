/-
  The contracts of regattaref05's Part, Below and Between.
-/
import Derived.Test.YtaifihfiompgaaaEWalkA
import Derived.Test.YtaifihfiompgaaaBG
set_option linter.unusedVariables false
set_option linter.unusedSimpArgs false
namespace Go.Proofs.Ytaifihfiompgaaa
open Go.RowKit

theorem dg_32 (V : Int) (h0 : 0 ≤ V) (h1 : V < 340282366920938463463374607431768211456) : dg V 3 * 4294967296 + dg V 2 = V / 18446744073709551616 := by
  simp only [dg, Nat.reduceMul, Int.reducePow]
  omega
theorem dg_21 (V : Int) (h0 : 0 ≤ V) (h1 : V < 79228162514264337593543950336) : dg V 2 * 4294967296 + dg V 1 = V / 4294967296 := by
  simp only [dg, Nat.reduceMul, Int.reducePow]
  omega
theorem nmul_in (x y X Y : Nat) (hx : x ≤ X) (hy : y ≤ Y) : (0 : Int) ≤ (x : Int) * (y : Int) ∧ (x : Int) * (y : Int) ≤ (X : Int) * (Y : Int) := by
  rw [← Int.natCast_mul, ← Int.natCast_mul]
  have := Nat.mul_le_mul hx hy
  omega
end Go.Proofs.Ytaifihfiompgaaa
