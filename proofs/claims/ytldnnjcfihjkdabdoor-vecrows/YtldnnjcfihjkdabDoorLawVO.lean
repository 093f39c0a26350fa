/-
  VecOuters: the matrix of all products has each, held, in its place.
-/
import Derived.Test.YtldnnjcfihjkdabDoorLawVS
import Derived.Test.YtldnnjcfihjkdabDoorBJ
import Derived.Deep.DrawnRows
import Derived.Deep.QuietTactic
import Derived.BigQuiet
set_option linter.unusedVariables false
set_option linter.unusedSimpArgs false
namespace Go.Proofs.YtldnnjcfihjkdabDoor
open Go.RowKit
attribute [local go_sem ↓] Go.wp_at_zero Go.wp_at_succ

/-- Outer's error. -/
def oE (n m : Nat) : Int := if 65536 < n ∨ 65536 < m then 3 else if n = 0 ∨ m = 0 then 40 else if 65536 < n * m then 3 else 0
/-- The contract of vec.Outer. -/
structure Vec4 : Prop where
  outerU : ∀ (va vb : Value) (n m : Nat) (f g : Nat → Int) (d : Nat) (c : Int) (w : World), n ≤ 70000 → m ≤ 70000 → 0 ≤ c → c ≤ 800000000 → VT w → Ar w va n f → Ar w vb m g → Nb va d → Nb vb d → Uc w d c →
    Calls Tryd.prog 15 #[.pointer (some ⟨d, 0, none⟩), va, vb] w fun e w' => ∃ (r k : Int) (v' : Value), e = .returned (.tuple #[.agg #[.int .i64 r, .int .i64 k, v'], .int .i64 (oE n m)]) ∧ r = cE (oE n m) (n : Int) ∧ k = cE (oE n m) (m : Int) ∧ LL w w' v' (n * m) (otX f g m) (oE n m) ∧ Un d (c + cE (oE n m) (otN f g m n)) w w'
theorem oE_few (n m : Nat) (hn : n ≤ 200) (hm : m ≤ 200) : oE n m = (if n = 0 ∨ m = 0 then 40 else 0) := by
  unfold oE
  have h := Nat.mul_le_mul hn hm
  rw [if_neg (by omega)]
  split
  · rfl
  · rw [if_neg (by omega)]
end Go.Proofs.YtldnnjcfihjkdabDoor
