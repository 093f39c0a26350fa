/-
  VecNorms: a vector's length is the root of the exact sum of its squares; clipped it is scaled by one number.
-/
import Derived.Test.YtldnnjcfihjkdabDoorLawVS
import Derived.Test.YtldnnjcfihjkdabDoorBI
import Derived.Deep.DrawnRows
import Derived.Deep.QuietTactic
import Derived.BigQuiet
set_option linter.unusedVariables false
set_option linter.unusedSimpArgs false
namespace Go.Proofs.YtldnnjcfihjkdabDoor
open Go.RowKit
attribute [local go_sem ↓] Go.wp_at_zero Go.wp_at_succ

theorem few1_any (w1 : World) (ada : Option Addr) (n ca : Nat) (k : n ≤ maxLen) :
    Calls Tryd.prog 18 #[.slice (some ⟨w1.heap.size, 0, none⟩) 1 1] (w1.alloc (.cells #[.slice ada n ca] 23)) fun e w' => e = .returned (.bool (decide (n ≤ 200))) ∧ w' = (w1.alloc (.cells #[.slice ada n ca] 23)) := by
  rw [show decide (n ≤ 200) = fewB (fun _ => n) 1 by simp [fewB, List.range_succ]]
  refine few_any w1.heap.size 1 1 (fun _ => n) (by omega) (by omega) _ (fun k hk => ?_)
  obtain rfl : k = 0 := by omega
  exact ⟨k, ada, ca, by simp [go_sem]⟩
/-- The contract of vec.Clip. -/
structure Vec3 : Prop where
  clipU : ∀ (most : Int) (va : Value) (n : Nat) (f : Nat → Int) (d : Nat) (c : Int) (w : World), -9223372036854775808 ≤ most → most ≤ 9223372036854775807 → n ≤ 70000 → 0 ≤ c → c ≤ 800000000 → VT w → Ar w va n f → Nb va d → Uc w d c →
    Calls Tryd.prog 12 #[.pointer (some ⟨d, 0, none⟩), va, .int .i64 most] w fun e w' => ∃ v', e = .returned (.tuple #[v', .bool (cpB most n f && decide (sE n = 0)), .int .i64 (sE n)]) ∧ LL w w' v' n (cpF most n f) (sE n) ∧ Un d (c + cE (sE n) (cpN most n f)) w w'
end Go.Proofs.YtldnnjcfihjkdabDoor
