/-
  VecDots: sums of products, of parts, and means are exact until their end.
-/
import Derived.Test.YtldnnjcfihjkdabDoorBK
import Derived.Deep.Cut
import Derived.Deep.DeepCutAuto
import Derived.Deep.DrawnRows
import Derived.Deep.QuietTactic
import Derived.BigQuiet
set_option linter.unusedVariables false
set_option linter.unusedSimpArgs false
namespace Go.Proofs.YtldnnjcfihjkdabDoor
open Go.RowKit
attribute [local go_sem ↓] Go.wp_at_zero Go.wp_at_succ

def tn (n m : Nat) (k : Nat) : Nat := if k = 0 then n else m
theorem few_tn (n m : Nat) : fewB (tn n m) 2 = (decide (n ≤ 200) && decide (m ≤ 200)) := by simp [fewB, tn, List.range_succ]
theorem l2_new {w w' : World} (hW : Below w.heap.size w w') (t t' : TypeId) : L2 w w'.heap.size (w'.heap.size + 1) 0 0 ((w'.alloc (.cells #[.int .i64 0] t)).alloc (.cells #[.int .i64 0] t')) :=
  ⟨bchain hW (bchain (bel1' w' _) (bel1' _ _)), ⟨by simp [go_sem], by simp [go_sem]⟩, ⟨by simp [go_sem], by simp [go_sem]⟩⟩
theorem dot_few {n m : Nat} (f g : Nat → Int) (hn : n ≤ 200) (hm : m ≤ 200) : dE n m = (if n = m then 0 else 40) ∧ (n = m → dX n m f g = clv (rr (dotV f g n) 32) ∧ dO n m f g = ovv (rr (dotV f g n) 32)) ∧ (n ≠ m → dX n m f g = 0 ∧ dO n m f g = false) := by
  have e : dE n m = (if n = m then 0 else 40) := by unfold dE; rw [if_neg (by omega)]
  refine ⟨e, fun h => ?_, fun h => ?_⟩
  · rw [if_pos h] at e; exact ⟨by unfold dX; rw [if_pos e], by unfold dO; rw [if_pos e]⟩
  · rw [if_neg h] at e; exact ⟨by unfold dX; rw [if_neg (by omega)], by unfold dO; rw [if_neg (by omega)]⟩
theorem l2_new' {w w' : World} {d : Nat} (hW : Below w.heap.size w w') (hd : w'.heap.size = d) (t t' : TypeId) : L2 w d (d + 1) 0 0 ((w'.alloc (.cells #[.int .i64 0] t)).alloc (.cells #[.int .i64 0] t')) := hd ▸ l2_new hW t t'
end Go.Proofs.YtldnnjcfihjkdabDoor
