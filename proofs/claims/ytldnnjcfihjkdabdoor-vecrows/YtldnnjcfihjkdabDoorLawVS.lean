/-
  VecSums: vectors are added, subtracted and scaled part by part.
-/
import Derived.Test.YtldnnjcfihjkdabDoorLawVD
import Derived.Test.YtldnnjcfihjkdabDoorBK
import Derived.Deep.DrawnRows
import Derived.Deep.QuietTactic
import Derived.BigQuiet
set_option linter.unusedVariables false
set_option linter.unusedSimpArgs false
namespace Go.Proofs.YtldnnjcfihjkdabDoor
open Go.RowKit
attribute [local go_sem ↓] Go.wp_at_zero Go.wp_at_succ

theorem few2_any (w1 : World) (ada adb : Option Addr) (n m ca cb : Nat) (k : n ≤ maxLen) (q : m ≤ maxLen) :
    Calls Tryd.prog 18 #[.slice (some ⟨w1.heap.size, 0, none⟩) 2 2] (w1.alloc (.cells #[.slice ada n ca, .slice adb m cb] 23)) fun e w' => e = .returned (.bool (decide (n ≤ 200) && decide (m ≤ 200))) ∧ w' = (w1.alloc (.cells #[.slice ada n ca, .slice adb m cb] 23)) := by
  rw [← few_tn]
  refine few_any w1.heap.size 2 2 (tn n m) (by omega) (by omega) _ (fun k hk => ?_)
  have : k = 0 ∨ k = 1 := by omega
  rcases this with rfl | rfl
  · exact ⟨by simp [tn]; omega, ada, ca, by simp [go_sem, tn]⟩
  · exact ⟨by simp [tn]; omega, adb, cb, by simp [go_sem, tn]⟩
/-- A law's state: two units, two plain lists. -/
structure St (w : World) (du : Nat) (cu cv : Int) (vx : Value) (n : Nat) (f : Nat → Int) (vy : Value) (m : Nat) (g : Nat → Int) (wz : World) : Prop where
  l : L2 w du (du + 1) cu cv wz
  x : An du (du + 1) vx n f wz
  y : An du (du + 1) vy m g wz
  h : w.heap.size ≤ du
theorem St.later {w : World} {du : Nat} {cu cv : Int} {vx : Value} {n : Nat} {f : Nat → Int} {vy : Value} {m : Nat} {g : Nat → Int} {wz wy : World} (h : St w du cu cv vx n f vy m g wz) (hb : Below wz.heap.size wz wy) : St w du cu cv vx n f vy m g wy := ⟨h.l.later hb, h.x.later hb, h.y.later hb, h.h⟩
theorem St.unu {w : World} {du : Nat} {cu cv c : Int} {vx : Value} {n : Nat} {f : Nat → Int} {vy : Value} {m : Nat} {g : Nat → Int} {wz wy : World} (h : St w du cu cv vx n f vy m g wz) (hU : Un du c wz wy) : St w du c cv vx n f vy m g wy := ⟨h.l.unu hU h.h (by omega), h.x.unu hU, h.y.unu hU, h.h⟩
theorem St.unv {w : World} {du : Nat} {cu cv c : Int} {vx : Value} {n : Nat} {f : Nat → Int} {vy : Value} {m : Nat} {g : Nat → Int} {wz wy : World} (h : St w du cu cv vx n f vy m g wz) (hU : Un (du + 1) c wz wy) : St w du cu c vx n f vy m g wy := ⟨h.l.unv hU (by have := h.h; omega) (by omega), h.x.unv hU, h.y.unv hU, h.h⟩
end Go.Proofs.YtldnnjcfihjkdabDoor
