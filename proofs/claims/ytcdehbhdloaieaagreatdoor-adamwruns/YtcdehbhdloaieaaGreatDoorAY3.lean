/-
  Three cells of a struct that may be written.
-/
import Derived.Test.YtcdehbhdloaieaaGreatDoorBH
set_option linter.unusedVariables false
namespace Go.Proofs.YtcdehbhdloaieaaGreatDoor
open Go.RowKit

/-- Three cells of a struct that may be written. -/
structure Y3 (b : Nat) (x y z : Value) (w : World) : Prop where
  c0 : w.cell? ⟨b, 0, none⟩ = some x
  c1 : w.cell? ⟨b, 1, none⟩ = some y
  c2 : w.cell? ⟨b, 2, none⟩ = some z
  f0 : w.frozen? ⟨b, 0, none⟩ = false
  f1 : w.frozen? ⟨b, 1, none⟩ = false
  f2 : w.frozen? ⟨b, 2, none⟩ = false
theorem Y3.new (w : World) (x y z : Value) (t : TypeId) : Y3 w.heap.size x y z (w.alloc (.cells #[x, y, z] t)) := ⟨by simp [go_sem], by simp [go_sem], by simp [go_sem], by simp [go_sem], by simp [go_sem], by simp [go_sem]⟩
theorem Y3.blk {b : Nat} {x y z : Value} {w w' : World} (h : Y3 b x y z w) (e : w'.heap[b]? = w.heap[b]?) : Y3 b x y z w' :=
  ⟨(World.cell?_of_block (w := w) e).trans h.c0, (World.cell?_of_block (w := w) e).trans h.c1, (World.cell?_of_block (w := w) e).trans h.c2, (World.frozen?_of_block (w := w) e).trans h.f0, (World.frozen?_of_block (w := w) e).trans h.f1, (World.frozen?_of_block (w := w) e).trans h.f2⟩
theorem Y3.lt {b : Nat} {x y z : Value} {w : World} (h : Y3 b x y z w) : b < w.heap.size := World.block_lt_of_cell? _ _ h.c0
theorem Y3.later {b : Nat} {x y z : Value} {w w' : World} (h : Y3 b x y z w) (hb : Below w.heap.size w w') : Y3 b x y z w' := h.blk (hb.block b h.lt)
theorem Y3.un {b : Nat} {x y z : Value} {w w' : World} {d : Nat} {c : Int} (h : Y3 b x y z w) (hU : Un d c w w') (hn : b ≠ d) : Y3 b x y z w' := h.blk (hU.k b h.lt hn)
theorem Y3.far {b : Nat} {x y z : Value} {w : World} (h : Y3 b x y z w) (p : Addr) (u : Value) (hp : p.block ≠ b) : Y3 b x y z (w.setCell p u) := h.blk (Below.heap_setCell _ _ _ _ (fun e => hp e.symm))
theorem Y3.set0 {b : Nat} {x y z : Value} {w : World} (h : Y3 b x y z w) (u : Value) : Y3 b u y z (w.setCell ⟨b, 0, none⟩ u) :=
  ⟨World.cell?_setCell_same' _ _ _ (by rw [h.c0]; rfl), (World.cell?_setCell_other _ _ _ _ (by simp)).trans h.c1, (World.cell?_setCell_other _ _ _ _ (by simp)).trans h.c2, by rw [World.frozen?_setCell]; exact h.f0, by rw [World.frozen?_setCell]; exact h.f1, by rw [World.frozen?_setCell]; exact h.f2⟩
theorem Y3.set1 {b : Nat} {x y z : Value} {w : World} (h : Y3 b x y z w) (u : Value) : Y3 b x u z (w.setCell ⟨b, 1, none⟩ u) :=
  ⟨(World.cell?_setCell_other _ _ _ _ (by simp)).trans h.c0, World.cell?_setCell_same' _ _ _ (by rw [h.c1]; rfl), (World.cell?_setCell_other _ _ _ _ (by simp)).trans h.c2, by rw [World.frozen?_setCell]; exact h.f0, by rw [World.frozen?_setCell]; exact h.f1, by rw [World.frozen?_setCell]; exact h.f2⟩
theorem Y3.grow {b B : Nat} {x y z : Value} {w w3 : World} {o : Obj} {r : Option Nat} (h : Y3 b x y z w) (hg : (w.alloc o).grownBy w3 r) (hr : ∀ k, r = some k → B ≤ k) (hb : b < B) : Y3 b x y z w3 := h.blk (by
  rw [hg.block b (by have := h.lt; rw [World.size_alloc]; omega) (fun e => by have := hr b e.symm; omega), Below.heap_alloc _ _ _ h.lt])
theorem Y3.set2 {b : Nat} {x y z : Value} {w : World} (h : Y3 b x y z w) (u : Value) : Y3 b x y u (w.setCell ⟨b, 2, none⟩ u) :=
  ⟨(World.cell?_setCell_other _ _ _ _ (by simp)).trans h.c0, (World.cell?_setCell_other _ _ _ _ (by simp)).trans h.c1, World.cell?_setCell_same' _ _ _ (by rw [h.c2]; rfl), by rw [World.frozen?_setCell]; exact h.f0, by rw [World.frozen?_setCell]; exact h.f1, by rw [World.frozen?_setCell]; exact h.f2⟩
end Go.Proofs.YtcdehbhdloaieaaGreatDoor
