/-
  The contract of digits' Int.
-/
import Derived.Test.YtekdpeiemfppiabDoorGMath3
import Derived.Test.YtekdpeiemfppiabDoorGWalkV
import Derived.Test.YtekdpeiemfppiabDoorGWalkW
import Derived.Test.YtekdpeiemfppiabDoorWalkC
set_option linter.unusedVariables false
set_option linter.unusedSimpArgs false
namespace Go.Proofs.YtekdpeiemfppiabDoor
open Go.RowKit

/-- A block of three cells. -/
structure Nx (b : Nat) (x y z : Value) (w : World) : Prop where
  c0 : w.cell? ⟨b, 0, none⟩ = some x
  c1 : w.cell? ⟨b, 1, none⟩ = some y
  c2 : w.cell? ⟨b, 2, none⟩ = some z
theorem Nx.new (w : World) (x y z : Value) (t : TypeId) : Nx w.heap.size x y z (w.alloc (.cells #[x, y, z] t)) where
  c0 := by simp [go_sem]
  c1 := by simp [go_sem]
  c2 := by simp [go_sem]
theorem Nx.later {b : Nat} {x y z : Value} {w w' : World} (h : Nx b x y z w) (hb : Below w.heap.size w w') : Nx b x y z w' :=
  ⟨cell_later hb h.c0, cell_later hb h.c1, cell_later hb h.c2⟩
theorem Nx.off {b : Nat} {x y z : Value} {w : World} {p : Addr} (h : Nx b x y z w) (u : Value) (hp : p.block ≠ b) : Nx b x y z (w.setCell p u) where
  c0 := by rw [World.cell?_setCell_other _ _ _ _ (fun e => hp (by rw [e]))]; exact h.c0
  c1 := by rw [World.cell?_setCell_other _ _ _ _ (fun e => hp (by rw [e]))]; exact h.c1
  c2 := by rw [World.cell?_setCell_other _ _ _ _ (fun e => hp (by rw [e]))]; exact h.c2
theorem Nx.blk {b : Nat} {x y z : Value} {w : World} (h : Nx b x y z w) : b < w.heap.size := World.block_lt_of_cell? _ _ h.c0
theorem prX_in (l : List UInt8) : -9223372036854775808 ≤ prX l ∧ prX l ≤ 9223372036854775807 := by
  unfold prX clv
  repeat' split
  all_goals omega
theorem iX_in (l : List UInt8) : -9223372036854775808 ≤ iX l ∧ iX l ≤ 9223372036854775807 := by
  unfold iX
  split
  · split
    · omega
    · rename_i h
      unfold ovv at h
      simp at h
      exact h
  · omega
theorem iOk_no (l : List UInt8) (h : iOk l = false) : iX l = 0 ∧ iE l = 30 := by
  unfold iX iE
  rw [h]
  exact ⟨rfl, rfl⟩
theorem iOk_big (l : List UInt8) (h : iOk l = true) (h2 : ovv (iV l) = true) : iX l = 0 ∧ iE l = 3 := by
  unfold iX iE
  rw [h, h2]
  exact ⟨rfl, rfl⟩
theorem iOk_fit (l : List UInt8) (h : iOk l = true) (h2 : ovv (iV l) = false) : iX l = iV l ∧ iE l = 0 := by
  unfold iX iE
  rw [h, h2]
  exact ⟨rfl, rfl⟩
end Go.Proofs.YtekdpeiemfppiabDoor
