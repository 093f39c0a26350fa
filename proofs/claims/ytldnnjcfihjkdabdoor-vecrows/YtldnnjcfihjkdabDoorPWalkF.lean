/-
  The contract of the closure in vec's Axpy.
-/
import Derived.Test.YtldnnjcfihjkdabDoorPWalkE
set_option linter.unusedVariables false
set_option linter.unusedSimpArgs false
namespace Go.Proofs.YtldnnjcfihjkdabDoor
open Go.RowKit

theorem ax_in (k x y : Int) (k0 : -9223372036854775808 ≤ k) (k1 : k ≤ 9223372036854775807) (x0 : -9223372036854775808 ≤ x) (x1 : x ≤ 9223372036854775807) (y0 : -9223372036854775808 ≤ y) (y1 : y ≤ 9223372036854775807) : -170141183460469231731687303715884105728 + 1000 ≤ y * 4294967296 + k * x ∧ y * 4294967296 + k * x ≤ 170141183460469231731687303715884105727 - 1000 := by
  obtain ⟨p0, p1⟩ := mul_in k x k0 k1 x0 x1
  generalize k * x = p at *
  omega
theorem cc_set2 {W : World} {a b : Addr} {x y u v : Value} {B i j : Nat} (h : W.cell? a = some x ∧ W.cell? b = some y) (ha : a.block < B) (hb : b.block < B) : ((W.setCell ⟨B, i, none⟩ u).setCell ⟨B, j, none⟩ v).cell? a = some x ∧ ((W.setCell ⟨B, i, none⟩ u).setCell ⟨B, j, none⟩ v).cell? b = some y :=
  ⟨cell_set (by dsimp only; omega) (cell_set (by dsimp only; omega) h.1), cell_set (by dsimp only; omega) (cell_set (by dsimp only; omega) h.2)⟩
theorem B2.drew {b : Nat} {x y : Value} {w : World} (h : B2 b x y w) : B2 b x y w.drew := ⟨h.c0, h.c1, h.f0, h.f1⟩
theorem cc_drew {w : World} {a b : Addr} {x y : Value} (h : w.cell? a = some x ∧ w.cell? b = some y) : w.drew.cell? a = some x ∧ w.drew.cell? b = some y := h
theorem cc_ad {w wz : World} {o : Obj} {a b : Addr} {x y : Value} (h : w.drew.cell? a = some x ∧ w.drew.cell? b = some y) (hb : Below (w.alloc o).drew.heap.size (w.alloc o).drew wz) : wz.cell? a = some x ∧ wz.cell? b = some y := by
  have h' : w.cell? a = some x ∧ w.cell? b = some y := h
  have h2 := cc_later h' (bel1 w o)
  have h3 : (w.alloc o).drew.cell? a = some x ∧ (w.alloc o).drew.cell? b = some y := h2
  exact cc_later h3 hb
theorem below_ad {w wz : World} {o : Obj} (hb : Below (w.alloc o).drew.heap.size (w.alloc o).drew wz) : Hid (Below w.heap.size w wz) := bchain ((bel1 w o).drew) hb
theorem B2.ad {w wz : World} {x y : Value} {t : TypeId} (hb : Below (w.alloc (.cells #[x, y] t)).drew.heap.size (w.alloc (.cells #[x, y] t)).drew wz) : B2 w.heap.size x y wz := ((B2.new w x y t).later ((Below.refl _ _).drew)).later hb

end Go.Proofs.YtldnnjcfihjkdabDoor
