/-
  The contracts of slices.Grow and slices.Concat over lists of numbers, of vec's fits, and of each where it makes lists.
-/
import Derived.Test.YtcdehbhdloaieaaGreatDoorPWalkE
import Derived.Test.YtcdehbhdloaieaaGreatDoorPWalkG0
import Derived.Lib.AppendZerosOnto
import Derived.Lib.AppendZeros
set_option linter.unusedVariables false
set_option linter.unusedSimpArgs false
namespace Go.Proofs.YtcdehbhdloaieaaGreatDoor
open Go.RowKit

theorem Ar.far {w : World} {g n cap : Nat} {f : Nat → Int} {p : Addr} (h : Ar w (.slice (some ⟨g, 0, none⟩) n cap) n f) (u : Value) (hp : p.block ≠ g) : Ar (w.setCell p u) (.slice (some ⟨g, 0, none⟩) n cap) n f := by
  obtain ⟨ad, ca, b, o, e, h1, h2, h3, h4⟩ := h
  cases e
  refine ⟨_, _, b, o, rfl, h1, h2, h3, fun k hk => ⟨cell_set ?_ (h4 k hk).1, (h4 k hk).2⟩⟩
  have e := h3 (by omega)
  cases e
  exact hp
theorem B3.block {b : Nat} {x y z : Value} {w w' : World} (h : B3 b x y z w) (hb : w'.heap[b]? = w.heap[b]?) : B3 b x y z w' :=
  ⟨(World.cell?_of_block (w := w) hb).trans h.c0, (World.cell?_of_block (w := w) hb).trans h.c1, (World.cell?_of_block (w := w) hb).trans h.c2, (World.frozen?_of_block (w := w) hb).trans h.f0, (World.frozen?_of_block (w := w) hb).trans h.f1, (World.frozen?_of_block (w := w) hb).trans h.f2⟩
theorem fits_iff (r c : Int) (r0 : 1 ≤ r) (c0 : 1 ≤ c) : r ≤ 65536 / c ↔ r * c ≤ 65536 := Int.le_ediv_iff_mul_le (by omega)
theorem rows_il (F : Nat → Nat → Int) (m j : Nat) : il (fun i => F (i / m) (i % m)) (j * m) ++ il (F j) m = il (fun i => F (i / m) (i % m)) (j * m + m) := by
  unfold il
  rw [List.range_add, List.map_append, List.map_map]
  congr 1
  apply List.map_congr_left
  intro k hk
  have hk := List.mem_range.1 hk
  show _ = Value.int .i64 (F ((j * m + k) / m) ((j * m + k) % m))
  rw [show (j * m + k) / m = j by rw [Nat.mul_comm, Nat.mul_add_div (by omega), Nat.div_eq_of_lt hk, Nat.add_zero], show (j * m + k) % m = k by rw [Nat.mul_comm, Nat.mul_add_mod, Nat.mod_eq_of_lt hk]]
theorem il_one1 (f : Nat → Int) (n : Nat) : ∀ u ∈ il f n, u.oneCell' = true := by
  intro u hu
  unfold il at hu
  obtain ⟨k, _, rfl⟩ := List.mem_map.1 hu
  rfl

end Go.Proofs.YtcdehbhdloaieaaGreatDoor
