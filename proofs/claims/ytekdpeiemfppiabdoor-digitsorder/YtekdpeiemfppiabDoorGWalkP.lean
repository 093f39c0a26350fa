/-
  The contracts of digits' arrays of digits: doubled, bits.
-/
import Derived.Test.YtekdpeiemfppiabDoorGMath
import Derived.Test.YtekdpeiemfppiabDoorDWalkE
import Derived.Deep.WholeRow
import Derived.Deep.MidRow
import Derived.Laws.CopyOwn
set_option linter.unusedVariables false
set_option linter.unusedSimpArgs false
namespace Go.Proofs.YtekdpeiemfppiabDoor
open Go.RowKit

/-- An array of digits, as a value. -/
def row (f : Nat → Nat) : Array Value := ((List.range 40).map fun i => Value.int .u8 ((f i : Nat) : Int)).toArray
theorem row_size (f : Nat → Nat) : (row f).size = 40 := by unfold row; simp
theorem row_get (f : Nat → Nat) (i : Nat) (h : i < 40) : (row f)[i]? = some (.int .u8 ((f i : Nat) : Int)) := by unfold row; simp [h]
theorem row_congr (f g : Nat → Nat) (h : ∀ i, i < 40 → f i = g i) : row f = row g := by
  unfold row
  congr 1
  apply List.map_congr_left
  intro i hi
  rw [h i (List.mem_range.1 hi)]
theorem row_one (f : Nat → Nat) : (row f).all (·.oneCell') = true := by
  unfold row
  apply all_oneCell_toArray
  intro v hv
  obtain ⟨i, _, rfl⟩ := List.mem_map.1 hv
  rfl
theorem row_set (f : Nat → Nat) (m z : Nat) (h : m < 40) : (row f).setIfInBounds m (.int .u8 ((z : Nat) : Int)) = row (fun i => if i = m then z else f i) := by
  apply Array.ext_getElem?
  intro i
  rw [Array.getElem?_setIfInBounds]
  by_cases hi : i < 40
  · rw [row_get _ i hi, row_get _ i hi, row_size]
    by_cases e : m = i
    · subst e; simp [h]
    · rw [if_neg e, if_neg (fun x => e x.symm)]
  · have h1 : (row f)[i]? = none := by rw [Array.getElem?_eq_none_iff, row_size]; omega
    have h2 : (row (fun i => if i = m then z else f i))[i]? = none := by rw [Array.getElem?_eq_none_iff, row_size]; omega
    rw [h1, h2, if_neg (by omega)]
/-- A block that holds an array of digits. -/
def Pl (w : World) (g : Nat) (f : Nat → Nat) : Prop := w.heap[g]? = some (.cells (row f) 44 (0, 0))
theorem Pl.lt {w : World} {g : Nat} {f : Nat → Nat} (h : Pl w g f) : g < w.heap.size := (Array.getElem?_eq_some_iff.1 h).1
theorem Pl.cell {w : World} {g : Nat} {f : Nat → Nat} (h : Pl w g f) (i : Nat) (hi : i < 40) : w.cell? ⟨g, i, none⟩ = some (.int .u8 ((f i : Nat) : Int)) := by
  rw [cell_of_row w g i _ _ _ h, row_get f i hi]
theorem Pl.fro {w : World} {g : Nat} {f : Nat → Nat} (h : Pl w g f) (i : Nat) : w.frozen? ⟨g, i, none⟩ = false := by
  unfold Pl at h
  simp [World.frozen?, h]
theorem Pl.set {w : World} {g : Nat} {f : Nat → Nat} (h : Pl w g f) (m z : Nat) (hm : m < 40) : Pl (w.setCell ⟨g, m, none⟩ (.int .u8 ((z : Nat) : Int))) g (fun i => if i = m then z else f i) := by
  unfold Pl
  rw [setCell_eq_setRow w g m (row f) _ _ _ h, setRow_heap _ _ _ _ _ _ h, row_set f m z hm]
theorem Pl.far {w : World} {g : Nat} {f : Nat → Nat} (h : Pl w g f) {a : Addr} (ha : g ≠ a.block) (v : Value) : Pl (w.setCell a v) g f := by
  unfold Pl
  rw [Below.heap_setCell _ _ _ _ ha]
  exact h
theorem Pl.later {w w' : World} {g : Nat} {f : Nat → Nat} (h : Pl w g f) (hb : Below w.heap.size w w') : Pl w' g f := (hb.block g h.lt).trans h
theorem Pl.new (w : World) (f : Nat → Nat) : Pl (w.alloc (.cells (row f) 44)) w.heap.size f := heap_alloc_last w _
theorem Pl.old {w : World} {g : Nat} {f : Nat → Nat} (h : Pl w g f) (o : Obj) : Pl (w.alloc o) g f := (Below.heap_alloc _ _ _ h.lt).trans h
theorem Pl.to {w : World} {g : Nat} {f f' : Nat → Nat} (h : Pl w g f) (e : ∀ i, i < 40 → f i = f' i) : Pl w g f' := by
  unfold Pl
  rw [← row_congr f f' e]
  exact h
theorem row_zero : row (fun _ => 0) = #[.int .u8 0, .int .u8 0, .int .u8 0, .int .u8 0, .int .u8 0, .int .u8 0, .int .u8 0, .int .u8 0, .int .u8 0, .int .u8 0, .int .u8 0, .int .u8 0, .int .u8 0, .int .u8 0, .int .u8 0, .int .u8 0, .int .u8 0, .int .u8 0, .int .u8 0, .int .u8 0, .int .u8 0, .int .u8 0, .int .u8 0, .int .u8 0, .int .u8 0, .int .u8 0, .int .u8 0, .int .u8 0, .int .u8 0, .int .u8 0, .int .u8 0, .int .u8 0, .int .u8 0, .int .u8 0, .int .u8 0, .int .u8 0, .int .u8 0, .int .u8 0, .int .u8 0, .int .u8 0] := rfl
theorem plInfo : (Tryd.prog.info? 44).map (·.size) = some 40 := by kernel_rfl
theorem Pl.load {w : World} {g : Nat} {f : Nat → Nat} (h : Pl w g f) : (loadCellsFrom ⟨g, 0, none⟩ 0 40 #[]).run Tryd.prog w = .ok (row f) w := by
  have := run_loadCells_list (P := Tryd.prog) w ⟨g, 0, none⟩ (row f).toList (fun j v hv => by
    have hadd : (⟨g, 0, none⟩ : Addr).add j = ⟨g, j, none⟩ := by unfold Addr.add; split <;> simp_all
    rw [hadd, cell_of_row w g j _ _ _ h]
    simpa using hv)
  rw [Array.length_toList, row_size, Array.toArray_toList] at this
  exact this
theorem Pl.store {w : World} {g : Nat} {f : Nat → Nat} (h : Pl w g f) (f' : Nat → Nat) : (storeCells ⟨g, 0, none⟩ (row f').toList 0).run Tryd.prog w = .ok () (w.setRow g (row f')) := by
  have := run_storeCells_from (P := Tryd.prog) g _ (row f').toList 0 (row f) w h (by rw [Array.length_toList, row_size, row_size]) (fun v hv => (Array.all_eq_true_iff_forall_mem.1 (row_one f')) v (by simpa using hv))
  simpa using this
theorem Pl.put {w : World} {g : Nat} {f : Nat → Nat} (h : Pl w g f) (f' : Nat → Nat) : Pl (w.setRow g (row f')) g f' := setRow_heap _ _ _ _ _ _ h
theorem Pl.rowfar {w : World} {g : Nat} {f : Nat → Nat} (h : Pl w g f) {k : Nat} (hk : g ≠ k) (c : Array Value) : Pl (w.setRow k c) g f := (setRow_other _ _ _ _ hk).trans h
theorem plUnd : Tryd.prog.underlying 44 = some (.array 40 5) := Tryd.underlying44
/-- The whole array is read. -/
theorem Pl.wload {w : World} {g : Nat} {f : Nat → Nat} (h : Pl w g f) {ops : Array Oper} {rest : List Oper} {o : Oper} {a : Act} {Q : Exit → Act → World → Prop} (hgd : o.guard = none) (x : Operand) (ho : o.op = .load 44 x)
    (hx : a.eval x = .pointer (some ⟨g, 0, none⟩)) (k : wpList Tryd.prog ops Q rest (a.put o.dst (.agg (row f))) w) : wpList Tryd.prog ops Q (o :: rest) a w :=
  wpList_load_row hgd 44 x ho g hx 44 (row f) (0, 0) _ h plUnd rfl (by rw [row_size]; exact plInfo) k
/-- The whole array is written. -/
theorem Pl.wstore {w : World} {g : Nat} {f : Nat → Nat} (h : Pl w g f) {ops : Array Oper} {rest : List Oper} {o : Oper} {a : Act} {Q : Exit → Act → World → Prop} (hgd : o.guard = none) (x y : Operand) (f' : Nat → Nat) (ho : o.op = .store 44 x y)
    (hx : a.eval x = .pointer (some ⟨g, 0, none⟩)) (hy : a.eval y = .agg (row f')) (k : wpList Tryd.prog ops Q rest (a.put o.dst undef) (w.setRow g (row f'))) : wpList Tryd.prog ops Q (o :: rest) a w :=
  wpList_plain hgd fun _ hK => wp_store_row 44 x y ho g (row f') hx hy 44 (row f) h (by rw [row_size]; exact plInfo) (by rw [row_size, row_size]) (row_one f') (hK _ _ k)
theorem Pl.res {fn : Func} {p : Tmp} (hr : fn.results = #[.cell p 44]) (tmps : Array Value) {w : World} {g : Nat} {f : Nat → Nat} (h : Pl w g f) (hp : tmps.getD p undef = .pointer (some ⟨g, 0, none⟩)) :
    (results fn tmps).run Tryd.prog w = .ok (.agg (row f)) w :=
  results_cell_row hr tmps w g 44 (row f) (0, 0) _ hp h plUnd rfl (by rw [row_size]; exact plInfo)
theorem Pl.res2 {fn : Func} {p q : Tmp} (hr : fn.results = #[.cell p 44, .tmp q]) (tmps : Array Value) {w : World} {g : Nat} {f : Nat → Nat} (h : Pl w g f) (hp : tmps.getD p undef = .pointer (some ⟨g, 0, none⟩)) :
    (results fn tmps).run Tryd.prog w = .ok (.tuple #[.agg (row f), tmps.getD q undef]) w := by
  have hp' : tmps[p]?.getD undef = .pointer (some ⟨g, 0, none⟩) := by simpa using hp
  have hl := run_loadVar_row (P := Tryd.prog) w g 44 44 (row f) (0, 0) _ h plUnd rfl (by rw [row_size]; exact plInfo)
  simp [results, hr, hp', asAddr, hl]
end Go.Proofs.YtekdpeiemfppiabDoor
