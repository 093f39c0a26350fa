/-
  The contract of vec's Outer.
-/
import Derived.Test.YtcdehbhdloaieaaGreatDoorPWalkH
import Derived.Test.YtcdehbhdloaieaaGreatDoorVOut
set_option linter.unusedVariables false
set_option linter.unusedSimpArgs false
namespace Go.Proofs.YtcdehbhdloaieaaGreatDoor
open Go.RowKit

/-- One more of a row's places. -/
def updN (h : Nat → Nat) (j b : Nat) : Nat → Nat := fun k => if k = j then b else h k
theorem upd_at (h : Nat → Nat) (j b : Nat) : updN h j b j = b := by unfold updN; simp
theorem upd_lt (h : Nat → Nat) (j b k : Nat) (hk : k < j) : updN h j b k = h k := by unfold updN; rw [if_neg (by omega)]
theorem dinfo_fs : (Tryz.prog.info? 28).map (fun i => (i.zero, i.size, i.bytes)) = some (some (.slice none 0 0), 1, 24) := by kernel_rfl
theorem make_fs (n : Nat) (hn : n ≤ 1000000) (w : World) : (Instr.makeSlice 61 (.int .i64 (n : Int)) (.int .i64 (n : Int))).run Tryz.prog w = .ok (.slice (some ⟨w.heap.size, 0, none⟩) n n) (w.alloc (.cells (madeCells #[.slice none 0 0] n) 28)) := by
  obtain ⟨i0, hi, hz0, hz1, hz2⟩ := info_parts dinfo_fs
  have h := run_make (P := Tryz.prog) w 61 28 i0 (.slice none 0 0) Tryz.underlying61 hi hz0 .i64 .i64 (n : Int) (n : Int) (by omega) (by omega) (by rw [hz2]; omega) (by omega)
  rw [hz1, Nat.mul_one] at h
  exact h

end Go.Proofs.YtcdehbhdloaieaaGreatDoor
