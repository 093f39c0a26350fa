/-
  The document's frames (regattaref13): Open.
-/
import Derived.Test.YtploeheklekjjabDoorFrRefA
set_option linter.unusedVariables false
set_option linter.unusedSimpArgs false
namespace Go.Proofs.YtploeheklekjjabDoor
open Go.RowKit

/-- A box of two cells. -/
structure Bx2 (b : Nat) (u v : Value) (w : World) : Prop where
  c0 : w.cell? ⟨b, 0, none⟩ = some u
  c1 : w.cell? ⟨b, 1, none⟩ = some v
  f0 : w.frozen? ⟨b, 0, none⟩ = false
  f1 : w.frozen? ⟨b, 1, none⟩ = false
theorem Bx2.new (w : World) (u v : Value) (t : TypeId) : Bx2 w.heap.size u v (w.alloc (.cells #[u, v] t)) := ⟨by simp [go_sem], by simp [go_sem], by simp [go_sem], by simp [go_sem]⟩
theorem Bx2.later {b : Nat} {u v : Value} {w w' : World} (h : Bx2 b u v w) (k : Below w.heap.size w w') : Bx2 b u v w' := ⟨cell_later k h.c0, cell_later k h.c1, frozen_later k h.c0 h.f0, frozen_later k h.c1 h.f1⟩
theorem slice_run0 (w : World) (ad : Option Addr) (n cap q : Nat) (h2 : q ≤ cap) :
    (Instr.slice 22 (.slice ad n cap) none (some (.int .i64 (q : Int))) none).run Tryd.prog w = .ok (sv ad 0 q cap) w := by
  have ht : Tryd.prog.underlying 22 = some (.slice (Tryd.prog.elem 22)) := by kernel_rfl
  have hs : (sizeOf (Tryd.prog.elem 22)).run Tryd.prog w = .ok 1 w := by
    obtain ⟨i0, hti, hi0, hi1, hi2⟩ := byteInfo
    have e : Tryd.prog.elem 22 = 5 := by kernel_rfl
    rw [e]
    simp [sizeOf, typeInfo, hti, hi1]
  rw [run_slice_h w 22 ad n cap ht .i64 (q : Int) (by omega) (by omega), hs]
  simp [Result.andThen, sliced, sv]
theorem sliceAt_run0 (w : World) (ad : Option Addr) (n cap q : Nat) (h2 : q ≤ cap) :
    (Instr.sliceAt 22 (.slice ad n cap) none (some (.int .i64 (q : Int))) none).run Tryd.prog w = .ok (sv ad 0 q cap) w := by
  have ht : Tryd.prog.underlying 22 = some (.slice (Tryd.prog.elem 22)) := by kernel_rfl
  rw [run_sliceAt_slice _ _ _ _ _ _ ht, slice_run0 w ad n cap q h2]
/-- So many bytes ahead are right. -/
structure Pre (b : List Nat) (i : Nat) : Prop where
  p0 : 0 < i → 0 < b.length ∧ b.getD 0 0 = 82
  p1 : 1 < i → 1 < b.length ∧ b.getD 1 0 = 71
  p2 : 2 < i → 2 < b.length ∧ b.getD 2 0 = 1
  p3 : 3 < i → 3 < b.length ∧ b.getD 3 0 ≠ 0
theorem Pre.hd {b : List Nat} (h : Pre b 4) : Hd4 b := ⟨(h.p3 (by omega)).1, (h.p0 (by omega)).2, (h.p1 (by omega)).2, (h.p2 (by omega)).2, (h.p3 (by omega)).2⟩
theorem pre_zero (b : List Nat) : Pre b 0 := ⟨fun h => by omega, fun h => by omega, fun h => by omega, fun h => by omega⟩
end Go.Proofs.YtploeheklekjjabDoor
