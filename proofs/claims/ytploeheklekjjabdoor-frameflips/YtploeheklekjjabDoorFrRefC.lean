/-
  The document's frames (regattaref13): Split.
-/
import Derived.Test.YtploeheklekjjabDoorFrSplit
set_option linter.unusedVariables false
set_option linter.unusedSimpArgs false
namespace Go.Proofs.YtploeheklekjjabDoor
open Go.RowKit

theorem slice_runL (w : World) (ad : Option Addr) (n cap p : Nat) (h2 : p ≤ n) :
    (Instr.slice 22 (.slice ad n cap) (some (.int .i64 (p : Int))) none none).run Tryd.prog w = .ok (sv ad p n cap) w := by
  have ht : Tryd.prog.underlying 22 = some (.slice (Tryd.prog.elem 22)) := by kernel_rfl
  have hs : (sizeOf (Tryd.prog.elem 22)).run Tryd.prog w = .ok 1 w := by
    obtain ⟨i0, hti, hi0, hi1, hi2⟩ := byteInfo
    have e : Tryd.prog.elem 22 = 5 := by kernel_rfl
    rw [e]
    simp [sizeOf, typeInfo, hti, hi1]
  rw [run_slice_l w 22 ad n cap ht .i64 (p : Int) (by omega) (by omega), hs]
  simp [Result.andThen, sliced, sv]
theorem sliceAt_runL (w : World) (ad : Option Addr) (n cap p : Nat) (h2 : p ≤ n) :
    (Instr.sliceAt 22 (.slice ad n cap) (some (.int .i64 (p : Int))) none none).run Tryd.prog w = .ok (sv ad p n cap) w := by
  have ht : Tryd.prog.underlying 22 = some (.slice (Tryd.prog.elem 22)) := by kernel_rfl
  rw [run_sliceAt_slice _ _ _ _ _ _ ht, slice_runL w ad n cap p h2]
theorem sv_rest {w : World} {ad : Option Addr} {n cap : Nat} {l : List Nat} (h : Bs w (.slice ad n cap) l) (hn : l.length = n) (p : Nat) (hp : p ≤ n) : Bs w (sv ad p n cap) (l.drop p) := by
  have := sv_bs h p n hp (by omega)
  rw [List.take_of_length_le (by rw [List.length_drop]; omega)] at this
  exact this
theorem own_low {T : TypeId} {B : Nat} {w : World} {v : Value} {fs : List (Nat × List Nat)} (h : Fo T B w v fs) : ∀ g, v.ownBlock = some g → g < w.heap.size := by
  obtain ⟨cs, h1, -⟩ := h
  intro g hg
  exact (h1.lt g hg).2
end Go.Proofs.YtploeheklekjjabDoor
