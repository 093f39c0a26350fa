/-
  The document's frames (regattaref13): Four, Seal.
-/
import Derived.Test.YtploeheklekjjabDoorFrMath
import Derived.Test.YtploeheklekjjabDoorPkSame
import Derived.Test.YtploeheklekjjabDoorCRefB
set_option linter.unusedVariables false
set_option linter.unusedSimpArgs false
namespace Go.Proofs.YtploeheklekjjabDoor
open Go.RowKit

theorem hidI {p : Prop} (h : p) : Hid p := h
/-- Four bytes, new. -/
theorem ob_four (w : World) (a b c d : Nat) : Ob w.heap.size (w.alloc (.cells #[.int .u8 (a : Int), .int .u8 (b : Int), .int .u8 (c : Int), .int .u8 (d : Int)] 5)) (.slice (some ⟨w.heap.size, 0, none⟩) 4 4) [a, b, c, d] := by
  refine ⟨rfl, Or.inr ⟨w.heap.size, 4, #[.int .u8 (a : Int), .int .u8 (b : Int), .int .u8 (c : Int), .int .u8 (d : Int)], rfl, Nat.le_refl _, ?_, Nat.le_refl _, by unfold maxLen; omega, rfl, rfl⟩⟩
  show (w.heap.push _)[w.heap.size]? = _
  simp
theorem bs_ls {w : World} {v : Value} {l : List Nat} (h : Bs w v l) : Ls w v l.length (by8 (fun k => l.getD k 0)) := h
end Go.Proofs.YtploeheklekjjabDoor
