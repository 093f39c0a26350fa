/-
  WalkE, WalkF, WalkG, WalkH, WalkI, Tools.
-/
import Derived.Test.YtaifihfiompgaaaBB
import Derived.Deep.DeepCutAuto
import Derived.Lib.QuietBelow
import Derived.BigQuiet
import Derived.Test.YtaifihfiompgaaaBA
/-
  The contract of regatta/wide's Round.
-/
set_option linter.unusedVariables false
set_option linter.unusedSimpArgs false
namespace Go.Proofs.Ytaifihfiompgaaa
open Go.RowKit

theorem frozen_later {w wx : World} {a : Addr} {v : Value} (hb : Below w.heap.size w wx) (hc : w.cell? a = some v) (h : w.frozen? a = false) : wx.frozen? a = false :=
  (hb.frozen (World.block_lt_of_cell? _ _ hc)).trans h

theorem cell_alloc {W : World} {o : Obj} {a : Addr} {v : Value} (h : W.cell? a = some v) : (W.alloc o).cell? a = some v := cell_later (bel1 W o) h
theorem cell_drew {W : World} {a : Addr} {v : Value} (h : W.cell? a = some v) : W.drew.cell? a = some v := h

theorem cell_set {W : World} {p a : Addr} {x v : Value} (hp : p.block ≠ a.block) (h : W.cell? a = some v) : (W.setCell p x).cell? a = some v := by
  rw [World.cell?_setCell_far W p a x hp]; exact h

theorem frozen_alloc {W : World} {o : Obj} {a : Addr} {v : Value} (hc : W.cell? a = some v) (h : W.frozen? a = false) : (W.alloc o).frozen? a = false := frozen_later (bel1 W o) hc h
theorem Calls.regrown_same {P : Program} {f : FuncId} {args : Array Value} {w : World} {d : Nat} {os : Array Obj} {v : Value}
    (h : Calls P f args (Go.Sort.grow (redrawn w d) os) fun e w' => e = .returned v ∧ w' = Go.Sort.grow (redrawn w d) os) : Calls P f args (Go.Sort.grow (redrawn w d) os) fun e w'' => e = .returned v ∧ ∃ p : Regrown, w'' = Go.Sort.grow (redrawn w p.d) p.os :=
  h.mono fun _ _ ⟨he, hb⟩ => ⟨he, ⟨d, os⟩, hb⟩
theorem pow_126 (k : Nat) (hk : k ≤ 126) : (2 : Int) ^ k ≤ 85070591730234615865843651857942052864 := by
  have h : (2 : Nat) ^ k ≤ 2 ^ 126 := Nat.pow_le_pow_right (by omega) hk
  have h2 : (((2 : Nat) ^ k : Nat) : Int) ≤ (((2 : Nat) ^ 126 : Nat) : Int) := by omega
  rw [Int.natCast_pow] at h2
  exact h2

end Go.Proofs.Ytaifihfiompgaaa
/-
  Contracts of math/bits.Div64 where the high word is nought, and of regatta/wide's divide, over what Div64 gives at the two calls.
-/
set_option linter.unusedVariables false
set_option linter.unusedSimpArgs false
namespace Go.Proofs.Ytaifihfiompgaaa
open Go.RowKit

end Go.Proofs.Ytaifihfiompgaaa
/-
  The contract of regatta/wide's Quo, over what Div64 gives at the two calls.
-/
set_option linter.unusedVariables false
set_option linter.unusedSimpArgs false
namespace Go.Proofs.Ytaifihfiompgaaa
open Go.RowKit

/-- A function's first two blocks, the argument's box and the result's variable, are as they were laid. -/
structure Kp (w : World) (a0 a1 : Value) (w' : World) : Prop where
  bel : Below w.heap.size w w'
  ca0 : w'.cell? ⟨w.heap.size, 0, none⟩ = some a0
  ca1 : w'.cell? ⟨w.heap.size, 1, none⟩ = some a1
  cr0 : w'.cell? ⟨w.heap.size + 1, 0, none⟩ = some (.int .i64 0)
  cr1 : w'.cell? ⟨w.heap.size + 1, 1, none⟩ = some (.int .u64 0)
  fr0 : w'.frozen? ⟨w.heap.size + 1, 0, none⟩ = false
  fr1 : w'.frozen? ⟨w.heap.size + 1, 1, none⟩ = false
theorem Kp.start (w : World) (a0 a1 : Value) (t : TypeId) : Kp w a0 a1 ((w.alloc (.cells #[a0, a1] t)).alloc (.cells #[.int .i64 0, .int .u64 0] t)) where
  bel := bel2 _ _ _
  ca0 := cell_alloc (by simp [go_sem])
  ca1 := cell_alloc (by simp [go_sem])
  cr0 := by simp [go_sem]
  cr1 := by simp [go_sem]
  fr0 := by simp [go_sem]
  fr1 := by simp [go_sem]
theorem Kp.later {w w1 w2 : World} {a0 a1 : Value} (h : Kp w a0 a1 w1) (hb : Below w1.heap.size w1 w2) : Kp w a0 a1 w2 where
  bel := h.bel.trans (hb.mono h.bel.size)
  ca0 := cell_later hb h.ca0
  ca1 := cell_later hb h.ca1
  cr0 := cell_later hb h.cr0
  cr1 := cell_later hb h.cr1
  fr0 := frozen_later hb h.cr0 h.fr0
  fr1 := frozen_later hb h.cr1 h.fr1
theorem Kp.lt {w w1 : World} {a0 a1 : Value} (h : Kp w a0 a1 w1) : w.heap.size + 1 < w1.heap.size := World.block_lt_of_cell? _ _ h.cr0
theorem Kp.alloc {w w1 : World} {a0 a1 : Value} (h : Kp w a0 a1 w1) (o : Obj) : Kp w a0 a1 (w1.alloc o) := h.later (bel1 w1 o)

/-- A variable of two words. -/
structure Bx (b : Nat) (x y : Value) (w : World) : Prop where
  c0 : w.cell? ⟨b, 0, none⟩ = some x
  c1 : w.cell? ⟨b, 1, none⟩ = some y
  f0 : w.frozen? ⟨b, 0, none⟩ = false
  f1 : w.frozen? ⟨b, 1, none⟩ = false
theorem Bx.new (w : World) (x y : Value) (t : TypeId) : Bx w.heap.size x y (w.alloc (.cells #[x, y] t)) where
  c0 := by simp [go_sem]
  c1 := by simp [go_sem]
  f0 := by simp [go_sem]
  f1 := by simp [go_sem]
theorem Bx.later {b : Nat} {x y : Value} {w w' : World} (h : Bx b x y w) (hb : Below w.heap.size w w') : Bx b x y w' where
  c0 := cell_later hb h.c0
  c1 := cell_later hb h.c1
  f0 := frozen_later hb h.c0 h.f0
  f1 := frozen_later hb h.c1 h.f1
theorem Bx.set {b : Nat} {x y : Value} {w : World} (h : Bx b x y w) (x' y' : Value) : Bx b x' y' ((w.setCell ⟨b, 0, none⟩ x').setCell ⟨b, 1, none⟩ y') := by
  have c0 := h.c0
  have c1 := h.c1
  have f0 := h.f0
  have f1 := h.f1
  constructor <;> simp [go_sem, c0, c1, f0, f1]
theorem frozen_set {W : World} {p a : Addr} {x : Value} (h : W.frozen? a = false) : (W.setCell p x).frozen? a = false := by simpa [go_sem] using h
theorem Kp.set {w w1 : World} {a0 a1 : Value} (h : Kp w a0 a1 w1) {b : Nat} (hb : w.heap.size + 1 < b) (x y : Value) : Kp w a0 a1 ((w1.setCell ⟨b, 0, none⟩ x).setCell ⟨b, 1, none⟩ y) where
  bel := (h.bel.setCell (by dsimp only; omega) _).setCell (by dsimp only; omega) _
  ca0 := cell_set (by dsimp only; omega) (cell_set (by dsimp only; omega) h.ca0)
  ca1 := cell_set (by dsimp only; omega) (cell_set (by dsimp only; omega) h.ca1)
  cr0 := cell_set (by dsimp only; omega) (cell_set (by dsimp only; omega) h.cr0)
  cr1 := cell_set (by dsimp only; omega) (cell_set (by dsimp only; omega) h.cr1)
  fr0 := frozen_set (frozen_set h.fr0)
  fr1 := frozen_set (frozen_set h.fr1)

end Go.Proofs.Ytaifihfiompgaaa
/-
  The contract of regatta/wide's Root.
-/
set_option linter.unusedVariables false
set_option linter.unusedSimpArgs false
namespace Go.Proofs.Ytaifihfiompgaaa
open Go.RowKit

theorem or_bit (r : Int) (k : Nat) (hk : k ≤ 62) (h0 : 0 ≤ r) (hm : r % 2 ^ (k + 1) = 0) (ht : r + 2 ^ (k + 1) ≤ 9223372036854775808) : bits .or .i64 r (2 ^ k) = r + 2 ^ k := by
  have hp := pow_pos' k
  have e2 := pow_two k
  rw [or_i64 r (2 ^ k) (k + 1) (by omega) hm (by omega) (by omega), sg_id _ (by omega) (by omega)]

end Go.Proofs.Ytaifihfiompgaaa
/-
  The contract of regattalaw01's awake: the chapter's examples come out as they should.
-/
set_option linter.unusedVariables false
set_option linter.unusedSimpArgs false
namespace Go.Proofs.Ytaifihfiompgaaa
open Go.RowKit

end Go.Proofs.Ytaifihfiompgaaa
/-
  Small tools for the laws' walks.
-/
namespace Go.Proofs.Ytaifihfiompgaaa
open Go.RowKit
theorem bchain {a b c : World} (h : Below a.heap.size a b) (k : Below b.heap.size b c) : Below a.heap.size a c := h.trans (k.mono h.size)
theorem bdrew {a b : World} (h : Below a.heap.size a b) : Below a.heap.size a b.drew := h.drew
theorem ovv_out (v : Int) (h : ¬ (-9223372036854775808 ≤ v ∧ v ≤ 9223372036854775807)) : ovv v = true := by
  unfold ovv; simp; omega
end Go.Proofs.Ytaifihfiompgaaa
