/-
  What layer 12 must give (pack): a writer and a reader, whatever they are made of.
-/
import Derived.Test.YtfcbgkcclganmaaDoorPkRefH
import Derived.Test.YtfcbgkcclganmaaDoorPkSame
set_option linter.unusedVariables false
set_option linter.unusedSimpArgs false
namespace Go.Proofs.YtfcbgkcclganmaaDoor
open Go.RowKit

/-- What a call with an object leaves: its new state with what is its own, all else as it was. -/
def Af (T : World → Value → (Nat → Prop) → Sta → Prop) (p : Value) (F : Nat → Prop) (s : Sta) (w w' : World) : Prop := ∃ F' : Nat → Prop, T w' p F' s ∧ Gr F F' w ∧ Kp F w w'
/-- What is one's own stays above. -/
theorem Gr.up {F F' : Nat → Prop} {w : World} {B : Nat} (h : Gr F F' w) (hF : ∀ i, F i → B ≤ i) (hB : B ≤ w.heap.size) : ∀ i, F' i → B ≤ i := fun i hi => by
  rcases h i hi with q | q
  · exact hF i q
  · omega
/-- Two things apart stay so. -/
theorem Gr.apart {F F' G : Nat → Prop} {w : World} (h : Gr F F' w) (hn : ∀ i, F i → ¬ G i) (hG : ∀ i, G i → i < w.heap.size) : ∀ i, F' i → ¬ G i := fun i hi q => by
  rcases h i hi with q2 | q2
  · exact hn i q2 q
  · have := hG i q; omega
/-- A box of a thing. -/
structure B7 (b : Nat) (v0 v1 v2 v3 v4 v5 v6 : Value) (w : World) : Prop where
  c0 : w.cell? ⟨b, 0, none⟩ = some v0
  c1 : w.cell? ⟨b, 1, none⟩ = some v1
  c2 : w.cell? ⟨b, 2, none⟩ = some v2
  c3 : w.cell? ⟨b, 3, none⟩ = some v3
  c4 : w.cell? ⟨b, 4, none⟩ = some v4
  c5 : w.cell? ⟨b, 5, none⟩ = some v5
  c6 : w.cell? ⟨b, 6, none⟩ = some v6
theorem B7.new (w : World) (v0 v1 v2 v3 v4 v5 v6 : Value) (t : TypeId) : B7 w.heap.size v0 v1 v2 v3 v4 v5 v6 (w.alloc (.cells #[v0, v1, v2, v3, v4, v5, v6] t)) :=
  ⟨by simp [go_sem], by simp [go_sem], by simp [go_sem], by simp [go_sem], by simp [go_sem], by simp [go_sem], by simp [go_sem]⟩
theorem B7.later {b : Nat} {v0 v1 v2 v3 v4 v5 v6 : Value} {w w' : World} (h : B7 b v0 v1 v2 v3 v4 v5 v6 w) (k : Below w.heap.size w w') : B7 b v0 v1 v2 v3 v4 v5 v6 w' :=
  ⟨cell_later k h.c0, cell_later k h.c1, cell_later k h.c2, cell_later k h.c3, cell_later k h.c4, cell_later k h.c5, cell_later k h.c6⟩
theorem B7.kept {b : Nat} {v0 v1 v2 v3 v4 v5 v6 : Value} {w w' : World} {F : Nat → Prop} (h : B7 b v0 v1 v2 v3 v4 v5 v6 w) (k : Kp F w w') (hb : ¬ F b) : B7 b v0 v1 v2 v3 v4 v5 v6 w' :=
  ⟨k.cell hb h.c0, k.cell hb h.c1, k.cell hb h.c2, k.cell hb h.c3, k.cell hb h.c4, k.cell hb h.c5, k.cell hb h.c6⟩
theorem B7.drew {b : Nat} {v0 v1 v2 v3 v4 v5 v6 : Value} {w : World} (h : B7 b v0 v1 v2 v3 v4 v5 v6 w) : B7 b v0 v1 v2 v3 v4 v5 v6 w.drew := ⟨h.c0, h.c1, h.c2, h.c3, h.c4, h.c5, h.c6⟩
end Go.Proofs.YtfcbgkcclganmaaDoor
