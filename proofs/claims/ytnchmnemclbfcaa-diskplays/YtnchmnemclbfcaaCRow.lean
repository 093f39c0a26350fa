/-
  Rows of cells that may be written; what writes into one block alone.
-/
import Derived.Test.YtnchmnemclbfcaaCBase
import Derived.Test.YtnchmnemclbfcaaCMath2
set_option linter.unusedVariables false
set_option linter.unusedSimpArgs false
namespace Go.Proofs.Ytnchmnemclbfcaa
open Go.RowKit

/-- A row of so many cells. -/
structure Rw (b n : Nat) (h : Nat → Value) (w : World) : Prop where
  c : ∀ k, k < n → w.cell? ⟨b, k, none⟩ = some (h k)
  f : ∀ k, k < n → w.frozen? ⟨b, k, none⟩ = false
theorem Rw.later {b n : Nat} {h : Nat → Value} {w w' : World} (r : Rw b n h w) (hb : Below w.heap.size w w') : Rw b n h w' :=
  ⟨fun k hk => cell_later hb (r.c k hk), fun k hk => frozen_later hb (r.c k hk) (r.f k hk)⟩
theorem Rw.block {b n : Nat} {h : Nat → Value} {w w' : World} (r : Rw b n h w) (hb : w'.heap[b]? = w.heap[b]?) : Rw b n h w' :=
  ⟨fun k hk => (World.cell?_of_block (w := w) hb).trans (r.c k hk), fun k hk => (World.frozen?_of_block (w := w) hb).trans (r.f k hk)⟩
theorem Rw.far {b n : Nat} {h : Nat → Value} {w : World} {p : Addr} (r : Rw b n h w) (u : Value) (hp : p.block ≠ b) : Rw b n h (w.setCell p u) :=
  ⟨fun k hk => cell_set hp (r.c k hk), fun k hk => by rw [World.frozen?_setCell]; exact r.f k hk⟩
theorem Rw.set {b n : Nat} {h : Nat → Value} {w : World} (r : Rw b n h w) (j : Nat) (u : Value) : Rw b n (fun k => if k = j then u else h k) (w.setCell ⟨b, j, none⟩ u) := by
  refine ⟨fun k hk => ?_, fun k hk => by rw [World.frozen?_setCell]; exact r.f k hk⟩
  by_cases e : k = j
  · subst e
    simp only [if_true]
    exact World.cell?_setCell_same' _ _ _ (by rw [r.c k hk]; rfl)
  · simp only [if_neg e]
    exact (World.cell?_setCell_other _ _ _ _ (by first | (simp; done) | (simp; omega))).trans (r.c k hk)
theorem Rw.congr {b n : Nat} {h g : Nat → Value} {w : World} (r : Rw b n h w) (e : ∀ k, k < n → h k = g k) : Rw b n g w :=
  ⟨fun k hk => by rw [r.c k hk, e k hk], r.f⟩
theorem made_get (z : Value) (n k : Nat) (hk : k < n) : (madeCells #[z] n)[k]? = some z := by
  unfold madeCells
  rw [Array.getElem?_map, Array.getElem?_eq_getElem (by simpa using hk)]
  simp [Nat.mod_one]
theorem Rw.made (w : World) (z : Value) (n : Nat) (t : TypeId) : Rw w.heap.size n (fun _ => z) (w.alloc (.cells (madeCells #[z] n) t)) := by
  refine ⟨fun k hk => ?_, fun k hk => ?_⟩
  · have := made_get z n k hk
    simp [go_sem, this]
  · simp [go_sem]
theorem own_row {w : World} {base : Nat} {e : TypeId} {v : Value} {n : Nat} {h : Nat → Value} (r : w.ownsRow base e 1 v n (vl h n)) (hn : 0 < n) : ∃ g cap, v = .slice (some ⟨g, 0, none⟩) n cap ∧ base ≤ g ∧ n ≤ cap ∧ cap ≤ maxLen ∧ Rw g n h w := by
  rcases r.2 with ⟨_, h0⟩ | ⟨g, cap, cur, rfl, hg, hh, hc1, hc2, hsz, htk⟩
  · omega
  · refine ⟨g, cap, rfl, hg, hc1, hc2, ⟨fun k hk => ?_, fun k hk => by simp [World.frozen?, hh]⟩⟩
    rw [r.cellAt k (by omega), vl_get h n k hk]
theorem Rw.lt {b n : Nat} {h : Nat → Value} {w : World} (r : Rw b n h w) (hn : 0 < n) : b < w.heap.size := World.block_lt_of_cell? _ _ (r.c 0 hn)
theorem Rw.ls {g n : Nat} {h : Nat → Value} {w : World} (r : Rw g n h w) (o m cap : Nat) (hm : o + m ≤ n) (hc : m ≤ cap) (hx : cap ≤ maxLen) : Ls w (.slice (some ⟨g, o, none⟩) m cap) m (fun k => h (o + k)) := ⟨_, cap, g, o, rfl, hc, ⟨hx, fun e => by cases e⟩, fun _ => rfl, fun k hk => r.c (o + k) (by omega)⟩
/-- From a world to one in which one block alone was written. -/
structure Wr (b : Nat) (w w' : World) : Prop where
  o : ∀ i, i ≠ b → w'.heap[i]? = w.heap[i]?
  s : w'.heap.size = w.heap.size
  B : ∀ (base : Nat) (w0 : World), base ≤ b → Below base w0 w → Below base w0 w'
theorem Wr.same (b : Nat) (w : World) : Wr b w w := ⟨fun _ _ => rfl, rfl, fun _ _ _ h => h⟩
theorem Wr.set {b : Nat} {w w' : World} (h : Wr b w w') (j : Nat) (u : Value) : Wr b w (w'.setCell ⟨b, j, none⟩ u) :=
  ⟨fun i hi => (Below.heap_setCell _ _ _ _ hi).trans (h.o i hi), by rw [World.size_setCell]; exact h.s, fun base w0 h1 h2 => (h.B base w0 h1 h2).setCell (by dsimp only; omega) u⟩
theorem Wr.cell {b : Nat} {w w' : World} (h : Wr b w w') {a : Addr} {v : Value} (hn : a.block ≠ b) (hc : w.cell? a = some v) : w'.cell? a = some v := (World.cell?_of_block (w := w) (h.o _ hn)).trans hc
theorem Ls.wr {b : Nat} {w w' : World} {v : Value} {n : Nat} {h : Nat → Value} (l : Ls w v n h) (hW : Wr b w w') (hn : Nb v b) : Ls w' v n h := by
  obtain ⟨adr, cap, q, o, rfl, h2, h3, h4, h5⟩ := l
  refine ⟨adr, cap, q, o, rfl, h2, h3, h4, fun k hk => ?_⟩
  have e := h4 (by omega)
  subst e
  exact hW.cell (hn ⟨q, o, none⟩ n cap rfl (by omega)) (h5 k hk)
theorem nt_set {g n : Nat} {F : Nat → Nat} {w : World} (r : Rw g n (nt F) w) (j x : Nat) : Rw g n (nt (fun k => if k = j then x else F k)) (w.setCell ⟨g, j, none⟩ (.int .i64 (x : Int))) := by
  refine (r.set j (.int .i64 (x : Int))).congr (fun k hk => ?_)
  unfold nt
  by_cases e : k = j
  · simp [e]
  · simp [e]
theorem nt_congr {g n : Nat} {F G : Nat → Nat} {w : World} (r : Rw g n (nt F) w) (e : ∀ k, k < n → F k = G k) : Rw g n (nt G) w := r.congr (fun k hk => by unfold nt; rw [e k hk])
end Go.Proofs.Ytnchmnemclbfcaa
