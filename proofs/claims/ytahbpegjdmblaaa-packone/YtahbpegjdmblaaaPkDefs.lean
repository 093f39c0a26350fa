/-
  What layer 12 must give (pack): a writer and a reader, whatever they are made of.
-/
import Derived.Test.YtahbpegjdmblaaaPkRefH
import Derived.Test.YtahbpegjdmblaaaPkSame
set_option linter.unusedVariables false
set_option linter.unusedSimpArgs false
namespace Go.Proofs.Ytahbpegjdmblaaa
open Go.RowKit

/-- What a call with an object leaves: its new state with what is its own, all else as it was. -/
def Af (T : World → Value → (Nat → Prop) → Sta → Prop) (p : Value) (F : Nat → Prop) (s : Sta) (w w' : World) : Prop := ∃ F' : Nat → Prop, T w' p F' s ∧ Gr F F' w ∧ Kp F w w'
/-- The contracts of pack: T a writer, R a reader; F the blocks that are its own. -/
structure Pack1 where
  Wt : World → Value → (Nat → Prop) → Sta → Prop
  Rt : World → Value → (Nat → Prop) → Sta → Prop
  wtK : ∀ {w w' : World} {p : Value} {F : Nat → Prop} {s : Sta}, Wt w p F s → (∀ k, F k → w'.heap[k]? = w.heap[k]?) → w.heap.size ≤ w'.heap.size → Wt w' p F s
  wtB : ∀ {w : World} {p : Value} {F : Nat → Prop} {s : Sta}, Wt w p F s → ∀ k, F k → k < w.heap.size
  rtK : ∀ {w w' : World} {p : Value} {F : Nat → Prop} {s : Sta}, Rt w p F s → (∀ k, F k → w'.heap[k]? = w.heap[k]?) → w.heap.size ≤ w'.heap.size → Rt w' p F s
  rtB : ∀ {w : World} {p : Value} {F : Nat → Prop} {s : Sta}, Rt w p F s → ∀ k, F k → k < w.heap.size
  rtY : ∀ {w : World} {p : Value} {F : Nat → Prop} {s : Sta}, Rt w p F s → Byt s
  rtE : ∀ {w : World} {p : Value} {F : Nat → Prop} {x : Nat}, Rt w p F (.error x) → x ≠ 0
  wz : ∀ w : World, Wt (w.alloc (.cells #[.slice none 0 0, .bool false] 28)) (.pointer (some ⟨w.heap.size, 0, none⟩)) (· = w.heap.size) (.ok [])
  wnil : ∀ w : World, Wt w (.pointer none) (fun _ => False) (.error 1)
  rz : ∀ w : World, Rt (w.alloc (.cells #[.bool false, .slice none 0 0, .int .i64 0] 51)) (.pointer (some ⟨w.heap.size, 0, none⟩)) (· = w.heap.size) (.error 1)
  rnil : ∀ w : World, Rt w (.pointer none) (fun _ => False) (.error 1)
  wuint : ∀ (w : World) (p : Value) (F : Nat → Prop) (s : Sta) (n : Nat), Wt w p F s → n < 18446744073709551616 →
    Calls Try.prog 28 #[p, .int .u64 (n : Int)] w fun e w' => e = .returned (.tuple #[]) ∧ Af Wt p F (pt s (enU n)) w w'
  wint : ∀ (w : World) (p : Value) (F : Nat → Prop) (s : Sta) (n : Int), Wt w p F s → okI n →
    Calls Try.prog 29 #[p, .int .i64 n] w fun e w' => e = .returned (.tuple #[]) ∧ Af Wt p F (pt s (enI n)) w w'
  wfix : ∀ (w : World) (p : Value) (F : Nat → Prop) (s : Sta) (n : Int), Wt w p F s → okI n →
    Calls Try.prog 30 #[p, .int .i64 n] w fun e w' => e = .returned (.tuple #[]) ∧ Af Wt p F (pt s (enF n)) w w'
  wbytes : ∀ (w : World) (p : Value) (F : Nat → Prop) (s : Sta) (v : Value) (l : List Nat), Wt w p F s → Bs w v l → Nf F v → okB l → l.length ≤ 2000000 →
    Calls Try.prog 27 #[p, v] w fun e w' => e = .returned (.tuple #[]) ∧ Af Wt p F (pt s (enB l)) w w'
  wints : ∀ (w : World) (p : Value) (F : Nat → Prop) (s : Sta) (v : Value) (l : List Int), Wt w p F s → Is w v l → Nf F v → okL l → l.length ≤ 2000000 →
    Calls Try.prog 31 #[p, v] w fun e w' => e = .returned (.tuple #[]) ∧ Af Wt p F (pt s (enIs l)) w w'
  wfixes : ∀ (w : World) (p : Value) (F : Nat → Prop) (s : Sta) (v : Value) (l : List Int), Wt w p F s → Is w v l → Nf F v → okL l → l.length ≤ 2000000 →
    Calls Try.prog 32 #[p, v] w fun e w' => e = .returned (.tuple #[]) ∧ Af Wt p F (pt s (enFs l)) w w'
  wdone : ∀ (w : World) (p : Value) (F : Nat → Prop) (s : Sta), Wt w p F s →
    Calls Try.prog 12 #[p] w fun e w' => ∃ v, e = .returned (.tuple #[v, .int .i64 ((dnE s : Nat) : Int)]) ∧ Bs w' v (dnV s) ∧ Ow w.heap.size v ∧ Below w.heap.size w w'
  read : ∀ (w : World) (v : Value) (l : List Nat), Bs w v l → (∀ c ∈ l, c < 256) → l.length ≤ 2000000 →
    Calls Try.prog 15 #[v] w fun e w' => ∃ p F, e = .returned p ∧ Rt w' p F (.ok l) ∧ (∀ k, F k → w.heap.size ≤ k) ∧ Below w.heap.size w w'
  ruint : ∀ (w : World) (p : Value) (F : Nat → Prop) (s : Sta), Rt w p F s →
    Calls Try.prog 21 #[p] w fun e w' => e = .returned (.int .u64 ((pv rU 0 s : Nat) : Int)) ∧ Af Rt p F (pn rU s) w w'
  rint : ∀ (w : World) (p : Value) (F : Nat → Prop) (s : Sta), Rt w p F s →
    Calls Try.prog 22 #[p] w fun e w' => e = .returned (.int .i64 (pv rI 0 s)) ∧ Af Rt p F (pn rI s) w w'
  rfix : ∀ (w : World) (p : Value) (F : Nat → Prop) (s : Sta), Rt w p F s →
    Calls Try.prog 23 #[p] w fun e w' => e = .returned (.int .i64 (pv rF 0 s)) ∧ Af Rt p F (pn rF s) w w'
  rbytes : ∀ (w : World) (p : Value) (F : Nat → Prop) (s : Sta), Rt w p F s →
    Calls Try.prog 24 #[p] w fun e w' => ∃ v, e = .returned v ∧ Bs w' v (pv rB [] s) ∧ Ow w.heap.size v ∧ Af Rt p F (pn rB s) w w'
  rints : ∀ (w : World) (p : Value) (F : Nat → Prop) (s : Sta), Rt w p F s →
    Calls Try.prog 25 #[p] w fun e w' => ∃ v, e = .returned v ∧ Is w' v (pv rIs [] s) ∧ Ow w.heap.size v ∧ Af Rt p F (pn rIs s) w w'
  rfixes : ∀ (w : World) (p : Value) (F : Nat → Prop) (s : Sta), Rt w p F s →
    Calls Try.prog 26 #[p] w fun e w' => ∃ v, e = .returned v ∧ Is w' v (pv rFs [] s) ∧ Ow w.heap.size v ∧ Af Rt p F (pn rFs s) w w'
  rerr : ∀ (w : World) (p : Value) (F : Nat → Prop) (s : Sta), Rt w p F s →
    Calls Try.prog 17 #[p] w fun e w' => e = .returned (.int .i64 ((dnE s : Nat) : Int)) ∧ Below w.heap.size w w'
  rdone : ∀ (w : World) (p : Value) (F : Nat → Prop) (s : Sta), Rt w p F s →
    Calls Try.prog 18 #[p] w fun e w' => e = .returned (.int .i64 ((rdE s : Nat) : Int)) ∧ Below w.heap.size w w'
theorem Pack1.wl (V : Pack1) {w w' : World} {p : Value} {F : Nat → Prop} {s : Sta} (h : V.Wt w p F s) (k : Below w.heap.size w w') : V.Wt w' p F s := V.wtK h (fun i hi => k.block i (V.wtB h i hi)) k.size
theorem Pack1.rl (V : Pack1) {w w' : World} {p : Value} {F : Nat → Prop} {s : Sta} (h : V.Rt w p F s) (k : Below w.heap.size w w') : V.Rt w' p F s := V.rtK h (fun i hi => k.block i (V.rtB h i hi)) k.size
theorem Pack1.wk (V : Pack1) {w w' : World} {p : Value} {F G : Nat → Prop} {s : Sta} (h : V.Wt w p F s) (k : Kp G w w') (hn : ∀ i, F i → ¬ G i) : V.Wt w' p F s := V.wtK h (fun i hi => k.block i (V.wtB h i hi) (hn i hi)) k.size
theorem Pack1.rk (V : Pack1) {w w' : World} {p : Value} {F G : Nat → Prop} {s : Sta} (h : V.Rt w p F s) (k : Kp G w w') (hn : ∀ i, F i → ¬ G i) : V.Rt w' p F s := V.rtK h (fun i hi => k.block i (V.rtB h i hi) (hn i hi)) k.size
/-- What is one's own stays above. -/
theorem Gr.up {F F' : Nat → Prop} {w : World} {B : Nat} (h : Gr F F' w) (hF : ∀ i, F i → B ≤ i) (hB : B ≤ w.heap.size) : ∀ i, F' i → B ≤ i := fun i hi => by
  rcases h i hi with q | q
  · exact hF i q
  · omega
/-- Two things apart stay so. -/
theorem Gr.apart {F F' G : Nat → Prop} {w : World} (h : Gr F F' w) (hn : ∀ i, F i → ¬ G i) (hG : ∀ i, G i → i < w.heap.size) : ∀ i, F' i → ¬ G i := fun i hi q => by
  rcases h i hi with q2 | q2
  · exact hn i q2 q
  · have := hG i q; omega
/-- A box of a thing. -/
structure B7 (b : Nat) (v0 v1 v2 v3 v4 v5 v6 : Value) (w : World) : Prop where
  c0 : w.cell? ⟨b, 0, none⟩ = some v0
  c1 : w.cell? ⟨b, 1, none⟩ = some v1
  c2 : w.cell? ⟨b, 2, none⟩ = some v2
  c3 : w.cell? ⟨b, 3, none⟩ = some v3
  c4 : w.cell? ⟨b, 4, none⟩ = some v4
  c5 : w.cell? ⟨b, 5, none⟩ = some v5
  c6 : w.cell? ⟨b, 6, none⟩ = some v6
theorem B7.new (w : World) (v0 v1 v2 v3 v4 v5 v6 : Value) (t : TypeId) : B7 w.heap.size v0 v1 v2 v3 v4 v5 v6 (w.alloc (.cells #[v0, v1, v2, v3, v4, v5, v6] t)) :=
  ⟨by simp [go_sem], by simp [go_sem], by simp [go_sem], by simp [go_sem], by simp [go_sem], by simp [go_sem], by simp [go_sem]⟩
theorem B7.later {b : Nat} {v0 v1 v2 v3 v4 v5 v6 : Value} {w w' : World} (h : B7 b v0 v1 v2 v3 v4 v5 v6 w) (k : Below w.heap.size w w') : B7 b v0 v1 v2 v3 v4 v5 v6 w' :=
  ⟨cell_later k h.c0, cell_later k h.c1, cell_later k h.c2, cell_later k h.c3, cell_later k h.c4, cell_later k h.c5, cell_later k h.c6⟩
theorem B7.kept {b : Nat} {v0 v1 v2 v3 v4 v5 v6 : Value} {w w' : World} {F : Nat → Prop} (h : B7 b v0 v1 v2 v3 v4 v5 v6 w) (k : Kp F w w') (hb : ¬ F b) : B7 b v0 v1 v2 v3 v4 v5 v6 w' :=
  ⟨k.cell hb h.c0, k.cell hb h.c1, k.cell hb h.c2, k.cell hb h.c3, k.cell hb h.c4, k.cell hb h.c5, k.cell hb h.c6⟩
theorem B7.drew {b : Nat} {v0 v1 v2 v3 v4 v5 v6 : Value} {w : World} (h : B7 b v0 v1 v2 v3 v4 v5 v6 w) : B7 b v0 v1 v2 v3 v4 v5 v6 w.drew := ⟨h.c0, h.c1, h.c2, h.c3, h.c4, h.c5, h.c6⟩
end Go.Proofs.Ytahbpegjdmblaaa
