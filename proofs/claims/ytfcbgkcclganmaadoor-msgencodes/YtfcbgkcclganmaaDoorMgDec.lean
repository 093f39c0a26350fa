/-
  What the document's Decode answers; the reader, the message and the answer in memory while it works.
-/
import Derived.Test.YtfcbgkcclganmaaDoorMgRefC
import Derived.Test.YtfcbgkcclganmaaDoorFrRefB
set_option linter.unusedVariables false
set_option linter.unusedSimpArgs false
namespace Go.Proofs.YtfcbgkcclganmaaDoor
open Go.RowKit

open Classical in
/-- The first error, or 0. -/
noncomputable def dcE (l : List Nat) : Nat := if opE l ≠ 0 then opE l else if opN l < l.length then 122 else if Is14 (opK l) (opP l) then 0 else 140
open Classical in
/-- The message, or the one of nothing. -/
noncomputable def dcM (l : List Nat) : Ms := if opE l = 0 ∧ ¬ opN l < l.length ∧ Is14 (opK l) (opP l) then rdM (opK l) (opP l) else ms0
theorem dc_err {l : List Nat} (h : opE l ≠ 0) : dcE l = opE l ∧ dcM l = ms0 := by
  unfold dcE dcM
  rw [if_pos h, if_neg (fun q => h q.1)]
  exact ⟨rfl, rfl⟩
theorem dc_left {l : List Nat} (h : opE l = 0) (h2 : opN l < l.length) : dcE l = 122 ∧ dcM l = ms0 := by
  unfold dcE dcM
  rw [if_neg (fun q => q h), if_pos h2, if_neg (fun q => q.2.1 h2)]
  exact ⟨rfl, rfl⟩
theorem dc_yes {l : List Nat} (h : opE l = 0) (h2 : ¬ opN l < l.length) (h3 : Is14 (opK l) (opP l)) : dcE l = 0 ∧ dcM l = rdM (opK l) (opP l) := by
  unfold dcE dcM
  rw [if_neg (fun q => q h), if_neg h2, if_pos h3, if_pos ⟨h, h2, h3⟩]
  exact ⟨rfl, rfl⟩
theorem dc_no {l : List Nat} (h : opE l = 0) (h2 : ¬ opN l < l.length) (h3 : ¬ Is14 (opK l) (opP l)) : dcE l = 140 ∧ dcM l = ms0 := by
  unfold dcE dcM
  rw [if_neg (fun q => q h), if_neg h2, if_neg h3, if_neg (fun q => h3 q.2.2)]
  exact ⟨rfl, rfl⟩
theorem op_kind {l : List Nat} (h : opE l = 0) : 1 ≤ opK l := by
  rw [(op_yes h).1]
  refine Nat.one_le_iff_ne_zero.2 fun q => ?_
  unfold opE at h
  repeat' split at h
  all_goals omega
theorem opP_byte {l : List Nat} (hb : ∀ c ∈ l, c < 256) : ∀ c ∈ opP l, c < 256 := by
  intro c hc
  unfold opP at hc
  split at hc
  · exact hb c (List.mem_of_mem_drop (List.mem_of_mem_take hc))
  · cases hc
theorem opP_len (l : List Nat) : (opP l).length ≤ l.length := by
  unfold opP
  split
  · rw [List.length_take, List.length_drop]; omega
  · simp
theorem ms0_eq : ms0 = ⟨0, 0, 0, 0, 0, 0, 0, []⟩ := rfl
/-- The cells of a message. -/
def mf (m : Ms) (v : Value) : Nat → Value
  | 0 => .int .i64 m.k
  | 1 => .int .i64 m.fr
  | 2 => .int .i64 m.inc
  | 3 => .int .i64 m.rd
  | 4 => .int .i64 m.h
  | 5 => .int .i64 m.pt
  | 6 => .int .i64 m.ps
  | _ => v
theorem less8 {k : Nat} (h : k < 8) : k = 0 ∨ k = 1 ∨ k = 2 ∨ k = 3 ∨ k = 4 ∨ k = 5 ∨ k = 6 ∨ k = 7 := by omega
theorem mf_new (w : World) (m : Ms) (v : Value) (t : TypeId) : Rw w.heap.size 8 (mf m v) (w.alloc (.cells #[.int .i64 m.k, .int .i64 m.fr, .int .i64 m.inc, .int .i64 m.rd, .int .i64 m.h, .int .i64 m.pt, .int .i64 m.ps, v] t)) := by
  refine ⟨fun k hk => ?_, fun k hk => by simp [go_sem]⟩
  rcases less8 hk with rfl | rfl | rfl | rfl | rfl | rfl | rfl | rfl <;> simp [go_sem, mf]
theorem mf_put8 {b : Nat} {f : Nat → Value} {W : World} (r : Rw b 8 f W) (m : Ms) (v : Value) : Rw b 8 (mf m v) ((((((((W.setCell ⟨b, 0, none⟩ (.int .i64 m.k)).setCell ⟨b, 1, none⟩ (.int .i64 m.fr)).setCell ⟨b, 2, none⟩ (.int .i64 m.inc)).setCell ⟨b, 3, none⟩ (.int .i64 m.rd)).setCell ⟨b, 4, none⟩ (.int .i64 m.h)).setCell ⟨b, 5, none⟩ (.int .i64 m.pt)).setCell ⟨b, 6, none⟩ (.int .i64 m.ps)).setCell ⟨b, 7, none⟩ v) := by
  refine ((((((((r.set 0 _).set 1 _).set 2 _).set 3 _).set 4 _).set 5 _).set 6 _).set 7 _).congr fun k hk => ?_
  rcases less8 hk with rfl | rfl | rfl | rfl | rfl | rfl | rfl | rfl <;> rfl
theorem below_put8 {B b : Nat} {w W : World} (h : Below B w W) (hb : B ≤ b) (x0 x1 x2 x3 x4 x5 x6 x7 : Value) : Below B w ((((((((W.setCell ⟨b, 0, none⟩ x0).setCell ⟨b, 1, none⟩ x1).setCell ⟨b, 2, none⟩ x2).setCell ⟨b, 3, none⟩ x3).setCell ⟨b, 4, none⟩ x4).setCell ⟨b, 5, none⟩ x5).setCell ⟨b, 6, none⟩ x6).setCell ⟨b, 7, none⟩ x7) :=
  (((((((h.setCell hb _).setCell hb _).setCell hb _).setCell hb _).setCell hb _).setCell hb _).setCell hb _).setCell hb _
theorem bs_nil14 (w : World) : Bs w (.slice none 0 0) [] := (ob_nil w.heap.size w).bs.1
theorem ow_nil14 (B : Nat) : Ow B (.slice none 0 0) := fun a n cap e hn => by cases e
theorem bs_put8 {W : World} {v : Value} {d : List Nat} (h : Bs W v d) (b : Nat) (hn : Nb v b) (x0 x1 x2 x3 x4 x5 x6 x7 : Value) : Bs ((((((((W.setCell ⟨b, 0, none⟩ x0).setCell ⟨b, 1, none⟩ x1).setCell ⟨b, 2, none⟩ x2).setCell ⟨b, 3, none⟩ x3).setCell ⟨b, 4, none⟩ x4).setCell ⟨b, 5, none⟩ x5).setCell ⟨b, 6, none⟩ x6).setCell ⟨b, 7, none⟩ x7) v d :=
  Ls.set (Ls.set (Ls.set (Ls.set (Ls.set (Ls.set (Ls.set (Ls.set h _ _ hn) _ _ hn) _ _ hn) _ _ hn) _ _ hn) _ _ hn) _ _ hn) _ _ hn
/-- While the document's Decode works. -/
structure Dst (s g : Nat) (k : Int) (P : List Nat) (vp : Value) (st : Sta) (m : Ms) (vd : Value) (w W : World) : Prop where
  kc : W.cell? ⟨g, 0, none⟩ = some (.int .i64 k)
  rr : Rr (g + 1) P vp st W
  mb : Rw (g + 2) 8 (mf m vd) W
  rb : Rw s 8 (mf ms0 (.slice none 0 0)) W
  lo : Lo g vp
  lt : s < g
  bl : Below s w W
theorem Dst.szs {s g : Nat} {k : Int} {P : List Nat} {vp vd : Value} {st : Sta} {m : Ms} {w W : World} (h : Dst s g k P vp st m vd w W) : g + 2 < W.heap.size := World.block_lt_of_cell? _ _ (h.mb.c 0 (by omega))
theorem Dst.read {s g : Nat} {k : Int} {P : List Nat} {vp vd : Value} {st st' : Sta} {m : Ms} {w W W1 : World} (h : Dst s g k P vp st m vd w W) (r : Rr (g + 1) P vp st' W1) (q : Kp (· = g + 1) W W1) : Dst s g k P vp st' m vd w W1 := by
  have z := h.szs
  have l := h.lt
  exact ⟨(World.cell?_of_block (w := W) (q.block g (by omega) (by omega))).trans h.kc, r, h.mb.block (q.block _ (by omega) (by omega)), h.rb.block (q.block _ (by omega) (by omega)), h.lo, h.lt, q.next h.bl (fun i hi => by omega) (by omega)⟩
theorem Dst.later {s g : Nat} {k : Int} {P : List Nat} {vp vd : Value} {st : Sta} {m : Ms} {w W W1 : World} (h : Dst s g k P vp st m vd w W) (q : Below W.heap.size W W1) : Dst s g k P vp st m vd w W1 :=
  h.read (h.rr.later q) (Kp.of q)
theorem Dst.put {s g : Nat} {k : Int} {P : List Nat} {vp vd : Value} {st : Sta} {m : Ms} {w W : World} (h : Dst s g k P vp st m vd w W) (i : Nat) (u : Value) (m' : Ms) (vd' : Value) (e : ∀ j, j < 8 → (if j = i then u else mf m vd j) = mf m' vd' j) : Dst s g k P vp st m' vd' w (W.setCell ⟨g + 2, i, none⟩ u) := by
  have z := h.szs
  have l := h.lt
  refine ⟨cell_set (by dsimp only; omega) h.kc, ?_, (h.mb.set i u).congr e, h.rb.far u (by dsimp only; omega), h.lo, h.lt, h.bl.setCell (by dsimp only; omega) _⟩
  exact h.rr.kept (kset (Kp.refl _ _) u) (by omega) (fun a n c e hn q => by have := h.lo a n c e hn; omega)
end Go.Proofs.YtfcbgkcclganmaaDoor
