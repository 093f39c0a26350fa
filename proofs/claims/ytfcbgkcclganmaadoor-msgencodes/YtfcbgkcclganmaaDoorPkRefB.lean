/-
  The document's reader (regattaref12.R): fail, Uint, Int.
-/
import Derived.Test.YtfcbgkcclganmaaDoorPkRefA
set_option linter.unusedVariables false
set_option linter.unusedSimpArgs false
namespace Go.Proofs.YtfcbgkcclganmaaDoor
open Go.RowKit

theorem cellP {w : World} {k : Nat} {a : Addr} : (w.drewN k).cell? a = w.cell? a := rfl
/-- The document's reader in memory: a block of three cells, and the bytes. -/
structure R0 (b : Nat) (l : List Nat) (v : Value) (at_ e : Nat) (w : World) : Prop where
  c0 : w.cell? ⟨b, 0, none⟩ = some v
  c1 : w.cell? ⟨b, 1, none⟩ = some (.int .i64 (at_ : Int))
  c2 : w.cell? ⟨b, 2, none⟩ = some (.int .i64 (e : Int))
  f1 : w.frozen? ⟨b, 1, none⟩ = false
  f2 : w.frozen? ⟨b, 2, none⟩ = false
  bs : Bs w v l
  nb : Nb v b
  le : at_ ≤ l.length
theorem R0.setAt {b : Nat} {l : List Nat} {v : Value} {p e : Nat} {w : World} (h : R0 b l v p e w) (q : Nat) (hq : q ≤ l.length) : R0 b l v q e (w.setCell ⟨b, 1, none⟩ (.int .i64 (q : Int))) := by
  refine ⟨?_, ?_, ?_, ?_, ?_, Ls.set h.bs _ _ h.nb, h.nb, hq⟩
  · exact (World.cell?_setCell_other _ _ _ _ (by simp)).trans h.c0
  · exact World.cell?_setCell_same' _ _ _ (by rw [h.c1]; rfl)
  · exact (World.cell?_setCell_other _ _ _ _ (by simp)).trans h.c2
  · rw [World.frozen?_setCell]; exact h.f1
  · rw [World.frozen?_setCell]; exact h.f2
theorem R0.setE {b : Nat} {l : List Nat} {v : Value} {p e : Nat} {w : World} (h : R0 b l v p e w) (q : Nat) : R0 b l v p q (w.setCell ⟨b, 2, none⟩ (.int .i64 (q : Int))) := by
  refine ⟨?_, ?_, ?_, ?_, ?_, Ls.set h.bs _ _ h.nb, h.nb, h.le⟩
  · exact (World.cell?_setCell_other _ _ _ _ (by simp)).trans h.c0
  · exact (World.cell?_setCell_other _ _ _ _ (by simp)).trans h.c1
  · exact World.cell?_setCell_same' _ _ _ (by rw [h.c2]; rfl)
  · rw [World.frozen?_setCell]; exact h.f1
  · rw [World.frozen?_setCell]; exact h.f2
theorem R0.drew {b : Nat} {l : List Nat} {v : Value} {p e : Nat} {w : World} (h : R0 b l v p e w) (k : Nat) : R0 b l v p e (w.drewN k) := ⟨h.c0, h.c1, h.c2, h.f1, h.f2, h.bs, h.nb, h.le⟩
theorem R0.kept {b : Nat} {l : List Nat} {v : Value} {p e : Nat} {w w' : World} (h : R0 b l v p e w) {F : Nat → Prop} (k : Kp F w w') (hb : ¬ F b) (hv : Nf F v) : R0 b l v p e w' :=
  ⟨k.cell hb h.c0, k.cell hb h.c1, k.cell hb h.c2, k.frozen hb h.c1 h.f1, k.frozen hb h.c2 h.f2, k.bs h.bs hv, h.nb, h.le⟩
theorem R0.later {b : Nat} {l : List Nat} {v : Value} {p e : Nat} {w w' : World} (h : R0 b l v p e w) (k : Below w.heap.size w w') : R0 b l v p e w' :=
  ⟨cell_later k h.c0, cell_later k h.c1, cell_later k h.c2, frozen_later k h.c1 h.f1, frozen_later k h.c2 h.f2, h.bs.later k, h.nb, h.le⟩
theorem R0.upto {B b : Nat} {l : List Nat} {v : Value} {p e : Nat} {w w' : World} (h : R0 b l v p e w) (k : Below B w w') (hb : b < B) (hv : Lo B v) : R0 b l v p e w' :=
  ⟨(k.cell (p := ⟨b, 0, none⟩) hb).trans h.c0, (k.cell (p := ⟨b, 1, none⟩) hb).trans h.c1, (k.cell (p := ⟨b, 2, none⟩) hb).trans h.c2, (k.frozen (p := ⟨b, 1, none⟩) hb).trans h.f1, (k.frozen (p := ⟨b, 2, none⟩) hb).trans h.f2, Ls.upto h.bs k hv, h.nb, h.le⟩
theorem Kp.drewN {F : Nat → Prop} {a w : World} (h : Kp F a w) (k : Nat) : Kp F a (w.drewN k) := ⟨h.os, h.tape, h.output, h.size, h.block⟩
/-- Where it stands. -/
def Sat (s : Sta) (l : List Nat) (p e : Nat) : Prop := match s with
  | .ok r => e = 0 ∧ l.drop p = r
  | .error x => e = x ∧ 0 < x ∧ x < 1000
/-- The document's reader over these bytes, in such a state; v is the slice of its bytes. -/
def Rr (b : Nat) (l : List Nat) (v : Value) (s : Sta) (w : World) : Prop := ∃ p e : Nat, R0 b l v p e w ∧ Sat s l p e
theorem Rr.later {b : Nat} {l : List Nat} {v : Value} {s : Sta} {w w' : World} (h : Rr b l v s w) (k : Below w.heap.size w w') : Rr b l v s w' := by
  obtain ⟨p, e, h1, h2⟩ := h
  exact ⟨p, e, h1.later k, h2⟩
theorem Rr.kept {b : Nat} {l : List Nat} {v : Value} {s : Sta} {w w' : World} (h : Rr b l v s w) {F : Nat → Prop} (k : Kp F w w') (hb : ¬ F b) (hv : Nf F v) : Rr b l v s w' := by
  obtain ⟨p, e, h1, h2⟩ := h
  exact ⟨p, e, h1.kept k hb hv, h2⟩
theorem Rr.upto {B b : Nat} {l : List Nat} {v : Value} {s : Sta} {w w' : World} (h : Rr b l v s w) (k : Below B w w') (hb : b < B) (hv : Lo B v) : Rr b l v s w' := by
  obtain ⟨p, e, h1, h2⟩ := h
  exact ⟨p, e, h1.upto k hb hv, h2⟩
theorem kset {b i : Nat} {w wr : World} (h : Kp (· = b) w wr) (u : Value) : Kp (· = b) w (wr.setCell ⟨b, i, none⟩ u) := h.set (Or.inl rfl) u
set_option maxRecDepth 100000 in
set_option maxHeartbeats 4000000 in
theorem refFail (b : Nat) (x : Nat) (w : World) (hc : w.cell? ⟨b, 2, none⟩ = some (.int .i64 0)) (hf : w.frozen? ⟨b, 2, none⟩ = false) :
    Calls Tryd.prog 58 #[.pointer (some ⟨b, 0, none⟩), .int .i64 (x : Int)] w fun e w' => e = .returned (.tuple #[]) ∧ w' = w.setCell ⟨b, 2, none⟩ (.int .i64 (x : Int)) := by
  go_enter Tryd.func58, Tryd.ntmps58
  go_wp2
  go_end0
  exact ⟨rfl, rfl⟩
theorem rd_nil (k a : Nat) : rdU [] k a = .error 120 := rfl
theorem rd_form {c k a : Nat} {t : List Nat} (h : k = 9 ∧ 1 < c) : rdU (c :: t) k a = .error 121 := by unfold rdU; rw [if_pos h]
theorem rd_more {c k a : Nat} {t : List Nat} (h : ¬ (k = 9 ∧ 1 < c)) (h2 : ¬ c < 128) : rdU (c :: t) k a = rdU t (k + 1) (a + c % 128 * 2 ^ (7 * k)) := by
  conv => lhs; unfold rdU
  rw [if_neg h, if_neg h2]
theorem rd_long {c k a : Nat} {t : List Nat} (h : ¬ (k = 9 ∧ 1 < c)) (h2 : c < 128) (h3 : c = 0 ∧ 0 < k) : rdU (c :: t) k a = .error 121 := by unfold rdU; rw [if_neg h, if_pos h2, if_pos h3]
theorem rd_last {c k a : Nat} {t : List Nat} (h : ¬ (k = 9 ∧ 1 < c)) (h2 : c < 128) (h3 : ¬ (c = 0 ∧ 0 < k)) : rdU (c :: t) k a = .ok (a + c % 128 * 2 ^ (7 * k), t) := by unfold rdU; rw [if_neg h, if_pos h2, if_neg h3]
end Go.Proofs.YtfcbgkcclganmaaDoor
