/-
  Texts of this proof, joined: DkRef.
-/
import Derived.Test.YthnpdcblfocemaaGreatDoorSP03
import Derived.Laws.OwnMore
import Derived.Maps.AppendAt
set_option linter.unusedVariables false
set_option linter.unusedSimpArgs false
namespace Go.Proofs.YthnpdcblfocemaaGreatDoor
open Go.RowKit

def Tq (w : World) (F : Nat → Prop) (b : Nat) (vB vU x : Value) (t : List Nat) : Prop :=
  Bs w x t ∧ ∀ (a : Addr) (n cap : Nat), x = .slice (some a) n cap → 0 < n → F a.block ∧ a.block ≠ b ∧ vB.ownBlock ≠ some a.block ∧ vU.ownBlock ≠ some a.block
structure Rd5 (w : World) (b : Nat) (vB vU : Value) (cs ds : List Value) (F : Nat → Prop) (s : Dsk) : Prop where
  ok : OkD s
  lt : ∀ k, F k → k < w.heap.size
  fb : F b
  c0 : w.cell? ⟨b, 0, none⟩ = some vB
  c1 : w.cell? ⟨b, 1, none⟩ = some vU
  c2 : w.cell? ⟨b, 2, none⟩ = some (.bool s.ar)
  c3 : w.cell? ⟨b, 3, none⟩ = some (.int .i64 s.lf)
  c4 : w.cell? ⟨b, 4, none⟩ = some (.bool s.dn)
  f0 : ∀ k, k < 5 → w.frozen? ⟨b, k, none⟩ = false
  rB : w.ownsRow 0 30 1 vB s.bl.length cs
  rU : w.ownsRow 0 100 2 vU s.un.length ds
  gB : ∀ g, vB.ownBlock = some g → F g ∧ g ≠ b
  gU : ∀ g, vU.ownBlock = some g → F g ∧ g ≠ b
  gBU : ∀ g, vB.ownBlock = some g → vU.ownBlock ≠ some g
  tB : ∀ k, k < s.bl.length → ∃ x, cs[k]? = some x ∧ Tq w F b vB vU x (s.bl.getD k [])
  tU : ∀ k, k < s.un.length → ∃ x, ds[k * 2]? = some (.int .i64 (((s.un.getD k (0, [])).1 : Nat) : Int)) ∧ ds[k * 2 + 1]? = some x ∧ Tq w F b vB vU x (s.un.getD k (0, [])).2
def Bdk (s : Dsk) : Prop := Bd64 s.lf ∧ (s.ar = true → 0 ≤ s.lf)
def RD (w : World) (p : Value) (F : Nat → Prop) (s : Dsk) : Prop := ∃ (b : Nat) (vB vU : Value) (cs ds : List Value), p = .pointer (some ⟨b, 0, none⟩) ∧ Rd5 w b vB vU cs ds F s ∧ Bdk s
theorem hid5 {p : Prop} (h : p) : Hid p := h
theorem bdk_gone {s : Dsk} (h : Bdk s) : Bdk (dGone s) := by
  unfold dGone
  split
  · rename_i q
    have h0 := h.2 q
    have h1 := h.1
    unfold Bd64 at h1
    split
    · exact h
    · rename_i q2
      exact ⟨⟨by show _ ≤ s.lf - 1; omega, by show s.lf - 1 ≤ _; omega⟩, fun _ => by show 0 ≤ s.lf - 1; omega⟩
  · exact h
theorem own_block16 {w w' : World} {B : Nat} {e : TypeId} {s : Nat} {v : Value} {n : Nat} {xs : List Value} (h : w.ownsRow B e s v n xs) (k : ∀ g, v.ownBlock = some g → w'.heap[g]? = w.heap[g]?) : w'.ownsRow B e s v n xs := by
  refine ⟨h.1, ?_⟩
  rcases h.2 with h0 | ⟨g, cap, cur, hv, hg, hh, r⟩
  · exact Or.inl h0
  · exact Or.inr ⟨g, cap, cur, hv, hg, (k g (by rw [hv]; rfl)).trans hh, r⟩
theorem bs_blk {w w' : World} {x : Value} {t : List Nat} (h : Bs w x t) (k : ∀ (a : Addr) (n cap : Nat), x = .slice (some a) n cap → 0 < n → w'.heap[a.block]? = w.heap[a.block]?) : Bs w' x t := by
  obtain ⟨adr, cap, b, q, rfl, h2, h3, h4, h5⟩ := h
  refine ⟨adr, cap, b, q, rfl, h2, h3, h4, fun i hi => ?_⟩
  have e := h4 (by omega)
  subst e
  exact (World.cell?_of_block (w := w) (a := ⟨b, q + i, none⟩) (k ⟨b, q, none⟩ _ cap rfl (by omega))).trans (h5 i hi)
theorem Tq.kept {w w' : World} {F : Nat → Prop} {b : Nat} {vB vU x : Value} {t : List Nat} (h : Tq w F b vB vU x t) (k : ∀ k, F k → k ≠ b → vB.ownBlock ≠ some k → vU.ownBlock ≠ some k → w'.heap[k]? = w.heap[k]?) : Tq w' F b vB vU x t :=
  ⟨bs_blk h.1 (fun a n c e hn => by obtain ⟨q1, q2, q3, q4⟩ := h.2 a n c e hn; exact k _ q1 q2 q3 q4), h.2⟩
theorem Tq.up {w : World} {F F' : Nat → Prop} {b : Nat} {vB vU x : Value} {t : List Nat} (h : Tq w F b vB vU x t) (k : ∀ k, F k → F' k) : Tq w F' b vB vU x t :=
  ⟨h.1, fun a n c e hn => by obtain ⟨q1, q2⟩ := h.2 a n c e hn; exact ⟨k _ q1, q2⟩⟩
theorem cell_blk5 {w w' : World} {a : Addr} {v : Value} (hb : w'.heap[a.block]? = w.heap[a.block]?) (h : w.cell? a = some v) : w'.cell? a = some v := (World.cell?_of_block hb).trans h
theorem frz_blk5 {w w' : World} {a : Addr} (hb : w'.heap[a.block]? = w.heap[a.block]?) (h : w.frozen? a = false) : w'.frozen? a = false := (World.frozen?_of_block hb).trans h
theorem Rd5.kept {w w' : World} {b : Nat} {vB vU : Value} {cs ds : List Value} {F : Nat → Prop} {s : Dsk} (h : Rd5 w b vB vU cs ds F s) (k : ∀ k, F k → w'.heap[k]? = w.heap[k]?) (hs : w.heap.size ≤ w'.heap.size) : Rd5 w' b vB vU cs ds F s :=
  ⟨h.ok, fun i hi => Nat.lt_of_lt_of_le (h.lt i hi) hs, h.fb, cell_blk5 (k b h.fb) h.c0, cell_blk5 (k b h.fb) h.c1, cell_blk5 (k b h.fb) h.c2, cell_blk5 (k b h.fb) h.c3, cell_blk5 (k b h.fb) h.c4, fun i hi => frz_blk5 (k b h.fb) (h.f0 i hi), own_block16 h.rB (fun g hg => k g (h.gB g hg).1), own_block16 h.rU (fun g hg => k g (h.gU g hg).1), h.gB, h.gU, h.gBU,
    fun i hi => by obtain ⟨x, e, t⟩ := h.tB i hi; exact ⟨x, e, t.kept (fun k' q _ _ _ => k k' q)⟩, fun i hi => by obtain ⟨x, e, e2, t⟩ := h.tU i hi; exact ⟨x, e, e2, t.kept (fun k' q _ _ _ => k k' q)⟩⟩
theorem Rd5.later {w w' : World} {b : Nat} {vB vU : Value} {cs ds : List Value} {F : Nat → Prop} {s : Dsk} (h : Rd5 w b vB vU cs ds F s) (k : Below w.heap.size w w') : Rd5 w' b vB vU cs ds F s := h.kept (fun i hi => k.block i (h.lt i hi)) k.size
theorem Rd5.sB {w : World} {b : Nat} {vB vU : Value} {cs ds : List Value} {F : Nat → Prop} {s : Dsk} (h : Rd5 w b vB vU cs ds F s) : ∃ ad cap, vB = .slice ad s.bl.length cap := own_sl h.rB
theorem Rd5.sU {w : World} {b : Nat} {vB vU : Value} {cs ds : List Value} {F : Nat → Prop} {s : Dsk} (h : Rd5 w b vB vU cs ds F s) : ∃ ad cap, vU = .slice ad s.un.length cap := own_sl h.rU
theorem RD.kept {w w' : World} {p : Value} {F : Nat → Prop} {s : Dsk} (h : RD w p F s) (k : ∀ k, F k → w'.heap[k]? = w.heap[k]?) (hs : w.heap.size ≤ w'.heap.size) : RD w' p F s := by
  obtain ⟨b, vB, vU, cs, ds, e, h, hb⟩ := h
  exact ⟨b, vB, vU, cs, ds, e, h.kept k hs, hb⟩
theorem RD.later {w w' : World} {p : Value} {F : Nat → Prop} {s : Dsk} (h : RD w p F s) (k : Below w.heap.size w w') : RD w' p F s := by
  obtain ⟨b, vB, vU, cs, ds, e, h, hb⟩ := h
  exact ⟨b, vB, vU, cs, ds, e, h.later k, hb⟩
theorem RD.lt {w : World} {p : Value} {F : Nat → Prop} {s : Dsk} (h : RD w p F s) : ∀ k, F k → k < w.heap.size := by
  obtain ⟨b, vB, vU, cs, ds, e, h, hb⟩ := h
  exact h.lt
theorem RD.ok {w : World} {p : Value} {F : Nat → Prop} {s : Dsk} (h : RD w p F s) : OkD s := by
  obtain ⟨b, vB, vU, cs, ds, e, h, hb⟩ := h
  exact h.ok
theorem far5 {w : World} {b j k : Nat} {u v : Value} (h : w.cell? ⟨b, k, none⟩ = some v) (hjk : j ≠ k) : (w.setCell ⟨b, j, none⟩ u).cell? ⟨b, k, none⟩ = some v :=
  (World.cell?_setCell_other _ _ _ _ (by intro e; injection e with _ e; exact hjk e)).trans h
theorem same5 {w : World} {b j : Nat} {u v : Value} (h : w.cell? ⟨b, j, none⟩ = some v) : (w.setCell ⟨b, j, none⟩ u).cell? ⟨b, j, none⟩ = some u := World.cell?_setCell_same' _ _ _ (by rw [h]; rfl)
theorem out5 {w : World} {b j : Nat} {u : Value} {k : Nat} (h : k ≠ b) : (w.setCell ⟨b, j, none⟩ u).heap[k]? = w.heap[k]? := Below.heap_setCell _ _ _ _ (fun e => h e)
theorem Rd5.lf {w : World} {b : Nat} {vB vU : Value} {cs ds : List Value} {F : Nat → Prop} {s : Dsk} (h : Rd5 w b vB vU cs ds F s) (x : Int) : Rd5 (w.setCell ⟨b, 3, none⟩ (.int .i64 x)) b vB vU cs ds F { s with lf := x } :=
  ⟨⟨h.ok.bl, h.ok.un⟩, fun i hi => by rw [World.size_setCell]; exact h.lt i hi, h.fb, far5 h.c0 (by omega), far5 h.c1 (by omega), far5 h.c2 (by omega), same5 h.c3, far5 h.c4 (by omega), fun i hi => by rw [World.frozen?_setCell]; exact h.f0 i hi, own_block16 h.rB (fun g hg => out5 (h.gB g hg).2), own_block16 h.rU (fun g hg => out5 (h.gU g hg).2), h.gB, h.gU, h.gBU,
    fun i hi => by obtain ⟨x, e, t⟩ := h.tB i hi; exact ⟨x, e, t.kept (fun k q q2 _ _ => out5 q2)⟩, fun i hi => by obtain ⟨x, e, e2, t⟩ := h.tU i hi; exact ⟨x, e, e2, t.kept (fun k q q2 _ _ => out5 q2)⟩⟩
theorem Rd5.ar {w : World} {b : Nat} {vB vU : Value} {cs ds : List Value} {F : Nat → Prop} {s : Dsk} (h : Rd5 w b vB vU cs ds F s) (x : Bool) : Rd5 (w.setCell ⟨b, 2, none⟩ (.bool x)) b vB vU cs ds F { s with ar := x } :=
  ⟨⟨h.ok.bl, h.ok.un⟩, fun i hi => by rw [World.size_setCell]; exact h.lt i hi, h.fb, far5 h.c0 (by omega), far5 h.c1 (by omega), same5 h.c2, far5 h.c3 (by omega), far5 h.c4 (by omega), fun i hi => by rw [World.frozen?_setCell]; exact h.f0 i hi, own_block16 h.rB (fun g hg => out5 (h.gB g hg).2), own_block16 h.rU (fun g hg => out5 (h.gU g hg).2), h.gB, h.gU, h.gBU,
    fun i hi => by obtain ⟨x, e, t⟩ := h.tB i hi; exact ⟨x, e, t.kept (fun k q q2 _ _ => out5 q2)⟩, fun i hi => by obtain ⟨x, e, e2, t⟩ := h.tU i hi; exact ⟨x, e, e2, t.kept (fun k q q2 _ _ => out5 q2)⟩⟩
theorem Rd5.dn {w : World} {b : Nat} {vB vU : Value} {cs ds : List Value} {F : Nat → Prop} {s : Dsk} (h : Rd5 w b vB vU cs ds F s) (x : Bool) : Rd5 (w.setCell ⟨b, 4, none⟩ (.bool x)) b vB vU cs ds F { s with dn := x } :=
  ⟨⟨h.ok.bl, h.ok.un⟩, fun i hi => by rw [World.size_setCell]; exact h.lt i hi, h.fb, far5 h.c0 (by omega), far5 h.c1 (by omega), far5 h.c2 (by omega), far5 h.c3 (by omega), same5 h.c4, fun i hi => by rw [World.frozen?_setCell]; exact h.f0 i hi, own_block16 h.rB (fun g hg => out5 (h.gB g hg).2), own_block16 h.rU (fun g hg => out5 (h.gU g hg).2), h.gB, h.gU, h.gBU,
    fun i hi => by obtain ⟨x, e, t⟩ := h.tB i hi; exact ⟨x, e, t.kept (fun k q q2 _ _ => out5 q2)⟩, fun i hi => by obtain ⟨x, e, e2, t⟩ := h.tU i hi; exact ⟨x, e, e2, t.kept (fun k q q2 _ _ => out5 q2)⟩⟩
theorem Rd5.nil {w : World} {b : Nat} {vB vU : Value} {cs ds : List Value} {F : Nat → Prop} {s : Dsk} (h : Rd5 w b vB vU cs ds F s) : Rd5 (w.setCell ⟨b, 1, none⟩ (.slice none 0 0)) b vB (.slice none 0 0) cs [] F { s with un := [] } :=
  ⟨⟨h.ok.bl, fun u hu => by cases hu⟩, fun i hi => by rw [World.size_setCell]; exact h.lt i hi, h.fb, far5 h.c0 (by omega), same5 h.c1, far5 h.c2 (by omega), far5 h.c3 (by omega), far5 h.c4 (by omega), fun i hi => by rw [World.frozen?_setCell]; exact h.f0 i hi, own_block16 h.rB (fun g hg => out5 (h.gB g hg).2), World.ownsRow_nil _ _ _ _, h.gB, fun g hg => (by cases hg), fun g hg q => (by cases q),
    (fun i hi => by
      obtain ⟨x, e, t⟩ := h.tB i hi
      exact ⟨x, e, bs_blk t.1 (fun a n c e hn => out5 (t.2 a n c e hn).2.1), fun a n c e hn => by obtain ⟨q1, q2, q3, q4⟩ := t.2 a n c e hn; exact ⟨q1, q2, q3, fun q => by cases q⟩⟩), fun i hi => (by simp at hi)⟩
theorem Rd5.put {w : World} {b g n cap : Nat} {vU : Value} {cs ds : List Value} {F : Nat → Prop} {s : Dsk} (h : Rd5 w b (.slice (some ⟨g, 0, none⟩) n cap) vU cs ds F s) (k : Nat) (x : Value) (t : List Nat) (hk : k < s.bl.length) (ht : okb t) (hx : Tq w F b (.slice (some ⟨g, 0, none⟩) n cap) vU x t) : Rd5 (w.setCell ⟨g, k, none⟩ x) b (.slice (some ⟨g, 0, none⟩) n cap) vU (cs.set k x) ds F { s with bl := s.bl.set k t } := by
  have hgb := h.gB g rfl
  have hn : n = s.bl.length := by obtain ⟨ad, c, e⟩ := h.sB; injection e
  have hrow := h.rB
  rw [← hn] at hrow
  have hst := (hrow.stored k x).1
  have hcl : cs.length = s.bl.length := by have := h.rB.1; omega
  have o5 : ∀ j, j ≠ g → (w.setCell ⟨g, k, none⟩ x).heap[j]? = w.heap[j]? := fun j hj => out5 hj
  refine ⟨⟨fun c hc => ?_, fun u hu => by rw [List.length_set]; exact h.ok.un u hu⟩, fun i hi => by rw [World.size_setCell]; exact h.lt i hi, h.fb, cell_blk5 (o5 b (fun e => hgb.2 e.symm)) h.c0, cell_blk5 (o5 b (fun e => hgb.2 e.symm)) h.c1, cell_blk5 (o5 b (fun e => hgb.2 e.symm)) h.c2, cell_blk5 (o5 b (fun e => hgb.2 e.symm)) h.c3, cell_blk5 (o5 b (fun e => hgb.2 e.symm)) h.c4, fun i hi => frz_blk5 (o5 b (fun e => hgb.2 e.symm)) (h.f0 i hi), ?_, own_block16 h.rU (fun j hj => o5 j (fun e => h.gBU g rfl (by rw [← e]; exact hj))), h.gB, h.gU, h.gBU, fun i hi => ?_, fun i hi => ?_⟩
  · rcases List.mem_or_eq_of_mem_set hc with q | q
    · exact h.ok.bl c q
    · rw [q]; exact ht
  · show World.ownsRow _ _ _ _ _ (s.bl.set k t).length _
    rw [List.length_set, ← hn]
    exact hst
  · have hi2 : i < s.bl.length := by rw [List.length_set] at hi; exact hi
    show ∃ x_1, (cs.set k x)[i]? = some x_1 ∧ Tq _ F b _ vU x_1 ((s.bl.set k t).getD i [])
    by_cases e : i = k
    · subst e
      refine ⟨x, by rw [List.getElem?_set_self (by omega)], ?_⟩
      have e2 : (s.bl.set i t).getD i [] = t := by simp [List.getD, List.getElem?_set, hk]
      rw [e2]
      exact hx.kept (fun j _ _ q _ => o5 j (fun e => q (by rw [e]; rfl)))
    · obtain ⟨y, e1, ty⟩ := h.tB i hi2
      refine ⟨y, by rw [List.getElem?_set_ne (fun q => e q.symm)]; exact e1, ?_⟩
      have e2 : (s.bl.set k t).getD i [] = s.bl.getD i [] := by rw [List.getD_eq_getElem?_getD, List.getElem?_set_ne (fun q => e q.symm), ← List.getD_eq_getElem?_getD]
      rw [e2]
      exact ty.kept (fun j _ _ q _ => o5 j (fun e => q (by rw [e]; rfl)))
  · obtain ⟨y, e1, e2, ty⟩ := h.tU i hi
    exact ⟨y, e1, e2, ty.kept (fun j _ _ q _ => o5 j (fun e => q (by rw [e]; rfl)))⟩
theorem Rd5.add {w w1 w2 : World} {b : Nat} {vB vU vU' x : Value} {cs ds : List Value} {F : Nat → Prop} {s : Dsk} (h : Rd5 w b vB vU cs ds F s) (k1 : Below w.heap.size w w1) (i : Nat) (t : List Nat) (hx : Bs w1 x t) (hO : Ow w.heap.size x) (hi : i < s.bl.length) (ht : okb t) (o : Obj)
    (hown : w2.ownsRow 0 100 2 vU' (s.un.length + 1) (ds ++ [.int .i64 (i : Int), x])) (hg : (w1.alloc o).grownBy w2 vU.ownBlock) (hat : vU'.ownBlock = vU.ownBlock ∨ vU'.ownBlock = some (w1.alloc o).heap.size) :
    Rd5 (w2.setCell ⟨b, 1, none⟩ vU') b vB vU' cs (ds ++ [.int .i64 (i : Int), x]) (fun k => F k ∨ (w.heap.size ≤ k ∧ k < w2.heap.size)) { s with un := s.un ++ [(i, t)] } ∧ Kp F w (w2.setCell ⟨b, 1, none⟩ vU') := by
  have hs1 := k1.size
  have hs2 := hg.size
  rw [World.size_alloc] at hs2
  have hbl := h.lt b h.fb
  have hol : ∀ g, vU.ownBlock = some g → g < w.heap.size := fun g q => (h.rU.lt g q).2
  have hbl' : ∀ g, vB.ownBlock = some g → g < w.heap.size := fun g q => (h.rB.lt g q).2
  have hnl : ∀ g, vU'.ownBlock = some g → g < w2.heap.size := fun g q => (hown.lt g q).2
  have hnew : ∀ g, vU'.ownBlock = some g → vU.ownBlock = some g ∨ w1.heap.size < g := fun g q => by
    rcases hat with e | e
    · exact Or.inl (e.symm.trans q)
    · rw [e, World.size_alloc] at q
      have := Option.some.inj q
      exact Or.inr (by omega)
  -- blocks of w1 that aren't the list's
  have k2 : ∀ k, k < w1.heap.size → vU.ownBlock ≠ some k → w2.heap[k]? = w1.heap[k]? := fun k hk hn => by
    rw [hg.block k (by rw [World.size_alloc]; omega) (fun e => hn e.symm), Below.heap_alloc _ _ _ hk]
  have k3 : ∀ k, k < w.heap.size → vU.ownBlock ≠ some k → w2.heap[k]? = w.heap[k]? := fun k hk hn => (k2 k (by omega) hn).trans (k1.block k hk)
  have hub : vU.ownBlock ≠ some b := fun e => (h.gU b e).2 rfl
  have hub' : vU'.ownBlock ≠ some b := fun e => by
    rcases hnew b e with q | q
    · exact hub q
    · omega
  have c0 := cell_blk5 (a := ⟨b, 0, none⟩) (k3 b hbl hub) h.c0
  have c1 := cell_blk5 (a := ⟨b, 1, none⟩) (k3 b hbl hub) h.c1
  have c2 := cell_blk5 (a := ⟨b, 2, none⟩) (k3 b hbl hub) h.c2
  have c3 := cell_blk5 (a := ⟨b, 3, none⟩) (k3 b hbl hub) h.c3
  have c4 := cell_blk5 (a := ⟨b, 4, none⟩) (k3 b hbl hub) h.c4
  have told : ∀ (y : Value) (l : List Nat), Tq w F b vB vU y l → Tq (w2.setCell ⟨b, 1, none⟩ vU') (fun k => F k ∨ (w.heap.size ≤ k ∧ k < w2.heap.size)) b vB vU' y l := fun y l ty => by
    refine ⟨bs_blk ty.1 (fun a n c e hn => ?_), fun a n c e hn => ?_⟩
    · obtain ⟨q1, q2, q3, q4⟩ := ty.2 a n c e hn
      exact (out5 q2).trans (k3 _ (h.lt _ q1) q4)
    · obtain ⟨q1, q2, q3, q4⟩ := ty.2 a n c e hn
      refine ⟨Or.inl q1, q2, q3, fun e2 => ?_⟩
      have := h.lt _ q1
      rcases hnew _ e2 with q | q
      · exact q4 q
      · omega
  have tnew : Tq (w2.setCell ⟨b, 1, none⟩ vU') (fun k => F k ∨ (w.heap.size ≤ k ∧ k < w2.heap.size)) b vB vU' x t := by
    have hlo := Ls.lo hx
    refine ⟨bs_blk hx (fun a n c e hn => ?_), fun a n c e hn => ?_⟩
    · have q1 := hO a n c e hn
      have q2 := hlo a n c e hn
      exact (out5 (by omega)).trans (k2 _ q2 (fun e2 => by have := hol _ e2; omega))
    · have q1 := hO a n c e hn
      have q2 := hlo a n c e hn
      refine ⟨Or.inr ⟨q1, by omega⟩, by omega, fun e2 => by have := hbl' _ e2; omega, fun e2 => ?_⟩
      rcases hnew _ e2 with q | q
      · have := hol _ q; omega
      · omega
  have hdl : ds.length = s.un.length * 2 := h.rU.1
  refine ⟨⟨⟨h.ok.bl, fun u hu => ?_⟩, fun k hk => ?_, Or.inl h.fb, far5 c0 (by omega), same5 c1, far5 c2 (by omega), far5 c3 (by omega), far5 c4 (by omega), fun j hj => ?_, ?_, ?_, fun g hg' => ⟨Or.inl (h.gB g hg').1, (h.gB g hg').2⟩, fun g hg' => ?_, fun g hg' e => ?_, fun j hj => ?_, fun j hj => ?_⟩, ?_⟩
  · rcases List.mem_append.1 hu with q | q
    · exact h.ok.un u q
    · obtain rfl : u = (i, t) := by simpa using q
      exact ⟨hi, ht⟩
  · rw [World.size_setCell]
    rcases hk with q | q
    · have := h.lt k q; omega
    · exact q.2
  · rw [World.frozen?_setCell]
    exact frz_blk5 (a := ⟨b, j, none⟩) (k3 b hbl hub) (h.f0 j hj)
  · exact own_block16 h.rB (fun g hg' => (out5 (h.gB g hg').2).trans (k3 g (hbl' g hg') (h.gBU g hg')))
  · show World.ownsRow _ _ _ _ _ (s.un ++ [(i, t)]).length _
    rw [List.length_append]
    exact own_block16 hown (fun g hg' => out5 (fun e => hub' (by rw [← e]; exact hg')))
  · rcases hnew g hg' with q | q
    · exact ⟨Or.inl (h.gU g q).1, (h.gU g q).2⟩
    · exact ⟨Or.inr ⟨by omega, hnl g hg'⟩, by omega⟩
  · rcases hnew g e with q | q
    · exact h.gBU g hg' q
    · have := hbl' g hg'; omega
  · obtain ⟨y, e1, ty⟩ := h.tB j hj
    exact ⟨y, e1, told y _ ty⟩
  · have hj2 : j < s.un.length + 1 := by
      have e : (s.un ++ [(i, t)]).length = s.un.length + 1 := by rw [List.length_append]; rfl
      rw [← e]; exact hj
    show ∃ x_1, (ds ++ [.int .i64 (i : Int), x])[j * 2]? = some (.int .i64 ((((s.un ++ [(i, t)]).getD j (0, [])).1 : Nat) : Int)) ∧ (ds ++ [.int .i64 (i : Int), x])[j * 2 + 1]? = some x_1 ∧ Tq _ _ b vB vU' x_1 ((s.un ++ [(i, t)]).getD j (0, [])).2
    rcases Nat.lt_or_ge j s.un.length with q | q
    · obtain ⟨y, e1, e2, ty⟩ := h.tU j q
      have e3 : (s.un ++ [(i, t)]).getD j (0, []) = s.un.getD j (0, []) := by simp [List.getD, List.getElem?_append, q]
      rw [e3, List.getElem?_append_left (by omega), List.getElem?_append_left (by omega)]
      exact ⟨y, e1, e2, told y _ ty⟩
    · obtain rfl : j = s.un.length := by omega
      have e3 : (s.un ++ [(i, t)]).getD s.un.length (0, []) = (i, t) := by simp [List.getD]
      rw [e3, List.getElem?_append_right (by omega), List.getElem?_append_right (by omega), hdl, Nat.sub_self, show s.un.length * 2 + 1 - s.un.length * 2 = 1 by omega]
      exact ⟨x, rfl, rfl, tnew⟩
  · refine ⟨?_, ?_, ?_, by rw [World.size_setCell]; omega, fun k hk hn => ?_⟩
    · exact (hg.os.trans (by rfl)).trans k1.os
    · exact (hg.tape.trans (by rfl)).trans k1.tape
    · exact (hg.output.trans (by rfl)).trans k1.output
    · exact (out5 (fun e => hn (by rw [e]; exact h.fb))).trans (k3 k hk (fun e => hn (h.gU k e).1))
end Go.Proofs.YthnpdcblfocemaaGreatDoor
