/-
  The contract of adamw's Step, with a unit or with none.
-/
import Derived.Test.YtcdehbhdloaieaaGreatDoorAWalkD
import Derived.Deep.RegionHeld3
set_option linter.unusedVariables false
set_option linter.unusedSimpArgs false
namespace Go.Proofs.YtcdehbhdloaieaaGreatDoor
open Go.RowKit

/-- A step's twelve cells. -/
structure Q12 (b : Nat) (x0 x1 x2 x3 x4 x5 x6 x7 x8 x9 x10 x11 : Value) (w : World) : Prop where
  c0 : w.cell? ⟨b, 0, none⟩ = some x0
  c1 : w.cell? ⟨b, 1, none⟩ = some x1
  c2 : w.cell? ⟨b, 2, none⟩ = some x2
  c3 : w.cell? ⟨b, 3, none⟩ = some x3
  c4 : w.cell? ⟨b, 4, none⟩ = some x4
  c5 : w.cell? ⟨b, 5, none⟩ = some x5
  c6 : w.cell? ⟨b, 6, none⟩ = some x6
  c7 : w.cell? ⟨b, 7, none⟩ = some x7
  c8 : w.cell? ⟨b, 8, none⟩ = some x8
  c9 : w.cell? ⟨b, 9, none⟩ = some x9
  c10 : w.cell? ⟨b, 10, none⟩ = some x10
  c11 : w.cell? ⟨b, 11, none⟩ = some x11
theorem Q12.blk {b : Nat} {x0 x1 x2 x3 x4 x5 x6 x7 x8 x9 x10 x11 : Value} {w w' : World} (h : Q12 b x0 x1 x2 x3 x4 x5 x6 x7 x8 x9 x10 x11 w) (e : w'.heap[b]? = w.heap[b]?) : Q12 b x0 x1 x2 x3 x4 x5 x6 x7 x8 x9 x10 x11 w' :=
  ⟨(World.cell?_of_block (w := w) e).trans h.c0, (World.cell?_of_block (w := w) e).trans h.c1, (World.cell?_of_block (w := w) e).trans h.c2, (World.cell?_of_block (w := w) e).trans h.c3, (World.cell?_of_block (w := w) e).trans h.c4, (World.cell?_of_block (w := w) e).trans h.c5, (World.cell?_of_block (w := w) e).trans h.c6, (World.cell?_of_block (w := w) e).trans h.c7, (World.cell?_of_block (w := w) e).trans h.c8, (World.cell?_of_block (w := w) e).trans h.c9, (World.cell?_of_block (w := w) e).trans h.c10, (World.cell?_of_block (w := w) e).trans h.c11⟩
theorem Q12.lt {b : Nat} {x0 x1 x2 x3 x4 x5 x6 x7 x8 x9 x10 x11 : Value} {w : World} (h : Q12 b x0 x1 x2 x3 x4 x5 x6 x7 x8 x9 x10 x11 w) : b < w.heap.size := World.block_lt_of_cell? _ _ h.c0
theorem Q12.later {b : Nat} {x0 x1 x2 x3 x4 x5 x6 x7 x8 x9 x10 x11 : Value} {w w' : World} (h : Q12 b x0 x1 x2 x3 x4 x5 x6 x7 x8 x9 x10 x11 w) (hb : Below w.heap.size w w') : Q12 b x0 x1 x2 x3 x4 x5 x6 x7 x8 x9 x10 x11 w' := h.blk (hb.block b h.lt)
theorem Q12.ux {b : Nat} {x0 x1 x2 x3 x4 x5 x6 x7 x8 x9 x10 x11 : Value} {w w' : World} {p : Option Addr} {c : Int} (h : Q12 b x0 x1 x2 x3 x4 x5 x6 x7 x8 x9 x10 x11 w) (hn : Nu b p) (hU : Ux p c w w') : Q12 b x0 x1 x2 x3 x4 x5 x6 x7 x8 x9 x10 x11 w' := h.blk (hU.blk h.lt hn)
theorem Q12.far {b : Nat} {x0 x1 x2 x3 x4 x5 x6 x7 x8 x9 x10 x11 : Value} {w : World} (h : Q12 b x0 x1 x2 x3 x4 x5 x6 x7 x8 x9 x10 x11 w) (a : Addr) (u : Value) (ha : a.block ≠ b) : Q12 b x0 x1 x2 x3 x4 x5 x6 x7 x8 x9 x10 x11 (w.setCell a u) := h.blk (Below.heap_setCell _ _ _ _ (fun e => ha e.symm))
theorem Q12.new (w : World) (x0 x1 x2 x3 x4 x5 x6 x7 x8 x9 x10 x11 : Value) (t : TypeId) : Q12 w.heap.size x0 x1 x2 x3 x4 x5 x6 x7 x8 x9 x10 x11 (w.alloc (.cells #[x0, x1, x2, x3, x4, x5, x6, x7, x8, x9, x10, x11] t)) := ⟨by simp [go_sem], by simp [go_sem], by simp [go_sem], by simp [go_sem], by simp [go_sem], by simp [go_sem], by simp [go_sem], by simp [go_sem], by simp [go_sem], by simp [go_sem], by simp [go_sem], by simp [go_sem]⟩
theorem Rw.ux9 {b n : Nat} {h : Nat → Value} {w w' : World} {p : Option Addr} {c : Int} (r : Rw b n h w) (hn : Nu b p) (hU : Ux p c w w') : Rw b n h w' := r.ux hn hU
theorem Ar.set9e {w : World} {v : Value} {n : Nat} {f : Nat → Int} (h : Ar w v n f) (a : Addr) (u : Value) (hn : Nb v a.block) : Ar (w.setCell a u) v n f := by
  obtain ⟨adr, cap, b, o, e, h1, h2, h3, h4⟩ := h
  refine ⟨adr, cap, b, o, e, h1, h2, h3, fun k hk => ⟨cell_set ?_ (h4 k hk).1, (h4 k hk).2⟩⟩
  have e2 := h3 (by omega)
  subst e2
  exact fun h' => hn ⟨b, o, none⟩ n cap e (by omega) h'.symm
/-- Which blocks a step has to do with. -/
structure D9 (p : Option Addr) (w : World) (h1 h2 hs gN g1 g2 g3 : Nat) (vC : Value) : Prop where
  l1 : w.heap.size ≤ h1
  l2 : w.heap.size ≤ h2
  ls : w.heap.size ≤ hs
  lN : w.heap.size ≤ gN
  lg1 : w.heap.size ≤ g1
  lg2 : w.heap.size ≤ g2
  lg3 : w.heap.size ≤ g3
  u : ∀ b, w.heap.size ≤ b → Nu b p
  g12 : g1 ≠ g2
  g13 : g1 ≠ g3
  g23 : g2 ≠ g3
  o1 : g1 ≠ h1 ∧ g1 ≠ h2 ∧ g1 ≠ hs ∧ g1 ≠ gN
  o2 : g2 ≠ h1 ∧ g2 ≠ h2 ∧ g2 ≠ hs ∧ g2 ≠ gN
  o3 : g3 ≠ h1 ∧ g3 ≠ h2 ∧ g3 ≠ hs ∧ g3 ≠ gN
  cv : Nv vC p
  c1 : Nb vC g1
  c2 : Nb vC g2
  c3 : Nb vC g3
  cN : Nb vC gN
  oN : gN ≠ h1 ∧ gN ≠ h2 ∧ gN ≠ hs
/-- Where a step is in its loop. -/
structure L9 (p : Option Addr) (cc : Int) (w : World) (h1 h2 hs gN g1 g2 g3 : Nat) (Sh : World → Prop) (vM vV vC : Value) (T t1 : Int) (n : Nat) (GC FM FV FY : Nat → Int) (j : Nat) (W : World) : Prop where
  U : Ux p cc w W
  tb : TabAt W
  S : Sh W
  A : Y3 h1 vM vV (.int .i64 T) W
  R : Y3 h2 (.slice none 0 0) (.slice none 0 0) (.int .i64 0) W
  N : Y3 gN (.slice (some ⟨g1, 0, none⟩) n n) (.slice (some ⟨g2, 0, none⟩) n n) (.int .i64 t1) W
  r1 : Rw g1 n (fun k => if k < j then .int .i64 (FM k) else .int .i64 0) W
  r2 : Rw g2 n (fun k => if k < j then .int .i64 (FV k) else .int .i64 0) W
  r3 : Rw g3 n (fun k => if k < j then .int .i64 (FY k) else .int .i64 0) W
  C : Ar W vC n GC
theorem L9.later {p : Option Addr} {cc : Int} {w : World} {h1 h2 hs gN g1 g2 g3 : Nat} {Sh : World → Prop} {vM vV vC : Value} {T t1 : Int} {n : Nat} {GC FM FV FY : Nat → Int} {j : Nat} {W : World} {W' : World} (h : L9 p cc w h1 h2 hs gN g1 g2 g3 Sh vM vV vC T t1 n GC FM FV FY j W) (hb : Below W.heap.size W W') (hS : Sh W') : L9 p cc w h1 h2 hs gN g1 g2 g3 Sh vM vV vC T t1 n GC FM FV FY j W' :=
  ⟨h.U.later hb, h.tb.later hb, hS, h.A.later hb, h.R.later hb, h.N.later hb, h.r1.later hb, h.r2.later hb, h.r3.later hb, h.C.later hb⟩
theorem L9.ux {p : Option Addr} {cc : Int} {w : World} {h1 h2 hs gN g1 g2 g3 : Nat} {Sh : World → Prop} {vM vV vC : Value} {T t1 : Int} {n : Nat} {GC FM FV FY : Nat → Int} {j : Nat} {W : World} {W' : World} {c' : Int} (h : L9 p cc w h1 h2 hs gN g1 g2 g3 Sh vM vV vC T t1 n GC FM FV FY j W) (d : D9 p w h1 h2 hs gN g1 g2 g3 vC) (k : Ux p c' W W') (hS : Sh W') : L9 p c' w h1 h2 hs gN g1 g2 g3 Sh vM vV vC T t1 n GC FM FV FY j W' :=
  ⟨h.U.chain k, h.tb.ux h.U.up k, hS, h.A.ux (d.u _ d.l1) k, h.R.ux (d.u _ d.l2) k, h.N.ux (d.u _ d.lN) k, h.r1.ux (d.u _ d.lg1) k, h.r2.ux (d.u _ d.lg2) k, h.r3.ux (d.u _ d.lg3) k, h.C.ux d.cv k⟩
/-- The table stays where a cell of one's own is written. -/
theorem TabAt.far9 {w w0 : World} (h0 : TabAt w0) (hs : ∀ i, i < w0.heap.size → w.heap[i]? = w0.heap[i]?) : TabAt w := fun j hj => (World.cell?_of_block (w := w0) (hs _ (World.block_lt_of_cell? _ _ (h0 j hj)))).trans (h0 j hj)
theorem TabAt.set9 {w w0 : World} (h : TabAt w) (h0 : TabAt w0) (a : Addr) (u : Value) (ha : w0.heap.size ≤ a.block) : TabAt (w.setCell a u) := fun j hj => by
  have hb := World.block_lt_of_cell? _ _ (h0 j hj)
  exact cell_set (by dsimp only at hb ⊢; omega) (h j hj)
/-- A store into a block that has nothing to do with it. -/
theorem L9.far {p : Option Addr} {cc : Int} {w : World} {h1 h2 hs gN g1 g2 g3 : Nat} {Sh : World → Prop} {vM vV vC : Value} {T t1 : Int} {n : Nat} {GC FM FV FY : Nat → Int} {j : Nat} {W : World} (h : L9 p cc w h1 h2 hs gN g1 g2 g3 Sh vM vV vC T t1 n GC FM FV FY j W) (h0 : TabAt w) (a : Addr) (u : Value) (ha : w.heap.size ≤ a.block) (hn : a.block ≠ h1 ∧ a.block ≠ h2 ∧ a.block ≠ gN ∧ a.block ≠ g1 ∧ a.block ≠ g2 ∧ a.block ≠ g3) (hc : Nb vC a.block) (hS : Sh (W.setCell a u)) : L9 p cc w h1 h2 hs gN g1 g2 g3 Sh vM vV vC T t1 n GC FM FV FY j (W.setCell a u) :=
  ⟨h.U.far u ha, h.tb.set9 h0 a u ha, hS, h.A.far _ _ hn.1, h.R.far _ _ hn.2.1, h.N.far _ _ hn.2.2.1, h.r1.far _ hn.2.2.2.1, h.r2.far _ hn.2.2.2.2.1, h.r3.far _ hn.2.2.2.2.2, h.C.set9e _ _ hc⟩
theorem row_next9 {g n j : Nat} {F : Nat → Int} {W : World} (r : Rw g n (fun k => if k < j then .int .i64 (F k) else .int .i64 0) W) : Rw g n (fun k => if k < j + 1 then .int .i64 (F k) else .int .i64 0) (W.setCell ⟨g, j, none⟩ (.int .i64 (F j))) :=
  (r.set j (.int .i64 (F j))).congr (fun k hk => by
    by_cases h : k = j
    · subst h
      rw [if_pos rfl, if_pos (by omega)]
    · rw [if_neg h]
      by_cases h2 : k < j
      · rw [if_pos h2, if_pos (by omega)]
      · rw [if_neg h2, if_neg (by omega)])
theorem L9.next {p : Option Addr} {cc : Int} {w : World} {h1 h2 hs gN g1 g2 g3 : Nat} {Sh : World → Prop} {vM vV vC : Value} {T t1 : Int} {n : Nat} {GC FM FV FY : Nat → Int} {j : Nat} {W : World} (h : L9 p cc w h1 h2 hs gN g1 g2 g3 Sh vM vV vC T t1 n GC FM FV FY j W) (d : D9 p w h1 h2 hs gN g1 g2 g3 vC) (h0 : TabAt w) (hS : Sh (((W.setCell ⟨g1, j, none⟩ (.int .i64 (FM j))).setCell ⟨g2, j, none⟩ (.int .i64 (FV j))).setCell ⟨g3, j, none⟩ (.int .i64 (FY j)))) : L9 p cc w h1 h2 hs gN g1 g2 g3 Sh vM vV vC T t1 n GC FM FV FY (j + 1) (((W.setCell ⟨g1, j, none⟩ (.int .i64 (FM j))).setCell ⟨g2, j, none⟩ (.int .i64 (FV j))).setCell ⟨g3, j, none⟩ (.int .i64 (FY j))) where
  U := ((h.U.far (a := ⟨g1, j, none⟩) _ d.lg1).far (a := ⟨g2, j, none⟩) _ d.lg2).far (a := ⟨g3, j, none⟩) _ d.lg3
  tb := ((h.tb.set9 h0 ⟨g1, j, none⟩ _ d.lg1).set9 h0 ⟨g2, j, none⟩ _ d.lg2).set9 h0 ⟨g3, j, none⟩ _ d.lg3
  S := hS
  A := ((h.A.far ⟨g1, j, none⟩ _ d.o1.1).far ⟨g2, j, none⟩ _ d.o2.1).far ⟨g3, j, none⟩ _ d.o3.1
  R := ((h.R.far ⟨g1, j, none⟩ _ d.o1.2.1).far ⟨g2, j, none⟩ _ d.o2.2.1).far ⟨g3, j, none⟩ _ d.o3.2.1
  N := ((h.N.far ⟨g1, j, none⟩ _ d.o1.2.2.2).far ⟨g2, j, none⟩ _ d.o2.2.2.2).far ⟨g3, j, none⟩ _ d.o3.2.2.2
  r1 := ((row_next9 h.r1).far (p := ⟨g2, j, none⟩) _ (fun e => d.g12 e.symm)).far (p := ⟨g3, j, none⟩) _ (fun e => d.g13 e.symm)
  r2 := (row_next9 (h.r2.far (p := ⟨g1, j, none⟩) _ d.g12)).far (p := ⟨g3, j, none⟩) _ (fun e => d.g23 e.symm)
  r3 := row_next9 ((h.r3.far (p := ⟨g1, j, none⟩) _ d.g13).far (p := ⟨g2, j, none⟩) _ d.g23)
  C := ((h.C.set9e ⟨g1, j, none⟩ _ d.c1).set9e ⟨g2, j, none⟩ _ d.c2).set9e ⟨g3, j, none⟩ _ d.c3
/-- A block that was just made. -/
def Fr9b (w : World) (h1 h2 hs gN g1 g2 g3 : Nat) (vC : Value) (b : Nat) : Prop := w.heap.size ≤ b ∧ (b ≠ h1 ∧ b ≠ h2 ∧ b ≠ gN ∧ b ≠ g1 ∧ b ≠ g2 ∧ b ≠ g3) ∧ b ≠ hs ∧ Nb vC b
theorem L9.fresh {p : Option Addr} {cc : Int} {w : World} {h1 h2 hs gN g1 g2 g3 : Nat} {Sh : World → Prop} {vM vV vC : Value} {T t1 : Int} {n : Nat} {GC FM FV FY : Nat → Int} {j : Nat} {W : World} (h : L9 p cc w h1 h2 hs gN g1 g2 g3 Sh vM vV vC T t1 n GC FM FV FY j W) (hs0 : hs < W.heap.size) (hn : 0 < n) : Fr9b w h1 h2 hs gN g1 g2 g3 vC W.heap.size := by
  have q1 := h.A.lt
  have q2 := h.R.lt
  have q3 := h.N.lt
  have q4 := World.block_lt_of_cell? _ _ (h.r1.c 0 hn)
  have q5 := World.block_lt_of_cell? _ _ (h.r2.c 0 hn)
  have q6 := World.block_lt_of_cell? _ _ (h.r3.c 0 hn)
  dsimp only at q4 q5 q6
  exact ⟨h.U.size, ⟨by omega, by omega, by omega, by omega, by omega, by omega⟩, by omega, h.C.nb (Nat.le_refl _)⟩
/-- What a round reads. -/
structure F9 (hs h1 : Nat) (x0 x1 x2 x3 x4 x5 x6 x7 x8 x9 x10 x11 vM vV : Value) (bM oM bV oV bP oP bC oC j : Nat) (m v q g : Int) (w : World) : Prop where
  s0 : w.cell? ⟨hs, 0, none⟩ = some x0
  s1 : w.cell? ⟨hs, 1, none⟩ = some x1
  s2 : w.cell? ⟨hs, 2, none⟩ = some x2
  s3 : w.cell? ⟨hs, 3, none⟩ = some x3
  s4 : w.cell? ⟨hs, 4, none⟩ = some x4
  s5 : w.cell? ⟨hs, 5, none⟩ = some x5
  s6 : w.cell? ⟨hs, 6, none⟩ = some x6
  s7 : w.cell? ⟨hs, 7, none⟩ = some x7
  s8 : w.cell? ⟨hs, 8, none⟩ = some x8
  s9 : w.cell? ⟨hs, 9, none⟩ = some x9
  s10 : w.cell? ⟨hs, 10, none⟩ = some x10
  s11 : w.cell? ⟨hs, 11, none⟩ = some x11
  a0 : w.cell? ⟨h1, 0, none⟩ = some vM
  a1 : w.cell? ⟨h1, 1, none⟩ = some vV
  m : w.cell? ⟨bM, oM + j, none⟩ = some (.int .i64 m)
  v : w.cell? ⟨bV, oV + j, none⟩ = some (.int .i64 v)
  q : w.cell? ⟨bP, oP + j, none⟩ = some (.int .i64 q)
  g : w.cell? ⟨bC, oC + j, none⟩ = some (.int .i64 g)
theorem F9.later {hs h1 : Nat} {x0 x1 x2 x3 x4 x5 x6 x7 x8 x9 x10 x11 vM vV : Value} {bM oM bV oV bP oP bC oC j : Nat} {m v q g : Int} {w w' : World} (h : F9 hs h1 x0 x1 x2 x3 x4 x5 x6 x7 x8 x9 x10 x11 vM vV bM oM bV oV bP oP bC oC j m v q g w) (hb : Below w.heap.size w w') : F9 hs h1 x0 x1 x2 x3 x4 x5 x6 x7 x8 x9 x10 x11 vM vV bM oM bV oV bP oP bC oC j m v q g w' :=
  ⟨cell_later hb h.s0, cell_later hb h.s1, cell_later hb h.s2, cell_later hb h.s3, cell_later hb h.s4, cell_later hb h.s5, cell_later hb h.s6, cell_later hb h.s7, cell_later hb h.s8, cell_later hb h.s9, cell_later hb h.s10, cell_later hb h.s11, cell_later hb h.a0, cell_later hb h.a1, cell_later hb h.m, cell_later hb h.v, cell_later hb h.q, cell_later hb h.g⟩
theorem F9.ux {hs h1 : Nat} {x0 x1 x2 x3 x4 x5 x6 x7 x8 x9 x10 x11 vM vV : Value} {bM oM bV oV bP oP bC oC j : Nat} {m v q g : Int} {w w' : World} {p : Option Addr} {c : Int} (h : F9 hs h1 x0 x1 x2 x3 x4 x5 x6 x7 x8 x9 x10 x11 vM vV bM oM bV oV bP oP bC oC j m v q g w) (hU : Ux p c w w') (hn : Nu hs p ∧ Nu h1 p ∧ Nu bM p ∧ Nu bV p ∧ Nu bP p ∧ Nu bC p) : F9 hs h1 x0 x1 x2 x3 x4 x5 x6 x7 x8 x9 x10 x11 vM vV bM oM bV oV bP oP bC oC j m v q g w' :=
  ⟨hU.cell hn.1 h.s0, hU.cell hn.1 h.s1, hU.cell hn.1 h.s2, hU.cell hn.1 h.s3, hU.cell hn.1 h.s4, hU.cell hn.1 h.s5, hU.cell hn.1 h.s6, hU.cell hn.1 h.s7, hU.cell hn.1 h.s8, hU.cell hn.1 h.s9, hU.cell hn.1 h.s10, hU.cell hn.1 h.s11, hU.cell hn.2.1 h.a0, hU.cell hn.2.1 h.a1, hU.cell hn.2.2.1 h.m, hU.cell hn.2.2.2.1 h.v, hU.cell hn.2.2.2.2.1 h.q, hU.cell hn.2.2.2.2.2 h.g⟩
theorem F9.far {hs h1 : Nat} {x0 x1 x2 x3 x4 x5 x6 x7 x8 x9 x10 x11 vM vV : Value} {bM oM bV oV bP oP bC oC j : Nat} {m v q g : Int} {w : World} (h : F9 hs h1 x0 x1 x2 x3 x4 x5 x6 x7 x8 x9 x10 x11 vM vV bM oM bV oV bP oP bC oC j m v q g w) (a : Addr) (u : Value) (hn : a.block ≠ hs ∧ a.block ≠ h1 ∧ a.block ≠ bM ∧ a.block ≠ bV ∧ a.block ≠ bP ∧ a.block ≠ bC) : F9 hs h1 x0 x1 x2 x3 x4 x5 x6 x7 x8 x9 x10 x11 vM vV bM oM bV oV bP oP bC oC j m v q g (w.setCell a u) :=
  ⟨cell_set hn.1 h.s0, cell_set hn.1 h.s1, cell_set hn.1 h.s2, cell_set hn.1 h.s3, cell_set hn.1 h.s4, cell_set hn.1 h.s5, cell_set hn.1 h.s6, cell_set hn.1 h.s7, cell_set hn.1 h.s8, cell_set hn.1 h.s9, cell_set hn.1 h.s10, cell_set hn.1 h.s11, cell_set hn.2.1 h.a0, cell_set hn.2.1 h.a1, cell_set hn.2.2.1 h.m, cell_set hn.2.2.2.1 h.v, cell_set hn.2.2.2.2.1 h.q, cell_set hn.2.2.2.2.2 h.g⟩
theorem F9.lts {hs h1 : Nat} {x0 x1 x2 x3 x4 x5 x6 x7 x8 x9 x10 x11 vM vV : Value} {bM oM bV oV bP oP bC oC j : Nat} {m v q g : Int} {w : World} (h : F9 hs h1 x0 x1 x2 x3 x4 x5 x6 x7 x8 x9 x10 x11 vM vV bM oM bV oV bP oP bC oC j m v q g w) : hs < w.heap.size ∧ h1 < w.heap.size ∧ bM < w.heap.size ∧ bV < w.heap.size ∧ bP < w.heap.size ∧ bC < w.heap.size :=
  ⟨World.block_lt_of_cell? _ _ h.s0, World.block_lt_of_cell? _ _ h.a0, World.block_lt_of_cell? _ _ h.m, World.block_lt_of_cell? _ _ h.v, World.block_lt_of_cell? _ _ h.q, World.block_lt_of_cell? _ _ h.g⟩
/-- What a store of a round's results reads. -/
structure H9 (gN bt g1 g2 n : Nat) (x y z : Int) (w : World) : Prop where
  n0 : w.cell? ⟨gN, 0, none⟩ = some (.slice (some ⟨g1, 0, none⟩) n n)
  n1 : w.cell? ⟨gN, 1, none⟩ = some (.slice (some ⟨g2, 0, none⟩) n n)
  t0 : w.cell? ⟨bt, 0, none⟩ = some (.int .i64 x)
  t1 : w.cell? ⟨bt, 1, none⟩ = some (.int .i64 y)
  t2 : w.cell? ⟨bt, 2, none⟩ = some (.int .i64 z)
theorem H9.far {gN bt g1 g2 n : Nat} {x y z : Int} {w : World} (h : H9 gN bt g1 g2 n x y z w) (a : Addr) (u : Value) (hn : a.block ≠ gN) (ht : a.block ≠ bt) : H9 gN bt g1 g2 n x y z (w.setCell a u) := ⟨cell_set hn h.n0, cell_set hn h.n1, cell_set ht h.t0, cell_set ht h.t1, cell_set ht h.t2⟩
/-- What lies ready ahead of the loop. -/
structure E9 (p : Option Addr) (cc : Int) (w : World) (h1 h2 : Nat) (Sh : World → Prop) (vM vV vC : Value) (T : Int) (n : Nat) (GC : Nat → Int) (W : World) : Prop where
  U : Ux p cc w W
  tb : TabAt W
  S : Sh W
  A : Y3 h1 vM vV (.int .i64 T) W
  R : Y3 h2 (.slice none 0 0) (.slice none 0 0) (.int .i64 0) W
  C : Ar W vC n GC
theorem E9.later {p : Option Addr} {cc : Int} {w : World} {h1 h2 : Nat} {Sh : World → Prop} {vM vV vC : Value} {T : Int} {n : Nat} {GC : Nat → Int} {W W' : World} (h : E9 p cc w h1 h2 Sh vM vV vC T n GC W) (hb : Below W.heap.size W W') (hS : Sh W') : E9 p cc w h1 h2 Sh vM vV vC T n GC W' := ⟨h.U.later hb, h.tb.later hb, hS, h.A.later hb, h.R.later hb, h.C.later hb⟩
theorem E9.far {p : Option Addr} {cc : Int} {w : World} {h1 h2 : Nat} {Sh : World → Prop} {vM vV vC : Value} {T : Int} {n : Nat} {GC : Nat → Int} {W : World} (h : E9 p cc w h1 h2 Sh vM vV vC T n GC W) (h0 : TabAt w) (a : Addr) (u : Value) (ha : w.heap.size ≤ a.block) (hn : a.block ≠ h1 ∧ a.block ≠ h2) (hc : Nb vC a.block) (hS : Sh (W.setCell a u)) : E9 p cc w h1 h2 Sh vM vV vC T n GC (W.setCell a u) := ⟨h.U.far u ha, h.tb.set9 h0 a u ha, hS, h.A.far _ _ hn.1, h.R.far _ _ hn.2, h.C.set9e _ _ hc⟩
set_option maxRecDepth 100000 in
set_option maxHeartbeats 32000000 in
theorem step9_of (p : Option Addr) (c kc : Int) (kS : Nat → Int) (B Wm b1 b2 ep dc cl T t1 rt o1 o2 : Int) (cb : Bool) (adD adM adV adP adG : Option Addr) (nD n caD caM caV caP caG : Nat) (M V P GC FM FV FY : Nat → Int) (hn : n ≤ 65536) (hk0 : kS 0 = 0) (ht1 : T + 1 = t1) (hT0 : 0 ≤ T) (hT1 : T < 1048576) (w : World) (hT : TabAt w) (hp : Up p c w)
    (hM : Ar w (.slice adM n caM) n M) (hV : Ar w (.slice adV n caV) n V) (hP : Ar w (.slice adP n caP) n P) (nM : Nv (.slice adM n caM) p) (nV : Nv (.slice adV n caV) p) (nP : Nv (.slice adP n caP) p)
    (CK : Hid (∀ W' : World, Below w.heap.size w W' → Calls Tryz.prog 18 #[.agg #[.int .i64 B, .int .i64 Wm, .slice adD nD caD, .int .i64 b1, .int .i64 b2, .int .i64 ep, .int .i64 dc, .int .i64 cl], .agg #[.slice adM n caM, .slice adV n caV, .int .i64 T], .slice adP n caP, .slice adG n caG] W' fun e w' => e = .returned (.int .i64 0) ∧ Below W'.heap.size W' w'))
    (CS : Hid (∀ W' : World, Below w.heap.size w W' → Calls Tryz.prog 19 #[.agg #[.int .i64 B, .int .i64 Wm, .slice adD nD caD, .int .i64 b1, .int .i64 b2, .int .i64 ep, .int .i64 dc, .int .i64 cl], .int .i64 t1] W' fun e w' => e = .returned (.agg #[.int .i64 B, .int .i64 Wm, .slice adD nD caD, .int .i64 b1, .int .i64 b2, .int .i64 ep, .int .i64 dc, .int .i64 cl, .int .i64 t1, .int .i64 rt, .int .i64 o1, .int .i64 o2]) ∧ Below W'.heap.size W' w'))
    (CC : Hid (∀ W' : World, Below w.heap.size w W' → Calls Tryz.prog 20 #[.pointer p, .slice adG n caG, .int .i64 cl] W' fun e w' => (∃ v', e = .returned (.tuple #[v', .bool cb, .int .i64 0]) ∧ Ar w' v' n GC ∧ Ow W'.heap.size v') ∧ Ux p (c + kc) W' w'))
    (CM : Hid (∀ (j : Nat) (W' : World), j < n → TabAt W' → Up p (c + (kc + kS j)) W' → Calls Tryz.prog 22 #[.agg #[.int .i64 B, .int .i64 Wm, .slice adD nD caD, .int .i64 b1, .int .i64 b2, .int .i64 ep, .int .i64 dc, .int .i64 cl, .int .i64 t1, .int .i64 rt, .int .i64 o1, .int .i64 o2], .pointer p, .agg #[.int .i64 (M j), .int .i64 (V j), .int .i64 (P j)], .int .i64 (GC j)] W' fun e w' => e = .returned (.agg #[.int .i64 (FM j), .int .i64 (FV j), .int .i64 (FY j)]) ∧ Ux p (c + (kc + kS (j + 1))) W' w'))
    (hF : ∀ j, j < n → (-9223372036854775808 ≤ FM j ∧ FM j ≤ 9223372036854775807) ∧ (-9223372036854775808 ≤ FV j ∧ FV j ≤ 9223372036854775807) ∧ (-9223372036854775808 ≤ FY j ∧ FY j ≤ 9223372036854775807)) :
    Calls Tryz.prog 7 #[.pointer p, .agg #[.int .i64 B, .int .i64 Wm, .slice adD nD caD, .int .i64 b1, .int .i64 b2, .int .i64 ep, .int .i64 dc, .int .i64 cl], .agg #[.slice adM n caM, .slice adV n caV, .int .i64 T], .slice adP n caP, .slice adG n caG] w fun e w' => ∃ g1 g2 g3 : Nat, e = .returned (.tuple #[.agg #[.slice (some ⟨g1, 0, none⟩) n n, .slice (some ⟨g2, 0, none⟩) n n, .int .i64 t1], .slice (some ⟨g3, 0, none⟩) n n, .int .i64 0]) ∧ Ar w' (.slice (some ⟨g1, 0, none⟩) n n) n FM ∧ Ar w' (.slice (some ⟨g2, 0, none⟩) n n) n FV ∧ Ar w' (.slice (some ⟨g3, 0, none⟩) n n) n FY ∧ (w.heap.size ≤ g1 ∧ w.heap.size ≤ g2 ∧ w.heap.size ≤ g3) ∧ Ux p (c + (kc + kS n)) w w' := by
  have H0 : Hid (TabAt w ∧ Up p c w ∧ (Ar w (.slice adM n caM) n M ∧ Ar w (.slice adV n caV) n V ∧ Ar w (.slice adP n caP) n P) ∧ (Nv (.slice adM n caM) p ∧ Nv (.slice adV n caV) p ∧ Nv (.slice adP n caP) p) ∧ (∀ j, j < n → (-9223372036854775808 ≤ FM j ∧ FM j ≤ 9223372036854775807) ∧ (-9223372036854775808 ≤ FV j ∧ FV j ≤ 9223372036854775807) ∧ (-9223372036854775808 ≤ FY j ∧ FY j ≤ 9223372036854775807)) ∧ kS 0 = 0) := ⟨hT, hp, ⟨hM, hV, hP⟩, ⟨nM, nV, nP⟩, hF, hk0⟩
  clear hT hp hM hV hP nM nV nP hF hk0
  have hmk := make_fx n (by omega)
  have wt : IntKind.i64.wrap (T + 1) = t1 := by rw [IntKind.wrap_i64]; omega
  obtain ⟨w1, hw1⟩ : ∃ w1, w1 = ((w.alloc (.cells #[.int .i64 B, .int .i64 Wm, .slice adD nD caD, .int .i64 b1, .int .i64 b2, .int .i64 ep, .int .i64 dc, .int .i64 cl] 27)).alloc (.cells #[.slice adM n caM, .slice adV n caV, .int .i64 T] 30)).alloc (.cells #[.slice none 0 0, .slice none 0 0, .int .i64 0] 30) := ⟨_, rfl⟩
  have HB1 : Hid (Below w.heap.size w w1) := by rw [hw1]; exact bchain (bel2 _ _ _) (bel1 _ _)
  have HX : Q8 w.heap.size (.int .i64 B) (.int .i64 Wm) (.slice adD nD caD) (.int .i64 b1) (.int .i64 b2) (.int .i64 ep) (.int .i64 dc) (.int .i64 cl) w1 := by rw [hw1]; exact ((Q8.new w _ _ _ _ _ _ _ _ _).later (bel1 _ _)).later (bel1 _ _)
  have HA : Y3 (w.heap.size + 1) (.slice adM n caM) (.slice adV n caV) (.int .i64 T) w1 := by rw [hw1]; have h := (Y3.new (w.alloc (.cells #[.int .i64 B, .int .i64 Wm, .slice adD nD caD, .int .i64 b1, .int .i64 b2, .int .i64 ep, .int .i64 dc, .int .i64 cl] 27)) (.slice adM n caM) (.slice adV n caV) (.int .i64 T) 30).later (bel1 _ (.cells #[.slice none 0 0, .slice none 0 0, .int .i64 0] 30)); rw [World.size_alloc] at h; exact h
  have HR : Hid (Y3 (w.heap.size + 1 + 1) (.slice none 0 0) (.slice none 0 0) (.int .i64 0) w1) := by rw [hw1]; have h := Y3.new ((w.alloc (.cells #[.int .i64 B, .int .i64 Wm, .slice adD nD caD, .int .i64 b1, .int .i64 b2, .int .i64 ep, .int .i64 dc, .int .i64 cl] 27)).alloc (.cells #[.slice adM n caM, .slice adV n caV, .int .i64 T] 30)) (.slice none 0 0) (.slice none 0 0) (.int .i64 0) 30; rw [World.size_alloc, World.size_alloc] at h; exact h
  go_enter Tryz.func7, Tryz.ntmps7
  go_upto_region 1 with fail
  rw [← hw1]
  clear hw1
  obtain ⟨h1, hh1⟩ : ∃ x, w.heap.size + 1 = x := ⟨_, rfl⟩
  obtain ⟨h2, hh2⟩ : ∃ x, h1 + 1 = x := ⟨_, rfl⟩
  simp only [hh1, hh2] at HA HR ⊢
  have HL : Hid (w.heap.size < h1 ∧ h1 < h2) := ⟨by omega, by omega⟩
  clear hh1 hh2
  have x0 := HX.c0
  have x1 := HX.c1
  have x2 := HX.c2
  have x3 := HX.c3
  have x4 := HX.c4
  have x5 := HX.c5
  have x6 := HX.c6
  have x7 := HX.c7
  have y0 := HA.c0
  have y1 := HA.c1
  have y2 := HA.c2
  go_wp2_with fail
  refine (CK.out _ HB1.out).mono ?_
  rintro e w2 ⟨rfl, hb⟩
  have HB2 : Hid (Below w.heap.size w w2) := bchain HB1.out hb
  replace HX := HX.later hb
  replace HA := HA.later hb
  replace HR : Hid (Y3 h2 (.slice none 0 0) (.slice none 0 0) (.int .i64 0) w2) := HR.out.later hb
  clear hb CK HB1 x0 x1 x2 x3 x4 x5 x6 x7 y0 y1 y2
  have x0 := HX.c0
  have x1 := HX.c1
  have x2 := HX.c2
  have x3 := HX.c3
  have x4 := HX.c4
  have x5 := HX.c5
  have x6 := HX.c6
  have x7 := HX.c7
  have y2 := HA.c2
  go_wp2_with fail
  refine (CS.out _ HB2.out).mono ?_
  rintro e w3 ⟨rfl, hb⟩
  obtain ⟨w4, hw4⟩ : ∃ w4, w4 = w3.alloc (.cells #[.int .i64 B, .int .i64 Wm, .slice adD nD caD, .int .i64 b1, .int .i64 b2, .int .i64 ep, .int .i64 dc, .int .i64 cl, .int .i64 t1, .int .i64 rt, .int .i64 o1, .int .i64 o2] 69) := ⟨_, rfl⟩
  have HB4 : Hid (Below w.heap.size w w4) := by rw [hw4]; exact bchain (bchain HB2.out hb) (bel1 _ _)
  replace HA : Y3 h1 (.slice adM n caM) (.slice adV n caV) (.int .i64 T) w4 := by rw [hw4]; exact (HA.later hb).later (bel1 _ _)
  have HQ : Q12 w3.heap.size (.int .i64 B) (.int .i64 Wm) (.slice adD nD caD) (.int .i64 b1) (.int .i64 b2) (.int .i64 ep) (.int .i64 dc) (.int .i64 cl) (.int .i64 t1) (.int .i64 rt) (.int .i64 o1) (.int .i64 o2) w4 := by rw [hw4]; exact Q12.new _ _ _ _ _ _ _ _ _ _ _ _ _ _
  replace HL : Hid ((w.heap.size < h1 ∧ h1 < h2) ∧ h2 < w3.heap.size) := ⟨HL.out, (HR.out.later hb).lt⟩
  replace HR : Hid (Y3 h2 (.slice none 0 0) (.slice none 0 0) (.int .i64 0) w4) := by rw [hw4]; exact (HR.out.later hb).later (bel1 _ _)
  clear hb CS HB2 HX x0 x1 x2 x3 x4 x5 x6 x7 y2
  go_upto_region 5 with fail
  rw [← hw4]
  clear hw4
  generalize w3.heap.size = hs at *
  have z7 := HQ.c7
  go_wp2_with fail
  refine (CC.out _ HB4.out).mono ?_
  rintro e w5 ⟨⟨vC, rfl, hAC, hOC⟩, hU⟩
  have hu0 : ∀ b, w.heap.size ≤ b → Nu b p := fun b hb => H0.out.2.1.lt hb
  have hnC : Nv vC p := H0.out.2.1.ow (hOC.mono HB4.out.size)
  obtain ⟨adC, caC, bC, oC, rfl, -, -, -, -⟩ := id hAC
  have hl := HL.out
  have HE : Hid (E9 p (c + kc) w h1 h2 (fun W' => Q12 hs (.int .i64 B) (.int .i64 Wm) (.slice adD nD caD) (.int .i64 b1) (.int .i64 b2) (.int .i64 ep) (.int .i64 dc) (.int .i64 cl) (.int .i64 t1) (.int .i64 rt) (.int .i64 o1) (.int .i64 o2) W') (.slice adM n caM) (.slice adV n caV) (.slice adC n caC) T n GC w5) := ⟨(H0.out.2.1.ux HB4.out).chain hU, (H0.out.1.later HB4.out).ux (H0.out.2.1.later HB4.out) hU, HQ.ux (hu0 _ (by omega)) hU, HA.ux (hu0 _ (by omega)) hU, HR.out.ux (hu0 _ (by omega)) hU, hAC⟩
  have HNv : Hid (Nv (.slice adC n caC) p) := hnC
  clear hU hAC hOC hu0 hnC HA HR HQ HB4 CC z7 hl
  go_upto_region 8 with fail
  go_cut [18, 19] (fun s18 s19 wc => ∃ gN g1 g2 g3 : Nat, s18 = .pointer (some ⟨gN, 0, none⟩) ∧ s19 = .slice (some ⟨g3, 0, none⟩) n n ∧ Hid (D9 p w h1 h2 hs gN g1 g2 g3 (.slice adC n caC)) ∧ Hid (E9 p (c + kc) w h1 h2 (fun W' => Q12 hs (.int .i64 B) (.int .i64 Wm) (.slice adD nD caD) (.int .i64 b1) (.int .i64 b2) (.int .i64 ep) (.int .i64 dc) (.int .i64 cl) (.int .i64 t1) (.int .i64 rt) (.int .i64 o1) (.int .i64 o2) W') (.slice adM n caM) (.slice adV n caV) (.slice adC n caC) T n GC wc) ∧ Hid (Y3 gN (.slice (some ⟨g1, 0, none⟩) n n) (.slice (some ⟨g2, 0, none⟩) n n) (.int .i64 0) wc) ∧ Hid (Rw g1 n (fun _ => .int .i64 0) wc ∧ Rw g2 n (fun _ => .int .i64 0) wc ∧ Rw g3 n (fun _ => .int .i64 0) wc) ∧ Hid (hs ≠ gN))
  case first =>
    have hbD : Below w5.heap.size w5 w5.drew := (Below.refl _ _).drew
    replace HE : Hid (E9 p (c + kc) w h1 h2 (fun W' => Q12 hs (.int .i64 B) (.int .i64 Wm) (.slice adD nD caD) (.int .i64 b1) (.int .i64 b2) (.int .i64 ep) (.int .i64 dc) (.int .i64 cl) (.int .i64 t1) (.int .i64 rt) (.int .i64 o1) (.int .i64 o2) W') (.slice adM n caM) (.slice adV n caV) (.slice adC n caC) T n GC w5.drew) := HE.out.later hbD (HE.out.S.later hbD)
    refine wp_region_held_drew (S := fun _ => True) (by kernel_rfl) trivial (fun HS => ?_)
    clear hbD
    have HZ : Hid (hs < w5.drew.heap.size ∧ h2 < w5.drew.heap.size) := ⟨HE.out.S.lt, HE.out.R.lt⟩
    generalize w5.drew = q0 at *
    generalize hz : q0.heap.size = z at HZ
    have hzq : z ≤ q0.heap.size := by omega
    replace hz : Hid (z = q0.heap.size) := hz.symm
    have HNz : Hid (∀ b, z ≤ b → Nb (.slice adC n caC) b) := fun b hb => HE.out.C.nb (by have := hz.out; omega)
    clear hz
    refine wpAnyH_take (i := 0) (v := ?_) rfl (by kernel_rfl) (by kernel_rfl) (by kernel_rfl) (fun _ _ _ h => h) (Or.inl ⟨by kernel_rfl, ?_⟩) HS ?_
    rotate_left
    · (rintro w -; go_simp) <;> with_reducible rfl
    try simp only [Act.put, List.getElem_toArray, List.getElem_cons_succ, List.getElem_cons_zero, List.setIfInBounds_toArray, List.set_cons_zero, List.set_cons_succ]
    refine wpAnyH_take (i := 1) (v := ?_) rfl (by kernel_rfl) (by kernel_rfl) (by kernel_rfl) (fun _ _ _ h => h) (Or.inl ⟨by kernel_rfl, ?_⟩) HS ?_
    rotate_left
    · (rintro w -; go_simp) <;> with_reducible rfl
    try simp only [Act.put, List.getElem_toArray, List.getElem_cons_succ, List.getElem_cons_zero, List.setIfInBounds_toArray, List.set_cons_zero, List.set_cons_succ]
    refine wpAnyH_take (i := 3) (v := ?_) rfl (by kernel_rfl) (by kernel_rfl) (by kernel_rfl) (fun _ _ _ h => h) (Or.inl ⟨by kernel_rfl, ?_⟩) HS ?_
    rotate_left
    · (rintro w -; go_simp) <;> with_reducible rfl
    try simp only [Act.put, List.getElem_toArray, List.getElem_cons_succ, List.getElem_cons_zero, List.setIfInBounds_toArray, List.set_cons_zero, List.set_cons_succ]
    refine wpAnyH_take (i := 4) (v := ?_) rfl (by kernel_rfl) (by kernel_rfl) (by kernel_rfl) (fun _ _ _ h => h) (Or.inl ⟨by kernel_rfl, ?_⟩) HS ?_
    rotate_left
    · (rintro w -; go_simp) <;> with_reducible rfl
    try simp only [Act.put, List.getElem_toArray, List.getElem_cons_succ, List.getElem_cons_zero, List.setIfInBounds_toArray, List.set_cons_zero, List.set_cons_succ]
    refine wpAnyH_ready (rs := [2, 5, 6]) (by kernel_rfl) (by simp) ?_
    refine AllReadyH.cons rfl (fun K hK => ?_) (AllReadyH.cons rfl (fun K hK => ?_) (AllReadyH.cons rfl (fun K hK => ?_) AllReadyH.nil))
    · go_simp
      refine (nought9_any n hn _).mono ?_
      rintro e q0n ⟨g1, g2, rfl, hN⟩
      refine hK.out _ _ trivial (fun HS => ?_)
      clear hK K
      have hbn : Below q0.heap.size q0 q0n := hN.b
      have HN : Hid ((Rw g1 n (fun _ => .int .i64 0) q0n ∧ Rw g2 n (fun _ => .int .i64 0) q0n) ∧ (z ≤ g1 ∧ g1 < q0n.heap.size) ∧ (z ≤ g2 ∧ g2 < q0n.heap.size) ∧ g1 ≠ g2) := ⟨⟨hN.r1, hN.r2⟩, ⟨by have := hN.l1; omega, hN.l1.2⟩, ⟨by have := hN.l2; omega, hN.l2.2⟩, hN.ne⟩
      replace HE : Hid (E9 p (c + kc) w h1 h2 (fun W' => Q12 hs (.int .i64 B) (.int .i64 Wm) (.slice adD nD caD) (.int .i64 b1) (.int .i64 b2) (.int .i64 ep) (.int .i64 dc) (.int .i64 cl) (.int .i64 t1) (.int .i64 rt) (.int .i64 o1) (.int .i64 o2) W') (.slice adM n caM) (.slice adV n caV) (.slice adC n caC) T n GC q0n) := HE.out.later hbn (HE.out.S.later hbn)
      replace hzq : z ≤ q0n.heap.size := by have := (hbn).size; omega
      clear hN hbn
      refine wpAnyH_ready (rs := [5, 6]) (by kernel_rfl) (by simp) ?_
      refine AllReadyH.cons rfl (fun K hK => ?_) (AllReadyH.cons rfl (fun K hK => ?_) AllReadyH.nil)
      · go_simp
        refine hK.out _ _ trivial (fun HS => ?_)
        clear hK K
        have hbn : Below q0n.heap.size q0n (q0n.alloc (.cells (madeCells #[.int .i64 0] n) 22)) := bel1 _ _
        have hsz : (q0n.alloc (.cells (madeCells #[.int .i64 0] n) 22)).heap.size = q0n.heap.size + 1 := by rw [World.size_alloc]
        have HNE1K : Hid (g1 ≠ q0n.heap.size ∧ g2 ≠ q0n.heap.size) := ⟨by have := HN.out.2.1.2; omega, by have := HN.out.2.2.1.2; omega⟩
        have HK : Hid (Rw q0n.heap.size n (fun _ => .int .i64 0) (q0n.alloc (.cells (madeCells #[.int .i64 0] n) 22)) ∧ (z ≤ q0n.heap.size ∧ q0n.heap.size < (q0n.alloc (.cells (madeCells #[.int .i64 0] n) 22)).heap.size)) := ⟨Rw.made q0n (.int .i64 0) n 22, hzq, by omega⟩
        replace HE : Hid (E9 p (c + kc) w h1 h2 (fun W' => Q12 hs (.int .i64 B) (.int .i64 Wm) (.slice adD nD caD) (.int .i64 b1) (.int .i64 b2) (.int .i64 ep) (.int .i64 dc) (.int .i64 cl) (.int .i64 t1) (.int .i64 rt) (.int .i64 o1) (.int .i64 o2) W') (.slice adM n caM) (.slice adV n caV) (.slice adC n caC) T n GC (q0n.alloc (.cells (madeCells #[.int .i64 0] n) 22))) := HE.out.later hbn (HE.out.S.later hbn)
        replace HN : Hid ((Rw g1 n (fun _ => .int .i64 0) (q0n.alloc (.cells (madeCells #[.int .i64 0] n) 22)) ∧ Rw g2 n (fun _ => .int .i64 0) (q0n.alloc (.cells (madeCells #[.int .i64 0] n) 22))) ∧ (z ≤ g1 ∧ g1 < (q0n.alloc (.cells (madeCells #[.int .i64 0] n) 22)).heap.size) ∧ (z ≤ g2 ∧ g2 < (q0n.alloc (.cells (madeCells #[.int .i64 0] n) 22)).heap.size) ∧ g1 ≠ g2) := ⟨⟨HN.out.1.1.later hbn, HN.out.1.2.later hbn⟩, ⟨HN.out.2.1.1, by have := HN.out.2.1.2; have := (hbn).size; omega⟩, ⟨HN.out.2.2.1.1, by have := HN.out.2.2.1.2; have := (hbn).size; omega⟩, HN.out.2.2.2⟩
        replace hzq : z ≤ (q0n.alloc (.cells (madeCells #[.int .i64 0] n) 22)).heap.size := by have := (hbn).size; omega
        clear hbn hsz
        generalize (q0n.alloc (.cells (madeCells #[.int .i64 0] n) 22)) = q0nk at *
        generalize q0n.heap.size = g3 at *
        refine wpAnyH_ready (rs := [6]) (by kernel_rfl) (by simp) ?_
        refine AllReadyH.cons rfl (fun K hK => ?_) AllReadyH.nil
        · go_simp
          refine hK.out _ _ trivial (fun HS => ?_)
          clear hK K
          have hbn : Below q0nk.heap.size q0nk (q0nk.alloc (.cells #[.slice none 0 0, .slice none 0 0, .int .i64 0] 30)) := bel1 _ _
          have hsz : (q0nk.alloc (.cells #[.slice none 0 0, .slice none 0 0, .int .i64 0] 30)).heap.size = q0nk.heap.size + 1 := by rw [World.size_alloc]
          have HNE1A : Hid (g1 ≠ q0nk.heap.size ∧ g2 ≠ q0nk.heap.size) := ⟨by have := HN.out.2.1.2; omega, by have := HN.out.2.2.1.2; omega⟩
          have HNEKA : Hid (g3 ≠ q0nk.heap.size) := by show _ ≠ _; have := HK.out.2.2; omega
          have HA : Hid (Y3 q0nk.heap.size (.slice none 0 0) (.slice none 0 0) (.int .i64 0) (q0nk.alloc (.cells #[.slice none 0 0, .slice none 0 0, .int .i64 0] 30)) ∧ (z ≤ q0nk.heap.size ∧ q0nk.heap.size < (q0nk.alloc (.cells #[.slice none 0 0, .slice none 0 0, .int .i64 0] 30)).heap.size)) := ⟨Y3.new _ _ _ _ _, hzq, by omega⟩
          replace HE : Hid (E9 p (c + kc) w h1 h2 (fun W' => Q12 hs (.int .i64 B) (.int .i64 Wm) (.slice adD nD caD) (.int .i64 b1) (.int .i64 b2) (.int .i64 ep) (.int .i64 dc) (.int .i64 cl) (.int .i64 t1) (.int .i64 rt) (.int .i64 o1) (.int .i64 o2) W') (.slice adM n caM) (.slice adV n caV) (.slice adC n caC) T n GC (q0nk.alloc (.cells #[.slice none 0 0, .slice none 0 0, .int .i64 0] 30))) := HE.out.later hbn (HE.out.S.later hbn)
          replace HN : Hid ((Rw g1 n (fun _ => .int .i64 0) (q0nk.alloc (.cells #[.slice none 0 0, .slice none 0 0, .int .i64 0] 30)) ∧ Rw g2 n (fun _ => .int .i64 0) (q0nk.alloc (.cells #[.slice none 0 0, .slice none 0 0, .int .i64 0] 30))) ∧ (z ≤ g1 ∧ g1 < (q0nk.alloc (.cells #[.slice none 0 0, .slice none 0 0, .int .i64 0] 30)).heap.size) ∧ (z ≤ g2 ∧ g2 < (q0nk.alloc (.cells #[.slice none 0 0, .slice none 0 0, .int .i64 0] 30)).heap.size) ∧ g1 ≠ g2) := ⟨⟨HN.out.1.1.later hbn, HN.out.1.2.later hbn⟩, ⟨HN.out.2.1.1, by have := HN.out.2.1.2; have := (hbn).size; omega⟩, ⟨HN.out.2.2.1.1, by have := HN.out.2.2.1.2; have := (hbn).size; omega⟩, HN.out.2.2.2⟩
          replace HK : Hid (Rw g3 n (fun _ => .int .i64 0) (q0nk.alloc (.cells #[.slice none 0 0, .slice none 0 0, .int .i64 0] 30)) ∧ (z ≤ g3 ∧ g3 < (q0nk.alloc (.cells #[.slice none 0 0, .slice none 0 0, .int .i64 0] 30)).heap.size)) := ⟨HK.out.1.later hbn, HK.out.2.1, by have := HK.out.2.2; have := (hbn).size; omega⟩
          replace hzq : z ≤ (q0nk.alloc (.cells #[.slice none 0 0, .slice none 0 0, .int .i64 0] 30)).heap.size := by have := (hbn).size; omega
          clear hbn hsz
          generalize (q0nk.alloc (.cells #[.slice none 0 0, .slice none 0 0, .int .i64 0] 30)) = q0nka at *
          generalize q0nk.heap.size = gN at *
          refine wpAnyH_ready (rs := [7]) (by kernel_rfl) (by simp) ?_
          refine AllReadyH.cons rfl (fun K hK => ?_) AllReadyH.nil
          · have y0 := HA.out.1.c0
            have y1 := HA.out.1.c1
            have y2 := HA.out.1.c2
            have f0 := HA.out.1.f0
            have f1 := HA.out.1.f1
            have f2 := HA.out.1.f2
            go_simp
            refine hK.out _ _ trivial (fun HS => ?_)
            clear hK K y0 y1 y2 f0 f1 f2
            have hl := HL.out
            have hzz := HZ.out
            have hgN := HA.out.2.1
            have n1A := HNE1A.out
            have e : (((q0nka.setCell ⟨gN, 0, none⟩ (.slice (some ⟨g1, 0, none⟩) n n)).setCell ⟨gN, 1, none⟩ (.slice (some ⟨g2, 0, none⟩) n n)).setCell ⟨gN, 2, none⟩ (.int .i64 0)).heap.size = q0nka.heap.size := by simp only [World.size_setCell]
            replace HE : Hid (E9 p (c + kc) w h1 h2 (fun W' => Q12 hs (.int .i64 B) (.int .i64 Wm) (.slice adD nD caD) (.int .i64 b1) (.int .i64 b2) (.int .i64 ep) (.int .i64 dc) (.int .i64 cl) (.int .i64 t1) (.int .i64 rt) (.int .i64 o1) (.int .i64 o2) W') (.slice adM n caM) (.slice adV n caV) (.slice adC n caC) T n GC (((q0nka.setCell ⟨gN, 0, none⟩ (.slice (some ⟨g1, 0, none⟩) n n)).setCell ⟨gN, 1, none⟩ (.slice (some ⟨g2, 0, none⟩) n n)).setCell ⟨gN, 2, none⟩ (.int .i64 0))) := by
              have q1 : gN ≠ h1 ∧ gN ≠ h2 := ⟨by omega, by omega⟩
              have q2 : w.heap.size ≤ gN := by omega
              have q3 : gN ≠ hs := by omega
              exact ((HE.out.far H0.out.1 ⟨gN, 0, none⟩ _ q2 q1 (HNz.out _ hgN) (HE.out.S.far _ _ q3)).far H0.out.1 ⟨gN, 1, none⟩ _ q2 q1 (HNz.out _ hgN) ((HE.out.S.far _ _ q3).far _ _ q3)).far H0.out.1 ⟨gN, 2, none⟩ _ q2 q1 (HNz.out _ hgN) (((HE.out.S.far _ _ q3).far _ _ q3).far _ _ q3)
            replace HA : Hid (Y3 gN (.slice (some ⟨g1, 0, none⟩) n n) (.slice (some ⟨g2, 0, none⟩) n n) (.int .i64 0) (((q0nka.setCell ⟨gN, 0, none⟩ (.slice (some ⟨g1, 0, none⟩) n n)).setCell ⟨gN, 1, none⟩ (.slice (some ⟨g2, 0, none⟩) n n)).setCell ⟨gN, 2, none⟩ (.int .i64 0)) ∧ (z ≤ gN ∧ gN < (((q0nka.setCell ⟨gN, 0, none⟩ (.slice (some ⟨g1, 0, none⟩) n n)).setCell ⟨gN, 1, none⟩ (.slice (some ⟨g2, 0, none⟩) n n)).setCell ⟨gN, 2, none⟩ (.int .i64 0)).heap.size)) := ⟨((HA.out.1.set0 _).set1 _).set2 _, hgN, by have := HA.out.2.2; omega⟩
            replace HN : Hid ((Rw g1 n (fun _ => .int .i64 0) (((q0nka.setCell ⟨gN, 0, none⟩ (.slice (some ⟨g1, 0, none⟩) n n)).setCell ⟨gN, 1, none⟩ (.slice (some ⟨g2, 0, none⟩) n n)).setCell ⟨gN, 2, none⟩ (.int .i64 0)) ∧ Rw g2 n (fun _ => .int .i64 0) (((q0nka.setCell ⟨gN, 0, none⟩ (.slice (some ⟨g1, 0, none⟩) n n)).setCell ⟨gN, 1, none⟩ (.slice (some ⟨g2, 0, none⟩) n n)).setCell ⟨gN, 2, none⟩ (.int .i64 0))) ∧ (z ≤ g1 ∧ g1 < (((q0nka.setCell ⟨gN, 0, none⟩ (.slice (some ⟨g1, 0, none⟩) n n)).setCell ⟨gN, 1, none⟩ (.slice (some ⟨g2, 0, none⟩) n n)).setCell ⟨gN, 2, none⟩ (.int .i64 0)).heap.size) ∧ (z ≤ g2 ∧ g2 < (((q0nka.setCell ⟨gN, 0, none⟩ (.slice (some ⟨g1, 0, none⟩) n n)).setCell ⟨gN, 1, none⟩ (.slice (some ⟨g2, 0, none⟩) n n)).setCell ⟨gN, 2, none⟩ (.int .i64 0)).heap.size) ∧ g1 ≠ g2) := ⟨⟨((HN.out.1.1.far (p := ⟨gN, 0, none⟩) _ (fun e => n1A.1 e.symm)).far (p := ⟨gN, 1, none⟩) _ (fun e => n1A.1 e.symm)).far (p := ⟨gN, 2, none⟩) _ (fun e => n1A.1 e.symm), ((HN.out.1.2.far (p := ⟨gN, 0, none⟩) _ (fun e => n1A.2 e.symm)).far (p := ⟨gN, 1, none⟩) _ (fun e => n1A.2 e.symm)).far (p := ⟨gN, 2, none⟩) _ (fun e => n1A.2 e.symm)⟩, ⟨HN.out.2.1.1, by have := HN.out.2.1.2; omega⟩, ⟨HN.out.2.2.1.1, by have := HN.out.2.2.1.2; omega⟩, HN.out.2.2.2⟩
            replace HK : Hid (Rw g3 n (fun _ => .int .i64 0) (((q0nka.setCell ⟨gN, 0, none⟩ (.slice (some ⟨g1, 0, none⟩) n n)).setCell ⟨gN, 1, none⟩ (.slice (some ⟨g2, 0, none⟩) n n)).setCell ⟨gN, 2, none⟩ (.int .i64 0)) ∧ (z ≤ g3 ∧ g3 < (((q0nka.setCell ⟨gN, 0, none⟩ (.slice (some ⟨g1, 0, none⟩) n n)).setCell ⟨gN, 1, none⟩ (.slice (some ⟨g2, 0, none⟩) n n)).setCell ⟨gN, 2, none⟩ (.int .i64 0)).heap.size)) := ⟨((HK.out.1.far (p := ⟨gN, 0, none⟩) _ (fun e => HNEKA.out e.symm)).far (p := ⟨gN, 1, none⟩) _ (fun e => HNEKA.out e.symm)).far (p := ⟨gN, 2, none⟩) _ (fun e => HNEKA.out e.symm), HK.out.2.1, by have := HK.out.2.2; omega⟩
            replace hzq : z ≤ (((q0nka.setCell ⟨gN, 0, none⟩ (.slice (some ⟨g1, 0, none⟩) n n)).setCell ⟨gN, 1, none⟩ (.slice (some ⟨g2, 0, none⟩) n n)).setCell ⟨gN, 2, none⟩ (.int .i64 0)).heap.size := by omega
            clear hl hzz hgN n1A e
            generalize (((q0nka.setCell ⟨gN, 0, none⟩ (.slice (some ⟨g1, 0, none⟩) n n)).setCell ⟨gN, 1, none⟩ (.slice (some ⟨g2, 0, none⟩) n n)).setCell ⟨gN, 2, none⟩ (.int .i64 0)) = q0nkas at *
            refine wpAnyH_take (i := 8) (v := ?_) rfl (by kernel_rfl) (by kernel_rfl) (by kernel_rfl) (fun _ _ _ h => h) (Or.inl ⟨by kernel_rfl, ?_⟩) HS ?_
            rotate_left
            · (rintro w -; go_simp) <;> with_reducible rfl
            try simp only [Act.put, List.getElem_toArray, List.getElem_cons_succ, List.getElem_cons_zero, List.setIfInBounds_toArray, List.set_cons_zero, List.set_cons_succ]
            refine wpAnyH_done (by kernel_rfl) ?_ _
            have hg1 := HN.out.2.1.1
            have hg2 := HN.out.2.2.1.1
            have hg3 := HK.out.2.1
            have hgN := HA.out.2.1
            have hl := HL.out
            have hzz := HZ.out
            have n1K := HNE1K.out
            have n1A := HNE1A.out
            have nKA := HNEKA.out
            have n12 := HN.out.2.2.2
            have K1 : Hid (D9 p w h1 h2 hs gN g1 g2 g3 (.slice adC n caC)) := ⟨by omega, by omega, by omega, by omega, by omega, by omega, by omega, fun b hb => H0.out.2.1.lt hb, n12, n1K.1, n1K.2, ⟨by omega, by omega, by omega, n1A.1⟩, ⟨by omega, by omega, by omega, n1A.2⟩, ⟨by omega, by omega, by omega, nKA⟩, HNv.out, HNz.out _ hg1, HNz.out _ hg2, HNz.out _ hg3, HNz.out _ hgN, ⟨by omega, by omega, by omega⟩⟩
            have K4 : Hid (Rw g1 n (fun _ => .int .i64 0) q0nkas ∧ Rw g2 n (fun _ => .int .i64 0) q0nkas ∧ Rw g3 n (fun _ => .int .i64 0) q0nkas) := ⟨HN.out.1.1, HN.out.1.2, HK.out.1⟩
            have K3 : Hid (Y3 gN (.slice (some ⟨g1, 0, none⟩) n n) (.slice (some ⟨g2, 0, none⟩) n n) (.int .i64 0) q0nkas) := HA.out.1
            have K5 : Hid (hs ≠ gN) := by show _ ≠ _; omega
            clear HA HK HN HS hg1 hg2 hg3 hgN hl hzz n1K n1A nKA n12 hzq HNz HZ HNE1K HNE1A HNEKA
            go_wp2
            go_meet
            case rel => exact ⟨gN, g1, g2, g3, rfl, rfl, K1, HE, K3, K4, K5⟩
      · go_simp
        refine hK.out _ _ trivial (fun HS => ?_)
        clear hK K
        have hbn : Below q0n.heap.size q0n (q0n.alloc (.cells #[.slice none 0 0, .slice none 0 0, .int .i64 0] 30)) := bel1 _ _
        have hsz : (q0n.alloc (.cells #[.slice none 0 0, .slice none 0 0, .int .i64 0] 30)).heap.size = q0n.heap.size + 1 := by rw [World.size_alloc]
        have HNE1A : Hid (g1 ≠ q0n.heap.size ∧ g2 ≠ q0n.heap.size) := ⟨by have := HN.out.2.1.2; omega, by have := HN.out.2.2.1.2; omega⟩
        have HA : Hid (Y3 q0n.heap.size (.slice none 0 0) (.slice none 0 0) (.int .i64 0) (q0n.alloc (.cells #[.slice none 0 0, .slice none 0 0, .int .i64 0] 30)) ∧ (z ≤ q0n.heap.size ∧ q0n.heap.size < (q0n.alloc (.cells #[.slice none 0 0, .slice none 0 0, .int .i64 0] 30)).heap.size)) := ⟨Y3.new _ _ _ _ _, hzq, by omega⟩
        replace HE : Hid (E9 p (c + kc) w h1 h2 (fun W' => Q12 hs (.int .i64 B) (.int .i64 Wm) (.slice adD nD caD) (.int .i64 b1) (.int .i64 b2) (.int .i64 ep) (.int .i64 dc) (.int .i64 cl) (.int .i64 t1) (.int .i64 rt) (.int .i64 o1) (.int .i64 o2) W') (.slice adM n caM) (.slice adV n caV) (.slice adC n caC) T n GC (q0n.alloc (.cells #[.slice none 0 0, .slice none 0 0, .int .i64 0] 30))) := HE.out.later hbn (HE.out.S.later hbn)
        replace HN : Hid ((Rw g1 n (fun _ => .int .i64 0) (q0n.alloc (.cells #[.slice none 0 0, .slice none 0 0, .int .i64 0] 30)) ∧ Rw g2 n (fun _ => .int .i64 0) (q0n.alloc (.cells #[.slice none 0 0, .slice none 0 0, .int .i64 0] 30))) ∧ (z ≤ g1 ∧ g1 < (q0n.alloc (.cells #[.slice none 0 0, .slice none 0 0, .int .i64 0] 30)).heap.size) ∧ (z ≤ g2 ∧ g2 < (q0n.alloc (.cells #[.slice none 0 0, .slice none 0 0, .int .i64 0] 30)).heap.size) ∧ g1 ≠ g2) := ⟨⟨HN.out.1.1.later hbn, HN.out.1.2.later hbn⟩, ⟨HN.out.2.1.1, by have := HN.out.2.1.2; have := (hbn).size; omega⟩, ⟨HN.out.2.2.1.1, by have := HN.out.2.2.1.2; have := (hbn).size; omega⟩, HN.out.2.2.2⟩
        replace hzq : z ≤ (q0n.alloc (.cells #[.slice none 0 0, .slice none 0 0, .int .i64 0] 30)).heap.size := by have := (hbn).size; omega
        clear hbn hsz
        generalize (q0n.alloc (.cells #[.slice none 0 0, .slice none 0 0, .int .i64 0] 30)) = q0na at *
        generalize q0n.heap.size = gN at *
        refine wpAnyH_ready (rs := [5, 7]) (by kernel_rfl) (by simp) ?_
        refine AllReadyH.cons rfl (fun K hK => ?_) (AllReadyH.cons rfl (fun K hK => ?_) AllReadyH.nil)
        · go_simp
          refine hK.out _ _ trivial (fun HS => ?_)
          clear hK K
          have hbn : Below q0na.heap.size q0na (q0na.alloc (.cells (madeCells #[.int .i64 0] n) 22)) := bel1 _ _
          have hsz : (q0na.alloc (.cells (madeCells #[.int .i64 0] n) 22)).heap.size = q0na.heap.size + 1 := by rw [World.size_alloc]
          have HNE1K : Hid (g1 ≠ q0na.heap.size ∧ g2 ≠ q0na.heap.size) := ⟨by have := HN.out.2.1.2; omega, by have := HN.out.2.2.1.2; omega⟩
          have HNEKA : Hid (q0na.heap.size ≠ gN) := by show _ ≠ _; have := HA.out.2.2; omega
          have HK : Hid (Rw q0na.heap.size n (fun _ => .int .i64 0) (q0na.alloc (.cells (madeCells #[.int .i64 0] n) 22)) ∧ (z ≤ q0na.heap.size ∧ q0na.heap.size < (q0na.alloc (.cells (madeCells #[.int .i64 0] n) 22)).heap.size)) := ⟨Rw.made q0na (.int .i64 0) n 22, hzq, by omega⟩
          replace HE : Hid (E9 p (c + kc) w h1 h2 (fun W' => Q12 hs (.int .i64 B) (.int .i64 Wm) (.slice adD nD caD) (.int .i64 b1) (.int .i64 b2) (.int .i64 ep) (.int .i64 dc) (.int .i64 cl) (.int .i64 t1) (.int .i64 rt) (.int .i64 o1) (.int .i64 o2) W') (.slice adM n caM) (.slice adV n caV) (.slice adC n caC) T n GC (q0na.alloc (.cells (madeCells #[.int .i64 0] n) 22))) := HE.out.later hbn (HE.out.S.later hbn)
          replace HN : Hid ((Rw g1 n (fun _ => .int .i64 0) (q0na.alloc (.cells (madeCells #[.int .i64 0] n) 22)) ∧ Rw g2 n (fun _ => .int .i64 0) (q0na.alloc (.cells (madeCells #[.int .i64 0] n) 22))) ∧ (z ≤ g1 ∧ g1 < (q0na.alloc (.cells (madeCells #[.int .i64 0] n) 22)).heap.size) ∧ (z ≤ g2 ∧ g2 < (q0na.alloc (.cells (madeCells #[.int .i64 0] n) 22)).heap.size) ∧ g1 ≠ g2) := ⟨⟨HN.out.1.1.later hbn, HN.out.1.2.later hbn⟩, ⟨HN.out.2.1.1, by have := HN.out.2.1.2; have := (hbn).size; omega⟩, ⟨HN.out.2.2.1.1, by have := HN.out.2.2.1.2; have := (hbn).size; omega⟩, HN.out.2.2.2⟩
          replace HA : Hid (Y3 gN (.slice none 0 0) (.slice none 0 0) (.int .i64 0) (q0na.alloc (.cells (madeCells #[.int .i64 0] n) 22)) ∧ (z ≤ gN ∧ gN < (q0na.alloc (.cells (madeCells #[.int .i64 0] n) 22)).heap.size)) := ⟨HA.out.1.later hbn, HA.out.2.1, by have := HA.out.2.2; have := (hbn).size; omega⟩
          replace hzq : z ≤ (q0na.alloc (.cells (madeCells #[.int .i64 0] n) 22)).heap.size := by have := (hbn).size; omega
          clear hbn hsz
          generalize (q0na.alloc (.cells (madeCells #[.int .i64 0] n) 22)) = q0nak at *
          generalize q0na.heap.size = g3 at *
          refine wpAnyH_ready (rs := [7]) (by kernel_rfl) (by simp) ?_
          refine AllReadyH.cons rfl (fun K hK => ?_) AllReadyH.nil
          · have y0 := HA.out.1.c0
            have y1 := HA.out.1.c1
            have y2 := HA.out.1.c2
            have f0 := HA.out.1.f0
            have f1 := HA.out.1.f1
            have f2 := HA.out.1.f2
            go_simp
            refine hK.out _ _ trivial (fun HS => ?_)
            clear hK K y0 y1 y2 f0 f1 f2
            have hl := HL.out
            have hzz := HZ.out
            have hgN := HA.out.2.1
            have n1A := HNE1A.out
            have e : (((q0nak.setCell ⟨gN, 0, none⟩ (.slice (some ⟨g1, 0, none⟩) n n)).setCell ⟨gN, 1, none⟩ (.slice (some ⟨g2, 0, none⟩) n n)).setCell ⟨gN, 2, none⟩ (.int .i64 0)).heap.size = q0nak.heap.size := by simp only [World.size_setCell]
            replace HE : Hid (E9 p (c + kc) w h1 h2 (fun W' => Q12 hs (.int .i64 B) (.int .i64 Wm) (.slice adD nD caD) (.int .i64 b1) (.int .i64 b2) (.int .i64 ep) (.int .i64 dc) (.int .i64 cl) (.int .i64 t1) (.int .i64 rt) (.int .i64 o1) (.int .i64 o2) W') (.slice adM n caM) (.slice adV n caV) (.slice adC n caC) T n GC (((q0nak.setCell ⟨gN, 0, none⟩ (.slice (some ⟨g1, 0, none⟩) n n)).setCell ⟨gN, 1, none⟩ (.slice (some ⟨g2, 0, none⟩) n n)).setCell ⟨gN, 2, none⟩ (.int .i64 0))) := by
              have q1 : gN ≠ h1 ∧ gN ≠ h2 := ⟨by omega, by omega⟩
              have q2 : w.heap.size ≤ gN := by omega
              have q3 : gN ≠ hs := by omega
              exact ((HE.out.far H0.out.1 ⟨gN, 0, none⟩ _ q2 q1 (HNz.out _ hgN) (HE.out.S.far _ _ q3)).far H0.out.1 ⟨gN, 1, none⟩ _ q2 q1 (HNz.out _ hgN) ((HE.out.S.far _ _ q3).far _ _ q3)).far H0.out.1 ⟨gN, 2, none⟩ _ q2 q1 (HNz.out _ hgN) (((HE.out.S.far _ _ q3).far _ _ q3).far _ _ q3)
            replace HA : Hid (Y3 gN (.slice (some ⟨g1, 0, none⟩) n n) (.slice (some ⟨g2, 0, none⟩) n n) (.int .i64 0) (((q0nak.setCell ⟨gN, 0, none⟩ (.slice (some ⟨g1, 0, none⟩) n n)).setCell ⟨gN, 1, none⟩ (.slice (some ⟨g2, 0, none⟩) n n)).setCell ⟨gN, 2, none⟩ (.int .i64 0)) ∧ (z ≤ gN ∧ gN < (((q0nak.setCell ⟨gN, 0, none⟩ (.slice (some ⟨g1, 0, none⟩) n n)).setCell ⟨gN, 1, none⟩ (.slice (some ⟨g2, 0, none⟩) n n)).setCell ⟨gN, 2, none⟩ (.int .i64 0)).heap.size)) := ⟨((HA.out.1.set0 _).set1 _).set2 _, hgN, by have := HA.out.2.2; omega⟩
            replace HN : Hid ((Rw g1 n (fun _ => .int .i64 0) (((q0nak.setCell ⟨gN, 0, none⟩ (.slice (some ⟨g1, 0, none⟩) n n)).setCell ⟨gN, 1, none⟩ (.slice (some ⟨g2, 0, none⟩) n n)).setCell ⟨gN, 2, none⟩ (.int .i64 0)) ∧ Rw g2 n (fun _ => .int .i64 0) (((q0nak.setCell ⟨gN, 0, none⟩ (.slice (some ⟨g1, 0, none⟩) n n)).setCell ⟨gN, 1, none⟩ (.slice (some ⟨g2, 0, none⟩) n n)).setCell ⟨gN, 2, none⟩ (.int .i64 0))) ∧ (z ≤ g1 ∧ g1 < (((q0nak.setCell ⟨gN, 0, none⟩ (.slice (some ⟨g1, 0, none⟩) n n)).setCell ⟨gN, 1, none⟩ (.slice (some ⟨g2, 0, none⟩) n n)).setCell ⟨gN, 2, none⟩ (.int .i64 0)).heap.size) ∧ (z ≤ g2 ∧ g2 < (((q0nak.setCell ⟨gN, 0, none⟩ (.slice (some ⟨g1, 0, none⟩) n n)).setCell ⟨gN, 1, none⟩ (.slice (some ⟨g2, 0, none⟩) n n)).setCell ⟨gN, 2, none⟩ (.int .i64 0)).heap.size) ∧ g1 ≠ g2) := ⟨⟨((HN.out.1.1.far (p := ⟨gN, 0, none⟩) _ (fun e => n1A.1 e.symm)).far (p := ⟨gN, 1, none⟩) _ (fun e => n1A.1 e.symm)).far (p := ⟨gN, 2, none⟩) _ (fun e => n1A.1 e.symm), ((HN.out.1.2.far (p := ⟨gN, 0, none⟩) _ (fun e => n1A.2 e.symm)).far (p := ⟨gN, 1, none⟩) _ (fun e => n1A.2 e.symm)).far (p := ⟨gN, 2, none⟩) _ (fun e => n1A.2 e.symm)⟩, ⟨HN.out.2.1.1, by have := HN.out.2.1.2; omega⟩, ⟨HN.out.2.2.1.1, by have := HN.out.2.2.1.2; omega⟩, HN.out.2.2.2⟩
            replace HK : Hid (Rw g3 n (fun _ => .int .i64 0) (((q0nak.setCell ⟨gN, 0, none⟩ (.slice (some ⟨g1, 0, none⟩) n n)).setCell ⟨gN, 1, none⟩ (.slice (some ⟨g2, 0, none⟩) n n)).setCell ⟨gN, 2, none⟩ (.int .i64 0)) ∧ (z ≤ g3 ∧ g3 < (((q0nak.setCell ⟨gN, 0, none⟩ (.slice (some ⟨g1, 0, none⟩) n n)).setCell ⟨gN, 1, none⟩ (.slice (some ⟨g2, 0, none⟩) n n)).setCell ⟨gN, 2, none⟩ (.int .i64 0)).heap.size)) := ⟨((HK.out.1.far (p := ⟨gN, 0, none⟩) _ (fun e => HNEKA.out e.symm)).far (p := ⟨gN, 1, none⟩) _ (fun e => HNEKA.out e.symm)).far (p := ⟨gN, 2, none⟩) _ (fun e => HNEKA.out e.symm), HK.out.2.1, by have := HK.out.2.2; omega⟩
            replace hzq : z ≤ (((q0nak.setCell ⟨gN, 0, none⟩ (.slice (some ⟨g1, 0, none⟩) n n)).setCell ⟨gN, 1, none⟩ (.slice (some ⟨g2, 0, none⟩) n n)).setCell ⟨gN, 2, none⟩ (.int .i64 0)).heap.size := by omega
            clear hl hzz hgN n1A e
            generalize (((q0nak.setCell ⟨gN, 0, none⟩ (.slice (some ⟨g1, 0, none⟩) n n)).setCell ⟨gN, 1, none⟩ (.slice (some ⟨g2, 0, none⟩) n n)).setCell ⟨gN, 2, none⟩ (.int .i64 0)) = q0naks at *
            refine wpAnyH_take (i := 8) (v := ?_) rfl (by kernel_rfl) (by kernel_rfl) (by kernel_rfl) (fun _ _ _ h => h) (Or.inl ⟨by kernel_rfl, ?_⟩) HS ?_
            rotate_left
            · (rintro w -; go_simp) <;> with_reducible rfl
            try simp only [Act.put, List.getElem_toArray, List.getElem_cons_succ, List.getElem_cons_zero, List.setIfInBounds_toArray, List.set_cons_zero, List.set_cons_succ]
            refine wpAnyH_done (by kernel_rfl) ?_ _
            have hg1 := HN.out.2.1.1
            have hg2 := HN.out.2.2.1.1
            have hg3 := HK.out.2.1
            have hgN := HA.out.2.1
            have hl := HL.out
            have hzz := HZ.out
            have n1K := HNE1K.out
            have n1A := HNE1A.out
            have nKA := HNEKA.out
            have n12 := HN.out.2.2.2
            have K1 : Hid (D9 p w h1 h2 hs gN g1 g2 g3 (.slice adC n caC)) := ⟨by omega, by omega, by omega, by omega, by omega, by omega, by omega, fun b hb => H0.out.2.1.lt hb, n12, n1K.1, n1K.2, ⟨by omega, by omega, by omega, n1A.1⟩, ⟨by omega, by omega, by omega, n1A.2⟩, ⟨by omega, by omega, by omega, nKA⟩, HNv.out, HNz.out _ hg1, HNz.out _ hg2, HNz.out _ hg3, HNz.out _ hgN, ⟨by omega, by omega, by omega⟩⟩
            have K4 : Hid (Rw g1 n (fun _ => .int .i64 0) q0naks ∧ Rw g2 n (fun _ => .int .i64 0) q0naks ∧ Rw g3 n (fun _ => .int .i64 0) q0naks) := ⟨HN.out.1.1, HN.out.1.2, HK.out.1⟩
            have K3 : Hid (Y3 gN (.slice (some ⟨g1, 0, none⟩) n n) (.slice (some ⟨g2, 0, none⟩) n n) (.int .i64 0) q0naks) := HA.out.1
            have K5 : Hid (hs ≠ gN) := by show _ ≠ _; omega
            clear HA HK HN HS hg1 hg2 hg3 hgN hl hzz n1K n1A nKA n12 hzq HNz HZ HNE1K HNE1A HNEKA
            go_wp2
            go_meet
            case rel => exact ⟨gN, g1, g2, g3, rfl, rfl, K1, HE, K3, K4, K5⟩
        · have y0 := HA.out.1.c0
          have y1 := HA.out.1.c1
          have y2 := HA.out.1.c2
          have f0 := HA.out.1.f0
          have f1 := HA.out.1.f1
          have f2 := HA.out.1.f2
          go_simp
          refine hK.out _ _ trivial (fun HS => ?_)
          clear hK K y0 y1 y2 f0 f1 f2
          have hl := HL.out
          have hzz := HZ.out
          have hgN := HA.out.2.1
          have n1A := HNE1A.out
          have e : (((q0na.setCell ⟨gN, 0, none⟩ (.slice (some ⟨g1, 0, none⟩) n n)).setCell ⟨gN, 1, none⟩ (.slice (some ⟨g2, 0, none⟩) n n)).setCell ⟨gN, 2, none⟩ (.int .i64 0)).heap.size = q0na.heap.size := by simp only [World.size_setCell]
          replace HE : Hid (E9 p (c + kc) w h1 h2 (fun W' => Q12 hs (.int .i64 B) (.int .i64 Wm) (.slice adD nD caD) (.int .i64 b1) (.int .i64 b2) (.int .i64 ep) (.int .i64 dc) (.int .i64 cl) (.int .i64 t1) (.int .i64 rt) (.int .i64 o1) (.int .i64 o2) W') (.slice adM n caM) (.slice adV n caV) (.slice adC n caC) T n GC (((q0na.setCell ⟨gN, 0, none⟩ (.slice (some ⟨g1, 0, none⟩) n n)).setCell ⟨gN, 1, none⟩ (.slice (some ⟨g2, 0, none⟩) n n)).setCell ⟨gN, 2, none⟩ (.int .i64 0))) := by
            have q1 : gN ≠ h1 ∧ gN ≠ h2 := ⟨by omega, by omega⟩
            have q2 : w.heap.size ≤ gN := by omega
            have q3 : gN ≠ hs := by omega
            exact ((HE.out.far H0.out.1 ⟨gN, 0, none⟩ _ q2 q1 (HNz.out _ hgN) (HE.out.S.far _ _ q3)).far H0.out.1 ⟨gN, 1, none⟩ _ q2 q1 (HNz.out _ hgN) ((HE.out.S.far _ _ q3).far _ _ q3)).far H0.out.1 ⟨gN, 2, none⟩ _ q2 q1 (HNz.out _ hgN) (((HE.out.S.far _ _ q3).far _ _ q3).far _ _ q3)
          replace HA : Hid (Y3 gN (.slice (some ⟨g1, 0, none⟩) n n) (.slice (some ⟨g2, 0, none⟩) n n) (.int .i64 0) (((q0na.setCell ⟨gN, 0, none⟩ (.slice (some ⟨g1, 0, none⟩) n n)).setCell ⟨gN, 1, none⟩ (.slice (some ⟨g2, 0, none⟩) n n)).setCell ⟨gN, 2, none⟩ (.int .i64 0)) ∧ (z ≤ gN ∧ gN < (((q0na.setCell ⟨gN, 0, none⟩ (.slice (some ⟨g1, 0, none⟩) n n)).setCell ⟨gN, 1, none⟩ (.slice (some ⟨g2, 0, none⟩) n n)).setCell ⟨gN, 2, none⟩ (.int .i64 0)).heap.size)) := ⟨((HA.out.1.set0 _).set1 _).set2 _, hgN, by have := HA.out.2.2; omega⟩
          replace HN : Hid ((Rw g1 n (fun _ => .int .i64 0) (((q0na.setCell ⟨gN, 0, none⟩ (.slice (some ⟨g1, 0, none⟩) n n)).setCell ⟨gN, 1, none⟩ (.slice (some ⟨g2, 0, none⟩) n n)).setCell ⟨gN, 2, none⟩ (.int .i64 0)) ∧ Rw g2 n (fun _ => .int .i64 0) (((q0na.setCell ⟨gN, 0, none⟩ (.slice (some ⟨g1, 0, none⟩) n n)).setCell ⟨gN, 1, none⟩ (.slice (some ⟨g2, 0, none⟩) n n)).setCell ⟨gN, 2, none⟩ (.int .i64 0))) ∧ (z ≤ g1 ∧ g1 < (((q0na.setCell ⟨gN, 0, none⟩ (.slice (some ⟨g1, 0, none⟩) n n)).setCell ⟨gN, 1, none⟩ (.slice (some ⟨g2, 0, none⟩) n n)).setCell ⟨gN, 2, none⟩ (.int .i64 0)).heap.size) ∧ (z ≤ g2 ∧ g2 < (((q0na.setCell ⟨gN, 0, none⟩ (.slice (some ⟨g1, 0, none⟩) n n)).setCell ⟨gN, 1, none⟩ (.slice (some ⟨g2, 0, none⟩) n n)).setCell ⟨gN, 2, none⟩ (.int .i64 0)).heap.size) ∧ g1 ≠ g2) := ⟨⟨((HN.out.1.1.far (p := ⟨gN, 0, none⟩) _ (fun e => n1A.1 e.symm)).far (p := ⟨gN, 1, none⟩) _ (fun e => n1A.1 e.symm)).far (p := ⟨gN, 2, none⟩) _ (fun e => n1A.1 e.symm), ((HN.out.1.2.far (p := ⟨gN, 0, none⟩) _ (fun e => n1A.2 e.symm)).far (p := ⟨gN, 1, none⟩) _ (fun e => n1A.2 e.symm)).far (p := ⟨gN, 2, none⟩) _ (fun e => n1A.2 e.symm)⟩, ⟨HN.out.2.1.1, by have := HN.out.2.1.2; omega⟩, ⟨HN.out.2.2.1.1, by have := HN.out.2.2.1.2; omega⟩, HN.out.2.2.2⟩
          replace hzq : z ≤ (((q0na.setCell ⟨gN, 0, none⟩ (.slice (some ⟨g1, 0, none⟩) n n)).setCell ⟨gN, 1, none⟩ (.slice (some ⟨g2, 0, none⟩) n n)).setCell ⟨gN, 2, none⟩ (.int .i64 0)).heap.size := by omega
          clear hl hzz hgN n1A e
          generalize (((q0na.setCell ⟨gN, 0, none⟩ (.slice (some ⟨g1, 0, none⟩) n n)).setCell ⟨gN, 1, none⟩ (.slice (some ⟨g2, 0, none⟩) n n)).setCell ⟨gN, 2, none⟩ (.int .i64 0)) = q0nas at *
          refine wpAnyH_ready (rs := [5]) (by kernel_rfl) (by simp) ?_
          refine AllReadyH.cons rfl (fun K hK => ?_) AllReadyH.nil
          · go_simp
            refine hK.out _ _ trivial (fun HS => ?_)
            clear hK K
            have hbn : Below q0nas.heap.size q0nas (q0nas.alloc (.cells (madeCells #[.int .i64 0] n) 22)) := bel1 _ _
            have hsz : (q0nas.alloc (.cells (madeCells #[.int .i64 0] n) 22)).heap.size = q0nas.heap.size + 1 := by rw [World.size_alloc]
            have HNE1K : Hid (g1 ≠ q0nas.heap.size ∧ g2 ≠ q0nas.heap.size) := ⟨by have := HN.out.2.1.2; omega, by have := HN.out.2.2.1.2; omega⟩
            have HNEKA : Hid (q0nas.heap.size ≠ gN) := by show _ ≠ _; have := HA.out.2.2; omega
            have HK : Hid (Rw q0nas.heap.size n (fun _ => .int .i64 0) (q0nas.alloc (.cells (madeCells #[.int .i64 0] n) 22)) ∧ (z ≤ q0nas.heap.size ∧ q0nas.heap.size < (q0nas.alloc (.cells (madeCells #[.int .i64 0] n) 22)).heap.size)) := ⟨Rw.made q0nas (.int .i64 0) n 22, hzq, by omega⟩
            replace HE : Hid (E9 p (c + kc) w h1 h2 (fun W' => Q12 hs (.int .i64 B) (.int .i64 Wm) (.slice adD nD caD) (.int .i64 b1) (.int .i64 b2) (.int .i64 ep) (.int .i64 dc) (.int .i64 cl) (.int .i64 t1) (.int .i64 rt) (.int .i64 o1) (.int .i64 o2) W') (.slice adM n caM) (.slice adV n caV) (.slice adC n caC) T n GC (q0nas.alloc (.cells (madeCells #[.int .i64 0] n) 22))) := HE.out.later hbn (HE.out.S.later hbn)
            replace HN : Hid ((Rw g1 n (fun _ => .int .i64 0) (q0nas.alloc (.cells (madeCells #[.int .i64 0] n) 22)) ∧ Rw g2 n (fun _ => .int .i64 0) (q0nas.alloc (.cells (madeCells #[.int .i64 0] n) 22))) ∧ (z ≤ g1 ∧ g1 < (q0nas.alloc (.cells (madeCells #[.int .i64 0] n) 22)).heap.size) ∧ (z ≤ g2 ∧ g2 < (q0nas.alloc (.cells (madeCells #[.int .i64 0] n) 22)).heap.size) ∧ g1 ≠ g2) := ⟨⟨HN.out.1.1.later hbn, HN.out.1.2.later hbn⟩, ⟨HN.out.2.1.1, by have := HN.out.2.1.2; have := (hbn).size; omega⟩, ⟨HN.out.2.2.1.1, by have := HN.out.2.2.1.2; have := (hbn).size; omega⟩, HN.out.2.2.2⟩
            replace HA : Hid (Y3 gN (.slice (some ⟨g1, 0, none⟩) n n) (.slice (some ⟨g2, 0, none⟩) n n) (.int .i64 0) (q0nas.alloc (.cells (madeCells #[.int .i64 0] n) 22)) ∧ (z ≤ gN ∧ gN < (q0nas.alloc (.cells (madeCells #[.int .i64 0] n) 22)).heap.size)) := ⟨HA.out.1.later hbn, HA.out.2.1, by have := HA.out.2.2; have := (hbn).size; omega⟩
            replace hzq : z ≤ (q0nas.alloc (.cells (madeCells #[.int .i64 0] n) 22)).heap.size := by have := (hbn).size; omega
            clear hbn hsz
            generalize (q0nas.alloc (.cells (madeCells #[.int .i64 0] n) 22)) = q0nask at *
            generalize q0nas.heap.size = g3 at *
            refine wpAnyH_take (i := 8) (v := ?_) rfl (by kernel_rfl) (by kernel_rfl) (by kernel_rfl) (fun _ _ _ h => h) (Or.inl ⟨by kernel_rfl, ?_⟩) HS ?_
            rotate_left
            · (rintro w -; go_simp) <;> with_reducible rfl
            try simp only [Act.put, List.getElem_toArray, List.getElem_cons_succ, List.getElem_cons_zero, List.setIfInBounds_toArray, List.set_cons_zero, List.set_cons_succ]
            refine wpAnyH_done (by kernel_rfl) ?_ _
            have hg1 := HN.out.2.1.1
            have hg2 := HN.out.2.2.1.1
            have hg3 := HK.out.2.1
            have hgN := HA.out.2.1
            have hl := HL.out
            have hzz := HZ.out
            have n1K := HNE1K.out
            have n1A := HNE1A.out
            have nKA := HNEKA.out
            have n12 := HN.out.2.2.2
            have K1 : Hid (D9 p w h1 h2 hs gN g1 g2 g3 (.slice adC n caC)) := ⟨by omega, by omega, by omega, by omega, by omega, by omega, by omega, fun b hb => H0.out.2.1.lt hb, n12, n1K.1, n1K.2, ⟨by omega, by omega, by omega, n1A.1⟩, ⟨by omega, by omega, by omega, n1A.2⟩, ⟨by omega, by omega, by omega, nKA⟩, HNv.out, HNz.out _ hg1, HNz.out _ hg2, HNz.out _ hg3, HNz.out _ hgN, ⟨by omega, by omega, by omega⟩⟩
            have K4 : Hid (Rw g1 n (fun _ => .int .i64 0) q0nask ∧ Rw g2 n (fun _ => .int .i64 0) q0nask ∧ Rw g3 n (fun _ => .int .i64 0) q0nask) := ⟨HN.out.1.1, HN.out.1.2, HK.out.1⟩
            have K3 : Hid (Y3 gN (.slice (some ⟨g1, 0, none⟩) n n) (.slice (some ⟨g2, 0, none⟩) n n) (.int .i64 0) q0nask) := HA.out.1
            have K5 : Hid (hs ≠ gN) := by show _ ≠ _; omega
            clear HA HK HN HS hg1 hg2 hg3 hgN hl hzz n1K n1A nKA n12 hzq HNz HZ HNE1K HNE1A HNEKA
            go_wp2
            go_meet
            case rel => exact ⟨gN, g1, g2, g3, rfl, rfl, K1, HE, K3, K4, K5⟩
    · go_simp
      refine hK.out _ _ trivial (fun HS => ?_)
      clear hK K
      have hbn : Below q0.heap.size q0 (q0.alloc (.cells (madeCells #[.int .i64 0] n) 22)) := bel1 _ _
      have hsz : (q0.alloc (.cells (madeCells #[.int .i64 0] n) 22)).heap.size = q0.heap.size + 1 := by rw [World.size_alloc]
      have HK : Hid (Rw q0.heap.size n (fun _ => .int .i64 0) (q0.alloc (.cells (madeCells #[.int .i64 0] n) 22)) ∧ (z ≤ q0.heap.size ∧ q0.heap.size < (q0.alloc (.cells (madeCells #[.int .i64 0] n) 22)).heap.size)) := ⟨Rw.made q0 (.int .i64 0) n 22, hzq, by omega⟩
      replace HE : Hid (E9 p (c + kc) w h1 h2 (fun W' => Q12 hs (.int .i64 B) (.int .i64 Wm) (.slice adD nD caD) (.int .i64 b1) (.int .i64 b2) (.int .i64 ep) (.int .i64 dc) (.int .i64 cl) (.int .i64 t1) (.int .i64 rt) (.int .i64 o1) (.int .i64 o2) W') (.slice adM n caM) (.slice adV n caV) (.slice adC n caC) T n GC (q0.alloc (.cells (madeCells #[.int .i64 0] n) 22))) := HE.out.later hbn (HE.out.S.later hbn)
      replace hzq : z ≤ (q0.alloc (.cells (madeCells #[.int .i64 0] n) 22)).heap.size := by have := (hbn).size; omega
      clear hbn hsz
      generalize (q0.alloc (.cells (madeCells #[.int .i64 0] n) 22)) = q0k at *
      generalize q0.heap.size = g3 at *
      refine wpAnyH_ready (rs := [2, 6]) (by kernel_rfl) (by simp) ?_
      refine AllReadyH.cons rfl (fun K hK => ?_) (AllReadyH.cons rfl (fun K hK => ?_) AllReadyH.nil)
      · go_simp
        refine (nought9_any n hn _).mono ?_
        rintro e q0kn ⟨g1, g2, rfl, hN⟩
        refine hK.out _ _ trivial (fun HS => ?_)
        clear hK K
        have hbn : Below q0k.heap.size q0k q0kn := hN.b
        have HNE1K : Hid (g1 ≠ g3 ∧ g2 ≠ g3) := ⟨by have := HK.out.2.2; have := hN.l1; omega, by have := HK.out.2.2; have := hN.l2; omega⟩
        have HN : Hid ((Rw g1 n (fun _ => .int .i64 0) q0kn ∧ Rw g2 n (fun _ => .int .i64 0) q0kn) ∧ (z ≤ g1 ∧ g1 < q0kn.heap.size) ∧ (z ≤ g2 ∧ g2 < q0kn.heap.size) ∧ g1 ≠ g2) := ⟨⟨hN.r1, hN.r2⟩, ⟨by have := hN.l1; omega, hN.l1.2⟩, ⟨by have := hN.l2; omega, hN.l2.2⟩, hN.ne⟩
        replace HE : Hid (E9 p (c + kc) w h1 h2 (fun W' => Q12 hs (.int .i64 B) (.int .i64 Wm) (.slice adD nD caD) (.int .i64 b1) (.int .i64 b2) (.int .i64 ep) (.int .i64 dc) (.int .i64 cl) (.int .i64 t1) (.int .i64 rt) (.int .i64 o1) (.int .i64 o2) W') (.slice adM n caM) (.slice adV n caV) (.slice adC n caC) T n GC q0kn) := HE.out.later hbn (HE.out.S.later hbn)
        replace HK : Hid (Rw g3 n (fun _ => .int .i64 0) q0kn ∧ (z ≤ g3 ∧ g3 < q0kn.heap.size)) := ⟨HK.out.1.later hbn, HK.out.2.1, by have := HK.out.2.2; have := (hbn).size; omega⟩
        replace hzq : z ≤ q0kn.heap.size := by have := (hbn).size; omega
        clear hN hbn
        refine wpAnyH_ready (rs := [6]) (by kernel_rfl) (by simp) ?_
        refine AllReadyH.cons rfl (fun K hK => ?_) AllReadyH.nil
        · go_simp
          refine hK.out _ _ trivial (fun HS => ?_)
          clear hK K
          have hbn : Below q0kn.heap.size q0kn (q0kn.alloc (.cells #[.slice none 0 0, .slice none 0 0, .int .i64 0] 30)) := bel1 _ _
          have hsz : (q0kn.alloc (.cells #[.slice none 0 0, .slice none 0 0, .int .i64 0] 30)).heap.size = q0kn.heap.size + 1 := by rw [World.size_alloc]
          have HNE1A : Hid (g1 ≠ q0kn.heap.size ∧ g2 ≠ q0kn.heap.size) := ⟨by have := HN.out.2.1.2; omega, by have := HN.out.2.2.1.2; omega⟩
          have HNEKA : Hid (g3 ≠ q0kn.heap.size) := by show _ ≠ _; have := HK.out.2.2; omega
          have HA : Hid (Y3 q0kn.heap.size (.slice none 0 0) (.slice none 0 0) (.int .i64 0) (q0kn.alloc (.cells #[.slice none 0 0, .slice none 0 0, .int .i64 0] 30)) ∧ (z ≤ q0kn.heap.size ∧ q0kn.heap.size < (q0kn.alloc (.cells #[.slice none 0 0, .slice none 0 0, .int .i64 0] 30)).heap.size)) := ⟨Y3.new _ _ _ _ _, hzq, by omega⟩
          replace HE : Hid (E9 p (c + kc) w h1 h2 (fun W' => Q12 hs (.int .i64 B) (.int .i64 Wm) (.slice adD nD caD) (.int .i64 b1) (.int .i64 b2) (.int .i64 ep) (.int .i64 dc) (.int .i64 cl) (.int .i64 t1) (.int .i64 rt) (.int .i64 o1) (.int .i64 o2) W') (.slice adM n caM) (.slice adV n caV) (.slice adC n caC) T n GC (q0kn.alloc (.cells #[.slice none 0 0, .slice none 0 0, .int .i64 0] 30))) := HE.out.later hbn (HE.out.S.later hbn)
          replace HN : Hid ((Rw g1 n (fun _ => .int .i64 0) (q0kn.alloc (.cells #[.slice none 0 0, .slice none 0 0, .int .i64 0] 30)) ∧ Rw g2 n (fun _ => .int .i64 0) (q0kn.alloc (.cells #[.slice none 0 0, .slice none 0 0, .int .i64 0] 30))) ∧ (z ≤ g1 ∧ g1 < (q0kn.alloc (.cells #[.slice none 0 0, .slice none 0 0, .int .i64 0] 30)).heap.size) ∧ (z ≤ g2 ∧ g2 < (q0kn.alloc (.cells #[.slice none 0 0, .slice none 0 0, .int .i64 0] 30)).heap.size) ∧ g1 ≠ g2) := ⟨⟨HN.out.1.1.later hbn, HN.out.1.2.later hbn⟩, ⟨HN.out.2.1.1, by have := HN.out.2.1.2; have := (hbn).size; omega⟩, ⟨HN.out.2.2.1.1, by have := HN.out.2.2.1.2; have := (hbn).size; omega⟩, HN.out.2.2.2⟩
          replace HK : Hid (Rw g3 n (fun _ => .int .i64 0) (q0kn.alloc (.cells #[.slice none 0 0, .slice none 0 0, .int .i64 0] 30)) ∧ (z ≤ g3 ∧ g3 < (q0kn.alloc (.cells #[.slice none 0 0, .slice none 0 0, .int .i64 0] 30)).heap.size)) := ⟨HK.out.1.later hbn, HK.out.2.1, by have := HK.out.2.2; have := (hbn).size; omega⟩
          replace hzq : z ≤ (q0kn.alloc (.cells #[.slice none 0 0, .slice none 0 0, .int .i64 0] 30)).heap.size := by have := (hbn).size; omega
          clear hbn hsz
          generalize (q0kn.alloc (.cells #[.slice none 0 0, .slice none 0 0, .int .i64 0] 30)) = q0kna at *
          generalize q0kn.heap.size = gN at *
          refine wpAnyH_ready (rs := [7]) (by kernel_rfl) (by simp) ?_
          refine AllReadyH.cons rfl (fun K hK => ?_) AllReadyH.nil
          · have y0 := HA.out.1.c0
            have y1 := HA.out.1.c1
            have y2 := HA.out.1.c2
            have f0 := HA.out.1.f0
            have f1 := HA.out.1.f1
            have f2 := HA.out.1.f2
            go_simp
            refine hK.out _ _ trivial (fun HS => ?_)
            clear hK K y0 y1 y2 f0 f1 f2
            have hl := HL.out
            have hzz := HZ.out
            have hgN := HA.out.2.1
            have n1A := HNE1A.out
            have e : (((q0kna.setCell ⟨gN, 0, none⟩ (.slice (some ⟨g1, 0, none⟩) n n)).setCell ⟨gN, 1, none⟩ (.slice (some ⟨g2, 0, none⟩) n n)).setCell ⟨gN, 2, none⟩ (.int .i64 0)).heap.size = q0kna.heap.size := by simp only [World.size_setCell]
            replace HE : Hid (E9 p (c + kc) w h1 h2 (fun W' => Q12 hs (.int .i64 B) (.int .i64 Wm) (.slice adD nD caD) (.int .i64 b1) (.int .i64 b2) (.int .i64 ep) (.int .i64 dc) (.int .i64 cl) (.int .i64 t1) (.int .i64 rt) (.int .i64 o1) (.int .i64 o2) W') (.slice adM n caM) (.slice adV n caV) (.slice adC n caC) T n GC (((q0kna.setCell ⟨gN, 0, none⟩ (.slice (some ⟨g1, 0, none⟩) n n)).setCell ⟨gN, 1, none⟩ (.slice (some ⟨g2, 0, none⟩) n n)).setCell ⟨gN, 2, none⟩ (.int .i64 0))) := by
              have q1 : gN ≠ h1 ∧ gN ≠ h2 := ⟨by omega, by omega⟩
              have q2 : w.heap.size ≤ gN := by omega
              have q3 : gN ≠ hs := by omega
              exact ((HE.out.far H0.out.1 ⟨gN, 0, none⟩ _ q2 q1 (HNz.out _ hgN) (HE.out.S.far _ _ q3)).far H0.out.1 ⟨gN, 1, none⟩ _ q2 q1 (HNz.out _ hgN) ((HE.out.S.far _ _ q3).far _ _ q3)).far H0.out.1 ⟨gN, 2, none⟩ _ q2 q1 (HNz.out _ hgN) (((HE.out.S.far _ _ q3).far _ _ q3).far _ _ q3)
            replace HA : Hid (Y3 gN (.slice (some ⟨g1, 0, none⟩) n n) (.slice (some ⟨g2, 0, none⟩) n n) (.int .i64 0) (((q0kna.setCell ⟨gN, 0, none⟩ (.slice (some ⟨g1, 0, none⟩) n n)).setCell ⟨gN, 1, none⟩ (.slice (some ⟨g2, 0, none⟩) n n)).setCell ⟨gN, 2, none⟩ (.int .i64 0)) ∧ (z ≤ gN ∧ gN < (((q0kna.setCell ⟨gN, 0, none⟩ (.slice (some ⟨g1, 0, none⟩) n n)).setCell ⟨gN, 1, none⟩ (.slice (some ⟨g2, 0, none⟩) n n)).setCell ⟨gN, 2, none⟩ (.int .i64 0)).heap.size)) := ⟨((HA.out.1.set0 _).set1 _).set2 _, hgN, by have := HA.out.2.2; omega⟩
            replace HN : Hid ((Rw g1 n (fun _ => .int .i64 0) (((q0kna.setCell ⟨gN, 0, none⟩ (.slice (some ⟨g1, 0, none⟩) n n)).setCell ⟨gN, 1, none⟩ (.slice (some ⟨g2, 0, none⟩) n n)).setCell ⟨gN, 2, none⟩ (.int .i64 0)) ∧ Rw g2 n (fun _ => .int .i64 0) (((q0kna.setCell ⟨gN, 0, none⟩ (.slice (some ⟨g1, 0, none⟩) n n)).setCell ⟨gN, 1, none⟩ (.slice (some ⟨g2, 0, none⟩) n n)).setCell ⟨gN, 2, none⟩ (.int .i64 0))) ∧ (z ≤ g1 ∧ g1 < (((q0kna.setCell ⟨gN, 0, none⟩ (.slice (some ⟨g1, 0, none⟩) n n)).setCell ⟨gN, 1, none⟩ (.slice (some ⟨g2, 0, none⟩) n n)).setCell ⟨gN, 2, none⟩ (.int .i64 0)).heap.size) ∧ (z ≤ g2 ∧ g2 < (((q0kna.setCell ⟨gN, 0, none⟩ (.slice (some ⟨g1, 0, none⟩) n n)).setCell ⟨gN, 1, none⟩ (.slice (some ⟨g2, 0, none⟩) n n)).setCell ⟨gN, 2, none⟩ (.int .i64 0)).heap.size) ∧ g1 ≠ g2) := ⟨⟨((HN.out.1.1.far (p := ⟨gN, 0, none⟩) _ (fun e => n1A.1 e.symm)).far (p := ⟨gN, 1, none⟩) _ (fun e => n1A.1 e.symm)).far (p := ⟨gN, 2, none⟩) _ (fun e => n1A.1 e.symm), ((HN.out.1.2.far (p := ⟨gN, 0, none⟩) _ (fun e => n1A.2 e.symm)).far (p := ⟨gN, 1, none⟩) _ (fun e => n1A.2 e.symm)).far (p := ⟨gN, 2, none⟩) _ (fun e => n1A.2 e.symm)⟩, ⟨HN.out.2.1.1, by have := HN.out.2.1.2; omega⟩, ⟨HN.out.2.2.1.1, by have := HN.out.2.2.1.2; omega⟩, HN.out.2.2.2⟩
            replace HK : Hid (Rw g3 n (fun _ => .int .i64 0) (((q0kna.setCell ⟨gN, 0, none⟩ (.slice (some ⟨g1, 0, none⟩) n n)).setCell ⟨gN, 1, none⟩ (.slice (some ⟨g2, 0, none⟩) n n)).setCell ⟨gN, 2, none⟩ (.int .i64 0)) ∧ (z ≤ g3 ∧ g3 < (((q0kna.setCell ⟨gN, 0, none⟩ (.slice (some ⟨g1, 0, none⟩) n n)).setCell ⟨gN, 1, none⟩ (.slice (some ⟨g2, 0, none⟩) n n)).setCell ⟨gN, 2, none⟩ (.int .i64 0)).heap.size)) := ⟨((HK.out.1.far (p := ⟨gN, 0, none⟩) _ (fun e => HNEKA.out e.symm)).far (p := ⟨gN, 1, none⟩) _ (fun e => HNEKA.out e.symm)).far (p := ⟨gN, 2, none⟩) _ (fun e => HNEKA.out e.symm), HK.out.2.1, by have := HK.out.2.2; omega⟩
            replace hzq : z ≤ (((q0kna.setCell ⟨gN, 0, none⟩ (.slice (some ⟨g1, 0, none⟩) n n)).setCell ⟨gN, 1, none⟩ (.slice (some ⟨g2, 0, none⟩) n n)).setCell ⟨gN, 2, none⟩ (.int .i64 0)).heap.size := by omega
            clear hl hzz hgN n1A e
            generalize (((q0kna.setCell ⟨gN, 0, none⟩ (.slice (some ⟨g1, 0, none⟩) n n)).setCell ⟨gN, 1, none⟩ (.slice (some ⟨g2, 0, none⟩) n n)).setCell ⟨gN, 2, none⟩ (.int .i64 0)) = q0knas at *
            refine wpAnyH_take (i := 8) (v := ?_) rfl (by kernel_rfl) (by kernel_rfl) (by kernel_rfl) (fun _ _ _ h => h) (Or.inl ⟨by kernel_rfl, ?_⟩) HS ?_
            rotate_left
            · (rintro w -; go_simp) <;> with_reducible rfl
            try simp only [Act.put, List.getElem_toArray, List.getElem_cons_succ, List.getElem_cons_zero, List.setIfInBounds_toArray, List.set_cons_zero, List.set_cons_succ]
            refine wpAnyH_done (by kernel_rfl) ?_ _
            have hg1 := HN.out.2.1.1
            have hg2 := HN.out.2.2.1.1
            have hg3 := HK.out.2.1
            have hgN := HA.out.2.1
            have hl := HL.out
            have hzz := HZ.out
            have n1K := HNE1K.out
            have n1A := HNE1A.out
            have nKA := HNEKA.out
            have n12 := HN.out.2.2.2
            have K1 : Hid (D9 p w h1 h2 hs gN g1 g2 g3 (.slice adC n caC)) := ⟨by omega, by omega, by omega, by omega, by omega, by omega, by omega, fun b hb => H0.out.2.1.lt hb, n12, n1K.1, n1K.2, ⟨by omega, by omega, by omega, n1A.1⟩, ⟨by omega, by omega, by omega, n1A.2⟩, ⟨by omega, by omega, by omega, nKA⟩, HNv.out, HNz.out _ hg1, HNz.out _ hg2, HNz.out _ hg3, HNz.out _ hgN, ⟨by omega, by omega, by omega⟩⟩
            have K4 : Hid (Rw g1 n (fun _ => .int .i64 0) q0knas ∧ Rw g2 n (fun _ => .int .i64 0) q0knas ∧ Rw g3 n (fun _ => .int .i64 0) q0knas) := ⟨HN.out.1.1, HN.out.1.2, HK.out.1⟩
            have K3 : Hid (Y3 gN (.slice (some ⟨g1, 0, none⟩) n n) (.slice (some ⟨g2, 0, none⟩) n n) (.int .i64 0) q0knas) := HA.out.1
            have K5 : Hid (hs ≠ gN) := by show _ ≠ _; omega
            clear HA HK HN HS hg1 hg2 hg3 hgN hl hzz n1K n1A nKA n12 hzq HNz HZ HNE1K HNE1A HNEKA
            go_wp2
            go_meet
            case rel => exact ⟨gN, g1, g2, g3, rfl, rfl, K1, HE, K3, K4, K5⟩
      · go_simp
        refine hK.out _ _ trivial (fun HS => ?_)
        clear hK K
        have hbn : Below q0k.heap.size q0k (q0k.alloc (.cells #[.slice none 0 0, .slice none 0 0, .int .i64 0] 30)) := bel1 _ _
        have hsz : (q0k.alloc (.cells #[.slice none 0 0, .slice none 0 0, .int .i64 0] 30)).heap.size = q0k.heap.size + 1 := by rw [World.size_alloc]
        have HNEKA : Hid (g3 ≠ q0k.heap.size) := by show _ ≠ _; have := HK.out.2.2; omega
        have HA : Hid (Y3 q0k.heap.size (.slice none 0 0) (.slice none 0 0) (.int .i64 0) (q0k.alloc (.cells #[.slice none 0 0, .slice none 0 0, .int .i64 0] 30)) ∧ (z ≤ q0k.heap.size ∧ q0k.heap.size < (q0k.alloc (.cells #[.slice none 0 0, .slice none 0 0, .int .i64 0] 30)).heap.size)) := ⟨Y3.new _ _ _ _ _, hzq, by omega⟩
        replace HE : Hid (E9 p (c + kc) w h1 h2 (fun W' => Q12 hs (.int .i64 B) (.int .i64 Wm) (.slice adD nD caD) (.int .i64 b1) (.int .i64 b2) (.int .i64 ep) (.int .i64 dc) (.int .i64 cl) (.int .i64 t1) (.int .i64 rt) (.int .i64 o1) (.int .i64 o2) W') (.slice adM n caM) (.slice adV n caV) (.slice adC n caC) T n GC (q0k.alloc (.cells #[.slice none 0 0, .slice none 0 0, .int .i64 0] 30))) := HE.out.later hbn (HE.out.S.later hbn)
        replace HK : Hid (Rw g3 n (fun _ => .int .i64 0) (q0k.alloc (.cells #[.slice none 0 0, .slice none 0 0, .int .i64 0] 30)) ∧ (z ≤ g3 ∧ g3 < (q0k.alloc (.cells #[.slice none 0 0, .slice none 0 0, .int .i64 0] 30)).heap.size)) := ⟨HK.out.1.later hbn, HK.out.2.1, by have := HK.out.2.2; have := (hbn).size; omega⟩
        replace hzq : z ≤ (q0k.alloc (.cells #[.slice none 0 0, .slice none 0 0, .int .i64 0] 30)).heap.size := by have := (hbn).size; omega
        clear hbn hsz
        generalize (q0k.alloc (.cells #[.slice none 0 0, .slice none 0 0, .int .i64 0] 30)) = q0ka at *
        generalize q0k.heap.size = gN at *
        refine wpAnyH_ready (rs := [2]) (by kernel_rfl) (by simp) ?_
        refine AllReadyH.cons rfl (fun K hK => ?_) AllReadyH.nil
        · go_simp
          refine (nought9_any n hn _).mono ?_
          rintro e q0kan ⟨g1, g2, rfl, hN⟩
          refine hK.out _ _ trivial (fun HS => ?_)
          clear hK K
          have hbn : Below q0ka.heap.size q0ka q0kan := hN.b
          have HNE1K : Hid (g1 ≠ g3 ∧ g2 ≠ g3) := ⟨by have := HK.out.2.2; have := hN.l1; omega, by have := HK.out.2.2; have := hN.l2; omega⟩
          have HNE1A : Hid (g1 ≠ gN ∧ g2 ≠ gN) := ⟨by have := HA.out.2.2; have := hN.l1; omega, by have := HA.out.2.2; have := hN.l2; omega⟩
          have HN : Hid ((Rw g1 n (fun _ => .int .i64 0) q0kan ∧ Rw g2 n (fun _ => .int .i64 0) q0kan) ∧ (z ≤ g1 ∧ g1 < q0kan.heap.size) ∧ (z ≤ g2 ∧ g2 < q0kan.heap.size) ∧ g1 ≠ g2) := ⟨⟨hN.r1, hN.r2⟩, ⟨by have := hN.l1; omega, hN.l1.2⟩, ⟨by have := hN.l2; omega, hN.l2.2⟩, hN.ne⟩
          replace HE : Hid (E9 p (c + kc) w h1 h2 (fun W' => Q12 hs (.int .i64 B) (.int .i64 Wm) (.slice adD nD caD) (.int .i64 b1) (.int .i64 b2) (.int .i64 ep) (.int .i64 dc) (.int .i64 cl) (.int .i64 t1) (.int .i64 rt) (.int .i64 o1) (.int .i64 o2) W') (.slice adM n caM) (.slice adV n caV) (.slice adC n caC) T n GC q0kan) := HE.out.later hbn (HE.out.S.later hbn)
          replace HK : Hid (Rw g3 n (fun _ => .int .i64 0) q0kan ∧ (z ≤ g3 ∧ g3 < q0kan.heap.size)) := ⟨HK.out.1.later hbn, HK.out.2.1, by have := HK.out.2.2; have := (hbn).size; omega⟩
          replace HA : Hid (Y3 gN (.slice none 0 0) (.slice none 0 0) (.int .i64 0) q0kan ∧ (z ≤ gN ∧ gN < q0kan.heap.size)) := ⟨HA.out.1.later hbn, HA.out.2.1, by have := HA.out.2.2; have := (hbn).size; omega⟩
          replace hzq : z ≤ q0kan.heap.size := by have := (hbn).size; omega
          clear hN hbn
          refine wpAnyH_ready (rs := [7]) (by kernel_rfl) (by simp) ?_
          refine AllReadyH.cons rfl (fun K hK => ?_) AllReadyH.nil
          · have y0 := HA.out.1.c0
            have y1 := HA.out.1.c1
            have y2 := HA.out.1.c2
            have f0 := HA.out.1.f0
            have f1 := HA.out.1.f1
            have f2 := HA.out.1.f2
            go_simp
            refine hK.out _ _ trivial (fun HS => ?_)
            clear hK K y0 y1 y2 f0 f1 f2
            have hl := HL.out
            have hzz := HZ.out
            have hgN := HA.out.2.1
            have n1A := HNE1A.out
            have e : (((q0kan.setCell ⟨gN, 0, none⟩ (.slice (some ⟨g1, 0, none⟩) n n)).setCell ⟨gN, 1, none⟩ (.slice (some ⟨g2, 0, none⟩) n n)).setCell ⟨gN, 2, none⟩ (.int .i64 0)).heap.size = q0kan.heap.size := by simp only [World.size_setCell]
            replace HE : Hid (E9 p (c + kc) w h1 h2 (fun W' => Q12 hs (.int .i64 B) (.int .i64 Wm) (.slice adD nD caD) (.int .i64 b1) (.int .i64 b2) (.int .i64 ep) (.int .i64 dc) (.int .i64 cl) (.int .i64 t1) (.int .i64 rt) (.int .i64 o1) (.int .i64 o2) W') (.slice adM n caM) (.slice adV n caV) (.slice adC n caC) T n GC (((q0kan.setCell ⟨gN, 0, none⟩ (.slice (some ⟨g1, 0, none⟩) n n)).setCell ⟨gN, 1, none⟩ (.slice (some ⟨g2, 0, none⟩) n n)).setCell ⟨gN, 2, none⟩ (.int .i64 0))) := by
              have q1 : gN ≠ h1 ∧ gN ≠ h2 := ⟨by omega, by omega⟩
              have q2 : w.heap.size ≤ gN := by omega
              have q3 : gN ≠ hs := by omega
              exact ((HE.out.far H0.out.1 ⟨gN, 0, none⟩ _ q2 q1 (HNz.out _ hgN) (HE.out.S.far _ _ q3)).far H0.out.1 ⟨gN, 1, none⟩ _ q2 q1 (HNz.out _ hgN) ((HE.out.S.far _ _ q3).far _ _ q3)).far H0.out.1 ⟨gN, 2, none⟩ _ q2 q1 (HNz.out _ hgN) (((HE.out.S.far _ _ q3).far _ _ q3).far _ _ q3)
            replace HA : Hid (Y3 gN (.slice (some ⟨g1, 0, none⟩) n n) (.slice (some ⟨g2, 0, none⟩) n n) (.int .i64 0) (((q0kan.setCell ⟨gN, 0, none⟩ (.slice (some ⟨g1, 0, none⟩) n n)).setCell ⟨gN, 1, none⟩ (.slice (some ⟨g2, 0, none⟩) n n)).setCell ⟨gN, 2, none⟩ (.int .i64 0)) ∧ (z ≤ gN ∧ gN < (((q0kan.setCell ⟨gN, 0, none⟩ (.slice (some ⟨g1, 0, none⟩) n n)).setCell ⟨gN, 1, none⟩ (.slice (some ⟨g2, 0, none⟩) n n)).setCell ⟨gN, 2, none⟩ (.int .i64 0)).heap.size)) := ⟨((HA.out.1.set0 _).set1 _).set2 _, hgN, by have := HA.out.2.2; omega⟩
            replace HN : Hid ((Rw g1 n (fun _ => .int .i64 0) (((q0kan.setCell ⟨gN, 0, none⟩ (.slice (some ⟨g1, 0, none⟩) n n)).setCell ⟨gN, 1, none⟩ (.slice (some ⟨g2, 0, none⟩) n n)).setCell ⟨gN, 2, none⟩ (.int .i64 0)) ∧ Rw g2 n (fun _ => .int .i64 0) (((q0kan.setCell ⟨gN, 0, none⟩ (.slice (some ⟨g1, 0, none⟩) n n)).setCell ⟨gN, 1, none⟩ (.slice (some ⟨g2, 0, none⟩) n n)).setCell ⟨gN, 2, none⟩ (.int .i64 0))) ∧ (z ≤ g1 ∧ g1 < (((q0kan.setCell ⟨gN, 0, none⟩ (.slice (some ⟨g1, 0, none⟩) n n)).setCell ⟨gN, 1, none⟩ (.slice (some ⟨g2, 0, none⟩) n n)).setCell ⟨gN, 2, none⟩ (.int .i64 0)).heap.size) ∧ (z ≤ g2 ∧ g2 < (((q0kan.setCell ⟨gN, 0, none⟩ (.slice (some ⟨g1, 0, none⟩) n n)).setCell ⟨gN, 1, none⟩ (.slice (some ⟨g2, 0, none⟩) n n)).setCell ⟨gN, 2, none⟩ (.int .i64 0)).heap.size) ∧ g1 ≠ g2) := ⟨⟨((HN.out.1.1.far (p := ⟨gN, 0, none⟩) _ (fun e => n1A.1 e.symm)).far (p := ⟨gN, 1, none⟩) _ (fun e => n1A.1 e.symm)).far (p := ⟨gN, 2, none⟩) _ (fun e => n1A.1 e.symm), ((HN.out.1.2.far (p := ⟨gN, 0, none⟩) _ (fun e => n1A.2 e.symm)).far (p := ⟨gN, 1, none⟩) _ (fun e => n1A.2 e.symm)).far (p := ⟨gN, 2, none⟩) _ (fun e => n1A.2 e.symm)⟩, ⟨HN.out.2.1.1, by have := HN.out.2.1.2; omega⟩, ⟨HN.out.2.2.1.1, by have := HN.out.2.2.1.2; omega⟩, HN.out.2.2.2⟩
            replace HK : Hid (Rw g3 n (fun _ => .int .i64 0) (((q0kan.setCell ⟨gN, 0, none⟩ (.slice (some ⟨g1, 0, none⟩) n n)).setCell ⟨gN, 1, none⟩ (.slice (some ⟨g2, 0, none⟩) n n)).setCell ⟨gN, 2, none⟩ (.int .i64 0)) ∧ (z ≤ g3 ∧ g3 < (((q0kan.setCell ⟨gN, 0, none⟩ (.slice (some ⟨g1, 0, none⟩) n n)).setCell ⟨gN, 1, none⟩ (.slice (some ⟨g2, 0, none⟩) n n)).setCell ⟨gN, 2, none⟩ (.int .i64 0)).heap.size)) := ⟨((HK.out.1.far (p := ⟨gN, 0, none⟩) _ (fun e => HNEKA.out e.symm)).far (p := ⟨gN, 1, none⟩) _ (fun e => HNEKA.out e.symm)).far (p := ⟨gN, 2, none⟩) _ (fun e => HNEKA.out e.symm), HK.out.2.1, by have := HK.out.2.2; omega⟩
            replace hzq : z ≤ (((q0kan.setCell ⟨gN, 0, none⟩ (.slice (some ⟨g1, 0, none⟩) n n)).setCell ⟨gN, 1, none⟩ (.slice (some ⟨g2, 0, none⟩) n n)).setCell ⟨gN, 2, none⟩ (.int .i64 0)).heap.size := by omega
            clear hl hzz hgN n1A e
            generalize (((q0kan.setCell ⟨gN, 0, none⟩ (.slice (some ⟨g1, 0, none⟩) n n)).setCell ⟨gN, 1, none⟩ (.slice (some ⟨g2, 0, none⟩) n n)).setCell ⟨gN, 2, none⟩ (.int .i64 0)) = q0kans at *
            refine wpAnyH_take (i := 8) (v := ?_) rfl (by kernel_rfl) (by kernel_rfl) (by kernel_rfl) (fun _ _ _ h => h) (Or.inl ⟨by kernel_rfl, ?_⟩) HS ?_
            rotate_left
            · (rintro w -; go_simp) <;> with_reducible rfl
            try simp only [Act.put, List.getElem_toArray, List.getElem_cons_succ, List.getElem_cons_zero, List.setIfInBounds_toArray, List.set_cons_zero, List.set_cons_succ]
            refine wpAnyH_done (by kernel_rfl) ?_ _
            have hg1 := HN.out.2.1.1
            have hg2 := HN.out.2.2.1.1
            have hg3 := HK.out.2.1
            have hgN := HA.out.2.1
            have hl := HL.out
            have hzz := HZ.out
            have n1K := HNE1K.out
            have n1A := HNE1A.out
            have nKA := HNEKA.out
            have n12 := HN.out.2.2.2
            have K1 : Hid (D9 p w h1 h2 hs gN g1 g2 g3 (.slice adC n caC)) := ⟨by omega, by omega, by omega, by omega, by omega, by omega, by omega, fun b hb => H0.out.2.1.lt hb, n12, n1K.1, n1K.2, ⟨by omega, by omega, by omega, n1A.1⟩, ⟨by omega, by omega, by omega, n1A.2⟩, ⟨by omega, by omega, by omega, nKA⟩, HNv.out, HNz.out _ hg1, HNz.out _ hg2, HNz.out _ hg3, HNz.out _ hgN, ⟨by omega, by omega, by omega⟩⟩
            have K4 : Hid (Rw g1 n (fun _ => .int .i64 0) q0kans ∧ Rw g2 n (fun _ => .int .i64 0) q0kans ∧ Rw g3 n (fun _ => .int .i64 0) q0kans) := ⟨HN.out.1.1, HN.out.1.2, HK.out.1⟩
            have K3 : Hid (Y3 gN (.slice (some ⟨g1, 0, none⟩) n n) (.slice (some ⟨g2, 0, none⟩) n n) (.int .i64 0) q0kans) := HA.out.1
            have K5 : Hid (hs ≠ gN) := by show _ ≠ _; omega
            clear HA HK HN HS hg1 hg2 hg3 hgN hl hzz n1K n1A nKA n12 hzq HNz HZ HNE1K HNE1A HNEKA
            go_wp2
            go_meet
            case rel => exact ⟨gN, g1, g2, g3, rfl, rfl, K1, HE, K3, K4, K5⟩
    · go_simp
      refine hK.out _ _ trivial (fun HS => ?_)
      clear hK K
      have hbn : Below q0.heap.size q0 (q0.alloc (.cells #[.slice none 0 0, .slice none 0 0, .int .i64 0] 30)) := bel1 _ _
      have hsz : (q0.alloc (.cells #[.slice none 0 0, .slice none 0 0, .int .i64 0] 30)).heap.size = q0.heap.size + 1 := by rw [World.size_alloc]
      have HA : Hid (Y3 q0.heap.size (.slice none 0 0) (.slice none 0 0) (.int .i64 0) (q0.alloc (.cells #[.slice none 0 0, .slice none 0 0, .int .i64 0] 30)) ∧ (z ≤ q0.heap.size ∧ q0.heap.size < (q0.alloc (.cells #[.slice none 0 0, .slice none 0 0, .int .i64 0] 30)).heap.size)) := ⟨Y3.new _ _ _ _ _, hzq, by omega⟩
      replace HE : Hid (E9 p (c + kc) w h1 h2 (fun W' => Q12 hs (.int .i64 B) (.int .i64 Wm) (.slice adD nD caD) (.int .i64 b1) (.int .i64 b2) (.int .i64 ep) (.int .i64 dc) (.int .i64 cl) (.int .i64 t1) (.int .i64 rt) (.int .i64 o1) (.int .i64 o2) W') (.slice adM n caM) (.slice adV n caV) (.slice adC n caC) T n GC (q0.alloc (.cells #[.slice none 0 0, .slice none 0 0, .int .i64 0] 30))) := HE.out.later hbn (HE.out.S.later hbn)
      replace hzq : z ≤ (q0.alloc (.cells #[.slice none 0 0, .slice none 0 0, .int .i64 0] 30)).heap.size := by have := (hbn).size; omega
      clear hbn hsz
      generalize (q0.alloc (.cells #[.slice none 0 0, .slice none 0 0, .int .i64 0] 30)) = q0a at *
      generalize q0.heap.size = gN at *
      refine wpAnyH_ready (rs := [2, 5]) (by kernel_rfl) (by simp) ?_
      refine AllReadyH.cons rfl (fun K hK => ?_) (AllReadyH.cons rfl (fun K hK => ?_) AllReadyH.nil)
      · go_simp
        refine (nought9_any n hn _).mono ?_
        rintro e q0an ⟨g1, g2, rfl, hN⟩
        refine hK.out _ _ trivial (fun HS => ?_)
        clear hK K
        have hbn : Below q0a.heap.size q0a q0an := hN.b
        have HNE1A : Hid (g1 ≠ gN ∧ g2 ≠ gN) := ⟨by have := HA.out.2.2; have := hN.l1; omega, by have := HA.out.2.2; have := hN.l2; omega⟩
        have HN : Hid ((Rw g1 n (fun _ => .int .i64 0) q0an ∧ Rw g2 n (fun _ => .int .i64 0) q0an) ∧ (z ≤ g1 ∧ g1 < q0an.heap.size) ∧ (z ≤ g2 ∧ g2 < q0an.heap.size) ∧ g1 ≠ g2) := ⟨⟨hN.r1, hN.r2⟩, ⟨by have := hN.l1; omega, hN.l1.2⟩, ⟨by have := hN.l2; omega, hN.l2.2⟩, hN.ne⟩
        replace HE : Hid (E9 p (c + kc) w h1 h2 (fun W' => Q12 hs (.int .i64 B) (.int .i64 Wm) (.slice adD nD caD) (.int .i64 b1) (.int .i64 b2) (.int .i64 ep) (.int .i64 dc) (.int .i64 cl) (.int .i64 t1) (.int .i64 rt) (.int .i64 o1) (.int .i64 o2) W') (.slice adM n caM) (.slice adV n caV) (.slice adC n caC) T n GC q0an) := HE.out.later hbn (HE.out.S.later hbn)
        replace HA : Hid (Y3 gN (.slice none 0 0) (.slice none 0 0) (.int .i64 0) q0an ∧ (z ≤ gN ∧ gN < q0an.heap.size)) := ⟨HA.out.1.later hbn, HA.out.2.1, by have := HA.out.2.2; have := (hbn).size; omega⟩
        replace hzq : z ≤ q0an.heap.size := by have := (hbn).size; omega
        clear hN hbn
        refine wpAnyH_ready (rs := [5, 7]) (by kernel_rfl) (by simp) ?_
        refine AllReadyH.cons rfl (fun K hK => ?_) (AllReadyH.cons rfl (fun K hK => ?_) AllReadyH.nil)
        · go_simp
          refine hK.out _ _ trivial (fun HS => ?_)
          clear hK K
          have hbn : Below q0an.heap.size q0an (q0an.alloc (.cells (madeCells #[.int .i64 0] n) 22)) := bel1 _ _
          have hsz : (q0an.alloc (.cells (madeCells #[.int .i64 0] n) 22)).heap.size = q0an.heap.size + 1 := by rw [World.size_alloc]
          have HNE1K : Hid (g1 ≠ q0an.heap.size ∧ g2 ≠ q0an.heap.size) := ⟨by have := HN.out.2.1.2; omega, by have := HN.out.2.2.1.2; omega⟩
          have HNEKA : Hid (q0an.heap.size ≠ gN) := by show _ ≠ _; have := HA.out.2.2; omega
          have HK : Hid (Rw q0an.heap.size n (fun _ => .int .i64 0) (q0an.alloc (.cells (madeCells #[.int .i64 0] n) 22)) ∧ (z ≤ q0an.heap.size ∧ q0an.heap.size < (q0an.alloc (.cells (madeCells #[.int .i64 0] n) 22)).heap.size)) := ⟨Rw.made q0an (.int .i64 0) n 22, hzq, by omega⟩
          replace HE : Hid (E9 p (c + kc) w h1 h2 (fun W' => Q12 hs (.int .i64 B) (.int .i64 Wm) (.slice adD nD caD) (.int .i64 b1) (.int .i64 b2) (.int .i64 ep) (.int .i64 dc) (.int .i64 cl) (.int .i64 t1) (.int .i64 rt) (.int .i64 o1) (.int .i64 o2) W') (.slice adM n caM) (.slice adV n caV) (.slice adC n caC) T n GC (q0an.alloc (.cells (madeCells #[.int .i64 0] n) 22))) := HE.out.later hbn (HE.out.S.later hbn)
          replace HN : Hid ((Rw g1 n (fun _ => .int .i64 0) (q0an.alloc (.cells (madeCells #[.int .i64 0] n) 22)) ∧ Rw g2 n (fun _ => .int .i64 0) (q0an.alloc (.cells (madeCells #[.int .i64 0] n) 22))) ∧ (z ≤ g1 ∧ g1 < (q0an.alloc (.cells (madeCells #[.int .i64 0] n) 22)).heap.size) ∧ (z ≤ g2 ∧ g2 < (q0an.alloc (.cells (madeCells #[.int .i64 0] n) 22)).heap.size) ∧ g1 ≠ g2) := ⟨⟨HN.out.1.1.later hbn, HN.out.1.2.later hbn⟩, ⟨HN.out.2.1.1, by have := HN.out.2.1.2; have := (hbn).size; omega⟩, ⟨HN.out.2.2.1.1, by have := HN.out.2.2.1.2; have := (hbn).size; omega⟩, HN.out.2.2.2⟩
          replace HA : Hid (Y3 gN (.slice none 0 0) (.slice none 0 0) (.int .i64 0) (q0an.alloc (.cells (madeCells #[.int .i64 0] n) 22)) ∧ (z ≤ gN ∧ gN < (q0an.alloc (.cells (madeCells #[.int .i64 0] n) 22)).heap.size)) := ⟨HA.out.1.later hbn, HA.out.2.1, by have := HA.out.2.2; have := (hbn).size; omega⟩
          replace hzq : z ≤ (q0an.alloc (.cells (madeCells #[.int .i64 0] n) 22)).heap.size := by have := (hbn).size; omega
          clear hbn hsz
          generalize (q0an.alloc (.cells (madeCells #[.int .i64 0] n) 22)) = q0ank at *
          generalize q0an.heap.size = g3 at *
          refine wpAnyH_ready (rs := [7]) (by kernel_rfl) (by simp) ?_
          refine AllReadyH.cons rfl (fun K hK => ?_) AllReadyH.nil
          · have y0 := HA.out.1.c0
            have y1 := HA.out.1.c1
            have y2 := HA.out.1.c2
            have f0 := HA.out.1.f0
            have f1 := HA.out.1.f1
            have f2 := HA.out.1.f2
            go_simp
            refine hK.out _ _ trivial (fun HS => ?_)
            clear hK K y0 y1 y2 f0 f1 f2
            have hl := HL.out
            have hzz := HZ.out
            have hgN := HA.out.2.1
            have n1A := HNE1A.out
            have e : (((q0ank.setCell ⟨gN, 0, none⟩ (.slice (some ⟨g1, 0, none⟩) n n)).setCell ⟨gN, 1, none⟩ (.slice (some ⟨g2, 0, none⟩) n n)).setCell ⟨gN, 2, none⟩ (.int .i64 0)).heap.size = q0ank.heap.size := by simp only [World.size_setCell]
            replace HE : Hid (E9 p (c + kc) w h1 h2 (fun W' => Q12 hs (.int .i64 B) (.int .i64 Wm) (.slice adD nD caD) (.int .i64 b1) (.int .i64 b2) (.int .i64 ep) (.int .i64 dc) (.int .i64 cl) (.int .i64 t1) (.int .i64 rt) (.int .i64 o1) (.int .i64 o2) W') (.slice adM n caM) (.slice adV n caV) (.slice adC n caC) T n GC (((q0ank.setCell ⟨gN, 0, none⟩ (.slice (some ⟨g1, 0, none⟩) n n)).setCell ⟨gN, 1, none⟩ (.slice (some ⟨g2, 0, none⟩) n n)).setCell ⟨gN, 2, none⟩ (.int .i64 0))) := by
              have q1 : gN ≠ h1 ∧ gN ≠ h2 := ⟨by omega, by omega⟩
              have q2 : w.heap.size ≤ gN := by omega
              have q3 : gN ≠ hs := by omega
              exact ((HE.out.far H0.out.1 ⟨gN, 0, none⟩ _ q2 q1 (HNz.out _ hgN) (HE.out.S.far _ _ q3)).far H0.out.1 ⟨gN, 1, none⟩ _ q2 q1 (HNz.out _ hgN) ((HE.out.S.far _ _ q3).far _ _ q3)).far H0.out.1 ⟨gN, 2, none⟩ _ q2 q1 (HNz.out _ hgN) (((HE.out.S.far _ _ q3).far _ _ q3).far _ _ q3)
            replace HA : Hid (Y3 gN (.slice (some ⟨g1, 0, none⟩) n n) (.slice (some ⟨g2, 0, none⟩) n n) (.int .i64 0) (((q0ank.setCell ⟨gN, 0, none⟩ (.slice (some ⟨g1, 0, none⟩) n n)).setCell ⟨gN, 1, none⟩ (.slice (some ⟨g2, 0, none⟩) n n)).setCell ⟨gN, 2, none⟩ (.int .i64 0)) ∧ (z ≤ gN ∧ gN < (((q0ank.setCell ⟨gN, 0, none⟩ (.slice (some ⟨g1, 0, none⟩) n n)).setCell ⟨gN, 1, none⟩ (.slice (some ⟨g2, 0, none⟩) n n)).setCell ⟨gN, 2, none⟩ (.int .i64 0)).heap.size)) := ⟨((HA.out.1.set0 _).set1 _).set2 _, hgN, by have := HA.out.2.2; omega⟩
            replace HN : Hid ((Rw g1 n (fun _ => .int .i64 0) (((q0ank.setCell ⟨gN, 0, none⟩ (.slice (some ⟨g1, 0, none⟩) n n)).setCell ⟨gN, 1, none⟩ (.slice (some ⟨g2, 0, none⟩) n n)).setCell ⟨gN, 2, none⟩ (.int .i64 0)) ∧ Rw g2 n (fun _ => .int .i64 0) (((q0ank.setCell ⟨gN, 0, none⟩ (.slice (some ⟨g1, 0, none⟩) n n)).setCell ⟨gN, 1, none⟩ (.slice (some ⟨g2, 0, none⟩) n n)).setCell ⟨gN, 2, none⟩ (.int .i64 0))) ∧ (z ≤ g1 ∧ g1 < (((q0ank.setCell ⟨gN, 0, none⟩ (.slice (some ⟨g1, 0, none⟩) n n)).setCell ⟨gN, 1, none⟩ (.slice (some ⟨g2, 0, none⟩) n n)).setCell ⟨gN, 2, none⟩ (.int .i64 0)).heap.size) ∧ (z ≤ g2 ∧ g2 < (((q0ank.setCell ⟨gN, 0, none⟩ (.slice (some ⟨g1, 0, none⟩) n n)).setCell ⟨gN, 1, none⟩ (.slice (some ⟨g2, 0, none⟩) n n)).setCell ⟨gN, 2, none⟩ (.int .i64 0)).heap.size) ∧ g1 ≠ g2) := ⟨⟨((HN.out.1.1.far (p := ⟨gN, 0, none⟩) _ (fun e => n1A.1 e.symm)).far (p := ⟨gN, 1, none⟩) _ (fun e => n1A.1 e.symm)).far (p := ⟨gN, 2, none⟩) _ (fun e => n1A.1 e.symm), ((HN.out.1.2.far (p := ⟨gN, 0, none⟩) _ (fun e => n1A.2 e.symm)).far (p := ⟨gN, 1, none⟩) _ (fun e => n1A.2 e.symm)).far (p := ⟨gN, 2, none⟩) _ (fun e => n1A.2 e.symm)⟩, ⟨HN.out.2.1.1, by have := HN.out.2.1.2; omega⟩, ⟨HN.out.2.2.1.1, by have := HN.out.2.2.1.2; omega⟩, HN.out.2.2.2⟩
            replace HK : Hid (Rw g3 n (fun _ => .int .i64 0) (((q0ank.setCell ⟨gN, 0, none⟩ (.slice (some ⟨g1, 0, none⟩) n n)).setCell ⟨gN, 1, none⟩ (.slice (some ⟨g2, 0, none⟩) n n)).setCell ⟨gN, 2, none⟩ (.int .i64 0)) ∧ (z ≤ g3 ∧ g3 < (((q0ank.setCell ⟨gN, 0, none⟩ (.slice (some ⟨g1, 0, none⟩) n n)).setCell ⟨gN, 1, none⟩ (.slice (some ⟨g2, 0, none⟩) n n)).setCell ⟨gN, 2, none⟩ (.int .i64 0)).heap.size)) := ⟨((HK.out.1.far (p := ⟨gN, 0, none⟩) _ (fun e => HNEKA.out e.symm)).far (p := ⟨gN, 1, none⟩) _ (fun e => HNEKA.out e.symm)).far (p := ⟨gN, 2, none⟩) _ (fun e => HNEKA.out e.symm), HK.out.2.1, by have := HK.out.2.2; omega⟩
            replace hzq : z ≤ (((q0ank.setCell ⟨gN, 0, none⟩ (.slice (some ⟨g1, 0, none⟩) n n)).setCell ⟨gN, 1, none⟩ (.slice (some ⟨g2, 0, none⟩) n n)).setCell ⟨gN, 2, none⟩ (.int .i64 0)).heap.size := by omega
            clear hl hzz hgN n1A e
            generalize (((q0ank.setCell ⟨gN, 0, none⟩ (.slice (some ⟨g1, 0, none⟩) n n)).setCell ⟨gN, 1, none⟩ (.slice (some ⟨g2, 0, none⟩) n n)).setCell ⟨gN, 2, none⟩ (.int .i64 0)) = q0anks at *
            refine wpAnyH_take (i := 8) (v := ?_) rfl (by kernel_rfl) (by kernel_rfl) (by kernel_rfl) (fun _ _ _ h => h) (Or.inl ⟨by kernel_rfl, ?_⟩) HS ?_
            rotate_left
            · (rintro w -; go_simp) <;> with_reducible rfl
            try simp only [Act.put, List.getElem_toArray, List.getElem_cons_succ, List.getElem_cons_zero, List.setIfInBounds_toArray, List.set_cons_zero, List.set_cons_succ]
            refine wpAnyH_done (by kernel_rfl) ?_ _
            have hg1 := HN.out.2.1.1
            have hg2 := HN.out.2.2.1.1
            have hg3 := HK.out.2.1
            have hgN := HA.out.2.1
            have hl := HL.out
            have hzz := HZ.out
            have n1K := HNE1K.out
            have n1A := HNE1A.out
            have nKA := HNEKA.out
            have n12 := HN.out.2.2.2
            have K1 : Hid (D9 p w h1 h2 hs gN g1 g2 g3 (.slice adC n caC)) := ⟨by omega, by omega, by omega, by omega, by omega, by omega, by omega, fun b hb => H0.out.2.1.lt hb, n12, n1K.1, n1K.2, ⟨by omega, by omega, by omega, n1A.1⟩, ⟨by omega, by omega, by omega, n1A.2⟩, ⟨by omega, by omega, by omega, nKA⟩, HNv.out, HNz.out _ hg1, HNz.out _ hg2, HNz.out _ hg3, HNz.out _ hgN, ⟨by omega, by omega, by omega⟩⟩
            have K4 : Hid (Rw g1 n (fun _ => .int .i64 0) q0anks ∧ Rw g2 n (fun _ => .int .i64 0) q0anks ∧ Rw g3 n (fun _ => .int .i64 0) q0anks) := ⟨HN.out.1.1, HN.out.1.2, HK.out.1⟩
            have K3 : Hid (Y3 gN (.slice (some ⟨g1, 0, none⟩) n n) (.slice (some ⟨g2, 0, none⟩) n n) (.int .i64 0) q0anks) := HA.out.1
            have K5 : Hid (hs ≠ gN) := by show _ ≠ _; omega
            clear HA HK HN HS hg1 hg2 hg3 hgN hl hzz n1K n1A nKA n12 hzq HNz HZ HNE1K HNE1A HNEKA
            go_wp2
            go_meet
            case rel => exact ⟨gN, g1, g2, g3, rfl, rfl, K1, HE, K3, K4, K5⟩
        · have y0 := HA.out.1.c0
          have y1 := HA.out.1.c1
          have y2 := HA.out.1.c2
          have f0 := HA.out.1.f0
          have f1 := HA.out.1.f1
          have f2 := HA.out.1.f2
          go_simp
          refine hK.out _ _ trivial (fun HS => ?_)
          clear hK K y0 y1 y2 f0 f1 f2
          have hl := HL.out
          have hzz := HZ.out
          have hgN := HA.out.2.1
          have n1A := HNE1A.out
          have e : (((q0an.setCell ⟨gN, 0, none⟩ (.slice (some ⟨g1, 0, none⟩) n n)).setCell ⟨gN, 1, none⟩ (.slice (some ⟨g2, 0, none⟩) n n)).setCell ⟨gN, 2, none⟩ (.int .i64 0)).heap.size = q0an.heap.size := by simp only [World.size_setCell]
          replace HE : Hid (E9 p (c + kc) w h1 h2 (fun W' => Q12 hs (.int .i64 B) (.int .i64 Wm) (.slice adD nD caD) (.int .i64 b1) (.int .i64 b2) (.int .i64 ep) (.int .i64 dc) (.int .i64 cl) (.int .i64 t1) (.int .i64 rt) (.int .i64 o1) (.int .i64 o2) W') (.slice adM n caM) (.slice adV n caV) (.slice adC n caC) T n GC (((q0an.setCell ⟨gN, 0, none⟩ (.slice (some ⟨g1, 0, none⟩) n n)).setCell ⟨gN, 1, none⟩ (.slice (some ⟨g2, 0, none⟩) n n)).setCell ⟨gN, 2, none⟩ (.int .i64 0))) := by
            have q1 : gN ≠ h1 ∧ gN ≠ h2 := ⟨by omega, by omega⟩
            have q2 : w.heap.size ≤ gN := by omega
            have q3 : gN ≠ hs := by omega
            exact ((HE.out.far H0.out.1 ⟨gN, 0, none⟩ _ q2 q1 (HNz.out _ hgN) (HE.out.S.far _ _ q3)).far H0.out.1 ⟨gN, 1, none⟩ _ q2 q1 (HNz.out _ hgN) ((HE.out.S.far _ _ q3).far _ _ q3)).far H0.out.1 ⟨gN, 2, none⟩ _ q2 q1 (HNz.out _ hgN) (((HE.out.S.far _ _ q3).far _ _ q3).far _ _ q3)
          replace HA : Hid (Y3 gN (.slice (some ⟨g1, 0, none⟩) n n) (.slice (some ⟨g2, 0, none⟩) n n) (.int .i64 0) (((q0an.setCell ⟨gN, 0, none⟩ (.slice (some ⟨g1, 0, none⟩) n n)).setCell ⟨gN, 1, none⟩ (.slice (some ⟨g2, 0, none⟩) n n)).setCell ⟨gN, 2, none⟩ (.int .i64 0)) ∧ (z ≤ gN ∧ gN < (((q0an.setCell ⟨gN, 0, none⟩ (.slice (some ⟨g1, 0, none⟩) n n)).setCell ⟨gN, 1, none⟩ (.slice (some ⟨g2, 0, none⟩) n n)).setCell ⟨gN, 2, none⟩ (.int .i64 0)).heap.size)) := ⟨((HA.out.1.set0 _).set1 _).set2 _, hgN, by have := HA.out.2.2; omega⟩
          replace HN : Hid ((Rw g1 n (fun _ => .int .i64 0) (((q0an.setCell ⟨gN, 0, none⟩ (.slice (some ⟨g1, 0, none⟩) n n)).setCell ⟨gN, 1, none⟩ (.slice (some ⟨g2, 0, none⟩) n n)).setCell ⟨gN, 2, none⟩ (.int .i64 0)) ∧ Rw g2 n (fun _ => .int .i64 0) (((q0an.setCell ⟨gN, 0, none⟩ (.slice (some ⟨g1, 0, none⟩) n n)).setCell ⟨gN, 1, none⟩ (.slice (some ⟨g2, 0, none⟩) n n)).setCell ⟨gN, 2, none⟩ (.int .i64 0))) ∧ (z ≤ g1 ∧ g1 < (((q0an.setCell ⟨gN, 0, none⟩ (.slice (some ⟨g1, 0, none⟩) n n)).setCell ⟨gN, 1, none⟩ (.slice (some ⟨g2, 0, none⟩) n n)).setCell ⟨gN, 2, none⟩ (.int .i64 0)).heap.size) ∧ (z ≤ g2 ∧ g2 < (((q0an.setCell ⟨gN, 0, none⟩ (.slice (some ⟨g1, 0, none⟩) n n)).setCell ⟨gN, 1, none⟩ (.slice (some ⟨g2, 0, none⟩) n n)).setCell ⟨gN, 2, none⟩ (.int .i64 0)).heap.size) ∧ g1 ≠ g2) := ⟨⟨((HN.out.1.1.far (p := ⟨gN, 0, none⟩) _ (fun e => n1A.1 e.symm)).far (p := ⟨gN, 1, none⟩) _ (fun e => n1A.1 e.symm)).far (p := ⟨gN, 2, none⟩) _ (fun e => n1A.1 e.symm), ((HN.out.1.2.far (p := ⟨gN, 0, none⟩) _ (fun e => n1A.2 e.symm)).far (p := ⟨gN, 1, none⟩) _ (fun e => n1A.2 e.symm)).far (p := ⟨gN, 2, none⟩) _ (fun e => n1A.2 e.symm)⟩, ⟨HN.out.2.1.1, by have := HN.out.2.1.2; omega⟩, ⟨HN.out.2.2.1.1, by have := HN.out.2.2.1.2; omega⟩, HN.out.2.2.2⟩
          replace hzq : z ≤ (((q0an.setCell ⟨gN, 0, none⟩ (.slice (some ⟨g1, 0, none⟩) n n)).setCell ⟨gN, 1, none⟩ (.slice (some ⟨g2, 0, none⟩) n n)).setCell ⟨gN, 2, none⟩ (.int .i64 0)).heap.size := by omega
          clear hl hzz hgN n1A e
          generalize (((q0an.setCell ⟨gN, 0, none⟩ (.slice (some ⟨g1, 0, none⟩) n n)).setCell ⟨gN, 1, none⟩ (.slice (some ⟨g2, 0, none⟩) n n)).setCell ⟨gN, 2, none⟩ (.int .i64 0)) = q0ans at *
          refine wpAnyH_ready (rs := [5]) (by kernel_rfl) (by simp) ?_
          refine AllReadyH.cons rfl (fun K hK => ?_) AllReadyH.nil
          · go_simp
            refine hK.out _ _ trivial (fun HS => ?_)
            clear hK K
            have hbn : Below q0ans.heap.size q0ans (q0ans.alloc (.cells (madeCells #[.int .i64 0] n) 22)) := bel1 _ _
            have hsz : (q0ans.alloc (.cells (madeCells #[.int .i64 0] n) 22)).heap.size = q0ans.heap.size + 1 := by rw [World.size_alloc]
            have HNE1K : Hid (g1 ≠ q0ans.heap.size ∧ g2 ≠ q0ans.heap.size) := ⟨by have := HN.out.2.1.2; omega, by have := HN.out.2.2.1.2; omega⟩
            have HNEKA : Hid (q0ans.heap.size ≠ gN) := by show _ ≠ _; have := HA.out.2.2; omega
            have HK : Hid (Rw q0ans.heap.size n (fun _ => .int .i64 0) (q0ans.alloc (.cells (madeCells #[.int .i64 0] n) 22)) ∧ (z ≤ q0ans.heap.size ∧ q0ans.heap.size < (q0ans.alloc (.cells (madeCells #[.int .i64 0] n) 22)).heap.size)) := ⟨Rw.made q0ans (.int .i64 0) n 22, hzq, by omega⟩
            replace HE : Hid (E9 p (c + kc) w h1 h2 (fun W' => Q12 hs (.int .i64 B) (.int .i64 Wm) (.slice adD nD caD) (.int .i64 b1) (.int .i64 b2) (.int .i64 ep) (.int .i64 dc) (.int .i64 cl) (.int .i64 t1) (.int .i64 rt) (.int .i64 o1) (.int .i64 o2) W') (.slice adM n caM) (.slice adV n caV) (.slice adC n caC) T n GC (q0ans.alloc (.cells (madeCells #[.int .i64 0] n) 22))) := HE.out.later hbn (HE.out.S.later hbn)
            replace HN : Hid ((Rw g1 n (fun _ => .int .i64 0) (q0ans.alloc (.cells (madeCells #[.int .i64 0] n) 22)) ∧ Rw g2 n (fun _ => .int .i64 0) (q0ans.alloc (.cells (madeCells #[.int .i64 0] n) 22))) ∧ (z ≤ g1 ∧ g1 < (q0ans.alloc (.cells (madeCells #[.int .i64 0] n) 22)).heap.size) ∧ (z ≤ g2 ∧ g2 < (q0ans.alloc (.cells (madeCells #[.int .i64 0] n) 22)).heap.size) ∧ g1 ≠ g2) := ⟨⟨HN.out.1.1.later hbn, HN.out.1.2.later hbn⟩, ⟨HN.out.2.1.1, by have := HN.out.2.1.2; have := (hbn).size; omega⟩, ⟨HN.out.2.2.1.1, by have := HN.out.2.2.1.2; have := (hbn).size; omega⟩, HN.out.2.2.2⟩
            replace HA : Hid (Y3 gN (.slice (some ⟨g1, 0, none⟩) n n) (.slice (some ⟨g2, 0, none⟩) n n) (.int .i64 0) (q0ans.alloc (.cells (madeCells #[.int .i64 0] n) 22)) ∧ (z ≤ gN ∧ gN < (q0ans.alloc (.cells (madeCells #[.int .i64 0] n) 22)).heap.size)) := ⟨HA.out.1.later hbn, HA.out.2.1, by have := HA.out.2.2; have := (hbn).size; omega⟩
            replace hzq : z ≤ (q0ans.alloc (.cells (madeCells #[.int .i64 0] n) 22)).heap.size := by have := (hbn).size; omega
            clear hbn hsz
            generalize (q0ans.alloc (.cells (madeCells #[.int .i64 0] n) 22)) = q0ansk at *
            generalize q0ans.heap.size = g3 at *
            refine wpAnyH_take (i := 8) (v := ?_) rfl (by kernel_rfl) (by kernel_rfl) (by kernel_rfl) (fun _ _ _ h => h) (Or.inl ⟨by kernel_rfl, ?_⟩) HS ?_
            rotate_left
            · (rintro w -; go_simp) <;> with_reducible rfl
            try simp only [Act.put, List.getElem_toArray, List.getElem_cons_succ, List.getElem_cons_zero, List.setIfInBounds_toArray, List.set_cons_zero, List.set_cons_succ]
            refine wpAnyH_done (by kernel_rfl) ?_ _
            have hg1 := HN.out.2.1.1
            have hg2 := HN.out.2.2.1.1
            have hg3 := HK.out.2.1
            have hgN := HA.out.2.1
            have hl := HL.out
            have hzz := HZ.out
            have n1K := HNE1K.out
            have n1A := HNE1A.out
            have nKA := HNEKA.out
            have n12 := HN.out.2.2.2
            have K1 : Hid (D9 p w h1 h2 hs gN g1 g2 g3 (.slice adC n caC)) := ⟨by omega, by omega, by omega, by omega, by omega, by omega, by omega, fun b hb => H0.out.2.1.lt hb, n12, n1K.1, n1K.2, ⟨by omega, by omega, by omega, n1A.1⟩, ⟨by omega, by omega, by omega, n1A.2⟩, ⟨by omega, by omega, by omega, nKA⟩, HNv.out, HNz.out _ hg1, HNz.out _ hg2, HNz.out _ hg3, HNz.out _ hgN, ⟨by omega, by omega, by omega⟩⟩
            have K4 : Hid (Rw g1 n (fun _ => .int .i64 0) q0ansk ∧ Rw g2 n (fun _ => .int .i64 0) q0ansk ∧ Rw g3 n (fun _ => .int .i64 0) q0ansk) := ⟨HN.out.1.1, HN.out.1.2, HK.out.1⟩
            have K3 : Hid (Y3 gN (.slice (some ⟨g1, 0, none⟩) n n) (.slice (some ⟨g2, 0, none⟩) n n) (.int .i64 0) q0ansk) := HA.out.1
            have K5 : Hid (hs ≠ gN) := by show _ ≠ _; omega
            clear HA HK HN HS hg1 hg2 hg3 hgN hl hzz n1K n1A nKA n12 hzq HNz HZ HNE1K HNE1A HNEKA
            go_wp2
            go_meet
            case rel => exact ⟨gN, g1, g2, g3, rfl, rfl, K1, HE, K3, K4, K5⟩
      · go_simp
        refine hK.out _ _ trivial (fun HS => ?_)
        clear hK K
        have hbn : Below q0a.heap.size q0a (q0a.alloc (.cells (madeCells #[.int .i64 0] n) 22)) := bel1 _ _
        have hsz : (q0a.alloc (.cells (madeCells #[.int .i64 0] n) 22)).heap.size = q0a.heap.size + 1 := by rw [World.size_alloc]
        have HNEKA : Hid (q0a.heap.size ≠ gN) := by show _ ≠ _; have := HA.out.2.2; omega
        have HK : Hid (Rw q0a.heap.size n (fun _ => .int .i64 0) (q0a.alloc (.cells (madeCells #[.int .i64 0] n) 22)) ∧ (z ≤ q0a.heap.size ∧ q0a.heap.size < (q0a.alloc (.cells (madeCells #[.int .i64 0] n) 22)).heap.size)) := ⟨Rw.made q0a (.int .i64 0) n 22, hzq, by omega⟩
        replace HE : Hid (E9 p (c + kc) w h1 h2 (fun W' => Q12 hs (.int .i64 B) (.int .i64 Wm) (.slice adD nD caD) (.int .i64 b1) (.int .i64 b2) (.int .i64 ep) (.int .i64 dc) (.int .i64 cl) (.int .i64 t1) (.int .i64 rt) (.int .i64 o1) (.int .i64 o2) W') (.slice adM n caM) (.slice adV n caV) (.slice adC n caC) T n GC (q0a.alloc (.cells (madeCells #[.int .i64 0] n) 22))) := HE.out.later hbn (HE.out.S.later hbn)
        replace HA : Hid (Y3 gN (.slice none 0 0) (.slice none 0 0) (.int .i64 0) (q0a.alloc (.cells (madeCells #[.int .i64 0] n) 22)) ∧ (z ≤ gN ∧ gN < (q0a.alloc (.cells (madeCells #[.int .i64 0] n) 22)).heap.size)) := ⟨HA.out.1.later hbn, HA.out.2.1, by have := HA.out.2.2; have := (hbn).size; omega⟩
        replace hzq : z ≤ (q0a.alloc (.cells (madeCells #[.int .i64 0] n) 22)).heap.size := by have := (hbn).size; omega
        clear hbn hsz
        generalize (q0a.alloc (.cells (madeCells #[.int .i64 0] n) 22)) = q0ak at *
        generalize q0a.heap.size = g3 at *
        refine wpAnyH_ready (rs := [2]) (by kernel_rfl) (by simp) ?_
        refine AllReadyH.cons rfl (fun K hK => ?_) AllReadyH.nil
        · go_simp
          refine (nought9_any n hn _).mono ?_
          rintro e q0akn ⟨g1, g2, rfl, hN⟩
          refine hK.out _ _ trivial (fun HS => ?_)
          clear hK K
          have hbn : Below q0ak.heap.size q0ak q0akn := hN.b
          have HNE1K : Hid (g1 ≠ g3 ∧ g2 ≠ g3) := ⟨by have := HK.out.2.2; have := hN.l1; omega, by have := HK.out.2.2; have := hN.l2; omega⟩
          have HNE1A : Hid (g1 ≠ gN ∧ g2 ≠ gN) := ⟨by have := HA.out.2.2; have := hN.l1; omega, by have := HA.out.2.2; have := hN.l2; omega⟩
          have HN : Hid ((Rw g1 n (fun _ => .int .i64 0) q0akn ∧ Rw g2 n (fun _ => .int .i64 0) q0akn) ∧ (z ≤ g1 ∧ g1 < q0akn.heap.size) ∧ (z ≤ g2 ∧ g2 < q0akn.heap.size) ∧ g1 ≠ g2) := ⟨⟨hN.r1, hN.r2⟩, ⟨by have := hN.l1; omega, hN.l1.2⟩, ⟨by have := hN.l2; omega, hN.l2.2⟩, hN.ne⟩
          replace HE : Hid (E9 p (c + kc) w h1 h2 (fun W' => Q12 hs (.int .i64 B) (.int .i64 Wm) (.slice adD nD caD) (.int .i64 b1) (.int .i64 b2) (.int .i64 ep) (.int .i64 dc) (.int .i64 cl) (.int .i64 t1) (.int .i64 rt) (.int .i64 o1) (.int .i64 o2) W') (.slice adM n caM) (.slice adV n caV) (.slice adC n caC) T n GC q0akn) := HE.out.later hbn (HE.out.S.later hbn)
          replace HK : Hid (Rw g3 n (fun _ => .int .i64 0) q0akn ∧ (z ≤ g3 ∧ g3 < q0akn.heap.size)) := ⟨HK.out.1.later hbn, HK.out.2.1, by have := HK.out.2.2; have := (hbn).size; omega⟩
          replace HA : Hid (Y3 gN (.slice none 0 0) (.slice none 0 0) (.int .i64 0) q0akn ∧ (z ≤ gN ∧ gN < q0akn.heap.size)) := ⟨HA.out.1.later hbn, HA.out.2.1, by have := HA.out.2.2; have := (hbn).size; omega⟩
          replace hzq : z ≤ q0akn.heap.size := by have := (hbn).size; omega
          clear hN hbn
          refine wpAnyH_ready (rs := [7]) (by kernel_rfl) (by simp) ?_
          refine AllReadyH.cons rfl (fun K hK => ?_) AllReadyH.nil
          · have y0 := HA.out.1.c0
            have y1 := HA.out.1.c1
            have y2 := HA.out.1.c2
            have f0 := HA.out.1.f0
            have f1 := HA.out.1.f1
            have f2 := HA.out.1.f2
            go_simp
            refine hK.out _ _ trivial (fun HS => ?_)
            clear hK K y0 y1 y2 f0 f1 f2
            have hl := HL.out
            have hzz := HZ.out
            have hgN := HA.out.2.1
            have n1A := HNE1A.out
            have e : (((q0akn.setCell ⟨gN, 0, none⟩ (.slice (some ⟨g1, 0, none⟩) n n)).setCell ⟨gN, 1, none⟩ (.slice (some ⟨g2, 0, none⟩) n n)).setCell ⟨gN, 2, none⟩ (.int .i64 0)).heap.size = q0akn.heap.size := by simp only [World.size_setCell]
            replace HE : Hid (E9 p (c + kc) w h1 h2 (fun W' => Q12 hs (.int .i64 B) (.int .i64 Wm) (.slice adD nD caD) (.int .i64 b1) (.int .i64 b2) (.int .i64 ep) (.int .i64 dc) (.int .i64 cl) (.int .i64 t1) (.int .i64 rt) (.int .i64 o1) (.int .i64 o2) W') (.slice adM n caM) (.slice adV n caV) (.slice adC n caC) T n GC (((q0akn.setCell ⟨gN, 0, none⟩ (.slice (some ⟨g1, 0, none⟩) n n)).setCell ⟨gN, 1, none⟩ (.slice (some ⟨g2, 0, none⟩) n n)).setCell ⟨gN, 2, none⟩ (.int .i64 0))) := by
              have q1 : gN ≠ h1 ∧ gN ≠ h2 := ⟨by omega, by omega⟩
              have q2 : w.heap.size ≤ gN := by omega
              have q3 : gN ≠ hs := by omega
              exact ((HE.out.far H0.out.1 ⟨gN, 0, none⟩ _ q2 q1 (HNz.out _ hgN) (HE.out.S.far _ _ q3)).far H0.out.1 ⟨gN, 1, none⟩ _ q2 q1 (HNz.out _ hgN) ((HE.out.S.far _ _ q3).far _ _ q3)).far H0.out.1 ⟨gN, 2, none⟩ _ q2 q1 (HNz.out _ hgN) (((HE.out.S.far _ _ q3).far _ _ q3).far _ _ q3)
            replace HA : Hid (Y3 gN (.slice (some ⟨g1, 0, none⟩) n n) (.slice (some ⟨g2, 0, none⟩) n n) (.int .i64 0) (((q0akn.setCell ⟨gN, 0, none⟩ (.slice (some ⟨g1, 0, none⟩) n n)).setCell ⟨gN, 1, none⟩ (.slice (some ⟨g2, 0, none⟩) n n)).setCell ⟨gN, 2, none⟩ (.int .i64 0)) ∧ (z ≤ gN ∧ gN < (((q0akn.setCell ⟨gN, 0, none⟩ (.slice (some ⟨g1, 0, none⟩) n n)).setCell ⟨gN, 1, none⟩ (.slice (some ⟨g2, 0, none⟩) n n)).setCell ⟨gN, 2, none⟩ (.int .i64 0)).heap.size)) := ⟨((HA.out.1.set0 _).set1 _).set2 _, hgN, by have := HA.out.2.2; omega⟩
            replace HN : Hid ((Rw g1 n (fun _ => .int .i64 0) (((q0akn.setCell ⟨gN, 0, none⟩ (.slice (some ⟨g1, 0, none⟩) n n)).setCell ⟨gN, 1, none⟩ (.slice (some ⟨g2, 0, none⟩) n n)).setCell ⟨gN, 2, none⟩ (.int .i64 0)) ∧ Rw g2 n (fun _ => .int .i64 0) (((q0akn.setCell ⟨gN, 0, none⟩ (.slice (some ⟨g1, 0, none⟩) n n)).setCell ⟨gN, 1, none⟩ (.slice (some ⟨g2, 0, none⟩) n n)).setCell ⟨gN, 2, none⟩ (.int .i64 0))) ∧ (z ≤ g1 ∧ g1 < (((q0akn.setCell ⟨gN, 0, none⟩ (.slice (some ⟨g1, 0, none⟩) n n)).setCell ⟨gN, 1, none⟩ (.slice (some ⟨g2, 0, none⟩) n n)).setCell ⟨gN, 2, none⟩ (.int .i64 0)).heap.size) ∧ (z ≤ g2 ∧ g2 < (((q0akn.setCell ⟨gN, 0, none⟩ (.slice (some ⟨g1, 0, none⟩) n n)).setCell ⟨gN, 1, none⟩ (.slice (some ⟨g2, 0, none⟩) n n)).setCell ⟨gN, 2, none⟩ (.int .i64 0)).heap.size) ∧ g1 ≠ g2) := ⟨⟨((HN.out.1.1.far (p := ⟨gN, 0, none⟩) _ (fun e => n1A.1 e.symm)).far (p := ⟨gN, 1, none⟩) _ (fun e => n1A.1 e.symm)).far (p := ⟨gN, 2, none⟩) _ (fun e => n1A.1 e.symm), ((HN.out.1.2.far (p := ⟨gN, 0, none⟩) _ (fun e => n1A.2 e.symm)).far (p := ⟨gN, 1, none⟩) _ (fun e => n1A.2 e.symm)).far (p := ⟨gN, 2, none⟩) _ (fun e => n1A.2 e.symm)⟩, ⟨HN.out.2.1.1, by have := HN.out.2.1.2; omega⟩, ⟨HN.out.2.2.1.1, by have := HN.out.2.2.1.2; omega⟩, HN.out.2.2.2⟩
            replace HK : Hid (Rw g3 n (fun _ => .int .i64 0) (((q0akn.setCell ⟨gN, 0, none⟩ (.slice (some ⟨g1, 0, none⟩) n n)).setCell ⟨gN, 1, none⟩ (.slice (some ⟨g2, 0, none⟩) n n)).setCell ⟨gN, 2, none⟩ (.int .i64 0)) ∧ (z ≤ g3 ∧ g3 < (((q0akn.setCell ⟨gN, 0, none⟩ (.slice (some ⟨g1, 0, none⟩) n n)).setCell ⟨gN, 1, none⟩ (.slice (some ⟨g2, 0, none⟩) n n)).setCell ⟨gN, 2, none⟩ (.int .i64 0)).heap.size)) := ⟨((HK.out.1.far (p := ⟨gN, 0, none⟩) _ (fun e => HNEKA.out e.symm)).far (p := ⟨gN, 1, none⟩) _ (fun e => HNEKA.out e.symm)).far (p := ⟨gN, 2, none⟩) _ (fun e => HNEKA.out e.symm), HK.out.2.1, by have := HK.out.2.2; omega⟩
            replace hzq : z ≤ (((q0akn.setCell ⟨gN, 0, none⟩ (.slice (some ⟨g1, 0, none⟩) n n)).setCell ⟨gN, 1, none⟩ (.slice (some ⟨g2, 0, none⟩) n n)).setCell ⟨gN, 2, none⟩ (.int .i64 0)).heap.size := by omega
            clear hl hzz hgN n1A e
            generalize (((q0akn.setCell ⟨gN, 0, none⟩ (.slice (some ⟨g1, 0, none⟩) n n)).setCell ⟨gN, 1, none⟩ (.slice (some ⟨g2, 0, none⟩) n n)).setCell ⟨gN, 2, none⟩ (.int .i64 0)) = q0akns at *
            refine wpAnyH_take (i := 8) (v := ?_) rfl (by kernel_rfl) (by kernel_rfl) (by kernel_rfl) (fun _ _ _ h => h) (Or.inl ⟨by kernel_rfl, ?_⟩) HS ?_
            rotate_left
            · (rintro w -; go_simp) <;> with_reducible rfl
            try simp only [Act.put, List.getElem_toArray, List.getElem_cons_succ, List.getElem_cons_zero, List.setIfInBounds_toArray, List.set_cons_zero, List.set_cons_succ]
            refine wpAnyH_done (by kernel_rfl) ?_ _
            have hg1 := HN.out.2.1.1
            have hg2 := HN.out.2.2.1.1
            have hg3 := HK.out.2.1
            have hgN := HA.out.2.1
            have hl := HL.out
            have hzz := HZ.out
            have n1K := HNE1K.out
            have n1A := HNE1A.out
            have nKA := HNEKA.out
            have n12 := HN.out.2.2.2
            have K1 : Hid (D9 p w h1 h2 hs gN g1 g2 g3 (.slice adC n caC)) := ⟨by omega, by omega, by omega, by omega, by omega, by omega, by omega, fun b hb => H0.out.2.1.lt hb, n12, n1K.1, n1K.2, ⟨by omega, by omega, by omega, n1A.1⟩, ⟨by omega, by omega, by omega, n1A.2⟩, ⟨by omega, by omega, by omega, nKA⟩, HNv.out, HNz.out _ hg1, HNz.out _ hg2, HNz.out _ hg3, HNz.out _ hgN, ⟨by omega, by omega, by omega⟩⟩
            have K4 : Hid (Rw g1 n (fun _ => .int .i64 0) q0akns ∧ Rw g2 n (fun _ => .int .i64 0) q0akns ∧ Rw g3 n (fun _ => .int .i64 0) q0akns) := ⟨HN.out.1.1, HN.out.1.2, HK.out.1⟩
            have K3 : Hid (Y3 gN (.slice (some ⟨g1, 0, none⟩) n n) (.slice (some ⟨g2, 0, none⟩) n n) (.int .i64 0) q0akns) := HA.out.1
            have K5 : Hid (hs ≠ gN) := by show _ ≠ _; omega
            clear HA HK HN HS hg1 hg2 hg3 hgN hl hzz n1K n1A nKA n12 hzq HNz HZ HNE1K HNE1A HNEKA
            go_wp2
            go_meet
            case rel => exact ⟨gN, g1, g2, g3, rfl, rfl, K1, HE, K3, K4, K5⟩
  case rest =>
    obtain ⟨gN, g1, g2, g3, rfl, rfl, HD, HEc, HY, HRs, HhN⟩ := hcut
    clear HE HNv hmk
    have t8 := HEc.out.S.c8
    have n2 := HY.out.c2
    have m2 := HY.out.f2
    go_upto_region 10 with fail
    have hd := HD.out
    have HLp : Hid (L9 p (c + (kc + kS 0)) w h1 h2 hs gN g1 g2 g3 (fun W' => Q12 hs (.int .i64 B) (.int .i64 Wm) (.slice adD nD caD) (.int .i64 b1) (.int .i64 b2) (.int .i64 ep) (.int .i64 dc) (.int .i64 cl) (.int .i64 t1) (.int .i64 rt) (.int .i64 o1) (.int .i64 o2) W') (.slice adM n caM) (.slice adV n caV) (.slice adC n caC) T t1 n GC FM FV FY 0 (wc.setCell ⟨gN, 2, none⟩ (.int .i64 t1))) := by
      have e0 : c + (kc + kS 0) = c + kc := by rw [H0.out.2.2.2.2.2]; omega
      rw [e0]
      exact ⟨HEc.out.U.far (a := ⟨gN, 2, none⟩) _ hd.lN, HEc.out.tb.set9 H0.out.1 ⟨gN, 2, none⟩ _ hd.lN, HEc.out.S.far ⟨gN, 2, none⟩ _ hd.oN.2.2, HEc.out.A.far ⟨gN, 2, none⟩ _ hd.oN.1, HEc.out.R.far ⟨gN, 2, none⟩ _ hd.oN.2.1, HY.out.set2 _, (HRs.out.1.far (p := ⟨gN, 2, none⟩) _ (fun e => hd.o1.2.2.2 e.symm)).congr (fun k _ => by rw [if_neg (Nat.not_lt_zero k)]), (HRs.out.2.1.far (p := ⟨gN, 2, none⟩) _ (fun e => hd.o2.2.2.2 e.symm)).congr (fun k _ => by rw [if_neg (Nat.not_lt_zero k)]), (HRs.out.2.2.far (p := ⟨gN, 2, none⟩) _ (fun e => hd.o3.2.2.2 e.symm)).congr (fun k _ => by rw [if_neg (Nat.not_lt_zero k)]), HEc.out.C.set9e _ _ hd.cN⟩
    clear hd t8 n2 m2 HEc HY HRs HhN
    generalize wc.setCell ⟨gN, 2, none⟩ (.int .i64 t1) = wl at *
    go_wp2
    go_loopw [61] (fun si wr => ∃ j : Nat, j ≤ n ∧ si = .int .i64 (j : Int) ∧ Hid (L9 p (c + (kc + kS j)) w h1 h2 hs gN g1 g2 g3 (fun W' => Q12 hs (.int .i64 B) (.int .i64 Wm) (.slice adD nD caD) (.int .i64 b1) (.int .i64 b2) (.int .i64 ep) (.int .i64 dc) (.int .i64 cl) (.int .i64 t1) (.int .i64 rt) (.int .i64 o1) (.int .i64 o2) W') (.slice adM n caM) (.slice adV n caV) (.slice adC n caC) T t1 n GC FM FV FY j wr)) (fun si _ => n - (intOf si).toNat)
    case atStart => exact ⟨0, by omega, rfl, HLp⟩
    case round =>
      clear HLp
      obtain ⟨j, hj, rfl, HLj⟩ := hrel
      by_cases hlt : j < n
      · have hjI : (j : Int) < (n : Int) := by omega
        obtain ⟨bM, oM, eM, cM, -, -⟩ := (H0.out.2.2.1.1.ux H0.out.2.2.2.1.1 HLj.out.U).at j hlt
        obtain ⟨bV, oV, eV, cV, -, -⟩ := (H0.out.2.2.1.2.1.ux H0.out.2.2.2.1.2.1 HLj.out.U).at j hlt
        obtain ⟨bP, oP, eP, cP, -, -⟩ := (H0.out.2.2.1.2.2.ux H0.out.2.2.2.1.2.2 HLj.out.U).at j hlt
        obtain ⟨bC, oC, eC, cC, -, -⟩ := HLj.out.C.at j hlt
        subst eM eV eP eC
        have hd := HD.out
        have HNu : Hid (Nu hs p ∧ Nu h1 p ∧ Nu bM p ∧ Nu bV p ∧ Nu bP p ∧ Nu bC p) := ⟨hd.u _ hd.ls, hd.u _ hd.l1, H0.out.2.2.2.1.1.nu (by omega), H0.out.2.2.2.1.2.1.nu (by omega), H0.out.2.2.2.1.2.2.nu (by omega), hd.cv.nu (by omega)⟩
        have HFj : Hid (F9 hs h1 (.int .i64 B) (.int .i64 Wm) (.slice adD nD caD) (.int .i64 b1) (.int .i64 b2) (.int .i64 ep) (.int .i64 dc) (.int .i64 cl) (.int .i64 t1) (.int .i64 rt) (.int .i64 o1) (.int .i64 o2) (.slice (some ⟨bM, oM, none⟩) n caM) (.slice (some ⟨bV, oV, none⟩) n caV) bM oM bV oV bP oP bC oC j (M j) (V j) (P j) (GC j) wr) := ⟨HLj.out.S.c0, HLj.out.S.c1, HLj.out.S.c2, HLj.out.S.c3, HLj.out.S.c4, HLj.out.S.c5, HLj.out.S.c6, HLj.out.S.c7, HLj.out.S.c8, HLj.out.S.c9, HLj.out.S.c10, HLj.out.S.c11, HLj.out.A.c0, HLj.out.A.c1, cM, cV, cP, cC⟩
        have HMj : Hid (∀ W' : World, TabAt W' → Up p (c + (kc + kS j)) W' → Calls Tryz.prog 22 #[.agg #[.int .i64 B, .int .i64 Wm, .slice adD nD caD, .int .i64 b1, .int .i64 b2, .int .i64 ep, .int .i64 dc, .int .i64 cl, .int .i64 t1, .int .i64 rt, .int .i64 o1, .int .i64 o2], .pointer p, .agg #[.int .i64 (M j), .int .i64 (V j), .int .i64 (P j)], .int .i64 (GC j)] W' fun e w' => e = .returned (.agg #[.int .i64 (FM j), .int .i64 (FV j), .int .i64 (FY j)]) ∧ Ux p (c + (kc + kS (j + 1))) W' w') := fun W' ht hu => CM.out j W' hlt ht hu
        clear cM cV cP cC hd
        go_upto_region 13 with fail
        go_cut [21, 61] from 61 to 103 (fun s21 s61 wc => ∃ bt : Nat, s21 = .pointer (some ⟨bt, 0, none⟩) ∧ s61 = .int .i64 (j : Int) ∧ Hid (Y3 bt (.int .i64 (FM j)) (.int .i64 (FV j)) (.int .i64 (FY j)) wc) ∧ Hid (Fr9b w h1 h2 hs gN g1 g2 g3 (.slice (some ⟨bC, oC, none⟩) n caC) bt) ∧ Hid (L9 p (c + (kc + kS (j + 1))) w h1 h2 hs gN g1 g2 g3 (fun W' => Q12 hs (.int .i64 B) (.int .i64 Wm) (.slice adD nD caD) (.int .i64 b1) (.int .i64 b2) (.int .i64 ep) (.int .i64 dc) (.int .i64 cl) (.int .i64 t1) (.int .i64 rt) (.int .i64 o1) (.int .i64 o2) W') (.slice (some ⟨bM, oM, none⟩) n caM) (.slice (some ⟨bV, oV, none⟩) n caV) (.slice (some ⟨bC, oC, none⟩) n caC) T t1 n GC FM FV FY j wc))
        case first =>
          have hbD : Below wr.heap.size wr wr.drew := (Below.refl _ _).drew
          replace HLj : Hid (L9 p (c + (kc + kS j)) w h1 h2 hs gN g1 g2 g3 (fun W' => Q12 hs (.int .i64 B) (.int .i64 Wm) (.slice adD nD caD) (.int .i64 b1) (.int .i64 b2) (.int .i64 ep) (.int .i64 dc) (.int .i64 cl) (.int .i64 t1) (.int .i64 rt) (.int .i64 o1) (.int .i64 o2) W') (.slice (some ⟨bM, oM, none⟩) n caM) (.slice (some ⟨bV, oV, none⟩) n caV) (.slice (some ⟨bC, oC, none⟩) n caC) T t1 n GC FM FV FY j wr.drew) := HLj.out.later hbD (HLj.out.S.later hbD)
          refine wp_region_held_drew (S := fun W' => F9 hs h1 (.int .i64 B) (.int .i64 Wm) (.slice adD nD caD) (.int .i64 b1) (.int .i64 b2) (.int .i64 ep) (.int .i64 dc) (.int .i64 cl) (.int .i64 t1) (.int .i64 rt) (.int .i64 o1) (.int .i64 o2) (.slice (some ⟨bM, oM, none⟩) n caM) (.slice (some ⟨bV, oV, none⟩) n caV) bM oM bV oV bP oP bC oC j (M j) (V j) (P j) (GC j) W') (by kernel_rfl) (HFj.out.later hbD) (fun HS => ?_)
          clear hbD HFj
          generalize wr.drew = q0 at *
          refine wpAnyH_take (i := 0) (v := ?_) rfl (by kernel_rfl) (by kernel_rfl) (by kernel_rfl) (fun _ _ _ h => h) (Or.inl ⟨by kernel_rfl, ?_⟩) HS ?_
          rotate_left
          · (rintro w ⟨s0, s1, s2, s3, s4, s5, s6, s7, s8, s9, s10, s11, a0, a1, cm, cv, cq, cg⟩; go_simp) <;> with_reducible rfl
          try simp only [Act.put, List.getElem_toArray, List.getElem_cons_succ, List.getElem_cons_zero, List.setIfInBounds_toArray, List.set_cons_zero, List.set_cons_succ]
          refine wpAnyH_take (i := 1) (v := ?_) rfl (by kernel_rfl) (by kernel_rfl) (by kernel_rfl) (fun _ _ _ h => h) (Or.inl ⟨by kernel_rfl, ?_⟩) HS ?_
          rotate_left
          · (rintro w ⟨s0, s1, s2, s3, s4, s5, s6, s7, s8, s9, s10, s11, a0, a1, cm, cv, cq, cg⟩; go_simp) <;> with_reducible rfl
          try simp only [Act.put, List.getElem_toArray, List.getElem_cons_succ, List.getElem_cons_zero, List.setIfInBounds_toArray, List.set_cons_zero, List.set_cons_succ]
          refine wpAnyH_take (i := 2) (v := ?_) rfl (by kernel_rfl) (by kernel_rfl) (by kernel_rfl) (fun _ _ _ h => h) (Or.inl ⟨by kernel_rfl, ?_⟩) HS ?_
          rotate_left
          · (rintro w ⟨s0, s1, s2, s3, s4, s5, s6, s7, s8, s9, s10, s11, a0, a1, cm, cv, cq, cg⟩; go_simp) <;> with_reducible rfl
          try simp only [Act.put, List.getElem_toArray, List.getElem_cons_succ, List.getElem_cons_zero, List.setIfInBounds_toArray, List.set_cons_zero, List.set_cons_succ]
          refine wpAnyH_take (i := 3) (v := ?_) rfl (by kernel_rfl) (by kernel_rfl) (by kernel_rfl) (fun _ _ _ h => h) (Or.inl ⟨by kernel_rfl, ?_⟩) HS ?_
          rotate_left
          · (rintro w ⟨s0, s1, s2, s3, s4, s5, s6, s7, s8, s9, s10, s11, a0, a1, cm, cv, cq, cg⟩; go_simp) <;> with_reducible rfl
          try simp only [Act.put, List.getElem_toArray, List.getElem_cons_succ, List.getElem_cons_zero, List.setIfInBounds_toArray, List.set_cons_zero, List.set_cons_succ]
          refine wpAnyH_take (i := 4) (v := ?_) rfl (by kernel_rfl) (by kernel_rfl) (by kernel_rfl) (fun _ _ _ h => h) (Or.inl ⟨by kernel_rfl, ?_⟩) HS ?_
          rotate_left
          · (rintro w ⟨s0, s1, s2, s3, s4, s5, s6, s7, s8, s9, s10, s11, a0, a1, cm, cv, cq, cg⟩; go_simp) <;> with_reducible rfl
          try simp only [Act.put, List.getElem_toArray, List.getElem_cons_succ, List.getElem_cons_zero, List.setIfInBounds_toArray, List.set_cons_zero, List.set_cons_succ]
          refine wpAnyH_take (i := 5) (v := ?_) rfl (by kernel_rfl) (by kernel_rfl) (by kernel_rfl) (fun _ _ _ h => h) (Or.inl ⟨by kernel_rfl, ?_⟩) HS ?_
          rotate_left
          · (rintro w ⟨s0, s1, s2, s3, s4, s5, s6, s7, s8, s9, s10, s11, a0, a1, cm, cv, cq, cg⟩; go_simp) <;> with_reducible rfl
          try simp only [Act.put, List.getElem_toArray, List.getElem_cons_succ, List.getElem_cons_zero, List.setIfInBounds_toArray, List.set_cons_zero, List.set_cons_succ]
          refine wpAnyH_take (i := 6) (v := ?_) rfl (by kernel_rfl) (by kernel_rfl) (by kernel_rfl) (fun _ _ _ h => h) (Or.inl ⟨by kernel_rfl, ?_⟩) HS ?_
          rotate_left
          · (rintro w ⟨s0, s1, s2, s3, s4, s5, s6, s7, s8, s9, s10, s11, a0, a1, cm, cv, cq, cg⟩; go_simp) <;> with_reducible rfl
          try simp only [Act.put, List.getElem_toArray, List.getElem_cons_succ, List.getElem_cons_zero, List.setIfInBounds_toArray, List.set_cons_zero, List.set_cons_succ]
          refine wpAnyH_take (i := 7) (v := ?_) rfl (by kernel_rfl) (by kernel_rfl) (by kernel_rfl) (fun _ _ _ h => h) (Or.inl ⟨by kernel_rfl, ?_⟩) HS ?_
          rotate_left
          · (rintro w ⟨s0, s1, s2, s3, s4, s5, s6, s7, s8, s9, s10, s11, a0, a1, cm, cv, cq, cg⟩; go_simp) <;> with_reducible rfl
          try simp only [Act.put, List.getElem_toArray, List.getElem_cons_succ, List.getElem_cons_zero, List.setIfInBounds_toArray, List.set_cons_zero, List.set_cons_succ]
          refine wpAnyH_take (i := 8) (v := ?_) rfl (by kernel_rfl) (by kernel_rfl) (by kernel_rfl) (fun _ _ _ h => h) (Or.inl ⟨by kernel_rfl, ?_⟩) HS ?_
          rotate_left
          · (rintro w ⟨s0, s1, s2, s3, s4, s5, s6, s7, s8, s9, s10, s11, a0, a1, cm, cv, cq, cg⟩; go_simp) <;> with_reducible rfl
          try simp only [Act.put, List.getElem_toArray, List.getElem_cons_succ, List.getElem_cons_zero, List.setIfInBounds_toArray, List.set_cons_zero, List.set_cons_succ]
          refine wpAnyH_take (i := 9) (v := ?_) rfl (by kernel_rfl) (by kernel_rfl) (by kernel_rfl) (fun _ _ _ h => h) (Or.inl ⟨by kernel_rfl, ?_⟩) HS ?_
          rotate_left
          · (rintro w ⟨s0, s1, s2, s3, s4, s5, s6, s7, s8, s9, s10, s11, a0, a1, cm, cv, cq, cg⟩; go_simp) <;> with_reducible rfl
          try simp only [Act.put, List.getElem_toArray, List.getElem_cons_succ, List.getElem_cons_zero, List.setIfInBounds_toArray, List.set_cons_zero, List.set_cons_succ]
          refine wpAnyH_take (i := 10) (v := ?_) rfl (by kernel_rfl) (by kernel_rfl) (by kernel_rfl) (fun _ _ _ h => h) (Or.inl ⟨by kernel_rfl, ?_⟩) HS ?_
          rotate_left
          · (rintro w ⟨s0, s1, s2, s3, s4, s5, s6, s7, s8, s9, s10, s11, a0, a1, cm, cv, cq, cg⟩; go_simp) <;> with_reducible rfl
          try simp only [Act.put, List.getElem_toArray, List.getElem_cons_succ, List.getElem_cons_zero, List.setIfInBounds_toArray, List.set_cons_zero, List.set_cons_succ]
          refine wpAnyH_take (i := 11) (v := ?_) rfl (by kernel_rfl) (by kernel_rfl) (by kernel_rfl) (fun _ _ _ h => h) (Or.inl ⟨by kernel_rfl, ?_⟩) HS ?_
          rotate_left
          · (rintro w ⟨s0, s1, s2, s3, s4, s5, s6, s7, s8, s9, s10, s11, a0, a1, cm, cv, cq, cg⟩; go_simp) <;> with_reducible rfl
          try simp only [Act.put, List.getElem_toArray, List.getElem_cons_succ, List.getElem_cons_zero, List.setIfInBounds_toArray, List.set_cons_zero, List.set_cons_succ]
          refine wpAnyH_take (i := 12) (v := ?_) rfl (by kernel_rfl) (by kernel_rfl) (by kernel_rfl) (fun _ _ _ h => h) (Or.inl ⟨by kernel_rfl, ?_⟩) HS ?_
          rotate_left
          · (rintro w ⟨s0, s1, s2, s3, s4, s5, s6, s7, s8, s9, s10, s11, a0, a1, cm, cv, cq, cg⟩; go_simp) <;> with_reducible rfl
          try simp only [Act.put, List.getElem_toArray, List.getElem_cons_succ, List.getElem_cons_zero, List.setIfInBounds_toArray, List.set_cons_zero, List.set_cons_succ]
          refine wpAnyH_take (i := 13) (v := ?_) rfl (by kernel_rfl) (by kernel_rfl) (by kernel_rfl) (fun _ _ _ h => h) (Or.inl ⟨by kernel_rfl, ?_⟩) HS ?_
          rotate_left
          · (rintro w ⟨s0, s1, s2, s3, s4, s5, s6, s7, s8, s9, s10, s11, a0, a1, cm, cv, cq, cg⟩; go_simp) <;> with_reducible rfl
          try simp only [Act.put, List.getElem_toArray, List.getElem_cons_succ, List.getElem_cons_zero, List.setIfInBounds_toArray, List.set_cons_zero, List.set_cons_succ]
          refine wpAnyH_take (i := 14) (v := ?_) rfl (by kernel_rfl) (by kernel_rfl) (by kernel_rfl) (fun _ _ _ h => h) (Or.inl ⟨by kernel_rfl, ?_⟩) HS ?_
          rotate_left
          · (rintro w ⟨s0, s1, s2, s3, s4, s5, s6, s7, s8, s9, s10, s11, a0, a1, cm, cv, cq, cg⟩; go_simp) <;> with_reducible rfl
          try simp only [Act.put, List.getElem_toArray, List.getElem_cons_succ, List.getElem_cons_zero, List.setIfInBounds_toArray, List.set_cons_zero, List.set_cons_succ]
          refine wpAnyH_take (i := 15) (v := ?_) rfl (by kernel_rfl) (by kernel_rfl) (by kernel_rfl) (fun _ _ _ h => h) (Or.inl ⟨by kernel_rfl, ?_⟩) HS ?_
          rotate_left
          · (rintro w ⟨s0, s1, s2, s3, s4, s5, s6, s7, s8, s9, s10, s11, a0, a1, cm, cv, cq, cg⟩; go_simp) <;> with_reducible rfl
          try simp only [Act.put, List.getElem_toArray, List.getElem_cons_succ, List.getElem_cons_zero, List.setIfInBounds_toArray, List.set_cons_zero, List.set_cons_succ]
          refine wpAnyH_take (i := 16) (v := ?_) rfl (by kernel_rfl) (by kernel_rfl) (by kernel_rfl) (fun _ _ _ h => h) (Or.inl ⟨by kernel_rfl, ?_⟩) HS ?_
          rotate_left
          · (rintro w ⟨s0, s1, s2, s3, s4, s5, s6, s7, s8, s9, s10, s11, a0, a1, cm, cv, cq, cg⟩; go_simp) <;> with_reducible rfl
          try simp only [Act.put, List.getElem_toArray, List.getElem_cons_succ, List.getElem_cons_zero, List.setIfInBounds_toArray, List.set_cons_zero, List.set_cons_succ]
          refine wpAnyH_take (i := 17) (v := ?_) rfl (by kernel_rfl) (by kernel_rfl) (by kernel_rfl) (fun _ _ _ h => h) (Or.inl ⟨by kernel_rfl, ?_⟩) HS ?_
          rotate_left
          · (rintro w ⟨s0, s1, s2, s3, s4, s5, s6, s7, s8, s9, s10, s11, a0, a1, cm, cv, cq, cg⟩; go_simp) <;> with_reducible rfl
          try simp only [Act.put, List.getElem_toArray, List.getElem_cons_succ, List.getElem_cons_zero, List.setIfInBounds_toArray, List.set_cons_zero, List.set_cons_succ]
          refine wpAnyH_take (i := 18) (v := ?_) rfl (by kernel_rfl) (by kernel_rfl) (by kernel_rfl) (fun _ _ _ h => h) (Or.inl ⟨by kernel_rfl, ?_⟩) HS ?_
          rotate_left
          · (rintro w ⟨s0, s1, s2, s3, s4, s5, s6, s7, s8, s9, s10, s11, a0, a1, cm, cv, cq, cg⟩; go_simp) <;> with_reducible rfl
          try simp only [Act.put, List.getElem_toArray, List.getElem_cons_succ, List.getElem_cons_zero, List.setIfInBounds_toArray, List.set_cons_zero, List.set_cons_succ]
          refine wpAnyH_take (i := 19) (v := ?_) rfl (by kernel_rfl) (by kernel_rfl) (by kernel_rfl) (fun _ _ _ h => h) (Or.inl ⟨by kernel_rfl, ?_⟩) HS ?_
          rotate_left
          · (rintro w ⟨s0, s1, s2, s3, s4, s5, s6, s7, s8, s9, s10, s11, a0, a1, cm, cv, cq, cg⟩; go_simp) <;> with_reducible rfl
          try simp only [Act.put, List.getElem_toArray, List.getElem_cons_succ, List.getElem_cons_zero, List.setIfInBounds_toArray, List.set_cons_zero, List.set_cons_succ]
          refine wpAnyH_take (i := 20) (v := ?_) rfl (by kernel_rfl) (by kernel_rfl) (by kernel_rfl) (fun _ _ _ h => h) (Or.inl ⟨by kernel_rfl, ?_⟩) HS ?_
          rotate_left
          · (rintro w ⟨s0, s1, s2, s3, s4, s5, s6, s7, s8, s9, s10, s11, a0, a1, cm, cv, cq, cg⟩; go_simp) <;> with_reducible rfl
          try simp only [Act.put, List.getElem_toArray, List.getElem_cons_succ, List.getElem_cons_zero, List.setIfInBounds_toArray, List.set_cons_zero, List.set_cons_succ]
          refine wpAnyH_ready (rs := [21, 22]) (by kernel_rfl) (by simp) ?_
          refine AllReadyH.cons rfl (fun K hK => ?_) (AllReadyH.cons rfl (fun K hK => ?_) AllReadyH.nil)
          · go_simp
            refine (HMj.out _ HLj.out.tb HLj.out.U.up).mono ?_
            rintro e q1 ⟨rfl, hU⟩
            refine hK.out _ _ (HS.ux hU HNu.out) (fun HS => ?_)
            clear hK K
            have HLk : Hid (L9 p (c + (kc + kS (j + 1))) w h1 h2 hs gN g1 g2 g3 (fun W' => Q12 hs (.int .i64 B) (.int .i64 Wm) (.slice adD nD caD) (.int .i64 b1) (.int .i64 b2) (.int .i64 ep) (.int .i64 dc) (.int .i64 cl) (.int .i64 t1) (.int .i64 rt) (.int .i64 o1) (.int .i64 o2) W') (.slice (some ⟨bM, oM, none⟩) n caM) (.slice (some ⟨bV, oV, none⟩) n caV) (.slice (some ⟨bC, oC, none⟩) n caC) T t1 n GC FM FV FY j q1) := HLj.out.ux HD.out hU (HLj.out.S.ux HNu.out.1 hU)
            clear hU HLj
            have HNe : Hid (q1.heap.size ≠ hs ∧ q1.heap.size ≠ h1 ∧ q1.heap.size ≠ bM ∧ q1.heap.size ≠ bV ∧ q1.heap.size ≠ bP ∧ q1.heap.size ≠ bC) := by have h := HS.lts; exact ⟨by omega, by omega, by omega, by omega, by omega, by omega⟩
            refine wpAnyH_ready (rs := [22]) (by kernel_rfl) (by simp) ?_
            refine AllReadyH.cons rfl (fun K hK => ?_) AllReadyH.nil
            go_simp
            refine hK.out _ _ (HS.later (bel1 _ _)) (fun HS => ?_)
            clear hK K
            have HFb : Hid (Fr9b w h1 h2 hs gN g1 g2 g3 (.slice (some ⟨bC, oC, none⟩) n caC) q1.heap.size) := HLk.out.fresh HLk.out.S.lt (by omega)
            have HY : Hid (Y3 q1.heap.size (.int .i64 0) (.int .i64 0) (.int .i64 0) (q1.alloc (.cells #[.int .i64 0, .int .i64 0, .int .i64 0] 75))) := Y3.new _ _ _ _ _
            replace HLk : Hid (L9 p (c + (kc + kS (j + 1))) w h1 h2 hs gN g1 g2 g3 (fun W' => Q12 hs (.int .i64 B) (.int .i64 Wm) (.slice adD nD caD) (.int .i64 b1) (.int .i64 b2) (.int .i64 ep) (.int .i64 dc) (.int .i64 cl) (.int .i64 t1) (.int .i64 rt) (.int .i64 o1) (.int .i64 o2) W') (.slice (some ⟨bM, oM, none⟩) n caM) (.slice (some ⟨bV, oV, none⟩) n caV) (.slice (some ⟨bC, oC, none⟩) n caC) T t1 n GC FM FV FY j (q1.alloc (.cells #[.int .i64 0, .int .i64 0, .int .i64 0] 75))) := HLk.out.later (bel1 _ _) (HLk.out.S.later (bel1 _ _))
            generalize q1.alloc (.cells #[.int .i64 0, .int .i64 0, .int .i64 0] 75) = q2 at *
            generalize q1.heap.size = bt at *
            have y0 := HY.out.c0
            have y1 := HY.out.c1
            have y2 := HY.out.c2
            have f0 := HY.out.f0
            have f1 := HY.out.f1
            have f2 := HY.out.f2
            refine wpAnyH_ready (rs := [23]) (by kernel_rfl) (by simp) ?_
            refine AllReadyH.cons rfl (fun K hK => ?_) AllReadyH.nil
            go_simp
            refine hK.out _ _ (((HS.far ⟨bt, 0, none⟩ _ HNe.out).far ⟨bt, 1, none⟩ _ HNe.out).far ⟨bt, 2, none⟩ _ HNe.out) (fun HS => ?_)
            clear hK K
            refine wpAnyH_done (by kernel_rfl) ?_ _
            clear HS
            have K1 : Hid (Y3 bt (.int .i64 (FM j)) (.int .i64 (FV j)) (.int .i64 (FY j)) (((q2.setCell ⟨bt, 0, none⟩ (.int .i64 (FM j))).setCell ⟨bt, 1, none⟩ (.int .i64 (FV j))).setCell ⟨bt, 2, none⟩ (.int .i64 (FY j)))) := ((HY.out.set0 _).set1 _).set2 _
            have K2 : Hid (L9 p (c + (kc + kS (j + 1))) w h1 h2 hs gN g1 g2 g3 (fun W' => Q12 hs (.int .i64 B) (.int .i64 Wm) (.slice adD nD caD) (.int .i64 b1) (.int .i64 b2) (.int .i64 ep) (.int .i64 dc) (.int .i64 cl) (.int .i64 t1) (.int .i64 rt) (.int .i64 o1) (.int .i64 o2) W') (.slice (some ⟨bM, oM, none⟩) n caM) (.slice (some ⟨bV, oV, none⟩) n caV) (.slice (some ⟨bC, oC, none⟩) n caC) T t1 n GC FM FV FY j (((q2.setCell ⟨bt, 0, none⟩ (.int .i64 (FM j))).setCell ⟨bt, 1, none⟩ (.int .i64 (FV j))).setCell ⟨bt, 2, none⟩ (.int .i64 (FY j)))) := ((HLk.out.far H0.out.1 ⟨bt, 0, none⟩ _ HFb.out.1 HFb.out.2.1 HFb.out.2.2.2 (HLk.out.S.far ⟨bt, 0, none⟩ _ HFb.out.2.2.1)).far H0.out.1 ⟨bt, 1, none⟩ _ HFb.out.1 HFb.out.2.1 HFb.out.2.2.2 ((HLk.out.S.far ⟨bt, 0, none⟩ _ HFb.out.2.2.1).far ⟨bt, 1, none⟩ _ HFb.out.2.2.1)).far H0.out.1 ⟨bt, 2, none⟩ _ HFb.out.1 HFb.out.2.1 HFb.out.2.2.2 (((HLk.out.S.far ⟨bt, 0, none⟩ _ HFb.out.2.2.1).far ⟨bt, 1, none⟩ _ HFb.out.2.2.1).far ⟨bt, 2, none⟩ _ HFb.out.2.2.1)
            clear y0 y1 y2 f0 f1 f2 HY HLk
            generalize (((q2.setCell ⟨bt, 0, none⟩ (.int .i64 (FM j))).setCell ⟨bt, 1, none⟩ (.int .i64 (FV j))).setCell ⟨bt, 2, none⟩ (.int .i64 (FY j))) = wE at *
            go_wp2
            go_meet
            case rel => exact ⟨bt, rfl, rfl, K1, HFb, K2⟩
          · go_simp
            have HNe : Hid (q0.heap.size ≠ hs ∧ q0.heap.size ≠ h1 ∧ q0.heap.size ≠ bM ∧ q0.heap.size ≠ bV ∧ q0.heap.size ≠ bP ∧ q0.heap.size ≠ bC) := by have h := HS.lts; exact ⟨by omega, by omega, by omega, by omega, by omega, by omega⟩
            refine hK.out _ _ (HS.later (bel1 _ _)) (fun HS => ?_)
            clear hK K
            have HFb : Hid (Fr9b w h1 h2 hs gN g1 g2 g3 (.slice (some ⟨bC, oC, none⟩) n caC) q0.heap.size) := HLj.out.fresh HLj.out.S.lt (by omega)
            have HY : Hid (Y3 q0.heap.size (.int .i64 0) (.int .i64 0) (.int .i64 0) (q0.alloc (.cells #[.int .i64 0, .int .i64 0, .int .i64 0] 75))) := Y3.new _ _ _ _ _
            replace HLj : Hid (L9 p (c + (kc + kS j)) w h1 h2 hs gN g1 g2 g3 (fun W' => Q12 hs (.int .i64 B) (.int .i64 Wm) (.slice adD nD caD) (.int .i64 b1) (.int .i64 b2) (.int .i64 ep) (.int .i64 dc) (.int .i64 cl) (.int .i64 t1) (.int .i64 rt) (.int .i64 o1) (.int .i64 o2) W') (.slice (some ⟨bM, oM, none⟩) n caM) (.slice (some ⟨bV, oV, none⟩) n caV) (.slice (some ⟨bC, oC, none⟩) n caC) T t1 n GC FM FV FY j (q0.alloc (.cells #[.int .i64 0, .int .i64 0, .int .i64 0] 75))) := HLj.out.later (bel1 _ _) (HLj.out.S.later (bel1 _ _))
            generalize q0.alloc (.cells #[.int .i64 0, .int .i64 0, .int .i64 0] 75) = q1 at *
            generalize q0.heap.size = bt at *
            refine wpAnyH_ready (rs := [21]) (by kernel_rfl) (by simp) ?_
            refine AllReadyH.cons rfl (fun K hK => ?_) AllReadyH.nil
            go_simp
            refine (HMj.out _ HLj.out.tb HLj.out.U.up).mono ?_
            rintro e q2 ⟨rfl, hU⟩
            refine hK.out _ _ (HS.ux hU HNu.out) (fun HS => ?_)
            clear hK K
            have HLk : Hid (L9 p (c + (kc + kS (j + 1))) w h1 h2 hs gN g1 g2 g3 (fun W' => Q12 hs (.int .i64 B) (.int .i64 Wm) (.slice adD nD caD) (.int .i64 b1) (.int .i64 b2) (.int .i64 ep) (.int .i64 dc) (.int .i64 cl) (.int .i64 t1) (.int .i64 rt) (.int .i64 o1) (.int .i64 o2) W') (.slice (some ⟨bM, oM, none⟩) n caM) (.slice (some ⟨bV, oV, none⟩) n caV) (.slice (some ⟨bC, oC, none⟩) n caC) T t1 n GC FM FV FY j q2) := HLj.out.ux HD.out hU (HLj.out.S.ux HNu.out.1 hU)
            replace HY : Hid (Y3 bt (.int .i64 0) (.int .i64 0) (.int .i64 0) q2) := HY.out.ux (HD.out.u _ HFb.out.1) hU
            clear hU HLj
            have y0 := HY.out.c0
            have y1 := HY.out.c1
            have y2 := HY.out.c2
            have f0 := HY.out.f0
            have f1 := HY.out.f1
            have f2 := HY.out.f2
            refine wpAnyH_ready (rs := [23]) (by kernel_rfl) (by simp) ?_
            refine AllReadyH.cons rfl (fun K hK => ?_) AllReadyH.nil
            go_simp
            refine hK.out _ _ (((HS.far ⟨bt, 0, none⟩ _ HNe.out).far ⟨bt, 1, none⟩ _ HNe.out).far ⟨bt, 2, none⟩ _ HNe.out) (fun HS => ?_)
            clear hK K
            refine wpAnyH_done (by kernel_rfl) ?_ _
            clear HS
            have K1 : Hid (Y3 bt (.int .i64 (FM j)) (.int .i64 (FV j)) (.int .i64 (FY j)) (((q2.setCell ⟨bt, 0, none⟩ (.int .i64 (FM j))).setCell ⟨bt, 1, none⟩ (.int .i64 (FV j))).setCell ⟨bt, 2, none⟩ (.int .i64 (FY j)))) := ((HY.out.set0 _).set1 _).set2 _
            have K2 : Hid (L9 p (c + (kc + kS (j + 1))) w h1 h2 hs gN g1 g2 g3 (fun W' => Q12 hs (.int .i64 B) (.int .i64 Wm) (.slice adD nD caD) (.int .i64 b1) (.int .i64 b2) (.int .i64 ep) (.int .i64 dc) (.int .i64 cl) (.int .i64 t1) (.int .i64 rt) (.int .i64 o1) (.int .i64 o2) W') (.slice (some ⟨bM, oM, none⟩) n caM) (.slice (some ⟨bV, oV, none⟩) n caV) (.slice (some ⟨bC, oC, none⟩) n caC) T t1 n GC FM FV FY j (((q2.setCell ⟨bt, 0, none⟩ (.int .i64 (FM j))).setCell ⟨bt, 1, none⟩ (.int .i64 (FV j))).setCell ⟨bt, 2, none⟩ (.int .i64 (FY j)))) := ((HLk.out.far H0.out.1 ⟨bt, 0, none⟩ _ HFb.out.1 HFb.out.2.1 HFb.out.2.2.2 (HLk.out.S.far ⟨bt, 0, none⟩ _ HFb.out.2.2.1)).far H0.out.1 ⟨bt, 1, none⟩ _ HFb.out.1 HFb.out.2.1 HFb.out.2.2.2 ((HLk.out.S.far ⟨bt, 0, none⟩ _ HFb.out.2.2.1).far ⟨bt, 1, none⟩ _ HFb.out.2.2.1)).far H0.out.1 ⟨bt, 2, none⟩ _ HFb.out.1 HFb.out.2.1 HFb.out.2.2.2 (((HLk.out.S.far ⟨bt, 0, none⟩ _ HFb.out.2.2.1).far ⟨bt, 1, none⟩ _ HFb.out.2.2.1).far ⟨bt, 2, none⟩ _ HFb.out.2.2.1)
            clear y0 y1 y2 f0 f1 f2 HY HLk
            generalize (((q2.setCell ⟨bt, 0, none⟩ (.int .i64 (FM j))).setCell ⟨bt, 1, none⟩ (.int .i64 (FV j))).setCell ⟨bt, 2, none⟩ (.int .i64 (FY j))) = wE at *
            go_wp2
            go_meet
            case rel => exact ⟨bt, rfl, rfl, K1, HFb, K2⟩
        case rest =>
          obtain ⟨bt, rfl, rfl, HY, HFb, HLk⟩ := hcut
          clear HLj HFj HMj
          go_upto_region 14 with fail
          have hbD : Below wc.heap.size wc wc.drew := (Below.refl _ _).drew
          replace HLk : Hid (L9 p (c + (kc + kS (j + 1))) w h1 h2 hs gN g1 g2 g3 (fun W' => Q12 hs (.int .i64 B) (.int .i64 Wm) (.slice adD nD caD) (.int .i64 b1) (.int .i64 b2) (.int .i64 ep) (.int .i64 dc) (.int .i64 cl) (.int .i64 t1) (.int .i64 rt) (.int .i64 o1) (.int .i64 o2) W') (.slice (some ⟨bM, oM, none⟩) n caM) (.slice (some ⟨bV, oV, none⟩) n caV) (.slice (some ⟨bC, oC, none⟩) n caC) T t1 n GC FM FV FY j wc.drew) := HLk.out.later hbD (HLk.out.S.later hbD)
          replace HY : Hid (Y3 bt (.int .i64 (FM j)) (.int .i64 (FV j)) (.int .i64 (FY j)) wc.drew) := HY.out.later hbD
          refine wp_region_held_drew (S := fun W' => H9 gN bt g1 g2 n (FM j) (FV j) (FY j) W') (by kernel_rfl) ⟨HLk.out.N.c0, HLk.out.N.c1, HY.out.c0, HY.out.c1, HY.out.c2⟩ (fun HS => ?_)
          clear hbD
          generalize wc.drew = q0 at *
          refine wpAnyH_take (i := 0) (v := ?_) rfl (by kernel_rfl) (by kernel_rfl) (by kernel_rfl) (fun _ _ _ h => h) (Or.inl ⟨by kernel_rfl, ?_⟩) HS ?_
          rotate_left
          · (rintro w ⟨n0, n1', t0, t1', t2⟩; go_simp) <;> with_reducible rfl
          try simp only [Act.put, List.getElem_toArray, List.getElem_cons_succ, List.getElem_cons_zero, List.setIfInBounds_toArray, List.set_cons_zero, List.set_cons_succ]
          refine wpAnyH_take (i := 1) (v := ?_) rfl (by kernel_rfl) (by kernel_rfl) (by kernel_rfl) (fun _ _ _ h => h) (Or.inl ⟨by kernel_rfl, ?_⟩) HS ?_
          rotate_left
          · (rintro w ⟨n0, n1', t0, t1', t2⟩; go_simp) <;> with_reducible rfl
          try simp only [Act.put, List.getElem_toArray, List.getElem_cons_succ, List.getElem_cons_zero, List.setIfInBounds_toArray, List.set_cons_zero, List.set_cons_succ]
          refine wpAnyH_take (i := 2) (v := ?_) rfl (by kernel_rfl) (by kernel_rfl) (by kernel_rfl) (fun _ _ _ h => h) (Or.inl ⟨by kernel_rfl, ?_⟩) HS ?_
          rotate_left
          · (rintro w ⟨n0, n1', t0, t1', t2⟩; go_simp) <;> with_reducible rfl
          try simp only [Act.put, List.getElem_toArray, List.getElem_cons_succ, List.getElem_cons_zero, List.setIfInBounds_toArray, List.set_cons_zero, List.set_cons_succ]
          refine wpAnyH_take (i := 3) (v := ?_) rfl (by kernel_rfl) (by kernel_rfl) (by kernel_rfl) (fun _ _ _ h => h) (Or.inl ⟨by kernel_rfl, ?_⟩) HS ?_
          rotate_left
          · (rintro w ⟨n0, n1', t0, t1', t2⟩; go_simp) <;> with_reducible rfl
          try simp only [Act.put, List.getElem_toArray, List.getElem_cons_succ, List.getElem_cons_zero, List.setIfInBounds_toArray, List.set_cons_zero, List.set_cons_succ]
          refine wpAnyH_take (i := 4) (v := ?_) rfl (by kernel_rfl) (by kernel_rfl) (by kernel_rfl) (fun _ _ _ h => h) (Or.inl ⟨by kernel_rfl, ?_⟩) HS ?_
          rotate_left
          · (rintro w ⟨n0, n1', t0, t1', t2⟩; go_simp) <;> with_reducible rfl
          try simp only [Act.put, List.getElem_toArray, List.getElem_cons_succ, List.getElem_cons_zero, List.setIfInBounds_toArray, List.set_cons_zero, List.set_cons_succ]
          refine wpAnyH_take (i := 5) (v := ?_) rfl (by kernel_rfl) (by kernel_rfl) (by kernel_rfl) (fun _ _ _ h => h) (Or.inl ⟨by kernel_rfl, ?_⟩) HS ?_
          rotate_left
          · (rintro w ⟨n0, n1', t0, t1', t2⟩; go_simp) <;> with_reducible rfl
          try simp only [Act.put, List.getElem_toArray, List.getElem_cons_succ, List.getElem_cons_zero, List.setIfInBounds_toArray, List.set_cons_zero, List.set_cons_succ]
          refine wpAnyH_take (i := 6) (v := ?_) rfl (by kernel_rfl) (by kernel_rfl) (by kernel_rfl) (fun _ _ _ h => h) (Or.inl ⟨by kernel_rfl, ?_⟩) HS ?_
          rotate_left
          · (rintro w ⟨n0, n1', t0, t1', t2⟩; go_simp) <;> with_reducible rfl
          try simp only [Act.put, List.getElem_toArray, List.getElem_cons_succ, List.getElem_cons_zero, List.setIfInBounds_toArray, List.set_cons_zero, List.set_cons_succ]
          refine wpAnyH_take (i := 7) (v := ?_) rfl (by kernel_rfl) (by kernel_rfl) (by kernel_rfl) (fun _ _ _ h => h) (Or.inl ⟨by kernel_rfl, ?_⟩) HS ?_
          rotate_left
          · (rintro w ⟨n0, n1', t0, t1', t2⟩; go_simp) <;> with_reducible rfl
          try simp only [Act.put, List.getElem_toArray, List.getElem_cons_succ, List.getElem_cons_zero, List.setIfInBounds_toArray, List.set_cons_zero, List.set_cons_succ]
          refine wpAnyH_take (i := 8) (v := ?_) rfl (by kernel_rfl) (by kernel_rfl) (by kernel_rfl) (fun _ _ _ h => h) (Or.inl ⟨by kernel_rfl, ?_⟩) HS ?_
          rotate_left
          · (rintro w ⟨n0, n1', t0, t1', t2⟩; go_simp) <;> with_reducible rfl
          try simp only [Act.put, List.getElem_toArray, List.getElem_cons_succ, List.getElem_cons_zero, List.setIfInBounds_toArray, List.set_cons_zero, List.set_cons_succ]
          refine wpAnyH_take (i := 9) (v := ?_) rfl (by kernel_rfl) (by kernel_rfl) (by kernel_rfl) (fun _ _ _ h => h) (Or.inl ⟨by kernel_rfl, ?_⟩) HS ?_
          rotate_left
          · (rintro w ⟨n0, n1', t0, t1', t2⟩; go_simp) <;> with_reducible rfl
          try simp only [Act.put, List.getElem_toArray, List.getElem_cons_succ, List.getElem_cons_zero, List.setIfInBounds_toArray, List.set_cons_zero, List.set_cons_succ]
          refine wpAnyH_take (i := 10) (v := ?_) rfl (by kernel_rfl) (by kernel_rfl) (by kernel_rfl) (fun _ _ _ h => h) (Or.inl ⟨by kernel_rfl, ?_⟩) HS ?_
          rotate_left
          · (rintro w ⟨n0, n1', t0, t1', t2⟩; go_simp) <;> with_reducible rfl
          try simp only [Act.put, List.getElem_toArray, List.getElem_cons_succ, List.getElem_cons_zero, List.setIfInBounds_toArray, List.set_cons_zero, List.set_cons_succ]
          refine wpAnyH_take (i := 11) (v := ?_) rfl (by kernel_rfl) (by kernel_rfl) (by kernel_rfl) (fun _ _ _ h => h) (Or.inl ⟨by kernel_rfl, ?_⟩) HS ?_
          rotate_left
          · (rintro w ⟨n0, n1', t0, t1', t2⟩; go_simp) <;> with_reducible rfl
          try simp only [Act.put, List.getElem_toArray, List.getElem_cons_succ, List.getElem_cons_zero, List.setIfInBounds_toArray, List.set_cons_zero, List.set_cons_succ]
          refine wpAnyH_take (i := 12) (v := ?_) rfl (by kernel_rfl) (by kernel_rfl) (by kernel_rfl) (fun _ _ _ h => h) (Or.inl ⟨by kernel_rfl, ?_⟩) HS ?_
          rotate_left
          · (rintro w ⟨n0, n1', t0, t1', t2⟩; go_simp) <;> with_reducible rfl
          try simp only [Act.put, List.getElem_toArray, List.getElem_cons_succ, List.getElem_cons_zero, List.setIfInBounds_toArray, List.set_cons_zero, List.set_cons_succ]
          refine wpAnyH_take (i := 13) (v := ?_) rfl (by kernel_rfl) (by kernel_rfl) (by kernel_rfl) (fun _ _ _ h => h) (Or.inl ⟨by kernel_rfl, ?_⟩) HS ?_
          rotate_left
          · (rintro w ⟨n0, n1', t0, t1', t2⟩; go_simp) <;> with_reducible rfl
          try simp only [Act.put, List.getElem_toArray, List.getElem_cons_succ, List.getElem_cons_zero, List.setIfInBounds_toArray, List.set_cons_zero, List.set_cons_succ]
          refine wpAnyH_take (i := 14) (v := ?_) rfl (by kernel_rfl) (by kernel_rfl) (by kernel_rfl) (fun _ _ _ h => h) (Or.inl ⟨by kernel_rfl, ?_⟩) HS ?_
          rotate_left
          · (rintro w ⟨n0, n1', t0, t1', t2⟩; go_simp) <;> with_reducible rfl
          try simp only [Act.put, List.getElem_toArray, List.getElem_cons_succ, List.getElem_cons_zero, List.setIfInBounds_toArray, List.set_cons_zero, List.set_cons_succ]
          have hd := HD.out
          have hfb := HFb.out
          have HSn : Hid (L9 p (c + (kc + kS (j + 1))) w h1 h2 hs gN g1 g2 g3 (fun W' => Q12 hs (.int .i64 B) (.int .i64 Wm) (.slice adD nD caD) (.int .i64 b1) (.int .i64 b2) (.int .i64 ep) (.int .i64 dc) (.int .i64 cl) (.int .i64 t1) (.int .i64 rt) (.int .i64 o1) (.int .i64 o2) W') (.slice (some ⟨bM, oM, none⟩) n caM) (.slice (some ⟨bV, oV, none⟩) n caV) (.slice (some ⟨bC, oC, none⟩) n caC) T t1 n GC FM FV FY (j + 1) (((q0.setCell ⟨g1, j, none⟩ (.int .i64 (FM j))).setCell ⟨g2, j, none⟩ (.int .i64 (FV j))).setCell ⟨g3, j, none⟩ (.int .i64 (FY j)))) := HLk.out.next hd H0.out.1 (((HLk.out.S.far ⟨g1, j, none⟩ _ hd.o1.2.2.1).far ⟨g2, j, none⟩ _ hd.o2.2.2.1).far ⟨g3, j, none⟩ _ hd.o3.2.2.1)
          have c1 : q0.cell? ⟨g1, j, none⟩ = some (.int .i64 0) := by have h := HLk.out.r1.c j hlt; rw [if_neg (by omega)] at h; exact h
          have d1 := HLk.out.r1.f j hlt
          have r2 := HLk.out.r2.far (p := ⟨g1, j, none⟩) (.int .i64 (FM j)) hd.g12
          have c2 : (q0.setCell ⟨g1, j, none⟩ (.int .i64 (FM j))).cell? ⟨g2, j, none⟩ = some (.int .i64 0) := by have h := r2.c j hlt; rw [if_neg (by omega)] at h; exact h
          have d2 := r2.f j hlt
          have r3 := (HLk.out.r3.far (p := ⟨g1, j, none⟩) (.int .i64 (FM j)) hd.g13).far (p := ⟨g2, j, none⟩) (.int .i64 (FV j)) hd.g23
          have c3 : ((q0.setCell ⟨g1, j, none⟩ (.int .i64 (FM j))).setCell ⟨g2, j, none⟩ (.int .i64 (FV j))).cell? ⟨g3, j, none⟩ = some (.int .i64 0) := by have h := r3.c j hlt; rw [if_neg (by omega)] at h; exact h
          have d3 := r3.f j hlt
          have q1 : g1 ≠ gN ∧ g1 ≠ bt := ⟨hd.o1.2.2.2, fun e => hfb.2.1.2.2.2.1 e.symm⟩
          have q2 : g2 ≠ gN ∧ g2 ≠ bt := ⟨hd.o2.2.2.2, fun e => hfb.2.1.2.2.2.2.1 e.symm⟩
          have q3 : g3 ≠ gN ∧ g3 ≠ bt := ⟨hd.o3.2.2.2, fun e => hfb.2.1.2.2.2.2.2 e.symm⟩
          have HQ : Hid ((g1 ≠ gN ∧ g1 ≠ bt) ∧ (g2 ≠ gN ∧ g2 ≠ bt) ∧ (g3 ≠ gN ∧ g3 ≠ bt)) := ⟨q1, q2, q3⟩
          clear hd hfb r2 r3 q1 q2 q3 HLk HY
          refine wpAnyH_ready (rs := [15]) (by kernel_rfl) (by simp) ?_
          refine AllReadyH.cons rfl (fun K hK => ?_) AllReadyH.nil
          go_simp
          refine hK.out _ _ (HS.far _ _ HQ.out.1.1 HQ.out.1.2) (fun HS => ?_)
          clear hK K c1 d1
          refine wpAnyH_take (i := 16) (v := ?_) rfl (by kernel_rfl) (by kernel_rfl) (by kernel_rfl) (fun _ _ _ h => h) (Or.inl ⟨by kernel_rfl, ?_⟩) HS ?_
          rotate_left
          · (rintro w ⟨n0, n1', t0, t1', t2⟩; go_simp) <;> with_reducible rfl
          try simp only [Act.put, List.getElem_toArray, List.getElem_cons_succ, List.getElem_cons_zero, List.setIfInBounds_toArray, List.set_cons_zero, List.set_cons_succ]
          refine wpAnyH_ready (rs := [17]) (by kernel_rfl) (by simp) ?_
          refine AllReadyH.cons rfl (fun K hK => ?_) AllReadyH.nil
          go_simp
          refine hK.out _ _ (HS.far _ _ HQ.out.2.1.1 HQ.out.2.1.2) (fun HS => ?_)
          clear hK K c2 d2
          refine wpAnyH_take (i := 18) (v := ?_) rfl (by kernel_rfl) (by kernel_rfl) (by kernel_rfl) (fun _ _ _ h => h) (Or.inl ⟨by kernel_rfl, ?_⟩) HS ?_
          rotate_left
          · (rintro w ⟨n0, n1', t0, t1', t2⟩; go_simp) <;> with_reducible rfl
          try simp only [Act.put, List.getElem_toArray, List.getElem_cons_succ, List.getElem_cons_zero, List.setIfInBounds_toArray, List.set_cons_zero, List.set_cons_succ]
          refine wpAnyH_ready (rs := [19]) (by kernel_rfl) (by simp) ?_
          refine AllReadyH.cons rfl (fun K hK => ?_) AllReadyH.nil
          go_simp
          refine hK.out _ _ (HS.far _ _ HQ.out.2.2.1 HQ.out.2.2.2) (fun HS => ?_)
          clear hK K c3 d3
          refine wpAnyH_done (by kernel_rfl) ?_ _
          clear HS HQ HFb
          generalize ((q0.setCell ⟨g1, j, none⟩ (.int .i64 (FM j))).setCell ⟨g2, j, none⟩ (.int .i64 (FV j))).setCell ⟨g3, j, none⟩ (.int .i64 (FY j)) = wE at *
          go_wp2
          go_roundw
          case rel => exact ⟨j + 1, by omega, by go_num, HSn⟩
          case measure => simp [intOf]; omega
      · obtain rfl : j = n := by omega
        have hjI : ¬ (j : Int) < (j : Int) := by omega
        have n0 := HLj.out.N.c0
        have n1' := HLj.out.N.c1
        have n2 := HLj.out.N.c2
        have r0 := HLj.out.R.c0
        have r1 := HLj.out.R.c1
        have r2 := HLj.out.R.c2
        have s0 := HLj.out.R.f0
        have s1 := HLj.out.R.f1
        have s2 := HLj.out.R.f2
        go_wp2
        have hd := HD.out
        have HZ := ((HLj.out.R.set0 (.slice (some ⟨g1, 0, none⟩) j j)).set1 (.slice (some ⟨g2, 0, none⟩) j j)).set2 (.int .i64 t1)
        have z0 := HZ.c0
        have z1 := HZ.c1
        have z2 := HZ.c2
        have k1 : ∀ (g : Nat) (F : Nat → Int), g ≠ h2 → (∀ k, k < j → -9223372036854775808 ≤ F k ∧ F k ≤ 9223372036854775807) → Rw g j (fun k => if k < j then .int .i64 (F k) else .int .i64 0) wr → Ar (((wr.setCell ⟨h2, 0, none⟩ (.slice (some ⟨g1, 0, none⟩) j j)).setCell ⟨h2, 1, none⟩ (.slice (some ⟨g2, 0, none⟩) j j)).setCell ⟨h2, 2, none⟩ (.int .i64 t1)) (.slice (some ⟨g, 0, none⟩) j j) j F := fun g F hg hF r => Rw.ar ((((r.far (p := ⟨h2, 0, none⟩) _ (fun e => hg e.symm)).far (p := ⟨h2, 1, none⟩) _ (fun e => hg e.symm)).far (p := ⟨h2, 2, none⟩) _ (fun e => hg e.symm)).congr (fun k hk => by rw [if_pos hk])) (by omega) hF
        exact bodyPost_ret (v := .tuple #[.agg #[.slice (some ⟨g1, 0, none⟩) j j, .slice (some ⟨g2, 0, none⟩) j j, .int .i64 t1], .slice (some ⟨g3, 0, none⟩) j j, .int .i64 0]) (by simp [results, Tryz.results7, go_sem, z0, z1, z2]) rfl ⟨g1, g2, g3, rfl, k1 g1 FM hd.o1.2.1 (fun k hk => (H0.out.2.2.2.2.1 k hk).1) HLj.out.r1, k1 g2 FV hd.o2.2.1 (fun k hk => (H0.out.2.2.2.2.1 k hk).2.1) HLj.out.r2, k1 g3 FY hd.o3.2.1 (fun k hk => (H0.out.2.2.2.2.1 k hk).2.2) HLj.out.r3, ⟨hd.lg1, hd.lg2, hd.lg3⟩, ((HLj.out.U.far (a := ⟨h2, 0, none⟩) _ hd.l2).far (a := ⟨h2, 1, none⟩) _ hd.l2).far (a := ⟨h2, 2, none⟩) _ hd.l2⟩
end Go.Proofs.YtcdehbhdloaieaaGreatDoor
