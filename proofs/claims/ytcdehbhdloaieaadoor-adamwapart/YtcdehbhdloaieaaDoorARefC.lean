/-
  The document's step (regattaref09.Step).
-/
import Derived.Test.YtcdehbhdloaieaaDoorARefB
import Derived.Test.YtcdehbhdloaieaaDoorAY3
import Derived.Maps.AppendAt
set_option linter.unusedVariables false
set_option linter.unusedSimpArgs false
namespace Go.Proofs.YtcdehbhdloaieaaDoor
open Go.RowKit

theorem un_far9 {d : Nat} {c : Int} {w wr : World} {p : Addr} (h : Un d c w wr) (hd : d < w.heap.size) (hp : w.heap.size ≤ p.block) (u : Value) : Un d c w (wr.setCell p u) := by
  have blk : ∀ i, i < w.heap.size → (wr.setCell p u).heap[i]? = wr.heap[i]? := fun i hi => Below.heap_setCell _ _ _ _ (by omega)
  refine ⟨(World.cell?_of_block (w := wr) (blk d hd)).trans h.c, (World.frozen?_of_block (w := wr) (blk d hd)).trans h.f, ?_, ?_, ?_, ?_⟩
  · intro base w0 h1 h2 h3
    exact (h.b base w0 h1 h2 h3).setCell (by omega) u
  · intro a v ha hc
    have hb := World.block_lt_of_cell? _ _ hc
    exact (World.cell?_of_block (w := wr) (blk a.block hb)).trans (h.o a v ha hc)
  · have := h.s
    simp [World.setCell]
    omega
  · intro i hi hn
    exact (blk i hi).trans (h.k i hi hn)
/-- What a round reads. -/
structure Fr9 (s0 s1 : Nat) (b1 b2 ep dc : Int) (vM vV : Value) (bM oM bV oV bp op bg og j : Nat) (M V p g : Int) (w : World) : Prop where
  x3 : w.cell? ⟨s0, 3, none⟩ = some (.int .i64 b1)
  x4 : w.cell? ⟨s0, 4, none⟩ = some (.int .i64 b2)
  x5 : w.cell? ⟨s0, 5, none⟩ = some (.int .i64 ep)
  x6 : w.cell? ⟨s0, 6, none⟩ = some (.int .i64 dc)
  y0 : w.cell? ⟨s1, 0, none⟩ = some vM
  y1 : w.cell? ⟨s1, 1, none⟩ = some vV
  m : w.cell? ⟨bM, oM + j, none⟩ = some (.int .i64 M)
  v : w.cell? ⟨bV, oV + j, none⟩ = some (.int .i64 V)
  p : w.cell? ⟨bp, op + j, none⟩ = some (.int .i64 p)
  g : w.cell? ⟨bg, og + j, none⟩ = some (.int .i64 g)
theorem Fr9.later {s0 s1 : Nat} {b1 b2 ep dc : Int} {vM vV : Value} {bM oM bV oV bp op bg og j : Nat} {M V p g : Int} {w w' : World} (h : Fr9 s0 s1 b1 b2 ep dc vM vV bM oM bV oV bp op bg og j M V p g w) (hb : Below w.heap.size w w') : Fr9 s0 s1 b1 b2 ep dc vM vV bM oM bV oV bp op bg og j M V p g w' :=
  ⟨cell_later hb h.x3, cell_later hb h.x4, cell_later hb h.x5, cell_later hb h.x6, cell_later hb h.y0, cell_later hb h.y1, cell_later hb h.m, cell_later hb h.v, cell_later hb h.p, cell_later hb h.g⟩
theorem Fr9.un {s0 s1 : Nat} {b1 b2 ep dc : Int} {vM vV : Value} {bM oM bV oV bp op bg og j : Nat} {M V p g : Int} {w w' : World} {d : Nat} {c : Int} (h : Fr9 s0 s1 b1 b2 ep dc vM vV bM oM bV oV bp op bg og j M V p g w) (hU : Un d c w w') (hn : s0 ≠ d ∧ s1 ≠ d ∧ bM ≠ d ∧ bV ≠ d ∧ bp ≠ d ∧ bg ≠ d) : Fr9 s0 s1 b1 b2 ep dc vM vV bM oM bV oV bp op bg og j M V p g w' :=
  ⟨hU.o _ _ hn.1 h.x3, hU.o _ _ hn.1 h.x4, hU.o _ _ hn.1 h.x5, hU.o _ _ hn.1 h.x6, hU.o _ _ hn.2.1 h.y0, hU.o _ _ hn.2.1 h.y1, hU.o _ _ hn.2.2.1 h.m, hU.o _ _ hn.2.2.2.1 h.v, hU.o _ _ hn.2.2.2.2.1 h.p, hU.o _ _ hn.2.2.2.2.2 h.g⟩
theorem own_far9 {w : World} {B : Nat} {e : TypeId} {s : Nat} {v : Value} {n : Nat} {xs : List Value} (h : w.ownsRow B e s v n xs) (p : Addr) (u : Value) (hp : p.block < B) : (w.setCell p u).ownsRow B e s v n xs := by
  refine ⟨h.1, ?_⟩
  rcases h.2 with h0 | ⟨g, cap, cur, hv, hg, hh, r⟩
  · exact Or.inl h0
  · exact Or.inr ⟨g, cap, cur, hv, hg, (Below.heap_setCell _ _ _ _ (by omega)).trans hh, r⟩
theorem own_succ9 {W : World} {base : Nat} {e : TypeId} {size : Nat} {v : Value} {k : Nat} {xs : List Value} (h : W.ownsRow base e size v (k + 1) xs) : ∃ g cap, v = .slice (some ⟨g, 0, none⟩) (k + 1) cap := by
  rcases h.2 with ⟨_, h0⟩ | ⟨g, cap, _, rfl, _⟩
  · omega
  · exact ⟨g, cap, rfl⟩
theorem own_sl9 {W : World} {base : Nat} {e : TypeId} {size : Nat} {v : Value} {k : Nat} {xs : List Value} (h : W.ownsRow base e size v k xs) : ∃ ad cap, v = .slice ad k cap := by
  rcases h.2 with ⟨h1, h0⟩ | ⟨g, cap, _, rfl, _⟩
  · subst h0; exact ⟨_, _, h1⟩
  · exact ⟨_, cap, rfl⟩
theorem dinfo_i64a : (Tryd.prog.info? 2).map (fun i => (i.zero, i.size, i.bytes)) = some (some (.int .i64 0), 1, 8) := by kernel_rfl
/-- The three rows of a step. -/
def Rw3 (w : World) (B : Nat) (u1 u2 u3 : Value) (j1 j2 j3 : Nat) (f1 f2 f3 : Nat → Int) : Prop := (w.ownsRow B 2 1 u1 j1 (il f1 j1) ∧ w.ownsRow B 2 1 u2 j2 (il f2 j2) ∧ w.ownsRow B 2 1 u3 j3 (il f3 j3)) ∧ Ap u1 u2 ∧ Ap u1 u3 ∧ Ap u2 u3
theorem Rw3.later {w w' : World} {B : Nat} {u1 u2 u3 : Value} {j1 j2 j3 : Nat} {f1 f2 f3 : Nat → Int} (h : Rw3 w B u1 u2 u3 j1 j2 j3 f1 f2 f3) (hb : Below w.heap.size w w') : Rw3 w' B u1 u2 u3 j1 j2 j3 f1 f2 f3 := ⟨⟨own_later h.1.1 hb, own_later h.1.2.1 hb, own_later h.1.2.2 hb⟩, h.2⟩
theorem Rw3.un {w w' : World} {B : Nat} {u1 u2 u3 : Value} {j1 j2 j3 : Nat} {f1 f2 f3 : Nat → Int} {d : Nat} {c : Int} (h : Rw3 w B u1 u2 u3 j1 j2 j3 f1 f2 f3) (hU : Un d c w w') (hd : d < B) : Rw3 w' B u1 u2 u3 j1 j2 j3 f1 f2 f3 := ⟨⟨own_un h.1.1 hU hd, own_un h.1.2.1 hU hd, own_un h.1.2.2 hU hd⟩, h.2⟩
theorem Rw3.far {w : World} {B : Nat} {u1 u2 u3 : Value} {j1 j2 j3 : Nat} {f1 f2 f3 : Nat → Int} (h : Rw3 w B u1 u2 u3 j1 j2 j3 f1 f2 f3) (p : Addr) (u : Value) (hp : p.block < B) : Rw3 (w.setCell p u) B u1 u2 u3 j1 j2 j3 f1 f2 f3 := ⟨⟨own_far9 h.1.1 p u hp, own_far9 h.1.2.1 p u hp, own_far9 h.1.2.2 p u hp⟩, h.2⟩
theorem Rw3.one {w w3 : World} {B : Nat} {u1 u2 u3 u' : Value} {j1 j2 j3 : Nat} {f1 f2 f3 : Nat → Int} {o : Obj} (h : Rw3 w B u1 u2 u3 j1 j2 j3 f1 f2 f3) (hown : w3.ownsRow B 2 1 u' (j1 + 1) (il f1 j1 ++ [.int .i64 (f1 j1)])) (hg : (w.alloc o).grownBy w3 u1.ownBlock) (hat : u'.ownBlock = u1.ownBlock ∨ u'.ownBlock = some (w.alloc o).heap.size) : Rw3 w3 B u' u2 u3 (j1 + 1) j2 j3 f1 f2 f3 :=
  ⟨⟨by rw [il_succ]; exact hown, own_beside h.1.2.1 hg h.2.1.symm, own_beside h.1.2.2 hg h.2.2.1.symm⟩, (ap_grow h.1.2.1 hat h.2.1.symm).symm, (ap_grow h.1.2.2 hat h.2.2.1.symm).symm, h.2.2.2⟩
theorem Rw3.two {w w3 : World} {B : Nat} {u1 u2 u3 u' : Value} {j1 j2 j3 : Nat} {f1 f2 f3 : Nat → Int} {o : Obj} (h : Rw3 w B u1 u2 u3 j1 j2 j3 f1 f2 f3) (hown : w3.ownsRow B 2 1 u' (j2 + 1) (il f2 j2 ++ [.int .i64 (f2 j2)])) (hg : (w.alloc o).grownBy w3 u2.ownBlock) (hat : u'.ownBlock = u2.ownBlock ∨ u'.ownBlock = some (w.alloc o).heap.size) : Rw3 w3 B u1 u' u3 j1 (j2 + 1) j3 f1 f2 f3 :=
  ⟨⟨own_beside h.1.1 hg h.2.1, by rw [il_succ]; exact hown, own_beside h.1.2.2 hg h.2.2.2.symm⟩, ap_grow h.1.1 hat h.2.1, h.2.2.1, (ap_grow h.1.2.2 hat h.2.2.2.symm).symm⟩
theorem Rw3.three {w w3 : World} {B : Nat} {u1 u2 u3 u' : Value} {j1 j2 j3 : Nat} {f1 f2 f3 : Nat → Int} {o : Obj} (h : Rw3 w B u1 u2 u3 j1 j2 j3 f1 f2 f3) (hown : w3.ownsRow B 2 1 u' (j3 + 1) (il f3 j3 ++ [.int .i64 (f3 j3)])) (hg : (w.alloc o).grownBy w3 u3.ownBlock) (hat : u'.ownBlock = u3.ownBlock ∨ u'.ownBlock = some (w.alloc o).heap.size) : Rw3 w3 B u1 u2 u' j1 j2 (j3 + 1) f1 f2 f3 :=
  ⟨⟨own_beside h.1.1 hg h.2.2.1, own_beside h.1.2.1 hg h.2.2.2, by rw [il_succ]; exact hown⟩, h.2.1, ap_grow h.1.1 hat h.2.2.1, ap_grow h.1.2.1 hat h.2.2.2⟩
theorem ar_spot9 {w : World} {v : Value} {n : Nat} {f : Nat → Int} (h : Ar w v n f) (j : Nat) (hj : j < n) : ∃ (b o cap : Nat), v = .slice (some ⟨b, o, none⟩) n cap ∧ cap ≤ maxLen ∧ n ≤ cap ∧ (∀ k, k < n → w.cell? ⟨b, o + k, none⟩ = some (.int .i64 (f k))) ∧ ∀ k, k < n → -9223372036854775808 ≤ f k ∧ f k ≤ 9223372036854775807 := by
  obtain ⟨adr, cap, b, o, h1, h2, h3, h4, h5⟩ := h
  have e := h4 (by omega)
  subst e
  exact ⟨b, o, cap, h1, h3, h2, fun k hk => (h5 k hk).1, fun k hk => (h5 k hk).2⟩
end Go.Proofs.YtcdehbhdloaieaaDoor
