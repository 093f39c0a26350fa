/-
  The document's step (regattaref09.Step).
-/
import Derived.Test.YtcdehbhdloaieaaGreatDoorARefB
import Derived.Test.YtcdehbhdloaieaaGreatDoorAY3
import Derived.Maps.AppendAt
set_option linter.unusedVariables false
set_option linter.unusedSimpArgs false
namespace Go.Proofs.YtcdehbhdloaieaaGreatDoor
open Go.RowKit

theorem un_far9 {d : Nat} {c : Int} {w wr : World} {p : Addr} (h : Un d c w wr) (hd : d < w.heap.size) (hp : w.heap.size ≤ p.block) (u : Value) : Un d c w (wr.setCell p u) := by
  have blk : ∀ i, i < w.heap.size → (wr.setCell p u).heap[i]? = wr.heap[i]? := fun i hi => Below.heap_setCell _ _ _ _ (by omega)
  refine ⟨(World.cell?_of_block (w := wr) (blk d hd)).trans h.c, (World.frozen?_of_block (w := wr) (blk d hd)).trans h.f, ?_, ?_, ?_, ?_⟩
  · intro base w0 h1 h2 h3
    exact (h.b base w0 h1 h2 h3).setCell (by omega) u
  · intro a v ha hc
    have hb := World.block_lt_of_cell? _ _ hc
    exact (World.cell?_of_block (w := wr) (blk a.block hb)).trans (h.o a v ha hc)
  · have := h.s
    simp [World.setCell]
    omega
  · intro i hi hn
    exact (blk i hi).trans (h.k i hi hn)
/-- What a round reads. -/
structure Fr9 (s0 s1 : Nat) (b1 b2 ep dc : Int) (vM vV : Value) (bM oM bV oV bp op bg og j : Nat) (M V p g : Int) (w : World) : Prop where
  x3 : w.cell? ⟨s0, 3, none⟩ = some (.int .i64 b1)
  x4 : w.cell? ⟨s0, 4, none⟩ = some (.int .i64 b2)
  x5 : w.cell? ⟨s0, 5, none⟩ = some (.int .i64 ep)
  x6 : w.cell? ⟨s0, 6, none⟩ = some (.int .i64 dc)
  y0 : w.cell? ⟨s1, 0, none⟩ = some vM
  y1 : w.cell? ⟨s1, 1, none⟩ = some vV
  m : w.cell? ⟨bM, oM + j, none⟩ = some (.int .i64 M)
  v : w.cell? ⟨bV, oV + j, none⟩ = some (.int .i64 V)
  p : w.cell? ⟨bp, op + j, none⟩ = some (.int .i64 p)
  g : w.cell? ⟨bg, og + j, none⟩ = some (.int .i64 g)
theorem Fr9.later {s0 s1 : Nat} {b1 b2 ep dc : Int} {vM vV : Value} {bM oM bV oV bp op bg og j : Nat} {M V p g : Int} {w w' : World} (h : Fr9 s0 s1 b1 b2 ep dc vM vV bM oM bV oV bp op bg og j M V p g w) (hb : Below w.heap.size w w') : Fr9 s0 s1 b1 b2 ep dc vM vV bM oM bV oV bp op bg og j M V p g w' :=
  ⟨cell_later hb h.x3, cell_later hb h.x4, cell_later hb h.x5, cell_later hb h.x6, cell_later hb h.y0, cell_later hb h.y1, cell_later hb h.m, cell_later hb h.v, cell_later hb h.p, cell_later hb h.g⟩
theorem Fr9.un {s0 s1 : Nat} {b1 b2 ep dc : Int} {vM vV : Value} {bM oM bV oV bp op bg og j : Nat} {M V p g : Int} {w w' : World} {d : Nat} {c : Int} (h : Fr9 s0 s1 b1 b2 ep dc vM vV bM oM bV oV bp op bg og j M V p g w) (hU : Un d c w w') (hn : s0 ≠ d ∧ s1 ≠ d ∧ bM ≠ d ∧ bV ≠ d ∧ bp ≠ d ∧ bg ≠ d) : Fr9 s0 s1 b1 b2 ep dc vM vV bM oM bV oV bp op bg og j M V p g w' :=
  ⟨hU.o _ _ hn.1 h.x3, hU.o _ _ hn.1 h.x4, hU.o _ _ hn.1 h.x5, hU.o _ _ hn.1 h.x6, hU.o _ _ hn.2.1 h.y0, hU.o _ _ hn.2.1 h.y1, hU.o _ _ hn.2.2.1 h.m, hU.o _ _ hn.2.2.2.1 h.v, hU.o _ _ hn.2.2.2.2.1 h.p, hU.o _ _ hn.2.2.2.2.2 h.g⟩
theorem own_far9 {w : World} {B : Nat} {e : TypeId} {s : Nat} {v : Value} {n : Nat} {xs : List Value} (h : w.ownsRow B e s v n xs) (p : Addr) (u : Value) (hp : p.block < B) : (w.setCell p u).ownsRow B e s v n xs := by
  refine ⟨h.1, ?_⟩
  rcases h.2 with h0 | ⟨g, cap, cur, hv, hg, hh, r⟩
  · exact Or.inl h0
  · exact Or.inr ⟨g, cap, cur, hv, hg, (Below.heap_setCell _ _ _ _ (by omega)).trans hh, r⟩
theorem own_succ9 {W : World} {base : Nat} {e : TypeId} {size : Nat} {v : Value} {k : Nat} {xs : List Value} (h : W.ownsRow base e size v (k + 1) xs) : ∃ g cap, v = .slice (some ⟨g, 0, none⟩) (k + 1) cap := by
  rcases h.2 with ⟨_, h0⟩ | ⟨g, cap, _, rfl, _⟩
  · omega
  · exact ⟨g, cap, rfl⟩
theorem own_sl9 {W : World} {base : Nat} {e : TypeId} {size : Nat} {v : Value} {k : Nat} {xs : List Value} (h : W.ownsRow base e size v k xs) : ∃ ad cap, v = .slice ad k cap := by
  rcases h.2 with ⟨h1, h0⟩ | ⟨g, cap, _, rfl, _⟩
  · subst h0; exact ⟨_, _, h1⟩
  · exact ⟨_, cap, rfl⟩
theorem dinfo_i64a : (Tryz.prog.info? 2).map (fun i => (i.zero, i.size, i.bytes)) = some (some (.int .i64 0), 1, 8) := by kernel_rfl
/-- The three rows of a step. -/
def Rw3 (w : World) (B : Nat) (u1 u2 u3 : Value) (j1 j2 j3 : Nat) (f1 f2 f3 : Nat → Int) : Prop := (w.ownsRow B 2 1 u1 j1 (il f1 j1) ∧ w.ownsRow B 2 1 u2 j2 (il f2 j2) ∧ w.ownsRow B 2 1 u3 j3 (il f3 j3)) ∧ Ap u1 u2 ∧ Ap u1 u3 ∧ Ap u2 u3
theorem Rw3.later {w w' : World} {B : Nat} {u1 u2 u3 : Value} {j1 j2 j3 : Nat} {f1 f2 f3 : Nat → Int} (h : Rw3 w B u1 u2 u3 j1 j2 j3 f1 f2 f3) (hb : Below w.heap.size w w') : Rw3 w' B u1 u2 u3 j1 j2 j3 f1 f2 f3 := ⟨⟨own_later h.1.1 hb, own_later h.1.2.1 hb, own_later h.1.2.2 hb⟩, h.2⟩
theorem Rw3.un {w w' : World} {B : Nat} {u1 u2 u3 : Value} {j1 j2 j3 : Nat} {f1 f2 f3 : Nat → Int} {d : Nat} {c : Int} (h : Rw3 w B u1 u2 u3 j1 j2 j3 f1 f2 f3) (hU : Un d c w w') (hd : d < B) : Rw3 w' B u1 u2 u3 j1 j2 j3 f1 f2 f3 := ⟨⟨own_un h.1.1 hU hd, own_un h.1.2.1 hU hd, own_un h.1.2.2 hU hd⟩, h.2⟩
theorem Rw3.far {w : World} {B : Nat} {u1 u2 u3 : Value} {j1 j2 j3 : Nat} {f1 f2 f3 : Nat → Int} (h : Rw3 w B u1 u2 u3 j1 j2 j3 f1 f2 f3) (p : Addr) (u : Value) (hp : p.block < B) : Rw3 (w.setCell p u) B u1 u2 u3 j1 j2 j3 f1 f2 f3 := ⟨⟨own_far9 h.1.1 p u hp, own_far9 h.1.2.1 p u hp, own_far9 h.1.2.2 p u hp⟩, h.2⟩
theorem Rw3.one {w w3 : World} {B : Nat} {u1 u2 u3 u' : Value} {j1 j2 j3 : Nat} {f1 f2 f3 : Nat → Int} {o : Obj} (h : Rw3 w B u1 u2 u3 j1 j2 j3 f1 f2 f3) (hown : w3.ownsRow B 2 1 u' (j1 + 1) (il f1 j1 ++ [.int .i64 (f1 j1)])) (hg : (w.alloc o).grownBy w3 u1.ownBlock) (hat : u'.ownBlock = u1.ownBlock ∨ u'.ownBlock = some (w.alloc o).heap.size) : Rw3 w3 B u' u2 u3 (j1 + 1) j2 j3 f1 f2 f3 :=
  ⟨⟨by rw [il_succ]; exact hown, own_beside h.1.2.1 hg h.2.1.symm, own_beside h.1.2.2 hg h.2.2.1.symm⟩, (ap_grow h.1.2.1 hat h.2.1.symm).symm, (ap_grow h.1.2.2 hat h.2.2.1.symm).symm, h.2.2.2⟩
theorem Rw3.two {w w3 : World} {B : Nat} {u1 u2 u3 u' : Value} {j1 j2 j3 : Nat} {f1 f2 f3 : Nat → Int} {o : Obj} (h : Rw3 w B u1 u2 u3 j1 j2 j3 f1 f2 f3) (hown : w3.ownsRow B 2 1 u' (j2 + 1) (il f2 j2 ++ [.int .i64 (f2 j2)])) (hg : (w.alloc o).grownBy w3 u2.ownBlock) (hat : u'.ownBlock = u2.ownBlock ∨ u'.ownBlock = some (w.alloc o).heap.size) : Rw3 w3 B u1 u' u3 j1 (j2 + 1) j3 f1 f2 f3 :=
  ⟨⟨own_beside h.1.1 hg h.2.1, by rw [il_succ]; exact hown, own_beside h.1.2.2 hg h.2.2.2.symm⟩, ap_grow h.1.1 hat h.2.1, h.2.2.1, (ap_grow h.1.2.2 hat h.2.2.2.symm).symm⟩
theorem Rw3.three {w w3 : World} {B : Nat} {u1 u2 u3 u' : Value} {j1 j2 j3 : Nat} {f1 f2 f3 : Nat → Int} {o : Obj} (h : Rw3 w B u1 u2 u3 j1 j2 j3 f1 f2 f3) (hown : w3.ownsRow B 2 1 u' (j3 + 1) (il f3 j3 ++ [.int .i64 (f3 j3)])) (hg : (w.alloc o).grownBy w3 u3.ownBlock) (hat : u'.ownBlock = u3.ownBlock ∨ u'.ownBlock = some (w.alloc o).heap.size) : Rw3 w3 B u1 u2 u' j1 j2 (j3 + 1) f1 f2 f3 :=
  ⟨⟨own_beside h.1.1 hg h.2.2.1, own_beside h.1.2.1 hg h.2.2.2, by rw [il_succ]; exact hown⟩, h.2.1, ap_grow h.1.1 hat h.2.2.1, ap_grow h.1.2.1 hat h.2.2.2⟩
theorem ar_spot9 {w : World} {v : Value} {n : Nat} {f : Nat → Int} (h : Ar w v n f) (j : Nat) (hj : j < n) : ∃ (b o cap : Nat), v = .slice (some ⟨b, o, none⟩) n cap ∧ cap ≤ maxLen ∧ n ≤ cap ∧ (∀ k, k < n → w.cell? ⟨b, o + k, none⟩ = some (.int .i64 (f k))) ∧ ∀ k, k < n → -9223372036854775808 ≤ f k ∧ f k ≤ 9223372036854775807 := by
  obtain ⟨adr, cap, b, o, h1, h2, h3, h4, h5⟩ := h
  have e := h4 (by omega)
  subst e
  exact ⟨b, o, cap, h1, h3, h2, fun k hk => (h5 k hk).1, fun k hk => (h5 k hk).2⟩
set_option maxRecDepth 100000 in
set_option maxHeartbeats 16000000 in
theorem refStep_any (B W : Int) (vD : Value) (nD : Nat) (at' fa : Nat → Int) (b1 b2 ep dc cl T : Int) (vM vV vp vg : Value) (n : Nat) (M V P G : Nat → Int) (d : Nat) (c : Int) (hI : InR9 B W nD at' fa b1 b2 ep dc cl) (B1 : B ≤ 9223372036854775807) (ep1 : ep ≤ 9223372036854775807) (dc1 : dc ≤ 9223372036854775807) (cl1 : cl ≤ 9223372036854775807) (T0 : 0 ≤ T) (T1 : T < 1048576) (hn : n ≤ 65536) (c0 : 0 ≤ c) (c1 : c ≤ 100000000) (w : World) (hD : Drp w vD nD at' fa) (hM : Ar w vM n M) (hV : Ar w vV n V) (hP : Ar w vp n P) (hG : Ar w vg n G) (nM : Nb vM d) (nV : Nb vV d) (nP : Nb vp d) (nG : Nb vg d) (hc : w.cell? ⟨d, 0, none⟩ = some (.int .i64 c)) (hf : w.frozen? ⟨d, 0, none⟩ = false) :
    Calls Tryz.prog 11 #[.pointer (some ⟨d, 0, none⟩), .agg #[.int .i64 B, .int .i64 W, vD, .int .i64 b1, .int .i64 b2, .int .i64 ep, .int .i64 dc, .int .i64 cl], .agg #[vM, vV, .int .i64 T], vp, vg] w fun e w' => ∃ uM uV uP, e = .returned (.tuple #[.agg #[uM, uV, .int .i64 (T + 1)], uP]) ∧ Ar w' uM n (fun i => aM (stpV B W nD at' fa b1 b2 ep dc (T + 1)) (M i) (cpF cl n G i)) ∧ Ar w' uV n (fun i => aV (stpV B W nD at' fa b1 b2 ep dc (T + 1)) (V i) (cpF cl n G i)) ∧ Ar w' uP n (fun i => aY (stpV B W nD at' fa b1 b2 ep dc (T + 1)) (M i) (V i) (P i) (cpF cl n G i)) ∧ (Ow w.heap.size uM ∧ Ow w.heap.size uV ∧ Ow w.heap.size uP) ∧ Un d (c + (cpN cl n G + aS (stpV B W nD at' fa b1 b2 ep dc (T + 1)) M V P (cpF cl n G) n)) w w' := by
  obtain ⟨i0, hti, hi0, hi1, hi2⟩ := info_parts dinfo_i64a
  obtain ⟨hR, ⟨b10, b11⟩, ⟨b20, b21⟩, ep0, dc0, cl0⟩ := hI
  have hdw : d < w.heap.size := World.block_lt_of_cell? _ _ hc
  have CRt : Hid (∀ W' : World, Below w.heap.size w W' → Calls Tryz.prog 24 #[.agg #[.int .i64 B, .int .i64 W, vD], .int .i64 (T + 1)] W' fun e w' => e = .returned (.int .i64 (rtV B W nD at' fa (T + 1))) ∧ Below W'.heap.size W' w') := fun W' hb => refRate_any B W vD nD at' fa (T + 1) W' (hD.later hb) hR B1 (by omega) (by omega)
  have pw : ∀ b, 0 ≤ b → b < 4294967296 → ∀ W' : World, Calls Tryz.prog 25 #[.int .i64 b, .int .i64 (T + 1)] W' fun e w' => e = .returned (.int .i64 (pwN b (T + 1).toNat)) ∧ Below W'.heap.size W' w' := fun b h0 h1 W' => by
    have h := refPower_any b (T + 1).toNat W' h0 h1 (by omega)
    rw [show (((T + 1).toNat : Nat) : Int) = T + 1 by omega] at h
    exact h
  have CP1 : Hid (∀ W' : World, Calls Tryz.prog 25 #[.int .i64 b1, .int .i64 (T + 1)] W' fun e w' => e = .returned (.int .i64 (pwN b1 (T + 1).toNat)) ∧ Below W'.heap.size W' w') := pw b1 b10 b11
  have CP2 : Hid (∀ W' : World, Calls Tryz.prog 25 #[.int .i64 b2, .int .i64 (T + 1)] W' fun e w' => e = .returned (.int .i64 (pwN b2 (T + 1).toNat)) ∧ Below W'.heap.size W' w') := pw b2 b20 b21
  have hrt := rtV_in B W (T + 1) hR B1 (by omega)
  have hp1 := pwN_in b1 b10 b11 (T + 1).toNat
  have hp2 := pwN_in b2 b20 b21 (T + 1).toNat
  have ko : (stpV B W nD at' fa b1 b2 ep dc (T + 1)).b1 = b1 ∧ (stpV B W nD at' fa b1 b2 ep dc (T + 1)).b2 = b2 ∧ (stpV B W nD at' fa b1 b2 ep dc (T + 1)).ep = ep ∧ (stpV B W nD at' fa b1 b2 ep dc (T + 1)).dc = dc ∧ (stpV B W nD at' fa b1 b2 ep dc (T + 1)).r = rtV B W nD at' fa (T + 1) ∧ (stpV B W nD at' fa b1 b2 ep dc (T + 1)).o1 = 4294967296 - pwN b1 (T + 1).toNat ∧ (stpV B W nD at' fa b1 b2 ep dc (T + 1)).o2 = 4294967296 - pwN b2 (T + 1).toNat := ⟨rfl, rfl, rfl, rfl, rfl, rfl, rfl⟩
  generalize stpV B W nD at' fa b1 b2 ep dc (T + 1) = k at *
  generalize rtV B W nD at' fa (T + 1) = rt at *
  generalize pwN b1 (T + 1).toNat = w1p at *
  generalize pwN b2 (T + 1).toNat = w2p at *
  obtain ⟨o1, ho1⟩ : ∃ x, 4294967296 - w1p = x := ⟨_, rfl⟩
  obtain ⟨o2, ho2⟩ : ∃ x, 4294967296 - w2p = x := ⟨_, rfl⟩
  have z1 : IntKind.i64.wrap (4294967296 - w1p) = o1 := by rw [IntKind.wrap_i64]; omega
  have z2 : IntKind.i64.wrap (4294967296 - w2p) = o2 := by rw [IntKind.wrap_i64]; omega
  have o1r : -9223372036854775808 ≤ o1 ∧ o1 ≤ 9223372036854775807 := by omega
  have o2r : -9223372036854775808 ≤ o2 ∧ o2 ≤ 9223372036854775807 := by omega
  rw [ho1, ho2] at ko
  have z3 : IntKind.i64.wrap (T + 1) = T + 1 := by rw [IntKind.wrap_i64]; omega
  have HKo : Hid (k.b1 = b1 ∧ k.b2 = b2 ∧ k.ep = ep ∧ k.dc = dc ∧ k.r = rt ∧ k.o1 = o1 ∧ k.o2 = o2) := ko
  clear pw ko ho1 ho2 hp1 hp2
  obtain ⟨adD, caD, bD, oD, rfl, -, -, -, -⟩ := id hD
  obtain ⟨adM, caM, bM, oM, rfl, m1, m2, m3, m4⟩ := id hM
  obtain ⟨adV, caV, bV, oV, rfl, v1, v2, v3, v4⟩ := id hV
  obtain ⟨adP, caP, bp, op, rfl, p1, p2, p3, p4⟩ := id hP
  unfold maxLen at m2 v2 p2
  have HgB : ∀ i, i < n → -9223372036854775808 ≤ G i ∧ G i ≤ 9223372036854775807 := fun i hi => by obtain ⟨_, _, _, _, _, _, _, _, h⟩ := hG; exact (h i hi).2
  have HGi : Hid (∀ i, i < n → -9223372036854775808 ≤ cpF cl n G i ∧ cpF cl n G i ≤ 9223372036854775807) := fun i hi => cpF_in cl n G HgB i hi
  have hcN := cpN_in cl n G
  have CCl : Hid (∀ W' : World, Below w.heap.size w W' → Calls Tryz.prog 26 #[.pointer (some ⟨d, 0, none⟩), vg, .int .i64 cl] W' fun e w' => ∃ v', e = .returned (.tuple #[v', .bool (cpB cl n G)]) ∧ Ar w' v' n (cpF cl n G) ∧ Nb v' d ∧ Un d (c + cpN cl n G) W' w') := fun W' hb => uclip_nb cl (by omega) cl1 vg n G d c (by omega) c0 (by omega) W' (hG.later hb) nG (cell_later hb hc) (frozen_later hb hc hf)
  have HAll : Hid (Ar w (.slice adM n caM) n M ∧ Ar w (.slice adV n caV) n V ∧ Ar w (.slice adP n caP) n P ∧ Nb (.slice adM n caM) d ∧ Nb (.slice adV n caV) d ∧ Nb (.slice adP n caP) d) := ⟨hM, hV, hP, nM, nV, nP⟩
  obtain ⟨adG, caG, bG, oG, rfl, -, -, -, -⟩ := id hG
  generalize cpB cl n G = CB at *
  generalize cpF cl n G = Gc at *
  generalize cpN cl n G = CN at *
  clear hD hM hV hP hG nM nV nP nG m3 m4 v3 v4 p3 p4 HgB
  obtain ⟨w1, hw1⟩ : ∃ w1, w1 = ((w.alloc (.cells #[.int .i64 B, .int .i64 W, .slice adD nD caD, .int .i64 b1, .int .i64 b2, .int .i64 ep, .int .i64 dc, .int .i64 cl] 49)).alloc (.cells #[.slice adM n caM, .slice adV n caV, .int .i64 T] 54)).alloc (.cells #[.slice none 0 0, .slice none 0 0, .int .i64 0] 54) := ⟨_, rfl⟩
  have hb1 : Below w.heap.size w w1 := by rw [hw1]; exact bchain (bel2 _ _ _) (bel1 _ _)
  have HB1 : Hid (Below w.heap.size w w1) := hb1
  have HX1 : Q8 w.heap.size (.int .i64 B) (.int .i64 W) (.slice adD nD caD) (.int .i64 b1) (.int .i64 b2) (.int .i64 ep) (.int .i64 dc) (.int .i64 cl) w1 := by rw [hw1]; exact ((Q8.new w _ _ _ _ _ _ _ _ _).later (bel1 _ _)).later (bel1 _ _)
  have HS1 : Y3 (w.heap.size + 1) (.slice adM n caM) (.slice adV n caV) (.int .i64 T) w1 := by
    have h := Y3.new (w.alloc (.cells #[.int .i64 B, .int .i64 W, .slice adD nD caD, .int .i64 b1, .int .i64 b2, .int .i64 ep, .int .i64 dc, .int .i64 cl] 49)) (.slice adM n caM) (.slice adV n caV) (.int .i64 T) 54
    rw [World.size_alloc] at h
    rw [hw1]; exact h.later (bel1 _ _)
  have HR1 : Y3 (w.heap.size + 1 + 1) (.slice none 0 0) (.slice none 0 0) (.int .i64 0) w1 := by
    have h := Y3.new ((w.alloc (.cells #[.int .i64 B, .int .i64 W, .slice adD nD caD, .int .i64 b1, .int .i64 b2, .int .i64 ep, .int .i64 dc, .int .i64 cl] 49)).alloc (.cells #[.slice adM n caM, .slice adV n caV, .int .i64 T] 54)) (.slice none 0 0) (.slice none 0 0) (.int .i64 0) 54
    rw [World.size_alloc, World.size_alloc] at h
    rw [hw1]; exact h
  clear hb1
  go_enter Tryz.func11, Tryz.ntmps11
  go_upto_region 1 with fail
  rw [← hw1]
  clear hw1
  have x0 := HX1.c0
  have x1 := HX1.c1
  have x2 := HX1.c2
  have x3 := HX1.c3
  have x4 := HX1.c4
  have x7 := HX1.c7
  have y2 := HS1.c2
  go_wp2_with fail
  refine (CRt.out _ HB1.out).mono ?_
  rintro e w2 ⟨rfl, hb⟩
  have HB2 : Hid (Below w.heap.size w w2) := bchain HB1.out hb
  replace HX1 := HX1.later hb
  replace HS1 := HS1.later hb
  replace HR1 := HR1.later hb
  replace x3 := HX1.c3
  replace x4 := HX1.c4
  replace x7 := HX1.c7
  clear hb CRt HB1 x0 x1 x2 y2
  go_wp2_with fail
  refine (CP1.out _).mono ?_
  rintro e w3 ⟨rfl, hb⟩
  have HB3 : Hid (Below w.heap.size w w3) := bchain HB2.out hb
  replace HX1 := HX1.later hb
  replace HS1 := HS1.later hb
  replace HR1 := HR1.later hb
  replace x4 := HX1.c4
  replace x7 := HX1.c7
  clear hb CP1 HB2 x3
  go_wp2_with fail
  refine (CP2.out _).mono ?_
  rintro e w4 ⟨rfl, hb⟩
  have HB4 : Hid (Below w.heap.size w w4) := bchain HB3.out hb
  replace HX1 := HX1.later hb
  replace HS1 := HS1.later hb
  replace HR1 := HR1.later hb
  replace x7 := HX1.c7
  clear hb CP2 HB3 x4
  go_wp2_with fail
  refine (CCl.out _ HB4.out).mono ?_
  rintro e w5 ⟨vc, rfl, hAc, hNc, hU⟩
  have HU5 : Hid (Un d (c + CN) w w5) := Un.after HB4.out hU
  have hwd : w.heap.size ≠ d := by omega
  have hwd1 : w.heap.size + 1 ≠ d := by omega
  have hwd2 : w.heap.size + 1 + 1 ≠ d := by omega
  have HX5 : Hid (Q8 w.heap.size (.int .i64 B) (.int .i64 W) (.slice adD nD caD) (.int .i64 b1) (.int .i64 b2) (.int .i64 ep) (.int .i64 dc) (.int .i64 cl) w5) := HX1.blk (hU.k _ HX1.lt hwd)
  have HS5 : Hid (Y3 (w.heap.size + 1) (.slice adM n caM) (.slice adV n caV) (.int .i64 T) w5) := HS1.un hU hwd1
  have HR5 : Hid (Y3 (w.heap.size + 1 + 1) (.slice none 0 0) (.slice none 0 0) (.int .i64 0) w5) := HR1.un hU hwd2
  have HA5 : Hid ((Ar w5 (.slice adM n caM) n M ∧ Ar w5 (.slice adV n caV) n V ∧ Ar w5 (.slice adP n caP) n P) ∧ Ar w5 vc n Gc ∧ Nb vc d) := ⟨⟨HAll.out.1.un HAll.out.2.2.2.1 HU5.out, HAll.out.2.1.un HAll.out.2.2.2.2.1 HU5.out, HAll.out.2.2.1.un HAll.out.2.2.2.2.2 HU5.out⟩, hAc, hNc⟩
  have hs5 : w.heap.size + 1 + 1 < w5.heap.size := HR5.out.lt
  obtain ⟨adC, caC, bg, og, rfl, g1, g2, -, -⟩ := id hAc
  unfold maxLen at g2
  clear hU hAc hNc HX1 HS1 HR1 HB4 CCl x7
  obtain ⟨w6, hw6⟩ : ∃ w6, w6 = w5.alloc (.cells #[.slice none 0 0, .slice none 0 0, .int .i64 (T + 1)] 54) := ⟨_, rfl⟩
  have HO6 : Hid (Y3 w5.heap.size (.slice none 0 0) (.slice none 0 0) (.int .i64 (T + 1)) w6) := by rw [hw6]; exact Y3.new _ _ _ _ _
  have hs6 : w6.heap.size = w5.heap.size + 1 := by rw [hw6, World.size_alloc]
  have hd5 : d < w5.heap.size := by omega
  have HU6 : Hid (Un d (c + CN) w5 w6) := by rw [hw6]; exact (Un.same HU5.out.c HU5.out.f).ahead (bel1 _ _)
  go_upto_region 7 with fail
  rw [← hw6]
  clear hw6
  obtain ⟨so, hso⟩ : ∃ so, w5.heap.size = so := ⟨_, rfl⟩
  rw [hso] at HO6 hs6 hs5 hd5
  try simp only [hso]
  have hso' : Hid (w5.heap.size = so) := hso
  clear hso
  have hsod : so ≠ d := by omega
  have hdB : d < w6.heap.size := by omega
  have hsB : so < w6.heap.size := by omega
  obtain ⟨cb, hcb⟩ : ∃ cb, c + CN = cb := ⟨_, rfl⟩
  have HCb : Hid (c + CN = cb) := hcb
  have hcb0 : 0 ≤ cb ∧ cb ≤ 100100000 := by omega
  rw [hcb] at HU6
  clear hcb
  go_upto_region 9 with fail
  go_loopw [17, 18] (fun s17 si wr => ∃ (j : Nat) (uM uV : Value), j ≤ n ∧ si = .int .i64 (j : Int) ∧ Hid (Un d (cb + aS k M V P Gc j) w5 wr) ∧ Hid (Y3 so uM uV (.int .i64 (T + 1)) wr) ∧ Hid (Rw3 wr w6.heap.size uM uV s17 j j j (fun i => aM k (M i) (Gc i)) (fun i => aV k (V i) (Gc i)) (fun i => aY k (M i) (V i) (P i) (Gc i))) ∧ Hid (w6.heap.size ≤ wr.heap.size)) (fun _ si _ => n - (intOf si).toNat)
  case atStart => exact ⟨0, .slice none 0 0, .slice none 0 0, by omega, rfl, by show Un d (cb + 0) w5 w6; rw [Int.add_zero]; exact HU6.out, HO6, ⟨⟨World.ownsRow_nil _ _ _ _, World.ownsRow_nil _ _ _ _, World.ownsRow_nil _ _ _ _⟩, ap_nil _, ap_nil _, ap_nil _⟩, Nat.le_refl _⟩
  case round =>
    obtain ⟨j, uM, uV, hj, rfl, HU, HY, HR, HZ⟩ := hrel
    by_cases hlt : j < n
    · have hjI : (j : Int) < (n : Int) := by omega
      obtain ⟨bM, oM, cM', eM, -, -, cM, rM⟩ := ar_spot9 HA5.out.1.1 j hlt
      obtain ⟨bV, oV, cV', eV, -, -, cV, rV⟩ := ar_spot9 HA5.out.1.2.1 j hlt
      obtain ⟨bp, op, cp', eP, -, -, cP, rP⟩ := ar_spot9 HA5.out.1.2.2 j hlt
      obtain ⟨bg, og, cg', eG, -, -, cG, rG⟩ := ar_spot9 HA5.out.2.1 j hlt
      cases eM
      cases eV
      cases eP
      cases eG
      have rM := rM j hlt
      have rV := rV j hlt
      have rP := rP j hlt
      have rG := rG j hlt
      have neM : bM ≠ d := HAll.out.2.2.2.1 _ _ _ rfl (by omega)
      have neV : bV ≠ d := HAll.out.2.2.2.2.1 _ _ _ rfl (by omega)
      have neP : bp ≠ d := HAll.out.2.2.2.2.2 _ _ _ rfl (by omega)
      have neG : bg ≠ d := HA5.out.2.2 _ _ _ rfl (by omega)
      have Hne : Hid (w.heap.size ≠ d ∧ w.heap.size + 1 ≠ d ∧ bM ≠ d ∧ bV ≠ d ∧ bp ≠ d ∧ bg ≠ d) := ⟨hwd, hwd1, neM, neV, neP, neG⟩
      have HF0 : Hid (Fr9 w.heap.size (w.heap.size + 1) b1 b2 ep dc (.slice (some ⟨bM, oM, none⟩) n caM) (.slice (some ⟨bV, oV, none⟩) n caV) bM oM bV oV bp op bg og j (M j) (V j) (P j) (Gc j) wr) := ⟨HU.out.o _ _ hwd HX5.out.c3, HU.out.o _ _ hwd HX5.out.c4, HU.out.o _ _ hwd HX5.out.c5, HU.out.o _ _ hwd HX5.out.c6, HU.out.o _ _ hwd1 HS5.out.c0, HU.out.o _ _ hwd1 HS5.out.c1, HU.out.o _ _ neM (cM j hlt), HU.out.o _ _ neV (cV j hlt), HU.out.o _ _ neP (cP j hlt), HU.out.o _ _ neG (cG j hlt)⟩
      have hko := HKo.out
      have HfM : Hid (∀ x, clv (meV b1 (M j) (Gc j)) = x → (fun i => aM k (M i) (Gc i)) j = x) := fun x h => by show aM k (M j) (Gc j) = x; unfold aM; rw [hko.1]; exact h
      have hsS := aS_rng k M V P Gc j
      have hcj0 : 0 ≤ cb + aS k M V P Gc j ∧ cb + aS k M V P Gc j ≤ 200000000 := by omega
      have HaM : Hid (aM k (M j) (Gc j) = clv (meV b1 (M j) (Gc j))) := by show _ = _; unfold aM; rw [hko.1]
      have HCn : Hid (aS k M V P Gc (j + 1) = aS k M V P Gc j + aC k (M j) (V j) (P j) (Gc j)) := rfl
      have HaC : Hid (∀ m0 v0 p0 g0 xM oM' xQ oQ xV oV' xA oA xD oD xB oB xE oE xF oF xG oG xW oW xR oR xY oY, clv (meV b1 m0 g0) = xM → ovv (meV b1 m0 g0) = oM' → clv (rnd (g0 * g0) 32) = xQ → ovv (rnd (g0 * g0) 32) = oQ → clv (meV b2 v0 xQ) = xV → ovv (meV b2 v0 xQ) = oV' → qv (xM * 4294967296) o1 = xA → qo (xM * 4294967296) o1 = oA → qv (xV * 4294967296) o2 = xD → qo (xV * 4294967296) o2 = oD → sv xD = xB → decide (xD < 0) = oB → clv (xB + ep) = xE → ovv (xB + ep) = oE → qv (xA * 4294967296) xE = xF → qo (xA * 4294967296) xE = oF → clv (rnd (dc * p0) 32) = xG → ovv (rnd (dc * p0) 32) = oG → clv (xF + xG) = xW → ovv (xF + xG) = oW → clv (rnd (rt * xW) 32) = xR → ovv (rnd (rt * xW) 32) = oR → clv (p0 - xR) = xY → ovv (p0 - xR) = oY → aM k m0 g0 = xM ∧ aV k v0 g0 = xV ∧ aY k m0 v0 p0 g0 = xY ∧ aC k m0 v0 p0 g0 = bi oM' + bi oQ + bi oV' + bi oA + bi oD + bi oB + bi oE + bi oF + bi oG + bi oW + bi oR + bi oY) := by
        obtain ⟨k1, k2, k3, k4, k5, k6, k7⟩ := hko
        rintro m0 v0 p0 g0 xM oM' xQ oQ xV oV' xA oA xD oD xB oB xE oE xF oF xG oG xW oW xR oR xY oY rfl rfl rfl rfl rfl rfl rfl rfl rfl rfl rfl rfl rfl rfl rfl rfl rfl rfl rfl rfl rfl rfl rfl rfl
        rw [← k1, ← k2, ← k3, ← k4, ← k5, ← k6, ← k7]
        exact ⟨rfl, rfl, rfl, rfl⟩
      have HCj : Hid (aS k M V P Gc (j + 1) = aS k M V P Gc j + aC k (M j) (V j) (P j) (Gc j)) := rfl
      have HIx : Hid ((fun i => aM k (M i) (Gc i)) j = aM k (M j) (Gc j) ∧ (fun i => aV k (V i) (Gc i)) j = aV k (V j) (Gc j) ∧ (fun i => aY k (M i) (V i) (P i) (Gc i)) j = aY k (M j) (V j) (P j) (Gc j)) := ⟨rfl, rfl, rfl⟩
      have HaJ := HaC.out (M j) (V j) (P j) (Gc j)
      generalize hfM : (fun i => aM k (M i) (Gc i)) = FM at *
      generalize hfV : (fun i => aV k (V i) (Gc i)) = FV at *
      generalize hfY : (fun i => aY k (M i) (V i) (P i) (Gc i)) = FY at *
      generalize aM k (M j) (Gc j) = gM at *
      generalize aV k (V j) (Gc j) = gV at *
      generalize aY k (M j) (V j) (P j) (Gc j) = gY at *
      generalize aC k (M j) (V j) (P j) (Gc j) = gC at *
      generalize M j = m0 at *
      generalize V j = v0 at *
      generalize P j = p0 at *
      generalize Gc j = g0 at *
      generalize hcj : cb + aS k M V P Gc j = cj at *
      
      obtain ⟨xM, hxM⟩ : ∃ x, clv (meV b1 m0 g0) = x := ⟨_, rfl⟩
      obtain ⟨zM, hzM⟩ : ∃ x, ovv (meV b1 m0 g0) = x := ⟨_, rfl⟩
      have rxM : -9223372036854775808 ≤ xM ∧ xM ≤ 9223372036854775807 := by rw [← hxM]; exact clv_rng _
      have boM := bi_rng zM
      obtain ⟨xQ, hxQ⟩ : ∃ x, clv (rnd (g0 * g0) 32) = x := ⟨_, rfl⟩
      obtain ⟨zQ, hzQ⟩ : ∃ x, ovv (rnd (g0 * g0) 32) = x := ⟨_, rfl⟩
      have rxQ : -9223372036854775808 ≤ xQ ∧ xQ ≤ 9223372036854775807 := by rw [← hxQ]; exact clv_rng _
      have boQ := bi_rng zQ
      obtain ⟨xV, hxV⟩ : ∃ x, clv (meV b2 v0 xQ) = x := ⟨_, rfl⟩
      obtain ⟨zV, hzV⟩ : ∃ x, ovv (meV b2 v0 xQ) = x := ⟨_, rfl⟩
      have rxV : -9223372036854775808 ≤ xV ∧ xV ≤ 9223372036854775807 := by rw [← hxV]; exact clv_rng _
      have boV := bi_rng zV
      obtain ⟨xA, hxA⟩ : ∃ x, qv (xM * 4294967296) o1 = x := ⟨_, rfl⟩
      obtain ⟨zA, hzA⟩ : ∃ x, qo (xM * 4294967296) o1 = x := ⟨_, rfl⟩
      have rxA : -9223372036854775808 ≤ xA ∧ xA ≤ 9223372036854775807 := by rw [← hxA]; exact qv_in9 _ _
      have boA := bi_rng zA
      obtain ⟨xD, hxD⟩ : ∃ x, qv (xV * 4294967296) o2 = x := ⟨_, rfl⟩
      obtain ⟨zD, hzD⟩ : ∃ x, qo (xV * 4294967296) o2 = x := ⟨_, rfl⟩
      have rxD : -9223372036854775808 ≤ xD ∧ xD ≤ 9223372036854775807 := by rw [← hxD]; exact qv_in9 _ _
      have boD := bi_rng zD
      obtain ⟨xB, hxB⟩ : ∃ x, sv xD = x := ⟨_, rfl⟩
      obtain ⟨zB, hzB⟩ : ∃ x, decide (xD < 0) = x := ⟨_, rfl⟩
      have rxB : -9223372036854775808 ≤ xB ∧ xB ≤ 9223372036854775807 := by rw [← hxB]; have := sv_in9 xD rxD.2; omega
      have boB := bi_rng zB
      obtain ⟨xE, hxE⟩ : ∃ x, clv (xB + ep) = x := ⟨_, rfl⟩
      obtain ⟨zE, hzE⟩ : ∃ x, ovv (xB + ep) = x := ⟨_, rfl⟩
      have rxE : -9223372036854775808 ≤ xE ∧ xE ≤ 9223372036854775807 := by rw [← hxE]; exact clv_rng _
      have boE := bi_rng zE
      obtain ⟨xF, hxF⟩ : ∃ x, qv (xA * 4294967296) xE = x := ⟨_, rfl⟩
      obtain ⟨zF, hzF⟩ : ∃ x, qo (xA * 4294967296) xE = x := ⟨_, rfl⟩
      have rxF : -9223372036854775808 ≤ xF ∧ xF ≤ 9223372036854775807 := by rw [← hxF]; exact qv_in9 _ _
      have boF := bi_rng zF
      obtain ⟨xG, hxG⟩ : ∃ x, clv (rnd (dc * p0) 32) = x := ⟨_, rfl⟩
      obtain ⟨zG, hzG⟩ : ∃ x, ovv (rnd (dc * p0) 32) = x := ⟨_, rfl⟩
      have rxG : -9223372036854775808 ≤ xG ∧ xG ≤ 9223372036854775807 := by rw [← hxG]; exact clv_rng _
      have boG := bi_rng zG
      obtain ⟨xW, hxW⟩ : ∃ x, clv (xF + xG) = x := ⟨_, rfl⟩
      obtain ⟨zW, hzW⟩ : ∃ x, ovv (xF + xG) = x := ⟨_, rfl⟩
      have rxW : -9223372036854775808 ≤ xW ∧ xW ≤ 9223372036854775807 := by rw [← hxW]; exact clv_rng _
      have boW := bi_rng zW
      obtain ⟨xR, hxR⟩ : ∃ x, clv (rnd (rt * xW) 32) = x := ⟨_, rfl⟩
      obtain ⟨zR, hzR⟩ : ∃ x, ovv (rnd (rt * xW) 32) = x := ⟨_, rfl⟩
      have rxR : -9223372036854775808 ≤ xR ∧ xR ≤ 9223372036854775807 := by rw [← hxR]; exact clv_rng _
      have boR := bi_rng zR
      obtain ⟨xY, hxY⟩ : ∃ x, clv (p0 - xR) = x := ⟨_, rfl⟩
      obtain ⟨zY, hzY⟩ : ∃ x, ovv (p0 - xR) = x := ⟨_, rfl⟩
      have rxY : -9223372036854775808 ≤ xY ∧ xY ≤ 9223372036854775807 := by rw [← hxY]; exact clv_rng _
      have boY := bi_rng zY
      have HJ := HaJ xM zM xQ zQ xV zV xA zA xD zD xB zB xE zE xF zF xG zG xW zW xR zR xY zY hxM hzM hxQ hzQ hxV hzV hxA hzA hxD hzD hxB hzB hxE hzE hxF hzF hxG hzG hxW hzW hxR hzR hxY hzY
      have CM : Hid (∀ (W : World) (cn : Int), 0 ≤ cn → cn ≤ 900000000 → W.cell? ⟨d, 0, none⟩ = some (.int .i64 cn) → W.frozen? ⟨d, 0, none⟩ = false → Calls Tryz.prog 27 #[.pointer (some ⟨d, 0, none⟩), .int .i64 b1, .int .i64 m0, .int .i64 g0] W fun e w' => e = .returned (.int .i64 xM) ∧ Un d (cn + bi zM) W w') := fun W cn q0 q1 q2 q3 => by
        have h := mean9 b1 m0 g0 b10 b11 rM.1 rM.2 rG.1 rG.2 d cn q0 q1 W q2 q3
        rw [hxM, hzM] at h
        exact h
      have CQ : Hid (∀ (W : World) (cn : Int), 0 ≤ cn → cn ≤ 900000000 → W.cell? ⟨d, 0, none⟩ = some (.int .i64 cn) → W.frozen? ⟨d, 0, none⟩ = false → Calls Tryz.prog 28 #[.pointer (some ⟨d, 0, none⟩), .int .i64 g0, .int .i64 g0] W fun e w' => e = .returned (.int .i64 xQ) ∧ Un d (cn + bi zQ) W w') := fun W cn q0 q1 q2 q3 => by
        have h := mul9 g0 g0 rG.1 rG.2 rG.1 rG.2 d cn q0 q1 W q2 q3
        rw [hxQ, hzQ] at h
        exact h
      have CV : Hid (∀ (W : World) (cn : Int), 0 ≤ cn → cn ≤ 900000000 → W.cell? ⟨d, 0, none⟩ = some (.int .i64 cn) → W.frozen? ⟨d, 0, none⟩ = false → Calls Tryz.prog 27 #[.pointer (some ⟨d, 0, none⟩), .int .i64 b2, .int .i64 v0, .int .i64 xQ] W fun e w' => e = .returned (.int .i64 xV) ∧ Un d (cn + bi zV) W w') := fun W cn q0 q1 q2 q3 => by
        have h := mean9 b2 v0 xQ b20 b21 rV.1 rV.2 rxQ.1 rxQ.2 d cn q0 q1 W q2 q3
        rw [hxV, hzV] at h
        exact h
      have CA : Hid (∀ (W : World) (cn : Int), 0 ≤ cn → cn ≤ 900000000 → W.cell? ⟨d, 0, none⟩ = some (.int .i64 cn) → W.frozen? ⟨d, 0, none⟩ = false → Calls Tryz.prog 29 #[.pointer (some ⟨d, 0, none⟩), .int .i64 xM, .int .i64 o1] W fun e w' => e = .returned (.int .i64 xA) ∧ Un d (cn + bi zA) W w') := fun W cn q0 q1 q2 q3 => by
        have h := div9 xM o1 rxM.1 rxM.2 o1r.1 o1r.2 d cn q0 q1 W q2 q3
        rw [hxA, hzA] at h
        exact h
      have CD : Hid (∀ (W : World) (cn : Int), 0 ≤ cn → cn ≤ 900000000 → W.cell? ⟨d, 0, none⟩ = some (.int .i64 cn) → W.frozen? ⟨d, 0, none⟩ = false → Calls Tryz.prog 29 #[.pointer (some ⟨d, 0, none⟩), .int .i64 xV, .int .i64 o2] W fun e w' => e = .returned (.int .i64 xD) ∧ Un d (cn + bi zD) W w') := fun W cn q0 q1 q2 q3 => by
        have h := div9 xV o2 rxV.1 rxV.2 o2r.1 o2r.2 d cn q0 q1 W q2 q3
        rw [hxD, hzD] at h
        exact h
      have CS : Hid (∀ W : World, Calls Tryz.prog 30 #[.int .i64 xD] W fun e w' => e = .returned (.tuple #[.int .i64 xB, .bool zB]) ∧ Below W.heap.size W w') := fun W => by
        have h := rfsqrt_any xD rxD.1 rxD.2 W
        rw [hxB, hzB] at h
        exact h
      have CB' : Hid (∀ (W : World) (cn : Int), 0 ≤ cn → cn ≤ 900000000 → W.cell? ⟨d, 0, none⟩ = some (.int .i64 cn) → W.frozen? ⟨d, 0, none⟩ = false → Calls Tryz.prog 31 #[.pointer (some ⟨d, 0, none⟩), .int .i64 xB, .bool zB] W fun e w' => e = .returned (.int .i64 xB) ∧ Un d (cn + bi zB) W w') := fun W cn q0 q1 q2 q3 => utake_any d cn xB zB q0 (by omega) W q2 q3
      have CE : Hid (∀ (W : World) (cn : Int), 0 ≤ cn → cn ≤ 900000000 → W.cell? ⟨d, 0, none⟩ = some (.int .i64 cn) → W.frozen? ⟨d, 0, none⟩ = false → Calls Tryz.prog 32 #[.pointer (some ⟨d, 0, none⟩), .int .i64 xB, .int .i64 ep] W fun e w' => e = .returned (.int .i64 xE) ∧ Un d (cn + bi zE) W w') := fun W cn q0 q1 q2 q3 => by
        have h := add9 xB ep rxB.1 rxB.2 (by omega) (by omega) d cn q0 q1 W q2 q3
        rw [hxE, hzE] at h
        exact h
      have CF : Hid (∀ (W : World) (cn : Int), 0 ≤ cn → cn ≤ 900000000 → W.cell? ⟨d, 0, none⟩ = some (.int .i64 cn) → W.frozen? ⟨d, 0, none⟩ = false → Calls Tryz.prog 29 #[.pointer (some ⟨d, 0, none⟩), .int .i64 xA, .int .i64 xE] W fun e w' => e = .returned (.int .i64 xF) ∧ Un d (cn + bi zF) W w') := fun W cn q0 q1 q2 q3 => by
        have h := div9 xA xE rxA.1 rxA.2 rxE.1 rxE.2 d cn q0 q1 W q2 q3
        rw [hxF, hzF] at h
        exact h
      have CG : Hid (∀ (W : World) (cn : Int), 0 ≤ cn → cn ≤ 900000000 → W.cell? ⟨d, 0, none⟩ = some (.int .i64 cn) → W.frozen? ⟨d, 0, none⟩ = false → Calls Tryz.prog 28 #[.pointer (some ⟨d, 0, none⟩), .int .i64 dc, .int .i64 p0] W fun e w' => e = .returned (.int .i64 xG) ∧ Un d (cn + bi zG) W w') := fun W cn q0 q1 q2 q3 => by
        have h := mul9 dc p0 (by omega) (by omega) rP.1 rP.2 d cn q0 q1 W q2 q3
        rw [hxG, hzG] at h
        exact h
      have CW : Hid (∀ (W : World) (cn : Int), 0 ≤ cn → cn ≤ 900000000 → W.cell? ⟨d, 0, none⟩ = some (.int .i64 cn) → W.frozen? ⟨d, 0, none⟩ = false → Calls Tryz.prog 32 #[.pointer (some ⟨d, 0, none⟩), .int .i64 xF, .int .i64 xG] W fun e w' => e = .returned (.int .i64 xW) ∧ Un d (cn + bi zW) W w') := fun W cn q0 q1 q2 q3 => by
        have h := add9 xF xG rxF.1 rxF.2 rxG.1 rxG.2 d cn q0 q1 W q2 q3
        rw [hxW, hzW] at h
        exact h
      have CR : Hid (∀ (W : World) (cn : Int), 0 ≤ cn → cn ≤ 900000000 → W.cell? ⟨d, 0, none⟩ = some (.int .i64 cn) → W.frozen? ⟨d, 0, none⟩ = false → Calls Tryz.prog 28 #[.pointer (some ⟨d, 0, none⟩), .int .i64 rt, .int .i64 xW] W fun e w' => e = .returned (.int .i64 xR) ∧ Un d (cn + bi zR) W w') := fun W cn q0 q1 q2 q3 => by
        have h := mul9 rt xW (by omega) (by omega) rxW.1 rxW.2 d cn q0 q1 W q2 q3
        rw [hxR, hzR] at h
        exact h
      have CY : Hid (∀ W : World, Calls Tryz.prog 33 #[.int .i64 p0, .int .i64 xR] W fun e w' => e = .returned (.tuple #[.int .i64 xY, .bool zY]) ∧ Below W.heap.size W w') := fun W => by
        have h := rfsub_any p0 xR rP.1 rP.2 rxR.1 rxR.2 W
        rw [hxY, hzY] at h
        exact h
      have CT : Hid (∀ (W : World) (cn : Int), 0 ≤ cn → cn ≤ 900000000 → W.cell? ⟨d, 0, none⟩ = some (.int .i64 cn) → W.frozen? ⟨d, 0, none⟩ = false → Calls Tryz.prog 31 #[.pointer (some ⟨d, 0, none⟩), .int .i64 xY, .bool zY] W fun e w' => e = .returned (.int .i64 xY) ∧ Un d (cn + bi zY) W w') := fun W cn q0 q1 q2 q3 => utake_any d cn xY zY q0 (by omega) W q2 q3
      have HJH : Hid (gM = xM ∧ gV = xV ∧ gY = xY ∧ gC = bi zM + bi zQ + bi zV + bi zA + bi zD + bi zB + bi zE + bi zF + bi zG + bi zW + bi zR + bi zY) := HJ
      have HCjj : Hid (cb + aS k M V P Gc (j + 1) = cj + gC) := by have h1 := HCj.out; show _ = _; omega
      have HfE : Hid ((fun i => aM k (M i) (Gc i)) = FM ∧ (fun i => aV k (V i) (Gc i)) = FV ∧ (fun i => aY k (M i) (V i) (P i) (Gc i)) = FY) := ⟨hfM, hfV, hfY⟩
      clear hfM hfV hfY hcj
      clear HaJ HJ HaC HCj HCn HaM HfM hko hxM hzM hxQ hzQ hxV hzV hxA hzA hxD hzD hxB hzB hxE hzE hxF hzF hxG hzG hxW hzW hxR hzR hxY hzY rM rV rP rG cM cV cP cG neM neV neP neG
      go_upto_region 11 with fail
      have hbD : Below wr.heap.size wr wr.drew := (Below.refl _ _).drew
      have HU1 : Hid (Un d (cj) w5 wr.drew) := HU.out.ahead hbD
      have HY1 : Hid (Y3 so uM uV (.int .i64 (T + 1)) wr.drew) := HY.out.later hbD
      have HR1 : Hid (Rw3 wr.drew w6.heap.size uM uV u17 j j j FM FV FY) := HR.out.later hbD
      have HZ1 : Hid (w6.heap.size ≤ wr.drew.heap.size) := Nat.le_trans HZ.out hbD.size
      have HF1 : Hid (Fr9 w.heap.size (w.heap.size + 1) b1 b2 ep dc (.slice (some ⟨bM, oM, none⟩) n caM) (.slice (some ⟨bV, oV, none⟩) n caV) bM oM bV oV bp op bg og j m0 v0 p0 g0 wr.drew) := HF0.out.later hbD
      clear hbD HU HY HR HZ HF0
      refine wp_region_held_drew (S := Fr9 w.heap.size (w.heap.size + 1) b1 b2 ep dc (.slice (some ⟨bM, oM, none⟩) n caM) (.slice (some ⟨bV, oV, none⟩) n caV) bM oM bV oV bp op bg og j m0 v0 p0 g0) (by kernel_rfl) HF1.out (fun HS => ?_)
      generalize wr.drew = wd11 at *
      refine wpAnyH_take (i := 0) (v := ?v1) rfl (by kernel_rfl) (by kernel_rfl) (by kernel_rfl) (fun _ _ _ h => h) (Or.inl ⟨by kernel_rfl, ?h1⟩) HS ?r1
      case h1 => (rintro w ⟨x3, x4, x5, x6, y0, y1, fm, fv, fp, fg⟩; go_simp) <;> with_reducible rfl
      try simp only [Act.put, List.getElem_toArray, List.getElem_cons_succ, List.getElem_cons_zero, List.setIfInBounds_toArray, List.set_cons_zero, List.set_cons_succ]
      refine wpAnyH_take (i := 1) (v := ?v2) rfl (by kernel_rfl) (by kernel_rfl) (by kernel_rfl) (fun _ _ _ h => h) (Or.inl ⟨by kernel_rfl, ?h2⟩) HS ?r2
      case h2 => (rintro w ⟨x3, x4, x5, x6, y0, y1, fm, fv, fp, fg⟩; go_simp) <;> with_reducible rfl
      try simp only [Act.put, List.getElem_toArray, List.getElem_cons_succ, List.getElem_cons_zero, List.setIfInBounds_toArray, List.set_cons_zero, List.set_cons_succ]
      refine wpAnyH_take (i := 2) (v := ?v3) rfl (by kernel_rfl) (by kernel_rfl) (by kernel_rfl) (fun _ _ _ h => h) (Or.inl ⟨by kernel_rfl, ?h3⟩) HS ?r3
      case h3 => (rintro w ⟨x3, x4, x5, x6, y0, y1, fm, fv, fp, fg⟩; go_simp) <;> with_reducible rfl
      try simp only [Act.put, List.getElem_toArray, List.getElem_cons_succ, List.getElem_cons_zero, List.setIfInBounds_toArray, List.set_cons_zero, List.set_cons_succ]
      refine wpAnyH_take (i := 3) (v := ?v4) rfl (by kernel_rfl) (by kernel_rfl) (by kernel_rfl) (fun _ _ _ h => h) (Or.inl ⟨by kernel_rfl, ?h4⟩) HS ?r4
      case h4 => (rintro w ⟨x3, x4, x5, x6, y0, y1, fm, fv, fp, fg⟩; go_simp) <;> with_reducible rfl
      try simp only [Act.put, List.getElem_toArray, List.getElem_cons_succ, List.getElem_cons_zero, List.setIfInBounds_toArray, List.set_cons_zero, List.set_cons_succ]
      refine wpAnyH_take (i := 4) (v := ?v5) rfl (by kernel_rfl) (by kernel_rfl) (by kernel_rfl) (fun _ _ _ h => h) (Or.inl ⟨by kernel_rfl, ?h5⟩) HS ?r5
      case h5 => (rintro w ⟨x3, x4, x5, x6, y0, y1, fm, fv, fp, fg⟩; go_simp) <;> with_reducible rfl
      try simp only [Act.put, List.getElem_toArray, List.getElem_cons_succ, List.getElem_cons_zero, List.setIfInBounds_toArray, List.set_cons_zero, List.set_cons_succ]
      refine wpAnyH_take (i := 5) (v := ?v6) rfl (by kernel_rfl) (by kernel_rfl) (by kernel_rfl) (fun _ _ _ h => h) (Or.inl ⟨by kernel_rfl, ?h6⟩) HS ?r6
      case h6 => (rintro w ⟨x3, x4, x5, x6, y0, y1, fm, fv, fp, fg⟩; go_simp) <;> with_reducible rfl
      try simp only [Act.put, List.getElem_toArray, List.getElem_cons_succ, List.getElem_cons_zero, List.setIfInBounds_toArray, List.set_cons_zero, List.set_cons_succ]
      refine wpAnyH_take (i := 6) (v := ?v7) rfl (by kernel_rfl) (by kernel_rfl) (by kernel_rfl) (fun _ _ _ h => h) (Or.inl ⟨by kernel_rfl, ?h7⟩) HS ?r7
      case h7 => (rintro w ⟨x3, x4, x5, x6, y0, y1, fm, fv, fp, fg⟩; go_simp) <;> with_reducible rfl
      try simp only [Act.put, List.getElem_toArray, List.getElem_cons_succ, List.getElem_cons_zero, List.setIfInBounds_toArray, List.set_cons_zero, List.set_cons_succ]
      refine wpAnyH_take (i := 7) (v := ?v8) rfl (by kernel_rfl) (by kernel_rfl) (by kernel_rfl) (fun _ _ _ h => h) (Or.inl ⟨by kernel_rfl, ?h8⟩) HS ?r8
      case h8 => (rintro w ⟨x3, x4, x5, x6, y0, y1, fm, fv, fp, fg⟩; go_simp) <;> with_reducible rfl
      try simp only [Act.put, List.getElem_toArray, List.getElem_cons_succ, List.getElem_cons_zero, List.setIfInBounds_toArray, List.set_cons_zero, List.set_cons_succ]
      refine wpAnyH_take (i := 8) (v := ?v9) rfl (by kernel_rfl) (by kernel_rfl) (by kernel_rfl) (fun _ _ _ h => h) (Or.inl ⟨by kernel_rfl, ?h9⟩) HS ?r9
      case h9 => (rintro w ⟨x3, x4, x5, x6, y0, y1, fm, fv, fp, fg⟩; go_simp) <;> with_reducible rfl
      try simp only [Act.put, List.getElem_toArray, List.getElem_cons_succ, List.getElem_cons_zero, List.setIfInBounds_toArray, List.set_cons_zero, List.set_cons_succ]
      refine wpAnyH_take (i := 9) (v := ?v10) rfl (by kernel_rfl) (by kernel_rfl) (by kernel_rfl) (fun _ _ _ h => h) (Or.inl ⟨by kernel_rfl, ?h10⟩) HS ?r10
      case h10 => (rintro w ⟨x3, x4, x5, x6, y0, y1, fm, fv, fp, fg⟩; go_simp) <;> with_reducible rfl
      try simp only [Act.put, List.getElem_toArray, List.getElem_cons_succ, List.getElem_cons_zero, List.setIfInBounds_toArray, List.set_cons_zero, List.set_cons_succ]
      refine wpAnyH_take (i := 10) (v := ?v11) rfl (by kernel_rfl) (by kernel_rfl) (by kernel_rfl) (fun _ _ _ h => h) (Or.inl ⟨by kernel_rfl, ?h11⟩) HS ?r11
      case h11 => (rintro w ⟨x3, x4, x5, x6, y0, y1, fm, fv, fp, fg⟩; go_simp) <;> with_reducible rfl
      try simp only [Act.put, List.getElem_toArray, List.getElem_cons_succ, List.getElem_cons_zero, List.setIfInBounds_toArray, List.set_cons_zero, List.set_cons_succ]
      refine wpAnyH_take (i := 11) (v := ?v12) rfl (by kernel_rfl) (by kernel_rfl) (by kernel_rfl) (fun _ _ _ h => h) (Or.inl ⟨by kernel_rfl, ?h12⟩) HS ?r12
      case h12 => (rintro w ⟨x3, x4, x5, x6, y0, y1, fm, fv, fp, fg⟩; go_simp) <;> with_reducible rfl
      try simp only [Act.put, List.getElem_toArray, List.getElem_cons_succ, List.getElem_cons_zero, List.setIfInBounds_toArray, List.set_cons_zero, List.set_cons_succ]
      refine wpAnyH_ready (rs := [12]) (by kernel_rfl) (by simp) ?_
      refine AllReadyH.cons rfl (fun K hK => ?_) AllReadyH.nil
      go_simp
      refine (CM.out _ (cj) (by omega) (by omega) HU1.out.c HU1.out.f).mono ?_
      rintro e wa1 ⟨rfl, hU⟩
      refine hK.out _ _ (HS.un hU Hne.out) (fun HS => ?_)
      clear hK K
      have HU2 : Hid (Un d (cj + bi zM) w5 wa1) := HU1.out.chain hU
      have HY2 : Hid (Y3 so uM uV (.int .i64 (T + 1)) wa1) := HY1.out.un hU hsod
      have HR2 : Hid (Rw3 wa1 w6.heap.size uM uV u17 j j j FM FV FY) := HR1.out.un hU hdB
      have HZ2 : Hid (w6.heap.size ≤ wa1.heap.size) := Nat.le_trans HZ1.out hU.s
      have HF2 : Hid (Fr9 w.heap.size (w.heap.size + 1) b1 b2 ep dc (.slice (some ⟨bM, oM, none⟩) n caM) (.slice (some ⟨bV, oV, none⟩) n caV) bM oM bV oV bp op bg og j m0 v0 p0 g0 wa1) := HF1.out.un hU Hne.out
      clear hU HU1 HY1 HR1 HZ1 HF1
      refine wpAnyH_take (i := 13) (v := ?v13) rfl (by kernel_rfl) (by kernel_rfl) (by kernel_rfl) (fun _ _ _ h => h) (Or.inl ⟨by kernel_rfl, ?h13⟩) HS ?r13
      case h13 => (rintro w ⟨x3, x4, x5, x6, y0, y1, fm, fv, fp, fg⟩; go_simp) <;> with_reducible rfl
      try simp only [Act.put, List.getElem_toArray, List.getElem_cons_succ, List.getElem_cons_zero, List.setIfInBounds_toArray, List.set_cons_zero, List.set_cons_succ]
      refine wpAnyH_done (by kernel_rfl) ?_ _
      clear HS
      go_upto_region 12 with fail
      have hbD : Below wa1.heap.size wa1 wa1.drew := (Below.refl _ _).drew
      have HU3 : Hid (Un d (cj + bi zM) w5 wa1.drew) := HU2.out.ahead hbD
      have HY3 : Hid (Y3 so uM uV (.int .i64 (T + 1)) wa1.drew) := HY2.out.later hbD
      have HR3 : Hid (Rw3 wa1.drew w6.heap.size uM uV u17 j j j FM FV FY) := HR2.out.later hbD
      have HZ3 : Hid (w6.heap.size ≤ wa1.drew.heap.size) := Nat.le_trans HZ2.out hbD.size
      have HF3 : Hid (Fr9 w.heap.size (w.heap.size + 1) b1 b2 ep dc (.slice (some ⟨bM, oM, none⟩) n caM) (.slice (some ⟨bV, oV, none⟩) n caV) bM oM bV oV bp op bg og j m0 v0 p0 g0 wa1.drew) := HF2.out.later hbD
      clear hbD HU2 HY2 HR2 HZ2 HF2
      refine wp_region_held_drew (S := Fr9 w.heap.size (w.heap.size + 1) b1 b2 ep dc (.slice (some ⟨bM, oM, none⟩) n caM) (.slice (some ⟨bV, oV, none⟩) n caV) bM oM bV oV bp op bg og j m0 v0 p0 g0) (by kernel_rfl) HF3.out (fun HS => ?_)
      generalize wa1.drew = wd12 at *
      refine wpAnyH_take (i := 0) (v := ?v14) rfl (by kernel_rfl) (by kernel_rfl) (by kernel_rfl) (fun _ _ _ h => h) (Or.inl ⟨by kernel_rfl, ?h14⟩) HS ?r14
      case h14 => (rintro w ⟨x3, x4, x5, x6, y0, y1, fm, fv, fp, fg⟩; go_simp) <;> with_reducible rfl
      try simp only [Act.put, List.getElem_toArray, List.getElem_cons_succ, List.getElem_cons_zero, List.setIfInBounds_toArray, List.set_cons_zero, List.set_cons_succ]
      refine wpAnyH_take (i := 1) (v := ?v15) rfl (by kernel_rfl) (by kernel_rfl) (by kernel_rfl) (fun _ _ _ h => h) (Or.inl ⟨by kernel_rfl, ?h15⟩) HS ?r15
      case h15 => (rintro w ⟨x3, x4, x5, x6, y0, y1, fm, fv, fp, fg⟩; go_simp) <;> with_reducible rfl
      try simp only [Act.put, List.getElem_toArray, List.getElem_cons_succ, List.getElem_cons_zero, List.setIfInBounds_toArray, List.set_cons_zero, List.set_cons_succ]
      refine wpAnyH_take (i := 2) (v := ?v16) rfl (by kernel_rfl) (by kernel_rfl) (by kernel_rfl) (fun _ _ _ h => h) (Or.inl ⟨by kernel_rfl, ?h16⟩) HS ?r16
      case h16 => (rintro w ⟨x3, x4, x5, x6, y0, y1, fm, fv, fp, fg⟩; go_simp) <;> with_reducible rfl
      try simp only [Act.put, List.getElem_toArray, List.getElem_cons_succ, List.getElem_cons_zero, List.setIfInBounds_toArray, List.set_cons_zero, List.set_cons_succ]
      refine wpAnyH_take (i := 3) (v := ?v17) rfl (by kernel_rfl) (by kernel_rfl) (by kernel_rfl) (fun _ _ _ h => h) (Or.inl ⟨by kernel_rfl, ?h17⟩) HS ?r17
      case h17 => (rintro w ⟨x3, x4, x5, x6, y0, y1, fm, fv, fp, fg⟩; go_simp) <;> with_reducible rfl
      try simp only [Act.put, List.getElem_toArray, List.getElem_cons_succ, List.getElem_cons_zero, List.setIfInBounds_toArray, List.set_cons_zero, List.set_cons_succ]
      refine wpAnyH_take (i := 4) (v := ?v18) rfl (by kernel_rfl) (by kernel_rfl) (by kernel_rfl) (fun _ _ _ h => h) (Or.inl ⟨by kernel_rfl, ?h18⟩) HS ?r18
      case h18 => (rintro w ⟨x3, x4, x5, x6, y0, y1, fm, fv, fp, fg⟩; go_simp) <;> with_reducible rfl
      try simp only [Act.put, List.getElem_toArray, List.getElem_cons_succ, List.getElem_cons_zero, List.setIfInBounds_toArray, List.set_cons_zero, List.set_cons_succ]
      refine wpAnyH_take (i := 5) (v := ?v19) rfl (by kernel_rfl) (by kernel_rfl) (by kernel_rfl) (fun _ _ _ h => h) (Or.inl ⟨by kernel_rfl, ?h19⟩) HS ?r19
      case h19 => (rintro w ⟨x3, x4, x5, x6, y0, y1, fm, fv, fp, fg⟩; go_simp) <;> with_reducible rfl
      try simp only [Act.put, List.getElem_toArray, List.getElem_cons_succ, List.getElem_cons_zero, List.setIfInBounds_toArray, List.set_cons_zero, List.set_cons_succ]
      refine wpAnyH_take (i := 6) (v := ?v20) rfl (by kernel_rfl) (by kernel_rfl) (by kernel_rfl) (fun _ _ _ h => h) (Or.inl ⟨by kernel_rfl, ?h20⟩) HS ?r20
      case h20 => (rintro w ⟨x3, x4, x5, x6, y0, y1, fm, fv, fp, fg⟩; go_simp) <;> with_reducible rfl
      try simp only [Act.put, List.getElem_toArray, List.getElem_cons_succ, List.getElem_cons_zero, List.setIfInBounds_toArray, List.set_cons_zero, List.set_cons_succ]
      refine wpAnyH_take (i := 7) (v := ?v21) rfl (by kernel_rfl) (by kernel_rfl) (by kernel_rfl) (fun _ _ _ h => h) (Or.inl ⟨by kernel_rfl, ?h21⟩) HS ?r21
      case h21 => (rintro w ⟨x3, x4, x5, x6, y0, y1, fm, fv, fp, fg⟩; go_simp) <;> with_reducible rfl
      try simp only [Act.put, List.getElem_toArray, List.getElem_cons_succ, List.getElem_cons_zero, List.setIfInBounds_toArray, List.set_cons_zero, List.set_cons_succ]
      refine wpAnyH_take (i := 8) (v := ?v22) rfl (by kernel_rfl) (by kernel_rfl) (by kernel_rfl) (fun _ _ _ h => h) (Or.inl ⟨by kernel_rfl, ?h22⟩) HS ?r22
      case h22 => (rintro w ⟨x3, x4, x5, x6, y0, y1, fm, fv, fp, fg⟩; go_simp) <;> with_reducible rfl
      try simp only [Act.put, List.getElem_toArray, List.getElem_cons_succ, List.getElem_cons_zero, List.setIfInBounds_toArray, List.set_cons_zero, List.set_cons_succ]
      refine wpAnyH_ready (rs := [9]) (by kernel_rfl) (by simp) ?_
      refine AllReadyH.cons rfl (fun K hK => ?_) AllReadyH.nil
      go_simp
      refine (CQ.out _ (cj + bi zM) (by omega) (by omega) HU3.out.c HU3.out.f).mono ?_
      rintro e wa2 ⟨rfl, hU⟩
      refine hK.out _ _ (HS.un hU Hne.out) (fun HS => ?_)
      clear hK K
      have HU4 : Hid (Un d (cj + bi zM + bi zQ) w5 wa2) := HU3.out.chain hU
      have HY4 : Hid (Y3 so uM uV (.int .i64 (T + 1)) wa2) := HY3.out.un hU hsod
      have HR4 : Hid (Rw3 wa2 w6.heap.size uM uV u17 j j j FM FV FY) := HR3.out.un hU hdB
      have HZ4 : Hid (w6.heap.size ≤ wa2.heap.size) := Nat.le_trans HZ3.out hU.s
      have HF4 : Hid (Fr9 w.heap.size (w.heap.size + 1) b1 b2 ep dc (.slice (some ⟨bM, oM, none⟩) n caM) (.slice (some ⟨bV, oV, none⟩) n caV) bM oM bV oV bp op bg og j m0 v0 p0 g0 wa2) := HF3.out.un hU Hne.out
      clear hU HU3 HY3 HR3 HZ3 HF3
      refine wpAnyH_take (i := 10) (v := ?v23) rfl (by kernel_rfl) (by kernel_rfl) (by kernel_rfl) (fun _ _ _ h => h) (Or.inl ⟨by kernel_rfl, ?h23⟩) HS ?r23
      case h23 => (rintro w ⟨x3, x4, x5, x6, y0, y1, fm, fv, fp, fg⟩; go_simp) <;> with_reducible rfl
      try simp only [Act.put, List.getElem_toArray, List.getElem_cons_succ, List.getElem_cons_zero, List.setIfInBounds_toArray, List.set_cons_zero, List.set_cons_succ]
      refine wpAnyH_done (by kernel_rfl) ?_ _
      clear HS
      go_upto_region 13 with fail
      have hbD : Below wa2.heap.size wa2 wa2.drew := (Below.refl _ _).drew
      have HU5 : Hid (Un d (cj + bi zM + bi zQ) w5 wa2.drew) := HU4.out.ahead hbD
      have HY5 : Hid (Y3 so uM uV (.int .i64 (T + 1)) wa2.drew) := HY4.out.later hbD
      have HR5 : Hid (Rw3 wa2.drew w6.heap.size uM uV u17 j j j FM FV FY) := HR4.out.later hbD
      have HZ5 : Hid (w6.heap.size ≤ wa2.drew.heap.size) := Nat.le_trans HZ4.out hbD.size
      have HF5 : Hid (Fr9 w.heap.size (w.heap.size + 1) b1 b2 ep dc (.slice (some ⟨bM, oM, none⟩) n caM) (.slice (some ⟨bV, oV, none⟩) n caV) bM oM bV oV bp op bg og j m0 v0 p0 g0 wa2.drew) := HF4.out.later hbD
      clear hbD HU4 HY4 HR4 HZ4 HF4
      refine wp_region_held_drew (S := Fr9 w.heap.size (w.heap.size + 1) b1 b2 ep dc (.slice (some ⟨bM, oM, none⟩) n caM) (.slice (some ⟨bV, oV, none⟩) n caV) bM oM bV oV bp op bg og j m0 v0 p0 g0) (by kernel_rfl) HF5.out (fun HS => ?_)
      generalize wa2.drew = wd13 at *
      refine wpAnyH_take (i := 0) (v := ?v24) rfl (by kernel_rfl) (by kernel_rfl) (by kernel_rfl) (fun _ _ _ h => h) (Or.inl ⟨by kernel_rfl, ?h24⟩) HS ?r24
      case h24 => (rintro w ⟨x3, x4, x5, x6, y0, y1, fm, fv, fp, fg⟩; go_simp) <;> with_reducible rfl
      try simp only [Act.put, List.getElem_toArray, List.getElem_cons_succ, List.getElem_cons_zero, List.setIfInBounds_toArray, List.set_cons_zero, List.set_cons_succ]
      refine wpAnyH_take (i := 1) (v := ?v25) rfl (by kernel_rfl) (by kernel_rfl) (by kernel_rfl) (fun _ _ _ h => h) (Or.inl ⟨by kernel_rfl, ?h25⟩) HS ?r25
      case h25 => (rintro w ⟨x3, x4, x5, x6, y0, y1, fm, fv, fp, fg⟩; go_simp) <;> with_reducible rfl
      try simp only [Act.put, List.getElem_toArray, List.getElem_cons_succ, List.getElem_cons_zero, List.setIfInBounds_toArray, List.set_cons_zero, List.set_cons_succ]
      refine wpAnyH_take (i := 2) (v := ?v26) rfl (by kernel_rfl) (by kernel_rfl) (by kernel_rfl) (fun _ _ _ h => h) (Or.inl ⟨by kernel_rfl, ?h26⟩) HS ?r26
      case h26 => (rintro w ⟨x3, x4, x5, x6, y0, y1, fm, fv, fp, fg⟩; go_simp) <;> with_reducible rfl
      try simp only [Act.put, List.getElem_toArray, List.getElem_cons_succ, List.getElem_cons_zero, List.setIfInBounds_toArray, List.set_cons_zero, List.set_cons_succ]
      refine wpAnyH_take (i := 3) (v := ?v27) rfl (by kernel_rfl) (by kernel_rfl) (by kernel_rfl) (fun _ _ _ h => h) (Or.inl ⟨by kernel_rfl, ?h27⟩) HS ?r27
      case h27 => (rintro w ⟨x3, x4, x5, x6, y0, y1, fm, fv, fp, fg⟩; go_simp) <;> with_reducible rfl
      try simp only [Act.put, List.getElem_toArray, List.getElem_cons_succ, List.getElem_cons_zero, List.setIfInBounds_toArray, List.set_cons_zero, List.set_cons_succ]
      refine wpAnyH_take (i := 4) (v := ?v28) rfl (by kernel_rfl) (by kernel_rfl) (by kernel_rfl) (fun _ _ _ h => h) (Or.inl ⟨by kernel_rfl, ?h28⟩) HS ?r28
      case h28 => (rintro w ⟨x3, x4, x5, x6, y0, y1, fm, fv, fp, fg⟩; go_simp) <;> with_reducible rfl
      try simp only [Act.put, List.getElem_toArray, List.getElem_cons_succ, List.getElem_cons_zero, List.setIfInBounds_toArray, List.set_cons_zero, List.set_cons_succ]
      refine wpAnyH_take (i := 5) (v := ?v29) rfl (by kernel_rfl) (by kernel_rfl) (by kernel_rfl) (fun _ _ _ h => h) (Or.inl ⟨by kernel_rfl, ?h29⟩) HS ?r29
      case h29 => (rintro w ⟨x3, x4, x5, x6, y0, y1, fm, fv, fp, fg⟩; go_simp) <;> with_reducible rfl
      try simp only [Act.put, List.getElem_toArray, List.getElem_cons_succ, List.getElem_cons_zero, List.setIfInBounds_toArray, List.set_cons_zero, List.set_cons_succ]
      refine wpAnyH_take (i := 6) (v := ?v30) rfl (by kernel_rfl) (by kernel_rfl) (by kernel_rfl) (fun _ _ _ h => h) (Or.inl ⟨by kernel_rfl, ?h30⟩) HS ?r30
      case h30 => (rintro w ⟨x3, x4, x5, x6, y0, y1, fm, fv, fp, fg⟩; go_simp) <;> with_reducible rfl
      try simp only [Act.put, List.getElem_toArray, List.getElem_cons_succ, List.getElem_cons_zero, List.setIfInBounds_toArray, List.set_cons_zero, List.set_cons_succ]
      refine wpAnyH_take (i := 7) (v := ?v31) rfl (by kernel_rfl) (by kernel_rfl) (by kernel_rfl) (fun _ _ _ h => h) (Or.inl ⟨by kernel_rfl, ?h31⟩) HS ?r31
      case h31 => (rintro w ⟨x3, x4, x5, x6, y0, y1, fm, fv, fp, fg⟩; go_simp) <;> with_reducible rfl
      try simp only [Act.put, List.getElem_toArray, List.getElem_cons_succ, List.getElem_cons_zero, List.setIfInBounds_toArray, List.set_cons_zero, List.set_cons_succ]
      refine wpAnyH_take (i := 8) (v := ?v32) rfl (by kernel_rfl) (by kernel_rfl) (by kernel_rfl) (fun _ _ _ h => h) (Or.inl ⟨by kernel_rfl, ?h32⟩) HS ?r32
      case h32 => (rintro w ⟨x3, x4, x5, x6, y0, y1, fm, fv, fp, fg⟩; go_simp) <;> with_reducible rfl
      try simp only [Act.put, List.getElem_toArray, List.getElem_cons_succ, List.getElem_cons_zero, List.setIfInBounds_toArray, List.set_cons_zero, List.set_cons_succ]
      refine wpAnyH_ready (rs := [9]) (by kernel_rfl) (by simp) ?_
      refine AllReadyH.cons rfl (fun K hK => ?_) AllReadyH.nil
      go_simp
      refine (CV.out _ (cj + bi zM + bi zQ) (by omega) (by omega) HU5.out.c HU5.out.f).mono ?_
      rintro e wa3 ⟨rfl, hU⟩
      refine hK.out _ _ (HS.un hU Hne.out) (fun HS => ?_)
      clear hK K
      have HU6 : Hid (Un d (cj + bi zM + bi zQ + bi zV) w5 wa3) := HU5.out.chain hU
      have HY6 : Hid (Y3 so uM uV (.int .i64 (T + 1)) wa3) := HY5.out.un hU hsod
      have HR6 : Hid (Rw3 wa3 w6.heap.size uM uV u17 j j j FM FV FY) := HR5.out.un hU hdB
      have HZ6 : Hid (w6.heap.size ≤ wa3.heap.size) := Nat.le_trans HZ5.out hU.s
      have HF6 : Hid (Fr9 w.heap.size (w.heap.size + 1) b1 b2 ep dc (.slice (some ⟨bM, oM, none⟩) n caM) (.slice (some ⟨bV, oV, none⟩) n caV) bM oM bV oV bp op bg og j m0 v0 p0 g0 wa3) := HF5.out.un hU Hne.out
      clear hU HU5 HY5 HR5 HZ5 HF5
      refine wpAnyH_take (i := 10) (v := ?v33) rfl (by kernel_rfl) (by kernel_rfl) (by kernel_rfl) (fun _ _ _ h => h) (Or.inl ⟨by kernel_rfl, ?h33⟩) HS ?r33
      case h33 => (rintro w ⟨x3, x4, x5, x6, y0, y1, fm, fv, fp, fg⟩; go_simp) <;> with_reducible rfl
      try simp only [Act.put, List.getElem_toArray, List.getElem_cons_succ, List.getElem_cons_zero, List.setIfInBounds_toArray, List.set_cons_zero, List.set_cons_succ]
      refine wpAnyH_done (by kernel_rfl) ?_ _
      clear HS
      go_wp2_with fail
      refine (CA.out _ (cj + bi zM + bi zQ + bi zV) (by omega) (by omega) HU6.out.c HU6.out.f).mono ?_
      rintro e wa4 ⟨rfl, hU⟩
      have HU7 : Hid (Un d (cj + bi zM + bi zQ + bi zV + bi zA) w5 wa4) := HU6.out.chain hU
      have HY7 : Hid (Y3 so uM uV (.int .i64 (T + 1)) wa4) := HY6.out.un hU hsod
      have HR7 : Hid (Rw3 wa4 w6.heap.size uM uV u17 j j j FM FV FY) := HR6.out.un hU hdB
      have HZ7 : Hid (w6.heap.size ≤ wa4.heap.size) := Nat.le_trans HZ6.out hU.s
      have HF7 : Hid (Fr9 w.heap.size (w.heap.size + 1) b1 b2 ep dc (.slice (some ⟨bM, oM, none⟩) n caM) (.slice (some ⟨bV, oV, none⟩) n caV) bM oM bV oV bp op bg og j m0 v0 p0 g0 wa4) := HF6.out.un hU Hne.out
      clear hU HU6 HY6 HR6 HZ6 HF6
      go_wp2_with fail
      refine (CD.out _ (cj + bi zM + bi zQ + bi zV + bi zA) (by omega) (by omega) HU7.out.c HU7.out.f).mono ?_
      rintro e wa5 ⟨rfl, hU⟩
      have HU8 : Hid (Un d (cj + bi zM + bi zQ + bi zV + bi zA + bi zD) w5 wa5) := HU7.out.chain hU
      have HY8 : Hid (Y3 so uM uV (.int .i64 (T + 1)) wa5) := HY7.out.un hU hsod
      have HR8 : Hid (Rw3 wa5 w6.heap.size uM uV u17 j j j FM FV FY) := HR7.out.un hU hdB
      have HZ8 : Hid (w6.heap.size ≤ wa5.heap.size) := Nat.le_trans HZ7.out hU.s
      have HF8 : Hid (Fr9 w.heap.size (w.heap.size + 1) b1 b2 ep dc (.slice (some ⟨bM, oM, none⟩) n caM) (.slice (some ⟨bV, oV, none⟩) n caV) bM oM bV oV bp op bg og j m0 v0 p0 g0 wa5) := HF7.out.un hU Hne.out
      clear hU HU7 HY7 HR7 HZ7 HF7
      go_wp2_with fail
      refine (CS.out _).mono ?_
      rintro e wa6 ⟨rfl, hb⟩
      have HU9 : Hid (Un d (cj + bi zM + bi zQ + bi zV + bi zA + bi zD) w5 wa6) := HU8.out.ahead hb
      have HY9 : Hid (Y3 so uM uV (.int .i64 (T + 1)) wa6) := HY8.out.later hb
      have HR9 : Hid (Rw3 wa6 w6.heap.size uM uV u17 j j j FM FV FY) := HR8.out.later hb
      have HZ9 : Hid (w6.heap.size ≤ wa6.heap.size) := Nat.le_trans HZ8.out hb.size
      have HF9 : Hid (Fr9 w.heap.size (w.heap.size + 1) b1 b2 ep dc (.slice (some ⟨bM, oM, none⟩) n caM) (.slice (some ⟨bV, oV, none⟩) n caV) bM oM bV oV bp op bg og j m0 v0 p0 g0 wa6) := HF8.out.later hb
      clear hb HU8 HY8 HR8 HZ8 HF8
      go_wp2_with fail
      refine (CB'.out _ (cj + bi zM + bi zQ + bi zV + bi zA + bi zD) (by omega) (by omega) HU9.out.c HU9.out.f).mono ?_
      rintro e wa7 ⟨rfl, hU⟩
      have HU10 : Hid (Un d (cj + bi zM + bi zQ + bi zV + bi zA + bi zD + bi zB) w5 wa7) := HU9.out.chain hU
      have HY10 : Hid (Y3 so uM uV (.int .i64 (T + 1)) wa7) := HY9.out.un hU hsod
      have HR10 : Hid (Rw3 wa7 w6.heap.size uM uV u17 j j j FM FV FY) := HR9.out.un hU hdB
      have HZ10 : Hid (w6.heap.size ≤ wa7.heap.size) := Nat.le_trans HZ9.out hU.s
      have HF10 : Hid (Fr9 w.heap.size (w.heap.size + 1) b1 b2 ep dc (.slice (some ⟨bM, oM, none⟩) n caM) (.slice (some ⟨bV, oV, none⟩) n caV) bM oM bV oV bp op bg og j m0 v0 p0 g0 wa7) := HF9.out.un hU Hne.out
      clear hU HU9 HY9 HR9 HZ9 HF9
      have xe5 := HF10.out.x5
      go_wp2_with fail
      refine (CE.out _ (cj + bi zM + bi zQ + bi zV + bi zA + bi zD + bi zB) (by omega) (by omega) HU10.out.c HU10.out.f).mono ?_
      rintro e wa8 ⟨rfl, hU⟩
      have HU11 : Hid (Un d (cj + bi zM + bi zQ + bi zV + bi zA + bi zD + bi zB + bi zE) w5 wa8) := HU10.out.chain hU
      have HY11 : Hid (Y3 so uM uV (.int .i64 (T + 1)) wa8) := HY10.out.un hU hsod
      have HR11 : Hid (Rw3 wa8 w6.heap.size uM uV u17 j j j FM FV FY) := HR10.out.un hU hdB
      have HZ11 : Hid (w6.heap.size ≤ wa8.heap.size) := Nat.le_trans HZ10.out hU.s
      have HF11 : Hid (Fr9 w.heap.size (w.heap.size + 1) b1 b2 ep dc (.slice (some ⟨bM, oM, none⟩) n caM) (.slice (some ⟨bV, oV, none⟩) n caV) bM oM bV oV bp op bg og j m0 v0 p0 g0 wa8) := HF10.out.un hU Hne.out
      clear hU HU10 HY10 HR10 HZ10 HF10
      clear xe5
      go_wp2_with fail
      refine (CF.out _ (cj + bi zM + bi zQ + bi zV + bi zA + bi zD + bi zB + bi zE) (by omega) (by omega) HU11.out.c HU11.out.f).mono ?_
      rintro e wa9 ⟨rfl, hU⟩
      have HU12 : Hid (Un d (cj + bi zM + bi zQ + bi zV + bi zA + bi zD + bi zB + bi zE + bi zF) w5 wa9) := HU11.out.chain hU
      have HY12 : Hid (Y3 so uM uV (.int .i64 (T + 1)) wa9) := HY11.out.un hU hsod
      have HR12 : Hid (Rw3 wa9 w6.heap.size uM uV u17 j j j FM FV FY) := HR11.out.un hU hdB
      have HZ12 : Hid (w6.heap.size ≤ wa9.heap.size) := Nat.le_trans HZ11.out hU.s
      have HF12 : Hid (Fr9 w.heap.size (w.heap.size + 1) b1 b2 ep dc (.slice (some ⟨bM, oM, none⟩) n caM) (.slice (some ⟨bV, oV, none⟩) n caV) bM oM bV oV bp op bg og j m0 v0 p0 g0 wa9) := HF11.out.un hU Hne.out
      clear hU HU11 HY11 HR11 HZ11 HF11
      go_upto_region 18 with fail
      have hbD : Below wa9.heap.size wa9 wa9.drew := (Below.refl _ _).drew
      have HU13 : Hid (Un d (cj + bi zM + bi zQ + bi zV + bi zA + bi zD + bi zB + bi zE + bi zF) w5 wa9.drew) := HU12.out.ahead hbD
      have HY13 : Hid (Y3 so uM uV (.int .i64 (T + 1)) wa9.drew) := HY12.out.later hbD
      have HR13 : Hid (Rw3 wa9.drew w6.heap.size uM uV u17 j j j FM FV FY) := HR12.out.later hbD
      have HZ13 : Hid (w6.heap.size ≤ wa9.drew.heap.size) := Nat.le_trans HZ12.out hbD.size
      have HF13 : Hid (Fr9 w.heap.size (w.heap.size + 1) b1 b2 ep dc (.slice (some ⟨bM, oM, none⟩) n caM) (.slice (some ⟨bV, oV, none⟩) n caV) bM oM bV oV bp op bg og j m0 v0 p0 g0 wa9.drew) := HF12.out.later hbD
      clear hbD HU12 HY12 HR12 HZ12 HF12
      refine wp_region_held_drew (S := Fr9 w.heap.size (w.heap.size + 1) b1 b2 ep dc (.slice (some ⟨bM, oM, none⟩) n caM) (.slice (some ⟨bV, oV, none⟩) n caV) bM oM bV oV bp op bg og j m0 v0 p0 g0) (by kernel_rfl) HF13.out (fun HS => ?_)
      generalize wa9.drew = wd18 at *
      refine wpAnyH_take (i := 0) (v := ?v34) rfl (by kernel_rfl) (by kernel_rfl) (by kernel_rfl) (fun _ _ _ h => h) (Or.inl ⟨by kernel_rfl, ?h34⟩) HS ?r34
      case h34 => (rintro w ⟨x3, x4, x5, x6, y0, y1, fm, fv, fp, fg⟩; go_simp) <;> with_reducible rfl
      try simp only [Act.put, List.getElem_toArray, List.getElem_cons_succ, List.getElem_cons_zero, List.setIfInBounds_toArray, List.set_cons_zero, List.set_cons_succ]
      refine wpAnyH_take (i := 1) (v := ?v35) rfl (by kernel_rfl) (by kernel_rfl) (by kernel_rfl) (fun _ _ _ h => h) (Or.inl ⟨by kernel_rfl, ?h35⟩) HS ?r35
      case h35 => (rintro w ⟨x3, x4, x5, x6, y0, y1, fm, fv, fp, fg⟩; go_simp) <;> with_reducible rfl
      try simp only [Act.put, List.getElem_toArray, List.getElem_cons_succ, List.getElem_cons_zero, List.setIfInBounds_toArray, List.set_cons_zero, List.set_cons_succ]
      refine wpAnyH_take (i := 2) (v := ?v36) rfl (by kernel_rfl) (by kernel_rfl) (by kernel_rfl) (fun _ _ _ h => h) (Or.inl ⟨by kernel_rfl, ?h36⟩) HS ?r36
      case h36 => (rintro w ⟨x3, x4, x5, x6, y0, y1, fm, fv, fp, fg⟩; go_simp) <;> with_reducible rfl
      try simp only [Act.put, List.getElem_toArray, List.getElem_cons_succ, List.getElem_cons_zero, List.setIfInBounds_toArray, List.set_cons_zero, List.set_cons_succ]
      refine wpAnyH_take (i := 3) (v := ?v37) rfl (by kernel_rfl) (by kernel_rfl) (by kernel_rfl) (fun _ _ _ h => h) (Or.inl ⟨by kernel_rfl, ?h37⟩) HS ?r37
      case h37 => (rintro w ⟨x3, x4, x5, x6, y0, y1, fm, fv, fp, fg⟩; go_simp) <;> with_reducible rfl
      try simp only [Act.put, List.getElem_toArray, List.getElem_cons_succ, List.getElem_cons_zero, List.setIfInBounds_toArray, List.set_cons_zero, List.set_cons_succ]
      refine wpAnyH_take (i := 4) (v := ?v38) rfl (by kernel_rfl) (by kernel_rfl) (by kernel_rfl) (fun _ _ _ h => h) (Or.inl ⟨by kernel_rfl, ?h38⟩) HS ?r38
      case h38 => (rintro w ⟨x3, x4, x5, x6, y0, y1, fm, fv, fp, fg⟩; go_simp) <;> with_reducible rfl
      try simp only [Act.put, List.getElem_toArray, List.getElem_cons_succ, List.getElem_cons_zero, List.setIfInBounds_toArray, List.set_cons_zero, List.set_cons_succ]
      refine wpAnyH_take (i := 5) (v := ?v39) rfl (by kernel_rfl) (by kernel_rfl) (by kernel_rfl) (fun _ _ _ h => h) (Or.inl ⟨by kernel_rfl, ?h39⟩) HS ?r39
      case h39 => (rintro w ⟨x3, x4, x5, x6, y0, y1, fm, fv, fp, fg⟩; go_simp) <;> with_reducible rfl
      try simp only [Act.put, List.getElem_toArray, List.getElem_cons_succ, List.getElem_cons_zero, List.setIfInBounds_toArray, List.set_cons_zero, List.set_cons_succ]
      refine wpAnyH_take (i := 6) (v := ?v40) rfl (by kernel_rfl) (by kernel_rfl) (by kernel_rfl) (fun _ _ _ h => h) (Or.inl ⟨by kernel_rfl, ?h40⟩) HS ?r40
      case h40 => (rintro w ⟨x3, x4, x5, x6, y0, y1, fm, fv, fp, fg⟩; go_simp) <;> with_reducible rfl
      try simp only [Act.put, List.getElem_toArray, List.getElem_cons_succ, List.getElem_cons_zero, List.setIfInBounds_toArray, List.set_cons_zero, List.set_cons_succ]
      refine wpAnyH_take (i := 7) (v := ?v41) rfl (by kernel_rfl) (by kernel_rfl) (by kernel_rfl) (fun _ _ _ h => h) (Or.inl ⟨by kernel_rfl, ?h41⟩) HS ?r41
      case h41 => (rintro w ⟨x3, x4, x5, x6, y0, y1, fm, fv, fp, fg⟩; go_simp) <;> with_reducible rfl
      try simp only [Act.put, List.getElem_toArray, List.getElem_cons_succ, List.getElem_cons_zero, List.setIfInBounds_toArray, List.set_cons_zero, List.set_cons_succ]
      refine wpAnyH_take (i := 8) (v := ?v42) rfl (by kernel_rfl) (by kernel_rfl) (by kernel_rfl) (fun _ _ _ h => h) (Or.inl ⟨by kernel_rfl, ?h42⟩) HS ?r42
      case h42 => (rintro w ⟨x3, x4, x5, x6, y0, y1, fm, fv, fp, fg⟩; go_simp) <;> with_reducible rfl
      try simp only [Act.put, List.getElem_toArray, List.getElem_cons_succ, List.getElem_cons_zero, List.setIfInBounds_toArray, List.set_cons_zero, List.set_cons_succ]
      refine wpAnyH_ready (rs := [9]) (by kernel_rfl) (by simp) ?_
      refine AllReadyH.cons rfl (fun K hK => ?_) AllReadyH.nil
      go_simp
      refine (CG.out _ (cj + bi zM + bi zQ + bi zV + bi zA + bi zD + bi zB + bi zE + bi zF) (by omega) (by omega) HU13.out.c HU13.out.f).mono ?_
      rintro e wb1 ⟨rfl, hU⟩
      refine hK.out _ _ (HS.un hU Hne.out) (fun HS => ?_)
      clear hK K
      have HU14 : Hid (Un d (cj + bi zM + bi zQ + bi zV + bi zA + bi zD + bi zB + bi zE + bi zF + bi zG) w5 wb1) := HU13.out.chain hU
      have HY14 : Hid (Y3 so uM uV (.int .i64 (T + 1)) wb1) := HY13.out.un hU hsod
      have HR14 : Hid (Rw3 wb1 w6.heap.size uM uV u17 j j j FM FV FY) := HR13.out.un hU hdB
      have HZ14 : Hid (w6.heap.size ≤ wb1.heap.size) := Nat.le_trans HZ13.out hU.s
      have HF14 : Hid (Fr9 w.heap.size (w.heap.size + 1) b1 b2 ep dc (.slice (some ⟨bM, oM, none⟩) n caM) (.slice (some ⟨bV, oV, none⟩) n caV) bM oM bV oV bp op bg og j m0 v0 p0 g0 wb1) := HF13.out.un hU Hne.out
      clear hU HU13 HY13 HR13 HZ13 HF13
      refine wpAnyH_ready (rs := [10]) (by kernel_rfl) (by simp) ?_
      refine AllReadyH.cons rfl (fun K hK => ?_) AllReadyH.nil
      go_simp
      refine (CW.out _ (cj + bi zM + bi zQ + bi zV + bi zA + bi zD + bi zB + bi zE + bi zF + bi zG) (by omega) (by omega) HU14.out.c HU14.out.f).mono ?_
      rintro e wb2 ⟨rfl, hU⟩
      refine hK.out _ _ (HS.un hU Hne.out) (fun HS => ?_)
      clear hK K
      have HU15 : Hid (Un d (cj + bi zM + bi zQ + bi zV + bi zA + bi zD + bi zB + bi zE + bi zF + bi zG + bi zW) w5 wb2) := HU14.out.chain hU
      have HY15 : Hid (Y3 so uM uV (.int .i64 (T + 1)) wb2) := HY14.out.un hU hsod
      have HR15 : Hid (Rw3 wb2 w6.heap.size uM uV u17 j j j FM FV FY) := HR14.out.un hU hdB
      have HZ15 : Hid (w6.heap.size ≤ wb2.heap.size) := Nat.le_trans HZ14.out hU.s
      have HF15 : Hid (Fr9 w.heap.size (w.heap.size + 1) b1 b2 ep dc (.slice (some ⟨bM, oM, none⟩) n caM) (.slice (some ⟨bV, oV, none⟩) n caV) bM oM bV oV bp op bg og j m0 v0 p0 g0 wb2) := HF14.out.un hU Hne.out
      clear hU HU14 HY14 HR14 HZ14 HF14
      refine wpAnyH_take (i := 11) (v := ?v43) rfl (by kernel_rfl) (by kernel_rfl) (by kernel_rfl) (fun _ _ _ h => h) (Or.inl ⟨by kernel_rfl, ?h43⟩) HS ?r43
      case h43 => (rintro w ⟨x3, x4, x5, x6, y0, y1, fm, fv, fp, fg⟩; go_simp) <;> with_reducible rfl
      try simp only [Act.put, List.getElem_toArray, List.getElem_cons_succ, List.getElem_cons_zero, List.setIfInBounds_toArray, List.set_cons_zero, List.set_cons_succ]
      refine wpAnyH_done (by kernel_rfl) ?_ _
      clear HS
      go_upto_region 19 with fail
      have hbD : Below wb2.heap.size wb2 wb2.drew := (Below.refl _ _).drew
      have HU16 : Hid (Un d (cj + bi zM + bi zQ + bi zV + bi zA + bi zD + bi zB + bi zE + bi zF + bi zG + bi zW) w5 wb2.drew) := HU15.out.ahead hbD
      have HY16 : Hid (Y3 so uM uV (.int .i64 (T + 1)) wb2.drew) := HY15.out.later hbD
      have HR16 : Hid (Rw3 wb2.drew w6.heap.size uM uV u17 j j j FM FV FY) := HR15.out.later hbD
      have HZ16 : Hid (w6.heap.size ≤ wb2.drew.heap.size) := Nat.le_trans HZ15.out hbD.size
      have HF16 : Hid (Fr9 w.heap.size (w.heap.size + 1) b1 b2 ep dc (.slice (some ⟨bM, oM, none⟩) n caM) (.slice (some ⟨bV, oV, none⟩) n caV) bM oM bV oV bp op bg og j m0 v0 p0 g0 wb2.drew) := HF15.out.later hbD
      clear hbD HU15 HY15 HR15 HZ15 HF15
      refine wp_region_held_drew (S := Fr9 w.heap.size (w.heap.size + 1) b1 b2 ep dc (.slice (some ⟨bM, oM, none⟩) n caM) (.slice (some ⟨bV, oV, none⟩) n caV) bM oM bV oV bp op bg og j m0 v0 p0 g0) (by kernel_rfl) HF16.out (fun HS => ?_)
      generalize wb2.drew = wd19 at *
      refine wpAnyH_take (i := 0) (v := ?v44) rfl (by kernel_rfl) (by kernel_rfl) (by kernel_rfl) (fun _ _ _ h => h) (Or.inl ⟨by kernel_rfl, ?h44⟩) HS ?r44
      case h44 => (rintro w ⟨x3, x4, x5, x6, y0, y1, fm, fv, fp, fg⟩; go_simp) <;> with_reducible rfl
      try simp only [Act.put, List.getElem_toArray, List.getElem_cons_succ, List.getElem_cons_zero, List.setIfInBounds_toArray, List.set_cons_zero, List.set_cons_succ]
      refine wpAnyH_take (i := 1) (v := ?v45) rfl (by kernel_rfl) (by kernel_rfl) (by kernel_rfl) (fun _ _ _ h => h) (Or.inl ⟨by kernel_rfl, ?h45⟩) HS ?r45
      case h45 => (rintro w ⟨x3, x4, x5, x6, y0, y1, fm, fv, fp, fg⟩; go_simp) <;> with_reducible rfl
      try simp only [Act.put, List.getElem_toArray, List.getElem_cons_succ, List.getElem_cons_zero, List.setIfInBounds_toArray, List.set_cons_zero, List.set_cons_succ]
      refine wpAnyH_take (i := 2) (v := ?v46) rfl (by kernel_rfl) (by kernel_rfl) (by kernel_rfl) (fun _ _ _ h => h) (Or.inl ⟨by kernel_rfl, ?h46⟩) HS ?r46
      case h46 => (rintro w ⟨x3, x4, x5, x6, y0, y1, fm, fv, fp, fg⟩; go_simp) <;> with_reducible rfl
      try simp only [Act.put, List.getElem_toArray, List.getElem_cons_succ, List.getElem_cons_zero, List.setIfInBounds_toArray, List.set_cons_zero, List.set_cons_succ]
      refine wpAnyH_take (i := 3) (v := ?v47) rfl (by kernel_rfl) (by kernel_rfl) (by kernel_rfl) (fun _ _ _ h => h) (Or.inl ⟨by kernel_rfl, ?h47⟩) HS ?r47
      case h47 => (rintro w ⟨x3, x4, x5, x6, y0, y1, fm, fv, fp, fg⟩; go_simp) <;> with_reducible rfl
      try simp only [Act.put, List.getElem_toArray, List.getElem_cons_succ, List.getElem_cons_zero, List.setIfInBounds_toArray, List.set_cons_zero, List.set_cons_succ]
      refine wpAnyH_take (i := 4) (v := ?v48) rfl (by kernel_rfl) (by kernel_rfl) (by kernel_rfl) (fun _ _ _ h => h) (Or.inl ⟨by kernel_rfl, ?h48⟩) HS ?r48
      case h48 => (rintro w ⟨x3, x4, x5, x6, y0, y1, fm, fv, fp, fg⟩; go_simp) <;> with_reducible rfl
      try simp only [Act.put, List.getElem_toArray, List.getElem_cons_succ, List.getElem_cons_zero, List.setIfInBounds_toArray, List.set_cons_zero, List.set_cons_succ]
      refine wpAnyH_take (i := 5) (v := ?v49) rfl (by kernel_rfl) (by kernel_rfl) (by kernel_rfl) (fun _ _ _ h => h) (Or.inl ⟨by kernel_rfl, ?h49⟩) HS ?r49
      case h49 => (rintro w ⟨x3, x4, x5, x6, y0, y1, fm, fv, fp, fg⟩; go_simp) <;> with_reducible rfl
      try simp only [Act.put, List.getElem_toArray, List.getElem_cons_succ, List.getElem_cons_zero, List.setIfInBounds_toArray, List.set_cons_zero, List.set_cons_succ]
      refine wpAnyH_take (i := 6) (v := ?v50) rfl (by kernel_rfl) (by kernel_rfl) (by kernel_rfl) (fun _ _ _ h => h) (Or.inl ⟨by kernel_rfl, ?h50⟩) HS ?r50
      case h50 => (rintro w ⟨x3, x4, x5, x6, y0, y1, fm, fv, fp, fg⟩; go_simp) <;> with_reducible rfl
      try simp only [Act.put, List.getElem_toArray, List.getElem_cons_succ, List.getElem_cons_zero, List.setIfInBounds_toArray, List.set_cons_zero, List.set_cons_succ]
      refine wpAnyH_ready (rs := [7]) (by kernel_rfl) (by simp) ?_
      refine AllReadyH.cons rfl (fun K hK => ?_) AllReadyH.nil
      go_simp
      refine (CR.out _ (cj + bi zM + bi zQ + bi zV + bi zA + bi zD + bi zB + bi zE + bi zF + bi zG + bi zW) (by omega) (by omega) HU16.out.c HU16.out.f).mono ?_
      rintro e wb3 ⟨rfl, hU⟩
      refine hK.out _ _ (HS.un hU Hne.out) (fun HS => ?_)
      clear hK K
      have HU17 : Hid (Un d (cj + bi zM + bi zQ + bi zV + bi zA + bi zD + bi zB + bi zE + bi zF + bi zG + bi zW + bi zR) w5 wb3) := HU16.out.chain hU
      have HY17 : Hid (Y3 so uM uV (.int .i64 (T + 1)) wb3) := HY16.out.un hU hsod
      have HR17 : Hid (Rw3 wb3 w6.heap.size uM uV u17 j j j FM FV FY) := HR16.out.un hU hdB
      have HZ17 : Hid (w6.heap.size ≤ wb3.heap.size) := Nat.le_trans HZ16.out hU.s
      have HF17 : Hid (Fr9 w.heap.size (w.heap.size + 1) b1 b2 ep dc (.slice (some ⟨bM, oM, none⟩) n caM) (.slice (some ⟨bV, oV, none⟩) n caV) bM oM bV oV bp op bg og j m0 v0 p0 g0 wb3) := HF16.out.un hU Hne.out
      clear hU HU16 HY16 HR16 HZ16 HF16
      refine wpAnyH_ready (rs := [8]) (by kernel_rfl) (by simp) ?_
      refine AllReadyH.cons rfl (fun K hK => ?_) AllReadyH.nil
      go_simp
      refine (CY.out _).mono ?_
      rintro e wb4 ⟨rfl, hb⟩
      refine hK.out _ _ (HS.later hb) (fun HS => ?_)
      clear hK K
      have HU18 : Hid (Un d (cj + bi zM + bi zQ + bi zV + bi zA + bi zD + bi zB + bi zE + bi zF + bi zG + bi zW + bi zR) w5 wb4) := HU17.out.ahead hb
      have HY18 : Hid (Y3 so uM uV (.int .i64 (T + 1)) wb4) := HY17.out.later hb
      have HR18 : Hid (Rw3 wb4 w6.heap.size uM uV u17 j j j FM FV FY) := HR17.out.later hb
      have HZ18 : Hid (w6.heap.size ≤ wb4.heap.size) := Nat.le_trans HZ17.out hb.size
      have HF18 : Hid (Fr9 w.heap.size (w.heap.size + 1) b1 b2 ep dc (.slice (some ⟨bM, oM, none⟩) n caM) (.slice (some ⟨bV, oV, none⟩) n caV) bM oM bV oV bp op bg og j m0 v0 p0 g0 wb4) := HF17.out.later hb
      clear hb HU17 HY17 HR17 HZ17 HF17
      refine wpAnyH_take (i := 9) (v := ?v51) rfl (by kernel_rfl) (by kernel_rfl) (by kernel_rfl) (fun _ _ _ h => h) (Or.inl ⟨by kernel_rfl, ?h51⟩) HS ?r51
      case h51 => (rintro w ⟨x3, x4, x5, x6, y0, y1, fm, fv, fp, fg⟩; go_simp) <;> with_reducible rfl
      try simp only [Act.put, List.getElem_toArray, List.getElem_cons_succ, List.getElem_cons_zero, List.setIfInBounds_toArray, List.set_cons_zero, List.set_cons_succ]
      refine wpAnyH_take (i := 10) (v := ?v52) rfl (by kernel_rfl) (by kernel_rfl) (by kernel_rfl) (fun _ _ _ h => h) (Or.inl ⟨by kernel_rfl, ?h52⟩) HS ?r52
      case h52 => (rintro w ⟨x3, x4, x5, x6, y0, y1, fm, fv, fp, fg⟩; go_simp) <;> with_reducible rfl
      try simp only [Act.put, List.getElem_toArray, List.getElem_cons_succ, List.getElem_cons_zero, List.setIfInBounds_toArray, List.set_cons_zero, List.set_cons_succ]
      refine wpAnyH_take (i := 11) (v := ?v53) rfl (by kernel_rfl) (by kernel_rfl) (by kernel_rfl) (fun _ _ _ h => h) (Or.inl ⟨by kernel_rfl, ?h53⟩) HS ?r53
      case h53 => (rintro w ⟨x3, x4, x5, x6, y0, y1, fm, fv, fp, fg⟩; go_simp) <;> with_reducible rfl
      try simp only [Act.put, List.getElem_toArray, List.getElem_cons_succ, List.getElem_cons_zero, List.setIfInBounds_toArray, List.set_cons_zero, List.set_cons_succ]
      refine wpAnyH_take (i := 12) (v := ?v54) rfl (by kernel_rfl) (by kernel_rfl) (by kernel_rfl) (fun _ _ _ h => h) (Or.inl ⟨by kernel_rfl, ?h54⟩) HS ?r54
      case h54 => (rintro w ⟨x3, x4, x5, x6, y0, y1, fm, fv, fp, fg⟩; go_simp) <;> with_reducible rfl
      try simp only [Act.put, List.getElem_toArray, List.getElem_cons_succ, List.getElem_cons_zero, List.setIfInBounds_toArray, List.set_cons_zero, List.set_cons_succ]
      refine wpAnyH_take (i := 13) (v := ?v55) rfl (by kernel_rfl) (by kernel_rfl) (by kernel_rfl) (fun _ _ _ h => h) (Or.inl ⟨by kernel_rfl, ?h55⟩) HS ?r55
      case h55 => (rintro w ⟨x3, x4, x5, x6, y0, y1, fm, fv, fp, fg⟩; go_simp) <;> with_reducible rfl
      try simp only [Act.put, List.getElem_toArray, List.getElem_cons_succ, List.getElem_cons_zero, List.setIfInBounds_toArray, List.set_cons_zero, List.set_cons_succ]
      refine wpAnyH_done (by kernel_rfl) ?_ _
      clear HS
      go_upto_region 20 with fail
      have c0 := HY18.out.c0
      have d0 : ∀ ob : Obj, (wb4.alloc ob).cell? ⟨so, 0, none⟩ = some uM := fun ob => cell_later (bel1 _ _) c0
      have hown0 := HR18.out.1.1
      have hzs0 := HZ18.out
      have HP0 : Hid (∀ (u' : Value) (w' : World) (o : Obj), w'.ownsRow w6.heap.size 2 1 u' (j + 1) (il FM j ++ [.int .i64 xM]) → (wb4.alloc o).grownBy w' (uM).ownBlock → (u'.ownBlock = (uM).ownBlock ∨ u'.ownBlock = some (wb4.alloc o).heap.size) → Rw3 w' w6.heap.size (u') (uV) (u17) (j + 1) j j FM FV FY ∧ Y3 so (uM) (uV) (.int .i64 (T + 1)) w' ∧ Un d (cj + bi zM + bi zQ + bi zV + bi zA + bi zD + bi zB + bi zE + bi zF + bi zG + bi zW + bi zR) w5 w' ∧ w6.heap.size ≤ w'.heap.size) := fun u' w' o h1 h2 h3 => ⟨HR18.out.one (by rw [show FM j = xM from HIx.out.1.trans HJH.out.1]; exact h1) h2 h3, HY18.out.grow h2 (fun k' hk => (hown0.lt k' hk).1) hsB, HU18.out.grow (by rw [hso'.out]; exact hd5) h2 (fun k' hk => by have := (hown0.lt k' hk).1; rw [hso'.out]; omega), by have := h2.size; rw [World.size_alloc] at this; omega⟩
      go_upto_region 21 with (at_builtin; refine wpList_append_own_at _ rfl _ _ 52 rfl w6.heap.size 2 i0 (.int .i64 0) 1 8 Tryz.underlying52 hti hi0 hi1 hi2 rfl (by decide) _ _ _ rfl (hown0.alloc _) ⟨wb4.heap.size, 0, none⟩ 1 1 [.int .i64 xM] rfl rfl (cell_one_new _ _ _) (ints_oneCell .i64 [xM]) (by unfold maxLen; omega) (by omega) (by rw [World.size_alloc]; omega) ?_; intro u' w' h1 h2 _ h3; obtain ⟨gn0, cn0, rfl⟩ := own_succ9 h1; obtain ⟨k1, k2, k3, k4⟩ := HP0.out _ _ _ h1 h2 h3; have e0 := k2.c0; have f0 := k2.f0; have HRp : Hid (Rw3 (w'.setCell ⟨so, 0, none⟩ (.slice (some ⟨gn0, 0, none⟩) (j + 1) cn0)) w6.heap.size ((.slice (some ⟨gn0, 0, none⟩) (j + 1) cn0)) (uV) (u17) (j + 1) j j FM FV FY) := k1.far _ _ hsB; have HYp : Hid (Y3 so ((.slice (some ⟨gn0, 0, none⟩) (j + 1) cn0)) (uV) (.int .i64 (T + 1)) (w'.setCell ⟨so, 0, none⟩ (.slice (some ⟨gn0, 0, none⟩) (j + 1) cn0))) := k2.set0 _; have HUp : Hid (Un d (cj + bi zM + bi zQ + bi zV + bi zA + bi zD + bi zB + bi zE + bi zF + bi zG + bi zW + bi zR) w5 (w'.setCell ⟨so, 0, none⟩ (.slice (some ⟨gn0, 0, none⟩) (j + 1) cn0))) := un_far9 k3 (by rw [hso'.out]; exact hd5) (by rw [hso'.out]; exact Nat.le_refl _) _; have HZp : Hid (w6.heap.size ≤ (w'.setCell ⟨so, 0, none⟩ (.slice (some ⟨gn0, 0, none⟩) (j + 1) cn0)).heap.size) := (by simp [World.setCell]; exact k4); clear h1 h2 h3 k1 k2 k3 k4 hown0 HP0 c0 d0 HU18 HY18 HR18 HZ18)
      clear e0 f0
      generalize w'.setCell ⟨so, 0, none⟩ (.slice (some ⟨gn0, 0, none⟩) (j + 1) cn0) = wn0 at *
      have c1 := HYp.out.c1
      have d1 : ∀ ob : Obj, (wn0.alloc ob).cell? ⟨so, 1, none⟩ = some uV := fun ob => cell_later (bel1 _ _) c1
      have hown1 := HRp.out.1.2.1
      have hzs1 := HZp.out
      have HP1 : Hid (∀ (u' : Value) (w' : World) (o : Obj), w'.ownsRow w6.heap.size 2 1 u' (j + 1) (il FV j ++ [.int .i64 xV]) → (wn0.alloc o).grownBy w' (uV).ownBlock → (u'.ownBlock = (uV).ownBlock ∨ u'.ownBlock = some (wn0.alloc o).heap.size) → Rw3 w' w6.heap.size ((.slice (some ⟨gn0, 0, none⟩) (j + 1) cn0)) (u') (u17) (j + 1) (j + 1) j FM FV FY ∧ Y3 so ((.slice (some ⟨gn0, 0, none⟩) (j + 1) cn0)) (uV) (.int .i64 (T + 1)) w' ∧ Un d (cj + bi zM + bi zQ + bi zV + bi zA + bi zD + bi zB + bi zE + bi zF + bi zG + bi zW + bi zR) w5 w' ∧ w6.heap.size ≤ w'.heap.size) := fun u' w' o h1 h2 h3 => ⟨HRp.out.two (by rw [show FV j = xV from HIx.out.2.1.trans HJH.out.2.1]; exact h1) h2 h3, HYp.out.grow h2 (fun k' hk => (hown1.lt k' hk).1) hsB, HUp.out.grow (by rw [hso'.out]; exact hd5) h2 (fun k' hk => by have := (hown1.lt k' hk).1; rw [hso'.out]; omega), by have := h2.size; rw [World.size_alloc] at this; omega⟩
      go_upto_region 22 with (at_builtin; refine wpList_append_own_at _ rfl _ _ 52 rfl w6.heap.size 2 i0 (.int .i64 0) 1 8 Tryz.underlying52 hti hi0 hi1 hi2 rfl (by decide) _ _ _ rfl (hown1.alloc _) ⟨wn0.heap.size, 0, none⟩ 1 1 [.int .i64 xV] rfl rfl (cell_one_new _ _ _) (ints_oneCell .i64 [xV]) (by unfold maxLen; omega) (by omega) (by rw [World.size_alloc]; omega) ?_; intro u' w' h1 h2 _ h3; obtain ⟨gn1, cn1, rfl⟩ := own_succ9 h1; obtain ⟨k1, k2, k3, k4⟩ := HP1.out _ _ _ h1 h2 h3; have e1 := k2.c1; have f1 := k2.f1; have HRq : Hid (Rw3 (w'.setCell ⟨so, 1, none⟩ (.slice (some ⟨gn1, 0, none⟩) (j + 1) cn1)) w6.heap.size ((.slice (some ⟨gn0, 0, none⟩) (j + 1) cn0)) ((.slice (some ⟨gn1, 0, none⟩) (j + 1) cn1)) (u17) (j + 1) (j + 1) j FM FV FY) := k1.far _ _ hsB; have HYq : Hid (Y3 so ((.slice (some ⟨gn0, 0, none⟩) (j + 1) cn0)) ((.slice (some ⟨gn1, 0, none⟩) (j + 1) cn1)) (.int .i64 (T + 1)) (w'.setCell ⟨so, 1, none⟩ (.slice (some ⟨gn1, 0, none⟩) (j + 1) cn1))) := k2.set1 _; have HUq : Hid (Un d (cj + bi zM + bi zQ + bi zV + bi zA + bi zD + bi zB + bi zE + bi zF + bi zG + bi zW + bi zR) w5 (w'.setCell ⟨so, 1, none⟩ (.slice (some ⟨gn1, 0, none⟩) (j + 1) cn1))) := un_far9 k3 (by rw [hso'.out]; exact hd5) (by rw [hso'.out]; exact Nat.le_refl _) _; have HZq : Hid (w6.heap.size ≤ (w'.setCell ⟨so, 1, none⟩ (.slice (some ⟨gn1, 0, none⟩) (j + 1) cn1)).heap.size) := (by simp [World.setCell]; exact k4); clear h1 h2 h3 k1 k2 k3 k4 hown1 HP1 c1 d1 HUp HYp HRp HZp)
      clear e1 f1
      generalize w'.setCell ⟨so, 1, none⟩ (.slice (some ⟨gn1, 0, none⟩) (j + 1) cn1) = wn1 at *
      go_wp2_with fail
      refine (CT.out _ (cj + bi zM + bi zQ + bi zV + bi zA + bi zD + bi zB + bi zE + bi zF + bi zG + bi zW + bi zR) (by omega) (by omega) HUq.out.c HUq.out.f).mono ?_
      rintro e wt ⟨rfl, hU⟩
      have HUt : Hid (Un d (cj + bi zM + bi zQ + bi zV + bi zA + bi zD + bi zB + bi zE + bi zF + bi zG + bi zW + bi zR + bi zY) w5 wt) := HUq.out.chain hU
      have HYt : Hid (Y3 so (.slice (some ⟨gn0, 0, none⟩) (j + 1) cn0) (.slice (some ⟨gn1, 0, none⟩) (j + 1) cn1) (.int .i64 (T + 1)) wt) := HYq.out.un hU hsod
      have HRt : Hid (Rw3 wt w6.heap.size (.slice (some ⟨gn0, 0, none⟩) (j + 1) cn0) (.slice (some ⟨gn1, 0, none⟩) (j + 1) cn1) u17 (j + 1) (j + 1) j FM FV FY) := HRq.out.un hU hdB
      have HZt : Hid (w6.heap.size ≤ wt.heap.size) := Nat.le_trans HZq.out hU.s
      clear hU HUq HYq HRq HZq
      have hown2 := HRt.out.1.2.2
      have hzs2 := HZt.out
      have HP2 : Hid (∀ (u' : Value) (w' : World) (o : Obj), w'.ownsRow w6.heap.size 2 1 u' (j + 1) (il FY j ++ [.int .i64 xY]) → (wt.alloc o).grownBy w' (u17).ownBlock → (u'.ownBlock = (u17).ownBlock ∨ u'.ownBlock = some (wt.alloc o).heap.size) → Rw3 w' w6.heap.size ((.slice (some ⟨gn0, 0, none⟩) (j + 1) cn0)) ((.slice (some ⟨gn1, 0, none⟩) (j + 1) cn1)) (u') (j + 1) (j + 1) (j + 1) FM FV FY ∧ Y3 so ((.slice (some ⟨gn0, 0, none⟩) (j + 1) cn0)) ((.slice (some ⟨gn1, 0, none⟩) (j + 1) cn1)) (.int .i64 (T + 1)) w' ∧ Un d (cj + bi zM + bi zQ + bi zV + bi zA + bi zD + bi zB + bi zE + bi zF + bi zG + bi zW + bi zR + bi zY) w5 w' ∧ w6.heap.size ≤ w'.heap.size) := fun u' w' o h1 h2 h3 => ⟨HRt.out.three (by rw [show FY j = xY from HIx.out.2.2.trans HJH.out.2.2.1]; exact h1) h2 h3, HYt.out.grow h2 (fun k' hk => (hown2.lt k' hk).1) hsB, HUt.out.grow (by rw [hso'.out]; exact hd5) h2 (fun k' hk => by have := (hown2.lt k' hk).1; rw [hso'.out]; omega), by have := h2.size; rw [World.size_alloc] at this; omega⟩
      go_wp2_with (at_builtin; refine wpList_append_own_at _ rfl _ _ 52 rfl w6.heap.size 2 i0 (.int .i64 0) 1 8 Tryz.underlying52 hti hi0 hi1 hi2 rfl (by decide) _ _ _ rfl (hown2.alloc _) ⟨wt.heap.size, 0, none⟩ 1 1 [.int .i64 xY] rfl rfl (cell_one_new _ _ _) (ints_oneCell .i64 [xY]) (by unfold maxLen; omega) (by omega) (by rw [World.size_alloc]; omega) ?_; intro u' w' h1 h2 _ h3; obtain ⟨gn2, cn2, rfl⟩ := own_succ9 h1; obtain ⟨k1, k2, k3, k4⟩ := HP2.out _ _ _ h1 h2 h3; have HRs : Hid (Rw3 w' w6.heap.size ((.slice (some ⟨gn0, 0, none⟩) (j + 1) cn0)) ((.slice (some ⟨gn1, 0, none⟩) (j + 1) cn1)) ((.slice (some ⟨gn2, 0, none⟩) (j + 1) cn2)) (j + 1) (j + 1) (j + 1) FM FV FY) := k1; have HYs : Hid (Y3 so ((.slice (some ⟨gn0, 0, none⟩) (j + 1) cn0)) ((.slice (some ⟨gn1, 0, none⟩) (j + 1) cn1)) (.int .i64 (T + 1)) w') := k2; have HUs : Hid (Un d (cj + bi zM + bi zQ + bi zV + bi zA + bi zD + bi zB + bi zE + bi zF + bi zG + bi zW + bi zR + bi zY) w5 w') := k3; have HZs : Hid (w6.heap.size ≤ w'.heap.size) := k4; clear h1 h2 h3 k1 k2 k3 k4 hown2 HP2 HUt HYt HRt HZt)
      go_roundw
      case rel => exact ⟨j + 1, _, _, by omega, by go_num, by have h1 := HCjj.out; have h2 := HJH.out.2.2.2; show Un d (cb + aS k M V P Gc (j + 1)) w5 _; rw [h1, h2, show cj + (bi zM + bi zQ + bi zV + bi zA + bi zD + bi zB + bi zE + bi zF + bi zG + bi zW + bi zR + bi zY) = cj + bi zM + bi zQ + bi zV + bi zA + bi zD + bi zB + bi zE + bi zF + bi zG + bi zW + bi zR + bi zY by omega]; exact HUs.out, HYs, HRs, HZs⟩
      case measure => simp [intOf]; omega
    · obtain rfl : j = n := by omega
      have hjI : ¬ (j : Int) < (j : Int) := by omega
      obtain ⟨ad1, ca1, rfl⟩ := own_sl9 HR.out.1.1
      obtain ⟨ad2, ca2, rfl⟩ := own_sl9 HR.out.1.2.1
      obtain ⟨ad3, ca3, rfl⟩ := own_sl9 HR.out.1.2.2
      have HRr := HR5.out.blk (HU.out.k _ HR5.out.lt hwd2)
      have r0 := HRr.c0
      have r1 := HRr.c1
      have r2 := HRr.c2
      have f0 := HRr.f0
      have f1 := HRr.f1
      have f2 := HRr.f2
      have y0 := HY.out.c0
      have y1 := HY.out.c1
      have y2 := HY.out.c2
      have hBr : w.heap.size + 1 + 1 < w6.heap.size := by omega
      have hBw : w.heap.size ≤ w6.heap.size := by omega
      go_wp2
      have HRE := ((HR.out.far ⟨w.heap.size + 1 + 1, 0, none⟩ (.slice ad1 j ca1) hBr).far ⟨w.heap.size + 1 + 1, 1, none⟩ (.slice ad2 j ca2) hBr).far ⟨w.heap.size + 1 + 1, 2, none⟩ (.int .i64 (T + 1)) hBr
      have hr1 : ∀ k', k' < j → -9223372036854775808 ≤ aM k (M k') (Gc k') ∧ aM k (M k') (Gc k') ≤ 9223372036854775807 := fun k' _ => clv_rng _
      have hr2 : ∀ k', k' < j → -9223372036854775808 ≤ aV k (V k') (Gc k') ∧ aV k (V k') (Gc k') ≤ 9223372036854775807 := fun k' _ => clv_rng _
      have hr3 : ∀ k', k' < j → -9223372036854775808 ≤ aY k (M k') (V k') (P k') (Gc k') ∧ aY k (M k') (V k') (P k') (Gc k') ≤ 9223372036854775807 := fun k' _ => clv_rng _
      have q1 := ar_of_own HRE.1.1 hr1
      have q2 := ar_of_own HRE.1.2.1 hr2
      have q3 := ar_of_own HRE.1.2.2 hr3
      have HUE := un_far9 (un_far9 (un_far9 (HU5.out.chain HU.out) hdw (p := ⟨w.heap.size + 1 + 1, 0, none⟩) (by dsimp only; omega) (.slice ad1 j ca1)) hdw (p := ⟨w.heap.size + 1 + 1, 1, none⟩) (by dsimp only; omega) (.slice ad2 j ca2)) hdw (p := ⟨w.heap.size + 1 + 1, 2, none⟩) (by dsimp only; omega) (.int .i64 (T + 1))
      rw [show cb + aS k M V P Gc j = c + (CN + aS k M V P Gc j) by have := HCb.out; omega] at HUE
      exact bodyPost_ret (v := .tuple #[.agg #[.slice ad1 j ca1, .slice ad2 j ca2, .int .i64 (T + 1)], .slice ad3 j ca3]) (by simp [results, Tryz.results11, go_sem, r0, r1, r2, f0, f1, f2]) rfl ⟨_, _, _, rfl, q1.1, q2.1, q3.1, ⟨fun a' n' c' e' h' => by have := q1.2 a' n' c' e' h'; omega, fun a' n' c' e' h' => by have := q2.2 a' n' c' e' h'; omega, fun a' n' c' e' h' => by have := q3.2 a' n' c' e' h'; omega⟩, HUE⟩
end Go.Proofs.YtcdehbhdloaieaaGreatDoor
