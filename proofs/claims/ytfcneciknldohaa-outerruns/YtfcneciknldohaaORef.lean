/-
  The document's outer (regattaref10): when a step may be made, and the step.
-/
import Derived.Test.YtfcneciknldohaaOUnit
import Derived.Test.YtfcneciknldohaaOMath
import Derived.Test.YtfcneciknldohaaBG
import Derived.Test.YtfcneciknldohaaBI
import Derived.Maps.AppendAt
import Derived.Deep.RegionHeld3
set_option linter.unusedVariables false
set_option linter.unusedSimpArgs false
namespace Go.Proofs.Ytfcneciknldohaa
open Go.RowKit

set_option maxRecDepth 100000 in
set_option maxHeartbeats 4000000 in
theorem refRight10 (r m : Int) (b : Bool) (hb : b = true ↔ ruO r m) (w : World) :
    Calls Try.prog 11 #[.int .i64 r, .int .i64 m] w fun e w' => e = .returned (.bool b) ∧ w' = w := by
  have HE : Hid (b = true ↔ ruO r m) := hb
  clear hb
  by_cases q1 : 0 ≤ r
  · by_cases q2 : 0 ≤ m
    · by_cases q3 : m < 4294967296
      · obtain rfl : b = true := HE.out.2 ⟨q1, q2, q3⟩
        clear HE
        go_enter Try.func11, Try.ntmps11
        go_wp2
        go_ret
        exact ⟨rfl, rfl⟩
      · obtain rfl : b = false := by rw [Bool.eq_false_iff]; intro h; exact q3 (HE.out.1 h).2.2
        have q3' : decide (m < 4294967296) = false := decide_eq_false q3
        clear HE
        go_enter Try.func11, Try.ntmps11
        go_wp2
        go_ret
        exact ⟨by first | rfl | rw [q3'], rfl⟩
    · obtain rfl : b = false := by rw [Bool.eq_false_iff]; intro h; exact q2 (HE.out.1 h).2.1
      clear HE
      go_enter Try.func11, Try.ntmps11
      go_wp2
      go_ret
      exact ⟨rfl, rfl⟩
  · obtain rfl : b = false := by rw [Bool.eq_false_iff]; intro h; exact q1 (HE.out.1 h).1
    clear HE
    go_enter Try.func11, Try.ntmps11
    go_wp2
    go_ret
    exact ⟨rfl, rfl⟩
theorem rr_ten (v : Int) : rr v 32 = rnd v 32 := by unfold rr; rw [if_neg (by omega)]
/-- Two rows that have no block in common. -/
def Ap (u v : Value) : Prop := ∀ g, u.ownBlock = some g → ¬ v.ownBlock = some g
theorem Ap.symm {u v : Value} (h : Ap u v) : Ap v u := fun g h1 h2 => h g h2 h1
theorem ap_nil (v : Value) : Ap (.slice none 0 0) v := fun g h => by simp [Value.ownBlock] at h
theorem own_beside {w w3 : World} {B : Nat} {e : TypeId} {s : Nat} {u v : Value} {n : Nat} {xs : List Value} {o : Obj} (h : w.ownsRow B e s u n xs) (hgrow : (w.alloc o).grownBy w3 v.ownBlock) (ha : Ap u v) : w3.ownsRow B e s u n xs := by
  refine (h.alloc o).kept hgrow ?_
  cases hu : u.ownBlock with
  | none => exact Or.inl rfl
  | some g => exact Or.inr (fun e => ha g hu e.symm)
theorem ap_grow {w : World} {B : Nat} {e : TypeId} {s : Nat} {u v v' : Value} {n : Nat} {xs : List Value} {o : Obj} (h : w.ownsRow B e s u n xs) (hat : v'.ownBlock = v.ownBlock ∨ v'.ownBlock = some (w.alloc o).heap.size) (ha : Ap u v) : Ap u v' := fun g h1 h2 => by
  rcases hat with h3 | h3
  · exact ha g h1 (h3.symm.trans h2)
  · rw [h3] at h2
    obtain rfl := Option.some.inj h2
    have := (h.lt _ h1).2
    rw [World.size_alloc] at this
    omega
theorem own_far10 {w : World} {B : Nat} {e : TypeId} {s : Nat} {v : Value} {n : Nat} {xs : List Value} (h : w.ownsRow B e s v n xs) (p : Addr) (u : Value) (hp : p.block < B) : (w.setCell p u).ownsRow B e s v n xs := by
  refine ⟨h.1, ?_⟩
  rcases h.2 with h0 | ⟨g, cap, cur, hv, hg, hh, r⟩
  · exact Or.inl h0
  · exact Or.inr ⟨g, cap, cur, hv, hg, (Below.heap_setCell _ _ _ _ (by omega)).trans hh, r⟩
theorem own_succ10 {W : World} {base : Nat} {e : TypeId} {size : Nat} {v : Value} {k : Nat} {xs : List Value} (h : W.ownsRow base e size v (k + 1) xs) : ∃ g cap, v = .slice (some ⟨g, 0, none⟩) (k + 1) cap := by
  rcases h.2 with ⟨_, h0⟩ | ⟨g, cap, _, rfl, _⟩
  · omega
  · exact ⟨g, cap, rfl⟩
theorem own_sl10 {W : World} {base : Nat} {e : TypeId} {size : Nat} {v : Value} {k : Nat} {xs : List Value} (h : W.ownsRow base e size v k xs) : ∃ ad cap, v = .slice ad k cap := by
  rcases h.2 with ⟨h1, h0⟩ | ⟨g, cap, _, rfl, _⟩
  · subst h0; exact ⟨_, _, h1⟩
  · exact ⟨_, cap, rfl⟩
theorem ar_spot10 {w : World} {v : Value} {n : Nat} {f : Nat → Int} (h : Ar w v n f) (j : Nat) (hj : j < n) : ∃ (b o cap : Nat), v = .slice (some ⟨b, o, none⟩) n cap ∧ w.cell? ⟨b, o + j, none⟩ = some (.int .i64 (f j)) ∧ -9223372036854775808 ≤ f j ∧ f j ≤ 9223372036854775807 := by
  obtain ⟨adr, cap, b, o, h1, h2, h3, h4, h5⟩ := h
  have e := h4 (by omega)
  subst e
  exact ⟨b, o, cap, h1, (h5 j hj).1, (h5 j hj).2⟩
/-- Between two parts: the count, the outer that grows, its two rows. -/
structure T10 (w : World) (d : Nat) (cj : Int) (so : Nat) (uP uB : Value) (base jP jB : Nat) (FP FB : Nat → Int) (W : World) : Prop where
  U : Un d cj w W
  Y : Y2 so uP uB W
  P : W.ownsRow base 2 1 uP jP (il FP jP)
  B : W.ownsRow base 2 1 uB jB (il FB jB)
  A : Ap uP uB
  Z : base ≤ W.heap.size
theorem T10.later {w : World} {d : Nat} {cj : Int} {so : Nat} {uP uB : Value} {base jP jB : Nat} {FP FB : Nat → Int} {W W' : World} (h : T10 w d cj so uP uB base jP jB FP FB W) (hb : Below W.heap.size W W') : T10 w d cj so uP uB base jP jB FP FB W' := ⟨h.U.ahead hb, h.Y.later hb, own_later h.P hb, own_later h.B hb, h.A, Nat.le_trans h.Z hb.size⟩
theorem T10.un {w : World} {d : Nat} {cj c' : Int} {so : Nat} {uP uB : Value} {base jP jB : Nat} {FP FB : Nat → Int} {W W' : World} (h : T10 w d cj so uP uB base jP jB FP FB W) (hU : Un d c' W W') (hd : d < base) (hs : so ≠ d) : T10 w d c' so uP uB base jP jB FP FB W' := ⟨h.U.chain hU, h.Y.un hU hs, own_un h.P hU hd, own_un h.B hU hd, h.A, Nat.le_trans h.Z hU.s⟩
theorem un_far10 {d : Nat} {c : Int} {w wr : World} {p : Addr} (h : Un d c w wr) (hd : d < w.heap.size) (hp : w.heap.size ≤ p.block) (u : Value) : Un d c w (wr.setCell p u) := h.setnew p u hd hp
theorem T10.putB {w : World} {d : Nat} {cj : Int} {so : Nat} {uP uB u' : Value} {base jP jB : Nat} {FP FB : Nat → Int} {W W' : World} {o : Obj} (h : T10 w d cj so uP uB base jP jB FP FB W) (hd : d < w.heap.size) (hso : w.heap.size ≤ so) (hsb : so < base) (hown : W'.ownsRow base 2 1 u' (jB + 1) (il FB jB ++ [.int .i64 (FB jB)])) (hg : (W.alloc o).grownBy W' uB.ownBlock) (hat : u'.ownBlock = uB.ownBlock ∨ u'.ownBlock = some (W.alloc o).heap.size) : Y2 so uP uB W' ∧ T10 w d cj so uP u' base jP (jB + 1) FP FB (W'.setCell ⟨so, 1, none⟩ u') := by
  have hY := h.Y.grow hg (fun k' hk => (h.B.lt k' hk).1) hsb
  have hz := h.Z
  have hU := h.U.grow hd hg (fun k' hk => by have := (h.B.lt k' hk).1; omega)
  refine ⟨hY, un_far10 hU hd hso _, hY.set1 _, own_far10 (own_beside h.P hg h.A) _ _ hsb, own_far10 (by rw [il_succ]; exact hown) _ _ hsb, ap_grow h.P hat h.A, ?_⟩
  have := hg.size
  rw [World.size_alloc] at this
  rw [World.size_setCell]
  omega
theorem T10.putP {w : World} {d : Nat} {cj : Int} {so : Nat} {uP uB u' : Value} {base jP jB : Nat} {FP FB : Nat → Int} {W W' : World} {o : Obj} (h : T10 w d cj so uP uB base jP jB FP FB W) (hd : d < w.heap.size) (hso : w.heap.size ≤ so) (hsb : so < base) (hown : W'.ownsRow base 2 1 u' (jP + 1) (il FP jP ++ [.int .i64 (FP jP)])) (hg : (W.alloc o).grownBy W' uP.ownBlock) (hat : u'.ownBlock = uP.ownBlock ∨ u'.ownBlock = some (W.alloc o).heap.size) : Y2 so uP uB W' ∧ T10 w d cj so u' uB base (jP + 1) jB FP FB (W'.setCell ⟨so, 0, none⟩ u') := by
  have hY := h.Y.grow hg (fun k' hk => (h.P.lt k' hk).1) hsb
  have hz := h.Z
  have hU := h.U.grow hd hg (fun k' hk => by have := (h.P.lt k' hk).1; omega)
  refine ⟨hY, un_far10 hU hd hso _, hY.set0 _, own_far10 (by rw [il_succ]; exact hown) _ _ hsb, own_far10 (own_beside h.B hg h.A.symm) _ _ hsb, (ap_grow h.B hat h.A.symm).symm, ?_⟩
  have := hg.size
  rw [World.size_alloc] at this
  rw [World.size_setCell]
  omega
theorem own_off10 {w : World} {B : Nat} {e : TypeId} {s : Nat} {v : Value} {n : Nat} {xs : List Value} (h : w.ownsRow B e s v n xs) (p : Addr) (u : Value) (hp : ∀ g, v.ownBlock = some g → g ≠ p.block) : (w.setCell p u).ownsRow B e s v n xs := by
  refine ⟨h.1, ?_⟩
  rcases h.2 with h0 | ⟨g, cap, cur, hv, hg, hh, r⟩
  · exact Or.inl h0
  · exact Or.inr ⟨g, cap, cur, hv, hg, (Below.heap_setCell _ _ _ _ (hp g (by rw [hv]; rfl))).trans hh, r⟩
theorem T10.far {w : World} {d : Nat} {cj : Int} {so : Nat} {uP uB : Value} {base jP jB : Nat} {FP FB : Nat → Int} {W : World} (h : T10 w d cj so uP uB base jP jB FP FB W) (hd : d < w.heap.size) (hw : w.heap.size ≤ base) (hdb : d < base) (hsb : so < base) (p : Addr) (u : Value) (hp : base ≤ p.block) (hP : ∀ g, uP.ownBlock = some g → g ≠ p.block) (hB : ∀ g, uB.ownBlock = some g → g ≠ p.block) : T10 w d cj so uP uB base jP jB FP FB (W.setCell p u) :=
  ⟨un_far10 h.U hd (by omega) u, h.Y.far p u (by omega), own_off10 h.P p u hP, own_off10 h.B p u hB, h.A, by rw [World.size_setCell]; exact h.Z⟩
/-- What the last region of a part reads. -/
structure F11 (b s0 : Nat) (x y : Nat → Int) (vP : Value) (bP oP : Nat) (p : Int) (w : World) : Prop where
  c0 : w.cell? ⟨b, 0, none⟩ = some (.int .u64 (x 0))
  c1 : w.cell? ⟨b, 1, none⟩ = some (.int .u64 (x 1))
  c2 : w.cell? ⟨b, 2, none⟩ = some (.int .u64 (x 2))
  c3 : w.cell? ⟨b, 3, none⟩ = some (.int .u64 (x 3))
  c4 : w.cell? ⟨b, 4, none⟩ = some (.int .u64 (x 4))
  c5 : w.cell? ⟨b, 5, none⟩ = some (.int .u64 (x 5))
  c6 : w.cell? ⟨b, 6, none⟩ = some (.int .u64 (y 0))
  c7 : w.cell? ⟨b, 7, none⟩ = some (.int .u64 (y 1))
  c8 : w.cell? ⟨b, 8, none⟩ = some (.int .u64 (y 2))
  c9 : w.cell? ⟨b, 9, none⟩ = some (.int .u64 (y 3))
  c10 : w.cell? ⟨b, 10, none⟩ = some (.int .u64 (y 4))
  c11 : w.cell? ⟨b, 11, none⟩ = some (.int .u64 (y 5))
  y0 : w.cell? ⟨s0, 0, none⟩ = some vP
  p0 : w.cell? ⟨bP, oP, none⟩ = some (.int .i64 p)
theorem F11.of {b s0 : Nat} {x y : Nat → Int} {vP : Value} {bP oP : Nat} {p : Int} {w : World} (h : B12 b x y w) (hy : w.cell? ⟨s0, 0, none⟩ = some vP) (hp : w.cell? ⟨bP, oP, none⟩ = some (.int .i64 p)) : F11 b s0 x y vP bP oP p w :=
  ⟨h.c 0 (by omega), h.c 1 (by omega), h.c 2 (by omega), h.c 3 (by omega), h.c 4 (by omega), h.c 5 (by omega), h.d 0 (by omega), h.d 1 (by omega), h.d 2 (by omega), h.d 3 (by omega), h.d 4 (by omega), h.d 5 (by omega), hy, hp⟩
theorem F11.later {b s0 : Nat} {x y : Nat → Int} {vP : Value} {bP oP : Nat} {p : Int} {w w' : World} (h : F11 b s0 x y vP bP oP p w) (hb : Below w.heap.size w w') : F11 b s0 x y vP bP oP p w' :=
  ⟨cell_later hb h.c0, cell_later hb h.c1, cell_later hb h.c2, cell_later hb h.c3, cell_later hb h.c4, cell_later hb h.c5, cell_later hb h.c6, cell_later hb h.c7, cell_later hb h.c8, cell_later hb h.c9, cell_later hb h.c10, cell_later hb h.c11, cell_later hb h.y0, cell_later hb h.p0⟩
theorem hidT {w : World} {d : Nat} {cj : Int} {so : Nat} {uP uB : Value} {base jP jB : Nat} {FP FB : Nat → Int} {W W' : World} (h : Hid (T10 w d cj so uP uB base jP jB FP FB W)) (hb : Below W.heap.size W W') : Hid (T10 w d cj so uP uB base jP jB FP FB W') := h.out.later hb
theorem cc3_later {w w' : World} {a b c : Addr} {x y z : Value} (h : w.cell? a = some x ∧ w.cell? b = some y ∧ w.cell? c = some z) (hb : Below w.heap.size w w') : w'.cell? a = some x ∧ w'.cell? b = some y ∧ w'.cell? c = some z := ⟨cell_later hb h.1, cell_later hb h.2.1, cell_later hb h.2.2⟩
theorem hidC3 {w w' : World} {a b c : Addr} {x y z : Value} (h : Hid (w.cell? a = some x ∧ w.cell? b = some y ∧ w.cell? c = some z)) (hb : Below w.heap.size w w') : Hid (w'.cell? a = some x ∧ w'.cell? b = some y ∧ w'.cell? c = some z) := cc3_later h.out hb
theorem dinfo_i64t : (Try.prog.info? 2).map (fun i => (i.zero, i.size, i.bytes)) = some (some (.int .i64 0), 1, 8) := by kernel_rfl
set_option maxRecDepth 100000 in
set_option maxHeartbeats 16000000 in
theorem refStep10 (r m : Int) (hr : ruO r m) (r1 : r ≤ 9223372036854775807) (vP vB vG : Value) (n : Nat) (P B G : Nat → Int) (hn : n ≤ 65536) (d : Nat) (c : Int) (c0 : 0 ≤ c) (c1 : c ≤ 100000000) (w : World) (hP : Ar w vP n P) (hB : Ar w vB n B) (hG : Ar w vG n G) (nP : Nb vP d) (nB : Nb vB d) (nG : Nb vG d) (hc : w.cell? ⟨d, 0, none⟩ = some (.int .i64 c)) (hf : w.frozen? ⟨d, 0, none⟩ = false) :
    Calls Try.prog 13 #[.pointer (some ⟨d, 0, none⟩), .int .i64 r, .int .i64 m, .agg #[vP, vB], vG] w fun e w' => ∃ (a1 a2 : Option Addr) (k1 k2 : Nat), e = .returned (.agg #[.slice a1 n k1, .slice a2 n k2]) ∧ Ar w' (.slice a1 n k1) n (fun i => oP r m (B i) (P i) (G i)) ∧ Ar w' (.slice a2 n k2) n (fun i => oB m (B i) (G i)) ∧ (Ow w.heap.size (.slice a1 n k1) ∧ Ow w.heap.size (.slice a2 n k2)) ∧ Un d (c + oS r m B P G n) w w' := by
  obtain ⟨i0, hti, hi0, hi1, hi2⟩ := info_parts dinfo_i64t
  obtain ⟨r0, m0, m1⟩ := hr
  have hdw : d < w.heap.size := World.block_lt_of_cell? _ _ hc
  obtain ⟨aP, kP, bP', oP', rfl, p1, p2, -, -⟩ := id hP
  obtain ⟨aB, kB, bB', oB', rfl, q1, q2, -, -⟩ := id hB
  obtain ⟨aG, kG, bG', oG', rfl, g1, g2, -, -⟩ := id hG
  unfold maxLen at p2 q2 g2
  obtain ⟨w0, hw0⟩ : ∃ w0, w0 = (w.alloc (.cells #[.slice aP n kP, .slice aB n kB] 45)).alloc (.cells #[.slice none 0 0, .slice none 0 0] 45) := ⟨_, rfl⟩
  have hb0 : Below w.heap.size w w0 := by rw [hw0]; exact bel2 _ _ _
  have hX1 : Y2 w.heap.size (.slice aP n kP) (.slice aB n kB) w0 := by rw [hw0]; exact (Y2.new w _ _ _).later (bel1 _ _)
  have hR1 : Y2 (w.heap.size + 1) (.slice none 0 0) (.slice none 0 0) w0 := by
    have h := Y2.new (w.alloc (.cells #[.slice aP n kP, .slice aB n kB] 45)) (.slice none 0 0) (.slice none 0 0) 45
    rw [World.size_alloc] at h
    rw [hw0]; exact h
  have hs0 : w0.heap.size = w.heap.size + 1 + 1 := by rw [hw0, World.size_alloc, World.size_alloc]
  obtain ⟨w1, hw1⟩ : ∃ w1, w1 = w0.alloc (.cells #[.slice none 0 0, .slice none 0 0] 45) := ⟨_, rfl⟩
  have hb1 : Below w0.heap.size w0 w1 := by rw [hw1]; exact bel1 _ _
  have hO1 : Y2 w0.heap.size (.slice none 0 0) (.slice none 0 0) w1 := by rw [hw1]; exact Y2.new _ _ _ _
  have hs1 : w1.heap.size = w0.heap.size + 1 := by rw [hw1, World.size_alloc]
  have hU0 : Un d c w w0 := (Un.same hc hf).ahead hb0
  obtain ⟨base, hbase⟩ : ∃ base, w1.heap.size = base := ⟨_, rfl⟩
  obtain ⟨so, hso⟩ : ∃ so, w.heap.size + 1 + 1 = so := ⟨_, rfl⟩
  have hsb : so < base := by omega
  have hsd : so ≠ d := by omega
  have hdb : d < base := by omega
  have hwd : w.heap.size ≠ d := by omega
  have hwr : w.heap.size + 1 ≠ d := by omega
  have hwb : w.heap.size + 1 < base := by omega
  have hd0 : d < w0.heap.size := by omega
  have hso0 : w0.heap.size ≤ so := by omega
  have hsz0 : w0.heap.size ≤ base := by omega
  have hwb2 : w.heap.size ≤ base := by omega
  rw [show w0.heap.size = so by omega] at hO1
  have HX : Hid (Y2 w.heap.size (.slice aP n kP) (.slice aB n kB) w0) := hX1
  have HR : Hid (Y2 (w.heap.size + 1) (.slice none 0 0) (.slice none 0 0) w0) := hR1
  have HA : Hid ((Ar w0 (.slice aP n kP) n P ∧ Ar w0 (.slice aB n kB) n B ∧ Ar w0 (.slice aG n kG) n G) ∧ Nb (.slice aP n kP) d ∧ Nb (.slice aB n kB) d ∧ Nb (.slice aG n kG) d) := ⟨⟨hP.later hb0, hB.later hb0, hG.later hb0⟩, nP, nB, nG⟩
  have HT1 : Hid (T10 w0 d (c + oS r m B P G 0) so (.slice none 0 0) (.slice none 0 0) base 0 0 (fun i => oP r m (B i) (P i) (G i)) (fun i => oB m (B i) (G i)) w1) := ⟨by show Un d (c + 0) w0 w1; rw [Int.add_zero]; exact (Un.same hU0.c hU0.f).ahead hb1, hO1, World.ownsRow_nil _ _ _ _, World.ownsRow_nil _ _ _ _, ap_nil _, by omega⟩
  have HU1 : Hid (Un d c w w0) := hU0
  have hww : w1 = ((w.alloc (.cells #[.slice aP n kP, .slice aB n kB] 45)).alloc (.cells #[.slice none 0 0, .slice none 0 0] 45)).alloc (.cells #[.slice none 0 0, .slice none 0 0] 45) := by rw [hw1, hw0]
  clear hP hB hG nP nB nG hc hf hb0 hb1 hX1 hR1 hO1 hU0 hs1 hs0 hbase hw0 hw1
  have hneu : Hid (w.heap.size + 1 + 1 = so) := hso
  go_enter Try.func13, Try.ntmps13
  go_upto_region 2 with fail
  rw [← hww]
  clear hww
  try simp only [hso]
  clear hso
  go_upto_region 3 with fail
  go_loopw [12] (fun si wr => ∃ (j : Nat) (uP uB : Value), j ≤ n ∧ si = .int .i64 (j : Int) ∧ Hid (T10 w0 d (c + oS r m B P G j) so uP uB base j j (fun i => oP r m (B i) (P i) (G i)) (fun i => oB m (B i) (G i)) wr)) (fun si _ => n - (intOf si).toNat)
  case atStart => exact ⟨0, _, _, by omega, rfl, HT1⟩
  case round =>
    obtain ⟨j, uP, uB, hj, rfl, HT⟩ := hrel
    by_cases hlt : j < n
    · have hjI : (j : Int) < (n : Int) := by omega
      obtain ⟨bP, oP1, cP1, eP, cP, rP⟩ := ar_spot10 HA.out.1.1 j hlt
      obtain ⟨bB, oB1, cB1, eB, cB, rB⟩ := ar_spot10 HA.out.1.2.1 j hlt
      obtain ⟨bG, oG1, cG1, eG, cG, rG⟩ := ar_spot10 HA.out.1.2.2 j hlt
      cases eP
      cases eB
      cases eG
      have neP : bP ≠ d := HA.out.2.1 _ _ _ rfl (by omega)
      have neB : bB ≠ d := HA.out.2.2.1 _ _ _ rfl (by omega)
      have neG : bG ≠ d := HA.out.2.2.2 _ _ _ rfl (by omega)
      have hsS := oS_rng r m B P G j
      have hcj0 : 0 ≤ c + oS r m B P G j ∧ c + oS r m B P G j ≤ 200000000 := by omega
      have HCn : Hid (c + oS r m B P G (j + 1) = c + oS r m B P G j + bi (ovv (obV m (B j) (G j))) + bi (ovv (odV m (B j) (G j))) + bi (ovv (opV r m (B j) (P j) (G j)))) := by
        show c + (oS r m B P G j + (bi (ovv (obV m (B j) (G j))) + bi (ovv (odV m (B j) (G j))) + bi (ovv (opV r m (B j) (P j) (G j))))) = _
        omega
      have HIx : Hid ((fun i => oP r m (B i) (P i) (G i)) j = oP r m (B j) (P j) (G j) ∧ (fun i => oB m (B i) (G i)) j = oB m (B j) (G j)) := ⟨rfl, rfl⟩
      have eD : rnd (m * B j + G j * 4294967296) 32 = obV m (B j) (G j) := rfl
      have eD2 : clv (obV m (B j) (G j)) = oB m (B j) (G j) := rfl
      have eE : rnd (m * oB m (B j) (G j) + G j * 4294967296) 32 = odV m (B j) (G j) := rfl
      have eE2 : clv (odV m (B j) (G j)) = oD m (B j) (G j) := rfl
      have eF : rnd (-(r * oD m (B j) (G j)) + P j * 4294967296) 32 = opV r m (B j) (P j) (G j) := by unfold opV; rw [show -(r * oD m (B j) (G j)) + P j * 4294967296 = P j * 4294967296 - r * oD m (B j) (G j) by omega]
      have eF2 : clv (opV r m (B j) (P j) (G j)) = oP r m (B j) (P j) (G j) := rfl
      have rX : -9223372036854775808 ≤ oB m (B j) (G j) ∧ oB m (B j) (G j) ≤ 9223372036854775807 := clv_rng _
      have rY : -9223372036854775808 ≤ oD m (B j) (G j) ∧ oD m (B j) (G j) ≤ 9223372036854775807 := clv_rng _
      have wX := bi_rng (ovv (obV m (B j) (G j)))
      have wY := bi_rng (ovv (odV m (B j) (G j)))
      have wZ := bi_rng (ovv (opV r m (B j) (P j) (G j)))
      generalize hFP : (fun i => oP r m (B i) (P i) (G i)) = FP at *
      generalize hFB : (fun i => oB m (B i) (G i)) = FB at *
      have HFF : Hid ((fun i => oP r m (B i) (P i) (G i)) = FP ∧ (fun i => oB m (B i) (G i)) = FB) := ⟨hFP, hFB⟩
      generalize hcj : c + oS r m B P G j = cj at *
      have Hcj : Hid (c + oS r m B P G j = cj) := hcj
      clear hFP hFB hcj
      generalize oP r m (B j) (P j) (G j) = xP at *
      generalize oB m (B j) (G j) = xB at *
      generalize oD m (B j) (G j) = xD at *
      generalize opV r m (B j) (P j) (G j) = vp at *
      generalize obV m (B j) (G j) = vb at *
      generalize odV m (B j) (G j) = vd at *
      generalize B j = b0 at *
      generalize P j = p0 at *
      generalize G j = g0 at *
      have CM1 : Hid (∀ W : World, Calls Try.prog 24 #[.agg #[.int .u64 0, .int .u64 0, .int .u64 0, .int .u64 0, .int .u64 0, .int .u64 0, .int .u64 0, .int .u64 0, .int .u64 0, .int .u64 0, .int .u64 0, .int .u64 0], .int .i64 m, .int .i64 b0] W fun e w' => ∃ p' q', e = .returned (.agg #[.int .u64 (dg (p') 0), .int .u64 (dg (p') 1), .int .u64 (dg (p') 2), .int .u64 (dg (p') 3), .int .u64 (dg (p') 4), .int .u64 (dg (p') 5), .int .u64 (dg (q') 0), .int .u64 (dg (q') 1), .int .u64 (dg (q') 2), .int .u64 (dg (q') 3), .int .u64 (dg (q') 4), .int .u64 (dg (q') 5)]) ∧ Sm p' q' (m * b0) 85070591730234615865843651857942052864 ∧ Below W.heap.size W w') := fun W => smul_zero m b0 (by omega) (by omega) rB.1 rB.2 W
      have CM2 : Hid (∀ W : World, Calls Try.prog 24 #[.agg #[.int .u64 0, .int .u64 0, .int .u64 0, .int .u64 0, .int .u64 0, .int .u64 0, .int .u64 0, .int .u64 0, .int .u64 0, .int .u64 0, .int .u64 0, .int .u64 0], .int .i64 m, .int .i64 xB] W fun e w' => ∃ p' q', e = .returned (.agg #[.int .u64 (dg (p') 0), .int .u64 (dg (p') 1), .int .u64 (dg (p') 2), .int .u64 (dg (p') 3), .int .u64 (dg (p') 4), .int .u64 (dg (p') 5), .int .u64 (dg (q') 0), .int .u64 (dg (q') 1), .int .u64 (dg (q') 2), .int .u64 (dg (q') 3), .int .u64 (dg (q') 4), .int .u64 (dg (q') 5)]) ∧ Sm p' q' (m * xB) 85070591730234615865843651857942052864 ∧ Below W.heap.size W w') := fun W => smul_zero m xB (by omega) (by omega) rX.1 rX.2 W
      have CM3 : Hid (∀ W : World, Calls Try.prog 24 #[.agg #[.int .u64 0, .int .u64 0, .int .u64 0, .int .u64 0, .int .u64 0, .int .u64 0, .int .u64 0, .int .u64 0, .int .u64 0, .int .u64 0, .int .u64 0, .int .u64 0], .int .i64 r, .int .i64 xD] W fun e w' => ∃ p' q', e = .returned (.agg #[.int .u64 (dg (p') 0), .int .u64 (dg (p') 1), .int .u64 (dg (p') 2), .int .u64 (dg (p') 3), .int .u64 (dg (p') 4), .int .u64 (dg (p') 5), .int .u64 (dg (q') 0), .int .u64 (dg (q') 1), .int .u64 (dg (q') 2), .int .u64 (dg (q') 3), .int .u64 (dg (q') 4), .int .u64 (dg (q') 5)]) ∧ Sm p' q' (r * xD) 85070591730234615865843651857942052864 ∧ Below W.heap.size W w') := fun W => smul_zero r xD (by omega) (by omega) rY.1 rY.2 W
      have CA : Hid (∀ (V a : Int), -9223372036854775808 ≤ a → a ≤ 9223372036854775807 → ∀ (p q : Int) (W : World), Sm p q V 85070591730234615865843651857942052864 → Calls Try.prog 25 #[.agg #[.int .u64 (dg (p) 0), .int .u64 (dg (p) 1), .int .u64 (dg (p) 2), .int .u64 (dg (p) 3), .int .u64 (dg (p) 4), .int .u64 (dg (p) 5), .int .u64 (dg (q) 0), .int .u64 (dg (q) 1), .int .u64 (dg (q) 2), .int .u64 (dg (q) 3), .int .u64 (dg (q) 4), .int .u64 (dg (q) 5)], .int .i64 a, .int .i64 1] W fun e w' => ∃ p' q', e = .returned (.agg #[.int .u64 (dg (p') 0), .int .u64 (dg (p') 1), .int .u64 (dg (p') 2), .int .u64 (dg (p') 3), .int .u64 (dg (p') 4), .int .u64 (dg (p') 5), .int .u64 (dg (q') 0), .int .u64 (dg (q') 1), .int .u64 (dg (q') 2), .int .u64 (dg (q') 3), .int .u64 (dg (q') 4), .int .u64 (dg (q') 5)]) ∧ Sm p' q' (V + a * 4294967296) 85070591769848697122975820654714028032 ∧ Below W.heap.size W w') := by
        intro V a ha0 ha1 p q W hS
        have h := sadd_any p q _ _ a 1 (by omega) hS ha0 ha1 W
        rw [show (2 : Int) ^ (32 * 1) = 4294967296 by decide, show (85070591730234615865843651857942052864 + 9223372036854775808 * 4294967296 : Int) = 85070591769848697122975820654714028032 by decide] at h
        exact h
      have CR : Hid (∀ (V : Int) (x : Int) (o : Bool), clv (rnd V 32) = x → ovv (rnd V 32) = o → ∀ (p q : Int) (W : World), Sm p q V 85070591769848697122975820654714028032 → Calls Try.prog 26 #[.agg #[.int .u64 (dg (p) 0), .int .u64 (dg (p) 1), .int .u64 (dg (p) 2), .int .u64 (dg (p) 3), .int .u64 (dg (p) 4), .int .u64 (dg (p) 5), .int .u64 (dg (q) 0), .int .u64 (dg (q) 1), .int .u64 (dg (q) 2), .int .u64 (dg (q) 3), .int .u64 (dg (q) 4), .int .u64 (dg (q) 5)], .int .i64 32] W fun e w' => e = .returned (.tuple #[.int .i64 x, .bool o]) ∧ Below W.heap.size W w') := by
        intro V x o hx ho p q W hS
        have h := sround_of p q _ _ 32 (by omega) hS (by omega) W
        rw [rr_ten, hx, ho] at h
        exact h
      have CA1 : Hid (∀ (p q : Int) (W : World), Sm p q (m * b0) 85070591730234615865843651857942052864 → Calls Try.prog 25 #[.agg #[.int .u64 (dg (p) 0), .int .u64 (dg (p) 1), .int .u64 (dg (p) 2), .int .u64 (dg (p) 3), .int .u64 (dg (p) 4), .int .u64 (dg (p) 5), .int .u64 (dg (q) 0), .int .u64 (dg (q) 1), .int .u64 (dg (q) 2), .int .u64 (dg (q) 3), .int .u64 (dg (q) 4), .int .u64 (dg (q) 5)], .int .i64 g0, .int .i64 1] W fun e w' => ∃ p' q', e = .returned (.agg #[.int .u64 (dg (p') 0), .int .u64 (dg (p') 1), .int .u64 (dg (p') 2), .int .u64 (dg (p') 3), .int .u64 (dg (p') 4), .int .u64 (dg (p') 5), .int .u64 (dg (q') 0), .int .u64 (dg (q') 1), .int .u64 (dg (q') 2), .int .u64 (dg (q') 3), .int .u64 (dg (q') 4), .int .u64 (dg (q') 5)]) ∧ Sm p' q' (m * b0 + g0 * 4294967296) 85070591769848697122975820654714028032 ∧ Below W.heap.size W w') := CA.out (m * b0) g0 rG.1 rG.2
      have CR1 : Hid (∀ (p q : Int) (W : World), Sm p q (m * b0 + g0 * 4294967296) 85070591769848697122975820654714028032 → Calls Try.prog 26 #[.agg #[.int .u64 (dg (p) 0), .int .u64 (dg (p) 1), .int .u64 (dg (p) 2), .int .u64 (dg (p) 3), .int .u64 (dg (p) 4), .int .u64 (dg (p) 5), .int .u64 (dg (q) 0), .int .u64 (dg (q) 1), .int .u64 (dg (q) 2), .int .u64 (dg (q) 3), .int .u64 (dg (q) 4), .int .u64 (dg (q) 5)], .int .i64 32] W fun e w' => e = .returned (.tuple #[.int .i64 xB, .bool (ovv vb)]) ∧ Below W.heap.size W w') := CR.out _ xB (ovv vb) (by rw [eD, eD2]) (by rw [eD])
      have CA2 : Hid (∀ (p q : Int) (W : World), Sm p q (m * xB) 85070591730234615865843651857942052864 → Calls Try.prog 25 #[.agg #[.int .u64 (dg (p) 0), .int .u64 (dg (p) 1), .int .u64 (dg (p) 2), .int .u64 (dg (p) 3), .int .u64 (dg (p) 4), .int .u64 (dg (p) 5), .int .u64 (dg (q) 0), .int .u64 (dg (q) 1), .int .u64 (dg (q) 2), .int .u64 (dg (q) 3), .int .u64 (dg (q) 4), .int .u64 (dg (q) 5)], .int .i64 g0, .int .i64 1] W fun e w' => ∃ p' q', e = .returned (.agg #[.int .u64 (dg (p') 0), .int .u64 (dg (p') 1), .int .u64 (dg (p') 2), .int .u64 (dg (p') 3), .int .u64 (dg (p') 4), .int .u64 (dg (p') 5), .int .u64 (dg (q') 0), .int .u64 (dg (q') 1), .int .u64 (dg (q') 2), .int .u64 (dg (q') 3), .int .u64 (dg (q') 4), .int .u64 (dg (q') 5)]) ∧ Sm p' q' (m * xB + g0 * 4294967296) 85070591769848697122975820654714028032 ∧ Below W.heap.size W w') := CA.out (m * xB) g0 rG.1 rG.2
      have CR2 : Hid (∀ (p q : Int) (W : World), Sm p q (m * xB + g0 * 4294967296) 85070591769848697122975820654714028032 → Calls Try.prog 26 #[.agg #[.int .u64 (dg (p) 0), .int .u64 (dg (p) 1), .int .u64 (dg (p) 2), .int .u64 (dg (p) 3), .int .u64 (dg (p) 4), .int .u64 (dg (p) 5), .int .u64 (dg (q) 0), .int .u64 (dg (q) 1), .int .u64 (dg (q) 2), .int .u64 (dg (q) 3), .int .u64 (dg (q) 4), .int .u64 (dg (q) 5)], .int .i64 32] W fun e w' => e = .returned (.tuple #[.int .i64 xD, .bool (ovv vd)]) ∧ Below W.heap.size W w') := CR.out _ xD (ovv vd) (by rw [eE, eE2]) (by rw [eE])
      have CA3 : Hid (∀ (p q : Int) (W : World), Sm p q (-(r * xD)) 85070591730234615865843651857942052864 → Calls Try.prog 25 #[.agg #[.int .u64 (dg (p) 0), .int .u64 (dg (p) 1), .int .u64 (dg (p) 2), .int .u64 (dg (p) 3), .int .u64 (dg (p) 4), .int .u64 (dg (p) 5), .int .u64 (dg (q) 0), .int .u64 (dg (q) 1), .int .u64 (dg (q) 2), .int .u64 (dg (q) 3), .int .u64 (dg (q) 4), .int .u64 (dg (q) 5)], .int .i64 p0, .int .i64 1] W fun e w' => ∃ p' q', e = .returned (.agg #[.int .u64 (dg (p') 0), .int .u64 (dg (p') 1), .int .u64 (dg (p') 2), .int .u64 (dg (p') 3), .int .u64 (dg (p') 4), .int .u64 (dg (p') 5), .int .u64 (dg (q') 0), .int .u64 (dg (q') 1), .int .u64 (dg (q') 2), .int .u64 (dg (q') 3), .int .u64 (dg (q') 4), .int .u64 (dg (q') 5)]) ∧ Sm p' q' (-(r * xD) + p0 * 4294967296) 85070591769848697122975820654714028032 ∧ Below W.heap.size W w') := CA.out (-(r * xD)) p0 rP.1 rP.2
      have CR3 : Hid (∀ (p q : Int) (W : World), Sm p q (-(r * xD) + p0 * 4294967296) 85070591769848697122975820654714028032 → Calls Try.prog 26 #[.agg #[.int .u64 (dg (p) 0), .int .u64 (dg (p) 1), .int .u64 (dg (p) 2), .int .u64 (dg (p) 3), .int .u64 (dg (p) 4), .int .u64 (dg (p) 5), .int .u64 (dg (q) 0), .int .u64 (dg (q) 1), .int .u64 (dg (q) 2), .int .u64 (dg (q) 3), .int .u64 (dg (q) 4), .int .u64 (dg (q) 5)], .int .i64 32] W fun e w' => e = .returned (.tuple #[.int .i64 xP, .bool (ovv vp)]) ∧ Below W.heap.size W w') := CR.out _ xP (ovv vp) (by rw [eF, eF2]) (by rw [eF])
      generalize ovv vb = zB at *
      generalize ovv vd = zD at *
      generalize ovv vp = zP at *
      clear eD eD2 eE eE2 eF eF2 CA CR
      have HF0 : Hid (wr.cell? ⟨w.heap.size, 0, none⟩ = some (.slice (some ⟨bP, oP1, none⟩) n kP) ∧ wr.cell? ⟨w.heap.size, 1, none⟩ = some (.slice (some ⟨bB, oB1, none⟩) n kB) ∧ wr.cell? ⟨bP, oP1 + j, none⟩ = some (.int .i64 p0) ∧ wr.cell? ⟨bB, oB1 + j, none⟩ = some (.int .i64 b0) ∧ wr.cell? ⟨bG, oG1 + j, none⟩ = some (.int .i64 g0)) := ⟨HT.out.U.o _ _ hwd HX.out.c0, HT.out.U.o _ _ hwd HX.out.c1, HT.out.U.o _ _ neP cP, HT.out.U.o _ _ neB cB, HT.out.U.o _ _ neG cG⟩
      have HNe : Hid (bP ≠ d ∧ bG ≠ d ∧ w.heap.size ≠ d) := ⟨neP, neG, hwd⟩
      clear cP cB cG neP neB neG rB rP rG rX rY hsS
      go_upto_region 5 with fail
      have hbD : Below wr.heap.size wr wr.drew := (Below.refl _ _).drew
      have CC : wr.drew.cell? ⟨w.heap.size, 1, none⟩ = some (.slice (some ⟨bB, oB1, none⟩) n kB) ∧ wr.drew.cell? ⟨bB, oB1 + j, none⟩ = some (.int .i64 b0) ∧ wr.drew.cell? ⟨bG, oG1 + j, none⟩ = some (.int .i64 g0) := ⟨HF0.out.2.1, HF0.out.2.2.2.1, HF0.out.2.2.2.2⟩
      have HD : Hid (T10 w0 d cj so uP uB base j j FP FB wr.drew) := HT.out.later hbD
      have HP0 : Hid (wr.drew.cell? ⟨w.heap.size, 0, none⟩ = some (.slice (some ⟨bP, oP1, none⟩) n kP) ∧ wr.drew.cell? ⟨bP, oP1 + j, none⟩ = some (.int .i64 p0) ∧ wr.drew.cell? ⟨bG, oG1 + j, none⟩ = some (.int .i64 g0)) := ⟨HF0.out.1, HF0.out.2.2.1, HF0.out.2.2.2.2⟩
      clear hbD HT HF0
      go_region_held3 (fun w' => w'.cell? ⟨w.heap.size, 1, none⟩ = some (.slice (some ⟨bB, oB1, none⟩) n kB) ∧ w'.cell? ⟨bB, oB1 + j, none⟩ = some (.int .i64 b0) ∧ w'.cell? ⟨bG, oG1 + j, none⟩ = some (.int .i64 g0)) (exact CC) (first
        | (go_at_call 24; refine (CM1.out _).mono ?_; rintro e wz ⟨pa, qa, rfl, hS1, hb⟩; replace CC := cc3_later CC hb; replace HP0 := hidC3 HP0 hb; replace HD := hidT HD hb; have HS1 : Hid (Sm pa qa (m * b0) 85070591730234615865843651857942052864) := hS1; clear hb hS1)
        | (go_at_call 25; refine (CA1.out _ _ _ HS1.out).mono ?_; rintro e wz ⟨pb, qb, rfl, hS2, hb⟩; replace CC := cc3_later CC hb; replace HP0 := hidC3 HP0 hb; replace HD := hidT HD hb; have HS2 : Hid (Sm pb qb (m * b0 + g0 * 4294967296) 85070591769848697122975820654714028032) := hS2; clear hb hS2)
        | (go_at_call 26; refine (CR1.out _ _ _ HS2.out).mono ?_; rintro e wz ⟨rfl, hb⟩; replace CC := cc3_later CC hb; replace HP0 := hidC3 HP0 hb; replace HD := hidT HD hb; clear hb))
      clear CC CM1 CA1 CR1
      have ct := HD.out.U.c
      have ft := HD.out.U.f
      go_wp2_with fail
      refine (utake_any d cj xB zB (by omega) (by omega) _ ct ft).mono ?_
      rintro e wt ⟨rfl, hU2⟩
      have HT2 : Hid (T10 w0 d (cj + bi zB) so uP uB base j j FP FB wt) := HD.out.un hU2 hdb hsd
      have HP2 : Hid (wt.cell? ⟨w.heap.size, 0, none⟩ = some (.slice (some ⟨bP, oP1, none⟩) n kP) ∧ wt.cell? ⟨bP, oP1 + j, none⟩ = some (.int .i64 p0) ∧ wt.cell? ⟨bG, oG1 + j, none⟩ = some (.int .i64 g0)) := ⟨hU2.o _ _ hwd HP0.out.1, hU2.o _ _ HNe.out.1 HP0.out.2.1, hU2.o _ _ HNe.out.2.1 HP0.out.2.2⟩
      clear ct ft hU2 HD HP0
      go_upto_region 7 with fail
      have hbD : Below wt.heap.size wt wt.drew := (Below.refl _ _).drew
      have CC : wt.drew.cell? ⟨bG, oG1 + j, none⟩ = some (.int .i64 g0) := HP2.out.2.2
      have HD : Hid (T10 w0 d (cj + bi zB) so uP uB base j j FP FB wt.drew) := HT2.out.later hbD
      have HP0 : Hid (wt.drew.cell? ⟨w.heap.size, 0, none⟩ = some (.slice (some ⟨bP, oP1, none⟩) n kP) ∧ wt.drew.cell? ⟨bP, oP1 + j, none⟩ = some (.int .i64 p0) ∧ wt.drew.cell? ⟨bG, oG1 + j, none⟩ = some (.int .i64 g0)) := HP2.out
      clear hbD HT2 HP2
      go_region_held3 (fun w' => w'.cell? ⟨bG, oG1 + j, none⟩ = some (.int .i64 g0)) (exact CC) (first
        | (go_at_call 24; refine (CM2.out _).mono ?_; rintro e wz ⟨pc, qc, rfl, hS1, hb⟩; replace CC := cell_later hb CC; replace HP0 := hidC3 HP0 hb; replace HD := hidT HD hb; have HS3 : Hid (Sm pc qc (m * xB) 85070591730234615865843651857942052864) := hS1; clear hb hS1)
        | (go_at_call 25; refine (CA2.out _ _ _ HS3.out).mono ?_; rintro e wz ⟨pd, qd, rfl, hS2, hb⟩; replace CC := cell_later hb CC; replace HP0 := hidC3 HP0 hb; replace HD := hidT HD hb; have HS4 : Hid (Sm pd qd (m * xB + g0 * 4294967296) 85070591769848697122975820654714028032) := hS2; clear hb hS2)
        | (go_at_call 26; refine (CR2.out _ _ _ HS4.out).mono ?_; rintro e wz ⟨rfl, hb⟩; replace CC := cell_later hb CC; replace HP0 := hidC3 HP0 hb; replace HD := hidT HD hb; clear hb))
      clear CC CM2 CA2 CR2
      have ct := HD.out.U.c
      have ft := HD.out.U.f
      go_wp2_with fail
      refine (utake_any d (cj + bi zB) xD zD (by omega) (by omega) _ ct ft).mono ?_
      rintro e wu ⟨rfl, hU2⟩
      have HT3 : Hid (T10 w0 d (cj + bi zB + bi zD) so uP uB base j j FP FB wu) := HD.out.un hU2 hdb hsd
      have HP3 : Hid (wu.cell? ⟨w.heap.size, 0, none⟩ = some (.slice (some ⟨bP, oP1, none⟩) n kP) ∧ wu.cell? ⟨bP, oP1 + j, none⟩ = some (.int .i64 p0)) := ⟨hU2.o _ _ hwd HP0.out.1, hU2.o _ _ HNe.out.1 HP0.out.2.1⟩
      clear ct ft hU2 HD HP0
      go_wp2_with fail
      refine (CM3.out _).mono ?_
      rintro e wv ⟨pe, qe, rfl, hS, hb⟩
      have HS5 : Hid (Sm qe pe (-(r * xD)) 85070591730234615865843651857942052864) := hS.turn
      have HT4 : Hid (T10 w0 d (cj + bi zB + bi zD) so uP uB base j j FP FB wv) := HT3.out.later hb
      have HP4 : Hid (wv.cell? ⟨w.heap.size, 0, none⟩ = some (.slice (some ⟨bP, oP1, none⟩) n kP) ∧ wv.cell? ⟨bP, oP1 + j, none⟩ = some (.int .i64 p0)) := cc_later HP3.out hb
      clear hS hb CM3 HT3 HP3
      go_upto_region 10 with fail
      obtain ⟨wx, hwx⟩ : ∃ wx, wx = wv.alloc (.cells #[.int .u64 (dg (pe) 0), .int .u64 (dg (pe) 1), .int .u64 (dg (pe) 2), .int .u64 (dg (pe) 3), .int .u64 (dg (pe) 4), .int .u64 (dg (pe) 5), .int .u64 (dg (qe) 0), .int .u64 (dg (qe) 1), .int .u64 (dg (qe) 2), .int .u64 (dg (qe) 3), .int .u64 (dg (qe) 4), .int .u64 (dg (qe) 5)] 68) := ⟨_, rfl⟩
      have hB12 : B12 wv.heap.size (dg pe) (dg qe) wx := by rw [hwx]; exact B12.new wv (dg pe) (dg qe) 68
      have hbx : Below wv.heap.size wv wx := by rw [hwx]; exact bel1 _ _
      rw [← hwx]
      clear hwx
      have HT5 : Hid (T10 w0 d (cj + bi zB + bi zD) so uP uB base j j FP FB wx) := HT4.out.later hbx
      have HP5 : Hid (wx.cell? ⟨w.heap.size, 0, none⟩ = some (.slice (some ⟨bP, oP1, none⟩) n kP) ∧ wx.cell? ⟨bP, oP1 + j, none⟩ = some (.int .i64 p0)) := cc_later HP4.out hbx
      have HLt : Hid (w.heap.size < wv.heap.size ∧ bP < wv.heap.size ∧ base ≤ wv.heap.size) := ⟨World.block_lt_of_cell? _ _ HP4.out.1, World.block_lt_of_cell? _ _ HP4.out.2, HT4.out.Z⟩
      have HAp : Hid (base ≤ wv.heap.size ∧ (∀ g, uP.ownBlock = some g → g ≠ wv.heap.size) ∧ ∀ g, uB.ownBlock = some g → g ≠ wv.heap.size) := ⟨HT4.out.Z, fun g hg => by have := (HT4.out.P.lt g hg).2; omega, fun g hg => by have := (HT4.out.B.lt g hg).2; omega⟩
      generalize wv.heap.size = bs at *
      have x0 : wx.cell? ⟨bs, 0, none⟩ = some (.int .u64 (dg pe 0)) := hB12.c 0 (by omega)
      have x1 : wx.cell? ⟨bs, 1, none⟩ = some (.int .u64 (dg pe 1)) := hB12.c 1 (by omega)
      have x2 : wx.cell? ⟨bs, 2, none⟩ = some (.int .u64 (dg pe 2)) := hB12.c 2 (by omega)
      have x3 : wx.cell? ⟨bs, 3, none⟩ = some (.int .u64 (dg pe 3)) := hB12.c 3 (by omega)
      have x4 : wx.cell? ⟨bs, 4, none⟩ = some (.int .u64 (dg pe 4)) := hB12.c 4 (by omega)
      have x5 : wx.cell? ⟨bs, 5, none⟩ = some (.int .u64 (dg pe 5)) := hB12.c 5 (by omega)
      have x6 : wx.cell? ⟨bs, 6, none⟩ = some (.int .u64 (dg qe 0)) := hB12.d 0 (by omega)
      have x7 : wx.cell? ⟨bs, 7, none⟩ = some (.int .u64 (dg qe 1)) := hB12.d 1 (by omega)
      have x8 : wx.cell? ⟨bs, 8, none⟩ = some (.int .u64 (dg qe 2)) := hB12.d 2 (by omega)
      have x9 : wx.cell? ⟨bs, 9, none⟩ = some (.int .u64 (dg qe 3)) := hB12.d 3 (by omega)
      have x10 : wx.cell? ⟨bs, 10, none⟩ = some (.int .u64 (dg qe 4)) := hB12.d 4 (by omega)
      have x11 : wx.cell? ⟨bs, 11, none⟩ = some (.int .u64 (dg qe 5)) := hB12.d 5 (by omega)
      have xf0 : wx.frozen? ⟨bs, 0, none⟩ = false := hB12.f 0 (by omega)
      have xf1 : wx.frozen? ⟨bs, 1, none⟩ = false := hB12.f 1 (by omega)
      have xf2 : wx.frozen? ⟨bs, 2, none⟩ = false := hB12.f 2 (by omega)
      have xf3 : wx.frozen? ⟨bs, 3, none⟩ = false := hB12.f 3 (by omega)
      have xf4 : wx.frozen? ⟨bs, 4, none⟩ = false := hB12.f 4 (by omega)
      have xf5 : wx.frozen? ⟨bs, 5, none⟩ = false := hB12.f 5 (by omega)
      have xf6 : wx.frozen? ⟨bs, 6, none⟩ = false := hB12.g 0 (by omega)
      have xf7 : wx.frozen? ⟨bs, 7, none⟩ = false := hB12.g 1 (by omega)
      have xf8 : wx.frozen? ⟨bs, 8, none⟩ = false := hB12.g 2 (by omega)
      have xf9 : wx.frozen? ⟨bs, 9, none⟩ = false := hB12.g 3 (by omega)
      have xf10 : wx.frozen? ⟨bs, 10, none⟩ = false := hB12.g 4 (by omega)
      have xf11 : wx.frozen? ⟨bs, 11, none⟩ = false := hB12.g 5 (by omega)
      have HB12 : Hid (B12 bs (dg pe) (dg qe) wx) := hB12
      clear hB12 hbx HT4 HP4
      go_upto_region 11 with fail
      obtain ⟨wy, hwy⟩ : ∃ wy, wy = ((((((((((((wx.setCell ⟨bs, 0, none⟩ (.int .u64 (dg qe 0))).setCell ⟨bs, 1, none⟩ (.int .u64 (dg qe 1))).setCell ⟨bs, 2, none⟩ (.int .u64 (dg qe 2))).setCell ⟨bs, 3, none⟩ (.int .u64 (dg qe 3))).setCell ⟨bs, 4, none⟩ (.int .u64 (dg qe 4))).setCell ⟨bs, 5, none⟩ (.int .u64 (dg qe 5))).setCell ⟨bs, 6, none⟩ (.int .u64 (dg pe 0))).setCell ⟨bs, 7, none⟩ (.int .u64 (dg pe 1))).setCell ⟨bs, 8, none⟩ (.int .u64 (dg pe 2))).setCell ⟨bs, 9, none⟩ (.int .u64 (dg pe 3))).setCell ⟨bs, 10, none⟩ (.int .u64 (dg pe 4))).setCell ⟨bs, 11, none⟩ (.int .u64 (dg pe 5))) := ⟨_, rfl⟩
      have hB12 : B12 bs (dg qe) (dg pe) wy := by rw [hwy]; exact (HB12.out.allP (dg qe)).allN (dg pe)
      have HT6 : Hid (T10 w0 d (cj + bi zB + bi zD) so uP uB base j j FP FB wy) := by rw [hwy]; exact ((((((((((((HT5.out.far hd0 hsz0 hdb hsb ⟨bs, 0, none⟩ (.int .u64 (dg qe 0)) HAp.out.1 HAp.out.2.1 HAp.out.2.2).far hd0 hsz0 hdb hsb ⟨bs, 1, none⟩ (.int .u64 (dg qe 1)) HAp.out.1 HAp.out.2.1 HAp.out.2.2).far hd0 hsz0 hdb hsb ⟨bs, 2, none⟩ (.int .u64 (dg qe 2)) HAp.out.1 HAp.out.2.1 HAp.out.2.2).far hd0 hsz0 hdb hsb ⟨bs, 3, none⟩ (.int .u64 (dg qe 3)) HAp.out.1 HAp.out.2.1 HAp.out.2.2).far hd0 hsz0 hdb hsb ⟨bs, 4, none⟩ (.int .u64 (dg qe 4)) HAp.out.1 HAp.out.2.1 HAp.out.2.2).far hd0 hsz0 hdb hsb ⟨bs, 5, none⟩ (.int .u64 (dg qe 5)) HAp.out.1 HAp.out.2.1 HAp.out.2.2).far hd0 hsz0 hdb hsb ⟨bs, 6, none⟩ (.int .u64 (dg pe 0)) HAp.out.1 HAp.out.2.1 HAp.out.2.2).far hd0 hsz0 hdb hsb ⟨bs, 7, none⟩ (.int .u64 (dg pe 1)) HAp.out.1 HAp.out.2.1 HAp.out.2.2).far hd0 hsz0 hdb hsb ⟨bs, 8, none⟩ (.int .u64 (dg pe 2)) HAp.out.1 HAp.out.2.1 HAp.out.2.2).far hd0 hsz0 hdb hsb ⟨bs, 9, none⟩ (.int .u64 (dg pe 3)) HAp.out.1 HAp.out.2.1 HAp.out.2.2).far hd0 hsz0 hdb hsb ⟨bs, 10, none⟩ (.int .u64 (dg pe 4)) HAp.out.1 HAp.out.2.1 HAp.out.2.2).far hd0 hsz0 hdb hsb ⟨bs, 11, none⟩ (.int .u64 (dg pe 5)) HAp.out.1 HAp.out.2.1 HAp.out.2.2)
      have HP6 : wy.cell? ⟨w.heap.size, 0, none⟩ = some (.slice (some ⟨bP, oP1, none⟩) n kP) ∧ wy.cell? ⟨bP, oP1 + j, none⟩ = some (.int .i64 p0) := by
        have h1 := HLt.out
        rw [hwy]
        exact ⟨cell_set (by dsimp only; omega) (cell_set (by dsimp only; omega) (cell_set (by dsimp only; omega) (cell_set (by dsimp only; omega) (cell_set (by dsimp only; omega) (cell_set (by dsimp only; omega) (cell_set (by dsimp only; omega) (cell_set (by dsimp only; omega) (cell_set (by dsimp only; omega) (cell_set (by dsimp only; omega) (cell_set (by dsimp only; omega) (cell_set (by dsimp only; omega) (HP5.out.1)))))))))))), cell_set (by dsimp only; omega) (cell_set (by dsimp only; omega) (cell_set (by dsimp only; omega) (cell_set (by dsimp only; omega) (cell_set (by dsimp only; omega) (cell_set (by dsimp only; omega) (cell_set (by dsimp only; omega) (cell_set (by dsimp only; omega) (cell_set (by dsimp only; omega) (cell_set (by dsimp only; omega) (cell_set (by dsimp only; omega) (cell_set (by dsimp only; omega) (HP5.out.2))))))))))))⟩
      rw [← hwy]
      clear hwy x0 x1 x2 x3 x4 x5 x6 x7 x8 x9 x10 x11 xf0 xf1 xf2 xf3 xf4 xf5 xf6 xf7 xf8 xf9 xf10 xf11 HB12
      have hF := F11.of hB12 HP6.1 HP6.2
      clear hB12 HP6 HT5 HP5 HLt HAp
      have hbD : Below wy.heap.size wy wy.drew := (Below.refl _ _).drew
      have HD : Hid (T10 w0 d (cj + bi zB + bi zD) so uP uB base j j FP FB wy.drew) := HT6.out.later hbD
      refine wp_region_held_drew (S := F11 bs w.heap.size (dg qe) (dg pe) (.slice (some ⟨bP, oP1, none⟩) n kP) bP (oP1 + j) p0) (by kernel_rfl) (hF.later hbD) (fun HS => ?_)
      clear hbD HT6 hF
      generalize wy.drew = wz at *
      refine wpAnyH_take (i := 0) (v := ?v1) rfl (by kernel_rfl) (by kernel_rfl) (by kernel_rfl) (fun _ _ _ h => h) (Or.inl ⟨by kernel_rfl, ?h1⟩) HS ?r1
      case h1 => (rintro w ⟨x0, x1, x2, x3, x4, x5, x6, x7, x8, x9, x10, x11, y0, pp⟩; go_simp) <;> with_reducible rfl
      try simp only [Act.put, List.getElem_toArray, List.getElem_cons_succ, List.getElem_cons_zero, List.setIfInBounds_toArray, List.set_cons_zero, List.set_cons_succ]
      refine wpAnyH_take (i := 1) (v := ?v2) rfl (by kernel_rfl) (by kernel_rfl) (by kernel_rfl) (fun _ _ _ h => h) (Or.inl ⟨by kernel_rfl, ?h2⟩) HS ?r2
      case h2 => (rintro w ⟨x0, x1, x2, x3, x4, x5, x6, x7, x8, x9, x10, x11, y0, pp⟩; go_simp) <;> with_reducible rfl
      try simp only [Act.put, List.getElem_toArray, List.getElem_cons_succ, List.getElem_cons_zero, List.setIfInBounds_toArray, List.set_cons_zero, List.set_cons_succ]
      refine wpAnyH_take (i := 2) (v := ?v3) rfl (by kernel_rfl) (by kernel_rfl) (by kernel_rfl) (fun _ _ _ h => h) (Or.inl ⟨by kernel_rfl, ?h3⟩) HS ?r3
      case h3 => (rintro w ⟨x0, x1, x2, x3, x4, x5, x6, x7, x8, x9, x10, x11, y0, pp⟩; go_simp) <;> with_reducible rfl
      try simp only [Act.put, List.getElem_toArray, List.getElem_cons_succ, List.getElem_cons_zero, List.setIfInBounds_toArray, List.set_cons_zero, List.set_cons_succ]
      refine wpAnyH_take (i := 3) (v := ?v4) rfl (by kernel_rfl) (by kernel_rfl) (by kernel_rfl) (fun _ _ _ h => h) (Or.inl ⟨by kernel_rfl, ?h4⟩) HS ?r4
      case h4 => (rintro w ⟨x0, x1, x2, x3, x4, x5, x6, x7, x8, x9, x10, x11, y0, pp⟩; go_simp) <;> with_reducible rfl
      try simp only [Act.put, List.getElem_toArray, List.getElem_cons_succ, List.getElem_cons_zero, List.setIfInBounds_toArray, List.set_cons_zero, List.set_cons_succ]
      refine wpAnyH_take (i := 4) (v := ?v5) rfl (by kernel_rfl) (by kernel_rfl) (by kernel_rfl) (fun _ _ _ h => h) (Or.inl ⟨by kernel_rfl, ?h5⟩) HS ?r5
      case h5 => (rintro w ⟨x0, x1, x2, x3, x4, x5, x6, x7, x8, x9, x10, x11, y0, pp⟩; go_simp) <;> with_reducible rfl
      try simp only [Act.put, List.getElem_toArray, List.getElem_cons_succ, List.getElem_cons_zero, List.setIfInBounds_toArray, List.set_cons_zero, List.set_cons_succ]
      refine wpAnyH_take (i := 5) (v := ?v6) rfl (by kernel_rfl) (by kernel_rfl) (by kernel_rfl) (fun _ _ _ h => h) (Or.inl ⟨by kernel_rfl, ?h6⟩) HS ?r6
      case h6 => (rintro w ⟨x0, x1, x2, x3, x4, x5, x6, x7, x8, x9, x10, x11, y0, pp⟩; go_simp) <;> with_reducible rfl
      try simp only [Act.put, List.getElem_toArray, List.getElem_cons_succ, List.getElem_cons_zero, List.setIfInBounds_toArray, List.set_cons_zero, List.set_cons_succ]
      refine wpAnyH_ready (rs := [6]) (by kernel_rfl) (by simp) ?_
      refine AllReadyH.cons rfl (fun K hK => ?_) AllReadyH.nil
      go_simp
      refine (CA3.out _ _ _ HS5.out).mono ?_
      rintro e wa ⟨pf, qf, rfl, hS6, hb⟩
      refine hK.out _ _ (HS.later hb) (fun HS => ?_)
      clear hK K
      have HS6 : Hid (Sm pf qf (-(r * xD) + p0 * 4294967296) 85070591769848697122975820654714028032) := hS6
      have HD2 : Hid (T10 w0 d (cj + bi zB + bi zD) so uP uB base j j FP FB wa) := HD.out.later hb
      clear hb hS6 HD CA3 HS5
      try simp only [Act.put, List.getElem_toArray, List.getElem_cons_succ, List.getElem_cons_zero, List.setIfInBounds_toArray, List.set_cons_zero, List.set_cons_succ]
      refine wpAnyH_ready (rs := [7]) (by kernel_rfl) (by simp) ?_
      refine AllReadyH.cons rfl (fun K hK => ?_) AllReadyH.nil
      go_simp
      refine (CR3.out _ _ _ HS6.out).mono ?_
      rintro e wb ⟨rfl, hb⟩
      refine hK.out _ _ (HS.later hb) (fun HS => ?_)
      clear hK K
      have HD3 : Hid (T10 w0 d (cj + bi zB + bi zD) so uP uB base j j FP FB wb) := HD2.out.later hb
      clear hb HD2 CR3 HS6
      try simp only [Act.put, List.getElem_toArray, List.getElem_cons_succ, List.getElem_cons_zero, List.setIfInBounds_toArray, List.set_cons_zero, List.set_cons_succ]
      refine wpAnyH_take (i := 8) (v := ?v7) rfl (by kernel_rfl) (by kernel_rfl) (by kernel_rfl) (fun _ _ _ h => h) (Or.inl ⟨by kernel_rfl, ?h7⟩) HS ?r7
      case h7 => (rintro w ⟨x0, x1, x2, x3, x4, x5, x6, x7, x8, x9, x10, x11, y0, pp⟩; go_simp) <;> with_reducible rfl
      try simp only [Act.put, List.getElem_toArray, List.getElem_cons_succ, List.getElem_cons_zero, List.setIfInBounds_toArray, List.set_cons_zero, List.set_cons_succ]
      refine wpAnyH_take (i := 9) (v := ?v8) rfl (by kernel_rfl) (by kernel_rfl) (by kernel_rfl) (fun _ _ _ h => h) (Or.inl ⟨by kernel_rfl, ?h8⟩) HS ?r8
      case h8 => (rintro w ⟨x0, x1, x2, x3, x4, x5, x6, x7, x8, x9, x10, x11, y0, pp⟩; go_simp) <;> with_reducible rfl
      try simp only [Act.put, List.getElem_toArray, List.getElem_cons_succ, List.getElem_cons_zero, List.setIfInBounds_toArray, List.set_cons_zero, List.set_cons_succ]
      refine wpAnyH_take (i := 10) (v := ?v9) rfl (by kernel_rfl) (by kernel_rfl) (by kernel_rfl) (fun _ _ _ h => h) (Or.inl ⟨by kernel_rfl, ?h9⟩) HS ?r9
      case h9 => (rintro w ⟨x0, x1, x2, x3, x4, x5, x6, x7, x8, x9, x10, x11, y0, pp⟩; go_simp) <;> with_reducible rfl
      try simp only [Act.put, List.getElem_toArray, List.getElem_cons_succ, List.getElem_cons_zero, List.setIfInBounds_toArray, List.set_cons_zero, List.set_cons_succ]
      refine wpAnyH_take (i := 11) (v := ?v10) rfl (by kernel_rfl) (by kernel_rfl) (by kernel_rfl) (fun _ _ _ h => h) (Or.inl ⟨by kernel_rfl, ?h10⟩) HS ?r10
      case h10 => (rintro w ⟨x0, x1, x2, x3, x4, x5, x6, x7, x8, x9, x10, x11, y0, pp⟩; go_simp) <;> with_reducible rfl
      try simp only [Act.put, List.getElem_toArray, List.getElem_cons_succ, List.getElem_cons_zero, List.setIfInBounds_toArray, List.set_cons_zero, List.set_cons_succ]
      refine wpAnyH_take (i := 12) (v := ?v11) rfl (by kernel_rfl) (by kernel_rfl) (by kernel_rfl) (fun _ _ _ h => h) (Or.inl ⟨by kernel_rfl, ?h11⟩) HS ?r11
      case h11 => (rintro w ⟨x0, x1, x2, x3, x4, x5, x6, x7, x8, x9, x10, x11, y0, pp⟩; go_simp) <;> with_reducible rfl
      try simp only [Act.put, List.getElem_toArray, List.getElem_cons_succ, List.getElem_cons_zero, List.setIfInBounds_toArray, List.set_cons_zero, List.set_cons_succ]
      refine wpAnyH_done (by kernel_rfl) ?_ _
      clear HS
      have ct := HD3.out.U.c
      have ft := HD3.out.U.f
      go_wp2_with fail
      refine (utake_any d (cj + bi zB + bi zD) xP zP (by omega) (by omega) _ ct ft).mono ?_
      rintro e wc ⟨rfl, hU2⟩
      have HT7 : Hid (T10 w0 d (cj + bi zB + bi zD + bi zP) so uP uB base j j FP FB wc) := HD3.out.un hU2 hdb hsd
      clear ct ft hU2 HD3
      go_upto_region 13 with fail
      have e1 := HT7.out.Y.c1
      have d1 : ∀ ob : Obj, (wc.alloc ob).cell? ⟨so, 1, none⟩ = some uB := fun ob => cell_later (bel1 _ _) e1
      have hownB := HT7.out.B
      have hzs := HT7.out.Z
      have HPb : Hid (∀ (u' : Value) (w' : World) (o : Obj), w'.ownsRow base 2 1 u' (j + 1) (il FB j ++ [.int .i64 xB]) → (wc.alloc o).grownBy w' uB.ownBlock → (u'.ownBlock = uB.ownBlock ∨ u'.ownBlock = some (wc.alloc o).heap.size) → Y2 so uP uB w' ∧ T10 w0 d (cj + bi zB + bi zD + bi zP) so uP u' base j (j + 1) FP FB (w'.setCell ⟨so, 1, none⟩ u')) := fun u' w' o h1 h2 h3 => HT7.out.putB hd0 hso0 hsb (by rw [show FB j = xB from HIx.out.2]; exact h1) h2 h3
      go_upto_region 14 with (at_builtin; refine wpList_append_own_at _ rfl _ _ 43 rfl base 2 i0 (.int .i64 0) 1 8 Try.underlying43 hti hi0 hi1 hi2 rfl (by decide) _ _ _ rfl (hownB.alloc _) ⟨wc.heap.size, 0, none⟩ 1 1 [.int .i64 xB] rfl rfl (cell_one_new _ _ _) (ints_oneCell .i64 [xB]) (by unfold maxLen; omega) (by omega) (by rw [World.size_alloc]; omega) ?_; intro u' w' h1 h2 _ h3; obtain ⟨gn1, cn1, rfl⟩ := own_succ10 h1; obtain ⟨k1, k2⟩ := HPb.out _ _ _ h1 h2 h3; have e1' := k1.c1; have f1' := k1.f1; have HT8 : Hid (T10 w0 d (cj + bi zB + bi zD + bi zP) so uP (.slice (some ⟨gn1, 0, none⟩) (j + 1) cn1) base j (j + 1) FP FB (w'.setCell ⟨so, 1, none⟩ (.slice (some ⟨gn1, 0, none⟩) (j + 1) cn1))) := k2; clear h1 h2 h3 k1 k2 hownB HPb e1 d1 HT7)
      clear e1' f1' hzs
      generalize w'.setCell ⟨so, 1, none⟩ (.slice (some ⟨gn1, 0, none⟩) (j + 1) cn1) = we at *
      have e0 := HT8.out.Y.c0
      have d0 : ∀ ob : Obj, (we.alloc ob).cell? ⟨so, 0, none⟩ = some uP := fun ob => cell_later (bel1 _ _) e0
      have hownP := HT8.out.P
      have hzs := HT8.out.Z
      have HPp : Hid (∀ (u' : Value) (w' : World) (o : Obj), w'.ownsRow base 2 1 u' (j + 1) (il FP j ++ [.int .i64 xP]) → (we.alloc o).grownBy w' uP.ownBlock → (u'.ownBlock = uP.ownBlock ∨ u'.ownBlock = some (we.alloc o).heap.size) → Y2 so uP (.slice (some ⟨gn1, 0, none⟩) (j + 1) cn1) w' ∧ T10 w0 d (cj + bi zB + bi zD + bi zP) so u' (.slice (some ⟨gn1, 0, none⟩) (j + 1) cn1) base (j + 1) (j + 1) FP FB (w'.setCell ⟨so, 0, none⟩ u')) := fun u' w' o h1 h2 h3 => HT8.out.putP hd0 hso0 hsb (by rw [show FP j = xP from HIx.out.1]; exact h1) h2 h3
      go_wp2_with (at_builtin; refine wpList_append_own_at _ rfl _ _ 43 rfl base 2 i0 (.int .i64 0) 1 8 Try.underlying43 hti hi0 hi1 hi2 rfl (by decide) _ _ _ rfl (hownP.alloc _) ⟨we.heap.size, 0, none⟩ 1 1 [.int .i64 xP] rfl rfl (cell_one_new _ _ _) (ints_oneCell .i64 [xP]) (by unfold maxLen; omega) (by omega) (by rw [World.size_alloc]; omega) ?_; intro u' w' h1 h2 _ h3; obtain ⟨gn2, cn2, rfl⟩ := own_succ10 h1; obtain ⟨k1, k2⟩ := HPp.out _ _ _ h1 h2 h3; have e0' := k1.c0; have f0' := k1.f0; have HT9 : Hid (T10 w0 d (cj + bi zB + bi zD + bi zP) so (.slice (some ⟨gn2, 0, none⟩) (j + 1) cn2) (.slice (some ⟨gn1, 0, none⟩) (j + 1) cn1) base (j + 1) (j + 1) FP FB (w'.setCell ⟨so, 0, none⟩ (.slice (some ⟨gn2, 0, none⟩) (j + 1) cn2))) := k2; clear h1 h2 h3 k1 k2 hownP HPp e0 d0 HT8)
      go_roundw
      case rel => exact ⟨j + 1, _, _, by omega, by go_num, by have h1 := HCn.out; have h2 := HFF.out; have h3 := Hcj.out; show T10 _ _ _ _ _ _ _ _ _ _ _ _; rw [h1]; exact HT9.out⟩
      case measure => simp [intOf]; omega
    · obtain rfl : j = n := by omega
      have hjI : ¬ (j : Int) < (j : Int) := by omega
      obtain ⟨ad1, ca1, rfl⟩ := own_sl10 HT.out.P
      obtain ⟨ad2, ca2, rfl⟩ := own_sl10 HT.out.B
      have HRr := HR.out.blk (HT.out.U.k _ HR.out.lt hwr)
      have r0' := HRr.c0
      have r1' := HRr.c1
      have f0 := HRr.f0
      have f1 := HRr.f1
      have y0 := HT.out.Y.c0
      have y1 := HT.out.Y.c1
      go_wp2
      have HZ := (HRr.set0 (.slice ad1 j ca1)).set1 (.slice ad2 j ca2)
      have z0 := HZ.c0
      have z1 := HZ.c1
      have q1' := ar_of_own (own_far10 (own_far10 HT.out.P ⟨w.heap.size + 1, 0, none⟩ (.slice ad1 j ca1) hwb) ⟨w.heap.size + 1, 1, none⟩ (.slice ad2 j ca2) hwb) (fun k' _ => clv_rng _)
      have q2' := ar_of_own (own_far10 (own_far10 HT.out.B ⟨w.heap.size + 1, 0, none⟩ (.slice ad1 j ca1) hwb) ⟨w.heap.size + 1, 1, none⟩ (.slice ad2 j ca2) hwb) (fun k' _ => clv_rng _)
      have HUE := un_far10 (un_far10 (HU1.out.chain HT.out.U) hdw (p := ⟨w.heap.size + 1, 0, none⟩) (by dsimp only; omega) (.slice ad1 j ca1)) hdw (p := ⟨w.heap.size + 1, 1, none⟩) (by dsimp only; omega) (.slice ad2 j ca2)
      exact bodyPost_ret (v := .agg #[.slice ad1 j ca1, .slice ad2 j ca2]) (by simp [results, Try.results13, go_sem, z0, z1]) rfl ⟨_, _, _, _, rfl, q1'.1, q2'.1, ⟨fun a' n' c' e' h' => by have := q1'.2 a' n' c' e' h'; omega, fun a' n' c' e' h' => by have := q2'.2 a' n' c' e' h'; omega⟩, HUE⟩
end Go.Proofs.Ytfcneciknldohaa
