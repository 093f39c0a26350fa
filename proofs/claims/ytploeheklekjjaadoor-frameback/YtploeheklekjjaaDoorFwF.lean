/-
  The program's frame: Split.
-/
import Derived.Test.YtploeheklekjjaaDoorFwE
import Derived.Maps.OwnIn
set_option linter.unusedVariables false
set_option linter.unusedSimpArgs false
namespace Go.Proofs.YtploeheklekjjaaDoor
open Go.RowKit Go.Shelf
attribute [local go_sem] Oper.semAt_some

/-- A list of frames of one's own, from a block on, its payloads too. -/
def Fq (B : Nat) (w : World) (v : Value) (fs : List (Nat × List Nat)) : Prop := ∃ cs : List Value, w.ownsRow B 31 2 v fs.length cs ∧ ∀ k, k < fs.length → ∃ vp : Value, (cs[k * 2]? = some (.int .i64 (((fs.getD k fr0).1 : Nat) : Int)) ∧ cs[k * 2 + 1]? = some vp) ∧ Bs w vp (fs.getD k fr0).2 ∧ (∀ g, v.ownBlock = some g → Nb vp g) ∧ Ow B vp
theorem fq_nil (B : Nat) (w : World) : Fq B w (.slice none 0 0) [] := ⟨[], World.ownsRow_nil _ _ _ _, fun k hk => by simp at hk⟩
theorem Fq.fo {B : Nat} {w : World} {v : Value} {fs : List (Nat × List Nat)} (h : Fq B w v fs) : Fo 31 B w v fs := by
  obtain ⟨cs, h1, h2⟩ := h
  exact ⟨cs, h1, fun k hk => by obtain ⟨vp, a, b, c, -⟩ := h2 k hk; exact ⟨vp, a, b, c⟩⟩
theorem Fq.later {B : Nat} {w w' : World} {v : Value} {fs : List (Nat × List Nat)} (h : Fq B w v fs) (k : Below w.heap.size w w') : Fq B w' v fs := by
  obtain ⟨cs, h1, h2⟩ := h
  exact ⟨cs, own_later h1 k, fun j hj => by obtain ⟨vp, e, p, q⟩ := h2 j hj; exact ⟨vp, e, p.later k, q⟩⟩
theorem Fq.kp {B : Nat} {w w' : World} {v : Value} {fs : List (Nat × List Nat)} {F : Nat → Prop} (h : Fq B w v fs) (k : Kp F w w') (hF : ∀ i, F i → i < B) : Fq B w' v fs := by
  obtain ⟨cs, h1, h2⟩ := h
  exact ⟨cs, own_kp h1 k hF, fun j hj => by obtain ⟨vp, e, p, q, r⟩ := h2 j hj; exact ⟨vp, e, k.bs p (ow_nf r hF), q, r⟩⟩
theorem Fq.grow {B : Nat} {w w3 : World} {v v' vp : Value} {fs : List (Nat × List Nat)} {k : Nat} {p : List Nat} {o : Obj} {cs : List Value} (h1 : w.ownsRow B 31 2 v fs.length cs) (h2 : ∀ k, k < fs.length → ∃ vp : Value, (cs[k * 2]? = some (.int .i64 (((fs.getD k fr0).1 : Nat) : Int)) ∧ cs[k * 2 + 1]? = some vp) ∧ Bs w vp (fs.getD k fr0).2 ∧ (∀ g, v.ownBlock = some g → Nb vp g) ∧ Ow B vp)
    (hp : Bs w vp p) (hN : ∀ g, v.ownBlock = some g → Nb vp g) (hO : Ow B vp) (hown : w3.ownsRow B 31 2 v' (fs.length + 1) (cs ++ [.int .i64 ((k : Nat) : Int), vp])) (hgrow : (w.alloc o).grownBy w3 v.ownBlock) (hat : v'.ownBlock = v.ownBlock ∨ v'.ownBlock = some (w.alloc o).heap.size) : Fq B w3 v' (fs ++ [(k, p)]) := by
  have hlen : cs.length = fs.length * 2 := h1.1
  refine ⟨cs ++ [.int .i64 ((k : Nat) : Int), vp], by rw [List.length_append]; exact hown, fun j hj => ?_⟩
  rw [List.length_append] at hj
  rcases Nat.lt_or_ge j fs.length with h | h
  · obtain ⟨xa, ⟨e1, e2⟩, a1, a3, a4⟩ := h2 j h
    obtain ⟨p1, p2⟩ := fo_key hgrow hat a1 a3
    rw [getD_left h]
    exact ⟨xa, ⟨by rw [List.getElem?_append_left (by omega)]; exact e1, by rw [List.getElem?_append_left (by omega)]; exact e2⟩, p1, p2, a4⟩
  · have hj1 : j < fs.length + 1 := hj
    obtain rfl : j = fs.length := by omega
    obtain ⟨p1, p2⟩ := fo_key hgrow hat hp hN
    rw [getD_end]
    refine ⟨vp, ⟨?_, ?_⟩, p1, p2, hO⟩
    · rw [List.getElem?_append_right (by omega), hlen, Nat.sub_self]; rfl
    · rw [List.getElem?_append_right (by omega), hlen, show fs.length * 2 + 1 - fs.length * 2 = 1 by omega]; rfl
theorem dinfo_pf : (Tryd.prog.info? 31).map (fun i => (i.zero, i.size, i.bytes)) = some (some (.agg #[.int .i64 0, .slice none 0 0]), 2, 32) := by kernel_rfl
theorem apFrIn {F : Fence} {nF : Nat} {ops : Array Oper} {rest : List Oper} {o : Oper} {a : Act} {w : World} {Q : Exit → Act → World → Prop} (hgd : o.guard = none) (s x : Operand)
    (ho : o.op = .call { callee := .builtin .append, args := #[s, x], argTypes := #[39, 39] })
    (B : Nat) (v : Value) (fs : List (Nat × List Nat)) (hs : a.eval s = v) (hF : Fq B w v fs) (k : Nat) (p : List Nat) (ad : Option Addr) (n cap : Nat) (hp : Bs w (.slice ad n cap) p) (hN : ∀ g, v.ownBlock = some g → Nb (.slice ad n cap) g) (hO : Ow B (.slice ad n cap)) (t : TypeId) (hx : a.eval x = .slice (some ⟨w.heap.size, 0, none⟩) 1 1)
    (hlen : fs.length ≤ 100000) (hB : B ≤ w.heap.size)
    (h : ∀ v' w', Fq B w' v' (fs ++ [(k, p)]) → Gw B w w' → wpListIn F nF Tryd.prog ops Q rest (a.put o.dst v') w') : wpListIn F nF Tryd.prog ops Q (o :: rest) a (w.alloc (.cells #[.int .i64 (k : Int), .slice ad n cap] t)) := by
  obtain ⟨i0, hti, hy0, hy1, hy2⟩ := info_parts dinfo_pf
  obtain ⟨cs, h1, h2⟩ := hF
  refine wpListIn_append_own_at _ hgd s x 39 ho B 31 i0 (.agg #[.int .i64 0, .slice none 0 0]) 2 32 Tryd.underlying39 hti hy0 hy1 hy2 rfl (by decide) v fs.length cs hs (own_later h1 (bel1 _ _)) ⟨w.heap.size, 0, none⟩ 1 1 [.int .i64 (k : Int), .slice ad n cap] hx rfl
    (fun j u hj => by
      rcases j with _ | _ | j
      · simp at hj; subst hj; simp [go_sem, Addr.add]
      · simp at hj; subst hj; simp [go_sem, Addr.add]
      · simp at hj)
    (fun u hu => by simp only [List.mem_cons, List.not_mem_nil, or_false] at hu; rcases hu with rfl | rfl <;> rfl) (by unfold maxLen; omega) (by omega) (by rw [World.size_alloc]; omega) ?_
  intro v' w' hown hgrow _ hat
  refine h v' w' (Fq.grow h1 h2 hp hN hO hown hgrow hat) ⟨fun w0 hb => (hb.alloc hB _).grown hgrow (by rw [World.size_alloc]; omega) (fun g hg => ?_), ?_⟩
  · exact (h1.lt g hg).1
  · have := hgrow.size
    rw [World.size_alloc] at this
    omega
/-- Split's boxes, and its list. -/
structure Sq (w : World) (b2 b3 b4 B : Nat) (v : Value) (fs : List (Nat × List Nat)) (X : World) : Prop where
  k : Below b2 w X
  c2 : X.cell? ⟨b2, 0, none⟩ = some v
  f2 : X.frozen? ⟨b2, 0, none⟩ = false
  c3 : X.cell? ⟨b3, 0, none⟩ = some (.int .i64 0)
  f3 : X.frozen? ⟨b3, 0, none⟩ = false
  c4 : X.cell? ⟨b4, 0, none⟩ = some (.int .i64 0)
  f4 : X.frozen? ⟨b4, 0, none⟩ = false
  fo : Fq B X v fs
theorem Sq.later {w X X' : World} {b2 b3 b4 B : Nat} {v : Value} {fs : List (Nat × List Nat)} (h : Sq w b2 b3 b4 B v fs X) (k : Below X.heap.size X X') : Sq w b2 b3 b4 B v fs X' :=
  ⟨h.k.trans (k.mono (by have := World.block_lt_of_cell? _ _ h.c2; dsimp only at this; omega)), cell_later k h.c2, frozen_later k h.c2 h.f2, cell_later k h.c3, frozen_later k h.c3 h.f3, cell_later k h.c4, frozen_later k h.c4 h.f4, h.fo.later k⟩
theorem Sq.put {w X X' : World} {b2 b3 b4 B L : Nat} {v : Value} {fs : List (Nat × List Nat)} (h : Sq w b2 b3 b4 B v fs X) (h2 : b2 < L) (h3 : b3 < L) (h4 : b4 < L) (hB : L < B) (k : Kp (fun k => k = L) X X') : Sq w b2 b3 b4 B v fs X' :=
  ⟨k.next h.k (fun j hj => by omega) (by have := World.block_lt_of_cell? _ _ h.c2; dsimp only at this; omega), k.cell (a := ⟨b2, 0, none⟩) (by dsimp only; omega) h.c2, k.frozen (a := ⟨b2, 0, none⟩) (by dsimp only; omega) h.c2 h.f2, k.cell (a := ⟨b3, 0, none⟩) (by dsimp only; omega) h.c3, k.frozen (a := ⟨b3, 0, none⟩) (by dsimp only; omega) h.c3 h.f3, k.cell (a := ⟨b4, 0, none⟩) (by dsimp only; omega) h.c4, k.frozen (a := ⟨b4, 0, none⟩) (by dsimp only; omega) h.c4 h.f4, h.fo.kp k (fun i hi => by omega)⟩
/-- A look in a box, and its payload. -/
structure Lx (bx : Nat) (k e : Nat) (v : Value) (p : List Nat) (X : World) : Prop where
  x0 : X.cell? ⟨bx, 0, none⟩ = some (.int .i64 (k : Int))
  x1 : X.cell? ⟨bx, 1, none⟩ = some v
  x2 : X.cell? ⟨bx, 2, none⟩ = some (.int .i64 (e : Int))
  pl : Bs X v p
theorem Lx.put {bx k e : Nat} {v : Value} {p : List Nat} {X X' : World} {L : Nat} (h : Lx bx k e v p X) (hb : bx ≠ L) (hn : Nb v L) (k2 : Kp (fun k => k = L) X X') : Lx bx k e v p X' :=
  ⟨k2.cell (a := ⟨bx, 0, none⟩) (by dsimp only; exact hb) h.x0, k2.cell (a := ⟨bx, 1, none⟩) (by dsimp only; exact hb) h.x1, k2.cell (a := ⟨bx, 2, none⟩) (by dsimp only; exact hb) h.x2, k2.bs h.pl (fun a n cap e hp q => hn a n cap e hp q)⟩
theorem Fq.low {B : Nat} {w : World} {v : Value} {fs : List (Nat × List Nat)} (h : Fq B w v fs) : ∀ g, v.ownBlock = some g → g < w.heap.size := by
  obtain ⟨cs, h1, -⟩ := h
  intro g hg
  exact (h1.lt g hg).2
theorem Fq.sl {B : Nat} {w : World} {v : Value} {fs : List (Nat × List Nat)} (h : Fq B w v fs) : ∃ ad cap, v = .slice ad fs.length cap := h.fo.sl
/-- What Split leaves, its loop's record put away. -/
structure Se (w : World) (b2 b3 b4 : Nat) (v : Value) (m e : Int) (fs : List (Nat × List Nat)) (X : World) : Prop where
  k : Below b2 w X
  c2 : X.cell? ⟨b2, 0, none⟩ = some v
  c3 : X.cell? ⟨b3, 0, none⟩ = some (.int .i64 m)
  c4 : X.cell? ⟨b4, 0, none⟩ = some (.int .i64 e)
  fr : Frs X v fs
theorem se_out {w X : World} {b2 b3 b4 B D : Nat} {v : Value} {m e : Int} {fs : List (Nat × List Nat)} (hk : Below b2 w X) (c2 : X.cell? ⟨b2, 0, none⟩ = some v) (c3 : X.cell? ⟨b3, 0, none⟩ = some (.int .i64 m)) (c4 : X.cell? ⟨b4, 0, none⟩ = some (.int .i64 e)) (hf : Fq B X v fs) (h2 : b2 < D) (h3 : b3 < D) (h4 : b4 < D) (hB : D < B) (o : Obj) : Se w b2 b3 b4 v m e fs (X.putObj D o) := by
  have k := kp_put X D o
  exact ⟨k.next hk (fun j hj => by omega) (by have := World.block_lt_of_cell? _ _ c2; dsimp only at this; omega), k.cell (a := ⟨b2, 0, none⟩) (by dsimp only; omega) c2, k.cell (a := ⟨b3, 0, none⟩) (by dsimp only; omega) c3, k.cell (a := ⟨b4, 0, none⟩) (by dsimp only; omega) c4, (hf.kp k (fun i hi => by omega)).fo.frs⟩
/-- The three results are stored. -/
structure St3 (w X : World) (b2 b3 b4 B : Nat) (v : Value) (m e : Int) (fs : List (Nat × List Nat)) (W : World) : Prop where
  k : Below b2 w W
  c2 : W.cell? ⟨b2, 0, none⟩ = some v
  c3 : W.cell? ⟨b3, 0, none⟩ = some (.int .i64 m)
  c4 : W.cell? ⟨b4, 0, none⟩ = some (.int .i64 e)
  fq : Fq B W v fs
  kp : Kp (fun k => k = b2 ∨ k = b3 ∨ k = b4) X W
theorem Sq.store {w X : World} {b2 b3 b4 B : Nat} {v : Value} {fs : List (Nat × List Nat)} (h : Sq w b2 b3 b4 B v fs X) (h23 : b2 + 1 = b3) (h34 : b3 + 1 = b4) (hB : b4 < B) (m e : Int) : St3 w X b2 b3 b4 B v m e fs (((X.setCell ⟨b2, 0, none⟩ v).setCell ⟨b3, 0, none⟩ (.int .i64 m)).setCell ⟨b4, 0, none⟩ (.int .i64 e)) := by
  have k : Kp (fun k => k = b2 ∨ k = b3 ∨ k = b4) X (((X.setCell ⟨b2, 0, none⟩ v).setCell ⟨b3, 0, none⟩ (.int .i64 m)).setCell ⟨b4, 0, none⟩ (.int .i64 e)) := (((Kp.refl _ X).set (p := ⟨b2, 0, none⟩) (Or.inl (Or.inl rfl)) v).set (p := ⟨b3, 0, none⟩) (Or.inl (Or.inr (Or.inl rfl))) _).set (p := ⟨b4, 0, none⟩) (Or.inl (Or.inr (Or.inr rfl))) _
  refine ⟨k.next h.k (fun j hj => by omega) (by have := World.block_lt_of_cell? _ _ h.c2; dsimp only at this; omega), ?_, ?_, ?_, h.fo.kp k (fun i hi => by omega), k⟩
  · rw [World.cell?_setCell_far _ _ _ _ (by dsimp only; omega), World.cell?_setCell_far _ _ _ _ (by dsimp only; omega)]
    exact World.cell?_setCell_same' _ _ _ (by rw [h.c2]; rfl)
  · rw [World.cell?_setCell_far _ _ _ _ (by dsimp only; omega)]
    exact World.cell?_setCell_same' _ _ _ (by rw [World.cell?_setCell_far _ _ _ _ (by dsimp only; omega), h.c3]; rfl)
  · exact World.cell?_setCell_same' _ _ _ (by rw [World.cell?_setCell_far _ _ _ _ (by dsimp only; omega), World.cell?_setCell_far _ _ _ _ (by dsimp only; omega), h.c4]; rfl)
set_option maxRecDepth 100000 in
set_option maxHeartbeats 8000000 in
theorem split13 (w : World) (v : Value) (l : List Nat) (h : Bs w v l) (hb : ∀ c ∈ l, c < 256) (hl : l.length ≤ 90000) (hT : FT w) :
    Calls Tryd.prog 16 #[v] w fun e w' => ∃ v', e = .returned (.tuple #[v', .int .i64 (((spl l).2.1 : Nat) : Int), .int .i64 (((spl l).2.2 : Nat) : Int)]) ∧ Frs w' v' (spl l).1 ∧ Below w.heap.size w w' := by
  have HL : Hid (Bs w v l) := h
  have HY : Hid (∀ c ∈ l, c < 256) := hb
  have HT : Hid (FT w) := hT
  obtain ⟨ad, cap, rfl, k1, k2⟩ := h.len
  unfold maxLen at k2
  obtain ⟨n, hn⟩ : ∃ n, l.length = n := ⟨_, rfl⟩
  have HN : Hid (l.length = n) := hn
  rw [hn] at k1 hl HL ⊢
  clear h hn hb hT
  refine (callsIn_wide (n := 10)).1 ?_
  refine callsIn_of_wp_marks Tryd.func16 rfl trivial ?_ rfl
  refine wpIn_wide.2 ?_
  simp only [Tryd.ntmps16, List.size_toArray, List.length_cons, List.length_nil, Nat.reduceAdd, Nat.reduceSub, Array.replicate_succ, Array.replicate_zero, List.push_toArray, List.append_toArray, List.nil_append, List.cons_append]
  obtain ⟨b2, hb2⟩ : ∃ b2, w.heap.size = b2 := ⟨_, rfl⟩
  obtain ⟨b3, hb3⟩ : ∃ b3, b2 + 1 = b3 := ⟨_, rfl⟩
  obtain ⟨b4, hb4⟩ : ∃ b4, b3 + 1 = b4 := ⟨_, rfl⟩
  obtain ⟨wA, hwA⟩ : ∃ wA, wA = ((w.alloc (.cells #[.slice none 0 0] 39)).alloc (.cells #[.int .i64 0] 3)).alloc (.cells #[.int .i64 0] 24) := ⟨_, rfl⟩
  go_upto_region 1 with fail
  rw [← hwA]
  have HbA : Hid (Below w.heap.size w wA ∧ wA.heap.size = b4 + 1) := ⟨by rw [hwA]; exact ((bel1 w _).alloc (by rw [World.size_alloc]; omega) _).alloc (by rw [World.size_alloc, World.size_alloc]; omega) _, by rw [hwA, World.size_alloc, World.size_alloc, World.size_alloc]; omega⟩
  have HSA : Hid (∀ B, Sq w b2 b3 b4 B (.slice none 0 0) [] wA) := fun B => by
    subst hb4 hb3 hb2
    refine ⟨HbA.out.1, ?_, ?_, ?_, ?_, ?_, ?_, fq_nil _ _⟩ <;> rw [hwA] <;> simp [go_sem]
  have HSZ : Hid (w.heap.size = b2 ∧ b2 + 1 = b3 ∧ b3 + 1 = b4) := ⟨hb2, hb3, hb4⟩
  clear hwA hb2 hb3 hb4
  go_wp2_with fail
  refine (looks_any wA _ l (HL.out.later HbA.out.1)).mono ?_
  rintro e wL ⟨rfl, hBL, hcL, hsL⟩
  rw [HbA.out.2] at hcL ⊢
  obtain ⟨b9, hb9⟩ : ∃ b9, b4 + 1 = b9 := ⟨_, rfl⟩
  rw [hb9] at hcL ⊢
  have HLL : Hid (Below w.heap.size w wL ∧ wL.heap.size = b9 + 1 ∧ b4 + 1 = b9 ∧ wL.cell? ⟨b9, 0, none⟩ = some (.slice ad n cap) ∧ Bs wL (.slice ad n cap) l ∧ FT wL) := ⟨bchain HbA.out.1 hBL, by have := HbA.out; omega, hb9, hcL, HL.out.later (bchain HbA.out.1 hBL), HT.out.later (bchain HbA.out.1 hBL)⟩
  have HSL : Hid (∀ B, Sq w b2 b3 b4 B (.slice none 0 0) [] wL) := fun B => (HSA.out B).later hBL
  clear hBL hcL hsL hb9 HSA HbA
  go_wp2_with fail
  refine (wpIn_wide (n := 10)).1 ?_
  refine range_told0 (FB := fun k => k = b2) rfl (by omega) (gf := 32) (lb := #[.pointer (some ⟨b9, 0, none⟩)]) rfl trivial (enters_of Tryd.func32 (by kernel_rfl) rfl)
    (looks1_tells b9 _ l HY.out (by have := HN.out; omega) (fun k => k = b2) wL HLL.out.2.2.2.1 HLL.out.2.2.2.2.1 HLL.out.2.2.2.2.2 ?t1 ?t2 ?t3) ?f4 ?f5 (fun k => k = b2 ∨ k = b3 ∨ k = b4) ?f6
    (fun i X => ∃ (p : Nat) (fs : List (Nat × List Nat)) (v : Value), Lk l i p ∧ Spd l p fs ∧ fs.length ≤ p ∧ Sq w b2 b3 b4 (wL.heap.size + 2) v fs X)
    (fun c i X => c = .ret ∧ ∃ v : Value, Below b2 w X ∧ X.cell? ⟨b2, 0, none⟩ = some v ∧ X.cell? ⟨b3, 0, none⟩ = some (.int .i64 (((spl l).2.1 : Nat) : Int)) ∧ X.cell? ⟨b4, 0, none⟩ = some (.int .i64 (((spl l).2.2 : Nat) : Int)) ∧ Fq (wL.heap.size + 2) X v (spl l).1)
    (fun i a' X => ∃ (p ee kk : Nat) (pp : List Nat) (fs : List (Nat × List Nat)) (v : Value) (ap : Option Addr) (np cp bx : Nat), (Lk l i p ∧ p < l.length ∧ opE (l.drop p) = ee ∧ opK (l.drop p) = kk ∧ opP (l.drop p) = pp) ∧ (Spd l p fs ∧ fs.length ≤ p) ∧ a' = { tmps := #[Value.slice ad n cap, undef, Value.pointer (some ⟨b2, 0, none⟩), Value.pointer (some ⟨b3, 0, none⟩), Value.pointer (some ⟨b4, 0, none⟩), Value.int IntKind.i64 (p : Int), Value.pointer (some ⟨bx, 0, none⟩), Value.slice ad n cap, Value.func (Fn.func 32) #[] #[Value.pointer (some ⟨b9, 0, none⟩)], Value.int IntKind.i64 (p : Int), Value.agg #[Value.int IntKind.i64 (kk : Int), Value.slice ap np cp, Value.int IntKind.i64 (ee : Int)], undef, undef, undef, undef, undef, undef, undef, undef, undef, undef, undef, undef, undef, undef, undef], defers := [] } ∧ Sq w b2 b3 b4 (wL.heap.size + 2) v fs X ∧ Lx bx kk ee (.slice ap np cp) pp X ∧ wL.heap.size + 2 ≤ bx ∧ Ow (wL.heap.size + 2) (.slice ap np cp) ∧ ∀ g, v.ownBlock = some g → Nb (.slice ap np cp) g) ?f7 ?f8 ?f9 ?f10 ?assign ?body ?done ?left
  case t1 => exact ⟨fun q => by dsimp only at q; have h1 := HT.out.low; have := HSZ.out; omega, fun q => by dsimp only at q; have h1 := HT.out.low; have := HSZ.out; omega⟩
  case t2 => intro a n' cap' e hp q; have h1 := HL.out.lo a n' cap' e hp; have := HSZ.out; omega
  case t3 => have := HSZ.out; have := HLL.out; omega
  case f4 => rintro y args Xp X ⟨ap, np, cp, rfl, -, -⟩; rfl
  case f5 => intro k hk; have := HSZ.out; have := HLL.out; omega
  case f6 => intro k hk; have := HSZ.out; have := HLL.out; omega
  case f7 =>
    rintro i X X' ⟨p, fs, v, h1, h2, h3, h4⟩ k
    exact ⟨p, fs, v, h1, h2, h3, h4.put (by have := HSZ.out; have := HLL.out; omega) (by have := HSZ.out; have := HLL.out; omega) (by have := HSZ.out; have := HLL.out; omega) (by omega) k⟩
  case f8 =>
    rintro c i X X' ⟨rfl, v, h1, h2, h3, h4, h5⟩ k
    have hS := HSZ.out
    have hL := HLL.out
    exact ⟨rfl, v, k.next h1 (fun j hj => by omega) (by have := World.block_lt_of_cell? _ _ h2; dsimp only at this; omega), k.cell (a := ⟨b2, 0, none⟩) (by dsimp only; omega) h2, k.cell (a := ⟨b3, 0, none⟩) (by dsimp only; omega) h3, k.cell (a := ⟨b4, 0, none⟩) (by dsimp only; omega) h4, h5.kp k (fun i hi => by omega)⟩
  case f9 =>
    rintro i a' X X' ⟨p, ee, kk, pp, fs, v, ap, np, cp, bx, h1, h2, ha, h3, h4, h5, h6, h7⟩ k
    have hS := HSZ.out
    have hL := HLL.out
    exact ⟨p, ee, kk, pp, fs, v, ap, np, cp, bx, h1, h2, ha, h3.put (by omega) (by omega) (by omega) (by omega) k, h4.put (by omega) (ow_apart h6 (by omega)) k, h5, h6, h7⟩
  case f10 => exact ⟨0, [], _, lk_zero l, spd_zero l, Nat.le_refl _, HSL.out _⟩
  case assign =>
    rintro i y args Xp X hy ⟨p, fs, v, hlk, hsp, hfl, hsq⟩ hpX ⟨ap, np, cp, rfl, hp, hO⟩ hsz hno
    obtain ⟨hpl, hye⟩ := hlk.of hy
    have HX : Hid (Sq w b2 b3 b4 (wL.heap.size + 2) v fs X ∧ Bs X (.slice ap np cp) y.2.2.2 ∧ Ow (wL.heap.size + 2) (.slice ap np cp) ∧ (∀ g, v.ownBlock = some g → Nb (.slice ap np cp) g) ∧ wL.heap.size + 2 ≤ X.heap.size) := ⟨hsq.later hpX, hp, hO.low hsz, fun g hg => ow_apart hO (hsq.fo.low g hg), Nat.le_trans hsz hpX.size⟩
    have HP : Hid ((Lk l i p ∧ p < l.length ∧ opE (l.drop p) = y.2.1 ∧ opK (l.drop p) = y.2.2.1 ∧ opP (l.drop p) = y.2.2.2) ∧ (Spd l p fs ∧ fs.length ≤ p) ∧ y.1 = p) := ⟨⟨hlk, hpl, by rw [hye], by rw [hye], by rw [hye]⟩, ⟨hsp, hfl⟩, by rw [hye]⟩
    clear hy hlk hsp hfl hsq hpX hp hO hsz hno hpl hye
    obtain ⟨yp, ye, yk, yP⟩ := y
    obtain ⟨h1, h2, h3⟩ := HP.out
    dsimp only at h1 h3 HX ⊢
    subst h3
    clear HP
    have HP : Hid ((Lk l i yp ∧ yp < l.length ∧ opE (l.drop yp) = ye ∧ opK (l.drop yp) = yk ∧ opP (l.drop yp) = yP) ∧ (Spd l yp fs ∧ fs.length ≤ yp)) := ⟨h1, h2⟩
    clear h1 h2
    gi_wp2
    refine ⟨⟨yp, ye, yk, yP, fs, v, ap, np, cp, X.heap.size, HP.out.1, HP.out.2, rfl, HX.out.1.later (bel1 _ _), ⟨by simp [go_sem], by simp [go_sem], by simp [go_sem], HX.out.2.1.later (bel1 _ _)⟩, HX.out.2.2.2.2, HX.out.2.2.1, HX.out.2.2.2.1⟩, Kq.below (bel1 _ _) HX.out.2.2.2.2⟩
  case done =>
    rintro X ⟨p, fs, v, hlk, hsp, hfl, hsq⟩ hD
    have hp1 := hlk.stop
    have hp2 := hsp.1
    obtain rfl : p = l.length := by omega
    have HR : Hid (spl l = (fs, l.length, 0)) := hsp.last
    have HD : Hid (X.heap[wL.heap.size]? = some (.deferred (some []))) := hD
    have HS : Hid (Sq w b2 b3 b4 (wL.heap.size + 2) v fs X) := hsq
    obtain ⟨av, cv, ev⟩ := hsq.fo.sl
    subst ev
    have c2 := hsq.c2
    have c3 := hsq.c3
    have c4 := hsq.c4
    have f2 := hsq.f2
    have f3 := hsq.f3
    have f4 := hsq.f4
    clear hlk hsp hfl hsq hD hp1 hp2
    have y3 : ∀ u, (X.setCell ⟨b2, 0, none⟩ u).cell? ⟨b3, 0, none⟩ = some (.int .i64 0) := fun u => (World.cell?_setCell_far _ _ _ _ (by have := HSZ.out; dsimp only; omega)).trans c3
    have y4 : ∀ u u', ((X.setCell ⟨b2, 0, none⟩ u).setCell ⟨b3, 0, none⟩ u').cell? ⟨b4, 0, none⟩ = some (.int .i64 0) := fun u u' => (World.cell?_setCell_far _ _ _ _ (by have := HSZ.out; dsimp only; omega)).trans ((World.cell?_setCell_far _ _ _ _ (by have := HSZ.out; dsimp only; omega)).trans c4)
    have HE := hidI (HS.out.store HSZ.out.2.1 HSZ.out.2.2 (by have := HSZ.out; have := HLL.out; omega) (n : Int) 0)
    go_wp2
    have HD2 : Hid ((((X.setCell ⟨b2, 0, none⟩ (.slice av fs.length cv)).setCell ⟨b3, 0, none⟩ (.int .i64 (n : Int))).setCell ⟨b4, 0, none⟩ (.int .i64 0)).heap[wL.heap.size]? = some (.deferred (some []))) := by
      refine (HE.out.kp.block _ ?_ ?_).trans HD.out
      · exact (Array.getElem?_eq_some_iff.1 HD.out).1
      · have := HSZ.out; have := HLL.out; omega
    generalize ((X.setCell ⟨b2, 0, none⟩ (.slice av fs.length cv)).setCell ⟨b3, 0, none⟩ (.int .i64 (n : Int))).setCell ⟨b4, 0, none⟩ (.int .i64 0) = W3 at *
    refine ⟨by simp, Or.inl ⟨wL.heap.size, _, rfl, run_takeDeferred (ds := []) HD2.out, ?_⟩⟩
    have se := se_out HE.out.k HE.out.c2 HE.out.c3 HE.out.c4 HE.out.fq (D := wL.heap.size) (by have := HSZ.out; have := HLL.out; omega) (by have := HSZ.out; have := HLL.out; omega) (by have := HSZ.out; have := HLL.out; omega) (by omega) (.deferred none)
    have z2 := se.c2
    have z3 := se.c3
    have z4 := se.c4
    refine ⟨.tuple #[.slice av fs.length cv, .int .i64 (n : Int), .int .i64 0], by simp [results, Tryd.results16, go_sem, z2, z3, z4], .slice av fs.length cv, ?_, ?_, ?_⟩
    · rw [HR.out, HN.out]; rfl
    · rw [HR.out]; exact se.fr
    · rw [HSZ.out.1]; exact se.k
  case left =>
    rintro c i X hi ⟨rfl, v, h1, h2, h3, h4, h5⟩ hD
    obtain ⟨av, cv, ev⟩ := h5.sl
    subst ev
    have se := hidI (se_out h1 h2 h3 h4 h5 (D := wL.heap.size) (by have := HSZ.out; have := HLL.out; omega) (by have := HSZ.out; have := HLL.out; omega) (by have := HSZ.out; have := HLL.out; omega) (by omega) (.deferred none))
    have HD : Hid (X.heap[wL.heap.size]? = some (.deferred (some []))) := hD
    clear h1 h2 h3 h4 h5 hD hi
    refine wpIn_wide.2 ?_
    go_wp2
    refine ⟨by simp, Or.inl ⟨wL.heap.size, _, rfl, run_takeDeferred (ds := []) HD.out, ?_⟩⟩
    have z2 := se.out.c2
    have z3 := se.out.c3
    have z4 := se.out.c4
    refine ⟨.tuple #[.slice av (spl l).1.length cv, .int .i64 (((spl l).2.1 : Nat) : Int), .int .i64 (((spl l).2.2 : Nat) : Int)], by simp [results, Tryd.results16, go_sem, z2, z3, z4], .slice av (spl l).1.length cv, rfl, se.out.fr, ?_⟩
    rw [HSZ.out.1]; exact se.out.k
  case body =>
    rintro i y0 a' X hy0 ⟨p, ee, kk, pp, fs, v, ap, np, cp, bx, ⟨hlk, hpl, hee, hkk, hpp⟩, ⟨hsp, hfl⟩, rfl, hsq, hlx, hbx, hOw, hNb⟩ hsz
    clear hy0 y0
    obtain ⟨av, cv, ev⟩ := hsq.fo.sl
    subst ev
    have HP : Hid (Lk l i p ∧ p < l.length ∧ Spd l p fs ∧ fs.length ≤ p ∧ opE (l.drop p) = ee ∧ opK (l.drop p) = kk ∧ opP (l.drop p) = pp) := ⟨hlk, hpl, hsp, hfl, hee, hkk, hpp⟩
    have HS : Hid (Sq w b2 b3 b4 (wL.heap.size + 2) (.slice av fs.length cv) fs X ∧ Lx bx kk ee (.slice ap np cp) pp X ∧ Ow (wL.heap.size + 2) (.slice ap np cp) ∧ (∀ g, (Value.slice av fs.length cv).ownBlock = some g → Nb (.slice ap np cp) g)) := ⟨hsq, hlx, hOw, hNb⟩
    have HZ : Hid (wL.heap.size + 2 ≤ bx ∧ wL.heap.size + 2 ≤ X.heap.size) := ⟨hbx, hsz⟩
    have c2 := hsq.c2
    have f2 := hsq.f2
    have c3 := hsq.c3
    have f3 := hsq.f3
    have c4 := hsq.c4
    have f4 := hsq.f4
    have x0 := hlx.x0
    have x1 := hlx.x1
    have x2 := hlx.x2
    clear hlk hpl hee hkk hpp hsp hfl hsq hlx hbx hOw hNb hsz
    by_cases hE : ee = 0
    · subst hE
      have HNx : Hid (Lk l (i + 1) (p + opN (l.drop p)) ∧ Spd l (p + opN (l.drop p)) (fs ++ [(kk, pp)]) ∧ fs.length + 1 ≤ p + opN (l.drop p) ∧ fs.length ≤ 100000) := by
        obtain ⟨q1, q2, q3, q4, q5, q6, q7⟩ := HP.out
        have h1 := opN_pos q5
        have h2 := q1.next q2
        rw [show max (opN (l.drop p)) 1 = opN (l.drop p) by omega] at h2
        have h3 := q3.step q2 q5
        rw [q6, q7] at h3
        exact ⟨h2, h3, by omega, by have := HN.out; omega⟩
      have HA : Hid (∀ o : Obj, Bs X (.slice ap np cp) pp) := fun _ => HS.out.2.1.pl
      clear HP
      have hb2B : b2 < wL.heap.size + 2 := by have := HSZ.out; have := HLL.out; omega
      gi_wp2_with (gi_at_builtin; refine apFrIn rfl _ _ rfl (wL.heap.size + 2) (.slice av fs.length cv) fs rfl HS.out.1.fo kk pp ap np cp HS.out.2.1.pl HS.out.2.2.2 HS.out.2.2.1 _ rfl HNx.out.2.2.2 HZ.out.2 ?_; intro v3 w3 hF3 hg3; obtain ⟨a3, p3, rfl⟩ := hF3.sl; have hB3 := hg3.1 X (Below.refl _ _); have c23 := (hB3.cell (p := ⟨b2, 0, none⟩) hb2B).trans c2; have f23 := (hB3.frozen (p := ⟨b2, 0, none⟩) hb2B).trans f2)
      simp only [List.length_append, List.length_singleton] at hF3
      have hk : Kq (wL.heap.size + 2) (fun k => k = b2) X (w3.setCell ⟨b2, 0, none⟩ (.slice a3 (fs.length + 1) p3)) := ⟨hB3.os, hB3.tape, hB3.output, by rw [World.size_setCell]; exact hB3.size, fun k hk _ hn => (Below.heap_setCell _ _ _ _ (fun e => hn (by dsimp only at e; exact e))).trans (hB3.block k hk)⟩
      have h2 := HSZ.out
      have h3 := HLL.out
      have kw : Kp (fun k => k = b2) w3 (w3.setCell ⟨b2, 0, none⟩ (.slice a3 (fs.length + 1) p3)) := (Kp.refl (fun k => k = b2) w3).set (p := ⟨b2, 0, none⟩) (Or.inl rfl) _
      have c33 := (hB3.cell (p := ⟨b3, 0, none⟩) (by dsimp only; omega)).trans c3
      have f33 := (hB3.frozen (p := ⟨b3, 0, none⟩) (by dsimp only; omega)).trans f3
      have c43 := (hB3.cell (p := ⟨b4, 0, none⟩) (by dsimp only; omega)).trans c4
      have f43 := (hB3.frozen (p := ⟨b4, 0, none⟩) (by dsimp only; omega)).trans f4
      refine ⟨⟨p + opN (l.drop p), fs ++ [(kk, pp)], .slice a3 (fs.length + 1) p3, HNx.out.1, HNx.out.2.1, by rw [List.length_append]; exact HNx.out.2.2.1, ?_⟩, hk⟩
      refine ⟨kw.next (HS.out.1.k.trans (hB3.mono (by omega))) (fun j hj => by omega) ?_, ?_, ?_, kw.cell (a := ⟨b3, 0, none⟩) (by dsimp only; omega) c33, kw.frozen (a := ⟨b3, 0, none⟩) (by dsimp only; omega) c33 f33, kw.cell (a := ⟨b4, 0, none⟩) (by dsimp only; omega) c43, kw.frozen (a := ⟨b4, 0, none⟩) (by dsimp only; omega) c43 f43, hF3.kp kw (fun i hi => by omega)⟩
      · have := World.block_lt_of_cell? _ _ c23; dsimp only at this; omega
      · exact World.cell?_setCell_same' _ _ _ (by rw [c23]; rfl)
      · rw [World.frozen?_setCell]; exact f23
    · have hEI : ¬ (ee : Int) = 0 := by omega
      have HR : Hid (spl l = (fs, p, ee)) := by
        obtain ⟨q1, q2, q3, q4, q5, q6, q7⟩ := HP.out
        have := q3.stop q2 (by omega)
        rw [q5] at this
        exact this
      have y3 : ∀ u, (X.setCell ⟨b2, 0, none⟩ u).cell? ⟨b3, 0, none⟩ = some (.int .i64 0) := fun u => (World.cell?_setCell_far _ _ _ _ (by have := HSZ.out; dsimp only; omega)).trans c3
      have y4 : ∀ u u', ((X.setCell ⟨b2, 0, none⟩ u).setCell ⟨b3, 0, none⟩ u').cell? ⟨b4, 0, none⟩ = some (.int .i64 0) := fun u u' => (World.cell?_setCell_far _ _ _ _ (by have := HSZ.out; dsimp only; omega)).trans ((World.cell?_setCell_far _ _ _ _ (by have := HSZ.out; dsimp only; omega)).trans c4)
      clear HP
      gi_wp2
      have hbD : Below X.heap.size X X.drew := (Below.refl _ _).drew
      have HSq : Hid (Sq w b2 b3 b4 (wL.heap.size + 2) (.slice av fs.length cv) fs X.drew ∧ Kq (wL.heap.size + 2) (fun k => k = b2 ∨ k = b3 ∨ k = b4) X X.drew) := ⟨HS.out.1.later hbD, Kq.below hbD HZ.out.2⟩
      have HBx : Hid (wL.heap.size + 2 ≤ bx) := HZ.out.1
      refine region_round_held (fun W => W.cell? ⟨b2, 0, none⟩ = some (.slice av fs.length cv) ∧ W.cell? ⟨bx, 2, none⟩ = some (.int .i64 (ee : Int))) (by kernel_rfl) (by kernel_rfl) (by rintro ⟨_, _, _, h⟩) ⟨cell_later hbD c2, cell_later hbD x2⟩ (fun HS => ?_)
      clear hbD c2 c3 c4 f2 f3 f4 x0 x1 x2 y3 y4 HZ
      generalize X.drew = q0 at *
      refine wpAnyH_take (i := 0) (v := ?v1) rfl (by kernel_rfl) (by kernel_rfl) (by kernel_rfl) (fun _ _ _ h => h) (Or.inl ⟨by kernel_rfl, ?h1⟩) HS ?r1
      case h1 => (rintro w ⟨n0, n1⟩; go_simp) <;> with_reducible rfl
      try simp only [Act.put, List.getElem_toArray, List.getElem_cons_succ, List.getElem_cons_zero, List.setIfInBounds_toArray, List.set_cons_zero, List.set_cons_succ]
      refine wpAnyH_take (i := 1) (v := ?v2) rfl (by kernel_rfl) (by kernel_rfl) (by kernel_rfl) (fun _ _ _ h => h) (Or.inl ⟨by kernel_rfl, ?h2⟩) HS ?r2
      case h2 => (rintro w ⟨n0, n1⟩; go_simp) <;> with_reducible rfl
      try simp only [Act.put, List.getElem_toArray, List.getElem_cons_succ, List.getElem_cons_zero, List.setIfInBounds_toArray, List.set_cons_zero, List.set_cons_succ]
      refine wpAnyH_take (i := 2) (v := ?v3) rfl (by kernel_rfl) (by kernel_rfl) (by kernel_rfl) (fun _ _ _ h => h) (Or.inl ⟨by kernel_rfl, ?h3⟩) HS ?r3
      case h3 => (rintro w ⟨n0, n1⟩; go_simp) <;> with_reducible rfl
      try simp only [Act.put, List.getElem_toArray, List.getElem_cons_succ, List.getElem_cons_zero, List.setIfInBounds_toArray, List.set_cons_zero, List.set_cons_succ]
      refine wpAnyH_take (i := 3) (v := ?v4) rfl (by kernel_rfl) (by kernel_rfl) (by kernel_rfl) (fun _ _ _ h => h) (Or.inl ⟨by kernel_rfl, ?h4⟩) HS ?r4
      case h4 => (rintro w ⟨n0, n1⟩; go_simp) <;> with_reducible rfl
      try simp only [Act.put, List.getElem_toArray, List.getElem_cons_succ, List.getElem_cons_zero, List.setIfInBounds_toArray, List.set_cons_zero, List.set_cons_succ]
      have z2 := HSq.out.1.c2
      have g2 := HSq.out.1.f2
      have z3 := HSq.out.1.c3
      have g3 := HSq.out.1.f3
      have z4 := HSq.out.1.c4
      have g4 := HSq.out.1.f4
      have HE := hidI (HSq.out.1.store HSZ.out.2.1 HSZ.out.2.2 (by have := HSZ.out; have := HLL.out; omega) (p : Int) (ee : Int))
      have y3 : ∀ u, (q0.setCell ⟨b2, 0, none⟩ u).cell? ⟨b3, 0, none⟩ = some (.int .i64 0) := fun u => (World.cell?_setCell_far _ _ _ _ (by have := HSZ.out; dsimp only; omega)).trans z3
      have y4 : ∀ u u', ((q0.setCell ⟨b2, 0, none⟩ u).setCell ⟨b3, 0, none⟩ u').cell? ⟨b4, 0, none⟩ = some (.int .i64 0) := fun u u' => (World.cell?_setCell_far _ _ _ _ (by have := HSZ.out; dsimp only; omega)).trans ((World.cell?_setCell_far _ _ _ _ (by have := HSZ.out; dsimp only; omega)).trans z4)
      refine wpAnyH_ready (rs := [4]) (by kernel_rfl) (by simp) ?_
      refine AllReadyH.cons rfl (fun K hK => ?_) AllReadyH.nil
      go_simp
      refine hK.out _ _ ⟨World.cell?_setCell_same' _ _ _ (by rw [z2]; rfl), (World.cell?_setCell_far _ _ _ _ (by have := HSZ.out; have := HLL.out; have := HBx.out; dsimp only; omega)).trans HS.2⟩ (fun HS => ?_)
      clear hK K
      try simp only [Act.put, List.getElem_toArray, List.getElem_cons_succ, List.getElem_cons_zero, List.setIfInBounds_toArray, List.set_cons_zero, List.set_cons_succ]
      refine wpAnyH_ready (rs := [5]) (by kernel_rfl) (by simp) ?_
      refine AllReadyH.cons rfl (fun K hK => ?_) AllReadyH.nil
      go_simp
      refine hK.out _ _ ⟨(World.cell?_setCell_far _ _ _ _ (by have := HSZ.out; have := HLL.out; have := HBx.out; dsimp only; omega)).trans HS.1, (World.cell?_setCell_far _ _ _ _ (by have := HSZ.out; have := HLL.out; have := HBx.out; dsimp only; omega)).trans HS.2⟩ (fun HS => ?_)
      clear hK K
      try simp only [Act.put, List.getElem_toArray, List.getElem_cons_succ, List.getElem_cons_zero, List.setIfInBounds_toArray, List.set_cons_zero, List.set_cons_succ]
      refine wpAnyH_ready (rs := [6]) (by kernel_rfl) (by simp) ?_
      refine AllReadyH.cons rfl (fun K hK => ?_) AllReadyH.nil
      go_simp
      refine hK.out _ _ ⟨(World.cell?_setCell_far _ _ _ _ (by have := HSZ.out; have := HLL.out; have := HBx.out; dsimp only; omega)).trans HS.1, (World.cell?_setCell_far _ _ _ _ (by have := HSZ.out; have := HLL.out; have := HBx.out; dsimp only; omega)).trans HS.2⟩ (fun HS => ?_)
      clear hK K
      try simp only [Act.put, List.getElem_toArray, List.getElem_cons_succ, List.getElem_cons_zero, List.setIfInBounds_toArray, List.set_cons_zero, List.set_cons_succ]
      refine wpAnyH_done (by kernel_rfl) ?_ _
      clear HS
      gi_wp2
      exact ⟨⟨rfl, _, HE.out.k, HE.out.c2, by rw [HR.out]; exact HE.out.c3, by rw [HR.out]; exact HE.out.c4, by rw [HR.out]; exact HE.out.fq⟩, HSq.out.2.trans (Kq.of HE.out.kp)⟩
end Go.Proofs.YtploeheklekjjaaDoor
