/-
  Texts of this proof, joined: JqK.
-/
import Derived.Test.YthnpdcblfocemaaGreatDoorSP40
import Derived.Deep.LoopGhost
import Derived.BigQuiet
set_option linter.unusedVariables false
set_option linter.unusedSimpArgs false
namespace Go.Proofs.YthnpdcblfocemaaGreatDoor
open Go.RowKit Go.Shelf
attribute [local go_sem] Oper.semAt_some

structure Rj (w : World) (c bp g n a : Nat) (X : World) : Prop where
  j : Vb X w.heap.size 69 [.pointer (some ⟨c, 0, none⟩)]
  l : Vb X (w.heap.size + 1) 31 [.slice none 0 0]
  e : Vb X (w.heap.size + 1 + 1) 26 [.int .i64 0]
  p : Vb X bp 117 (plL g n a)
  k : Below w.heap.size w X
  lo : w.heap.size + 3 ≤ bp
theorem Rj.later {w : World} {c bp g n a : Nat} {X X' : World} (h : Rj w c bp g n a X) (k : Below X.heap.size X X') : Rj w c bp g n a X' := ⟨h.j.later k, h.l.later k, h.e.later k, h.p.later k, bchain h.k k, h.lo⟩
structure Rl17 (s : Dsk) (base size : Nat) (w : World) (c bp g : Nat) (ds : List Deferred) (ls : List (List Nat)) (v : Value) (a : Nat) (X : World) : Prop where
  r : Rj w c bp g (1 + ls.length) a X
  t : TxQ (bp + 1) X v ls
  m : Mk17 (bp + 1) ds X
  q : jread (rb s) base size g = ls ++ jrds (rb s) base size g (size - ls.length) a (1 + ls.length)
theorem Rl17.later {s : Dsk} {base size : Nat} {w : World} {c bp g : Nat} {ds : List Deferred} {ls : List (List Nat)} {v : Value} {a : Nat} {X X' : World} (h : Rl17 s base size w c bp g ds ls v a X) (k : Below X.heap.size X X') : Rl17 s base size w c bp g ds ls v a X' :=
  ⟨h.r.later k, h.t.later k, h.m.kept (fun r _ hr => k.block r (Array.getElem?_eq_some_iff.1 hr).1), h.q⟩
theorem bs_off {X : World} {g : Nat} {T : TypeId} {us : List Value} (hV : Vb X g T us) (hu : ∀ (u : Value), u ∈ us → ∀ y : Int, u ≠ .int .u8 y) {x : Value} {l : List Nat} (h : Bs X x l) : Nf (fun k => k = g) x := by
  intro a n c e hn hf
  subst e
  obtain ⟨ad, cap, e, -, -⟩ := h.len
  injection e with e1 e2 e3
  subst e2
  obtain ⟨b, o, e, hc⟩ := h.cel 0 hn
  injection e with e
  subst e
  dsimp only at hf
  subst hf
  rw [cell_of_row X b (o + 0) _ _ _ hV] at hc
  have hm : (Value.int .u8 ((l.getD 0 0 : Nat) : Int)) ∈ us := by
    have := List.mem_of_getElem? (by simpa using hc)
    exact this
  exact hu _ hm _ rfl
theorem TxQ.off {base : Nat} {X X' : World} {v : Value} {ls : List (List Nat)} (h : TxQ base X v ls) {g : Nat} {T : TypeId} {us : List Value} (hV : Vb X g T us) (hu : ∀ (u : Value), u ∈ us → ∀ y : Int, u ≠ .int .u8 y) (k : Kp (fun k => k = g) X X') (hg : g < base) : TxQ base X' v ls :=
  h.kn (fun q hq => k.block q (ownq_ge h q hq).2 (by have := (ownq_ge h q hq).1; omega)) (fun x l hx _ => k.bs hx (bs_off hV hu hx))
theorem Bs.cells {X X' : World} {v : Value} {l : List Nat} (h : Bs X v l) (k : ∀ a u, X.cell? a = some u → X'.cell? a = some u) : Bs X' v l := by
  obtain ⟨ad, cap, b, o, e, h1, h2, h3, h4⟩ := h
  exact ⟨ad, cap, b, o, e, h1, h2, h3, fun j hj => k _ _ (h4 j hj)⟩
theorem TxB.cells {B : Nat} {X X' : World} {v : Value} {ls : List (List Nat)} (h : TxB B X v ls) (k : ∀ a u, X.cell? a = some u → X'.cell? a = some u) : TxB B X' v ls := by
  obtain ⟨ad, cap, b, o, cs, h1, h2, h3, h4, h5, h6, h7⟩ := h
  exact ⟨ad, cap, b, o, cs, h1, h2, h3, h4, h5, h6, fun j hj => by obtain ⟨x, e1, e2, e3, e4⟩ := h7 j hj; exact ⟨x, e1, k _ _ e2, e3.cells k, e4⟩⟩
theorem Rl17.fin {s : Dsk} {base size : Nat} {w : World} {c bp g : Nat} {ds : List Deferred} {ls : List (List Nat)} {v : Value} {a : Nat} {X : World} (h : Rl17 s base size w c bp g ds ls v a X) :
    Hid (((X.setCell ⟨w.heap.size + 1, 0, none⟩ v).setCell ⟨w.heap.size + 1 + 1, 0, none⟩ (.int .i64 0)).cell? ⟨w.heap.size + 1, 0, none⟩ = some v ∧ ((X.setCell ⟨w.heap.size + 1, 0, none⟩ v).setCell ⟨w.heap.size + 1 + 1, 0, none⟩ (.int .i64 0)).cell? ⟨w.heap.size + 1 + 1, 0, none⟩ = some (.int .i64 0) ∧
      TxB (bp + 1) ((X.setCell ⟨w.heap.size + 1, 0, none⟩ v).setCell ⟨w.heap.size + 1 + 1, 0, none⟩ (.int .i64 0)) v ls ∧ Below w.heap.size w ((X.setCell ⟨w.heap.size + 1, 0, none⟩ v).setCell ⟨w.heap.size + 1 + 1, 0, none⟩ (.int .i64 0)) ∧ Mk17 (bp + 1) ds ((X.setCell ⟨w.heap.size + 1, 0, none⟩ v).setCell ⟨w.heap.size + 1 + 1, 0, none⟩ (.int .i64 0))) := by
  have hlo := h.r.lo
  have k1 : Kp (fun k => k = w.heap.size + 1) X (X.setCell ⟨w.heap.size + 1, 0, none⟩ v) := Kp.set (F := fun k => k = w.heap.size + 1) (Kp.refl _ _) (Or.inl rfl) _
  have k2 : Kp (fun k => k = w.heap.size + 1 + 1) (X.setCell ⟨w.heap.size + 1, 0, none⟩ v) ((X.setCell ⟨w.heap.size + 1, 0, none⟩ v).setCell ⟨w.heap.size + 1 + 1, 0, none⟩ (.int .i64 0)) := Kp.set (F := fun k => k = w.heap.size + 1 + 1) (Kp.refl _ _) (Or.inl rfl) _
  have hl := h.r.l.cell 0 _ rfl
  have he := h.r.e.cell 0 _ rfl
  have c1 : (X.setCell ⟨w.heap.size + 1, 0, none⟩ v).cell? ⟨w.heap.size + 1, 0, none⟩ = some v := World.cell?_setCell_same' _ _ _ (by rw [hl]; rfl)
  have c2 : (X.setCell ⟨w.heap.size + 1, 0, none⟩ v).cell? ⟨w.heap.size + 1 + 1, 0, none⟩ = some (.int .i64 0) := k1.cell (by dsimp only; omega) he
  have t1 := h.t.off h.r.l (fun u hu y e => by simp only [List.mem_cons, List.not_mem_nil, or_false] at hu; rw [hu] at e; cases e) k1 (by omega)
  have t2 := t1.off (h.r.e.kept (k1.block _ h.r.e.lt (by omega))) (fun u hu y e => by simp only [List.mem_cons, List.not_mem_nil, or_false] at hu; rw [hu] at e; cases e) k2 (by omega)
  refine ⟨k2.cell (by dsimp only; omega) c1, World.cell?_setCell_same' _ _ _ (by rw [c2]; rfl), t2.txb, ?_, h.m.kept (fun r hr hw => ?_)⟩
  · exact (h.r.k.setCell (by dsimp only; omega) _).setCell (by dsimp only; omega) _
  · exact (Below.heap_setCell _ _ _ _ (by dsimp only; omega)).trans (Below.heap_setCell _ _ _ _ (by dsimp only; omega))
theorem Rl17.mark {s : Dsk} {base size : Nat} {w : World} {c bp g : Nat} {ds : List Deferred} {ls : List (List Nat)} {v : Value} {a : Nat} {X X' : World} (h : Rl17 s base size w c bp g ds ls v a X) (k : Below X.heap.size X X') {r : Nat} (hw : X'.heap[r]? = some (.deferred (some []))) (hr : X.heap.size ≤ r) : Rl17 s base size w c bp g ({ target := .collected r, args := #[] } :: ds) ls v a X' := by
  have h2 := h.later k
  refine ⟨h2.r, h2.t, h2.m.cons ?_ hw (fun e he => ?_) _, h2.q⟩
  · have := h.r.p.lt; omega
  · obtain ⟨r', g1, g2, g3⟩ := h.m.m e he
    rw [g1]
    intro e2
    injection e2 with e2
    have := (Array.getElem?_eq_some_iff.1 g3).1
    omega
theorem cpO {o : Oper} {a : Act} {w : World} {K : Act → World → Prop} {Q : Exit → Act → World → Prop} (d s : Operand)
    (ho : o.op = .call { callee := .builtin .copy, args := #[d, s], argTypes := #[30, 30] })
    (g off : Nat) (xs : List Value) (t : TypeId) (b : List Nat) (n dl dc nb sc : Nat) (dp sp : Option Addr) (hd : a.eval d = .slice dp dl dc) (hs : a.eval s = .slice sp nb sc) (hV : Vb w g t xs) (hnb : b.length = nb) (hn : n = Nat.min nb dl) (hdp : 0 < n → dp = some ⟨g, off, none⟩)
    (hB : Bs w (.slice sp nb sc) b) (hfit : off + n ≤ xs.length)
    (h : ∀ w', Vb w' g t (splice xs off (b8 (b.take n))) → Kp (fun k => k = g) w w' → w'.heap.size = w.heap.size → K (a.put o.dst (goInt n)) w') : Oper.wp Tryz.prog o a w K Q := by
  obtain ⟨w', hr, h1, h2, h3⟩ := cp_run w o.type g off xs t hV b n dl dc nb sc hnb hn dp sp hdp hB hfit
  unfold Oper.wp
  simp [execOp, ho, resolve, invoke, builtin, hd, hs, hr, Result.andThen]
  exact h w' h1 h2 h3
theorem guard_tag17 (a b c d e a' b' c' d' e' : Nat) (x y : Operand) (W : World) : (eqGuard .neq 139 x y (tgV a b c d e) (tgV a' b' c' d' e')).run Tryz.prog W = .ok () W :=
  run_eqGuard_agg (P := Tryz.prog) W .neq 139 x y (tgL a b c d e).toArray (tgL a' b' c' d' e').toArray (by kernel_rfl)
theorem neq_tag17 (a b c d e a' b' c' d' e' : Nat) (v : Bool) (hv : decide (a = a' ∧ b = b' ∧ c = c' ∧ d = d' ∧ e = e') = v) (W : World) : (binOp .neq 139 (tgV a b c d e) (tgV a' b' c' d' e')).run Tryz.prog W = .ok (.bool (!v)) W := by
  have h1 := eq_tag17 a b c d e a' b' c' d' e' W
  rw [hv] at h1
  have h2 := run_neq_struct (P := Tryz.prog) W 139 (tgL a b c d e).toArray (tgL a' b' c' d' e').toArray
  refine h2.trans ?_
  rw [show (Op.equalIn 10000 139 (.agg (tgL a b c d e).toArray) (.agg (tgL a' b' c' d' e').toArray)).run Tryz.prog W = .ok v W from h1]
  rfl
structure Sr17 (g14 bp b11 g N a gR z : Nat) (hi : List Nat) (W : World) : Prop where
  v : Vb W g14 134 (b8 hi)
  n0 : W.cell? ⟨bp, 0, none⟩ = some (.int .i64 (g : Int))
  n1 : W.cell? ⟨bp, 1, none⟩ = some (.int .i64 (N : Int))
  n2 : W.cell? ⟨bp, 2, none⟩ = some (.int .i64 (a : Int))
  n3 : W.cell? ⟨b11, 0, none⟩ = some (.slice (some ⟨gR, 0, none⟩) z z)
theorem Sr17.later {g14 bp b11 g N a gR z : Nat} {hi : List Nat} {W W' : World} (h : Sr17 g14 bp b11 g N a gR z hi W) (k : Below W.heap.size W W') : Sr17 g14 bp b11 g N a gR z hi W' := ⟨h.v.later k, cell_later k h.n0, cell_later k h.n1, cell_later k h.n2, cell_later k h.n3⟩
theorem own_cells17 {base : Nat} {X : World} {v : Value} {ls : List (List Nat)} (h : TxQ base X v ls) {r : Nat} {o : Option (List Deferred)} (hr : X.heap[r]? = some (.deferred o)) : v.ownBlock ≠ some r := by
  intro e
  obtain ⟨cs, h5, -⟩ := h
  rcases h5.2 with ⟨rfl, -⟩ | ⟨gg, cap, cur, rfl, -, hh, -⟩
  · cases e
  · have : gg = r := by simpa [Value.ownBlock] using e
    subst this
    rw [hh] at hr
    cases hr
structure Jr17 (s : Dsk) (q z P N g gR : Nat) (D : List Nat) (X8 : World) (i : Nat) (X : World) : Prop where
  v : Vb X gR 5 (b8 (rct D z i))
  k : Kq X8.heap.size (fun k => k = gR) X8 X
  m : ∀ i', i' < i → (rb s (q + i')).drop 104 = jtl z P i' N g
theorem Jr17.put {s : Dsk} {q z P N g gR : Nat} {D : List Nat} {X8 : World} {i : Nat} {X X' : World} (h : Jr17 s q z P N g gR D X8 i X) (k : Kp (fun k => k = X8.heap.size + 1) X X') (hg : gR < X8.heap.size) : Jr17 s q z P N g gR D X8 i X' :=
  ⟨h.v.kept (k.block _ h.v.lt (by omega)), ⟨k.os.trans h.k.os, k.tape.trans h.k.tape, k.output.trans h.k.output, Nat.le_trans h.k.size k.size, fun i hi hi2 hn => (k.block i (Nat.lt_of_lt_of_le hi2 h.k.size) (by omega)).trans (h.k.block i hi hi2 hn)⟩, h.m⟩
set_option maxRecDepth 100000 in
set_option maxHeartbeats 8000000 in
theorem jreadL17 (V : Disk1) (w : World) (c d : Nat) (F : Nat → Prop) (s : Dsk) (base size pg pn pb g : Nat) (hP : Pj w c d base size pg pn pb) (hD : V.Dt w (.pointer (some ⟨d, 0, none⟩)) F s) (hT : JT w) (h1 : 1 ≤ g) (hg : g < 9223372036854775808) (hs : base + size ≤ s.bl.length) (hbl : s.bl.length ≤ 1000) (hd : s.dn = false) :
    Calls Tryz.prog 51 #[.pointer (some ⟨c, 0, none⟩), .int .i64 (g : Int)] w fun e w' => ∃ v, e = .returned (.tuple #[v, .int .i64 0]) ∧ TxB w.heap.size w' v (jread (rb s) base size g) ∧ Below w.heap.size w w' := by
  have hm := fun W (hB : Below w.heap.size w W) => made17 (hP.later hB)
  have HD : Hid (Pj w c d base size pg pn pb ∧ V.Dt w (.pointer (some ⟨d, 0, none⟩)) F s ∧ JT w ∧ 1 ≤ g ∧ g < 9223372036854775808 ∧ base + size ≤ s.bl.length ∧ s.bl.length ≤ 1000 ∧ s.dn = false ∧ OkD s) := ⟨hP, hD, hT, h1, hg, hs, hbl, hd, V.dtO hD⟩
  have hkI : ¬ (g : Int) < 1 := by omega
  have hkB : decide ((g : Int) < 1) = false := decide_eq_false hkI
  clear hP hD hT h1 hg hs hbl hd
  refine (callsIn_wide (n := 10)).1 ?_
  refine callsIn_of_wp_marks Tryz.func51 rfl trivial ?_ rfl
  refine wpIn_wide.2 ?_
  simp only [Tryz.ntmps51, List.size_toArray, List.length_cons, List.length_nil, Nat.reduceAdd, Nat.reduceSub, Array.replicate_succ, Array.replicate_zero, List.push_toArray, List.append_toArray, List.nil_append, List.cons_append]
  go_upto_region 1 with fail
  obtain ⟨w1, hw1⟩ : ∃ w1, w1 = ((w.alloc (.cells #[.pointer (some ⟨c, 0, none⟩)] 69)).alloc (.cells #[.slice none 0 0] 31)).alloc (.cells #[.int .i64 0] 26) := ⟨_, rfl⟩
  have H1 : Hid (Vb w1 w.heap.size 69 [.pointer (some ⟨c, 0, none⟩)] ∧ Vb w1 (w.heap.size + 1) 31 [.slice none 0 0] ∧ Vb w1 (w.heap.size + 1 + 1) 26 [.int .i64 0] ∧ Below w.heap.size w w1 ∧ w1.heap.size = w.heap.size + 3) := by
    rw [hw1]
    refine ⟨((Vb.new w _ [_]).old _).old _, ?_, ?_, ((bel1 _ _).alloc (by simp) _).alloc (by simp; omega) _, by simp⟩
    · have h := (Vb.new (w.alloc (.cells #[.pointer (some ⟨c, 0, none⟩)] 69)) 31 [.slice none 0 0]).old (.cells #[.int .i64 0] 26)
      simpa using h
    · have h := Vb.new ((w.alloc (.cells #[.pointer (some ⟨c, 0, none⟩)] 69)).alloc (.cells #[.slice none 0 0] 31)) 26 [.int .i64 0]
      simpa using h
  have x0 := H1.out.1.cell 0 _ rfl
  have hmd := hm w1 H1.out.2.2.2.1
  rw [← hw1]
  clear hw1 hm
  go_step3
  go_upto_region 3 with (go_at_call 55; refine hmd.mono ?_; rintro e w' ⟨rfl, hw⟩; replace hw := hw.symm; subst hw; clear hmd)
  have hf := first17 g w1
  unfold plJ at hf
  go_upto_region 6 with fail
  go_wp2_with (go_at_call 67; refine hf.mono ?_; rintro e w2 ⟨rfl, hB2⟩; clear hf)
  go_step3
  obtain ⟨bp, hbp⟩ : ∃ bp, w2.heap.size = bp := ⟨_, rfl⟩
  obtain ⟨w3, hw3⟩ : ∃ w3, w3 = w2.alloc (.cells #[.int .i64 (g : Int), .int .i64 1, .int .i64 0] 117) := ⟨_, rfl⟩
  have HR0 : Hid (Rl17 s base size w c bp g [] [] (.slice none 0 0) 0 w3) := by
    have hb3 : Below w2.heap.size w2 w3 := by rw [hw3]; exact bel1 _ _
    refine ⟨⟨(H1.out.1.later hB2).later hb3, (H1.out.2.1.later hB2).later hb3, (H1.out.2.2.1.later hB2).later hb3, ?_, bchain (bchain H1.out.2.2.2.1 hB2) hb3, ?_⟩, txq_nil _ _, mk17_nil _ _, rfl⟩
    · rw [hw3, ← hbp]; exact Vb.new w2 117 (plL g 1 0)
    · have := H1.out.2.2.2.2; have := hB2.size; omega
  rw [hbp, ← hw3]
  clear hB2 hbp hw3 H1 x0
  go_wp2
  refine wp_loop_ghost (fun nn a' X => ∃ (U : Nat → Value) (ds : List Deferred) (ls : List (List Nat)) (a : Nat), a' = { tmps := #[Value.pointer (some ⟨c, 0, none⟩), Value.int .i64 (g : Int), Value.pointer (some ⟨w.heap.size, 0, none⟩), undef, Value.pointer (some ⟨w.heap.size + 1, 0, none⟩), Value.pointer (some ⟨w.heap.size + 1 + 1, 0, none⟩), U 6, Value.pointer (some ⟨bp, 0, none⟩), U 8, U 9, U 10, U 11, U 12, U 13, U 14, U 15, Value.bool false, Value.pointer (some ⟨c, 0, none⟩), Value.bool true, Value.bool false, Value.bool false, Value.int .i64 (g : Int), Value.bool false, Value.int .i64 (g : Int), Value.agg #[.int .i64 (g : Int), .int .i64 1, .int .i64 0], U 25, U 26, U 27, U 28, U 29, U 30, U 31, U 32, U 33, U 34, U 35, U 36, U 37, U 38, U 39, U 40, U 41, U 42, U 43, U 44, U 45, U 46, U 47, U 48, U 49, U 50, U 51, U 52, U 53, U 54, U 55, U 56, U 57, U 58, U 59, U 60, U 61, U 62, U 63, U 64, U 65, U 66, U 67, U 68, U 69, U 70, U 71, U 72, U 73, U 74, U 75, U 76, U 77, U 78, U 79, U 80, U 81, U 82, U 83, U 84, U 85, U 86, U 87, U 88, U 89, U 90, U 91, U 92, U 93, U 94, U 95, U 96, undef], defers := ds } ∧ nn = size - a ∧ a ≤ size ∧ ls.length ≤ a ∧ Hid (Rl17 s base size w c bp g ds ls (U 6) a X)) size ?start ?round
  case start =>
    dsimp only
    exact ⟨fun i => if i = 6 then .slice none 0 0 else undef, [], [], 0, rfl, by omega, Nat.zero_le _, Nat.le_refl _, HR0.out⟩
  case round =>
    rintro nn a' X ⟨U, ds, ls, a, rfl, hnn, ha, hla, HR⟩
    clear HR0
    obtain ⟨aT, cT, e6⟩ := HR.out.t.sl
    obtain ⟨n6, hn6⟩ : ∃ n6, ls.length = n6 := ⟨_, rfl⟩
    rw [hn6] at e6
    rw [e6] at HR ⊢
    have HL6 : Hid (ls.length = n6) := hn6
    clear e6 hn6
    have x0 := HR.out.r.j.cell 0 _ rfl
    have c7 : X.cell? ⟨bp, 2, none⟩ = some (.int .i64 (a : Int)) := HR.out.r.p.cell 2 _ rfl
    have c2 : X.cell? ⟨c, 2, none⟩ = some (.int .i64 (size : Int)) := (HD.out.1.later HR.out.r.k).c2
    by_cases hlt : a < size
    · have hI : (a : Int) < (size : Int) := by omega
      have hB : decide ((a : Int) < (size : Int)) = true := decide_eq_true hI
      go_upto_region 7 with fail
      go_quiet (fail)
      have HX1 : Hid (Rl17 s base size w c bp g ds ls (.slice aT n6 cT) a (X.drewN nq)) := HR.out.later (below_drewP (Below.refl _ _) nq)
      clear x0 c7 c2 HR
      generalize X.drewN nq = X1 at *
      have x0 := HX1.out.r.j.cell 0 _ rfl
      have c7 : X1.cell? ⟨bp, 2, none⟩ = some (.int .i64 (a : Int)) := HX1.out.r.p.cell 2 _ rfl
      have C := read17 V X1 c d F s base size pg pn pb a (HD.out.1.later HX1.out.r.k) (V.dtK HD.out.2.1 (fun k hk => HX1.out.r.k.block k (V.dtB HD.out.2.1 k hk)) HX1.out.r.k.size) (by have := HD.out.2.2.2.2.2.1; omega) HD.out.2.2.2.2.2.2.1
      obtain ⟨q, hq⟩ : ∃ q, base + a = q := ⟨_, rfl⟩
      obtain ⟨h, hh⟩ : ∃ h, rb s q = h := ⟨_, rfl⟩
      have e1 : rdV s (base + a) = bkV h := by unfold rdV; rw [hq, if_neg (by rw [HD.out.2.2.2.2.2.2.2.1]; simp), hh]
      have e2 : rdN s = 0 := by unfold rdN; rw [if_neg (by rw [HD.out.2.2.2.2.2.2.2.1]; simp)]
      rw [e1, e2] at C
      have HH : Hid (base + a = q ∧ rb s q = h ∧ okb h) := ⟨hq, hh, by rw [← hh]; exact (okD_rb HD.out.2.2.2.2.2.2.2.2 HD.out.2.2.2.2.2.2.2.1 q (by have := HD.out.2.2.2.2.2.1; omega)).2⟩
      have hzb := zero_jb17
      clear e1 e2 hq hh
      go_upto_region 9 with (first
        | (go_at_call 69; refine C.mono ?_; rintro e X2 ⟨rfl, hB2⟩; clear C; have HX2 : Hid (Rl17 s base size w c bp g ds ls (.slice aT n6 cT) a X2) := hid5 (HX1.out.later hB2); clear hB2 x0 c7 HX1)
        | (refine alV rfl 134 (b8 zr15) hzb rfl ?_; intro X3 hV3 hB3 hS3)
        | (refine stV rfl 134 _ _ rfl X2.heap.size (b8 zr15) (b8 h) rfl rfl hV3 (by rw [b8_len, b8_len, HH.out.2.2.1, zr_len]) (by rw [b8_len, HH.out.2.2.1]; exact sz_jb17) (b8_one _) ?_; intro X4 hV4 hK4 hS4))
      obtain ⟨g8, hg8⟩ : ∃ g8, X2.heap.size = g8 := ⟨_, rfl⟩
      rw [hg8] at hV4 hK4 ⊢
      have HX4 : Hid (Rl17 s base size w c bp g ds ls (.slice aT n6 cT) a X4 ∧ Vb X4 g8 134 (b8 h)) := by
        refine ⟨HX2.out.later (hK4.next hB3 (fun i hi => by omega) (by omega)), hV4⟩
      clear hV3 hB3 hS3 hV4 hK4 hS4 hg8 HX2 hzb
      have hJT := HD.out.2.2.1.later HX4.out.1.r.k
      have CT := btag17 h HH.out.2.2 X4 hJT
      obtain ⟨z, hz⟩ : ∃ z, gt h 104 4 = z := ⟨_, rfl⟩
      have xi : ∀ W, (Instr.index 139 (btg h) (.int .i64 0)).run Tryz.prog W = .ok (.int .u64 (z : Int)) W := fun W => by rw [← hz]; exact idxT _ _ _ _ _ W
      have HZ : Hid (gt h 104 4 = z ∧ z < 4294967296) := ⟨hz, by rw [← hz]; exact gt_lt4 HH.out.2.2.2 104⟩
      clear hJT hz
      go_upto_region 12 with (first
        | (go_at_call 70; refine CT.mono ?_; rintro e X5 ⟨rfl, hB5⟩; clear CT; have HX5 : Hid (Rl17 s base size w c bp g ds ls (.slice aT n6 cT) a X5) := hid5 (HX4.out.1.later hB5); clear hB5 HX4)
        | (refine ldJ rfl _ rfl g8 0 h rfl HX4.out.2.all HH.out.2.2.1 ?_))
      have hzw : IntKind.i64.wrap (z : Int) = (z : Int) := by rw [IntKind.wrap_i64]; have := HZ.out; omega
      have x0 := HX5.out.r.j.cell 0 _ rfl
      have c7 : X5.cell? ⟨bp, 2, none⟩ = some (.int .i64 (a : Int)) := HX5.out.r.p.cell 2 _ rfl
      have c2 : X5.cell? ⟨c, 2, none⟩ = some (.int .i64 (size : Int)) := (HD.out.1.later HX5.out.r.k).c2
      obtain ⟨L, hL⟩ : ∃ L, size - a = L := ⟨_, rfl⟩
      have hLw : IntKind.i64.wrap ((size : Int) - (a : Int)) = (L : Int) := by rw [IntKind.wrap_i64]; have := HD.out.2.2.2.2.2; omega
      by_cases hbig : 262144 < z
      · have hbI : (262144 : Int) < (z : Int) := by omega
        have hbB : decide ((262144 : Int) < (z : Int)) = true := decide_eq_true hbI
        have HNo : Hid (jrds (rb s) base size g (size - ls.length) a (1 + ls.length) = []) := by
          refine jrds_none ?_ _
          unfold jrec
          rw [if_neg (by omega), HH.out.1, HH.out.2.1, HZ.out.1, if_pos (Or.inl hbig)]
        go_quiet (fail)
        have HX6 : Hid (Rl17 s base size w c bp g ds ls (.slice aT n6 cT) a (X5.drewN nq)) := HX5.out.later (below_drewP (Below.refl _ _) nq)
        clear x0 c7 c2 HX5
        generalize X5.drewN nq = X6 at *
        have e1 := HX6.out.r.l.cell 0 _ rfl
        have e2 := HX6.out.r.e.cell 0 _ rfl
        have f1 := HX6.out.r.l.fro 0
        have f2 := HX6.out.r.e.fro 0
        go_wp2
        try rw [Exit.noGoto_ret]
        have HF := Rl17.fin HX6.out
        refine leaves_marks (by simp) (bp + 1) ds _ HF.out.2.2.2.2 (fun w' kc kp => ?_)
        have z1 := kc _ _ HF.out.1
        have z2 := kc _ _ HF.out.2.1
        have HT : Hid (TxB w.heap.size w' (.slice aT n6 cT) (jread (rb s) base size g) ∧ Below w.heap.size w w') := by
          refine ⟨?_, kp.next HF.out.2.2.2.1 (fun i hi => by have := HX6.out.r.lo; omega) HF.out.2.2.2.1.size⟩
          rw [HX6.out.q, HNo.out, List.append_nil]
          exact (HF.out.2.2.1.cells kc).low (by first | (have := HX6.out.r.lo; omega) | (have := HXm.out.r.lo; omega))
        exact ⟨.tuple #[.slice aT n6 cT, .int .i64 0], by simp [results, Tryz.results51, go_sem, z1, z2], _, rfl, HT.out.1, HT.out.2⟩
      · have hbI : ¬ (262144 : Int) < (z : Int) := by omega
        have hbB : decide ((262144 : Int) < (z : Int)) = false := decide_eq_false hbI
        have hN := needs17 z (by omega)
        obtain ⟨P, hP⟩ : ∃ P, prt z = P := ⟨_, rfl⟩
        rw [hP] at hN
        by_cases hful : L < P
        · have hfI : (L : Int) < (P : Int) := by omega
          have hfB : decide ((L : Int) < (P : Int)) = true := decide_eq_true hfI
          have HNo : Hid (jrds (rb s) base size g (size - ls.length) a (1 + ls.length) = []) := by
            refine jrds_none ?_ _
            unfold jrec
            rw [if_neg (by omega), HH.out.1, HH.out.2.1, HZ.out.1, if_pos (Or.inr (by omega))]
          go_quiet ((go_at_call 57; exact Calls.quiet_of_same (hN _)))
          have HX6 : Hid (Rl17 s base size w c bp g ds ls (.slice aT n6 cT) a (X5.drewN nq)) := HX5.out.later (below_drewP (Below.refl _ _) nq)
          clear x0 c7 c2 HX5 hN
          generalize X5.drewN nq = X6 at *
          have e1 := HX6.out.r.l.cell 0 _ rfl
          have e2 := HX6.out.r.e.cell 0 _ rfl
          have f1 := HX6.out.r.l.fro 0
          have f2 := HX6.out.r.e.fro 0
          go_wp2
          try rw [Exit.noGoto_ret]
          have HF := Rl17.fin HX6.out
          refine leaves_marks (by simp) (bp + 1) ds _ HF.out.2.2.2.2 (fun w' kc kp => ?_)
          have z1 := kc _ _ HF.out.1
          have z2 := kc _ _ HF.out.2.1
          have HT : Hid (TxB w.heap.size w' (.slice aT n6 cT) (jread (rb s) base size g) ∧ Below w.heap.size w w') := by
            refine ⟨?_, kp.next HF.out.2.2.2.1 (fun i hi => by have := HX6.out.r.lo; omega) HF.out.2.2.2.1.size⟩
            rw [HX6.out.q, HNo.out, List.append_nil]
            exact (HF.out.2.2.1.cells kc).low (by first | (have := HX6.out.r.lo; omega) | (have := HXm.out.r.lo; omega))
          exact ⟨.tuple #[.slice aT n6 cT, .int .i64 0], by simp [results, Tryz.results51, go_sem, z1, z2], _, rfl, HT.out.1, HT.out.2⟩
        · have hfI : ¬ (L : Int) < (P : Int) := by omega
          have hfB : decide ((L : Int) < (P : Int)) = false := decide_eq_false hfI
          have HPz : Hid (prt z = P ∧ P ≤ size - a ∧ z ≤ 262144 ∧ z ≤ P * 104 ∧ 1 ≤ P ∧ P ≤ 1000) := ⟨hP, by omega, by omega, by rw [← hP]; exact prt_room z, by rw [← hP]; exact prt_pos z, by have := HD.out.2.2.2.2.2.1; have := HD.out.2.2.2.2.2.2.1; omega⟩
          go_quiet ((go_at_call 57; exact Calls.quiet_of_same (hN _)))
          have HX6 : Hid (Rl17 s base size w c bp g ds ls (.slice aT n6 cT) a (X5.drewN nq)) := HX5.out.later (below_drewP (Below.refl _ _) nq)
          clear x0 c7 c2 HX5 hN hP hL hLw hzw hful
          generalize X5.drewN nq = X6 at *
          have km := make17 z (by have := HPz.out; omega)
          go_upto_region 14 with fail
          obtain ⟨gR, hgR⟩ : ∃ gR, X6.heap.size = gR := ⟨_, rfl⟩
          obtain ⟨b11, hb11⟩ : ∃ b11, gR + 1 = b11 := ⟨_, rfl⟩
          obtain ⟨X7, hX7⟩ : ∃ X7, X7 = (X6.alloc (.cells (b8 (List.replicate z 0)).toArray 5)).alloc (.cells #[.slice (some ⟨gR, 0, none⟩) z z] 30) := ⟨_, rfl⟩
          have H7 : Hid (Below X6.heap.size X6 X7 ∧ Vb X7 gR 5 (b8 (List.replicate z 0)) ∧ X7.cell? ⟨b11, 0, none⟩ = some (.slice (some ⟨gR, 0, none⟩) z z) ∧ X7.heap.size = gR + 2) := by
            rw [hX7]
            refine ⟨(bel1 _ _).alloc (by simp) _, ?_, ?_, by simp; omega⟩
            · have h := (Vb.new X6 5 (b8 (List.replicate z 0))).old (.cells #[.slice (some ⟨gR, 0, none⟩) z z] 30)
              rw [hgR] at h
              exact h
            · rw [← hb11, ← hgR]
              simp [go_sem]
          rw [hgR, hb11, ← hX7]
          have c11 := H7.out.2.2.1
          have hch := parts17 (some ⟨gR, 0, none⟩) z z X7
          clear hX7 km
          go_wp2_with (go_at_call 71; refine hch.mono ?_; rintro e X8 ⟨rfl, hX8⟩; clear hch)
          have e7 := H7.out.2.2.2
          rw [e7, ← hX8]
          obtain ⟨b3, hb3⟩ : ∃ b3, gR + 2 = b3 := ⟨_, rfl⟩
          have HZ8 : Hid (X6.heap.size = gR ∧ b11 = gR + 1 ∧ b3 = gR + 2 ∧ X8.heap.size = gR + 3) := ⟨hgR, hb11.symm, hb3.symm, by rw [hX8, World.size_alloc]; omega⟩
          have hB8 : Below X7.heap.size X7 X8 := by rw [hX8]; exact bel1 _ _
          have H8 : Hid (Below X6.heap.size X6 X8 ∧ Vb X8 gR 5 (b8 (List.replicate z 0)) ∧ X8.cell? ⟨b11, 0, none⟩ = some (.slice (some ⟨gR, 0, none⟩) z z) ∧ X8.cell? ⟨b3, 0, none⟩ = some (.slice (some ⟨gR, 0, none⟩) z z)) := by
            refine ⟨bchain H7.out.1 hB8, H7.out.2.1.later hB8, cell_later hB8 H7.out.2.2.1, ?_⟩
            rw [← hb3, ← e7, hX8]
            simp [go_sem]
          rw [hb3]
          clear hX8 hB8 e7 c11 H7 hgR hb11 hb3
          obtain ⟨N, hNm⟩ : ∃ N, 1 + ls.length = N := ⟨_, rfl⟩
          have HNm : Hid (1 + ls.length = N ∧ N ≤ 1001) := ⟨hNm, by have := HD.out.2.2.2.2.2.1; have := HD.out.2.2.2.2.2.2.1; omega⟩
          obtain ⟨D, hDd⟩ : ∃ D, (List.range P).flatMap (fun i => (rb s (q + i)).take 104) = D := ⟨_, rfl⟩
          have HDd : Hid ((List.range P).flatMap (fun i => (rb s (q + i)).take 104) = D) := hDd
          clear hNm hDd
          have HTl : Hid (Tells0 Fence.wide 9 Tryz.prog 88 #[.pointer (some ⟨b3, 0, none⟩)] (List.range (prt z)) (EA17 gR 0 z z) (fun k => k = gR) X8) :=
            parts_tellsA b3 _ gR 0 z z (Nat.le_refl _) (by have := HPz.out; omega) (by have := HPz.out; omega) (fun e => by have := HZ8.out; omega) H8.out.2.2.2
          refine (wpIn_wide (n := 10)).1 ?_
          refine range_told0 (FB := fun k => k = gR) rfl (by omega) (gf := 88) (lb := #[.pointer (some ⟨b3, 0, none⟩)]) rfl trivial (enters_of Tryz.func88 (by kernel_rfl) rfl) HTl.out ?f4 ?f5 (fun k => k = gR) ?f6
            (fun i X => Jr17 s q z P N g gR D X8 i X) (fun cd i X => cd = Code.exit 1 ∧ (∃ i', i' < P ∧ ¬ (rb s (q + i')).drop 104 = jtl z P i' N g) ∧ Kq X8.heap.size (fun k => k = gR) X8 X)
            (fun i a' X => a' = { tmps := #[Value.pointer (some ⟨c, 0, none⟩), Value.int .i64 (g : Int), Value.pointer (some ⟨w.heap.size, 0, none⟩), undef, Value.pointer (some ⟨w.heap.size + 1, 0, none⟩), Value.pointer (some ⟨w.heap.size + 1 + 1, 0, none⟩), Value.slice aT n6 cT, Value.pointer (some ⟨bp, 0, none⟩), Value.pointer (some ⟨g8, 0, none⟩), Value.int .i64 0, Value.int .u64 (z : Int), Value.pointer (some ⟨b11, 0, none⟩), Value.int .i64 (i : Int), pcV gR 0 z z i, U 14, U 15, Value.bool false, Value.pointer (some ⟨c, 0, none⟩), Value.bool true, Value.bool false, Value.bool false, Value.int .i64 (g : Int), Value.bool false, Value.int .i64 (g : Int), Value.agg #[.int .i64 (g : Int), .int .i64 1, .int .i64 0], Value.pointer (some ⟨bp, 2, none⟩), Value.int .i64 (a : Int), Value.pointer (some ⟨c, 0, none⟩), Value.pointer (some ⟨c, 0, none⟩), Value.pointer (some ⟨c, 2, none⟩), Value.int .i64 (size : Int), Value.bool true, Value.tuple #[bkV h, .int .i64 0], Value.pointer (some ⟨c, 0, none⟩), Value.pointer (some ⟨bp, 2, none⟩), Value.int .i64 (a : Int), Value.tuple #[bkV h, .int .i64 0], bkV h, Value.int .i64 0, Value.int .i64 0, Value.bool false, U 41, bkV h, btg h, Value.int .u64 (z : Int), Value.int .u64 (z : Int), Value.bool false, Value.bool false, Value.int .u64 (z : Int), Value.int .i64 (z : Int), Value.int .i64 (P : Int), Value.pointer (some ⟨c, 0, none⟩), Value.pointer (some ⟨c, 0, none⟩), Value.pointer (some ⟨c, 2, none⟩), Value.int .i64 (size : Int), Value.pointer (some ⟨bp, 2, none⟩), Value.int .i64 (a : Int), Value.int .i64 (L : Int), Value.bool false, Value.bool false, Value.int .u64 (z : Int), Value.slice (some ⟨gR, 0, none⟩) z z, Value.slice (some ⟨gR, 0, none⟩) z z, Value.func (Fn.func 88) #[] #[Value.pointer (some ⟨b3, 0, none⟩)], Value.int .i64 (i : Int), pcV gR 0 z z i, U 66, U 67, U 68, U 69, U 70, U 71, U 72, U 73, U 74, U 75, U 76, U 77, U 78, U 79, U 80, U 81, U 82, U 83, U 84, U 85, U 86, U 87, U 88, U 89, U 90, U 91, U 92, U 93, U 94, U 95, U 96, undef], defers := [] } ∧ i < P ∧ Jr17 s q z P N g gR D X8 i X)
            ?f7 ?f8 ?f9 ?f10 ?assign ?body ?done ?left
          case f4 => rintro y args Xp X rfl; rfl
          case f5 => intro k hk; have := HZ8.out; omega
          case f6 => intro k hk; have := HZ8.out; omega
          case f7 => intro i X X' hX k; exact hX.put k (by have := HZ8.out; omega)
          case f8 =>
            rintro cd i X X' ⟨rfl, h1, h2⟩ k
            exact ⟨rfl, h1, ⟨k.os.trans h2.os, k.tape.trans h2.tape, k.output.trans h2.output, Nat.le_trans h2.size k.size, fun i hi hi2 hn => (k.block i (Nat.lt_of_lt_of_le hi2 h2.size) (by omega)).trans (h2.block i hi hi2 hn)⟩⟩
          case f9 =>
            rintro i a' X X' ⟨ha', h1, h2⟩ k
            exact ⟨ha', h1, h2.put k (by have := HZ8.out; omega)⟩
          case f10 => exact ⟨by rw [rct_zero]; exact H8.out.2.1, ⟨rfl, rfl, rfl, Nat.le_refl _, fun _ _ _ _ => rfl⟩, fun i' hi' => by omega⟩
          case assign =>
            rintro i u args Xp X hu hX hpX hE hsz hno
            have hiP : i < P ∧ u = i := by
              obtain ⟨h1, h2⟩ := List.getElem?_eq_some_iff.1 hu
              rw [List.length_range, HPz.out.1] at h1
              rw [List.getElem_range] at h2
              exact ⟨h1, h2.symm⟩
            obtain ⟨hiP, rfl⟩ := hiP
            have HX : Hid (u < P ∧ Jr17 s q z P N g gR D X8 u X) := ⟨hiP, hX.put (Kp.of hpX) (by have := HZ8.out; omega)⟩
            rw [show args = #[.int .i64 (u : Int), pcV gR 0 z z u] from hE]
            clear hX hpX hno hsz hE hu hiP
            gi_wp2
            exact ⟨⟨(by first | trivial | rfl), HX.out⟩, Kq.of (Kp.refl _ _)⟩
          case done =>
            rintro X hX hD
            rw [List.length_range, HPz.out.1] at hX
            have hk := hX.k
            have kB : Below X6.heap.size X6 X := by
              have hb := H8.out.1
              have hz := HZ8.out
              exact ⟨hk.os.trans hb.os, hk.tape.trans hb.tape, hk.output.trans hb.output, Nat.le_trans hb.size hk.size, fun k hk2 => (hk.block k (by omega) (by omega) (by omega)).trans (hb.block k hk2)⟩
            have HXm : Hid (Rl17 s base size w c bp g ({ target := .collected X8.heap.size, args := #[] } :: ds) ls (.slice aT n6 cT) a X) := HX6.out.mark kB hD (by have := HZ8.out; omega)
            have hlen : ∀ i', i' < P → (rb s (q + i')).length = 128 := fun i' hi' => by
              rw [← HH.out.1, show base + a + i' = base + (a + i') by omega]
              exact (okD_rb HD.out.2.2.2.2.2.2.2.2 HD.out.2.2.2.2.2.2.2.1 (base + (a + i')) (by have := HD.out.2.2.2.2.2.1; have := HPz.out; omega)).2.1
            have hdl : D.length = P * 104 := by rw [← HDd.out]; exact jal_len hlen
            obtain ⟨r, hr⟩ : ∃ r, D.take z = r := ⟨_, rfl⟩
            have hrl : r.length = z := by rw [← hr, List.length_take, hdl]; have := HPz.out; omega
            have hV := hX.v
            rw [rct_all D z P HPz.out.2.2.2.1, hr] at hV
            have hBs : Bs X (.slice (some ⟨gR, 0, none⟩) z z) r := by
              have h1 := hV.bs 0 r (fun j hj => by rw [Nat.zero_add]; exact b8_cell _ _ hj) z (by omega) (by unfold maxLen; have := HPz.out; omega)
              rw [hrl] at h1
              exact h1
            have hrec : jrec (rb s) base size a N g = some r := by
              unfold jrec
              rw [if_neg (by omega), HH.out.1, HH.out.2.1, HZ.out.1, if_neg (by have := HPz.out; omega), HPz.out.1, if_pos hX.m]
              unfold jall
              rw [HPz.out.1, HDd.out, hr]
            have HRc : Hid (r.length = z ∧ jrds (rb s) base size g (size - ls.length) a (1 + ls.length) = r :: jrds (rb s) base size g (size - (ls.length + 1)) (a + P) (1 + (ls.length + 1))) := by
              refine ⟨hrl, ?_⟩
              rw [show size - ls.length = size - (ls.length + 1) + 1 by omega, HNm.out.1, jrds_some hrec, hrl, HPz.out.1, ← HNm.out.1]
              rfl
            have hO : ∀ gg, Value.ownBlock (.slice aT n6 cT) = some gg → Nb (.slice (some ⟨gR, 0, none⟩) z z) gg := fun gg hgg x n' c' e h0 e2 => by
              have h1 := (ownq_ge HX6.out.t gg hgg).2
              cases e
              dsimp only at e2
              have := HZ8.out
              omega
            have hbp : bp + 1 ≤ X.heap.size := by have := HXm.out.r.p.lt; omega
            have c11 : X.cell? ⟨b11, 0, none⟩ = some (.slice (some ⟨gR, 0, none⟩) z z) := cell_blk5 (a := ⟨b11, 0, none⟩) (hk.block b11 (by have := HZ8.out; omega) (by have := HZ8.out; omega) (by have := HZ8.out; omega)) H8.out.2.2.1
            have HA : Hid (Bs X (.slice (some ⟨gR, 0, none⟩) z z) r ∧ bp + 1 ≤ X.heap.size ∧ gR + 3 ≤ X.heap.size ∧ bp + 1 ≤ gR) := ⟨hBs, hbp, by have := hk.size; have := HZ8.out; omega, by have := HX6.out.r.p.lt; have := HZ8.out; omega⟩
            clear hX hk kB hD hlen hdl hr hrl hV hBs hrec hbp
            go_upto_region 23 with (at_builtin; go_loud (refine apTq rfl _ _ rfl (bp + 1) (.slice aT n6 cT) ls rfl HXm.out.t (some ⟨gR, 0, none⟩) z z r HA.out.1 (fun a n' c' e h0 => (by cases e; exact HA.out.2.2.2)) hO _ rfl (by have := HL6.out; have := HD.out.2.2.2.2.2; omega) HA.out.2.1 ?_; intro v9 X9 hT9 hg9 hk9 hn9))
            have hb9 : Below (bp + 1) X X9 := hg9.1 X (Below.refl _ _)
            have hlo := HXm.out.r.lo
            have HR9 : Hid (Rj w c bp g N a X9) := by
              have hr := HXm.out.r
              rw [HNm.out.1] at hr
              exact ⟨hr.j.kept (hb9.block _ (by omega)), hr.l.kept (hb9.block _ (by omega)), hr.e.kept (hb9.block _ (by omega)), hr.p.kept (hb9.block _ (by omega)), hr.k.trans (hb9.mono (by omega)), hr.lo⟩
            have HM9 : Hid (Mk17 (bp + 1) ({ target := .collected X8.heap.size, args := #[] } :: ds) X9) := HXm.out.m.kept (fun rr _ hw => hk9 rr (Array.getElem?_eq_some_iff.1 hw).1 (own_cells17 HXm.out.t hw))
            have c11 : X9.cell? ⟨b11, 0, none⟩ = some (.slice (some ⟨gR, 0, none⟩) z z) := cell_blk5 (a := ⟨b11, 0, none⟩) (hk9 b11 (by have := HA.out.2.2.1; have := HZ8.out; omega) (fun e => by have := (ownq_ge HX6.out.t b11 e).2; have := HZ8.out; omega)) c11
            obtain ⟨n9, hn9'⟩ : ∃ n9, (ls ++ [r]).length = n9 := ⟨_, rfl⟩
            obtain ⟨a9, p9, rfl⟩ := hT9.sl
            rw [hn9'] at hT9 ⊢
            have HT9 : Hid (TxQ (bp + 1) X9 (.slice a9 n9 p9) (ls ++ [r]) ∧ (ls ++ [r]).length = n9 ∧ n9 = ls.length + 1) := ⟨hT9, hn9', by rw [← hn9']; simp⟩
            have hbh := behind17 g N a z (by have := HNm.out; omega) (by have := HPz.out; have := HD.out.2.2.2.2.2; omega) (by have := HPz.out; omega) X9
            rw [HPz.out.1] at hbh
            unfold plJ at hbh
            have c0 := HR9.out.p.cell 0 _ rfl
            have c1 := HR9.out.p.cell 1 _ rfl
            have c2 := HR9.out.p.cell 2 _ rfl
            clear hT9 hg9 hk9 hn9 hb9 hlo hn9' hO
            go_wp2_with (first
              | (go_at_call 59; refine hbh.mono ?_; rintro e Y ⟨rfl, hBY⟩; have HY : Hid (Below X9.heap.size X9 Y) := hid5 hBY; clear hbh hBY c0 c1 c2)
              | (refine stV rfl 117 _ _ rfl bp (plL g N a) (plL g (N + 1) (a + P)) rfl rfl (HR9.out.p.later HY.out) rfl sz_pl17 (plL_one _ _ _) ?_; intro Z hVZ hKZ hSZ))
            have HRZ : Hid (Rl17 s base size w c bp g ({ target := .collected X8.heap.size, args := #[] } :: ds) (ls ++ [r]) (.slice a9 n9 p9) (a + P) Z) := by
              have hy := HR9.out.later HY.out
              have hlo := HR9.out.lo
              refine ⟨⟨hy.j.kept (hKZ.block _ hy.j.lt (by omega)), hy.l.kept (hKZ.block _ hy.l.lt (by omega)), hy.e.kept (hKZ.block _ hy.e.lt (by omega)), ?_, hKZ.next hy.k (fun k hk => by omega) hy.k.size, hlo⟩, ?_, ?_, ?_⟩
              · rw [HT9.out.2.1, show 1 + n9 = N + 1 by have := HT9.out.2.2; have := HNm.out; omega]
                exact hVZ
              · exact (HT9.out.1.later HY.out).off hy.p (fun u hu y e => by simp only [plL, List.mem_cons, List.not_mem_nil, or_false] at hu; rcases hu with rfl | rfl | rfl <;> cases e) hKZ (by omega)
              · refine HM9.out.kept (fun rr hlr hw => ?_)
                have hlt := (Array.getElem?_eq_some_iff.1 hw).1
                exact (hKZ.block rr (Nat.lt_of_lt_of_le hlt HY.out.size) (by omega)).trans (HY.out.block rr hlt)
              · rw [HXm.out.q, HRc.out.2, HT9.out.2.1, HT9.out.2.2, List.append_assoc]
                rfl
            clear hVZ hKZ hSZ c11
            have key : ∀ A : Act, A = { tmps := #[Value.pointer (some ⟨c, 0, none⟩), Value.int .i64 (g : Int), Value.pointer (some ⟨w.heap.size, 0, none⟩), undef, Value.pointer (some ⟨w.heap.size + 1, 0, none⟩), Value.pointer (some ⟨w.heap.size + 1 + 1, 0, none⟩), A.tmps.getD 6 undef, Value.pointer (some ⟨bp, 0, none⟩), A.tmps.getD 8 undef, A.tmps.getD 9 undef, A.tmps.getD 10 undef, A.tmps.getD 11 undef, A.tmps.getD 12 undef, A.tmps.getD 13 undef, A.tmps.getD 14 undef, A.tmps.getD 15 undef, Value.bool false, Value.pointer (some ⟨c, 0, none⟩), Value.bool true, Value.bool false, Value.bool false, Value.int .i64 (g : Int), Value.bool false, Value.int .i64 (g : Int), Value.agg #[.int .i64 (g : Int), .int .i64 1, .int .i64 0], A.tmps.getD 25 undef, A.tmps.getD 26 undef, A.tmps.getD 27 undef, A.tmps.getD 28 undef, A.tmps.getD 29 undef, A.tmps.getD 30 undef, A.tmps.getD 31 undef, A.tmps.getD 32 undef, A.tmps.getD 33 undef, A.tmps.getD 34 undef, A.tmps.getD 35 undef, A.tmps.getD 36 undef, A.tmps.getD 37 undef, A.tmps.getD 38 undef, A.tmps.getD 39 undef, A.tmps.getD 40 undef, A.tmps.getD 41 undef, A.tmps.getD 42 undef, A.tmps.getD 43 undef, A.tmps.getD 44 undef, A.tmps.getD 45 undef, A.tmps.getD 46 undef, A.tmps.getD 47 undef, A.tmps.getD 48 undef, A.tmps.getD 49 undef, A.tmps.getD 50 undef, A.tmps.getD 51 undef, A.tmps.getD 52 undef, A.tmps.getD 53 undef, A.tmps.getD 54 undef, A.tmps.getD 55 undef, A.tmps.getD 56 undef, A.tmps.getD 57 undef, A.tmps.getD 58 undef, A.tmps.getD 59 undef, A.tmps.getD 60 undef, A.tmps.getD 61 undef, A.tmps.getD 62 undef, A.tmps.getD 63 undef, A.tmps.getD 64 undef, A.tmps.getD 65 undef, A.tmps.getD 66 undef, A.tmps.getD 67 undef, A.tmps.getD 68 undef, A.tmps.getD 69 undef, A.tmps.getD 70 undef, A.tmps.getD 71 undef, A.tmps.getD 72 undef, A.tmps.getD 73 undef, A.tmps.getD 74 undef, A.tmps.getD 75 undef, A.tmps.getD 76 undef, A.tmps.getD 77 undef, A.tmps.getD 78 undef, A.tmps.getD 79 undef, A.tmps.getD 80 undef, A.tmps.getD 81 undef, A.tmps.getD 82 undef, A.tmps.getD 83 undef, A.tmps.getD 84 undef, A.tmps.getD 85 undef, A.tmps.getD 86 undef, A.tmps.getD 87 undef, A.tmps.getD 88 undef, A.tmps.getD 89 undef, A.tmps.getD 90 undef, A.tmps.getD 91 undef, A.tmps.getD 92 undef, A.tmps.getD 93 undef, A.tmps.getD 94 undef, A.tmps.getD 95 undef, A.tmps.getD 96 undef, undef], defers := A.defers } → Hid (Rl17 s base size w c bp g A.defers (ls ++ [r]) (A.tmps.getD 6 undef) (a + P) Z) → ∃ (U : Nat → Value) (ds : List Deferred) (ls : List (List Nat)) (a' : Nat), A = (fun U ds => ({ tmps := #[Value.pointer (some ⟨c, 0, none⟩), Value.int .i64 (g : Int), Value.pointer (some ⟨w.heap.size, 0, none⟩), undef, Value.pointer (some ⟨w.heap.size + 1, 0, none⟩), Value.pointer (some ⟨w.heap.size + 1 + 1, 0, none⟩), U 6, Value.pointer (some ⟨bp, 0, none⟩), U 8, U 9, U 10, U 11, U 12, U 13, U 14, U 15, Value.bool false, Value.pointer (some ⟨c, 0, none⟩), Value.bool true, Value.bool false, Value.bool false, Value.int .i64 (g : Int), Value.bool false, Value.int .i64 (g : Int), Value.agg #[.int .i64 (g : Int), .int .i64 1, .int .i64 0], U 25, U 26, U 27, U 28, U 29, U 30, U 31, U 32, U 33, U 34, U 35, U 36, U 37, U 38, U 39, U 40, U 41, U 42, U 43, U 44, U 45, U 46, U 47, U 48, U 49, U 50, U 51, U 52, U 53, U 54, U 55, U 56, U 57, U 58, U 59, U 60, U 61, U 62, U 63, U 64, U 65, U 66, U 67, U 68, U 69, U 70, U 71, U 72, U 73, U 74, U 75, U 76, U 77, U 78, U 79, U 80, U 81, U 82, U 83, U 84, U 85, U 86, U 87, U 88, U 89, U 90, U 91, U 92, U 93, U 94, U 95, U 96, undef], defers := ds } : Act)) U ds ∧ size - (a + P) = size - a' ∧ a' ≤ size ∧ ls.length ≤ a' ∧ Hid (Rl17 s base size w c bp g ds ls (U 6) a' Z) := fun A hA hR =>
              ⟨fun i => A.tmps.getD i undef, A.defers, ls ++ [r], a + P, hA, rfl, by have := HPz.out; omega, by rw [HT9.out.2.1]; have := HT9.out.2.2; have := HPz.out; omega, hR⟩
            exact ⟨size - (a + P), by have := HPz.out; omega, key _ rfl HRZ⟩
          case left =>
            rintro cd i X hi ⟨rfl, ⟨i', h1, h2⟩, hk⟩ hD
            have kB : Below X6.heap.size X6 X := by
              have hb := H8.out.1
              have hz := HZ8.out
              exact ⟨hk.os.trans hb.os, hk.tape.trans hb.tape, hk.output.trans hb.output, Nat.le_trans hb.size hk.size, fun k hk2 => (hk.block k (by omega) (by omega) (by omega)).trans (hb.block k hk2)⟩
            have HXm : Hid (Rl17 s base size w c bp g ({ target := .collected X8.heap.size, args := #[] } :: ds) ls (.slice aT n6 cT) a X) := HX6.out.mark kB hD (by have := HZ8.out; omega)
            have HNo : Hid (jrds (rb s) base size g (size - ls.length) a (1 + ls.length) = []) := by
              refine jrds_none ?_ _
              unfold jrec
              rw [if_neg (by omega), HH.out.1, HH.out.2.1, HZ.out.1, if_neg (by have := HPz.out; omega), HNm.out.1, if_neg (fun hall => h2 (by rw [← HPz.out.1]; exact hall i' (by rw [HPz.out.1]; exact h1)))]
            clear h1 h2 hk hD hi kB
            have e1 := HXm.out.r.l.cell 0 _ rfl
            have e2 := HXm.out.r.e.cell 0 _ rfl
            have f1 := HXm.out.r.l.fro 0
            have f2 := HXm.out.r.e.fro 0
            refine wpIn_wide.2 ?_
            go_wp2
            try rw [Exit.noGoto_ret]
            have HF := Rl17.fin HXm.out
            refine leaves_marks (by simp) (bp + 1) _ _ HF.out.2.2.2.2 (fun w' kc kp => ?_)
            have z1 := kc _ _ HF.out.1
            have z2 := kc _ _ HF.out.2.1
            have HT : Hid (TxB w.heap.size w' (.slice aT n6 cT) (jread (rb s) base size g) ∧ Below w.heap.size w w') := by
              refine ⟨?_, kp.next HF.out.2.2.2.1 (fun i hi => by have := HXm.out.r.lo; omega) HF.out.2.2.2.1.size⟩
              rw [HXm.out.q, HNo.out, List.append_nil]
              exact (HF.out.2.2.1.cells kc).low (by first | (have := HX6.out.r.lo; omega) | (have := HXm.out.r.lo; omega))
            exact ⟨.tuple #[.slice aT n6 cT, .int .i64 0], by simp [results, Tryz.results51, go_sem, z1, z2], _, rfl, HT.out.1, HT.out.2⟩
          case body =>
            rintro i y a' X hy ⟨rfl, hiP, hJ⟩ hsz
            have kB : Below X6.heap.size X6 X := by
              have hb := H8.out.1
              have hz := HZ8.out
              exact ⟨hJ.k.os.trans hb.os, hJ.k.tape.trans hb.tape, hJ.k.output.trans hb.output, Nat.le_trans hb.size hJ.k.size, fun k hk => (hJ.k.block k (by omega) (by omega) (by omega)).trans (hb.block k hk)⟩
            have HRx : Hid (Rl17 s base size w c bp g ds ls (.slice aT n6 cT) a X) := HX6.out.later kB
            have hc11 : X.cell? ⟨b11, 0, none⟩ = some (.slice (some ⟨gR, 0, none⟩) z z) := cell_blk5 (a := ⟨b11, 0, none⟩) (hJ.k.block b11 (by have := HZ8.out; omega) (by have := HZ8.out; omega) (by have := HZ8.out; omega)) H8.out.2.2.1
            have HJi : Hid (Jr17 s q z P N g gR D X8 i X ∧ X8.heap.size + 2 ≤ X.heap.size ∧ i < P ∧ X.cell? ⟨b11, 0, none⟩ = some (.slice (some ⟨gR, 0, none⟩) z z)) := ⟨hJ, hsz, hiP, hc11⟩
            have x0 := HRx.out.r.j.cell 0 _ rfl
            have c7 : X.cell? ⟨bp, 2, none⟩ = some (.int .i64 (a : Int)) := HRx.out.r.p.cell 2 _ rfl
            obtain ⟨ai, hai⟩ : ∃ ai, a + i = ai := ⟨_, rfl⟩
            obtain ⟨hi, hhi⟩ : ∃ hi, rb s (q + i) = hi := ⟨_, rfl⟩
            have y1 : IntKind.i64.wrap ((a : Int) + (i : Int)) = (ai : Int) := by rw [IntKind.wrap_i64]; have := HPz.out; have := HD.out.2.2.2.2.2.1; have := HD.out.2.2.2.2.2.2.1; omega
            have C := read17 V X c d F s base size pg pn pb ai (HD.out.1.later HRx.out.r.k) (V.dtK HD.out.2.1 (fun k hk => HRx.out.r.k.block k (V.dtB HD.out.2.1 k hk)) HRx.out.r.k.size) (by have := HD.out.2.2.2.2.2.1; have := HPz.out; omega) HD.out.2.2.2.2.2.2.1
            have hq2 : base + ai = q + i := by have := HH.out.1; omega
            have e1 : rdV s (base + ai) = bkV hi := by unfold rdV; rw [hq2, if_neg (by rw [HD.out.2.2.2.2.2.2.2.1]; simp), hhi]
            have e2 : rdN s = 0 := by unfold rdN; rw [if_neg (by rw [HD.out.2.2.2.2.2.2.2.1]; simp)]
            rw [e1, e2] at C
            have HHi : Hid (rb s (q + i) = hi ∧ okb hi) := ⟨hhi, by rw [← hhi]; exact (okD_rb HD.out.2.2.2.2.2.2.2.2 HD.out.2.2.2.2.2.2.2.1 (q + i) (by have := HD.out.2.2.2.2.2.1; have := HPz.out; have := HH.out.1; omega)).2⟩
            have hzb := zero_jb17
            clear e1 e2 hai hhi hJ hsz hiP hy kB hc11 hq2
            gi_wp2
            refine ⟨trivial, (callsIn_wide (n := 7)).2 ?_⟩
            refine C.mono ?_
            rintro e Y ⟨rfl, hBY⟩
            have HY : Hid (Below X.heap.size X Y) := hBY
            clear C hBY x0 c7
            gi_wp2_with (first
              | (refine list_round rfl (by intro c hc; cases hc) (fun K hK => alO 134 (b8 zr15) hzb rfl (fun Y1 hV1 hB1 hS1 => hK _ _ ?_)))
              | (refine list_round rfl (by intro c hc; cases hc) (fun K hK => stO 134 _ _ rfl Y.heap.size (b8 zr15) (b8 hi) (by first | rfl | (go_simp; done)) (by first | rfl | (go_simp; done)) hV1 (by rw [b8_len, b8_len, HHi.out.2.1, zr_len]) (by rw [b8_len, HHi.out.2.1]; exact sz_jb17) (b8_one _) (fun Y2 hV2 hK2 hS2 => hK _ _ ?_))))
            obtain ⟨g14, hg14⟩ : ∃ g14, Y.heap.size = g14 := ⟨_, rfl⟩
            rw [hg14] at hV2 hK2 ⊢
            have hbY : Below X.heap.size X Y2.drew := by
              have h1 := hK2.next hB1 (fun k hk => by omega) (by omega)
              exact (bchain HY.out h1).drew
            have HQ : Hid (Below X.heap.size X Y2.drew ∧ JT Y2.drew) := ⟨hbY, (HD.out.2.2.1.later HRx.out.r.k).later hbY⟩
            have HG : Hid (X.heap.size ≤ g14) := by show _ ≤ _; rw [← hg14]; exact HY.out.size
            have hpl := HRx.out.r.p.later hbY
            rw [HNm.out.1] at hpl
            have hSr : Sr17 g14 bp b11 g N a gR z hi Y2.drew := ⟨hV2, hpl.cell 0 _ rfl, hpl.cell 1 _ rfl, hpl.cell 2 _ rfl, cell_later hbY HJi.out.2.2.2⟩
            have hiff := btg_iff HHi.out.2 (a := z) (b := prt z) (c := i) (d := N) (e := g) (by have := HPz.out; omega) (by have := HPz.out; omega) (by have := HPz.out; have := HJi.out.2.2.1; omega) (by have := HNm.out; omega) (by have := HD.out.2.2.2.2.1; omega)
            have hGd : ∀ (x y : Operand) W, (eqGuard .neq 139 x y (btg hi) (tgV z (prt z) i N g)).run Tryz.prog W = .ok () W := fun x y W => guard_tag17 _ _ _ _ _ _ _ _ _ _ x y W
            clear hV1 hB1 hS1 hV2 hK2 hS2 hbY hpl hg14 hzb y1
            by_cases hm : hi.drop 104 = jtl z (prt z) i N g
            · have hEq : ∀ W, (binOp .neq 139 (btg hi) (tgV z (prt z) i N g)).run Tryz.prog W = .ok (.bool false) W := fun W => neq_tag17 _ _ _ _ _ _ _ _ _ _ true (decide_eq_true (hiff.1 hm)) W
              have HMt : Hid ((rb s (q + i)).drop 104 = jtl z P i N g) := by show _ = _; rw [HHi.out.1, ← HPz.out.1]; exact hm
              clear hiff hm
              refine region_round_held (Sr17 g14 bp b11 g N a gR z hi) (by kernel_rfl) (by kernel_rfl) (by rintro ⟨_, _, _, h⟩) hSr (fun HS => ?_)
              clear hSr
              generalize Y2.drew = q0 at *
              refine wpAnyH_take (i := 0) (v := bkV hi) rfl (by kernel_rfl) (by kernel_rfl) (by kernel_rfl) (fun _ _ _ h => h) (yieldsIf_load_mid (by kernel_rfl) 134 _ rfl g14 0 rfl (b8 hi) _ (fun W hW => Vb.all hW.v) und_jb17 rfl (by rw [b8_len, HHi.out.2.1]; exact sz_jb17)) HS ?_
              try simp only [Act.put, List.getElem_toArray, List.getElem_cons_succ, List.getElem_cons_zero, List.setIfInBounds_toArray, List.set_cons_zero, List.set_cons_succ]
              refine wpAnyH_take (i := 2) (v := ?v1) rfl (by kernel_rfl) (by kernel_rfl) (by kernel_rfl) (fun _ _ _ h => h) (Or.inl ⟨by kernel_rfl, ?h1⟩) HS ?r1
              case h1 => (rintro w ⟨_, n0, n1, n2, n3⟩; go_simp) <;> with_reducible rfl
              try simp only [Act.put, List.getElem_toArray, List.getElem_cons_succ, List.getElem_cons_zero, List.setIfInBounds_toArray, List.set_cons_zero, List.set_cons_succ]
              refine wpAnyH_take (i := 3) (v := ?v2) rfl (by kernel_rfl) (by kernel_rfl) (by kernel_rfl) (fun _ _ _ h => h) (Or.inl ⟨by kernel_rfl, ?h2⟩) HS ?r2
              case h2 => (rintro w ⟨_, n0, n1, n2, n3⟩; go_simp) <;> with_reducible rfl
              try simp only [Act.put, List.getElem_toArray, List.getElem_cons_succ, List.getElem_cons_zero, List.setIfInBounds_toArray, List.set_cons_zero, List.set_cons_succ]
              refine wpAnyH_take (i := 4) (v := ?v3) rfl (by kernel_rfl) (by kernel_rfl) (by kernel_rfl) (fun _ _ _ h => h) (Or.inl ⟨by kernel_rfl, ?h3⟩) HS ?r3
              case h3 => (rintro w ⟨_, n0, n1, n2, n3⟩; go_simp) <;> with_reducible rfl
              try simp only [Act.put, List.getElem_toArray, List.getElem_cons_succ, List.getElem_cons_zero, List.setIfInBounds_toArray, List.set_cons_zero, List.set_cons_succ]
              refine wpAnyH_take (i := 5) (v := ?v4) rfl (by kernel_rfl) (by kernel_rfl) (by kernel_rfl) (fun _ _ _ h => h) (Or.inl ⟨by kernel_rfl, ?h4⟩) HS ?r4
              case h4 => (rintro w ⟨_, n0, n1, n2, n3⟩; go_simp) <;> with_reducible rfl
              try simp only [Act.put, List.getElem_toArray, List.getElem_cons_succ, List.getElem_cons_zero, List.setIfInBounds_toArray, List.set_cons_zero, List.set_cons_succ]
              refine wpAnyH_ready (rs := [1]) (by kernel_rfl) (by simp) ?_
              refine AllReadyH.cons rfl (fun K hK => ?_) AllReadyH.nil
              go_simp
              refine (btag17 hi HHi.out.2 q0 HQ.out.2).mono ?_
              rintro e q1 ⟨rfl, hBq⟩
              have HQ1 : Hid (Below X.heap.size X q1 ∧ Sr17 g14 bp b11 g N a gR z hi q1) := ⟨bchain HQ.out.1 hBq, HS.later hBq⟩
              refine hK.out _ _ HQ1.out.2 (fun HS => ?_)
              clear hK K hBq HQ
              try simp only [Act.put, List.getElem_toArray, List.getElem_cons_succ, List.getElem_cons_zero, List.setIfInBounds_toArray, List.set_cons_zero, List.set_cons_succ]
              refine wpAnyH_ready (rs := [6]) (by kernel_rfl) (by simp) ?_
              refine AllReadyH.cons rfl (fun K hK => ?_) AllReadyH.nil
              go_simp
              refine (ptag17 g N a z i HD.out.2.2.2.2.1 (by have := HNm.out; omega) (by have := HPz.out; omega) (by have := HPz.out; have := HJi.out.2.2.1; omega) q1).mono ?_
              rintro e q2 ⟨rfl, hBq⟩
              have HQ2 : Hid (Below X.heap.size X q2 ∧ Sr17 g14 bp b11 g N a gR z hi q2) := ⟨bchain HQ1.out.1 hBq, HQ1.out.2.later hBq⟩
              refine hK.out _ _ HQ2.out.2 (fun HS => ?_)
              clear hK K hBq HQ1
              try simp only [Act.put, List.getElem_toArray, List.getElem_cons_succ, List.getElem_cons_zero, List.setIfInBounds_toArray, List.set_cons_zero, List.set_cons_succ]
              refine wpAnyH_take (i := 7) (v := ?v5) rfl (by kernel_rfl) (by kernel_rfl) (by kernel_rfl) (fun _ _ _ h => h) (Or.inl ⟨by kernel_rfl, ?h5⟩) HS ?r5
              case h5 => (rintro w ⟨_, n0, n1, n2, n3⟩; go_simp) <;> with_reducible rfl
              try simp only [Act.put, List.getElem_toArray, List.getElem_cons_succ, List.getElem_cons_zero, List.setIfInBounds_toArray, List.set_cons_zero, List.set_cons_succ]
              refine wpAnyH_done (by kernel_rfl) ?_ _
              clear HS hEq hGd
              have hbs : Bs q2 (.slice (some ⟨g14, 0, none⟩) 128 128) hi := by
                have h1 := HQ2.out.2.v.bs 0 hi (fun j hj => by rw [Nat.zero_add]; exact b8_cell _ _ hj) 128 (by have := HHi.out.2.1; omega) (by unfold maxLen; omega)
                rw [HHi.out.2.1] at h1
                exact h1
              have hvr : Vb q2 gR 5 (b8 (rct D z i)) := HJi.out.1.v.later HQ2.out.1
              have hln : (rct D z i).length = z := rct_len D z i (by rw [← HDd.out, jal_len (fun i' hi' => by rw [← HH.out.1, show base + a + i' = base + (a + i') by omega]; exact (okD_rb HD.out.2.2.2.2.2.2.2.2 HD.out.2.2.2.2.2.2.2.1 (base + (a + i')) (by have := HD.out.2.2.2.2.2.1; have := HPz.out; omega)).2.1)]; exact HPz.out.2.2.2.1)
              have hiz : i * 104 ≤ z := by
                have h1 := HJi.out.2.2.1
                have h2 := HPz.out.1
                unfold prt at h2
                omega
              gi_wp2_with (refine list_round rfl (by intro c hc; cases hc) (fun K hK => cpO _ _ rfl gR (0 + i * 104) (b8 (rct D z i)) 5 hi (min 104 (z - i * 104)) (min 104 (z - i * 104)) (z - i * 104) 128 128 _ _ rfl rfl hvr HHi.out.2.1 (Nat.min_eq_right (by omega)).symm (fun _ => rfl) hbs (by rw [b8_len, hln]; omega) (fun Z hVz hKz hSz => hK _ _ ?_)))
              have hlen : ∀ i', i' < P → (rb s (q + i')).length = 128 := fun i' hi' => by
                rw [← HH.out.1, show base + a + i' = base + (a + i') by omega]
                exact (okD_rb HD.out.2.2.2.2.2.2.2.2 HD.out.2.2.2.2.2.2.2.1 (base + (a + i')) (by have := HD.out.2.2.2.2.2.1; have := HPz.out; omega)).2.1
              have hst := rct_step (B := rb s) (p := q) (t := P) (z := z) (k := i) hlen HJi.out.2.2.1 hiz HPz.out.2.2.2.1
              rw [HDd.out, HHi.out.1] at hst
              rw [Nat.zero_add, hst] at hVz
              have kq : Kq (X8.heap.size + 2) (fun k => k = gR) X Z := ⟨hKz.os.trans HQ2.out.1.os, hKz.tape.trans HQ2.out.1.tape, hKz.output.trans HQ2.out.1.output, Nat.le_trans HQ2.out.1.size hKz.size, fun k hk hk2 hn => (hKz.block k (Nat.lt_of_lt_of_le hk2 HQ2.out.1.size) hn).trans (HQ2.out.1.block k hk2)⟩
              refine ⟨⟨hVz, HJi.out.1.k.trans (kq.mono (by omega) (fun k h => h)), fun i' hi' => ?_⟩, kq⟩
              by_cases e : i' < i
              · exact HJi.out.1.m i' e
              · rw [show i' = i by omega]
                exact HMt.out
            · have hEq : ∀ W, (binOp .neq 139 (btg hi) (tgV z (prt z) i N g)).run Tryz.prog W = .ok (.bool true) W := fun W => neq_tag17 _ _ _ _ _ _ _ _ _ _ false (decide_eq_false (fun e => hm (hiff.2 e))) W
              have HMt : Hid (¬ (rb s (q + i)).drop 104 = jtl z P i N g) := by show ¬ _; rw [HHi.out.1, ← HPz.out.1]; exact hm
              clear hiff hm
              refine region_round_held (Sr17 g14 bp b11 g N a gR z hi) (by kernel_rfl) (by kernel_rfl) (by rintro ⟨_, _, _, h⟩) hSr (fun HS => ?_)
              clear hSr
              generalize Y2.drew = q0 at *
              refine wpAnyH_take (i := 0) (v := bkV hi) rfl (by kernel_rfl) (by kernel_rfl) (by kernel_rfl) (fun _ _ _ h => h) (yieldsIf_load_mid (by kernel_rfl) 134 _ rfl g14 0 rfl (b8 hi) _ (fun W hW => Vb.all hW.v) und_jb17 rfl (by rw [b8_len, HHi.out.2.1]; exact sz_jb17)) HS ?_
              try simp only [Act.put, List.getElem_toArray, List.getElem_cons_succ, List.getElem_cons_zero, List.setIfInBounds_toArray, List.set_cons_zero, List.set_cons_succ]
              refine wpAnyH_take (i := 2) (v := ?v6) rfl (by kernel_rfl) (by kernel_rfl) (by kernel_rfl) (fun _ _ _ h => h) (Or.inl ⟨by kernel_rfl, ?h6⟩) HS ?r6
              case h6 => (rintro w ⟨_, n0, n1, n2, n3⟩; go_simp) <;> with_reducible rfl
              try simp only [Act.put, List.getElem_toArray, List.getElem_cons_succ, List.getElem_cons_zero, List.setIfInBounds_toArray, List.set_cons_zero, List.set_cons_succ]
              refine wpAnyH_take (i := 3) (v := ?v7) rfl (by kernel_rfl) (by kernel_rfl) (by kernel_rfl) (fun _ _ _ h => h) (Or.inl ⟨by kernel_rfl, ?h7⟩) HS ?r7
              case h7 => (rintro w ⟨_, n0, n1, n2, n3⟩; go_simp) <;> with_reducible rfl
              try simp only [Act.put, List.getElem_toArray, List.getElem_cons_succ, List.getElem_cons_zero, List.setIfInBounds_toArray, List.set_cons_zero, List.set_cons_succ]
              refine wpAnyH_take (i := 4) (v := ?v8) rfl (by kernel_rfl) (by kernel_rfl) (by kernel_rfl) (fun _ _ _ h => h) (Or.inl ⟨by kernel_rfl, ?h8⟩) HS ?r8
              case h8 => (rintro w ⟨_, n0, n1, n2, n3⟩; go_simp) <;> with_reducible rfl
              try simp only [Act.put, List.getElem_toArray, List.getElem_cons_succ, List.getElem_cons_zero, List.setIfInBounds_toArray, List.set_cons_zero, List.set_cons_succ]
              refine wpAnyH_take (i := 5) (v := ?v9) rfl (by kernel_rfl) (by kernel_rfl) (by kernel_rfl) (fun _ _ _ h => h) (Or.inl ⟨by kernel_rfl, ?h9⟩) HS ?r9
              case h9 => (rintro w ⟨_, n0, n1, n2, n3⟩; go_simp) <;> with_reducible rfl
              try simp only [Act.put, List.getElem_toArray, List.getElem_cons_succ, List.getElem_cons_zero, List.setIfInBounds_toArray, List.set_cons_zero, List.set_cons_succ]
              refine wpAnyH_ready (rs := [1]) (by kernel_rfl) (by simp) ?_
              refine AllReadyH.cons rfl (fun K hK => ?_) AllReadyH.nil
              go_simp
              refine (btag17 hi HHi.out.2 q0 HQ.out.2).mono ?_
              rintro e q1 ⟨rfl, hBq⟩
              have HQ1 : Hid (Below X.heap.size X q1 ∧ Sr17 g14 bp b11 g N a gR z hi q1) := ⟨bchain HQ.out.1 hBq, HS.later hBq⟩
              refine hK.out _ _ HQ1.out.2 (fun HS => ?_)
              clear hK K hBq HQ
              try simp only [Act.put, List.getElem_toArray, List.getElem_cons_succ, List.getElem_cons_zero, List.setIfInBounds_toArray, List.set_cons_zero, List.set_cons_succ]
              refine wpAnyH_ready (rs := [6]) (by kernel_rfl) (by simp) ?_
              refine AllReadyH.cons rfl (fun K hK => ?_) AllReadyH.nil
              go_simp
              refine (ptag17 g N a z i HD.out.2.2.2.2.1 (by have := HNm.out; omega) (by have := HPz.out; omega) (by have := HPz.out; have := HJi.out.2.2.1; omega) q1).mono ?_
              rintro e q2 ⟨rfl, hBq⟩
              have HQ2 : Hid (Below X.heap.size X q2 ∧ Sr17 g14 bp b11 g N a gR z hi q2) := ⟨bchain HQ1.out.1 hBq, HQ1.out.2.later hBq⟩
              refine hK.out _ _ HQ2.out.2 (fun HS => ?_)
              clear hK K hBq HQ1
              try simp only [Act.put, List.getElem_toArray, List.getElem_cons_succ, List.getElem_cons_zero, List.setIfInBounds_toArray, List.set_cons_zero, List.set_cons_succ]
              refine wpAnyH_take (i := 7) (v := ?v10) rfl (by kernel_rfl) (by kernel_rfl) (by kernel_rfl) (fun _ _ _ h => h) (Or.inl ⟨by kernel_rfl, ?h10⟩) HS ?r10
              case h10 => (rintro w ⟨_, n0, n1, n2, n3⟩; go_simp) <;> with_reducible rfl
              try simp only [Act.put, List.getElem_toArray, List.getElem_cons_succ, List.getElem_cons_zero, List.setIfInBounds_toArray, List.set_cons_zero, List.set_cons_succ]
              refine wpAnyH_done (by kernel_rfl) ?_ _
              clear HS hEq hGd
              gi_wp2
              have kq : Kq (X8.heap.size + 2) (fun k => k = gR) X q2 := ⟨HQ2.out.1.os, HQ2.out.1.tape, HQ2.out.1.output, HQ2.out.1.size, fun k hk hk2 hn => HQ2.out.1.block k hk2⟩
              exact ⟨⟨rfl, ⟨i, HJi.out.2.2.1, HMt.out⟩, HJi.out.1.k.trans (kq.mono (by omega) (fun k h => h))⟩, kq⟩
    · have hI : ¬ (a : Int) < (size : Int) := by omega
      have hB : decide ((a : Int) < (size : Int)) = false := decide_eq_false hI
      have HNo : Hid (jrds (rb s) base size g (size - ls.length) a (1 + ls.length) = []) := by
        refine jrds_none ?_ _
        unfold jrec
        rw [if_pos (by omega)]
      go_upto_region 7 with fail
      go_quiet (fail)
      have HX6 : Hid (Rl17 s base size w c bp g ds ls (.slice aT n6 cT) a (X.drewN nq)) := HR.out.later (below_drewP (Below.refl _ _) nq)
      clear x0 c7 c2 HR
      generalize X.drewN nq = X6 at *
      have e1 := HX6.out.r.l.cell 0 _ rfl
      have e2 := HX6.out.r.e.cell 0 _ rfl
      have f1 := HX6.out.r.l.fro 0
      have f2 := HX6.out.r.e.fro 0
      go_wp2
      try rw [Exit.noGoto_ret]
      have HF := Rl17.fin HX6.out
      refine leaves_marks (by simp) (bp + 1) ds _ HF.out.2.2.2.2 (fun w' kc kp => ?_)
      have z1 := kc _ _ HF.out.1
      have z2 := kc _ _ HF.out.2.1
      have HT : Hid (TxB w.heap.size w' (.slice aT n6 cT) (jread (rb s) base size g) ∧ Below w.heap.size w w') := by
        refine ⟨?_, kp.next HF.out.2.2.2.1 (fun i hi => by have := HX6.out.r.lo; omega) HF.out.2.2.2.1.size⟩
        rw [HX6.out.q, HNo.out, List.append_nil]
        exact (HF.out.2.2.1.cells kc).low (by first | (have := HX6.out.r.lo; omega) | (have := HXm.out.r.lo; omega))
      exact ⟨.tuple #[.slice aT n6 cT, .int .i64 0], by simp [results, Tryz.results51, go_sem, z1, z2], _, rfl, HT.out.1, HT.out.2⟩
end Go.Proofs.YthnpdcblfocemaaGreatDoor
