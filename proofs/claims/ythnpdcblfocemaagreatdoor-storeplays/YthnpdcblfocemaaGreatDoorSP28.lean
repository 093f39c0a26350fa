/-
  Texts of this proof, joined: DqI.
-/
import Derived.Test.YthnpdcblfocemaaGreatDoorSP21
import Derived.Test.YthnpdcblfocemaaGreatDoorSP26
import Derived.Test.YthnpdcblfocemaaGreatDoorSP27
import Derived.Shelf.Abstract
import Derived.TacticsInMore
import Derived.OwnWalkIn
set_option linter.unusedVariables false
set_option linter.unusedSimpArgs false
namespace Go.Proofs.YthnpdcblfocemaaGreatDoor
open Go.RowKit Go.Shelf
attribute [local go_sem] Oper.semAt_some

theorem lastU_snoc (a : List (Nat × List Nat)) (u : Nat × List Nat) (i : Nat) (d : List Nat) : lastU (a ++ [u]) i d = if u.1 = i then u.2 else lastU a i d := by
  unfold lastU
  rw [List.foldl_append]
  rfl
theorem lastR_hit (i : Nat) (d : List Nat) : ∀ (l : List (Nat × List Nat)) (k : Nat), k < l.length → (l.getD k (0, [])).1 = i → (∀ j, j < k → (l.getD j (0, [])).1 ≠ i) → lastU l.reverse i d = (l.getD k (0, [])).2 := by
  intro l
  induction l with
  | nil => intro k hk; simp at hk
  | cons u l ih =>
    intro k hk h1 h2
    rw [List.reverse_cons, lastU_snoc]
    cases k with
    | zero =>
      have e : u.1 = i := h1
      rw [if_pos e]
      rfl
    | succ k =>
      have e : u.1 ≠ i := h2 0 (by omega)
      rw [if_neg e]
      exact ih k (by simpa using hk) h1 (fun j hj => h2 (j + 1) (by omega))
theorem lastR_no (i : Nat) (d : List Nat) : ∀ (l : List (Nat × List Nat)), (∀ j, j < l.length → (l.getD j (0, [])).1 ≠ i) → lastU l.reverse i d = d := by
  intro l
  induction l with
  | nil => intro _; rfl
  | cons u l ih =>
    intro h
    rw [List.reverse_cons, lastU_snoc]
    have e : u.1 ≠ i := h 0 (by simp)
    rw [if_neg e]
    exact ih (fun j hj => h (j + 1) (by simpa using hj))
theorem rev_at {α : Type} (l : List α) (d : α) (i : Nat) (h : i < l.length) : l.reverse[i]? = some (l.getD (l.length - 1 - i) d) := by
  rw [List.getElem?_reverse h]
  simp [List.getD, show l.length - 1 - i < l.length by omega]
theorem list_round {l n : Nat} {P : Program} {ops : Array Oper} {Q : Exit → Act → World → Prop} {rest : List Oper} {o : Oper} {a : Act} {w : World} (hgd : o.guard = none) (hd : ∀ c, o.op ≠ .defer c)
    (h : ∀ K : Act → World → Prop, (∀ a w, wpListIn (Fence.wide.inRound l) n P ops Q rest a w → K a w) → o.wp P a w K Q) : wpListIn (Fence.wide.inRound l) n P ops Q (o :: rest) a w :=
  wpListIn_plain hgd fun K hK => oper_round l n hd (h K hK)
theorem list_wide {n : Nat} {P : Program} {ops : Array Oper} {Q : Exit → Act → World → Prop} {rest : List Oper} {o : Oper} {a : Act} {w : World} (hgd : o.guard = none) (T : TypeId) (x : Operand) (ho : o.op = .load T x)
    (b q : Nat) (hx : a.eval x = .pointer (some ⟨b, q, none⟩)) (cs : List Value) (d : TypeDesc) (hc : w.rangeAt b q cs) (hu : P.underlying T = some d) (hd : d.isRow = true) (hi : (P.info? T).map (·.size) = some cs.length)
    (h : wpListIn Fence.wide n P ops Q rest (a.put o.dst (.agg cs.toArray)) w) : wpListIn Fence.wide n P ops Q (o :: rest) a w := by
  refine wpListIn_plain hgd fun K hK => ?_
  have hrun := run_loadAt_mid (P := P) w b q T cs d hc hu hd hi
  unfold Oper.wpIn
  refine ⟨by simp [Oper.about, ho], ?_⟩
  rw [Oper.semAt_plain _ _ _ (by rw [ho]; intro c hc'; cases hc')]
  simp [execOp, ho, hx, hrun, Result.andThen]
  exact hK _ _ h
def EB15 (u : Nat × List Nat) (args : Array Value) (Xp X : World) : Prop := ∃ k : Int, args = #[.int .i64 k, .agg (wr15 u).toArray]
set_option maxRecDepth 100000 in
set_option maxHeartbeats 4000000 in
theorem back15_tells (B : Nat) {W : World} {d M : Nat} {aU : Option Addr} {m pU : Nat} {L : Int} {F : Nat → Prop} {s : Dsk} (h : Pd W d M (.slice aU m pU) L F s) (hm : s.un.length = m) (hB : W.cell? ⟨B, 0, none⟩ = some (.slice aU m pU)) :
    Tells0 Fence.wide 9 Tryz.prog 103 #[.pointer (some ⟨B, 0, none⟩)] s.un.reverse EB15 (fun _ => False) W := by
  intro l0 J Jx W1 hb hl1 hl2 hJ hJx hY h0
  have HP : Hid (Pd W d M (.slice aU m pU) L F s) := h
  have hm9 : m ≤ maxLen := by
    rcases h.rU.2 with ⟨e, h0⟩ | ⟨g, c, cur, e, -, -, hc, hc2, -⟩
    · omega
    · cases e; omega
  unfold maxLen at hm9
  have HM : Hid (s.un.length = m) := hm
  have HB : Hid (W.cell? ⟨B, 0, none⟩ = some (.slice aU m pU)) := hB
  have HJ : Hid ((∀ i X X', J i X → Below X.heap.size X X' → J i X') ∧ J 0 W1 ∧ Below W.heap.size W W1) := ⟨hJ, h0, hb⟩
  have HY : Hid (∀ i y args Xp X, s.un.reverse[i]? = some y → J i Xp → Below Xp.heap.size Xp X → EB15 y args Xp X → YieldAt Fence.wide (9 - 1) Tryz.prog l0 args X fun e X' =>
      (e = .returned (.bool true) ∧ J (i + 1) X' ∧ Kq W.heap.size (fun _ => False) X X') ∨ (e = .returned (.bool false) ∧ Jx (i + 1) X')) := hY
  have c1 := (hb.cell (World.block_lt_of_cell? _ _ hB)).trans hB
  obtain ⟨fds, hfs⟩ := und_wr15
  have hw1 : IntKind.i64.wrap ((m : Int) - 1) = (m : Int) - 1 := by rw [IntKind.wrap_i64]; omega
  clear h hm hB hb hJ hJx h0 hY
  refine callsIn_wide.2 ?_
  show Calls Tryz.prog 103 #[.func (.yield l0) #[] #[], .pointer (some ⟨B, 0, none⟩)] W1 _
  go_enter Tryz.func103, Tryz.ntmps103
  go_upto_region 1 with fail
  have HR : Hid (J 0 W1 ∧ (∀ k, k < W.heap.size → W1.heap[k]? = W.heap[k]?) ∧ W.heap.size ≤ W1.heap.size) := ⟨HJ.out.2.1, fun k hk => HJ.out.2.2.block k hk, HJ.out.2.2.size⟩
  clear c1
  go_loopw [3] (fun s3 wr => ∃ r : Nat, r ≤ m ∧ s3 = .int .i64 ((r : Int) - 1) ∧ Hid (J (m - r) wr ∧ (∀ k, k < W.heap.size → wr.heap[k]? = W.heap[k]?) ∧ W.heap.size ≤ wr.heap.size)) (fun s3 _ => (intOf s3 + 1).toNat)
  case atStart => exact ⟨m, Nat.le_refl _, rfl, by rw [Nat.sub_self]; exact HR.out⟩
  case round =>
    obtain ⟨r, hr, rfl, HW⟩ := hrel
    have HPw : Hid (Pd wr d M (.slice aU m pU) L F s) := HP.out.kept (fun k hk => HW.out.2.1 k (HP.out.lt k hk)) HW.out.2.2
    have cB : wr.cell? ⟨B, 0, none⟩ = some (.slice aU m pU) := cell_blk5 (a := ⟨B, 0, none⟩) (HW.out.2.1 B (World.block_lt_of_cell? _ _ HB.out)) HB.out
    cases r with
    | zero =>
      have e0 : ((0 : Nat) : Int) - 1 = -1 := by omega
      rw [e0]
      have hlt : ¬ (0 : Int) ≤ -1 := by omega
      have HE : Hid (J s.un.length wr) := by
        have h := HW.out.1
        rw [Nat.sub_zero] at h
        rw [HM.out]
        exact h
      clear cB
      go_wp2
      go_end0
      exact ⟨⟨_, rfl⟩, Or.inl HE.out⟩
    | succ k =>
      have e0 : ((k + 1 : Nat) : Int) - 1 = (k : Int) := by omega
      rw [e0]
      have hlt : (0 : Int) ≤ (k : Int) := by omega
      have hkm : k < m := by omega
      have hkI : (k : Int) < (m : Int) := by omega
      have hkl : k < s.un.length := by have := HM.out; omega
      have hw2 : IntKind.i64.wrap ((k : Int) - 1) = (k : Int) - 1 := by rw [IntKind.wrap_i64]; omega
      obtain ⟨g, rfl⟩ := HPw.out.adr (by omega)
      have hrg := HPw.out.rng rfl k hkl
      have hug := un_get HPw.out.ok hkl
      have hget := rev_at s.un (0, []) (m - (k + 1)) (by have := HM.out; omega)
      rw [show s.un.length - 1 - (m - (k + 1)) = k by have := HM.out; omega] at hget
      obtain ⟨u, hu⟩ : ∃ u, s.un.getD k (0, []) = u := ⟨_, rfl⟩
      rw [hu] at hrg hug hget
      have HU : Hid ((wr15 u).length = 129) := wr15_len hug.2.1
      have HI1 : Hid (m - (k + 1) + 1 = m - k ∧ m - (k + 1) + 1 ≤ s.un.reverse.length) := ⟨by omega, by rw [List.length_reverse]; have := HM.out; omega⟩
      obtain ⟨fn, tmps, assign, body, hy, hR⟩ := HY.out (m - (k + 1)) u #[.int .i64 (k : Int), .agg (wr15 u).toArray] wr wr hget HW.out.1 (Below.refl _ _) ⟨_, rfl⟩
      clear hu hug hget hkl
      go_upto_region 3 with fail
      refine (wpIn_wide (n := 9)).1 ?_
      gi_wp2_with (refine list_wide rfl 94 _ rfl g (k * 129) rfl (wr15 u) _ hrg hfs rfl (by rw [HU.out]; exact sz_wr15) ?_)
      refine hR.mono ?_
      rintro e X3 (⟨rfl, hJ3, hK3⟩ | ⟨rfl, hJx3⟩)
      · have HX3 : Hid (J (m - k) X3 ∧ (∀ k, k < W.heap.size → X3.heap[k]? = W.heap[k]?) ∧ W.heap.size ≤ X3.heap.size) := by
          rw [HI1.out.1] at hJ3
          exact ⟨hJ3, fun q hq => (hK3.block q hq (Nat.lt_of_lt_of_le hq HW.out.2.2) (fun h => h)).trans (HW.out.2.1 q hq), Nat.le_trans HW.out.2.2 hK3.size⟩
        clear hJ3 hK3 hR hy cB hrg
        gi_wp2
        go_wp2
        go_roundw
        case rel => exact ⟨k, by omega, rfl, HX3.out⟩
        case measure => simp only [intOf]; omega
      · clear hR hy cB hrg
        have HX3 : Hid (Jx (m - (k + 1) + 1) X3) := hJx3
        clear hJx3
        gi_wp2
        go_wp2
        refine bodyPost_ret (results_none rfl _ _ _) rfl ?_
        exact ⟨⟨_, rfl⟩, Or.inr ⟨_, HI1.out.2, HX3.out⟩⟩
set_option maxRecDepth 100000 in
set_option maxHeartbeats 4000000 in
theorem back15 (aU : Option Addr) (m pU : Nat) (w : World) :
    Calls Tryz.prog 99 #[.slice aU m pU] w fun e w' => e = .returned (.func (.func 103) #[] #[.pointer (some ⟨w.heap.size, 0, none⟩)]) ∧ w' = w.alloc (.cells #[.slice aU m pU] 65) := by
  have hmf : ∀ (fn : Fn) (first cap : Array Value) (w : World), (Instr.makeFunc fn first cap).run Tryz.prog w = .ok (.func fn first cap) w := fun _ _ _ _ => rfl
  go_enter Tryz.func99, Tryz.ntmps99
  go_wp2
  go_ret
  exact ⟨rfl, rfl⟩
structure Rb15 (w : World) (d M : Nat) (vU : Value) (L : Int) (F : Nat → Prop) (s : Dsk) (i : Int) (b3 b4 b5 : Nat) (X : World) : Prop where
  p : Pd X d M vU L F s
  k : Below w.heap.size w X
  c3 : X.cell? ⟨b3, 0, none⟩ = some (.int .i64 i)
  c4 : X.cell? ⟨b4, 0, none⟩ = some (.slice none 0 0)
  f4 : X.frozen? ⟨b4, 0, none⟩ = false
  c5 : X.cell? ⟨b5, 0, none⟩ = some (.int .i64 0)
  f5 : X.frozen? ⟨b5, 0, none⟩ = false
theorem Rb15.put {w : World} {d M : Nat} {vU : Value} {L : Int} {F : Nat → Prop} {s : Dsk} {i : Int} {b3 b4 b5 : Nat} {X X' : World} (h : Rb15 w d M vU L F s i b3 b4 b5 X) {G : Nat → Prop} (k : Kp G X X') (hG : ∀ q, G q → w.heap.size ≤ q ∧ b3 < q ∧ b4 < q ∧ b5 < q) (hF : ∀ q, F q → q < w.heap.size) : Rb15 w d M vU L F s i b3 b4 b5 X' := by
  have n : ∀ q, (q < w.heap.size ∨ q = b3 ∨ q = b4 ∨ q = b5) → ¬ G q := fun q hq hg => by
    have := hG q hg
    omega
  refine ⟨h.p.kept (fun q hq => k.block q (h.p.lt q hq) (n q (Or.inl (hF q hq)))) k.size, k.next h.k (fun q hq => (hG q hq).1) h.k.size, k.cell (n _ (Or.inr (Or.inl rfl))) h.c3, k.cell (n _ (Or.inr (Or.inr (Or.inl rfl)))) h.c4, k.frozen (n _ (Or.inr (Or.inr (Or.inl rfl)))) h.c4 h.f4, k.cell (n _ (Or.inr (Or.inr (Or.inr rfl)))) h.c5, k.frozen (n _ (Or.inr (Or.inr (Or.inr rfl)))) h.c5 h.f5⟩
theorem Rb15.grow {w : World} {d M : Nat} {vU : Value} {L : Int} {F : Nat → Prop} {s : Dsk} {i : Int} {b3 b4 b5 : Nat} {X X' : World} (h : Rb15 w d M vU L F s i b3 b4 b5 X) (k : Below X.heap.size X X') (hF : ∀ q, F q → q < w.heap.size) : Rb15 w d M vU L F s i b3 b4 b5 X' :=
  h.put (Kp.of (F := fun _ => False) k) (fun q hq => hq.elim) hF
def Rf15 (w : World) (l : List Nat) (e : Int) (b4 b5 : Nat) (X : World) : Prop := ∃ v, X.cell? ⟨b4, 0, none⟩ = some v ∧ X.cell? ⟨b5, 0, none⟩ = some (.int .i64 e) ∧ Hn15 w l v X
theorem alO {o : Oper} {a : Act} {w : World} {K : Act → World → Prop} {Q : Exit → Act → World → Prop} (T : TypeId) (xs : List Value)
    (hz : ∀ w, (zeroValue T).run Tryz.prog w = .ok (.agg xs.toArray) w) (ho : o.op = .alloc T)
    (h : ∀ w', Vb w' w.heap.size T xs → Below w.heap.size w w' → w'.heap.size = w.heap.size + 1 → K (a.put o.dst (.pointer (some ⟨w.heap.size, 0, none⟩))) w') : o.wp Tryz.prog a w K Q := by
  have hrun : (Instr.alloc T true (.tuple #[])).run Tryz.prog w = .ok (.pointer (some ⟨w.heap.size, 0, none⟩)) (w.alloc (.cells xs.toArray T)) := by
    simp [Instr.alloc, hz, newVar, Value.cells, go_sem, Result.andThen]
  unfold Oper.wp
  simp [execOp, ho, hrun, Result.andThen]
  exact h _ (Vb.new w T xs) (bel1 w _) (by simp)
theorem stO {o : Oper} {a : Act} {w : World} {K : Act → World → Prop} {Q : Exit → Act → World → Prop} (T : TypeId) (x y : Operand) (ho : o.op = .store T x y)
    (g : Nat) (xs ys : List Value) (hx : a.eval x = .pointer (some ⟨g, 0, none⟩)) (hy : a.eval y = .agg ys.toArray) (hV : Vb w g T xs) (hn : ys.length = xs.length) (hi : (Tryz.prog.info? T).map (·.size) = some ys.length) (h1 : ∀ v ∈ ys, v.oneCell' = true)
    (h : ∀ w', Vb w' g T ys → Kp (fun k => k = g) w w' → w'.heap.size = w.heap.size → K (a.put o.dst undef) w') : o.wp Tryz.prog a w K Q :=
  wp_store_row T x y ho g ys.toArray hx hy T xs.toArray hV (by simpa using hi) (by simpa using hn.symm) (all_oneCell_toArray h1)
    (h _ (setRow_heap _ _ _ _ _ _ hV) ⟨rfl, rfl, rfl, by simp [World.setRow], fun k _ hk => setRow_other _ _ _ _ hk⟩ (by simp [World.setRow]))
def Rn15 (w : World) (l : List Nat) (e : Int) (b4 b5 B : Nat) (X : World) : Prop := ∃ v, X.cell? ⟨b4, 0, none⟩ = some v ∧ X.cell? ⟨b5, 0, none⟩ = some (.int .i64 e) ∧ Hn15 w l v X ∧ Ow B v
theorem uf_kp {F : Nat → Prop} {X X' : World} {v : Value} {l : List Nat} {B : Nat} (h : Bs X v l) (ho : Ow B v) (hu : Uf X v) (k : Kp F X X') (hF : ∀ q, F q → q < B) : Bs X' v l ∧ Uf X' v := by
  refine ⟨k.bs h (ow_nf ho hF), fun b o n cap e j hj => ?_⟩
  subst e
  obtain ⟨_, _, e, _, _⟩ := h.len
  injection e with _ e2 _
  obtain ⟨b', o', e', hc⟩ := h.cel j (by omega)
  cases e'
  exact k.frozen (a := ⟨b, o + j, none⟩) (fun q => by have h1 := ho ⟨b, o, none⟩ n cap rfl (by omega); have h2 := hF _ q; dsimp only at h1 h2; omega) hc (hu b o n cap rfl j hj)
theorem Rn15.put {w : World} {l : List Nat} {e : Int} {b4 b5 B N : Nat} {X X' : World} (h : Rn15 w l e b4 b5 B X) (k : Kp (fun q => q = N) X X') (h4 : b4 ≠ N) (h5 : b5 ≠ N) (hN : w.heap.size ≤ N) (hB : N < B) : Rn15 w l e b4 b5 B X' := by
  obtain ⟨v, z4, z5, ⟨q1, ⟨q2, q3⟩, q4⟩, q5⟩ := h
  obtain ⟨r1, r2⟩ := uf_kp q1 q5 q3 k (fun q hq => by omega)
  exact ⟨v, k.cell h4 z4, k.cell h5 z5, ⟨r1, ⟨q2, r2⟩, k.next q4 (fun q hq => by omega) q4.size⟩, q5⟩
theorem st15 {w : World} {d M : Nat} {vU : Value} {L : Int} {F : Nat → Prop} {s : Dsk} {i : Int} {b3 b4 b5 B : Nat} {X X2 : World} {l : List Nat} {v : Value} (e : Int) (hR : Rb15 w d M vU L F s i b3 b4 b5 X) (hn : Hn15 X l v X2) (hB : B ≤ X.heap.size) (h4 : b4 < B) (h5 : b5 < B) (h45 : b4 ≠ b5) (hw4 : w.heap.size ≤ b4) (hw5 : w.heap.size ≤ b5) :
    Rn15 w l e b4 b5 B ((X2.setCell ⟨b4, 0, none⟩ v).setCell ⟨b5, 0, none⟩ (.int .i64 e)) ∧ Kp (fun k => k = b4 ∨ k = b5) X ((X2.setCell ⟨b4, 0, none⟩ v).setCell ⟨b5, 0, none⟩ (.int .i64 e)) := by
  obtain ⟨q1, ⟨q2, q3⟩, q4⟩ := hn
  have c4 := cell_later q4 hR.c4
  have c5 := cell_later q4 hR.c5
  have k : Kp (fun k => k = b4 ∨ k = b5) X2 ((X2.setCell ⟨b4, 0, none⟩ v).setCell ⟨b5, 0, none⟩ (.int .i64 e)) := ((Kp.refl _ X2).set (p := ⟨b4, 0, none⟩) (Or.inl (Or.inl rfl)) v).set (p := ⟨b5, 0, none⟩) (Or.inl (Or.inr rfl)) _
  obtain ⟨r1, r2⟩ := uf_kp q1 (q2.low hB) q3 k (fun q hq => by omega)
  refine ⟨⟨v, cell_set (fun e => h45 e.symm) (World.cell?_setCell_same' _ _ _ (by rw [c4]; rfl)), World.cell?_setCell_same' _ _ _ (by rw [cell_set (a := ⟨b5, 0, none⟩) (fun e => h45 e) c5]; rfl), ⟨r1, ⟨q2.low (by omega), r2⟩, ?_⟩, q2.low hB⟩, ?_⟩
  · exact ((hR.k.trans (q4.mono (by omega))).setCell (by dsimp only; omega) _).setCell (by dsimp only; omega) _
  · exact ((Kp.of q4).set (p := ⟨b4, 0, none⟩) (Or.inl (Or.inl rfl)) v).set (p := ⟨b5, 0, none⟩) (Or.inl (Or.inr rfl)) _
set_option maxRecDepth 100000 in
set_option maxHeartbeats 8000000 in
theorem read15 (w : World) (p : Value) (F : Nat → Prop) (s : Dsk) (i : Int) (h : PD w p F s) :
    Calls Tryz.prog 87 #[p, .int .i64 i] w fun e w' => ∃ v, e = .returned (.tuple #[v, .int .i64 ((dAsk s i : Nat) : Int)]) ∧ Bs w' v (rdB s i) ∧ (Ow w.heap.size v ∧ Uf w' v) ∧ Below w.heap.size w w' := by
  obtain ⟨d, M, vU, L, rfl, h⟩ := h
  have HR : Hid (Pd w d M vU L F s) := h
  obtain ⟨aU, pU, rfl⟩ := h.sU
  obtain ⟨m, hm⟩ : ∃ m, s.un.length = m := ⟨_, rfl⟩
  have HM : Hid (s.un.length = m) := hm
  rw [hm] at HR
  clear h hm
  refine (callsIn_wide (n := 10)).1 ?_
  refine callsIn_of_wp_marks Tryz.func87 rfl trivial ?_ rfl
  refine wpIn_wide.2 ?_
  simp only [Tryz.ntmps87, List.size_toArray, List.length_cons, List.length_nil, Nat.reduceAdd, Nat.reduceSub, Array.replicate_succ, Array.replicate_zero, List.push_toArray, List.append_toArray, List.nil_append, List.cons_append]
  obtain ⟨w1, hw1⟩ : ∃ w1, w1 = ((w.alloc (.cells #[.int .i64 i] 3)).alloc (.cells #[.slice none 0 0] 30)).alloc (.cells #[.int .i64 0] 26) := ⟨_, rfl⟩
  have hsz : w1.heap.size = w.heap.size + 1 + 1 + 1 := by rw [hw1]; simp
  have hB1 : Below w.heap.size w w1 := by rw [hw1]; exact ((bel1 _ _).alloc (by simp) _).alloc (by simp; omega) _
  obtain ⟨b3, hb3⟩ : ∃ b3, w.heap.size = b3 := ⟨_, rfl⟩
  obtain ⟨b4, hb4⟩ : ∃ b4, b3 + 1 = b4 := ⟨_, rfl⟩
  obtain ⟨b5, hb5⟩ : ∃ b5, b4 + 1 = b5 := ⟨_, rfl⟩
  have HB : Hid (w.heap.size = b3 ∧ b3 + 1 = b4 ∧ b4 + 1 = b5 ∧ w1.heap.size = b5 + 1) := ⟨hb3, hb4, hb5, by omega⟩
  have H1 : Hid (Rb15 w d M (.slice aU m pU) L F s i b3 b4 b5 w1) := by
    refine ⟨HR.out.later hB1, hB1, ?_, ?_, ?_, ?_, ?_⟩
    all_goals (rw [hw1]; subst hb5; subst hb4; subst hb3; simp [go_sem])
  clear hB1 hsz
  go_upto_region 1 with fail
  rw [← hw1]
  clear hw1
  clear hb3 hb4 hb5
  have c3 := H1.out.c3
  have c4 := H1.out.c4
  have f4 := H1.out.f4
  have c5 := H1.out.c5
  have f5 := H1.out.f5
  have hr := runs_yes H1.out.p
  by_cases hd : s.dn = true
  · rw [if_pos hd] at hr
    have ha : dAsk s i = 150 := by unfold dAsk; rw [if_pos hd]
    have hb : rdB s i = [] := by unfold rdB; rw [ha, if_pos (by omega)]
    have HF : Hid (Rf15 w (rdB s i) 150 b4 b5 ((w1.setCell ⟨b4, 0, none⟩ (.slice none 0 0)).setCell ⟨b5, 0, none⟩ (.int .i64 150))) := by
      have hBd := HB.out
      refine ⟨.slice none 0 0, ?_, ?_, ?_, ⟨fun a n c e => (by cases e), fun b q n cap e => (by cases e)⟩, ?_⟩
      · exact (cell_set (by dsimp only; omega) (World.cell?_setCell_same' _ _ _ (by rw [c4]; rfl)))
      · exact World.cell?_setCell_same' _ _ _ (by rw [cell_set (a := ⟨b5, 0, none⟩) (by dsimp only; omega) c5]; rfl)
      · rw [hb]; exact ls_none _ _
      · exact (H1.out.k.setCell (by dsimp only; omega) _).setCell (by dsimp only; omega) _
    have c5s : ∀ u, (w1.setCell ⟨b4, 0, none⟩ u).cell? ⟨b5, 0, none⟩ = some (.int .i64 0) := fun u => cell_set (by have := HB.out; dsimp only; omega) c5
    clear hd hb
    go_wp2_with (go_at_call 90; refine hr.mono ?_; rintro e w' ⟨rfl, hw⟩; replace hw := hw.symm; subst hw; clear hr)
    obtain ⟨v, z4, z5, hn⟩ := HF.out
    exact ⟨.tuple #[v, .int .i64 150], by simp [results, Tryz.results87, go_sem, z4, z5], v, by rw [ha]; rfl, hn⟩
  rw [if_neg hd] at hr
  go_upto_region 4 with (go_at_call 90; refine hr.mono ?_; rintro e w' ⟨rfl, hw⟩; replace hw := hw.symm; subst hw; clear hr)
  have hbk := back15 aU m pU w1
  have c2 := H1.out.p.c2
  clear c3 c4 f4 c5 f5
  go_wp2_with (go_at_call 99; refine hbk.mono ?_; rintro e w2 ⟨rfl, hw2⟩; clear hbk c2)
  subst hw2
  have hB2 : Below w1.heap.size w1 (w1.alloc (.cells #[.slice aU m pU] 65)) := bel1 _ _
  have hc6 : (w1.alloc (.cells #[.slice aU m pU] 65)).cell? ⟨w1.heap.size, 0, none⟩ = some (.slice aU m pU) := by simp [go_sem]
  have hsz : (w1.alloc (.cells #[.slice aU m pU] 65)).heap.size = w1.heap.size + 1 := by simp
  have hFl : ∀ q, F q → q < w.heap.size := HR.out.lt
  have H2 : Hid (Rb15 w d M (.slice aU m pU) L F s i b3 b4 b5 (w1.alloc (.cells #[.slice aU m pU] 65)) ∧ (w1.alloc (.cells #[.slice aU m pU] 65)).cell? ⟨w1.heap.size, 0, none⟩ = some (.slice aU m pU) ∧ (w1.alloc (.cells #[.slice aU m pU] 65)).heap.size = w1.heap.size + 1) :=
    ⟨H1.out.grow hB2 hFl, hc6, hsz⟩
  have HFl : Hid (∀ q, F q → q < w.heap.size) := hFl
  clear hB2 hc6 hsz hFl
  generalize w1.alloc (.cells #[.slice aU m pU] 65) = w2 at *
  obtain ⟨b6, hb6⟩ : ∃ b6, w1.heap.size = b6 := ⟨_, rfl⟩
  rw [hb6] at HB H2 ⊢
  clear hb6
  have HS : Hid (w.heap.size = b3 ∧ b3 < b4 ∧ b4 < b5 ∧ b5 < b6 ∧ b6 < w2.heap.size) := by have h1 := HB.out; have h2 := H2.out.2.2; exact ⟨by omega, by omega, by omega, by omega, by omega⟩
  have hz := zero_wr15
  have HZ : Hid ((wr15 (0, zr15)).length = 129) := wr15_len zr_len
  have HTl : Hid (Tells0 Fence.wide 9 Tryz.prog 103 #[.pointer (some ⟨b6, 0, none⟩)] s.un.reverse EB15 (fun _ => False) w2) := back15_tells b6 H2.out.1.p HM.out H2.out.2.1
  refine (wpIn_wide (n := 10)).1 ?_
  refine range_told0 (FB := fun _ => False) rfl (by omega) (gf := 103) (lb := #[.pointer (some ⟨b6, 0, none⟩)]) rfl trivial (enters_of Tryz.func103 (by kernel_rfl) rfl) HTl.out ?f4 ?f5 (fun k => k = b4 ∨ k = b5) ?f6
    (fun r X => Rb15 w d M (.slice aU m pU) L F s i b3 b4 b5 X ∧ ∀ j, j < r → (((s.un.reverse.getD j (0, [])).1 : Nat) : Int) ≠ i) (fun c r X => c = .ret ∧ Rn15 w (rdB s i) 0 b4 b5 (w2.heap.size + 2) X ∧ dAsk s i = 0)
    (fun r a' X => ∃ (u : Nat × List Nat) (k : Int) (bx : Nat), s.un.reverse[r]? = some u ∧ a' = { tmps := #[Value.pointer (some { block := d, off := 0 }), Value.int IntKind.i64 i, undef, Value.pointer (some { block := b3, off := 0 }), Value.pointer (some { block := b4, off := 0 }), Value.pointer (some { block := b5, off := 0 }), Value.int IntKind.i64 0, undef, Value.pointer (some { block := bx, off := 0 }), Value.pointer (some { block := d, off := 0 }), Value.int IntKind.i64 0, Value.int IntKind.i64 0, Value.bool false, undef, Value.pointer (some { block := d, off := 0 }), Value.pointer (some { block := d, off := 0 }), Value.pointer (some { block := d, off := 2 }), Value.slice aU m pU, Value.func (Fn.func 103) #[] #[Value.pointer (some { block := b6, off := 0 })], Value.int IntKind.i64 k, Value.agg (wr15 u).toArray, undef, undef, undef, undef, undef, undef, undef, undef, undef, undef, undef, undef], defers := [] } ∧ (Rb15 w d M (.slice aU m pU) L F s i b3 b4 b5 X ∧ ∀ j, j < r → (((s.un.reverse.getD j (0, [])).1 : Nat) : Int) ≠ i) ∧ Vb X bx 94 (wr15 u) ∧ w2.heap.size + 2 ≤ bx) ?f7 ?f8 ?f9 ?f10 ?assign ?body ?done ?left
  case f4 => rintro y args Xp X ⟨k, rfl⟩; rfl
  case f5 => intro k hk; exact hk.elim
  case f6 => intro k hk; have := HS.out; omega
  case f7 => intro r X X' hX k; exact ⟨hX.1.put k (fun q hq => by have := HS.out; omega) HFl.out, hX.2⟩
  case f8 =>
    rintro c r X X' ⟨rfl, h1, h2⟩ k
    exact ⟨rfl, h1.put k (by have := HS.out; omega) (by have := HS.out; omega) (by have := HS.out; omega) (by omega), h2⟩
  case f9 =>
    rintro r a' X X' ⟨u, kk, bx, hu, ha, h1, h2, h3⟩ k
    exact ⟨u, kk, bx, hu, ha, ⟨h1.1.put k (fun q hq => by have := HS.out; omega) HFl.out, h1.2⟩, h2.kept (k.block _ h2.lt (by omega)), h3⟩
  case f10 => exact ⟨H2.out.1, fun j hj => by omega⟩
  case assign =>
    rintro r u args Xp X hu hX hpX ⟨k, rfl⟩ hsz hno
    have HX : Hid (Rb15 w d M (.slice aU m pU) L F s i b3 b4 b5 X ∧ ∀ j, j < r → (((s.un.reverse.getD j (0, [])).1 : Nat) : Int) ≠ i) := ⟨hX.1.grow hpX HFl.out, hX.2⟩
    have HU : Hid ((wr15 u).length = 129) := wr15_len ((H2.out.1.p.ok.un u (List.mem_reverse.1 (List.mem_of_getElem? hu))).2.1)
    have hsX : w2.heap.size + 2 ≤ X.heap.size := Nat.le_trans hsz hpX.size
    clear hX hpX hno hsz
    gi_wp2_with (first
      | (refine list_round rfl (by intro c hc; cases hc) (fun K hK => alO 94 (wr15 (0, zr15)) hz rfl (fun wB hV hB hS => hK _ _ ?_)))
      | (refine list_round rfl (by intro c hc; cases hc) (fun K hK => stO 94 _ _ rfl X.heap.size (wr15 (0, zr15)) (wr15 u) (by first | rfl | (go_simp; done)) (by first | rfl | (go_simp; done)) hV (by rw [HZ.out, HU.out]) (by rw [HU.out]; exact sz_wr15) (wr15_one _) (fun wC hVC hKC hSC => hK _ _ ?_))))
    have hBC : Below X.heap.size X wC := hKC.next hB (fun q hq => by omega) hB.size
    exact ⟨⟨u, k, X.heap.size, hu, by first | rfl | (simp [Act.put]; done), ⟨HX.out.1.grow hBC HFl.out, HX.out.2⟩, hVC, hsX⟩, Kq.below hBC hsX⟩
  case done =>
    rintro X ⟨hX, hno⟩ hD
    have HX : Hid (Rb15 w d M (.slice aU m pU) L F s i b3 b4 b5 X ∧ X.heap[w2.heap.size]? = some (.deferred (some [])) ∧ w2.heap.size < X.heap.size) := ⟨hX, hD, (Array.getElem?_eq_some_iff.1 hD).1⟩
    have c3 := hX.c3
    by_cases hin : 0 ≤ i ∧ i < (s.bl.length : Int)
    · obtain ⟨I, rfl⟩ : ∃ I : Nat, i = (I : Int) := ⟨i.toNat, by omega⟩
      have ha : dAsk s (I : Int) = 0 := by unfold dAsk; rw [if_neg hd, if_neg (by omega)]
      have hrd : rdB s (I : Int) = s.bl.getD I [] := by
        unfold rdB
        rw [ha, if_neg (by omega), Int.toNat_natCast, ← List.reverse_reverse s.un]
        exact lastR_no I _ _ (fun j hj e => hno j hj (by rw [e]))
      have HA : Hid (dAsk s (I : Int) = 0 ∧ rdB s (I : Int) = s.bl.getD I []) := ⟨ha, hrd⟩
      have hs := safe15 hX.p I (by omega)
      clear hX hno hD hin ha hrd
      generalize s.bl.getD I [] = bI at *
      go_wp2_with (go_at_call 26; refine hs.mono ?_; rintro e X2 ⟨v, rfl, hn⟩; clear hs; obtain ⟨av, cv, rfl, -, -⟩ := hn.1.len; have c4 := cell_later hn.2.2 HX.out.1.c4; have f4 := frozen_later hn.2.2 HX.out.1.c4 HX.out.1.f4; have c5 : ∀ u, (X2.setCell ⟨b4, 0, none⟩ u).cell? ⟨b5, 0, none⟩ = some (.int .i64 0) := fun u => cell_set (by have := HS.out; dsimp only; omega) (cell_later hn.2.2 HX.out.1.c5); have f5 := frozen_later hn.2.2 HX.out.1.c5 HX.out.1.f5)
      have hst := st15 0 HX.out.1 hn (Nat.le_refl _) (by have := HS.out; have := HX.out.2.2; omega) (by have := HS.out; have := HX.out.2.2; omega) (by have := HS.out; omega) (by have := HS.out; omega) (by have := HS.out; omega)
      have HDf : Hid (((X2.setCell ⟨b4, 0, none⟩ (.slice av bI.length cv)).setCell ⟨b5, 0, none⟩ (.int .i64 0)).heap[w2.heap.size]? = some (.deferred (some []))) := (hst.2.block _ HX.out.2.2 (by have := HS.out; omega)).trans HX.out.2.1
      have HRf : Hid (Rn15 w (rdB s (I : Int)) 0 b4 b5 X.heap.size ((((X2.setCell ⟨b4, 0, none⟩ (.slice av bI.length cv)).setCell ⟨b5, 0, none⟩ (.int .i64 0))).putObj w2.heap.size (.deferred none))) := by rw [HA.out.2]; exact hst.1.put (kp_put _ w2.heap.size _) (by have := HS.out; omega) (by have := HS.out; omega) (by have := HS.out; omega) HX.out.2.2
      refine ⟨by simp, Or.inl ⟨w2.heap.size, _, rfl, run_takeDeferred (ds := []) HDf.out, ?_⟩⟩
      obtain ⟨vf, z4, z5, hnf, -⟩ := HRf.out
      exact ⟨.tuple #[vf, .int .i64 0], by simp [results, Tryz.results87, go_sem, z4, z5], vf, by rw [HA.out.1]; rfl, hnf⟩
    · have ha : dAsk s i = 151 := by unfold dAsk; rw [if_neg hd, if_pos (by omega)]
      have hrd : rdB s i = [] := by unfold rdB; rw [ha, if_pos (by omega)]
      have HA : Hid (dAsk s i = 151 ∧ rdB s i = []) := ⟨ha, hrd⟩
      have hs := safeN15 hX.p i (by omega)
      clear hX hno hD hin ha hrd
      go_wp2_with (go_at_call 26; refine hs.mono ?_; rintro e X2 ⟨rfl, hw⟩; clear hs; have hn : Hn15 X [] (.slice none 0 0) X2 := ⟨ls_none _ _, ⟨fun a n c e => (by cases e), fun b q n cap e => (by cases e)⟩, by rw [hw]; exact Below.refl _ _⟩; clear hw; have c4 := cell_later hn.2.2 HX.out.1.c4; have f4 := frozen_later hn.2.2 HX.out.1.c4 HX.out.1.f4; have c5 : ∀ u, (X2.setCell ⟨b4, 0, none⟩ u).cell? ⟨b5, 0, none⟩ = some (.int .i64 0) := fun u => cell_set (by have := HS.out; dsimp only; omega) (cell_later hn.2.2 HX.out.1.c5); have f5 := frozen_later hn.2.2 HX.out.1.c5 HX.out.1.f5)
      have hst := st15 151 HX.out.1 hn (Nat.le_refl _) (by have := HS.out; have := HX.out.2.2; omega) (by have := HS.out; have := HX.out.2.2; omega) (by have := HS.out; omega) (by have := HS.out; omega) (by have := HS.out; omega)
      have HDf : Hid (((X2.setCell ⟨b4, 0, none⟩ (.slice none 0 0)).setCell ⟨b5, 0, none⟩ (.int .i64 151)).heap[w2.heap.size]? = some (.deferred (some []))) := (hst.2.block _ HX.out.2.2 (by have := HS.out; omega)).trans HX.out.2.1
      have HRf : Hid (Rn15 w (rdB s i) 151 b4 b5 X.heap.size ((((X2.setCell ⟨b4, 0, none⟩ (.slice none 0 0)).setCell ⟨b5, 0, none⟩ (.int .i64 151))).putObj w2.heap.size (.deferred none))) := by rw [HA.out.2]; exact hst.1.put (kp_put _ w2.heap.size _) (by have := HS.out; omega) (by have := HS.out; omega) (by have := HS.out; omega) HX.out.2.2
      refine ⟨by simp, Or.inl ⟨w2.heap.size, _, rfl, run_takeDeferred (ds := []) HDf.out, ?_⟩⟩
      obtain ⟨vf, z4, z5, hnf, -⟩ := HRf.out
      exact ⟨.tuple #[vf, .int .i64 151], by simp [results, Tryz.results87, go_sem, z4, z5], vf, by rw [HA.out.1]; rfl, hnf⟩
  case left =>
    rintro c r X hi ⟨rfl, h1, h2⟩ hD
    have HX : Hid (X.heap[w2.heap.size]? = some (.deferred (some []))) := hD
    have HA : Hid (dAsk s i = 0) := h2
    have HRf : Hid (Rn15 w (rdB s i) 0 b4 b5 (w2.heap.size + 2) (X.putObj w2.heap.size (.deferred none))) := h1.put (kp_put _ w2.heap.size _) (by have := HS.out; omega) (by have := HS.out; omega) (by have := HS.out; omega) (by omega)
    clear h1 h2 hD hi
    refine wpIn_wide.2 ?_
    go_wp2
    refine ⟨by simp, Or.inl ⟨w2.heap.size, _, rfl, run_takeDeferred (ds := []) HX.out, ?_⟩⟩
    obtain ⟨vf, z4, z5, hnf, -⟩ := HRf.out
    exact ⟨.tuple #[vf, .int .i64 0], by simp [results, Tryz.results87, go_sem, z4, z5], vf, by rw [HA.out]; rfl, hnf⟩
  case body =>
    rintro r y a' X hy ⟨u, k, bx, hu, rfl, ⟨hX, hno⟩, hV, hbx⟩ hsz
    obtain rfl : u = y := by rw [hu] at hy; exact Option.some.inj hy
    clear hy
    have hum := H2.out.1.p.ok.un u (List.mem_reverse.1 (List.mem_of_getElem? hu))
    obtain ⟨uI, uT⟩ := u
    have hrl : r < s.un.reverse.length := (List.getElem?_eq_some_iff.1 hu).1
    have hug : s.un.reverse.getD r (0, []) = (uI, uT) := by rw [List.getD_eq_getElem?_getD, hu]; rfl
    have HX : Hid (Rb15 w d M (.slice aU m pU) L F s i b3 b4 b5 X ∧ (∀ j, j < r → (((s.un.reverse.getD j (0, [])).1 : Nat) : Int) ≠ i) ∧ Vb X bx 94 (wr15 (uI, uT)) ∧ w2.heap.size + 2 ≤ X.heap.size ∧ s.un.reverse.getD r (0, []) = (uI, uT) ∧ r < s.un.reverse.length) := ⟨hX, hno, hV, by have := hV.lt; omega, hug, hrl⟩
    have HU : Hid (uI < s.bl.length ∧ okb uT) := hum
    have c0 := hV.cell 0 (.int .i64 (uI : Int)) rfl
    have c3 := hX.c3
    clear hX hno hV hu hum hug hrl
    by_cases he : (uI : Int) = i
    · have ha : dAsk s i = 0 := by unfold dAsk; rw [if_neg hd, if_neg (by have := HU.out.1; omega)]
      have hrd : rdB s i = uT := by
        unfold rdB
        have ei : i.toNat = uI := by omega
        rw [ha, if_neg (by omega), ei, ← List.reverse_reverse s.un, lastR_hit uI _ _ r HX.out.2.2.2.2.2 (by rw [HX.out.2.2.2.2.1]) (fun j hj e => HX.out.2.1 j hj (by rw [e]; exact he)), HX.out.2.2.2.2.1]
      have HA : Hid (dAsk s i = 0 ∧ rdB s i = uT) := ⟨ha, hrd⟩
      clear ha hrd
      have hbs : Bs X (.slice (some ⟨bx, 1, none⟩) 128 128) uT := by
        have h := HX.out.2.2.1.bs 1 uT (fun j hj => by
          have := sz_bV (uI, uT) HU.out.2.1 j _ (b8_cell uT j hj)
          exact this) 128 (by have := HU.out.2.1; omega) (by unfold maxLen; omega)
        rw [HU.out.2.1] at h
        exact h
      have hcl := clone_any X _ uT hbs (by have := HU.out.2.1; omega)
      clear hbs
      subst he
      gi_wp2
      refine ⟨trivial, (callsIn_wide (n := 7)).2 ?_⟩
      refine hcl.mono ?_
      rintro e X2 ⟨v, rfl, hO, hB2⟩
      have hn : Hn15 X uT v X2 := ⟨hO.bs.1, ⟨hO.bs.2, ob_uf hO⟩, hB2⟩
      obtain ⟨av, cv, rfl⟩ := hO.sl
      have c4 := cell_later hB2 HX.out.1.c4
      have f4 := frozen_later hB2 HX.out.1.c4 HX.out.1.f4
      have c5 : ∀ u, (X2.setCell ⟨b4, 0, none⟩ u).cell? ⟨b5, 0, none⟩ = some (.int .i64 0) := fun u => cell_set (by have := HS.out; dsimp only; omega) (cell_later hB2 HX.out.1.c5)
      have f5 := frozen_later hB2 HX.out.1.c5 HX.out.1.f5
      have HRf : Hid (RoundEnd0 (w2.heap.size + 2) (fun x => False) (fun k => k = b4 ∨ k = b5) (fun r X => Rb15 w d M (.slice aU m pU) L F s (uI : Int) b3 b4 b5 X ∧ ∀ j, j < r → (((s.un.reverse.getD j (0, [])).1 : Nat) : Int) ≠ (uI : Int)) (fun c r X => c = Code.ret ∧ Rn15 w (rdB s (uI : Int)) 0 b4 b5 (w2.heap.size + 2) X ∧ dAsk s (uI : Int) = 0) r X Exit.ret { tmps := #[], defers := [] } ((X2.setCell ⟨b4, 0, none⟩ (.slice av uT.length cv)).setCell ⟨b5, 0, none⟩ (.int .i64 0))) := by
        have hst := st15 0 HX.out.1 hn HX.out.2.2.2.1 (by have := HS.out; omega) (by have := HS.out; omega) (by have := HS.out; omega) (by have := HS.out; omega) (by have := HS.out; omega)
        exact ⟨⟨rfl, by rw [HA.out.2]; exact hst.1, HA.out.1⟩, Kq.of hst.2⟩
      clear hn hO hB2 hcl
      gi_wp2
      exact HRf.out
    · have HE : Hid (Rb15 w d M (.slice aU m pU) L F s i b3 b4 b5 X ∧ ∀ j, j < r + 1 → (((s.un.reverse.getD j (0, [])).1 : Nat) : Int) ≠ i) := ⟨HX.out.1, fun j hj => by
        rcases Nat.lt_or_ge j r with q | q
        · exact HX.out.2.1 j q
        · obtain rfl : j = r := by omega
          rw [HX.out.2.2.2.2.1]
          exact he⟩
      gi_wp2
      exact ⟨HE.out, Kq.of (Kp.refl _ _)⟩
end Go.Proofs.YthnpdcblfocemaaGreatDoor
