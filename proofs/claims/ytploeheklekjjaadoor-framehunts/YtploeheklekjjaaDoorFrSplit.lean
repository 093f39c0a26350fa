/-
  Layer 13: frames one behind the other; lists of frames in memory; the document's Split.
-/
import Derived.Test.YtploeheklekjjaaDoorFrLawA
set_option linter.unusedVariables false
set_option linter.unusedSimpArgs false
namespace Go.Proofs.YtploeheklekjjaaDoor
open Go.RowKit

/-- The frames from the beginning on, where they end, and the error there. -/
def splG : Nat → List Nat → List (Nat × List Nat) × Nat × Nat
  | 0, _ => ([], 0, 0)
  | f + 1, b => if b.length = 0 then ([], 0, 0) else if opE b ≠ 0 then ([], 0, opE b) else ((opK b, opP b) :: (splG f (b.drop (opN b))).1, opN b + (splG f (b.drop (opN b))).2.1, (splG f (b.drop (opN b))).2.2)
def spl (b : List Nat) : List (Nat × List Nat) × Nat × Nat := splG b.length b
theorem opN_pos {b : List Nat} (h : opE b = 0) : 12 ≤ opN b := by rw [(op_yes h).2.2]; omega
theorem opE_len {b : List Nat} (h : opE b = 0) : nn b + 12 ≤ b.length ∧ nn b ≤ 65536 := by
  by_cases a1 : nn b + 12 ≤ b.length
  · by_cases a2 : nn b ≤ 65536
    · exact ⟨a1, a2⟩
    · exfalso
      revert h
      unfold opE
      by_cases c : b.length < 8
      · simp only [if_pos c]
        repeat' split
        all_goals omega
      · simp only [if_neg c, if_pos (show 65536 < nn b by omega)]
        repeat' split
        all_goals omega
  · exfalso
    revert h
    unfold opE
    by_cases c : b.length < 8
    · simp only [if_pos c]
      repeat' split
      all_goals omega
    · simp only [if_neg c, if_pos (show b.length < nn b + 12 by omega)]
      repeat' split
      all_goals omega
theorem opN_le {b : List Nat} (h : opE b = 0) : opN b ≤ b.length := by rw [(op_yes h).2.2]; exact (opE_len h).1
theorem splG_fuel : ∀ (f : Nat) (b : List Nat), b.length ≤ f → splG f b = splG b.length b := by
  intro f
  induction f using Nat.strongRecOn with
  | ind f ih =>
    intro b hb
    by_cases h0 : b.length = 0
    · rw [h0]
      cases f with
      | zero => rfl
      | succ f => unfold splG; rw [if_pos h0]
    · obtain ⟨f', rfl⟩ : ∃ f', f = f' + 1 := ⟨f - 1, by omega⟩
      obtain ⟨n, hn⟩ : ∃ n, b.length = n + 1 := ⟨b.length - 1, by omega⟩
      rw [hn]
      unfold splG
      rw [if_neg h0, if_neg h0]
      by_cases hE : opE b ≠ 0
      · rw [if_pos hE, if_pos hE]
      · have hE0 : opE b = 0 := by omega
        have hp := opN_pos hE0
        rw [if_neg hE, if_neg hE]
        have hl : (b.drop (opN b)).length ≤ n := by rw [List.length_drop]; omega
        have e1 := ih f' (by omega) (b.drop (opN b)) (by omega)
        have e2 : splG n (b.drop (opN b)) = splG (b.drop (opN b)).length (b.drop (opN b)) := by
          by_cases hnf : n = f'
          · rw [hnf]; exact e1
          · exact ih n (by omega) _ hl
        rw [e1, e2]
theorem spl_nil {b : List Nat} (h : b.length = 0) : spl b = ([], 0, 0) := by unfold spl; rw [h]; rfl
theorem spl_err {b : List Nat} (h : 0 < b.length) (hE : opE b ≠ 0) : spl b = ([], 0, opE b) := by
  unfold spl
  obtain ⟨n, hn⟩ : ∃ n, b.length = n + 1 := ⟨b.length - 1, by omega⟩
  rw [hn]
  unfold splG
  rw [if_neg (by omega), if_pos hE]
theorem spl_ok {b : List Nat} (h : 0 < b.length) (hE : opE b = 0) : spl b = ((opK b, opP b) :: (spl (b.drop (opN b))).1, opN b + (spl (b.drop (opN b))).2.1, (spl (b.drop (opN b))).2.2) := by
  have hp := opN_pos hE
  obtain ⟨n, hn⟩ : ∃ n, b.length = n + 1 := ⟨b.length - 1, by omega⟩
  have hl : (b.drop (opN b)).length ≤ n := by rw [List.length_drop]; omega
  unfold spl
  rw [hn]
  conv => lhs; unfold splG
  rw [if_neg (by omega), if_neg (by omega), splG_fuel n _ hl]
/-- So far so many frames. -/
def Spd (l : List Nat) (at_ : Nat) (fs : List (Nat × List Nat)) : Prop := at_ ≤ l.length ∧ spl l = (fs ++ (spl (l.drop at_)).1, at_ + (spl (l.drop at_)).2.1, (spl (l.drop at_)).2.2)
theorem spd_zero (l : List Nat) : Spd l 0 [] := ⟨Nat.zero_le _, by simp⟩
theorem Spd.step {l : List Nat} {p : Nat} {fs : List (Nat × List Nat)} (h : Spd l p fs) (hp : p < l.length) (hE : opE (l.drop p) = 0) : Spd l (p + opN (l.drop p)) (fs ++ [(opK (l.drop p), opP (l.drop p))]) := by
  have hl : 0 < (l.drop p).length := by rw [List.length_drop]; omega
  have hle := opN_le hE
  rw [List.length_drop] at hle
  refine ⟨by omega, ?_⟩
  rw [h.2, spl_ok hl hE, List.drop_drop, List.append_assoc]
  simp [Nat.add_assoc]
theorem Spd.stop {l : List Nat} {p : Nat} {fs : List (Nat × List Nat)} (h : Spd l p fs) (hp : p < l.length) (hE : opE (l.drop p) ≠ 0) : spl l = (fs, p, opE (l.drop p)) := by
  have hl : 0 < (l.drop p).length := by rw [List.length_drop]; omega
  rw [h.2, spl_err hl hE]
  simp
theorem Spd.last {l : List Nat} {fs : List (Nat × List Nat)} (h : Spd l l.length fs) : spl l = (fs, l.length, 0) := by
  rw [h.2, spl_nil (by simp)]
  simp
def fr0 : Nat × List Nat := (0, [])
/-- Frames in memory. -/
def Frs (w : World) (v : Value) (fs : List (Nat × List Nat)) : Prop := ∃ (adr : Option Addr) (cap b o : Nat), v = .slice adr fs.length cap ∧ fs.length ≤ cap ∧ cap ≤ maxLen ∧ (0 < fs.length → adr = some ⟨b, o, none⟩) ∧ ∀ j, j < fs.length → ∃ vp, w.cell? ⟨b, o + j * 2, none⟩ = some (.int .i64 (((fs.getD j fr0).1 : Nat) : Int)) ∧ w.cell? ⟨b, o + j * 2 + 1, none⟩ = some vp ∧ Bs w vp (fs.getD j fr0).2
theorem Frs.later {w w' : World} {v : Value} {fs : List (Nat × List Nat)} (h : Frs w v fs) (k : Below w.heap.size w w') : Frs w' v fs := by
  obtain ⟨adr, cap, b, o, h1, h2, h3, h4, h5⟩ := h
  refine ⟨adr, cap, b, o, h1, h2, h3, h4, fun j hj => ?_⟩
  obtain ⟨vp, c0, c1, hp⟩ := h5 j hj
  exact ⟨vp, cell_later k c0, cell_later k c1, hp.later k⟩
theorem Frs.len {w : World} {v : Value} {fs : List (Nat × List Nat)} (h : Frs w v fs) : ∃ (ad : Option Addr) (cap : Nat), v = .slice ad fs.length cap ∧ fs.length ≤ cap ∧ cap ≤ maxLen := by
  obtain ⟨adr, cap, b, o, h1, h2, h3, -⟩ := h
  exact ⟨adr, cap, h1, h2, h3⟩
theorem Frs.cel {w : World} {ad : Option Addr} {n cap : Nat} {fs : List (Nat × List Nat)} (h : Frs w (.slice ad n cap) fs) (j : Nat) (hj : j < fs.length) : ∃ (b o : Nat) (vp : Value), ad = some ⟨b, o, none⟩ ∧ w.cell? ⟨b, o + j * 2, none⟩ = some (.int .i64 (((fs.getD j fr0).1 : Nat) : Int)) ∧ w.cell? ⟨b, o + j * 2 + 1, none⟩ = some vp ∧ Bs w vp (fs.getD j fr0).2 := by
  obtain ⟨adr, c, b, o, h1, h2, h3, h4, h5⟩ := h
  injection h1 with e1 e2 e3
  obtain ⟨vp, h6⟩ := h5 j hj
  exact ⟨b, o, vp, e1.trans (h4 (by omega)), h6⟩
/-- Frames of one's own. -/
def Fo (T : TypeId) (B : Nat) (w : World) (v : Value) (fs : List (Nat × List Nat)) : Prop := ∃ cs : List Value, w.ownsRow B T 2 v fs.length cs ∧ ∀ k, k < fs.length → ∃ vp : Value, (cs[k * 2]? = some (.int .i64 (((fs.getD k fr0).1 : Nat) : Int)) ∧ cs[k * 2 + 1]? = some vp) ∧ Bs w vp (fs.getD k fr0).2 ∧ ∀ g, v.ownBlock = some g → Nb vp g
theorem fo_nil (T : TypeId) (B : Nat) (w : World) : Fo T B w (.slice none 0 0) [] := ⟨[], World.ownsRow_nil _ _ _ _, fun k hk => by simp at hk⟩
theorem Fo.later {T : TypeId} {B : Nat} {w w' : World} {v : Value} {fs : List (Nat × List Nat)} (h : Fo T B w v fs) (k : Below w.heap.size w w') : Fo T B w' v fs := by
  obtain ⟨cs, h1, h2⟩ := h
  exact ⟨cs, own_later h1 k, fun j hj => by obtain ⟨vp, e, p, q⟩ := h2 j hj; exact ⟨vp, e, p.later k, q⟩⟩
theorem Fo.frs {T : TypeId} {B : Nat} {w : World} {v : Value} {fs : List (Nat × List Nat)} (h : Fo T B w v fs) : Frs w v fs := by
  obtain ⟨cs, h1, h2⟩ := h
  rcases id h1.2 with ⟨rfl, h0⟩ | ⟨g, cL, cur, rfl, hg, hh, hc1, hc2, hsz, htk⟩
  · exact ⟨none, 0, 0, 0, by rw [h0], by omega, Nat.zero_le _, fun h => by omega, fun j hj => by omega⟩
  · refine ⟨_, cL, g, 0, rfl, hc1, hc2, fun _ => rfl, fun j hj => ?_⟩
    obtain ⟨vp, ⟨e1, e2⟩, p, -⟩ := h2 j hj
    have hl := h1.1
    refine ⟨vp, ?_, ?_, p⟩
    · rw [Nat.zero_add]; exact (h1.cellAt _ (by omega)).trans e1
    · rw [Nat.zero_add]; exact (h1.cellAt _ (by omega)).trans e2
theorem Fo.sl {T : TypeId} {B : Nat} {w : World} {v : Value} {fs : List (Nat × List Nat)} (h : Fo T B w v fs) : ∃ ad cap, v = .slice ad fs.length cap := by
  obtain ⟨cs, h1, -⟩ := h
  exact own_sl h1
theorem fo_key {w w3 : World} {v v' : Value} {o : Obj} (hgrow : (w.alloc o).grownBy w3 v.ownBlock) (hat : v'.ownBlock = v.ownBlock ∨ v'.ownBlock = some (w.alloc o).heap.size) {l : List Nat} {x : Value} (hx : Bs w x l) (hn : ∀ g, v.ownBlock = some g → Nb x g) : Bs w3 x l ∧ ∀ g, v'.ownBlock = some g → Nb x g := by
  have hlo : Lo w.heap.size x := Ls.lo hx
  refine ⟨?_, fun g hg => ?_⟩
  · obtain ⟨adr, cap, b, q, rfl, h2, h3, h4, h5⟩ := hx
    refine ⟨adr, cap, b, q, rfl, h2, h3, h4, fun k hk => ?_⟩
    have e := h4 (by omega)
    subst e
    have hlt := hlo ⟨b, q, none⟩ l.length cap rfl (by omega)
    have hb : w3.heap[b]? = w.heap[b]? := by
      rw [hgrow.block b (by rw [World.size_alloc]; dsimp only at hlt; omega) (fun e2 => hn b e2.symm ⟨b, q, none⟩ l.length cap rfl (by omega) rfl), Below.heap_alloc _ _ _ hlt]
    exact (World.cell?_of_block (w := w) (a := ⟨b, q + k, none⟩) hb).trans (h5 k hk)
  · rcases hat with h | h
    · exact hn g (h.symm.trans hg)
    · rw [h, World.size_alloc] at hg
      obtain rfl := Option.some.inj hg
      intro a n c e h0 e2
      have := hlo a n c e h0
      omega
theorem getD_left {fs : List (Nat × List Nat)} {x : Nat × List Nat} {k : Nat} (h : k < fs.length) : (fs ++ [x]).getD k fr0 = fs.getD k fr0 := by simp [List.getD, List.getElem?_append, h]
theorem getD_end {fs : List (Nat × List Nat)} {x : Nat × List Nat} : (fs ++ [x]).getD fs.length fr0 = x := by simp [List.getD]
theorem Fo.grow {T : TypeId} {B : Nat} {w w3 : World} {v v' vp : Value} {fs : List (Nat × List Nat)} {k : Nat} {p : List Nat} {o : Obj} {cs : List Value} (h1 : w.ownsRow B T 2 v fs.length cs) (h2 : ∀ k, k < fs.length → ∃ vp : Value, (cs[k * 2]? = some (.int .i64 (((fs.getD k fr0).1 : Nat) : Int)) ∧ cs[k * 2 + 1]? = some vp) ∧ Bs w vp (fs.getD k fr0).2 ∧ ∀ g, v.ownBlock = some g → Nb vp g)
    (hp : Bs w vp p) (hN : ∀ g, v.ownBlock = some g → Nb vp g) (hown : w3.ownsRow B T 2 v' (fs.length + 1) (cs ++ [.int .i64 ((k : Nat) : Int), vp])) (hgrow : (w.alloc o).grownBy w3 v.ownBlock) (hat : v'.ownBlock = v.ownBlock ∨ v'.ownBlock = some (w.alloc o).heap.size) : Fo T B w3 v' (fs ++ [(k, p)]) := by
  have hlen : cs.length = fs.length * 2 := h1.1
  refine ⟨cs ++ [.int .i64 ((k : Nat) : Int), vp], by rw [List.length_append]; exact hown, fun j hj => ?_⟩
  rw [List.length_append] at hj
  rcases Nat.lt_or_ge j fs.length with h | h
  · obtain ⟨xa, ⟨e1, e2⟩, a1, a3⟩ := h2 j h
    obtain ⟨p1, p2⟩ := fo_key hgrow hat a1 a3
    rw [getD_left h]
    exact ⟨xa, ⟨by rw [List.getElem?_append_left (by omega)]; exact e1, by rw [List.getElem?_append_left (by omega)]; exact e2⟩, p1, p2⟩
  · have hj1 : j < fs.length + 1 := hj
    obtain rfl : j = fs.length := by omega
    obtain ⟨p1, p2⟩ := fo_key hgrow hat hp hN
    rw [getD_end]
    refine ⟨vp, ⟨?_, ?_⟩, p1, p2⟩
    · rw [List.getElem?_append_right (by omega), hlen, Nat.sub_self]; rfl
    · rw [List.getElem?_append_right (by omega), hlen, show fs.length * 2 + 1 - fs.length * 2 = 1 by omega]; rfl
theorem dinfo_rf : (Tryd.prog.info? 34).map (fun i => (i.zero, i.size, i.bytes)) = some (some (.agg #[.int .i64 0, .slice none 0 0]), 2, 32) := by kernel_rfl
/-- A frame is appended to frames of one's own. -/
theorem apFr {ops : Array Oper} {rest : List Oper} {o : Oper} {a : Act} {w : World} {Q : Exit → Act → World → Prop} (hgd : o.guard = none) (s x : Operand)
    (ho : o.op = .call { callee := .builtin .append, args := #[s, x], argTypes := #[42, 42] })
    (B : Nat) (v : Value) (fs : List (Nat × List Nat)) (hs : a.eval s = v) (hF : Fo 34 B w v fs) (k : Nat) (p : List Nat) (ad : Option Addr) (n cap : Nat) (hp : Bs w (.slice ad n cap) p) (hN : ∀ g, v.ownBlock = some g → Nb (.slice ad n cap) g) (t : TypeId) (hx : a.eval x = .slice (some ⟨w.heap.size, 0, none⟩) 1 1)
    (hlen : fs.length ≤ 100000) (hB : B ≤ w.heap.size)
    (h : ∀ v' w', Fo 34 B w' v' (fs ++ [(k, p)]) → Gw B w w' → wpList Tryd.prog ops Q rest (a.put o.dst v') w') : wpList Tryd.prog ops Q (o :: rest) a (w.alloc (.cells #[.int .i64 (k : Int), .slice ad n cap] t)) := by
  obtain ⟨i0, hti, hy0, hy1, hy2⟩ := info_parts dinfo_rf
  obtain ⟨cs, h1, h2⟩ := hF
  refine wpList_append_own_at _ hgd s x 42 ho B 34 i0 (.agg #[.int .i64 0, .slice none 0 0]) 2 32 Tryd.underlying42 hti hy0 hy1 hy2 rfl (by decide) v fs.length cs hs (own_later h1 (bel1 _ _)) ⟨w.heap.size, 0, none⟩ 1 1 [.int .i64 (k : Int), .slice ad n cap] hx rfl
    (fun j u hj => by
      rcases j with _ | _ | j
      · simp at hj; subst hj; simp [go_sem, Addr.add]
      · simp at hj; subst hj; simp [go_sem, Addr.add]
      · simp at hj)
    (fun u hu => by simp only [List.mem_cons, List.not_mem_nil, or_false] at hu; rcases hu with rfl | rfl <;> rfl) (by unfold maxLen; omega) (by omega) (by rw [World.size_alloc]; omega) ?_
  intro v' w' hown hgrow _ hat
  refine h v' w' (Fo.grow h1 h2 hp hN hown hgrow hat) ⟨fun w0 hb => (hb.alloc hB _).grown hgrow (by rw [World.size_alloc]; omega) (fun g hg => ?_), ?_⟩
  · exact (h1.lt g hg).1
  · have := hgrow.size
    rw [World.size_alloc] at this
    omega
end Go.Proofs.YtploeheklekjjaaDoor
