/-
  Layer 13: frames wherever they stand; places and frames that grow side by side; the document's Hunt.
-/
import Derived.Test.YtploeheklekjjaaDoorFrRefC
set_option linter.unusedVariables false
set_option linter.unusedSimpArgs false
namespace Go.Proofs.YtploeheklekjjaaDoor
open Go.RowKit

/-- The frames from a place on, each with its place. -/
def hntG (l : List Nat) : Nat → Nat → List (Nat × Nat × List Nat)
  | 0, _ => []
  | f + 1, p => if l.length ≤ p then [] else if opE (l.drop p) = 0 then (p, opK (l.drop p), opP (l.drop p)) :: hntG l f (p + opN (l.drop p)) else hntG l f (p + 1)
def hnt (l : List Nat) (p : Nat) : List (Nat × Nat × List Nat) := hntG l (l.length - p) p
theorem hntG_end (l : List Nat) : ∀ f p, l.length ≤ p → hntG l f p = [] := by
  intro f p h
  cases f with
  | zero => rfl
  | succ f => unfold hntG; rw [if_pos h]
theorem hntG_fuel (l : List Nat) : ∀ f p, l.length - p ≤ f → hntG l f p = hnt l p := by
  intro f
  induction f using Nat.strongRecOn with
  | ind f ih =>
    intro p hf
    unfold hnt
    by_cases h : l.length ≤ p
    · rw [hntG_end l _ _ h, hntG_end l _ _ h]
    · obtain ⟨f', rfl⟩ : ∃ f', f = f' + 1 := ⟨f - 1, by omega⟩
      obtain ⟨g, hg⟩ : ∃ g, l.length - p = g + 1 := ⟨l.length - p - 1, by omega⟩
      rw [hg]
      unfold hntG
      rw [if_neg h, if_neg h]
      by_cases hE : opE (l.drop p) = 0
      · have hp := opN_pos hE
        rw [if_pos hE, if_pos hE, ih f' (by omega) _ (by omega)]
        congr 1
        by_cases e : g = f'
        · rw [e, ih f' (by omega) _ (by omega)]
        · rw [ih g (by omega) _ (by omega)]
      · rw [if_neg hE, if_neg hE, ih f' (by omega) _ (by omega)]
        by_cases e : g = f'
        · rw [e, ih f' (by omega) _ (by omega)]
        · rw [ih g (by omega) _ (by omega)]
theorem hnt_end {l : List Nat} {p : Nat} (h : l.length ≤ p) : hnt l p = [] := hntG_end l _ _ h
theorem hnt_ok {l : List Nat} {p : Nat} (h : p < l.length) (hE : opE (l.drop p) = 0) : hnt l p = (p, opK (l.drop p), opP (l.drop p)) :: hnt l (p + opN (l.drop p)) := by
  have hp := opN_pos hE
  obtain ⟨g, hg⟩ : ∃ g, l.length - p = g + 1 := ⟨l.length - p - 1, by omega⟩
  conv => lhs; unfold hnt
  rw [hg]
  unfold hntG
  rw [if_neg (by omega), if_pos hE, hntG_fuel l g _ (by omega)]
theorem hnt_no {l : List Nat} {p : Nat} (h : p < l.length) (hE : opE (l.drop p) ≠ 0) : hnt l p = hnt l (p + 1) := by
  obtain ⟨g, hg⟩ : ∃ g, l.length - p = g + 1 := ⟨l.length - p - 1, by omega⟩
  conv => lhs; unfold hnt
  rw [hg]
  unfold hntG
  rw [if_neg (by omega), if_neg hE, hntG_fuel l g _ (by omega)]
/-- The places and the frames of a hunt. -/
def hpl (hs : List (Nat × Nat × List Nat)) : List Int := hs.map fun x => ((x.1 : Nat) : Int)
def hfr (hs : List (Nat × Nat × List Nat)) : List (Nat × List Nat) := hs.map fun x => x.2
/-- So far so many. -/
def Hnd (l : List Nat) (p : Nat) (ps : List Int) (fs : List (Nat × List Nat)) : Prop := hpl (hnt l 0) = ps ++ hpl (hnt l p) ∧ hfr (hnt l 0) = fs ++ hfr (hnt l p)
theorem hnd_zero (l : List Nat) : Hnd l 0 [] [] := ⟨rfl, rfl⟩
theorem Hnd.step {l : List Nat} {p : Nat} {ps : List Int} {fs : List (Nat × List Nat)} (h : Hnd l p ps fs) (hp : p < l.length) (hE : opE (l.drop p) = 0) : Hnd l (p + opN (l.drop p)) (ps ++ [((p : Nat) : Int)]) (fs ++ [(opK (l.drop p), opP (l.drop p))]) := by
  have e := hnt_ok hp hE
  refine ⟨?_, ?_⟩
  · rw [h.1, e]; simp [hpl]
  · rw [h.2, e]; simp [hfr]
theorem Hnd.skip {l : List Nat} {p : Nat} {ps : List Int} {fs : List (Nat × List Nat)} (h : Hnd l p ps fs) (hp : p < l.length) (hE : opE (l.drop p) ≠ 0) : Hnd l (p + 1) ps fs := by
  have e := hnt_no hp hE
  exact ⟨by rw [h.1, e], by rw [h.2, e]⟩
theorem Hnd.last {l : List Nat} {p : Nat} {ps : List Int} {fs : List (Nat × List Nat)} (h : Hnd l p ps fs) (hp : l.length ≤ p) : hpl (hnt l 0) = ps ∧ hfr (hnt l 0) = fs := by
  have e := hnt_end hp
  exact ⟨by rw [h.1, e]; simp [hpl], by rw [h.2, e]; simp [hfr]⟩
/-- Places and frames of one's own, apart from each other. -/
def Hu (B : Nat) (w : World) (v4 v5 : Value) (ps : List Int) (fs : List (Nat × List Nat)) : Prop :=
  Oi B w v4 ps ∧ (∀ g, v4.ownBlock = some g → v5.ownBlock ≠ some g) ∧ ∃ cs : List Value, w.ownsRow B 34 2 v5 fs.length cs ∧ ∀ k, k < fs.length → ∃ vp : Value, (cs[k * 2]? = some (.int .i64 (((fs.getD k fr0).1 : Nat) : Int)) ∧ cs[k * 2 + 1]? = some vp) ∧ Bs w vp (fs.getD k fr0).2 ∧ (∀ g, v5.ownBlock = some g → Nb vp g) ∧ ∀ g, v4.ownBlock = some g → Nb vp g
theorem hu_nil (B : Nat) (w : World) : Hu B w (.slice none 0 0) (.slice none 0 0) [] [] := ⟨World.ownsRow_nil _ _ _ _, (fun g h => by cases h), [], World.ownsRow_nil _ _ _ _, fun k hk => by simp at hk⟩
theorem Hu.fo {B : Nat} {w : World} {v4 v5 : Value} {ps : List Int} {fs : List (Nat × List Nat)} (h : Hu B w v4 v5 ps fs) : Fo 34 B w v5 fs := by
  obtain ⟨-, -, cs, h1, h2⟩ := h
  exact ⟨cs, h1, fun k hk => by obtain ⟨vp, e, a, b, -⟩ := h2 k hk; exact ⟨vp, e, a, b⟩⟩
theorem Hu.later {B : Nat} {w w' : World} {v4 v5 : Value} {ps : List Int} {fs : List (Nat × List Nat)} (h : Hu B w v4 v5 ps fs) (k : Below w.heap.size w w') : Hu B w' v4 v5 ps fs := by
  obtain ⟨h0, h1, cs, h2, h3⟩ := h
  exact ⟨h0.later k, h1, cs, own_later h2 k, fun j hj => by obtain ⟨vp, e, a, b, c⟩ := h3 j hj; exact ⟨vp, e, a.later k, b, c⟩⟩
theorem Hu.low {B : Nat} {w : World} {v4 v5 : Value} {ps : List Int} {fs : List (Nat × List Nat)} (h : Hu B w v4 v5 ps fs) : (∀ g, v4.ownBlock = some g → g < w.heap.size) ∧ ∀ g, v5.ownBlock = some g → g < w.heap.size := by
  obtain ⟨h0, h1, cs, h2, h3⟩ := h
  exact ⟨fun g hg => (World.ownsRow.lt h0 g hg).2, fun g hg => (h2.lt g hg).2⟩
/-- A place is appended. -/
theorem apHp {ops : Array Oper} {rest : List Oper} {o : Oper} {a : Act} {w : World} {Q : Exit → Act → World → Prop} (hgd : o.guard = none) (s x : Operand)
    (ho : o.op = .call { callee := .builtin .append, args := #[s, x], argTypes := #[45, 45] })
    (B : Nat) (v4 v5 : Value) (ps : List Int) (fs : List (Nat × List Nat)) (hs : a.eval s = v4) (hF : Hu B w v4 v5 ps fs) (y : Int) (t : TypeId) (hx : a.eval x = .slice (some ⟨w.heap.size, 0, none⟩) 1 1)
    (hlen : ps.length ≤ 100000) (hB : B ≤ w.heap.size)
    (h : ∀ v' w', Hu B w' v' v5 (ps ++ [y]) fs → Gw B w w' → (∀ vp l, Bs w vp l → (∀ g, v4.ownBlock = some g → Nb vp g) → Bs w' vp l ∧ ∀ g, v'.ownBlock = some g → Nb vp g) → (∀ b u v, Bx2 b u v w → (∀ g, v4.ownBlock = some g → g ≠ b) → Bx2 b u v w') → wpList Tryd.prog ops Q rest (a.put o.dst v') w') : wpList Tryd.prog ops Q (o :: rest) a (w.alloc (.cells #[.int .i64 y] t)) := by
  obtain ⟨i0, hti, hy0, hy1, hy2⟩ := i64Info
  have low := hF.low
  obtain ⟨h0, h1, cs, h2, h3⟩ := hF
  refine wpList_append_own_at _ hgd s x 45 ho B 3 i0 (.int .i64 0) 1 8 Tryd.underlying45 hti hy0 hy1 hy2 rfl (by decide) v4 ps.length (i6 ps) hs (own_later h0 (bel1 _ _)) ⟨w.heap.size, 0, none⟩ 1 1 [.int .i64 y] hx rfl (cell_one_new _ _ _)
    (fun u hu => by simp only [List.mem_cons, List.not_mem_nil, or_false] at hu; rcases hu with rfl; rfl) (by unfold maxLen; omega) (by omega) (by rw [World.size_alloc]; omega) ?_
  intro v' w' hown hgrow _ hat
  refine h v' w' ⟨?_, ?_, cs, ?_, ?_⟩ ⟨fun w0 hb => (hb.alloc hB _).grown hgrow (by rw [World.size_alloc]; omega) (fun g hg => (World.ownsRow.lt h0 g hg).1), ?_⟩ (fun vp l hb hn => fo_key hgrow hat hb hn) ?_
  · show w'.ownsRow B 3 1 v' (ps ++ [y]).length (i6 (ps ++ [y]))
    rw [List.length_append, i6_app]
    exact hown
  · intro g hg e
    rcases hat with q | q
    · exact h1 g (q.symm.trans hg) e
    · rw [q, World.size_alloc] at hg
      have := low.2 g e
      have := Option.some.inj hg
      omega
  · refine (h2.alloc _).kept hgrow ?_
    rcases e : v5.ownBlock with _ | g
    · exact Or.inl rfl
    · refine Or.inr (fun q => h1 g q.symm e)
  · intro k hk
    obtain ⟨vp, e, p, q, r⟩ := h3 k hk
    obtain ⟨p1, p2⟩ := fo_key hgrow hat p r
    exact ⟨vp, e, p1, q, p2⟩
  · have := hgrow.size
    rw [World.size_alloc] at this
    omega
  · intro b u v hb hn
    have hlt := World.block_lt_of_cell? _ _ hb.c0
    have e : w'.heap[b]? = w.heap[b]? := by
      rw [hgrow.block b (by rw [World.size_alloc]; dsimp only at hlt; omega) (fun e2 => hn b e2.symm rfl), Below.heap_alloc _ _ _ hlt]
    exact ⟨(World.cell?_of_block (w := w) (a := ⟨b, 0, none⟩) e).trans hb.c0, (World.cell?_of_block (w := w) (a := ⟨b, 1, none⟩) e).trans hb.c1, (World.frozen?_of_block (w := w) (a := ⟨b, 0, none⟩) e).trans hb.f0, (World.frozen?_of_block (w := w) (a := ⟨b, 1, none⟩) e).trans hb.f1⟩
/-- A frame is appended. -/
theorem apHf {ops : Array Oper} {rest : List Oper} {o : Oper} {a : Act} {w : World} {Q : Exit → Act → World → Prop} (hgd : o.guard = none) (s x : Operand)
    (ho : o.op = .call { callee := .builtin .append, args := #[s, x], argTypes := #[42, 42] })
    (B : Nat) (v4 v5 : Value) (ps : List Int) (fs : List (Nat × List Nat)) (hs : a.eval s = v5) (hF : Hu B w v4 v5 ps fs) (k : Nat) (p : List Nat) (ad : Option Addr) (n cap : Nat) (hp : Bs w (.slice ad n cap) p) (hN : ∀ g, v5.ownBlock = some g → Nb (.slice ad n cap) g) (hM : ∀ g, v4.ownBlock = some g → Nb (.slice ad n cap) g) (t : TypeId) (hx : a.eval x = .slice (some ⟨w.heap.size, 0, none⟩) 1 1)
    (hlen : fs.length ≤ 100000) (hB : B ≤ w.heap.size)
    (h : ∀ v' w', Hu B w' v4 v' ps (fs ++ [(k, p)]) → Gw B w w' → wpList Tryd.prog ops Q rest (a.put o.dst v') w') : wpList Tryd.prog ops Q (o :: rest) a (w.alloc (.cells #[.int .i64 (k : Int), .slice ad n cap] t)) := by
  obtain ⟨i0, hti, hy0, hy1, hy2⟩ := info_parts dinfo_rf
  have low := hF.low
  obtain ⟨h0, h1, cs, h2, h3⟩ := hF
  refine wpList_append_own_at _ hgd s x 42 ho B 34 i0 (.agg #[.int .i64 0, .slice none 0 0]) 2 32 Tryd.underlying42 hti hy0 hy1 hy2 rfl (by decide) v5 fs.length cs hs (own_later h2 (bel1 _ _)) ⟨w.heap.size, 0, none⟩ 1 1 [.int .i64 (k : Int), .slice ad n cap] hx rfl
    (fun j u hj => by
      rcases j with _ | _ | j
      · simp at hj; subst hj; simp [go_sem, Addr.add]
      · simp at hj; subst hj; simp [go_sem, Addr.add]
      · simp at hj)
    (fun u hu => by simp only [List.mem_cons, List.not_mem_nil, or_false] at hu; rcases hu with rfl | rfl <;> rfl) (by unfold maxLen; omega) (by omega) (by rw [World.size_alloc]; omega) ?_
  intro v' w' hown hgrow _ hat
  have hlenc : cs.length = fs.length * 2 := h2.1
  refine h v' w' ⟨?_, ?_, cs ++ [.int .i64 (k : Int), .slice ad n cap], by rw [List.length_append]; exact hown, ?_⟩ ⟨fun w0 hb => (hb.alloc hB _).grown hgrow (by rw [World.size_alloc]; omega) (fun g hg => (h2.lt g hg).1), ?_⟩
  · refine (World.ownsRow.alloc h0 _).kept hgrow ?_
    rcases e : v4.ownBlock with _ | g
    · exact Or.inl rfl
    · refine Or.inr (fun q => h1 g e q.symm)
  · intro g hg e
    rcases hat with q | q
    · exact h1 g hg (q.symm.trans e)
    · rw [q, World.size_alloc] at e
      have := low.1 g hg
      have := Option.some.inj e
      omega
  · intro j hj
    rw [List.length_append] at hj
    rcases Nat.lt_or_ge j fs.length with hjl | hjl
    · obtain ⟨xa, ⟨e1, e2⟩, a1, a3, a4⟩ := h3 j hjl
      obtain ⟨p1, p2⟩ := fo_key hgrow hat a1 a3
      rw [getD_left hjl]
      exact ⟨xa, ⟨by rw [List.getElem?_append_left (by omega)]; exact e1, by rw [List.getElem?_append_left (by omega)]; exact e2⟩, p1, p2, a4⟩
    · have hj1 : j < fs.length + 1 := hj
      obtain rfl : j = fs.length := by omega
      obtain ⟨p1, p2⟩ := fo_key hgrow hat hp hN
      rw [getD_end]
      refine ⟨_, ⟨?_, ?_⟩, p1, p2, hM⟩
      · rw [List.getElem?_append_right (by omega), hlenc, Nat.sub_self]; rfl
      · rw [List.getElem?_append_right (by omega), hlenc, show fs.length * 2 + 1 - fs.length * 2 = 1 by omega]; rfl
  · have := hgrow.size
    rw [World.size_alloc] at this
    omega
end Go.Proofs.YtploeheklekjjaaDoor
