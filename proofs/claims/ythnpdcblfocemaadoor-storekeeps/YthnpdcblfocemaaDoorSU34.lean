/-
  Texts of this proof, joined: StAp.
-/
import Derived.Test.YthnpdcblfocemaaDoorSU05
import Derived.Test.YthnpdcblfocemaaDoorSU06
set_option linter.unusedVariables false
set_option linter.unusedSimpArgs false
namespace Go.Proofs.YthnpdcblfocemaaDoor
open Go.RowKit

def LsC (w : World) (v : Value) (n : Nat) (xs : List Value) : Prop :=
  xs.length = n ∧ (∀ u ∈ xs, u.oneCell' = true) ∧ ((v = .slice none 0 0 ∧ n = 0) ∨ ∃ ad c, v = .slice (some ad) n c ∧ ∀ j u, xs[j]? = some u → w.cell? (ad.add j) = some u)
theorem LsC.later {w w' : World} {v : Value} {n : Nat} {xs : List Value} (h : LsC w v n xs) (k : Below w.heap.size w w') : LsC w' v n xs := by
  obtain ⟨h1, h2, h3⟩ := h
  refine ⟨h1, h2, ?_⟩
  rcases h3 with h3 | ⟨ad, c, e, h4⟩
  · exact Or.inl h3
  · exact Or.inr ⟨ad, c, e, fun j u hj => cell_later k (h4 j u hj)⟩
theorem lsc_own {w : World} {B : Nat} {v : Value} {n : Nat} {cs : List Value} (h : w.ownsRow B 22 1 v n cs) (h1 : ∀ u ∈ cs, u.oneCell' = true) : LsC w v n cs := by
  have hl : cs.length = n := by have := h.1; omega
  refine ⟨hl, h1, ?_⟩
  rcases id h.2 with ⟨rfl, h0⟩ | ⟨g, c, cur, rfl, hbg, hg, hnc, hcm, hcs, htake⟩
  · exact Or.inl ⟨rfl, h0⟩
  · refine Or.inr ⟨⟨g, 0, none⟩, c, rfl, fun j u hj => ?_⟩
    have hjl : j < cs.length := (List.getElem?_eq_some_iff.1 hj).1
    rw [Addr.add_mid, Nat.zero_add, h.cellAt j (by rw [← h.1]; exact hjl)]
    exact hj
theorem lsc_one (w : World) (x : Value) (hx : x.oneCell' = true) (t : TypeId) : LsC (w.alloc (.cells #[x] t)) (.slice (some ⟨w.heap.size, 0, none⟩) 1 1) 1 [x] :=
  ⟨rfl, fun u hu => by simp only [List.mem_cons, List.not_mem_nil, or_false] at hu; rw [hu]; exact hx, Or.inr ⟨_, _, rfl, fun j u hj => by
    rcases j with _ | j
    · simp at hj; subst hj; simp [go_sem, Addr.add]
    · simp at hj⟩⟩
theorem lsc_grown {w w' : World} {b o n c : Nat} {xs : List Value} {row : Option Nat} (h : LsC w (.slice (some ⟨b, o, none⟩) n c) n xs) (k : w.grownBy w' row) (hb : some b ≠ row) : LsC w' (.slice (some ⟨b, o, none⟩) n c) n xs := by
  obtain ⟨h1, h2, h3⟩ := h
  refine ⟨h1, h2, Or.inr ⟨_, _, rfl, fun j u hj => ?_⟩⟩
  rcases h3 with ⟨h3, -⟩ | ⟨ad, c', e, h4⟩
  · cases h3
  · injection e with e1 e2 e3
    injection e1 with e1
    subst e1
    have h5 := h4 j u hj
    have hlt := World.block_lt_of_cell? _ _ h5
    have eb : ((⟨b, o, none⟩ : Addr).add j).block = b := by first | rw [Addr.add_lit] | rw [Addr.add_mid] | rfl
    exact cell_blk5 (k.block _ hlt (by rw [eb]; exact hb)) h5
theorem wp_ap18 {o : Oper} {a : Act} {K : Act → World → Prop} {Q : Exit → Act → World → Prop} {W : World} (s x : Operand)
    (ho : o.op = .call { callee := .builtin .append, args := #[s, x], argTypes := #[26, 26] })
    (B : Nat) (v : Value) (n : Nat) (cs : List Value) (hs : a.eval s = v) (hown : W.ownsRow B 22 1 v n cs) (y : Value) (m : Nat) (ys : List Value) (hx : a.eval x = y) (hy : LsC W y m ys) (hn : n + m ≤ 100000) (hbase : B ≤ W.heap.size)
    (h : ∀ v' w', w'.ownsRow B 22 1 v' (n + m) (cs ++ ys) → W.grownBy w' v.ownBlock → K (a.put o.dst v') w') : o.wp Tryd.prog a W K Q := by
  obtain ⟨i0, hti, hy0, hy1, hy2⟩ := info_parts dinfo_bys
  obtain ⟨g1, g2, g3⟩ := hy
  rcases g3 with ⟨rfl, rfl⟩ | ⟨ad, c, rfl, g3⟩
  · have e : ys = [] := List.eq_nil_of_length_eq_zero g1
    subst e
    exact wp_append_own_none s x 26 ho B 22 i0 1 Tryd.underlying26 hti v n cs hs hown hx (h v W (by simpa using hown) ⟨rfl, rfl, rfl, Nat.le_refl _, fun _ _ _ => rfl⟩)
  · exact wp_append_own _ s x 26 ho B 22 i0 (.slice none 0 0) 1 24 Tryd.underlying26 hti hy0 hy1 hy2 rfl (by decide) v n cs hs hown ad m c ys hx (by omega) g3 g2 (by unfold maxLen; omega) (by omega) hbase (fun v' w' q1 q2 _ => h v' w' q1 q2)
theorem P2.grow18 {S T : World → (Nat → Prop) → Prop} (oS : Owns S) (oT : Owns T) {w0 w w' : World} {N N' : Nat → Prop} (h : P2 S T w0 w N) (k : ∀ i, i < w.heap.size → ¬ N i → w'.heap[i]? = w.heap[i]?) (hs : w.heap.size ≤ w'.heap.size) (hb : Below w0.heap.size w0 w') (hN : ∀ i, N' i → N i ∨ (w.heap.size ≤ i ∧ i < w'.heap.size)) : P2 S T w0 w' N' := by
  obtain ⟨F, G, h1, h2, h3, h4, h5, h6, h7⟩ := h
  refine ⟨F, G, oS.kept h1 (fun i hi => k i (oS.lt h1 i hi) (fun q => (h6 i q).1 hi)) hs, oT.kept h2 (fun i hi => k i (oT.lt h2 i hi) (fun q => (h6 i q).2.1 hi)) hs, h3, h4, h5, fun i hi => ?_, hb⟩
  rcases hN i hi with q | q
  · obtain ⟨a, b, c, e⟩ := h6 i q
    exact ⟨a, b, c, by omega⟩
  · exact ⟨fun e => by have := oS.lt h1 i e; omega, fun e => by have := oT.lt h2 i e; omega, by have := h7.size; omega, q.2⟩
end Go.Proofs.YthnpdcblfocemaaDoor
