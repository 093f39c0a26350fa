/-
  Layer 17: appends while the power stays; texts of an elder list, kept.
-/
import Derived.Test.YtkbpcmjdfaokhaaDoorZ25

set_option linter.unusedVariables false
set_option linter.unusedSimpArgs false
namespace Go.Proofs.YtkbpcmjdfaokhaaDoor
open Go.RowKit

theorem gone_on {s : Dsk} (h : s.ar = false) : dGo s = true ∧ dGone s = s := by
  constructor
  · unfold dGo; rw [h]; rfl
  · unfold dGone; rw [h]; simp
theorem wr_on {s : Dsk} {i : Nat} {b : List Nat} (hd : s.dn = false) (ha : s.ar = false) (hi : i < s.bl.length) (hb : b.length ≤ 128) : wrE s (i : Int) b = 0 ∧ (wrS s (i : Int) b).ar = false ∧ (wrS s (i : Int) b).dn = false ∧ (wrS s (i : Int) b).bl.length = s.bl.length := by
  have a : dAsk s (i : Int) = 0 := by unfold dAsk; rw [if_neg (by rw [hd]; simp), if_neg (by omega)]
  have e : wrS s (i : Int) b = { s with un := s.un ++ [(i, full b)] } := by
    unfold wrS
    rw [if_neg (by rw [a]; omega), (gone_on (s := { s with un := s.un ++ [(((i : Nat) : Int).toNat, full b)] }) ha).2]
    rfl
  refine ⟨?_, by rw [e]; exact ha, by rw [e]; exact hd, by rw [e]⟩
  unfold wrE
  rw [if_neg (by rw [a]; simp), if_neg (by omega), if_pos (gone_on ha).1]
theorem jwr_on (p : Nat) (r : List Nat) (n gen : Nat) : ∀ (k i : Nat) (s : Dsk), s.dn = false → s.ar = false → p + i + k ≤ s.bl.length → (jwr p r n gen k i s).1 = 0 ∧ (jwr p r n gen k i s).2.ar = false ∧ (jwr p r n gen k i s).2.dn = false := by
  intro k
  induction k with
  | zero => intro i s h1 h2 _; exact ⟨rfl, h2, h1⟩
  | succ k ih =>
    intro i s h1 h2 hl
    obtain ⟨a1, a2, a3, a4⟩ := wr_on (s := s) (i := p + i) (b := jblk r i n gen) h1 h2 (by omega) (by rw [jblk_len]; omega)
    rw [jwr_next, if_neg (by rw [a1]; simp)]
    exact ih (i + 1) _ a3 a2 (by rw [a4]; omega)
theorem fl_on {s : Dsk} (hd : s.dn = false) (ha : s.ar = false) : flE s = 0 ∧ (flS s).ar = false := by
  constructor
  · unfold flE; rw [if_neg (by rw [hd]; simp), if_pos (gone_on ha).1]
  · unfold flS; rw [if_neg (by rw [hd]; simp), if_pos (gone_on ha).1, (gone_on ha).2]; exact ha
/-- An Append that has room, while the power stays. -/
theorem japp_on {base size g i : Nat} {rs : List (List Nat)} {used : Nat} {s : Dsk} (h : JIn base size g i rs used s) (ha : s.ar = false) (hg : g ≠ 0) {r : List Nat} (hr : ∀ c ∈ r, c < 256) (hl : r.length ≤ 262144) (hroom : used + prt r.length ≤ size) :
    ∃ s', japp s base size ⟨g, rs.length, used⟩ r = (0, s', ⟨g, (rs ++ [r]).length, used + prt r.length⟩) ∧ JIn base size g i (rs ++ [r]) (used + prt r.length) s' ∧ s'.ar = false := by
  have hrm := h.rm
  obtain ⟨w1, w2, w3⟩ := jwr_on (base + used) r (rs.length + 1) g (prt r.length) 0 s h.dn ha (by omega)
  have f := fl_on w3 w2
  have e : (jput s base ⟨g, rs.length, used⟩ r) = (flE (jwr (base + used) r (rs.length + 1) g (prt r.length) 0 s).2, flS (jwr (base + used) r (rs.length + 1) g (prt r.length) 0 s).2) := by
    show jfl _ = _
    unfold jfl
    rw [if_neg (by rw [w1]; simp)]
  refine ⟨flS (jwr (base + used) r (rs.length + 1) g (prt r.length) 0 s).2, ?_, ?_, f.2⟩
  · unfold japp
    rw [if_neg hg, if_neg (by omega), if_neg (by show ¬ size - used < _; omega), e, if_neg (by rw [f.1]; simp)]
    simp
  · rcases h.app hr hl hroom with q | q
    · have e2 : jfl (jwr (base + used) r (rs.length + 1) g (prt r.length) 0 s) = (flE (jwr (base + used) r (rs.length + 1) g (prt r.length) 0 s).2, flS (jwr (base + used) r (rs.length + 1) g (prt r.length) 0 s).2) := e
      rw [e2] at q
      exact q.2
    · have e2 : jfl (jwr (base + used) r (rs.length + 1) g (prt r.length) 0 s) = (flE (jwr (base + used) r (rs.length + 1) g (prt r.length) 0 s).2, flS (jwr (base + used) r (rs.length + 1) g (prt r.length) 0 s).2) := e
      rw [e2] at q
      have := q.1
      have := f.1
      dsimp only at *
      omega
theorem japp_full {s : Dsk} {base size : Nat} {j : Jst} {r : List Nat} (hg : j.gen ≠ 0) (hl : r.length ≤ 262144) (h : size - j.next < prt r.length) : japp s base size j r = (170, s, j) := by
  unfold japp
  rw [if_neg hg, if_neg (by omega), if_pos h]
/-- A list of one's own, of texts that are older. -/
def KpO (w0 w : World) (v : Value) (ls : List (List Nat)) : Prop :=
  ∃ cs : List Value, w.ownsRow w0.heap.size 40 1 v ls.length cs ∧ ∀ k, k < ls.length → ∃ x : Value, cs[k]? = some x ∧ Bs w0 x (ls.getD k [])
theorem kpo_nil (w0 w : World) : KpO w0 w (.slice none 0 0) [] := ⟨[], World.ownsRow_nil _ _ _ _, fun k hk => by simp at hk⟩
theorem KpO.txo {w0 w : World} {v : Value} {ls : List (List Nat)} (h : KpO w0 w v ls) (hb : Below w0.heap.size w0 w) : TxO w0.heap.size w v ls := by
  obtain ⟨cs, h1, h2⟩ := h
  refine ⟨cs, h1, fun k hk => ?_⟩
  obtain ⟨x, e1, e2⟩ := h2 k hk
  refine ⟨x, e1, e2.later hb, fun g hg a n c e h0 e3 => ?_⟩
  have q1 := (World.ownsRow.lt h1 g hg).1
  have q2 := Ls.lo e2 a n c e h0
  omega
theorem KpO.kn {w0 w w' : World} {v : Value} {ls : List (List Nat)} {N : Nat → Prop} (h : KpO w0 w v ls) (k : Kn N w w') (hN : ∀ g, v.ownBlock = some g → N g) : KpO w0 w' v ls := by
  obtain ⟨cs, h1, h2⟩ := h
  exact ⟨cs, own_block15 h1 (fun g hg => k g (hN g hg)), h2⟩
theorem KpO.later {w0 w w' : World} {v : Value} {ls : List (List Nat)} (h : KpO w0 w v ls) (k : Below w.heap.size w w') : KpO w0 w' v ls := by
  obtain ⟨cs, h1, h2⟩ := h
  exact ⟨cs, own_block15 h1 (fun g hg => k.block g (World.ownsRow.lt h1 g hg).2), h2⟩
/-- A text of the elder list is appended. -/
theorem apKp {ops : Array Oper} {rest : List Oper} {o : Oper} {a : Act} {w0 w : World} {Q : Exit → Act → World → Prop} (hgd : o.guard = none) (s x : Operand)
    (ho : o.op = .call { callee := .builtin .append, args := #[s, x], argTypes := #[53, 53] })
    (v : Value) (ls : List (List Nat)) (hs : a.eval s = v) (hT : KpO w0 w v ls) (ad : Option Addr) (n cap : Nat) (t : List Nat) (hp : Bs w0 (.slice ad n cap) t) (ty : TypeId) (hx : a.eval x = .slice (some ⟨w.heap.size, 0, none⟩) 1 1)
    (hlen : ls.length ≤ 100000) (hbase : w0.heap.size ≤ w.heap.size)
    (h : ∀ v' w', KpO w0 w' v' (ls ++ [t]) → Gw w0.heap.size w w' → (∀ k, k < w.heap.size → v.ownBlock ≠ some k → w'.heap[k]? = w.heap[k]?) → (∀ g, v'.ownBlock = some g → v.ownBlock = some g ∨ w.heap.size ≤ g) → wpList Tryd.prog ops Q rest (a.put o.dst v') w') : wpList Tryd.prog ops Q (o :: rest) a (w.alloc (.cells #[.slice ad n cap] ty)) := by
  obtain ⟨i0, hti, hy0, hy1, hy2⟩ := info_parts dinfo_bys
  obtain ⟨cs, h5, h6⟩ := hT
  refine wpList_append_own_at _ hgd s x 53 ho w0.heap.size 40 i0 (.slice none 0 0) 1 24 Tryd.underlying53 hti hy0 hy1 hy2 rfl (by decide) v ls.length cs hs (own_later h5 (bel1 _ _)) ⟨w.heap.size, 0, none⟩ 1 1 [.slice ad n cap] hx rfl
    (fun j u hj => by
      rcases j with _ | j
      · simp at hj; subst hj; simp [go_sem, Addr.add]
      · simp at hj)
    (fun u hu => by simp only [List.mem_cons, List.not_mem_nil, or_false] at hu; rcases hu with rfl; rfl) (by unfold maxLen; omega) (by omega) (by rw [World.size_alloc]; omega) ?_
  intro v' w' hown hgrow _ hat
  have hgs := hgrow.size
  rw [World.size_alloc] at hgs
  have hkb : ∀ i, i < w.heap.size → v.ownBlock ≠ some i → w'.heap[i]? = w.heap[i]? := fun i hi hne => by
    rw [hgrow.block i (by rw [World.size_alloc]; omega) (fun e2 => hne e2.symm), Below.heap_alloc _ _ _ hi]
  have hat2 : ∀ g, v'.ownBlock = some g → v.ownBlock = some g ∨ w.heap.size ≤ g := fun g hg => by
    rcases hat with q | q
    · exact Or.inl (q.symm.trans hg)
    · rw [q, World.size_alloc] at hg
      have := Option.some.inj hg
      exact Or.inr (by omega)
  refine h v' w' ⟨cs ++ [.slice ad n cap], by rw [List.length_append]; exact hown, fun j hj => ?_⟩ ⟨fun w1 hb => (hb.alloc hbase _).grown hgrow (by rw [World.size_alloc]; omega) (fun g hg => (World.ownsRow.lt h5 g hg).1), by omega⟩ hkb hat2
  rw [List.length_append] at hj
  have hcl : cs.length = ls.length := by have := h5.1; omega
  by_cases q : j < ls.length
  · obtain ⟨y, e1, e2⟩ := h6 j q
    refine ⟨y, ?_, ?_⟩
    · rw [List.getElem?_append_left (by omega)]; exact e1
    · have : (ls ++ [t]).getD j [] = ls.getD j [] := by simp [List.getD, List.getElem?_append_left q]
      rw [this]
      exact e2
  · have hj2 : j = ls.length := by simp at hj; omega
    subst hj2
    refine ⟨.slice ad n cap, ?_, ?_⟩
    · rw [List.getElem?_append_right (by omega), hcl, Nat.sub_self]; rfl
    · have : (ls ++ [t]).getD ls.length [] = t := by simp [List.getD]
      rw [this]
      exact hp
end Go.Proofs.YtkbpcmjdfaokhaaDoor
