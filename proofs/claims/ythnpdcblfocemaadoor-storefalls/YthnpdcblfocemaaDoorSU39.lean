/-
  Texts of this proof, joined: StFm.
-/
import Derived.Test.YthnpdcblfocemaaDoorSU37
import Derived.Test.YthnpdcblfocemaaDoorSU38
import Derived.Deep.WholeRow
import Derived.Deep.MidRow
set_option linter.unusedVariables false
set_option linter.unusedSimpArgs false
namespace Go.Proofs.YthnpdcblfocemaaDoor
open Go.RowKit

def kpC (vB vL vN : Value) (sv ad : Bool) : List Value := [vB, vL, .bool false, vN, .bool sv, .bool ad]
def Vk (w : World) (g : Nat) (xs : List Value) : Prop := w.heap[g]? = some (.cells xs.toArray 45 (0, 0))
theorem Vk.lt {w : World} {g : Nat} {xs : List Value} (h : Vk w g xs) : g < w.heap.size := (Array.getElem?_eq_some_iff.1 h).1
theorem Vk.cell {w : World} {g : Nat} {xs : List Value} (h : Vk w g xs) (j : Nat) (v : Value) (hj : xs[j]? = some v) : w.cell? ⟨g, j, none⟩ = some v := by
  rw [cell_of_row w g j _ _ _ h]
  simpa using hj
theorem Vk.fro {w : World} {g : Nat} {xs : List Value} (h : Vk w g xs) (j : Nat) : w.frozen? ⟨g, j, none⟩ = false := by
  unfold Vk at h
  simp [World.frozen?, h]
theorem Vk.kept {w w' : World} {g : Nat} {xs : List Value} (h : Vk w g xs) (k : w'.heap[g]? = w.heap[g]?) : Vk w' g xs := k.trans h
theorem Vk.new (w : World) (xs : List Value) : Vk (w.alloc (.cells xs.toArray 45)) w.heap.size xs := heap_alloc_last w _
theorem Vk.set {w : World} {g : Nat} {xs : List Value} (h : Vk w g xs) (i : Nat) (v : Value) : Vk (w.setCell ⟨g, i, none⟩ v) g (xs.set i v) := by
  have hlt := h.lt
  unfold Vk at h ⊢
  have e : w.heap[g] = Obj.cells xs.toArray 45 := by
    rw [Array.getElem?_eq_getElem hlt] at h
    exact Option.some.inj h
  simp [World.setCell, hlt, Array.getElem_modify, e]
structure Fm18 (w0 w : World) (M : Nat → Prop) (kb : Nat) (vB vL vN : Value) (cs : List Value) (sv ad : Bool) (last nx : List Nat) (rs : List (List Nat)) : Prop where
  mb : M kb
  v : Vk w kb (kpC vB vL vN sv ad)
  tx : ∀ w'' : World, (∀ i, M i → i ≠ kb → w''.heap[i]? = w.heap[i]?) → Below w0.heap.size w0 w'' → Bs w'' vB last ∧ TxC w'' vL rs cs ∧ Bs w'' vN nx
theorem Fm18.kn {w0 w w' : World} {M : Nat → Prop} {kb : Nat} {vB vL vN : Value} {cs : List Value} {sv ad : Bool} {last nx : List Nat} {rs : List (List Nat)} (H : Fm18 w0 w M kb vB vL vN cs sv ad last nx rs) (k : Kn M w w') : Fm18 w0 w' M kb vB vL vN cs sv ad last nx rs :=
  ⟨H.mb, H.v.kept (k kb H.mb), fun w'' h hb => H.tx w'' (fun i hi hn => (h i hi hn).trans (k i hi)) hb⟩
theorem Fm18.more {w0 w : World} {M M' : Nat → Prop} {kb : Nat} {vB vL vN : Value} {cs : List Value} {sv ad : Bool} {last nx : List Nat} {rs : List (List Nat)} (H : Fm18 w0 w M kb vB vL vN cs sv ad last nx rs) (k : ∀ i, M i → M' i) : Fm18 w0 w M' kb vB vL vN cs sv ad last nx rs :=
  ⟨k kb H.mb, H.v, fun w'' h hb => H.tx w'' (fun i hi hn => h i (k i hi) hn) hb⟩
theorem Fm18.later {w0 w w' : World} {M : Nat → Prop} {kb : Nat} {vB vL vN : Value} {cs : List Value} {sv ad : Bool} {last nx : List Nat} {rs : List (List Nat)} (H : Fm18 w0 w M kb vB vL vN cs sv ad last nx rs) (hM : ∀ i, M i → i < w.heap.size) (k : Below w.heap.size w w') : Fm18 w0 w' M kb vB vL vN cs sv ad last nx rs :=
  H.kn (fun i hi => k.block i (hM i hi))
theorem Fm18.put {w0 w w' : World} {M : Nat → Prop} {kb : Nat} {vB vL vN vB' vL' vN' : Value} {cs cs' : List Value} {sv ad sv' ad' : Bool} {last nx last' nx' : List Nat} {rs rs' : List (List Nat)} (H : Fm18 w0 w M kb vB vL vN cs sv ad last nx rs) (o : ∀ i, i ≠ kb → w'.heap[i]? = w.heap[i]?) (hv : Vk w' kb (kpC vB' vL' vN' sv' ad'))
    (t : ∀ w'' : World, (∀ i, M i → i ≠ kb → w''.heap[i]? = w.heap[i]?) → Below w0.heap.size w0 w'' → (Bs w'' vB last ∧ TxC w'' vL rs cs ∧ Bs w'' vN nx) → Bs w'' vB' last' ∧ TxC w'' vL' rs' cs' ∧ Bs w'' vN' nx') : Fm18 w0 w' M kb vB' vL' vN' cs' sv' ad' last' nx' rs' :=
  ⟨H.mb, hv, fun w'' h hb => by
    have h2 : ∀ i, M i → i ≠ kb → w''.heap[i]? = w.heap[i]? := fun i hi hn => (h i hi hn).trans (o i hn)
    exact t w'' h2 hb (H.tx w'' h2 hb)⟩
theorem p2_lt {S T : World → (Nat → Prop) → Prop} {w0 w : World} {N : Nat → Prop} (h : P2 S T w0 w N) : ∀ i, N i → w0.heap.size ≤ i ∧ i < w.heap.size := by
  obtain ⟨F, G, -, -, -, -, -, h6, -⟩ := h
  exact fun i hi => ⟨(h6 i hi).2.2.1, (h6 i hi).2.2.2⟩
theorem txc_app18 {w : World} {B : Nat} {v : Value} {ls : List (List Nat)} {cs : List Value} {x : Value} {t : List Nat} (ho : w.ownsRow B 22 1 v (ls.length + 1) (cs ++ [x])) (hl : cs.length = ls.length) (h : ∀ k, k < ls.length → ∃ y : Value, cs[k]? = some y ∧ Bs w y (ls.getD k [])) (hp : Bs w x t) : TxC w v (ls ++ [t]) (cs ++ [x]) := by
  rcases id ho.2 with ⟨rfl, h0⟩ | ⟨g, c, cur, rfl, hbg, hg, hnc, hcm, hcs, htake⟩
  · omega
  · have hlen : (ls ++ [t]).length = ls.length + 1 := by rw [List.length_append]; rfl
    refine ⟨_, c, g, 0, by rw [hlen], by omega, hcm, fun e => (by cases e), fun _ => rfl, by rw [List.length_append, hlen, hl]; rfl, fun j hj => ?_⟩
    rw [hlen] at hj
    have hc := ho.cellAt j (by omega)
    rw [Nat.zero_add]
    by_cases q : j < ls.length
    · obtain ⟨y, e1, e2⟩ := h j q
      have e3 : (cs ++ [x])[j]? = some y := by rw [List.getElem?_append_left (by omega)]; exact e1
      refine ⟨y, e3, by rw [hc]; exact e3, ?_⟩
      have : (ls ++ [t]).getD j [] = ls.getD j [] := by simp [List.getD, List.getElem?_append_left q]
      rw [this]
      exact e2
    · have hj2 : j = ls.length := by omega
      subst hj2
      have e3 : (cs ++ [x])[ls.length]? = some x := by rw [List.getElem?_append_right (by omega), hl, Nat.sub_self]; rfl
      refine ⟨x, e3, by rw [hc]; exact e3, ?_⟩
      have : (ls ++ [t]).getD ls.length [] = t := by simp [List.getD]
      rw [this]
      exact hp
theorem txc_nil18 (w : World) : TxC w (.slice none 0 0) [] [] := ⟨none, 0, 0, 0, rfl, Nat.le_refl _, Nat.zero_le _, fun _ => rfl, fun h => by simp at h, rfl, fun j hj => by simp at hj⟩
theorem own_same18 {w w' : World} {B : Nat} {v : Value} {n : Nat} {xs : List Value} (h : w.ownsRow B 22 1 v n xs) (hk : ∀ g, v.ownBlock = some g → w'.heap[g]? = w.heap[g]?) : w'.ownsRow B 22 1 v n xs := by
  obtain ⟨h1, h2⟩ := h
  refine ⟨h1, ?_⟩
  rcases h2 with q | ⟨g, c, cur, rfl, hbg, hg, r⟩
  · exact Or.inl q
  · exact Or.inr ⟨g, c, cur, rfl, hbg, (hk g rfl).trans hg, r⟩
theorem Fm18.grown {w0 w w9 : World} {M : Nat → Prop} {kb : Nat} {vB vL vN v9 x : Value} {cs : List Value} {sv ad : Bool} {last nx bb : List Nat} {rs : List (List Nat)} {B : Nat} (H : Fm18 w0 w M kb vB vL vN cs sv ad last nx rs) (hM : ∀ i, M i → w0.heap.size ≤ i ∧ i < w.heap.size) (hb : Below w.heap.size w w9) (hbe : Below w0.heap.size w0 w9) (ho : w9.ownsRow B 22 1 v9 (rs.length + 1) (cs ++ [x])) (hB : w.heap.size ≤ B) (hx : Bs w0 x bb) :
    Fm18 w0 (w9.setCell ⟨kb, 1, none⟩ v9) (fun i => M i ∨ v9.ownBlock = some i) kb vB v9 vN (cs ++ [x]) sv ad last nx (rs ++ [bb]) := by
  have H9 := (H.later (fun i hi => (hM i hi).2) hb).more (M' := fun i => M i ∨ v9.ownBlock = some i) (fun i hi => Or.inl hi)
  have hkb := (hM kb H.mb).2
  refine H9.put (fun i hi => Below.heap_setCell _ _ _ _ hi) (H9.v.set 1 v9) (fun w'' h1 h2 h3 => ⟨h3.1, ?_, h3.2.2⟩)
  have hcs := h3.2.1.cells
  refine txc_app18 (own_same18 ho (fun g hg => ?_)) hcs.1 hcs.2 (hx.later h2)
  have hg2 := (ho.lt g hg).1
  exact h1 g (Or.inr hg) (by omega)
end Go.Proofs.YthnpdcblfocemaaDoor
