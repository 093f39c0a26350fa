/-
  Layer 13: frames one behind the other, with bytes ahead of them: what Split and Hunt tell of them.
-/
import Derived.Test.YtploeheklekjjabDoorFrDefs3
set_option linter.unusedVariables false
set_option linter.unusedSimpArgs false
namespace Go.Proofs.YtploeheklekjjabDoor
open Go.RowKit

/-- Frames, sealed one behind the other. -/
def fls (fs : List (Nat × List Nat)) : List Nat := fs.flatMap fun f => fsl f.1 f.2
/-- A frame that can be sealed. -/
def okF (f : Nat × List Nat) : Prop := 1 ≤ f.1 ∧ f.1 ≤ 255 ∧ (∀ c ∈ f.2, c < 256) ∧ f.2.length ≤ 200
theorem fls_cons (f : Nat × List Nat) (fs : List (Nat × List Nat)) : fls (f :: fs) = fsl f.1 f.2 ++ fls fs := by simp [fls]
theorem fls_snoc (fs : List (Nat × List Nat)) (f : Nat × List Nat) : fls (fs ++ [f]) = fls fs ++ fsl f.1 f.2 := by simp [fls]
theorem fls_len (fs : List (Nat × List Nat)) (h : ∀ f ∈ fs, okF f) : (fls fs).length ≤ 212 * fs.length := by
  induction fs with
  | nil => simp [fls]
  | cons f fs ih =>
    have h1 := ih (fun g hg => h g (by simp [hg]))
    have h2 := (h f (by simp)).2.2.2
    rw [fls_cons, List.length_append, seal_len, List.length_cons]
    omega
theorem fls_byte (fs : List (Nat × List Nat)) (h : ∀ f ∈ fs, okF f) : ∀ c ∈ fls fs, c < 256 := by
  intro c hc
  unfold fls at hc
  obtain ⟨f, hf, hc⟩ := List.mem_flatMap.1 hc
  obtain ⟨h1, h2, h3, h4⟩ := h f hf
  exact seal_byte (by omega) h3 (by omega) c hc
theorem spl_fls : ∀ fs : List (Nat × List Nat), (∀ f ∈ fs, okF f) → spl (fls fs) = (fs, (fls fs).length, 0) := by
  intro fs
  induction fs with
  | nil => intro _; exact spl_nil rfl
  | cons f fs ih =>
    intro h
    obtain ⟨h1, h2, h3, h4⟩ := h f (by simp)
    have hE := opE_seal (k := f.1) (by omega) f.2 (fls fs) (by omega)
    obtain ⟨e1, e2, e3⟩ := op_seal (k := f.1) (by omega) f.2 (fls fs) (by omega)
    rw [fls_cons]
    rw [spl_ok (by rw [List.length_append, seal_len]; omega) hE, e1, e2, e3]
    have hd : (fsl f.1 f.2 ++ fls fs).drop (f.2.length + 12) = fls fs := by rw [← seal_len f.1 f.2]; exact List.drop_left' rfl
    rw [hd, ih (fun g hg => h g (by simp [hg]))]
    rw [List.length_append, seal_len]
/-- Where frames stand, from a place on. -/
def pls : Nat → List (Nat × List Nat) → List (Nat × Nat × List Nat)
  | _, [] => []
  | p, f :: fs => (p, f.1, f.2) :: pls (p + (f.2.length + 12)) fs
theorem hnt_fls : ∀ (fs : List (Nat × List Nat)) (A : List Nat), (∀ f ∈ fs, okF f) → hnt (A ++ fls fs) A.length = pls A.length fs := by
  intro fs
  induction fs with
  | nil => intro A _; exact hnt_end (by simp [fls])
  | cons f fs ih =>
    intro A h
    obtain ⟨h1, h2, h3, h4⟩ := h f (by simp)
    have hE := opE_seal (k := f.1) (by omega) f.2 (fls fs) (by omega)
    obtain ⟨e1, e2, e3⟩ := op_seal (k := f.1) (by omega) f.2 (fls fs) (by omega)
    have hd : (A ++ fls (f :: fs)).drop A.length = fsl f.1 f.2 ++ fls fs := by rw [fls_cons]; exact List.drop_left' rfl
    rw [hnt_ok (by rw [fls_cons, List.length_append, List.length_append, seal_len]; omega) (by rw [hd]; exact hE), hd, e1, e2, e3]
    have hA : A ++ fls (f :: fs) = (A ++ fsl f.1 f.2) ++ fls fs := by rw [fls_cons, List.append_assoc]
    have hL : (A ++ fsl f.1 f.2).length = A.length + (f.2.length + 12) := by rw [List.length_append, seal_len]
    rw [hA, ← hL, ih _ (fun g hg => h g (by simp [hg])), hL]
    rfl
theorem hnt_skip (A B : List Nat) (h : ∀ c ∈ A, c ≠ 82) : ∀ k p, p + k = A.length → hnt (A ++ B) p = hnt (A ++ B) A.length := by
  intro k
  induction k with
  | zero => intro p hp; rw [show p = A.length by omega]
  | succ k ih =>
    intro p hp
    have hlt : p < (A ++ B).length := by rw [List.length_append]; omega
    have hg : ((A ++ B).drop p).getD 0 0 ≠ 82 := by
      rw [getD_drop, Nat.add_zero]
      have e : (A ++ B).getD p 0 = A[p] := by simp [List.getD, List.getElem?_append, show p < A.length by omega]
      rw [e]
      exact h _ (List.getElem_mem _)
    have hE : opE ((A ++ B).drop p) = 131 := opE_b0 (by rw [List.length_drop]; omega) hg
    rw [hnt_no hlt (by rw [hE]; omega)]
    exact ih (p + 1) (by omega)
/-- With bytes ahead of which none is a frame's first, the hunt tells the frames. -/
theorem hnt_rows (A : List Nat) (fs : List (Nat × List Nat)) (hA : ∀ c ∈ A, c ≠ 82) (h : ∀ f ∈ fs, okF f) : hnt (A ++ fls fs) 0 = pls A.length fs := by
  rw [hnt_skip A _ hA A.length 0 (by omega), hnt_fls fs A h]
theorem pls_len : ∀ (fs : List (Nat × List Nat)) (p : Nat), (pls p fs).length = fs.length := by
  intro fs
  induction fs with
  | nil => intro p; rfl
  | cons f fs ih => intro p; simp [pls, ih]
theorem pls_at : ∀ (fs : List (Nat × List Nat)) (p i : Nat) (y : Nat × Nat × List Nat), (pls p fs)[i]? = some y → p ≤ y.1 ∧ fs[i]? = some y.2 := by
  intro fs
  induction fs with
  | nil => intro p i y h; simp [pls] at h
  | cons f fs ih =>
    intro p i y h
    cases i with
    | zero =>
      simp [pls] at h
      subst h
      exact ⟨Nat.le_refl _, rfl⟩
    | succ i =>
      have h2 : (pls (p + (f.2.length + 12)) fs)[i]? = some y := by simpa [pls] using h
      obtain ⟨h3, h4⟩ := ih _ i y h2
      exact ⟨by omega, by simpa using h4⟩
end Go.Proofs.YtploeheklekjjabDoor
