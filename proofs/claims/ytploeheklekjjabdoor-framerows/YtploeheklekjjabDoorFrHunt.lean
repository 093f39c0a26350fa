/-
  Layer 13: frames wherever they stand; places and frames that grow side by side; the document's Hunt.
-/
import Derived.Test.YtploeheklekjjabDoorFrRefC
set_option linter.unusedVariables false
set_option linter.unusedSimpArgs false
namespace Go.Proofs.YtploeheklekjjabDoor
open Go.RowKit

/-- The frames from a place on, each with its place. -/
def hntG (l : List Nat) : Nat → Nat → List (Nat × Nat × List Nat)
  | 0, _ => []
  | f + 1, p => if l.length ≤ p then [] else if opE (l.drop p) = 0 then (p, opK (l.drop p), opP (l.drop p)) :: hntG l f (p + opN (l.drop p)) else hntG l f (p + 1)
def hnt (l : List Nat) (p : Nat) : List (Nat × Nat × List Nat) := hntG l (l.length - p) p
theorem hntG_end (l : List Nat) : ∀ f p, l.length ≤ p → hntG l f p = [] := by
  intro f p h
  cases f with
  | zero => rfl
  | succ f => unfold hntG; rw [if_pos h]
theorem hntG_fuel (l : List Nat) : ∀ f p, l.length - p ≤ f → hntG l f p = hnt l p := by
  intro f
  induction f using Nat.strongRecOn with
  | ind f ih =>
    intro p hf
    unfold hnt
    by_cases h : l.length ≤ p
    · rw [hntG_end l _ _ h, hntG_end l _ _ h]
    · obtain ⟨f', rfl⟩ : ∃ f', f = f' + 1 := ⟨f - 1, by omega⟩
      obtain ⟨g, hg⟩ : ∃ g, l.length - p = g + 1 := ⟨l.length - p - 1, by omega⟩
      rw [hg]
      unfold hntG
      rw [if_neg h, if_neg h]
      by_cases hE : opE (l.drop p) = 0
      · have hp := opN_pos hE
        rw [if_pos hE, if_pos hE, ih f' (by omega) _ (by omega)]
        congr 1
        by_cases e : g = f'
        · rw [e, ih f' (by omega) _ (by omega)]
        · rw [ih g (by omega) _ (by omega)]
      · rw [if_neg hE, if_neg hE, ih f' (by omega) _ (by omega)]
        by_cases e : g = f'
        · rw [e, ih f' (by omega) _ (by omega)]
        · rw [ih g (by omega) _ (by omega)]
theorem hnt_end {l : List Nat} {p : Nat} (h : l.length ≤ p) : hnt l p = [] := hntG_end l _ _ h
theorem hnt_ok {l : List Nat} {p : Nat} (h : p < l.length) (hE : opE (l.drop p) = 0) : hnt l p = (p, opK (l.drop p), opP (l.drop p)) :: hnt l (p + opN (l.drop p)) := by
  have hp := opN_pos hE
  obtain ⟨g, hg⟩ : ∃ g, l.length - p = g + 1 := ⟨l.length - p - 1, by omega⟩
  conv => lhs; unfold hnt
  rw [hg]
  unfold hntG
  rw [if_neg (by omega), if_pos hE, hntG_fuel l g _ (by omega)]
theorem hnt_no {l : List Nat} {p : Nat} (h : p < l.length) (hE : opE (l.drop p) ≠ 0) : hnt l p = hnt l (p + 1) := by
  obtain ⟨g, hg⟩ : ∃ g, l.length - p = g + 1 := ⟨l.length - p - 1, by omega⟩
  conv => lhs; unfold hnt
  rw [hg]
  unfold hntG
  rw [if_neg (by omega), if_neg hE, hntG_fuel l g _ (by omega)]
/-- The places and the frames of a hunt. -/
def hpl (hs : List (Nat × Nat × List Nat)) : List Int := hs.map fun x => ((x.1 : Nat) : Int)
def hfr (hs : List (Nat × Nat × List Nat)) : List (Nat × List Nat) := hs.map fun x => x.2
/-- So far so many. -/
def Hnd (l : List Nat) (p : Nat) (ps : List Int) (fs : List (Nat × List Nat)) : Prop := hpl (hnt l 0) = ps ++ hpl (hnt l p) ∧ hfr (hnt l 0) = fs ++ hfr (hnt l p)
theorem hnd_zero (l : List Nat) : Hnd l 0 [] [] := ⟨rfl, rfl⟩
theorem Hnd.step {l : List Nat} {p : Nat} {ps : List Int} {fs : List (Nat × List Nat)} (h : Hnd l p ps fs) (hp : p < l.length) (hE : opE (l.drop p) = 0) : Hnd l (p + opN (l.drop p)) (ps ++ [((p : Nat) : Int)]) (fs ++ [(opK (l.drop p), opP (l.drop p))]) := by
  have e := hnt_ok hp hE
  refine ⟨?_, ?_⟩
  · rw [h.1, e]; simp [hpl]
  · rw [h.2, e]; simp [hfr]
theorem Hnd.skip {l : List Nat} {p : Nat} {ps : List Int} {fs : List (Nat × List Nat)} (h : Hnd l p ps fs) (hp : p < l.length) (hE : opE (l.drop p) ≠ 0) : Hnd l (p + 1) ps fs := by
  have e := hnt_no hp hE
  exact ⟨by rw [h.1, e], by rw [h.2, e]⟩
theorem Hnd.last {l : List Nat} {p : Nat} {ps : List Int} {fs : List (Nat × List Nat)} (h : Hnd l p ps fs) (hp : l.length ≤ p) : hpl (hnt l 0) = ps ∧ hfr (hnt l 0) = fs := by
  have e := hnt_end hp
  exact ⟨by rw [h.1, e]; simp [hpl], by rw [h.2, e]; simp [hfr]⟩
end Go.Proofs.YtploeheklekjjabDoor
