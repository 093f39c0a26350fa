/-
  What a step is refused for (layer 9).
-/
import Derived.Test.YtcdehbhdloaieaaGreatDoorARefB
set_option linter.unusedVariables false
namespace Go.Proofs.YtcdehbhdloaieaaGreatDoor
open Go.RowKit

def Emp9 (v : Value) : Prop := ∃ (ad : Option Addr) (cap : Nat), v = .slice ad 0 cap
/-- The lists are no longer than they may be. -/
def lnP (nM nV nP nG : Nat) : Prop := nM ≤ 65536 ∧ nV ≤ 65536 ∧ nP ≤ 65536 ∧ nG ≤ 65536
/-- They have as many parts. -/
def smP (nM nV nP nG : Nat) : Prop := nM = nP ∧ nV = nP ∧ nG = nP
/-- The first error of a step. -/
def stE (I : Prop) (nM nV nP nG : Nat) (T E : Int) : Prop := (¬ I → E = 80) ∧ (I → ¬ lnP nM nV nP nG → E = 3) ∧ (I → lnP nM nV nP nG → ¬ smP nM nV nP nG → E = 40) ∧ (I → lnP nM nV nP nG → smP nM nV nP nG → ¬ (0 ≤ T ∧ T < 1048576) → E = 2)
def stG (I : Prop) (nM nV nP nG : Nat) (T : Int) : Prop := I ∧ lnP nM nV nP nG ∧ smP nM nV nP nG ∧ 0 ≤ T ∧ T < 1048576
/-- Bounds of an inner's numbers. -/
def bd9 (B ep dc cl : Int) : Prop := B ≤ 9223372036854775807 ∧ ep ≤ 9223372036854775807 ∧ dc ≤ 9223372036854775807 ∧ cl ≤ 9223372036854775807
theorem stE_ne {I : Prop} {nM nV nP nG : Nat} {T E : Int} (h : stE I nM nV nP nG T E) (hg : ¬ stG I nM nV nP nG T) : E ≠ 0 := by
  intro e
  subst e
  obtain ⟨h1, h2, h3, h4⟩ := h
  apply hg
  refine Classical.byContradiction fun hn => ?_
  by_cases a : I
  · by_cases b : lnP nM nV nP nG
    · by_cases c : smP nM nV nP nG
      · by_cases d : 0 ≤ T ∧ T < 1048576
        · exact hn ⟨a, b, c, d⟩
        · have := h4 a b c d; omega
      · have := h3 a b c; omega
    · have := h2 a b; omega
  · have := h1 a; omega
end Go.Proofs.YtcdehbhdloaieaaGreatDoor
