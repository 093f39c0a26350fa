/-
  The contracts of sched: Next, Steps.
-/
import Derived.Test.YtcdehbhdloaieaaGreatDoorQWalkC
set_option linter.unusedVariables false
set_option linter.unusedSimpArgs false
namespace Go.Proofs.YtcdehbhdloaieaaGreatDoor
open Go.RowKit

/-- Five cells of a struct. -/
structure Q5 (b : Nat) (x y z u v : Value) (w : World) : Prop where
  c0 : w.cell? ⟨b, 0, none⟩ = some x
  c1 : w.cell? ⟨b, 1, none⟩ = some y
  c2 : w.cell? ⟨b, 2, none⟩ = some z
  c3 : w.cell? ⟨b, 3, none⟩ = some u
  c4 : w.cell? ⟨b, 4, none⟩ = some v
theorem Q5.later {b : Nat} {x y z u v : Value} {w w' : World} (h : Q5 b x y z u v w) (hb : Below w.heap.size w w') : Q5 b x y z u v w' := ⟨cell_later hb h.c0, cell_later hb h.c1, cell_later hb h.c2, cell_later hb h.c3, cell_later hb h.c4⟩
theorem Q5.new (w : World) (x y z u v : Value) (t : TypeId) : Q5 w.heap.size x y z u v (w.alloc (.cells #[x, y, z, u, v] t)) := ⟨by simp [go_sem], by simp [go_sem], by simp [go_sem], by simp [go_sem], by simp [go_sem]⟩
theorem Q4.un {b d : Nat} {x y z u : Value} {n : Int} {w w' : World} (h : Q4 b x y z u w) (hU : Un d n w w') (hd : b ≠ d) : Q4 b x y z u w' := ⟨hU.o _ _ hd h.c0, hU.o _ _ hd h.c1, hU.o _ _ hd h.c2, hU.o _ _ hd h.c3⟩
/-- A list of entries in memory: how many members, and how many stand in Who. -/
def Ens (w : World) (v : Value) (n : Nat) (mb : Nat → Int) (wh : Nat → Nat) : Prop :=
  ∃ (adr : Option Addr) (cap b o : Nat), v = .slice adr n cap ∧ n ≤ cap ∧ cap ≤ maxLen ∧ (0 < n → adr = some ⟨b, o, none⟩) ∧ ∀ k, k < n → (∃ (r hh sa : Int) (ad : Option Addr) (cp : Nat), w.cell? ⟨b, o + k * 5, none⟩ = some (.int .i64 r) ∧ w.cell? ⟨b, o + k * 5 + 1, none⟩ = some (.int .i64 hh) ∧ w.cell? ⟨b, o + k * 5 + 2, none⟩ = some (.int .i64 (mb k)) ∧ w.cell? ⟨b, o + k * 5 + 3, none⟩ = some (.slice ad (wh k) cp) ∧ w.cell? ⟨b, o + k * 5 + 4, none⟩ = some (.int .i64 sa)) ∧ (-9223372036854775808 ≤ mb k ∧ mb k ≤ 9223372036854775807) ∧ wh k ≤ maxLen
theorem Ens.later {w w' : World} {v : Value} {n : Nat} {mb : Nat → Int} {wh : Nat → Nat} (h : Ens w v n mb wh) (hb : Below w.heap.size w w') : Ens w' v n mb wh := by
  obtain ⟨adr, cap, b, o, e, h1, h2, h3, h4⟩ := h
  exact ⟨adr, cap, b, o, e, h1, h2, h3, fun k hk => by obtain ⟨⟨r, hh, sa, ad, cp, a1, a2, a3, a4, a5⟩, a6⟩ := h4 k hk; exact ⟨⟨r, hh, sa, ad, cp, cell_later hb a1, cell_later hb a2, cell_later hb a3, cell_later hb a4, cell_later hb a5⟩, a6⟩⟩
/-- How many were missing. -/
def msV (mb : Nat → Int) (wh : Nat → Nat) (k : Nat) : Int := mb k - (wh k : Int)
/-- Entries that are right: nobody stands in Who beyond the members. -/
def EO (n : Nat) (mb : Nat → Int) (wh : Nat → Nat) : Prop := ∀ k, k < n → (wh k : Int) ≤ mb k
/-- What Steps answers. -/
def sgE (l m f g : Int) (n : Nat) (mb : Nat → Int) (wh : Nat → Nat) (X E : Int) : Prop :=
  (¬ PO l m f g → X = 0 ∧ E = 80) ∧ (PO l m f g → 256 < n → X = 0 ∧ E = 3) ∧ (PO l m f g → n ≤ 256 → ¬ EO n mb wh → X = 0 ∧ E = 2) ∧ (PO l m f g → n ≤ 256 → EO n mb wh → X = stV l m f g (msV mb wh) n ∧ E = 0)
end Go.Proofs.YtcdehbhdloaieaaGreatDoor
