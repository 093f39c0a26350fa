/-
  What layer 11 must give (crc): Of, More, Join; lists of texts.
-/
import Derived.Test.YtfcbgkcclganmaaDoorCRefB
set_option linter.unusedVariables false
set_option linter.unusedSimpArgs false
namespace Go.Proofs.YtfcbgkcclganmaaDoor
open Go.RowKit

/-- A list of texts. -/
def Lb (w : World) (v : Value) (K : Nat) (ns : Nat → Nat) (fs : Nat → Nat → Nat) : Prop := ∃ (adr : Option Addr) (cap b o : Nat), v = .slice adr K cap ∧ K ≤ cap ∧ cap ≤ maxLen ∧ (0 < K → adr = some ⟨b, o, none⟩) ∧ ∀ j, j < K → ∃ (ad : Option Addr) (ca : Nat), w.cell? ⟨b, o + j, none⟩ = some (.slice ad (ns j) ca) ∧ Ls w (.slice ad (ns j) ca) (ns j) (by8 (fs j))
theorem Lb.later {w w' : World} {v : Value} {K : Nat} {ns : Nat → Nat} {fs : Nat → Nat → Nat} (h : Lb w v K ns fs) (hb : Below w.heap.size w w') : Lb w' v K ns fs := by
  obtain ⟨adr, cap, b, o, h1, h2, h3, h4, h5⟩ := h
  refine ⟨adr, cap, b, o, h1, h2, h3, h4, fun j hj => ?_⟩
  obtain ⟨ad, ca, q1, q2⟩ := h5 j hj
  exact ⟨ad, ca, cell_later hb q1, q2.later hb⟩
theorem Lb.len {w : World} {v : Value} {K : Nat} {ns : Nat → Nat} {fs : Nat → Nat → Nat} (h : Lb w v K ns fs) : ∃ (ad : Option Addr) (cap : Nat), v = .slice ad K cap ∧ K ≤ cap ∧ cap ≤ maxLen := by
  obtain ⟨adr, cap, b, o, h1, h2, h3, -⟩ := h
  exact ⟨adr, cap, h1, h2, h3⟩
theorem Lb.spot {w : World} {v : Value} {K : Nat} {ns : Nat → Nat} {fs : Nat → Nat → Nat} (h : Lb w v K ns fs) (j : Nat) (hj : j < K) : ∃ (b o cap : Nat) (ad : Option Addr) (ca : Nat), v = .slice (some ⟨b, o, none⟩) K cap ∧ w.cell? ⟨b, o + j, none⟩ = some (.slice ad (ns j) ca) ∧ Ls w (.slice ad (ns j) ca) (ns j) (by8 (fs j)) := by
  obtain ⟨adr, cap, b, o, h1, h2, h3, h4, h5⟩ := h
  have e := h4 (by omega)
  subst e
  obtain ⟨ad, ca, q1, q2⟩ := h5 j hj
  exact ⟨b, o, cap, ad, ca, h1, q1, q2⟩
/-- One text, and two, as a list. -/
theorem lb_one (w : World) (ad : Option Addr) (n ca : Nat) (f : Nat → Nat) (t : TypeId) (l : Ls w (.slice ad n ca) n (by8 f)) : Lb (w.alloc (.cells #[.slice ad n ca] t)) (.slice (some ⟨w.heap.size, 0, none⟩) 1 1) 1 (fun _ => n) (fun _ => f) :=
  ⟨_, 1, w.heap.size, 0, rfl, Nat.le_refl _, by unfold maxLen; omega, fun _ => rfl, fun j hj => by
    obtain rfl : j = 0 := by omega
    exact ⟨ad, ca, by simp [go_sem], l.later (bel1 _ _)⟩⟩
def two {α : Type} (a b : α) : Nat → α := fun j => if j = 0 then a else b
theorem lb_two (w : World) (ad1 ad2 : Option Addr) (n1 n2 c1 c2 : Nat) (f g : Nat → Nat) (t : TypeId) (l1 : Ls w (.slice ad1 n1 c1) n1 (by8 f)) (l2 : Ls w (.slice ad2 n2 c2) n2 (by8 g)) : Lb (w.alloc (.cells #[.slice ad1 n1 c1, .slice ad2 n2 c2] t)) (.slice (some ⟨w.heap.size, 0, none⟩) 2 2) 2 (two n1 n2) (two f g) :=
  ⟨_, 2, w.heap.size, 0, rfl, Nat.le_refl _, by unfold maxLen; omega, fun _ => rfl, fun j hj => by
    have : j = 0 ∨ j = 1 := by omega
    rcases this with rfl | rfl
    · exact ⟨ad1, c1, by simp [go_sem, two], l1.later (bel1 _ _)⟩
    · exact ⟨ad2, c2, by simp [go_sem, two], l2.later (bel1 _ _)⟩⟩
/-- What crc asks of the world: its table of half bytes. -/
def TbAt (w : World) : Prop := ∀ i, i < 16 → w.cell? ⟨1, i, none⟩ = some (.int .u32 ((cZs 4 i : Nat) : Int))
theorem TbAt.later {w w' : World} (h : TbAt w) (hb : Below w.heap.size w w') : TbAt w' := fun m hm => cell_later hb (h m hm)
end Go.Proofs.YtfcbgkcclganmaaDoor
