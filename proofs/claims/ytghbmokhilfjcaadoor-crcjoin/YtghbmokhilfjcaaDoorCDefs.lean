/-
  What layer 11 must give (crc): Of, More, Join; lists of texts.
-/
import Derived.Test.YtghbmokhilfjcaaDoorCRefB
set_option linter.unusedVariables false
set_option linter.unusedSimpArgs false
namespace Go.Proofs.YtghbmokhilfjcaaDoor
open Go.RowKit

/-- A list of texts. -/
def Lb (w : World) (v : Value) (K : Nat) (ns : Nat → Nat) (fs : Nat → Nat → Nat) : Prop := ∃ (adr : Option Addr) (cap b o : Nat), v = .slice adr K cap ∧ K ≤ cap ∧ cap ≤ maxLen ∧ (0 < K → adr = some ⟨b, o, none⟩) ∧ ∀ j, j < K → ∃ (ad : Option Addr) (ca : Nat), w.cell? ⟨b, o + j, none⟩ = some (.slice ad (ns j) ca) ∧ Ls w (.slice ad (ns j) ca) (ns j) (by8 (fs j))
theorem Lb.later {w w' : World} {v : Value} {K : Nat} {ns : Nat → Nat} {fs : Nat → Nat → Nat} (h : Lb w v K ns fs) (hb : Below w.heap.size w w') : Lb w' v K ns fs := by
  obtain ⟨adr, cap, b, o, h1, h2, h3, h4, h5⟩ := h
  refine ⟨adr, cap, b, o, h1, h2, h3, h4, fun j hj => ?_⟩
  obtain ⟨ad, ca, q1, q2⟩ := h5 j hj
  exact ⟨ad, ca, cell_later hb q1, q2.later hb⟩
theorem Lb.len {w : World} {v : Value} {K : Nat} {ns : Nat → Nat} {fs : Nat → Nat → Nat} (h : Lb w v K ns fs) : ∃ (ad : Option Addr) (cap : Nat), v = .slice ad K cap ∧ K ≤ cap ∧ cap ≤ maxLen := by
  obtain ⟨adr, cap, b, o, h1, h2, h3, -⟩ := h
  exact ⟨adr, cap, h1, h2, h3⟩
theorem Lb.spot {w : World} {v : Value} {K : Nat} {ns : Nat → Nat} {fs : Nat → Nat → Nat} (h : Lb w v K ns fs) (j : Nat) (hj : j < K) : ∃ (b o cap : Nat) (ad : Option Addr) (ca : Nat), v = .slice (some ⟨b, o, none⟩) K cap ∧ w.cell? ⟨b, o + j, none⟩ = some (.slice ad (ns j) ca) ∧ Ls w (.slice ad (ns j) ca) (ns j) (by8 (fs j)) := by
  obtain ⟨adr, cap, b, o, h1, h2, h3, h4, h5⟩ := h
  have e := h4 (by omega)
  subst e
  obtain ⟨ad, ca, q1, q2⟩ := h5 j hj
  exact ⟨b, o, cap, ad, ca, h1, q1, q2⟩
/-- One text, and two, as a list. -/
theorem lb_one (w : World) (ad : Option Addr) (n ca : Nat) (f : Nat → Nat) (t : TypeId) (l : Ls w (.slice ad n ca) n (by8 f)) : Lb (w.alloc (.cells #[.slice ad n ca] t)) (.slice (some ⟨w.heap.size, 0, none⟩) 1 1) 1 (fun _ => n) (fun _ => f) :=
  ⟨_, 1, w.heap.size, 0, rfl, Nat.le_refl _, by unfold maxLen; omega, fun _ => rfl, fun j hj => by
    obtain rfl : j = 0 := by omega
    exact ⟨ad, ca, by simp [go_sem], l.later (bel1 _ _)⟩⟩
def two {α : Type} (a b : α) : Nat → α := fun j => if j = 0 then a else b
theorem lb_two (w : World) (ad1 ad2 : Option Addr) (n1 n2 c1 c2 : Nat) (f g : Nat → Nat) (t : TypeId) (l1 : Ls w (.slice ad1 n1 c1) n1 (by8 f)) (l2 : Ls w (.slice ad2 n2 c2) n2 (by8 g)) : Lb (w.alloc (.cells #[.slice ad1 n1 c1, .slice ad2 n2 c2] t)) (.slice (some ⟨w.heap.size, 0, none⟩) 2 2) 2 (two n1 n2) (two f g) :=
  ⟨_, 2, w.heap.size, 0, rfl, Nat.le_refl _, by unfold maxLen; omega, fun _ => rfl, fun j hj => by
    have : j = 0 ∨ j = 1 := by omega
    rcases this with rfl | rfl
    · exact ⟨ad1, c1, by simp [go_sem, two], l1.later (bel1 _ _)⟩
    · exact ⟨ad2, c2, by simp [go_sem, two], l2.later (bel1 _ _)⟩⟩
/-- What crc asks of the world: its table of half bytes. -/
def TbAt (w : World) : Prop := ∀ i, i < 16 → w.cell? ⟨0, i, none⟩ = some (.int .u32 ((cZs 4 i : Nat) : Int))
theorem TbAt.later {w w' : World} (h : TbAt w) (hb : Below w.heap.size w w') : TbAt w' := fun m hm => cell_later hb (h m hm)
/-- The contracts of crc. -/
structure Crc1 : Prop where
  more : ∀ (s : Nat) (v : Value) (n : Nat) (f : Nat → Nat) (w : World), s < 4294967296 → n ≤ 100000 → (∀ k, f k < 256) → TbAt w → Ls w v n (by8 f) →
    Calls Tryd.prog 12 #[.int .u32 (s : Int), v] w fun e w' => e = .returned (.int .u32 ((4294967295 - cR (cBt f) (4294967295 - s) (8 * n) : Nat) : Int)) ∧ Below w.heap.size w w'
  of : ∀ (v : Value) (K : Nat) (ns : Nat → Nat) (fs : Nat → Nat → Nat) (w : World), K ≤ 1000 → (∀ j, ns j ≤ 100000) → (∀ j k, fs j k < 256) → TbAt w → Lb w v K ns fs →
    Calls Tryd.prog 10 #[v] w fun e w' => e = .returned (.int .u32 ((4294967295 - cF ns fs 4294967295 K : Nat) : Int)) ∧ Below w.heap.size w w'
  join : ∀ (a b n : Nat) (w : World), a < 4294967296 → b < 4294967296 → n < 2147483648 → TbAt w →
    Calls Tryd.prog 14 #[.int .u32 (a : Int), .int .u32 (b : Int), .int .i64 (n : Int)] w fun e w' => e = .returned (.tuple #[.int .u32 ((cZs (8 * n) a ^^^ b : Nat) : Int), .int .i64 0]) ∧ Below w.heap.size w w'
  joinE : ∀ (a b n : Int) (w : World), n < 0 ∨ 2147483648 ≤ n → TbAt w →
    Calls Tryd.prog 14 #[.int .u32 a, .int .u32 b, .int .i64 n] w fun e w' => e = .returned (.tuple #[.int .u32 0, .int .i64 2]) ∧ Below w.heap.size w w'
theorem Crc1.one (V : Crc1) (w : World) (ad : Option Addr) (n ca : Nat) (f : Nat → Nat) (t : TypeId) (hn : n ≤ 100000) (hf : ∀ k, f k < 256) (hT : TbAt w) (l : Ls w (.slice ad n ca) n (by8 f)) :
    Calls Tryd.prog 10 #[.slice (some ⟨w.heap.size, 0, none⟩) 1 1] (w.alloc (.cells #[.slice ad n ca] t)) fun e w' => e = .returned (.int .u32 ((cS f n : Nat) : Int)) ∧ Below w.heap.size w w' :=
  (V.of _ 1 _ _ _ (by omega) (fun _ => hn) (fun _ k => hf k) (hT.later (bel1 _ _)) (lb_one w ad n ca f t l)).mono fun e w' h => ⟨h.1, bchain (bel1 _ _) h.2⟩
end Go.Proofs.YtghbmokhilfjcaaDoor
