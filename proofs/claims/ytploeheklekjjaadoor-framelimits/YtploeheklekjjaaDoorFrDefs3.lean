/-
  What layer 13 must give (frame): Split, Hunt; rounds of a hunt.
-/
import Derived.Test.YtploeheklekjjaaDoorFrHunt
import Derived.Test.YtploeheklekjjaaDoorRgRound
set_option linter.unusedVariables false
set_option linter.unusedSimpArgs false
namespace Go.Proofs.YtploeheklekjjaaDoor
open Go.RowKit

/-- The contract of frame's Split. -/
structure Fr2 : Prop where
  split : ∀ (w : World) (v : Value) (l : List Nat), Bs w v l → (∀ c ∈ l, c < 256) → l.length ≤ 90000 → FT w →
    Calls Tryd.prog 16 #[v] w fun e w' => ∃ v', e = .returned (.tuple #[v', .int .i64 (((spl l).2.1 : Nat) : Int), .int .i64 (((spl l).2.2 : Nat) : Int)]) ∧ Frs w' v' (spl l).1 ∧ Below w.heap.size w w'
/-- How a frame and its place are told: its payload lies in memory. -/
def EH (y : Nat × Nat × List Nat) (args : Array Value) (X : World) : Prop := ∃ (ad : Option Addr) (n cap : Nat), args = #[.int .i64 (y.1 : Int), .agg #[.int .i64 (y.2.1 : Int), .slice ad n cap]] ∧ Bs X (.slice ad n cap) y.2.2
/-- The contract of frame's Hunt: what it answers tells the frames of the bytes, whatever else is written but these bytes and the tables. -/
structure Fr3 : Prop where
  hunt : ∀ (w : World) (v : Value) (l : List Nat), Bs w v l → (∀ c ∈ l, c < 256) → l.length ≤ 90000 → FT w →
    Calls Tryd.prog 19 #[v] w fun e w' => ∃ gf lb, e = .returned (.func (.func gf) #[] lb) ∧ Below w.heap.size w w' ∧ (∀ args W, (callFunc gf args).run Tryd.prog W = .ok (.enter gf args) W) ∧
      ∀ (FB : Nat → Prop) (W : World), (∀ k, FB k → k < w.heap.size) → Nf FB v → NT FB → Kp FB w' W → Tells Fence.wide 9 Tryd.prog gf lb (hnt l 0) EH FB W
theorem FT.kp {w w' : World} {F : Nat → Prop} (h : FT w) (k : Kp F w w') (hn : NT F) : FT w' := ⟨fun i hi => k.cell hn.1 (h.tb i hi), fun i hi => k.cell hn.2 (h.ah i hi)⟩
/-- What a round of the hunt begins with. -/
structure Hb (w : World) (b7 : Nat) (i : Nat) (X : World) : Prop where
  k : Below b7 w X
  c7 : X.cell? ⟨b7, 0, none⟩ = some (.int .i64 (i : Int))
  f7 : X.frozen? ⟨b7, 0, none⟩ = false
theorem Hb.put {w X X' : World} {b7 i L : Nat} (h : Hb w b7 i X) (h7 : b7 < L) (k : Kp (fun k => k = L) X X') : Hb w b7 i X' :=
  ⟨k.next h.k (fun j hj => by omega) (by have := World.block_lt_of_cell? _ _ h.c7; dsimp only at this; omega), k.cell (a := ⟨b7, 0, none⟩) (by dsimp only; omega) h.c7, k.frozen (a := ⟨b7, 0, none⟩) (by dsimp only; omega) h.c7 h.f7⟩
theorem Hb.puts {w X X' : World} {b7 i : Nat} {F : Nat → Prop} (h : Hb w b7 i X) (hF : ∀ k, F k → b7 < k) (k : Kp F X X') : Hb w b7 i X' :=
  ⟨k.next h.k (fun j hj => by have := hF j hj; omega) (by have := World.block_lt_of_cell? _ _ h.c7; dsimp only at this; omega), k.cell (a := ⟨b7, 0, none⟩) (fun q => by have := hF _ q; dsimp only at this; omega) h.c7, k.frozen (a := ⟨b7, 0, none⟩) (fun q => by have := hF _ q; dsimp only at this; omega) h.c7 h.f7⟩
/-- A frame in a box, and its payload. -/
structure Hx (bx : Nat) (k : Nat) (v : Value) (p : List Nat) (X : World) : Prop where
  x0 : X.cell? ⟨bx, 0, none⟩ = some (.int .i64 (k : Int))
  x1 : X.cell? ⟨bx, 1, none⟩ = some v
  pl : Bs X v p
theorem nb_none {X : World} {v : Value} {p : List Nat} {L : Nat} (h : Bs X v p) (hL : ∀ o, X.cell? ⟨L, o, none⟩ = none) : Nb v L := by
  intro a n cap e hn q
  obtain ⟨adr, c, b, o, e1, h2, h3, h4, h5⟩ := h
  subst e
  injection e1 with e1 e2 e3
  have e4 := h4 (by omega)
  rw [← e1] at e4
  injection e4 with e4
  subst e4
  have := h5 0 (by omega)
  have q2 : b = L := q
  rw [q2, hL] at this
  cases this
theorem Hx.put {bx k : Nat} {v : Value} {p : List Nat} {X X' : World} {L : Nat} (h : Hx bx k v p X) (hb : bx ≠ L) (hn : Nb v L) (k2 : Kp (fun k => k = L) X X') : Hx bx k v p X' :=
  ⟨k2.cell (a := ⟨bx, 0, none⟩) (by dsimp only; exact hb) h.x0, k2.cell (a := ⟨bx, 1, none⟩) (by dsimp only; exact hb) h.x1, k2.bs h.pl (fun a n cap e hp q => hn a n cap e hp q)⟩
theorem hntG_len (l : List Nat) : ∀ f p, (hntG l f p).length ≤ f := by
  intro f
  induction f with
  | zero => intro p; exact Nat.le_refl _
  | succ f ih =>
    intro p
    unfold hntG
    split
    · simp
    · split
      · have := ih (p + opN (l.drop p))
        simp
        omega
      · have := ih (p + 1)
        omega
theorem hnt_len (l : List Nat) : (hnt l 0).length ≤ l.length := hntG_len l _ _
theorem ys_at {ys : List (Nat × Nat × List Nat)} {i : Nat} {y : Nat × Nat × List Nat} (h : ys[i]? = some y) : i < ys.length ∧ (hpl ys).getD i 0 = (y.1 : Int) ∧ (hfr ys).getD i fr0 = y.2 := by
  have hl := (List.getElem?_eq_some_iff.1 h).1
  refine ⟨hl, ?_, ?_⟩
  · simp [hpl, List.getD, h]
  · simp [hfr, List.getD, h]
/-- Frames of any kinds in memory. -/
def gr0 : Int × List Nat := (0, [])
def FrI (w : World) (v : Value) (gs : List (Int × List Nat)) : Prop := ∃ (adr : Option Addr) (cap b o : Nat), v = .slice adr gs.length cap ∧ gs.length ≤ cap ∧ cap ≤ maxLen ∧ (0 < gs.length → adr = some ⟨b, o, none⟩) ∧ ∀ j, j < gs.length → ∃ vp, w.cell? ⟨b, o + j * 2, none⟩ = some (.int .i64 (gs.getD j gr0).1) ∧ w.cell? ⟨b, o + j * 2 + 1, none⟩ = some vp ∧ Bs w vp (gs.getD j gr0).2
theorem FrI.later {w w' : World} {v : Value} {gs : List (Int × List Nat)} (h : FrI w v gs) (k : Below w.heap.size w w') : FrI w' v gs := by
  obtain ⟨adr, cap, b, o, h1, h2, h3, h4, h5⟩ := h
  refine ⟨adr, cap, b, o, h1, h2, h3, h4, fun j hj => ?_⟩
  obtain ⟨vp, c0, c1, hp⟩ := h5 j hj
  exact ⟨vp, cell_later k c0, cell_later k c1, hp.later k⟩
theorem FrI.len {w : World} {v : Value} {gs : List (Int × List Nat)} (h : FrI w v gs) : ∃ (ad : Option Addr) (cap : Nat), v = .slice ad gs.length cap ∧ gs.length ≤ cap ∧ cap ≤ maxLen := by
  obtain ⟨adr, cap, b, o, h1, h2, h3, -⟩ := h
  exact ⟨adr, cap, h1, h2, h3⟩
theorem FrI.cel {w : World} {ad : Option Addr} {n cap : Nat} {gs : List (Int × List Nat)} (h : FrI w (.slice ad n cap) gs) (j : Nat) (hj : j < gs.length) : ∃ (b o : Nat) (vp : Value), ad = some ⟨b, o, none⟩ ∧ w.cell? ⟨b, o + j * 2, none⟩ = some (.int .i64 (gs.getD j gr0).1) ∧ w.cell? ⟨b, o + j * 2 + 1, none⟩ = some vp ∧ Bs w vp (gs.getD j gr0).2 := by
  obtain ⟨adr, c, b, o, h1, h2, h3, h4, h5⟩ := h
  injection h1 with e1 e2 e3
  obtain ⟨vp, h6⟩ := h5 j hj
  exact ⟨b, o, vp, e1.trans (h4 (by omega)), h6⟩
end Go.Proofs.YtploeheklekjjaaDoor
