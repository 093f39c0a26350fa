/-
  VBase, VAwake, VBase2.
-/
import Derived.Test.YtfcneciknldohaaBI
import Derived.Test.YtfcneciknldohaaBD
import Derived.Deep.DrawnRows
import Derived.Deep.Cut
import Derived.Deep.DeepCutAuto
/-
  What the laws of layer 4 ask of the program's functions, and the state that they carry.
-/
set_option linter.unusedVariables false
set_option linter.unusedSimpArgs false
namespace Go.Proofs.Ytfcneciknldohaa
open Go.RowKit

/-- A unit's cell. -/
def Uc (w : World) (d : Nat) (c : Int) : Prop := w.cell? ⟨d, 0, none⟩ = some (.int .i64 c) ∧ w.frozen? ⟨d, 0, none⟩ = false
def dE (n m : Nat) : Int := if 65536 < n ∨ 65536 < m then 3 else if n = m then 0 else 40
def dX (n m : Nat) (f g : Nat → Int) : Int := if dE n m = 0 then clv (rr (dotV f g n) 32) else 0
def dO (n m : Nat) (f g : Nat → Int) : Bool := if dE n m = 0 then ovv (rr (dotV f g n) 32) else false
def sE (n : Nat) : Int := if 65536 < n then 3 else 0
def sX (n : Nat) (f : Nat → Int) : Int := if sE n = 0 then clv (sumV f n) else 0
def sO (n : Nat) (f : Nat → Int) : Bool := if sE n = 0 then ovv (sumV f n) else false
def mE (n : Nat) : Int := if 65536 < n then 3 else if n = 0 then 40 else 0
def mX (n : Nat) (f : Nat → Int) : Int := if mE n = 0 then clv (quo (sumV f n) (n : Int)) else 0
def mO (n : Nat) (f : Nat → Int) : Bool := if mE n = 0 then ovv (quo (sumV f n) (n : Int)) else false
def nX (n : Nat) (f : Nat → Int) : Int := if sE n = 0 then rtX (dotV f f n) else 0
def nO (n : Nat) (f : Nat → Int) : Bool := if sE n = 0 then rtO (dotV f f n) else false
/-- The state of a law: two units, and whatever was there is there. -/
structure L2 (w : World) (du dv : Nat) (cu cv : Int) (wz : World) : Prop where
  B : Below w.heap.size w wz
  u : Uc wz du cu
  v : Uc wz dv cv
theorem Uc.later {w w' : World} {d : Nat} {c : Int} (h : Uc w d c) (hb : Below w.heap.size w w') : Uc w' d c := ⟨cell_later hb h.1, frozen_later hb h.1 h.2⟩
theorem Uc.un {w w' : World} {d d' : Nat} {c c' : Int} (h : Uc w d c) (hU : Un d' c' w w') (hd : d ≠ d') : Uc w' d c := by
  have hb := World.block_lt_of_cell? _ _ h.1
  have e := hU.k d hb hd
  exact ⟨(World.cell?_of_block (w := w) e).trans h.1, (World.frozen?_of_block (w := w) e).trans h.2⟩
theorem L2.later {w : World} {du dv : Nat} {cu cv : Int} {wz wy : World} (h : L2 w du dv cu cv wz) (hb : Below wz.heap.size wz wy) : L2 w du dv cu cv wy := ⟨bchain h.B hb, h.u.later hb, h.v.later hb⟩
theorem L2.unu {w : World} {du dv : Nat} {cu cv c : Int} {wz wy : World} (h : L2 w du dv cu cv wz) (hU : Un du c wz wy) (hu : w.heap.size ≤ du) (hne : du ≠ dv) : L2 w du dv c cv wy :=
  ⟨hU.b _ _ hu h.B.size h.B, ⟨hU.c, hU.f⟩, h.v.un hU (fun e => hne e.symm)⟩
theorem L2.unv {w : World} {du dv : Nat} {cu cv c : Int} {wz wy : World} (h : L2 w du dv cu cv wz) (hU : Un dv c wz wy) (hv : w.heap.size ≤ dv) (hne : du ≠ dv) : L2 w du dv cu c wy :=
  ⟨hU.b _ _ hv h.B.size h.B, h.u.un hU hne, ⟨hU.c, hU.f⟩⟩
theorem Ar.nb {w : World} {v : Value} {n : Nat} {f : Nat → Int} (h : Ar w v n f) {d : Nat} (hd : w.heap.size ≤ d) : Nb v d := by
  obtain ⟨adr, cap, b, o, rfl, h2, h3, h4, h5⟩ := h
  intro a n' cap' e hn
  have e2 := h4 (by cases e; exact hn)
  subst e2
  cases e
  have h6 : b < w.heap.size := World.block_lt_of_cell? _ _ (h5 0 hn).1
  show b ≠ d
  omega
/-- few, of a list of so many vectors. -/
def fewB (ns : Nat → Nat) (m : Nat) : Bool := (List.range m).all (fun k => decide (ns k ≤ 200))
theorem few_no (ns : Nat → Nat) (m k : Nat) (hk : k < m) (h : 200 < ns k) : fewB ns m = false := by
  rw [Bool.eq_false_iff]
  intro e
  have := List.all_eq_true.1 e k (List.mem_range.2 hk)
  rw [decide_eq_true_iff] at this
  omega
end Go.Proofs.Ytfcneciknldohaa
/-
  The chapter's examples: regattalaw04's awake; like, refused.
-/
set_option linter.unusedVariables false
set_option linter.unusedSimpArgs false
namespace Go.Proofs.Ytfcneciknldohaa
open Go.RowKit
attribute [local go_sem ↓] Go.wp_at_zero Go.wp_at_succ

def two (a b : Int) (k : Nat) : Int := if k = 0 then a else b
theorem ar_two (W : World) (a b : Int) (t : TypeId) (ha : -9223372036854775808 ≤ a ∧ a ≤ 9223372036854775807) (hb : -9223372036854775808 ≤ b ∧ b ≤ 9223372036854775807) :
    Ar (W.alloc (.cells #[.int .i64 a, .int .i64 b] t)) (.slice (some ⟨W.heap.size, 0, none⟩) 2 2) 2 (two a b) := by
  refine ⟨_, 2, W.heap.size, 0, rfl, by omega, by unfold maxLen; omega, fun _ => rfl, fun k hk => ?_⟩
  have : k = 0 ∨ k = 1 := by omega
  rcases this with rfl | rfl
  · exact ⟨by simp [go_sem, two], ha⟩
  · exact ⟨by simp [go_sem, two], hb⟩
theorem aw_dot : dX 2 2 (two 1 1) (two 2147483648 2147483648) = 1 ∧ dE 2 2 = 0 := by decide +kernel
theorem aw_norm : nX 2 (two 12884901888 17179869184) = 21474836480 ∧ sE 2 = 0 := by decide +kernel
theorem alloc_size_eq (w : World) (o : Obj) : (w.alloc o).heap.size = w.heap.size + 1 := by simp
theorem bel1' (w : World) (o : Obj) : Below w.heap.size w (w.alloc o) := (Below.refl _ w).alloc (Nat.le_refl _) o
end Go.Proofs.Ytfcneciknldohaa
/-
  What the laws of layer 4 ask of vec's functions that answer lists, and the state of a law with two units and two lists.
-/
set_option linter.unusedVariables false
set_option linter.unusedSimpArgs false
namespace Go.Proofs.Ytfcneciknldohaa
open Go.RowKit

def cE (E c : Int) : Int := if E = 0 then c else 0
/-- A list that is answered: so many numbers in memory of its own, or none beside an error. -/
def LL (w w' : World) (v' : Value) (n : Nat) (F : Nat → Int) (E : Int) : Prop :=
  (E = 0 → Ar w' v' n F) ∧ (E ≠ 0 → ∃ ad cap, v' = .slice ad 0 cap) ∧ Ow w.heap.size v'
/-- A list that lies apart from both units. -/
structure An (du dv : Nat) (v : Value) (n : Nat) (f : Nat → Int) (wz : World) : Prop where
  a : Ar wz v n f
  u : Nb v du
  v : Nb v dv
theorem An.later {du dv : Nat} {v : Value} {n : Nat} {f : Nat → Int} {wz wy : World} (h : An du dv v n f wz) (hb : Below wz.heap.size wz wy) : An du dv v n f wy := ⟨h.a.later hb, h.u, h.v⟩
theorem An.unu {du dv : Nat} {v : Value} {n : Nat} {f : Nat → Int} {c : Int} {wz wy : World} (h : An du dv v n f wz) (hU : Un du c wz wy) : An du dv v n f wy := ⟨h.a.un h.u hU, h.u, h.v⟩
theorem An.unv {du dv : Nat} {v : Value} {n : Nat} {f : Nat → Int} {c : Int} {wz wy : World} (h : An du dv v n f wz) (hU : Un dv c wz wy) : An du dv v n f wy := ⟨h.a.un h.v hU, h.u, h.v⟩
theorem An.new {w : World} {du dv : Nat} {cu cv : Int} {wz wy : World} {v : Value} {n : Nat} {f : Nat → Int} (L : L2 w du dv cu cv wz) (hA : Ar wy v n f) (hO : Ow wz.heap.size v) : An du dv v n f wy :=
  ⟨hA, hO.nb (World.block_lt_of_cell? _ _ L.u.1), hO.nb (World.block_lt_of_cell? _ _ L.v.1)⟩
theorem An.arg {w wz : World} {du dv : Nat} {v : Value} {n : Nat} {f : Nat → Int} (hA : Ar w v n f) (hB : Below w.heap.size w wz) (h0 : w.heap.size ≤ du) (h1 : w.heap.size ≤ dv) : An du dv v n f wz := ⟨hA.later hB, hA.nb h0, hA.nb h1⟩
theorem few_tn' (n m : Nat) (hn : n ≤ 200) (hm : m ≤ 200) : dE n m = (if n = m then 0 else 40) := by unfold dE; rw [if_neg (by omega)]
theorem sE_few (n : Nat) (hn : n ≤ 200) : sE n = 0 := by unfold sE; rw [if_neg (by omega)]
end Go.Proofs.Ytfcneciknldohaa
