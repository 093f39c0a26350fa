/-
  Texts of this proof, joined: BK BJ EMathB EWalkA LBase LBase2 LAwake LLaw0 PWalkA PWalkB.
-/
import Derived.Test.YtdfjnbkkdgolnabGreatDoorSH00
import Derived.Test.YtdfjnbkkdgolnabGreatDoorSH01
import Derived.Test.YtdfjnbkkdgolnabGreatDoorSH02
import Derived.Deep.DrawnRows
import Derived.Deep.Cut
import Derived.Deep.DeepCutAuto
import Derived.Deep.RegionHeld3
import Derived.Laws.Bits64
set_option linter.unusedVariables false
set_option linter.unusedSimpArgs false
namespace Go.Proofs.YtdfjnbkkdgolnabGreatDoor
open Go.RowKit

/-- What the program's functions ask of the world (a table that they read). -/
def VT (w : World) : Prop := TabAt w
theorem VT.later {w w' : World} (h : VT w) (hb : Below w.heap.size w w') : VT w' := TabAt.later h hb
/-- A unit's cell. -/
def Uc (w : World) (d : Nat) (c : Int) : Prop := w.cell? ⟨d, 0, none⟩ = some (.int .i64 c) ∧ w.frozen? ⟨d, 0, none⟩ = false
def dE (n m : Nat) : Int := if 65536 < n ∨ 65536 < m then 3 else if n = m then 0 else 40
def dX (n m : Nat) (f g : Nat → Int) : Int := if dE n m = 0 then clv (rr (dotV f g n) 32) else 0
def dO (n m : Nat) (f g : Nat → Int) : Bool := if dE n m = 0 then ovv (rr (dotV f g n) 32) else false
def sE (n : Nat) : Int := if 65536 < n then 3 else 0
def sX (n : Nat) (f : Nat → Int) : Int := if sE n = 0 then clv (sumV f n) else 0
def sO (n : Nat) (f : Nat → Int) : Bool := if sE n = 0 then ovv (sumV f n) else false
def nX (n : Nat) (f : Nat → Int) : Int := if sE n = 0 then rtX (dotV f f n) else 0
/-- The state of a law: two units, and whatever was there is there. -/
structure L2 (w : World) (du dv : Nat) (cu cv : Int) (wz : World) : Prop where
  B : Below w.heap.size w wz
  u : Uc wz du cu
  v : Uc wz dv cv
theorem Uc.later {w w' : World} {d : Nat} {c : Int} (h : Uc w d c) (hb : Below w.heap.size w w') : Uc w' d c := ⟨cell_later hb h.1, frozen_later hb h.1 h.2⟩
theorem Uc.un {w w' : World} {d d' : Nat} {c c' : Int} (h : Uc w d c) (hU : Un d' c' w w') (hd : d ≠ d') : Uc w' d c := by
  have hb := World.block_lt_of_cell? _ _ h.1
  have e := hU.k d hb hd
  exact ⟨(World.cell?_of_block (w := w) e).trans h.1, (World.frozen?_of_block (w := w) e).trans h.2⟩
theorem L2.later {w : World} {du dv : Nat} {cu cv : Int} {wz wy : World} (h : L2 w du dv cu cv wz) (hb : Below wz.heap.size wz wy) : L2 w du dv cu cv wy := ⟨bchain h.B hb, h.u.later hb, h.v.later hb⟩
theorem Ar.nb {w : World} {v : Value} {n : Nat} {f : Nat → Int} (h : Ar w v n f) {d : Nat} (hd : w.heap.size ≤ d) : Nb v d := by
  obtain ⟨adr, cap, b, o, rfl, h2, h3, h4, h5⟩ := h
  intro a n' cap' e hn
  have e2 := h4 (by cases e; exact hn)
  subst e2
  cases e
  have h6 : b < w.heap.size := World.block_lt_of_cell? _ _ (h5 0 hn).1
  show b ≠ d
  omega
end Go.Proofs.YtdfjnbkkdgolnabGreatDoor
set_option linter.unusedVariables false
set_option linter.unusedSimpArgs false
namespace Go.Proofs.YtdfjnbkkdgolnabGreatDoor
open Go.RowKit
attribute [local go_sem ↓] Go.wp_at_zero Go.wp_at_succ

def two (a b : Int) (k : Nat) : Int := if k = 0 then a else b
end Go.Proofs.YtdfjnbkkdgolnabGreatDoor
set_option linter.unusedVariables false
set_option linter.unusedSimpArgs false
namespace Go.Proofs.YtdfjnbkkdgolnabGreatDoor
open Go.RowKit

def cE (E c : Int) : Int := if E = 0 then c else 0
/-- A list that is answered: so many numbers in memory of its own, or none beside an error. -/
def LL (w w' : World) (v' : Value) (n : Nat) (F : Nat → Int) (E : Int) : Prop :=
  (E = 0 → Ar w' v' n F) ∧ (E ≠ 0 → ∃ ad cap, v' = .slice ad 0 cap) ∧ Ow w.heap.size v'
/-- A list that lies apart from both units. -/
structure An (du dv : Nat) (v : Value) (n : Nat) (f : Nat → Int) (wz : World) : Prop where
  a : Ar wz v n f
  u : Nb v du
  v : Nb v dv
theorem An.later {du dv : Nat} {v : Value} {n : Nat} {f : Nat → Int} {wz wy : World} (h : An du dv v n f wz) (hb : Below wz.heap.size wz wy) : An du dv v n f wy := ⟨h.a.later hb, h.u, h.v⟩
theorem An.new {w : World} {du dv : Nat} {cu cv : Int} {wz wy : World} {v : Value} {n : Nat} {f : Nat → Int} (L : L2 w du dv cu cv wz) (hA : Ar wy v n f) (hO : Ow wz.heap.size v) : An du dv v n f wy :=
  ⟨hA, hO.nb (World.block_lt_of_cell? _ _ L.u.1), hO.nb (World.block_lt_of_cell? _ _ L.v.1)⟩
end Go.Proofs.YtdfjnbkkdgolnabGreatDoor
set_option linter.unusedVariables false
set_option linter.unusedSimpArgs false
namespace Go.Proofs.YtdfjnbkkdgolnabGreatDoor
open Go.RowKit
theorem Un.from {d : Nat} {n : Int} {w w1 w2 : World} (hb : Below w.heap.size w w1) (h : Un d n w1 w2) : Un d n w w2 := Un.after hb h
end Go.Proofs.YtdfjnbkkdgolnabGreatDoor
set_option linter.unusedVariables false
set_option linter.unusedSimpArgs false
namespace Go.Proofs.YtdfjnbkkdgolnabGreatDoor
open Go.RowKit
theorem below_own {B : Nat} {w wr w1 : World} {e : TypeId} {s : Nat} {v : Value} {n : Nat} {xs : List Value} {o : Obj} (hW : Below B w wr) (hB : B ≤ wr.heap.size) (hown : wr.ownsRow B e s v n xs) (hg : (wr.alloc o).grownBy w1 v.ownBlock) : Below B w w1 :=
  (hW.alloc hB o).grown hg (by rw [World.size_alloc]; omega) (fun k hk => (hown.lt k hk).1)
end Go.Proofs.YtdfjnbkkdgolnabGreatDoor
set_option linter.unusedVariables false
set_option linter.unusedSimpArgs false
namespace Go.Proofs.YtdfjnbkkdgolnabGreatDoor
open Go.RowKit

/-- A list of lists, apart from a block. -/
structure As (w : World) (d b o K n : Nat) (fs : Nat → Nat → Int) : Prop where
  c : ∀ k, k < K → ∃ va : Value, w.cell? ⟨b, o + k, none⟩ = some va ∧ Ar w va n (fs k) ∧ Nb va d
  a : b ≠ d
theorem As.un {w w' : World} {d b o K n : Nat} {fs : Nat → Nat → Int} {c : Int} (h : As w d b o K n fs) (hU : Un d c w w') : As w' d b o K n fs :=
  ⟨fun k hk => by obtain ⟨va, h1, h2, h3⟩ := h.c k hk; exact ⟨va, hU.o _ _ h.a h1, h2.un h3 hU, h3⟩, h.a⟩
theorem As.later {w w' : World} {d b o K n : Nat} {fs : Nat → Nat → Int} (h : As w d b o K n fs) (hb : Below w.heap.size w w') : As w' d b o K n fs :=
  ⟨fun k hk => by obtain ⟨va, h1, h2, h3⟩ := h.c k hk; exact ⟨va, cell_later hb h1, h2.later hb, h3⟩, h.a⟩
end Go.Proofs.YtdfjnbkkdgolnabGreatDoor
set_option linter.unusedVariables false
set_option linter.unusedSimpArgs false
namespace Go.Proofs.YtdfjnbkkdgolnabGreatDoor
open Go.RowKit

/-- A matrix's block: three cells. -/
structure M3 (b : Nat) (x y z : Value) (w : World) : Prop where
  c0 : w.cell? ⟨b, 0, none⟩ = some x
  c1 : w.cell? ⟨b, 1, none⟩ = some y
  c2 : w.cell? ⟨b, 2, none⟩ = some z
  f0 : w.frozen? ⟨b, 0, none⟩ = false
  f1 : w.frozen? ⟨b, 1, none⟩ = false
  f2 : w.frozen? ⟨b, 2, none⟩ = false
theorem M3.later {b : Nat} {x y z : Value} {w w' : World} (h : M3 b x y z w) (hb : Below w.heap.size w w') : M3 b x y z w' :=
  ⟨cell_later hb h.c0, cell_later hb h.c1, cell_later hb h.c2, frozen_later hb h.c0 h.f0, frozen_later hb h.c1 h.f1, frozen_later hb h.c2 h.f2⟩
theorem M3.lt {b : Nat} {x y z : Value} {w : World} (h : M3 b x y z w) : b < w.heap.size := World.block_lt_of_cell? _ _ h.c0
theorem M3.new (w : World) (x y z : Value) (t : TypeId) : M3 w.heap.size x y z (w.alloc (.cells #[x, y, z] t)) :=
  ⟨by simp [go_sem], by simp [go_sem], by simp [go_sem], by simp [go_sem], by simp [go_sem], by simp [go_sem]⟩
theorem M3.far {b : Nat} {x y z : Value} {w : World} {p : Addr} (h : M3 b x y z w) (u : Value) (hp : p.block ≠ b) : M3 b x y z (w.setCell p u) :=
  ⟨cell_set hp h.c0, cell_set hp h.c1, cell_set hp h.c2, by rw [World.frozen?_setCell]; exact h.f0, by rw [World.frozen?_setCell]; exact h.f1, by rw [World.frozen?_setCell]; exact h.f2⟩
theorem M3.all {b : Nat} {x y z : Value} {w : World} (h : M3 b x y z w) (x' y' z' : Value) : M3 b x' y' z' (((w.setCell ⟨b, 0, none⟩ x').setCell ⟨b, 1, none⟩ y').setCell ⟨b, 2, none⟩ z') := by
  have c0 := h.c0
  have c1 := h.c1
  have c2 := h.c2
  have f0 := h.f0
  have f1 := h.f1
  have f2 := h.f2
  refine ⟨?_, ?_, ?_, ?_, ?_, ?_⟩ <;> simp [go_sem, c0, c1, c2, f0, f1, f2]
theorem Ar.set {w : World} {v : Value} {n : Nat} {f : Nat → Int} {p : Addr} (h : Ar w v n f) (hd : Nb v p.block) (u : Value) : Ar (w.setCell p u) v n f := by
  obtain ⟨adr, cap, b, o, h1, h2, h3, h4, h5⟩ := h
  refine ⟨adr, cap, b, o, h1, h2, h3, h4, fun k hk => ⟨?_, (h5 k hk).2⟩⟩
  have e := h4 (by omega)
  subst e
  subst h1
  exact cell_set (fun e => hd _ _ _ rfl (by omega) e.symm) (h5 k hk).1
end Go.Proofs.YtdfjnbkkdgolnabGreatDoor
set_option linter.unusedVariables false
set_option linter.unusedSimpArgs false
namespace Go.Proofs.YtdfjnbkkdgolnabGreatDoor
open Go.RowKit

def otX (f g : Nat → Int) (m : Nat) (k : Nat) : Int := clv (rnd (f (k / m) * g (k % m)) 32)
def otN (f g : Nat → Int) (m : Nat) : Nat → Int
  | 0 => 0
  | i + 1 => otN f g m i + cntV (fun k => ovv (rnd (f i * g k) 32)) m
theorem ot_rng (f g : Nat → Int) (m : Nat) (i : Nat) : 0 ≤ otN f g m i ∧ otN f g m i ≤ ((i * m : Nat) : Int) := by
  induction i with
  | zero => simp [otN]
  | succ i ih =>
    have h := cnt_rng (fun k => ovv (rnd (f i * g k) 32)) m
    rw [Nat.add_mul, Nat.one_mul]
    show 0 ≤ otN f g m i + cntV _ m ∧ otN f g m i + cntV _ m ≤ _
    rw [Int.natCast_add]
    omega
theorem il_one (f : Nat → Int) (n : Nat) : ∀ u ∈ il f n, u.oneCell' = true := by
  intro u hu
  unfold il at hu
  obtain ⟨k, _, rfl⟩ := List.mem_map.1 hu
  rfl
theorem M3.block {b : Nat} {x y z : Value} {w w' : World} (h : M3 b x y z w) (e : w'.heap[b]? = w.heap[b]?) : M3 b x y z w' :=
  ⟨(World.cell?_of_block (w := w) e).trans h.c0, (World.cell?_of_block (w := w) e).trans h.c1, (World.cell?_of_block (w := w) e).trans h.c2, (World.frozen?_of_block (w := w) e).trans h.f0, (World.frozen?_of_block (w := w) e).trans h.f1, (World.frozen?_of_block (w := w) e).trans h.f2⟩
theorem M3.un {b : Nat} {x y z : Value} {w w' : World} {d : Nat} {c : Int} (h : M3 b x y z w) (hU : Un d c w w') (hb : b ≠ d) : M3 b x y z w' := h.block (hU.k b h.lt hb)
end Go.Proofs.YtdfjnbkkdgolnabGreatDoor
set_option linter.unusedVariables false
set_option linter.unusedSimpArgs false
namespace Go.Proofs.YtdfjnbkkdgolnabGreatDoor
open Go.RowKit
attribute [local go_sem ↓] Go.wp_at_zero Go.wp_at_succ

end Go.Proofs.YtdfjnbkkdgolnabGreatDoor
set_option linter.unusedVariables false
set_option linter.unusedSimpArgs false
namespace Go.Proofs.YtdfjnbkkdgolnabGreatDoor

/-- The stir. -/
def stY (x : Nat) : Nat := (x ^^^ x / 4294967296) * 11400714819323198549 % 18446744073709551616
def stZ (y : Nat) : Nat := (y ^^^ y / 536870912) * 15241094284759029579 % 18446744073709551616
def stN (x : Nat) : Nat := stZ (stY x) ^^^ stZ (stY x) / 4294967296
/-- A number as 64 bits without a sign. -/
def u6 (n : Int) : Nat := (n % 18446744073709551616).toNat
/-- One number more stirred in. -/
def mxN (w : Nat) (n : Int) : Nat := stN (((w ^^^ u6 n) + 14029467366897019727) % 18446744073709551616)
/-- A key's root. -/
def rtN (s : Nat) (a b c : Int) : Nat := mxN (mxN (mxN (stN ((s + 7046029254386353131) % 18446744073709551616)) a) b) c
/-- A word. -/
def wdN (s : Nat) (a b c i : Int) : Nat := stN (rtN s a b c ^^^ (u6 i * 11400714819323198485 % 18446744073709551616))
/-- What a round of a trip stirs in: the lowest bits of a word. -/
def rfN (s : Nat) (a b c : Int) (S t r : Nat) : Nat := wdN s a b c (1024 * (t : Int) + (r : Int)) % S
theorem rfN_lt (s : Nat) (a b c : Int) (S t r : Nat) (hS : 0 < S) : rfN s a b c S t r < S := Nat.mod_lt _ hS
/-- How wide a half is: the least power of two, 2 at least, whose square isn't below n. -/
def Hf (n b : Nat) : Prop := 1 ≤ b ∧ n ≤ 2 ^ b * 2 ^ b ∧ (b = 1 ∨ 2 ^ (b - 1) * 2 ^ (b - 1) < n)
theorem Hf.one {n b c : Nat} (h : Hf n b) (h' : Hf n c) : b = c := by
  have key : ∀ p q : Nat, Hf n p → Hf n q → ¬ p < q := fun p q hp hq hlt => by
    rcases hq.2.2 with h1 | h1
    · have := hp.1; omega
    · have h2 : 2 ^ p ≤ 2 ^ (q - 1) := Nat.pow_le_pow_right (by omega) (by omega)
      have h3 := Nat.mul_le_mul h2 h2
      have h4 := hp.2.1
      omega
  rcases Nat.lt_trichotomy b c with h1 | h1 | h1
  · exact absurd h1 (key b c h h')
  · exact h1
  · exact absurd h1 (key c b h' h)
/-- Where i goes. -/
def Goes (s : Nat) (a b c : Int) (n i x : Nat) : Prop := ∃ k, Hf n k ∧ Gets (trp (rfN s a b c (2 ^ k)) (2 ^ k)) n i x
def Comes (s : Nat) (a b c : Int) (n j x : Nat) : Prop := ∃ k, Hf n k ∧ Gets (prt (rfN s a b c (2 ^ k)) (2 ^ k)) n j x
theorem Goes.one {s : Nat} {a b c : Int} {n i x y : Nat} (h : Goes s a b c n i x) (h' : Goes s a b c n i y) : x = y := by
  obtain ⟨k, h1, h2⟩ := h
  obtain ⟨q, h3, h4⟩ := h'
  obtain rfl := h1.one h3
  exact h2.one h4
theorem Comes.one {s : Nat} {a b c : Int} {n i x y : Nat} (h : Comes s a b c n i x) (h' : Comes s a b c n i y) : x = y := by
  obtain ⟨k, h1, h2⟩ := h
  obtain ⟨q, h3, h4⟩ := h'
  obtain rfl := h1.one h3
  exact h2.one h4
theorem Goes.comes {s : Nat} {a b c : Int} {n i x : Nat} (hi : i < n) (h : Goes s a b c n i x) : Comes s a b c n x i := by
  obtain ⟨k, h1, h2⟩ := h
  have hf : ∀ t r, rfN s a b c (2 ^ k) t r < 2 ^ k := fun t r => rfN_lt _ _ _ _ _ _ _ (Nat.two_pow_pos k)
  exact ⟨k, h1, h2.back (fun y hy => trp_lt _ k hf y hy) (fun y hy => prt_trp _ k hf y hy) h1.2.1 hi⟩
theorem Comes.goes {s : Nat} {a b c : Int} {n i x : Nat} (hi : i < n) (h : Comes s a b c n i x) : Goes s a b c n x i := by
  obtain ⟨k, h1, h2⟩ := h
  have hf : ∀ t r, rfN s a b c (2 ^ k) t r < 2 ^ k := fun t r => rfN_lt _ _ _ _ _ _ _ (Nat.two_pow_pos k)
  exact ⟨k, h1, h2.back (fun y hy => prt_lt _ k hf y hy) (fun y hy => trp_prt _ k hf y hy) h1.2.1 hi⟩
theorem Goes.lt {s : Nat} {a b c : Int} {n i x : Nat} (h : Goes s a b c n i x) : x < n := by
  obtain ⟨k, -, m, -, -, h3, -⟩ := h
  exact h3
theorem Comes.lt {s : Nat} {a b c : Int} {n i x : Nat} (h : Comes s a b c n i x) : x < n := by
  obtain ⟨k, -, m, -, -, h3, -⟩ := h
  exact h3
end Go.Proofs.YtdfjnbkkdgolnabGreatDoor
set_option linter.unusedVariables false
set_option linter.unusedSimpArgs false
namespace Go.Proofs.YtdfjnbkkdgolnabGreatDoor
open Go.RowKit

/-- A block of four cells. -/
structure K4 (b : Nat) (x y z u : Value) (w : World) : Prop where
  c0 : w.cell? ⟨b, 0, none⟩ = some x
  c1 : w.cell? ⟨b, 1, none⟩ = some y
  c2 : w.cell? ⟨b, 2, none⟩ = some z
  c3 : w.cell? ⟨b, 3, none⟩ = some u
theorem K4.later {b : Nat} {x y z u : Value} {w w' : World} (h : K4 b x y z u w) (hb : Below w.heap.size w w') : K4 b x y z u w' :=
  ⟨(hb.cell (World.block_lt_of_cell? _ _ h.c0)).trans h.c0, (hb.cell (World.block_lt_of_cell? _ _ h.c1)).trans h.c1, (hb.cell (World.block_lt_of_cell? _ _ h.c2)).trans h.c2, (hb.cell (World.block_lt_of_cell? _ _ h.c3)).trans h.c3⟩
end Go.Proofs.YtdfjnbkkdgolnabGreatDoor
set_option linter.unusedVariables false
set_option linter.unusedSimpArgs false
namespace Go.Proofs.YtdfjnbkkdgolnabGreatDoor
open Go.RowKit

/-- What mlp asks of the world. -/
def MT (w : World) : Prop := TabAt w
theorem MT.later {w w' : World} (h : MT w) (hb : Below w.heap.size w w') : MT w' := TabAt.later h hb
/-- Are sizes right? -/
def Rt (f : Nat → Int) (m : Nat) : Prop := 2 ≤ m ∧ m ≤ 6 ∧ szB f m
theorem Rt.szs {f : Nat → Int} {m : Nat} (h : Rt f m) : ∃ z : Nat → Nat, Szs z m ∧ ∀ i, i < m → f i = ((z i : Nat) : Int) := by
  obtain ⟨h1, h2, h3⟩ := h
  refine ⟨fun i => (f i).toNat, ⟨h1, h2, fun i hi => ?_⟩, fun i hi => ?_⟩
  · have := h3 i hi
    show 1 ≤ (f i).toNat ∧ (f i).toNat ≤ 64
    omega
  · have := h3 i hi
    show f i = (((f i).toNat : Nat) : Int)
    omega
/-- An empty answer. -/
def Emp (v : Value) : Prop := ∃ (ad : Option Addr) (cap : Nat), v = .slice ad 0 cap
/-- The first error of a net, a loss and an example; 0: none. -/
def rfE (f : Nat → Int) (m lp lx lt : Nat) (L : Int) (cp z0 zl : Nat) (E : Int) : Prop := (¬ Rt f m → E = 70) ∧ (Rt f m → ¬ (L = 1 ∨ L = 2) → E = 71) ∧ (Rt f m → (L = 1 ∨ L = 2) → ¬ (lp = cp ∧ lx = z0 ∧ lt = zl) → E = 40) ∧ (Rt f m → (L = 1 ∨ L = 2) → (lp = cp ∧ lx = z0 ∧ lt = zl) → E = 0)
structure Mlp4 : Prop where
  gradU : ∀ (s : Bool) (vs vp vx vt : Value) (m cp : Nat) (z : Nat → Nat) (P x t : Nat → Int) (d : Nat) (c : Int) (w : World), 0 ≤ c → c ≤ 100000 → Ar w vs m (fun i => ((z i : Nat) : Int)) → Ar w vp cp P → Ar w vx (z 0) x → Ar w vt (z (m - 1)) t → Szs z m → cp = fsN z (m - 1) → Nb vs d → Nb vp d → Nb vx d → Nb vt d → Uc w d c → MT w →
    Calls Tryz.prog 12 #[.pointer (some ⟨d, 0, none⟩), .int .i64 (lsK s), vs, vp, .agg #[vx, vt]] w fun e w' => ∃ v', e = .returned (.tuple #[v', .int .i64 (gdX s z m P x t), .int .i64 0]) ∧ Ar w' v' cp (gdG s z m P x t) ∧ Ow w.heap.size v' ∧ Un d (c + gdC s z m P x t) w w'
  gradN : ∀ (s : Bool) (vs vp vx vt : Value) (m cp : Nat) (z : Nat → Nat) (P x t : Nat → Int) (w : World), Ar w vs m (fun i => ((z i : Nat) : Int)) → Ar w vp cp P → Ar w vx (z 0) x → Ar w vt (z (m - 1)) t → Szs z m → cp = fsN z (m - 1) → MT w →
    Calls Tryz.prog 12 #[.pointer none, .int .i64 (lsK s), vs, vp, .agg #[vx, vt]] w fun e w' => ∃ v', e = .returned (.tuple #[v', .int .i64 (gdX s z m P x t), .int .i64 0]) ∧ Ar w' v' cp (gdG s z m P x t) ∧ Ow w.heap.size v' ∧ Below w.heap.size w w'
  gradE : ∀ (L : Int) (vs vp vx vt : Value) (m lp lx lt : Nat) (f P x t : Nat → Int) (z : Nat → Nat) (E : Int) (d : Nat) (c : Int) (w : World), m ≤ 100000 → Ar w vs m f → Ar w vp lp P → Ar w vx lx x → Ar w vt lt t → (∀ i, i < m → Rt f m → f i = ((z i : Nat) : Int)) → rfE f m lp lx lt L (fsN z (m - 1)) (z 0) (z (m - 1)) E → E ≠ 0 → Uc w d c → MT w →
    Calls Tryz.prog 12 #[.pointer (some ⟨d, 0, none⟩), .int .i64 L, vs, vp, .agg #[vx, vt]] w fun e w' => ∃ v', e = .returned (.tuple #[v', .int .i64 0, .int .i64 E]) ∧ Emp v' ∧ Un d c w w'
/-- Are lists short? -/
def shB (ns : Nat → Nat) (m : Nat) : Bool := (List.range m).all (fun k => decide (ns k ≤ 100))
theorem shB_no (ns : Nat → Nat) (m k : Nat) (hk : k < m) (h : 100 < ns k) : shB ns m = false := by
  cases hb : shB ns m with
  | false => rfl
  | true =>
    have := of_decide_eq_true (List.all_eq_true.1 hb k (List.mem_range.2 hk))
    omega
theorem shB_yes (ns : Nat → Nat) (m : Nat) (h : ∀ k, k < m → ns k ≤ 100) : shB ns m = true := List.all_eq_true.2 fun k hk => decide_eq_true (h k (List.mem_range.1 hk))
set_option maxHeartbeats 1000000 in
theorem short_any (g m cap : Nat) (ns : Nat → Nat) (hm : m ≤ 5) (h1 : m ≤ cap) (h2 : cap ≤ 100) (w : World) (hc : ∀ k, k < m → ns k ≤ maxLen ∧ ∃ (ad : Option Addr) (ca : Nat), w.cell? ⟨g, k, none⟩ = some (.slice ad (ns k) ca)) :
    Calls Tryz.prog 9 #[.slice (some ⟨g, 0, none⟩) m cap] w fun e w' => e = .returned (.bool (shB ns m)) ∧ w' = w := by
  have HC : Hid (∀ k, k < m → ns k ≤ maxLen ∧ ∃ (ad : Option Addr) (ca : Nat), w.cell? ⟨g, k, none⟩ = some (.slice ad (ns k) ca)) := hc
  clear hc
  obtain ⟨R, hR⟩ : ∃ R, shB ns m = R := ⟨_, rfl⟩
  have HR : Hid (shB ns m = R) := hR
  rw [hR]
  clear hR
  go_enter Tryz.func9, Tryz.ntmps9
  go_wp2
  go_loopw [7] (fun s7 wr => ∃ j : Nat, j ≤ m ∧ s7 = .int .i64 (j : Int) ∧ Hid (∀ k, k < j → ns k ≤ 100) ∧ wr = w) (fun s7 _ => m - (intOf s7).toNat)
  case atStart => exact ⟨0, by omega, rfl, fun k hk => by omega, rfl⟩
  case round =>
    obtain ⟨j, hj, rfl, hA, rfl⟩ := hrel
    by_cases hlt : j < m
    · have hjI : (j : Int) < (m : Int) := by omega
      obtain ⟨hl, ad, ca, hcell⟩ := HC.out j hlt
      unfold maxLen at hl
      by_cases h100 : ns j ≤ 100
      · have h2 : ¬ (100 : Int) < ((ns j : Nat) : Int) := by omega
        have HA2 : Hid (∀ k, k < j + 1 → ns k ≤ 100) := fun k hk => by
          rcases Nat.lt_or_ge k j with h | h
          · exact hA.out k h
          · obtain rfl : k = j := by omega
            exact h100
        clear hA h100
        go_wp2
        go_roundw
        case rel => exact ⟨j + 1, by omega, by go_num, HA2, trivial⟩
        case measure => simp [intOf]; omega
      · have h2 : (100 : Int) < ((ns j : Nat) : Int) := by omega
        have HF : Hid (R = false) := by show _ = _; rw [← HR.out]; exact shB_no ns m j hlt (by omega)
        clear hA h100 HR
        go_wp2
        go_ret
        exact ⟨by rw [HF.out]; rfl, rfl⟩
    · have HF : Hid (R = true) := by show _ = _; rw [← HR.out]; exact shB_yes ns m (fun k hk => hA.out k (by omega))
      have hjI : ¬ (j : Int) < (m : Int) := by omega
      clear hA HR
      go_wp2
      go_ret
      exact ⟨by rw [HF.out]; rfl, rfl⟩
end Go.Proofs.YtdfjnbkkdgolnabGreatDoor
set_option linter.unusedVariables false
set_option linter.unusedSimpArgs false
namespace Go.Proofs.YtdfjnbkkdgolnabGreatDoor
open Go.RowKit

/-- A yes or no. -/
def Tells (e : Ending) (p : Prop) : Prop := ∃ B : Bool, e = .returned (.bool B) ∧ (B = true ↔ p)
theorem tells_yes {p : Prop} (h : p) : Tells (.returned (.bool true)) p := ⟨true, rfl, by simp [h]⟩
theorem tells_no {p : Prop} (h : ¬ p) : Tells (.returned (.bool false)) p := ⟨false, rfl, by simp [h]⟩
theorem Tells.yes {e : Ending} {p : Prop} (h : Tells e p) (hp : p) : e = .returned (.bool true) := by
  obtain ⟨B, rfl, hB⟩ := h
  rw [hB.2 hp]
theorem Tells.no {e : Ending} {p : Prop} (h : Tells e p) (hp : ¬ p) : e = .returned (.bool false) := by
  obtain ⟨B, rfl, hB⟩ := h
  cases B
  · rfl
  · exact absurd (hB.1 rfl) hp
/-- Sizes as whole numbers from 0 on, where they are right. -/
def Zs (f : Nat → Int) (m : Nat) (z : Nat → Nat) : Prop := Rt f m → Szs z m ∧ ∀ i, i < m → f i = ((z i : Nat) : Int)
theorem zs_ex (f : Nat → Int) (m : Nat) : ∃ z, Zs f m z := by
  by_cases h : Rt f m
  · obtain ⟨z, h1, h2⟩ := h.szs
    exact ⟨z, fun _ => ⟨h1, h2⟩⟩
  · exact ⟨fun _ => 0, fun h' => absurd h' h⟩
/-- The count of parameters; -1 where sizes aren't right. -/
def ctN (f : Nat → Int) (m : Nat) (z : Nat → Nat) (C : Int) : Prop := (Rt f m → C = ((fsN z (m - 1) : Nat) : Int)) ∧ (¬ Rt f m → C = -1)
theorem count7_any (vs : Value) (m : Nat) (f : Nat → Int) (z : Nat → Nat) (hz : Zs f m z) (w : World) (hA : Ar w vs m f) : Calls Tryz.prog 15 #[vs] w fun e w' => ∃ C : Int, e = .returned (.int .i64 C) ∧ ctN f m z C ∧ Below w.heap.size w w' := by
  by_cases h : Rt f m
  · obtain ⟨h1, h2⟩ := hz h
    refine (count_yes vs m z w (hA.congr h2) h1).mono ?_
    rintro e w' ⟨rfl, hb⟩
    exact ⟨_, rfl, ⟨fun _ => rfl, fun h' => absurd h h'⟩, hb⟩
  · refine (count_no vs m f w hA h).mono ?_
    rintro e w' ⟨rfl, hb⟩
    exact ⟨_, rfl, ⟨fun h' => absurd h' h, fun _ => rfl⟩, hb⟩
/-- May a play go through with a net? -/
def fwP (f : Nat → Int) (m lp : Nat) (z : Nat → Nat) : Prop := m ≤ 10 ∧ lp ≤ 400 ∧ (Rt f m → fsN z (m - 1) ≤ 400)
set_option maxHeartbeats 2000000 in
theorem few7_any (vs vp : Value) (m lp : Nat) (f P : Nat → Int) (z : Nat → Nat) (hz : Zs f m z) (w : World) (hA : Ar w vs m f) (hP : Ar w vp lp P) : Calls Tryz.prog 8 #[.agg #[vs, vp]] w fun e w' => Tells e (fwP f m lp z) ∧ Below w.heap.size w w' := by
  have HC : Hid (∀ W : World, Below w.heap.size w W → Calls Tryz.prog 15 #[vs] W fun e w' => ∃ C : Int, e = .returned (.int .i64 C) ∧ ctN f m z C ∧ Below W.heap.size W w') := fun W hb => count7_any vs m f z hz W (hA.later hb)
  obtain ⟨adr, cap, b, o, rfl, k1, k2, -, -⟩ := hA
  obtain ⟨adp, cpp, bp, op, rfl, j1, j2, -, -⟩ := hP
  unfold maxLen at k2 j2
  have B0 : Hid (Below w.heap.size w (w.alloc (.cells #[.slice adr m cap, .slice adp lp cpp] 25))) := bel1 _ _
  have B1 : Hid (Bx w.heap.size (.slice adr m cap) (.slice adp lp cpp) (w.alloc (.cells #[.slice adr m cap, .slice adp lp cpp] 25))) := Bx.new w _ _ _
  by_cases hm : m ≤ 10
  · have hmI : ¬ (10 : Int) < (m : Int) := by omega
    by_cases hl : lp ≤ 400
    · have hlI : ¬ (400 : Int) < (lp : Int) := by omega
      have x0 := B1.out.c0
      have x1 := B1.out.c1
      go_enter Tryz.func8, Tryz.ntmps8
      go_upto_region 1 with fail
      generalize w.alloc (.cells #[.slice adr m cap, .slice adp lp cpp] 25) = w1 at *
      go_wp2_with fail
      refine (HC.out _ B0.out).mono ?_
      rintro e w2 ⟨C, rfl, hC, hb⟩
      have HW : Hid (Below w.heap.size w w2 ∧ ctN f m z C) := ⟨bchain B0.out hb, hC⟩
      clear hb hC HC x0 x1
      by_cases hq : C ≤ 400
      · have HT : Hid (fwP f m lp z) := ⟨hm, hl, fun hr => by have := HW.out.2.1 hr; omega⟩
        go_wp2
        go_ret
        exact ⟨tells_yes HT.out, HW.out.1⟩
      · have hqd : decide (C ≤ 400) = false := decide_eq_false hq
        have HT : Hid (¬ fwP f m lp z) := fun h => by
          by_cases hr : Rt f m
          · have h1 := HW.out.2.1 hr
            have h2 := h.2.2 hr
            omega
          · have := HW.out.2.2 hr
            omega
        go_wp2
        go_ret
        exact ⟨tells_no HT.out, HW.out.1⟩
    · have hlI : (400 : Int) < (lp : Int) := by omega
      have HT : Hid (¬ fwP f m lp z) := fun h => hl h.2.1
      have x0 := B1.out.c0
      have x1 := B1.out.c1
      go_enter Tryz.func8, Tryz.ntmps8
      go_upto_region 1 with fail
      generalize w.alloc (.cells #[.slice adr m cap, .slice adp lp cpp] 25) = w1 at *
      go_wp2
      go_ret
      exact ⟨tells_no HT.out, B0.out⟩
  · have hmI : (10 : Int) < (m : Int) := by omega
    have HT : Hid (¬ fwP f m lp z) := fun h => hm h.1
    have x0 := B1.out.c0
    go_enter Tryz.func8, Tryz.ntmps8
    go_upto_region 1 with fail
    generalize w.alloc (.cells #[.slice adr m cap, .slice adp lp cpp] 25) = w1 at *
    go_wp2
    go_ret
    exact ⟨tells_no HT.out, B0.out⟩
/-- Has a net as many parameters as it must? -/
def rtP (f : Nat → Int) (m lp : Nat) (z : Nat → Nat) : Prop := Rt f m ∧ lp = fsN z (m - 1)
set_option maxHeartbeats 2000000 in
theorem right7_any (vs vp : Value) (m lp : Nat) (f P : Nat → Int) (z : Nat → Nat) (hz : Zs f m z) (hlp : lp ≤ 1000000) (w : World) (hA : Ar w vs m f) (hP : Ar w vp lp P) : Calls Tryz.prog 10 #[.agg #[vs, vp]] w fun e w' => Tells e (rtP f m lp z) ∧ Below w.heap.size w w' := by
  have HC : Hid (∀ W : World, Below w.heap.size w W → Calls Tryz.prog 15 #[vs] W fun e w' => ∃ C : Int, e = .returned (.int .i64 C) ∧ ctN f m z C ∧ Below W.heap.size W w') := fun W hb => count7_any vs m f z hz W (hA.later hb)
  obtain ⟨adr, cap, b, o, rfl, k1, k2, -, -⟩ := hA
  obtain ⟨adp, cpp, bp, op, rfl, j1, j2, -, -⟩ := hP
  unfold maxLen at k2 j2
  have B0 : Hid (Below w.heap.size w (w.alloc (.cells #[.slice adr m cap, .slice adp lp cpp] 25))) := bel1 _ _
  have B1 : Hid (Bx w.heap.size (.slice adr m cap) (.slice adp lp cpp) (w.alloc (.cells #[.slice adr m cap, .slice adp lp cpp] 25))) := Bx.new w _ _ _
  have x0 := B1.out.c0
  go_enter Tryz.func10, Tryz.ntmps10
  go_upto_region 1 with fail
  generalize w.alloc (.cells #[.slice adr m cap, .slice adp lp cpp] 25) = w1 at *
  go_wp2_with fail
  refine (HC.out _ B0.out).mono ?_
  rintro e w2 ⟨C, rfl, hC, hb⟩
  have HW : Hid (Below w.heap.size w w2 ∧ ctN f m z C) := ⟨bchain B0.out hb, hC⟩
  have x1 := cell_later hb B1.out.c1
  clear hb hC HC x0
  by_cases hr : Rt f m
  · have eC := HW.out.2.1 hr
    have hC0 : (0 : Int) ≤ C := by omega
    by_cases hq : lp = fsN z (m - 1)
    · have hcq : C = (lp : Int) := by omega
      have HT : Hid (rtP f m lp z) := ⟨hr, hq⟩
      clear eC hq
      subst hcq
      go_wp2
      go_ret
      exact ⟨tells_yes HT.out, HW.out.1⟩
    · have HT : Hid (¬ rtP f m lp z) := fun h => hq h.2
      have hcq : ¬ C = (lp : Int) := by omega
      have hcq1 : decide (C = (lp : Int)) = false := decide_eq_false hcq
      have hcq2 : (C == (lp : Int)) = false := by simp [hcq]
      clear eC hq
      go_wp2
      go_ret
      exact ⟨tells_no HT.out, HW.out.1⟩
  · have eC := HW.out.2.2 hr
    subst eC
    have HT : Hid (¬ rtP f m lp z) := fun h => hr h.1
    go_wp2
    go_ret
    exact ⟨tells_no HT.out, HW.out.1⟩
end Go.Proofs.YtdfjnbkkdgolnabGreatDoor
set_option linter.unusedVariables false
set_option linter.unusedSimpArgs false
namespace Go.Proofs.YtdfjnbkkdgolnabGreatDoor
open Go.RowKit

def zA (i : Nat) : Nat := if i = 0 then 2 else 1
def pA (_ : Nat) : Int := 4294967296
def xA (i : Nat) : Int := if i = 0 then 8589934592 else 12884901888
def tA (_ : Nat) : Int := 17179869184
theorem aw7 : gdX true zA 2 pA xA tA = 8589934592 ∧ gdG true zA 2 pA xA tA 0 = 17179869184 ∧ gdG true zA 2 pA xA tA 1 = 25769803776 ∧ gdG true zA 2 pA xA tA 2 = 8589934592 := by decide +kernel
theorem awz : Szs zA 2 := ⟨by omega, by omega, fun i hi => by unfold zA; split <;> omega⟩
theorem ar_c3 (w : World) (x : Int) (h0 : -9223372036854775808 ≤ x) (h1 : x ≤ 9223372036854775807) (t : TypeId) : Ar (w.alloc (.cells #[.int .i64 x, .int .i64 x, .int .i64 x] t)) (.slice (some ⟨w.heap.size, 0, none⟩) 3 3) 3 (fun _ => x) :=
  ⟨_, 3, w.heap.size, 0, rfl, Nat.le_refl _, by unfold maxLen; omega, fun _ => rfl, fun k hk => ⟨by
    match k, hk with
    | 0, _ => simp [go_sem]
    | 1, _ => simp [go_sem]
    | 2, _ => simp [go_sem], h0, h1⟩⟩
theorem ar_c1 (w : World) (x : Int) (h0 : -9223372036854775808 ≤ x) (h1 : x ≤ 9223372036854775807) (t : TypeId) : Ar (w.alloc (.cells #[.int .i64 x] t)) (.slice (some ⟨w.heap.size, 0, none⟩) 1 1) 1 (fun _ => x) :=
  ⟨_, 1, w.heap.size, 0, rfl, Nat.le_refl _, by unfold maxLen; omega, fun _ => rfl, fun k hk => ⟨by
    match k, hk with
    | 0, _ => simp [go_sem], h0, h1⟩⟩
theorem ar_c2 (w : World) (x y : Int) (hx : -9223372036854775808 ≤ x ∧ x ≤ 9223372036854775807) (hy : -9223372036854775808 ≤ y ∧ y ≤ 9223372036854775807) (t : TypeId) : Ar (w.alloc (.cells #[.int .i64 x, .int .i64 y] t)) (.slice (some ⟨w.heap.size, 0, none⟩) 2 2) 2 (fun i => if i = 0 then x else y) :=
  ⟨_, 2, w.heap.size, 0, rfl, Nat.le_refl _, by unfold maxLen; omega, fun _ => rfl, fun k hk => by
    match k, hk with
    | 0, _ => exact ⟨by simp [go_sem], by simpa using hx⟩
    | 1, _ => exact ⟨by simp [go_sem], by simpa using hy⟩⟩
set_option maxRecDepth 100000 in
set_option maxHeartbeats 4000000 in
theorem awake7_any (V4 : Mlp4) (w : World) (hV : MT w) : Calls Tryz.prog 7 #[] w fun e w' => e = .returned (.bool true) ∧ Below w.heap.size w w' := by
  obtain ⟨w1, hw1⟩ : ∃ w1, w1 = w.alloc (.cells #[.int .i64 4294967296, .int .i64 4294967296, .int .i64 4294967296] 32) := ⟨_, rfl⟩
  obtain ⟨w2, hw2⟩ : ∃ w2, w2 = w1.alloc (.cells #[.int .i64 2, .int .i64 1] 3) := ⟨_, rfl⟩
  obtain ⟨w3, hw3⟩ : ∃ w3, w3 = w2.alloc (.cells #[.int .i64 8589934592, .int .i64 12884901888] 32) := ⟨_, rfl⟩
  obtain ⟨w4, hw4⟩ : ∃ w4, w4 = w3.alloc (.cells #[.int .i64 17179869184] 32) := ⟨_, rfl⟩
  have b1 : Below w.heap.size w w1 := by rw [hw1]; exact bel1 _ _
  have b2 : Below w1.heap.size w1 w2 := by rw [hw2]; exact bel1 _ _
  have b3 : Below w2.heap.size w2 w3 := by rw [hw3]; exact bel1 _ _
  have b4 : Below w3.heap.size w3 w4 := by rw [hw4]; exact bel1 _ _
  have s1 : w1.heap.size = w.heap.size + 1 := by rw [hw1, World.size_alloc]
  have s2 : w2.heap.size = w.heap.size + 1 + 1 := by rw [hw2, World.size_alloc, s1]
  have s3 : w3.heap.size = w.heap.size + 1 + 1 + 1 := by rw [hw3, World.size_alloc, s2]
  have a1 : Ar w4 (.slice (some ⟨w.heap.size, 0, none⟩) 3 3) 3 pA := by
    have h := ar_c3 w 4294967296 (by omega) (by omega) 32
    rw [← hw1] at h
    exact ((h.later b2).later b3).later b4
  have a2 : Ar w4 (.slice (some ⟨w.heap.size + 1, 0, none⟩) 2 2) 2 (fun i => ((zA i : Nat) : Int)) := by
    have h := ar_c2 w1 2 1 (by omega) (by omega) 3
    rw [← hw2, s1] at h
    exact ((h.later b3).later b4).congr (fun k hk => by unfold zA; split <;> rfl)
  have a3 : Ar w4 (.slice (some ⟨w.heap.size + 1 + 1, 0, none⟩) 2 2) 2 xA := by
    have h := ar_c2 w2 8589934592 12884901888 (by omega) (by omega) 32
    rw [← hw3, s2] at h
    exact h.later b4
  have a4 : Ar w4 (.slice (some ⟨w.heap.size + 1 + 1 + 1, 0, none⟩) 1 1) 1 tA := by
    have h := ar_c1 w3 17179869184 (by omega) (by omega) 32
    rw [← hw4, s3] at h
    exact h
  have HB : Hid (Below w.heap.size w w4) := bchain (bchain (bchain b1 b2) b3) b4
  have CG : Hid (Calls Tryz.prog 12 #[.pointer none, .int .i64 1, .slice (some ⟨w.heap.size + 1, 0, none⟩) 2 2, .slice (some ⟨w.heap.size, 0, none⟩) 3 3, .agg #[.slice (some ⟨w.heap.size + 1 + 1, 0, none⟩) 2 2, .slice (some ⟨w.heap.size + 1 + 1 + 1, 0, none⟩) 1 1]] w4 fun e w' => ∃ v', e = .returned (.tuple #[v', .int .i64 8589934592, .int .i64 0]) ∧ Ar w' v' 3 (gdG true zA 2 pA xA tA) ∧ Below w4.heap.size w4 w') := by
    refine (V4.gradN true _ _ _ _ 2 3 zA pA xA tA w4 a2 a1 a3 a4 awz rfl (hV.later HB.out)).mono ?_
    rintro e w' ⟨v', rfl, hA, -, hb⟩
    rw [aw7.1]
    exact ⟨v', rfl, hA, hb⟩
  have Hw : Hid (w4 = (((w.alloc (.cells #[.int .i64 4294967296, .int .i64 4294967296, .int .i64 4294967296] 32)).alloc (.cells #[.int .i64 2, .int .i64 1] 3)).alloc (.cells #[.int .i64 8589934592, .int .i64 12884901888] 32)).alloc (.cells #[.int .i64 17179869184] 32)) := by show _ = _; rw [hw4, hw3, hw2, hw1]
  clear hw1 hw2 hw3 hw4 b1 b2 b3 b4 s1 s2 s3 a1 a2 a3 a4
  go_enter Tryz.func7, Tryz.ntmps7
  go_wp2_with fail
  rw [← Hw.out]
  refine CG.out.mono ?_
  rintro e w5 ⟨v', rfl, hA, hb⟩
  obtain ⟨b, o, cap, rfl, k1, k2, k3, k4⟩ := hA.spot 0 (by omega)
  unfold maxLen at k1
  have c0 := k3 0 (by omega)
  have c1 := k3 1 (by omega)
  have c2 := k3 2 (by omega)
  rw [aw7.2.1] at c0
  rw [aw7.2.2.1] at c1
  rw [aw7.2.2.2] at c2
  rw [Nat.add_zero] at c0
  have HB5 : Hid (Below w.heap.size w w5) := bchain HB.out hb
  clear CG Hw hA k3 k4 hb HB
  go_wp2
  go_ret
  exact ⟨by first | rfl | simp, HB5.out⟩
end Go.Proofs.YtdfjnbkkdgolnabGreatDoor
set_option linter.unusedVariables false
set_option linter.unusedSimpArgs false
namespace Go.Proofs.YtdfjnbkkdgolnabGreatDoor
open Go.RowKit
theorem Ls.spot {w : World} {d : Nat} {v : Value} {m : Nat} {ns : Nat → Nat} {fs : Nat → Nat → Int} (h : Ls w d v m ns fs) : ∃ (g cap : Nat), v = .slice (some ⟨g, 0, none⟩) m cap ∧ m ≤ cap ∧ cap ≤ maxLen ∧ ∀ k, k < m → ∃ (ad : Option Addr) (ca : Nat), w.cell? ⟨g, k, none⟩ = some (.slice ad (ns k) ca) ∧ Ar w (.slice ad (ns k) ca) (ns k) (fs k) := by
  obtain ⟨g, cap, e, h1, h2, -, h4⟩ := h
  refine ⟨g, cap, e, h1, h2, fun k hk => ?_⟩
  obtain ⟨va, c, a, -⟩ := h4 k hk
  obtain ⟨adr, ca, b, o, rfl, r⟩ := id a
  exact ⟨adr, ca, c, a⟩
end Go.Proofs.YtdfjnbkkdgolnabGreatDoor
set_option linter.unusedVariables false
set_option linter.unusedSimpArgs false
namespace Go.Proofs.YtdfjnbkkdgolnabGreatDoor
open Go.RowKit

set_option maxHeartbeats 1000000 in
theorem tooLong_any (a : Option Addr) (n c : Nat) (hn : n ≤ maxLen) (w : World) :
    Calls Tryz.prog 56 #[.slice a n c] w fun e w' => e = .returned (.bool (decide (65536 < n))) ∧ w' = w := by
  unfold maxLen at hn
  by_cases h : 65536 < n
  · have h1 : (65536 : Int) < (n : Int) := by omega
    rw [decide_eq_true h]
    clear h
    go_enter Tryz.func56, Tryz.ntmps56
    go_wp2
    go_ret
    exact ⟨rfl, rfl⟩
  · have h1 : ¬ (65536 : Int) < (n : Int) := by omega
    rw [decide_eq_false h]
    clear h
    go_enter Tryz.func56, Tryz.ntmps56
    go_wp2
    go_ret
    exact ⟨rfl, rfl⟩
/-- Whether one of so many vectors is too long. -/
def longB (ns : Nat → Nat) (m : Nat) : Bool := (List.range m).any (fun k => decide (65536 < ns k))
theorem longB_yes (ns : Nat → Nat) (m k : Nat) (hk : k < m) (h : 65536 < ns k) : longB ns m = true :=
  List.any_eq_true.2 ⟨k, List.mem_range.2 hk, decide_eq_true h⟩
theorem longB_no (ns : Nat → Nat) (m : Nat) (h : ∀ k, k < m → ¬ 65536 < ns k) : longB ns m = false := by
  rw [Bool.eq_false_iff]
  intro e
  obtain ⟨k, hk, h2⟩ := List.any_eq_true.1 e
  exact h k (List.mem_range.1 hk) (of_decide_eq_true h2)
/-- A list of lists: where each is, and how long. -/
def Hs (w : World) (v : Value) (m : Nat) (ns : Nat → Nat) : Prop :=
  ∃ (adr : Option Addr) (cap g o : Nat), v = .slice adr m cap ∧ m ≤ cap ∧ cap ≤ maxLen ∧ (0 < m → adr = some ⟨g, o, none⟩) ∧ ∀ k, k < m → ns k ≤ maxLen ∧ ∃ (ad : Option Addr) (ca : Nat), w.cell? ⟨g, o + k, none⟩ = some (.slice ad (ns k) ca)
set_option maxRecDepth 100000 in
set_option maxHeartbeats 2000000 in
theorem index_any (v : Value) (m : Nat) (ns : Nat → Nat) (w : World) (hH : Hs w v m ns) :
    Calls Tryz.prog 73 #[v, .func (.func 56) #[] #[]] w fun e w' => ∃ i : Int, e = .returned (.int .i64 i) ∧ (longB ns m = true → 0 ≤ i) ∧ (longB ns m = false → i < 0) ∧ w' = w := by
  obtain ⟨adr, cap, g, o, rfl, k1, k2, k3, k4⟩ := hH
  unfold maxLen at k2
  have HC : Hid (∀ k, k < m → ns k ≤ maxLen ∧ ∃ (ad : Option Addr) (ca : Nat), w.cell? ⟨g, o + k, none⟩ = some (.slice ad (ns k) ca)) := k4
  have HK : Hid (0 < m → adr = some ⟨g, o, none⟩) := k3
  clear k3 k4
  go_enter Tryz.func73, Tryz.ntmps73
  go_wp2
  go_loopw [8] (fun s8 wr => ∃ j : Nat, j ≤ m ∧ s8 = .int .i64 (j : Int) ∧ Hid (∀ k, k < j → ¬ 65536 < ns k) ∧ wr = w) (fun s8 _ => m - (intOf s8).toNat)
  case atStart => exact ⟨0, by omega, rfl, fun k hk => by omega, rfl⟩
  case round =>
    obtain ⟨j, hj, rfl, hA, rfl⟩ := hrel
    by_cases hlt : j < m
    · have hjI : (j : Int) < (m : Int) := by omega
      have ea := HK.out (by omega)
      subst ea
      obtain ⟨hl, ad, ca, hcell⟩ := HC.out j hlt
      have CT : Hid (∀ W : World, Calls Tryz.prog 56 #[.slice ad (ns j) ca] W fun e w' => e = .returned (.bool (decide (65536 < ns j))) ∧ w' = W) := fun W => tooLong_any ad (ns j) ca hl W
      clear hl
      by_cases hlong : 65536 < ns j
      · rw [decide_eq_true hlong] at CT
        have HF : Hid (longB ns m = true) := longB_yes ns m j hlt hlong
        clear hlong hA
        go_wp2_with (go_at_call 56; refine (CT.out _).mono ?_; rintro e wz ⟨rfl, hz⟩; subst hz)
        go_ret
        exact ⟨_, rfl, fun _ => by omega, fun h => (by rw [HF.out] at h; cases h), rfl⟩
      · rw [decide_eq_false hlong] at CT
        have HA2 : Hid (∀ k, k < j + 1 → ¬ 65536 < ns k) := fun k hk => by
          rcases Nat.lt_or_ge k j with h | h
          · exact hA.out k h
          · obtain rfl : k = j := by omega
            exact hlong
        clear hlong hA
        go_wp2_with (go_at_call 56; refine (CT.out _).mono ?_; rintro e wz ⟨rfl, hz⟩; subst hz)
        go_roundw
        case rel => exact ⟨j + 1, by omega, by go_num, HA2, trivial⟩
        case measure => simp [intOf]; omega
    · have HF : Hid (longB ns m = false) := longB_no ns m (fun k hk => hA.out k (by omega))
      have hjI : ¬ (j : Int) < (m : Int) := by omega
      clear hA
      go_wp2
      go_ret
      exact ⟨_, rfl, fun h => (by rw [HF.out] at h; cases h), fun _ => by omega, rfl⟩
set_option maxHeartbeats 1000000 in
theorem contains_any (v : Value) (m : Nat) (ns : Nat → Nat) (w : World) (hH : Hs w v m ns) :
    Calls Tryz.prog 55 #[v, .func (.func 56) #[] #[]] w fun e w' => e = .returned (.bool (longB ns m)) ∧ w' = w := by
  have CI : Hid (Calls Tryz.prog 73 #[v, .func (.func 56) #[] #[]] w fun e w' => ∃ i : Int, e = .returned (.int .i64 i) ∧ (longB ns m = true → 0 ≤ i) ∧ (longB ns m = false → i < 0) ∧ w' = w) := index_any v m ns w hH
  obtain ⟨adr, cap, g, o, rfl, -, -, -, -⟩ := hH
  generalize longB ns m = B at *
  cases B
  · go_enter Tryz.func55, Tryz.ntmps55
    go_wp2_with fail
    refine CI.out.mono ?_
    rintro e wz ⟨i, rfl, -, h1, hz⟩
    subst hz
    have h2 : ¬ (0 : Int) ≤ i := by have := h1 (by trivial); omega
    clear CI h1
    go_wp2
    go_ret
    exact ⟨by simp [h2], rfl⟩
  · go_enter Tryz.func55, Tryz.ntmps55
    go_wp2_with fail
    refine CI.out.mono ?_
    rintro e wz ⟨i, rfl, h1, -, hz⟩
    subst hz
    have h2 : (0 : Int) ≤ i := h1 (by trivial)
    clear CI h1
    go_wp2
    go_ret
    exact ⟨by simp [h2], rfl⟩
/-- check's answer. -/
def ckE (b : Bool) (ns : Nat → Nat) (m : Nat) : Int := if longB ns m = true then 3 else if b = true then 0 else 40
set_option maxHeartbeats 1000000 in
theorem check_any (b : Bool) (v : Value) (m : Nat) (ns : Nat → Nat) (w : World) (hH : Hs w v m ns) :
    Calls Tryz.prog 32 #[.bool b, v] w fun e w' => e = .returned (.int .i64 (ckE b ns m)) ∧ w' = w := by
  have CI : Hid (Calls Tryz.prog 55 #[v, .func (.func 56) #[] #[]] w fun e w' => e = .returned (.bool (longB ns m)) ∧ w' = w) := contains_any v m ns w hH
  obtain ⟨adr, cap, g, o, rfl, -, -, -, -⟩ := hH
  unfold ckE
  generalize longB ns m = B at *
  cases B <;> cases b
  all_goals
    first
      | rw [if_pos rfl]
      | rw [if_neg (by decide), if_pos rfl]
      | rw [if_neg (by decide), if_neg (by decide)]
    go_enter Tryz.func32, Tryz.ntmps32
    go_wp2_with fail
    refine CI.out.mono ?_
    rintro e wz ⟨rfl, hz⟩
    subst hz
    clear CI
    go_wp2
    go_ret
    exact ⟨rfl, rfl⟩
theorem hs1 (w1 : World) (ada : Option Addr) (n ca : Nat) (k : n ≤ maxLen) : Hs (w1.alloc (.cells #[.slice ada n ca] 23)) (.slice (some ⟨w1.heap.size, 0, none⟩) 1 1) 1 (fun _ => n) := by
  refine ⟨some ⟨w1.heap.size, 0, none⟩, 1, w1.heap.size, 0, rfl, Nat.le_refl _, by unfold maxLen; omega, fun _ => rfl, fun k hk => ?_⟩
  obtain rfl : k = 0 := by omega
  exact ⟨k, ada, ca, by simp [go_sem]⟩
theorem hs2 (w1 : World) (ada adb : Option Addr) (n ca m cb : Nat) (k : n ≤ maxLen) (q : m ≤ maxLen) : Hs (w1.alloc (.cells #[.slice ada n ca, .slice adb m cb] 23)) (.slice (some ⟨w1.heap.size, 0, none⟩) 2 2) 2 (fun k => if k = 0 then n else m) := by
  refine ⟨some ⟨w1.heap.size, 0, none⟩, 2, w1.heap.size, 0, rfl, Nat.le_refl _, by unfold maxLen; omega, fun _ => rfl, fun k hk => ?_⟩
  rcases (show k = 0 ∨ k = 1 by omega) with rfl | rfl
  · exact ⟨k, ada, ca, by simp [go_sem]⟩
  · exact ⟨q, adb, cb, by simp [go_sem]⟩
theorem ckE1 (b : Bool) (n : Nat) : ckE b (fun _ => n) 1 = if 65536 < n then 3 else if b = true then 0 else 40 := by
  unfold ckE longB
  by_cases h : 65536 < n <;> simp [h, List.range_succ]
theorem ckE2 (b : Bool) (n m : Nat) : ckE b (fun k => if k = 0 then n else m) 2 = if 65536 < n ∨ 65536 < m then 3 else if b = true then 0 else 40 := by
  unfold ckE longB
  by_cases h : 65536 < n <;> by_cases h' : 65536 < m <;> simp [h, h', List.range_succ]
theorem check1_any (b : Bool) (w1 : World) (ada : Option Addr) (n ca : Nat) (k : n ≤ maxLen) :
    Calls Tryz.prog 32 #[.bool b, .slice (some ⟨w1.heap.size, 0, none⟩) 1 1] (w1.alloc (.cells #[.slice ada n ca] 23)) fun e w' => e = .returned (.int .i64 (if 65536 < n then 3 else if b = true then 0 else 40)) ∧ w' = w1.alloc (.cells #[.slice ada n ca] 23) := by
  have h := check_any b _ 1 _ _ (hs1 w1 ada n ca k)
  rw [ckE1] at h
  exact h
theorem check2_any (b : Bool) (w1 : World) (ada adb : Option Addr) (n ca m cb : Nat) (k : n ≤ maxLen) (q : m ≤ maxLen) :
    Calls Tryz.prog 32 #[.bool b, .slice (some ⟨w1.heap.size, 0, none⟩) 2 2] (w1.alloc (.cells #[.slice ada n ca, .slice adb m cb] 23)) fun e w' => e = .returned (.int .i64 (if 65536 < n ∨ 65536 < m then 3 else if b = true then 0 else 40)) ∧ w' = w1.alloc (.cells #[.slice ada n ca, .slice adb m cb] 23) := by
  have h := check_any b _ 2 _ _ (hs2 w1 ada adb n ca m cb k q)
  rw [ckE2] at h
  exact h
end Go.Proofs.YtdfjnbkkdgolnabGreatDoor
set_option linter.unusedVariables false
set_option linter.unusedSimpArgs false
namespace Go.Proofs.YtdfjnbkkdgolnabGreatDoor
open Go.RowKit

/-- A block of two cells. -/
structure B2 (b : Nat) (x y : Value) (w : World) : Prop where
  c0 : w.cell? ⟨b, 0, none⟩ = some x
  c1 : w.cell? ⟨b, 1, none⟩ = some y
  f0 : w.frozen? ⟨b, 0, none⟩ = false
  f1 : w.frozen? ⟨b, 1, none⟩ = false
theorem B2.new (w : World) (x y : Value) (t : TypeId) : B2 w.heap.size x y (w.alloc (.cells #[x, y] t)) where
  c0 := by simp [go_sem]
  c1 := by simp [go_sem]
  f0 := by simp [go_sem]
  f1 := by simp [go_sem]
theorem B2.later {b : Nat} {x y : Value} {w w' : World} (h : B2 b x y w) (hb : Below w.heap.size w w') : B2 b x y w' where
  c0 := cell_later hb h.c0
  c1 := cell_later hb h.c1
  f0 := frozen_later hb h.c0 h.f0
  f1 := frozen_later hb h.c1 h.f1
theorem B2.far {b : Nat} {x y : Value} {w : World} {p : Addr} (h : B2 b x y w) (u : Value) (hp : p.block ≠ b) : B2 b x y (w.setCell p u) where
  c0 := cell_set hp h.c0
  c1 := cell_set hp h.c1
  f0 := by rw [World.frozen?_setCell]; exact h.f0
  f1 := by rw [World.frozen?_setCell]; exact h.f1
theorem B2.set0 {b : Nat} {x y : Value} {w : World} (h : B2 b x y w) (u : Value) : B2 b u y (w.setCell ⟨b, 0, none⟩ u) := by
  have c0 := h.c0
  have c1 := h.c1
  have f0 := h.f0
  have f1 := h.f1
  exact ⟨by simp [go_sem, c0], by simp [go_sem, c1], by simp [go_sem, f0], by simp [go_sem, f1]⟩
theorem B2.set1 {b : Nat} {x y : Value} {w : World} (h : B2 b x y w) (u : Value) : B2 b x u (w.setCell ⟨b, 1, none⟩ u) := by
  have c0 := h.c0
  have c1 := h.c1
  have f0 := h.f0
  have f1 := h.f1
  exact ⟨by simp [go_sem, c0], by simp [go_sem, c1], by simp [go_sem, f0], by simp [go_sem, f1]⟩

set_option maxHeartbeats 2000000 in
/-- What products' closure answers, its callees' answers given. -/
theorem prod1_of (ts ms ls x y hp lp tp mp lq tr mr lr : Int) (w : World)
    (CM : Hid (∀ W : World, Calls Tryz.prog 66 #[.int .i64 x, .int .i64 y] W fun e w' => e = .returned (.agg #[.int .i64 hp, .int .u64 lp]) ∧ Below W.heap.size W w'))
    (CE : Hid (∀ W : World, Calls Tryz.prog 44 #[.agg #[.int .i64 hp, .int .u64 lp]] W fun e w' => e = .returned (.agg #[.int .i64 tp, .int .u64 mp, .int .u64 lq]) ∧ Below W.heap.size W w'))
    (CP : Hid (∀ W : World, Calls Tryz.prog 65 #[.agg #[.int .i64 ts, .int .u64 ms, .int .u64 ls], .agg #[.int .i64 tp, .int .u64 mp, .int .u64 lq]] W fun e w' => e = .returned (.agg #[.int .i64 tr, .int .u64 mr, .int .u64 lr]) ∧ Below W.heap.size W w')) :
    Calls Tryz.prog 101 #[.agg #[.int .i64 ts, .int .u64 ms, .int .u64 ls], .int .i64 x, .int .i64 y] w fun e w' => e = .returned (.agg #[.int .i64 tr, .int .u64 mr, .int .u64 lr]) ∧ Below w.heap.size w w' := by
  have A0 := (B3.new w (.int .i64 ts) (.int .u64 ms) (.int .u64 ls) 95).later (bel1 _ (.cells #[.int .i64 0, .int .u64 0, .int .u64 0] 95))
  have R0 := B3.new (w.alloc (.cells #[.int .i64 ts, .int .u64 ms, .int .u64 ls] 95)) (.int .i64 0) (.int .u64 0) (.int .u64 0) 95
  have W0 := bel2 w (.cells #[.int .i64 ts, .int .u64 ms, .int .u64 ls] 95) (.cells #[.int .i64 0, .int .u64 0, .int .u64 0] 95)
  simp only [World.size_alloc] at R0
  go_enter Tryz.func101, Tryz.ntmps101
  go_upto_region 1 with fail
  generalize (w.alloc (.cells #[.int .i64 ts, .int .u64 ms, .int .u64 ls] 95)).alloc (.cells #[.int .i64 0, .int .u64 0, .int .u64 0] 95) = w1 at *
  have hd1 : Below w1.heap.size w1 w1.drew := (Below.refl _ _).drew
  have CO := R0.later hd1
  have A := A0.later hd1
  have CW : Hid (Below w.heap.size w w1.drew) := W0.drew
  have CC0 := CO.c0
  have CC1 := CO.c1
  have CC2 := CO.c2
  have CF0 := CO.f0
  have CF1 := CO.f1
  have CF2 := CO.f2
  clear hd1 A0 R0 W0
  go_region_held3 (fun w' => w'.cell? ⟨w.heap.size, 0, none⟩ = some (.int .i64 ts) ∧ w'.cell? ⟨w.heap.size, 1, none⟩ = some (.int .u64 ms) ∧ w'.cell? ⟨w.heap.size, 2, none⟩ = some (.int .u64 ls))
    (first | exact ⟨A.c0, A.c1, A.c2⟩ | (have A' := ((A.far (p := ⟨w.heap.size + 1, 0, none⟩) (.int .i64 tr) (by dsimp only; omega)).far (p := ⟨w.heap.size + 1, 1, none⟩) (.int .u64 mr) (by dsimp only; omega)).far (p := ⟨w.heap.size + 1, 2, none⟩) (.int .u64 lr) (by dsimp only; omega); exact ⟨A'.c0, A'.c1, A'.c2⟩))
    (first
      | (go_at_call 66; refine (CM.out _).mono ?_; rintro e wz ⟨rfl, hb⟩; replace A := A.later hb; replace CC0 := cell_later hb CC0; replace CC1 := cell_later hb CC1; replace CC2 := cell_later hb CC2; replace CF0 := frozen_later hb CO.c0 CF0; replace CF1 := frozen_later hb CO.c1 CF1; replace CF2 := frozen_later hb CO.c2 CF2; replace CO := CO.later hb; replace CW := hidD CW hb; clear hb)
      | (go_at_call 44; refine (CE.out _).mono ?_; rintro e wz ⟨rfl, hb⟩; replace A := A.later hb; replace CC0 := cell_later hb CC0; replace CC1 := cell_later hb CC1; replace CC2 := cell_later hb CC2; replace CF0 := frozen_later hb CO.c0 CF0; replace CF1 := frozen_later hb CO.c1 CF1; replace CF2 := frozen_later hb CO.c2 CF2; replace CO := CO.later hb; replace CW := hidD CW hb; clear hb)
      | (go_at_call 65; refine (CP.out _).mono ?_; rintro e wz ⟨rfl, hb⟩; replace A := A.later hb; replace CC0 := cell_later hb CC0; replace CC1 := cell_later hb CC1; replace CC2 := cell_later hb CC2; replace CF0 := frozen_later hb CO.c0 CF0; replace CF1 := frozen_later hb CO.c1 CF1; replace CF2 := frozen_later hb CO.c2 CF2; replace CO := CO.later hb; replace CW := hidD CW hb; clear hb))
  have W5 := CW.out
  have S0 := ((CO.set0 (.int .i64 tr)).set1 (.int .u64 mr)).set2 (.int .u64 lr)
  have s0 := S0.c0
  have s1 := S0.c1
  have s2 := S0.c2
  clear A CC0 CC1 CC2 CF0 CF1 CF2 CO CW CM CE CP S0
  go_wp2
  exact bodyPost_ret (v := .agg #[.int .i64 tr, .int .u64 mr, .int .u64 lr]) (by simp [results, Tryz.results101, go_sem, s0, s1, s2]) rfl ⟨rfl, ((W5.setCell (by dsimp only; omega) _).setCell (by dsimp only; omega) _).setCell (by dsimp only; omega) _⟩
theorem prod1_any (s x y : Int) (x0 : -9223372036854775808 ≤ x) (x1 : x ≤ 9223372036854775807) (y0 : -9223372036854775808 ≤ y) (y1 : y ≤ 9223372036854775807) (w : World) :
    Calls Tryz.prog 101 #[.agg #[.int .i64 (t3 (s)), .int .u64 (m3 (s)), .int .u64 (lo (s))], .int .i64 x, .int .i64 y] w fun e w' => e = .returned (.agg #[.int .i64 (t3 (s + x * y)), .int .u64 (m3 (s + x * y)), .int .u64 (lo (s + x * y))]) ∧ Below w.heap.size w w' := by
  obtain ⟨p0, p1⟩ := mul_in x y x0 x1 y0 y1
  exact prod1_of _ _ _ x y _ _ _ _ _ _ _ _ w (fun W => mul_any x y x0 x1 y0 y1 W) (fun W => extend_any (x * y) (by omega) (by omega) W) (fun W => plus_any s (x * y) W)

set_option maxRecDepth 100000 in
set_option maxHeartbeats 4000000 in
theorem gatherPairs_any (va vb : Value) (n : Nat) (f g : Nat → Int) (hn : n ≤ 70000) (w : World) (hA : Ar w va n f) (hB : Ar w vb n g) :
    Calls Tryz.prog 100 #[va, vb, .agg #[.int .i64 0, .int .u64 0, .int .u64 0], .func (.func 101) #[] #[]] w fun e w' => e = .returned (.agg #[.int .i64 (t3 (dotV f g n)), .int .u64 (m3 (dotV f g n)), .int .u64 (lo (dotV f g n))]) ∧ Below w.heap.size w w' := by
  obtain ⟨adr, cap, b, o, rfl, k1, k2, k3, k4⟩ := hA
  obtain ⟨adq, caq, bq, oq, rfl, q1, q2, q3, q4⟩ := hB
  unfold maxLen at *
  have HA : Hid (∀ k, k < n → w.cell? ⟨b, o + k, none⟩ = some (.int .i64 (f k)) ∧ -9223372036854775808 ≤ f k ∧ f k ≤ 9223372036854775807) := k4
  have HK : Hid (0 < n → adr = some ⟨b, o, none⟩) := k3
  have HB : Hid (∀ k, k < n → w.cell? ⟨bq, oq + k, none⟩ = some (.int .i64 (g k)) ∧ -9223372036854775808 ≤ g k ∧ g k ≤ 9223372036854775807) := q4
  have HL : Hid (0 < n → adq = some ⟨bq, oq, none⟩) := q3
  clear k3 k4 q3 q4
  go_enter Tryz.func100, Tryz.ntmps100
  go_wp2
  go_loopw [13] (fun si wr => ∃ j : Nat, j ≤ n ∧ si = .int .i64 (j : Int) ∧ B3 w.heap.size (.int .i64 (t3 (dotV f g j))) (.int .u64 (m3 (dotV f g j))) (.int .u64 (lo (dotV f g j))) wr ∧ B3 (w.heap.size + 1) (.int .i64 0) (.int .u64 0) (.int .u64 0) wr ∧ Below w.heap.size w wr) (fun si _ => n - (intOf si).toNat)
  case atStart =>
    have R0 := B3.new (w.alloc (.cells #[.int .i64 0, .int .u64 0, .int .u64 0] 95)) (.int .i64 0) (.int .u64 0) (.int .u64 0) 95
    simp only [World.size_alloc] at R0
    exact ⟨0, by omega, rfl, (B3.new w (.int .i64 0) (.int .u64 0) (.int .u64 0) 95).later (bel1 _ _), R0, bel2 w _ _⟩
  case round =>
    obtain ⟨j, hj, rfl, hS, hR, hW⟩ := hrel
    by_cases hlt : j < n
    · have hjI : (j : Int) < (n : Int) := by omega
      have ea := HK.out (by omega)
      subst ea
      obtain ⟨ca, a0, a1⟩ := HA.out j hlt
      have cA : wr.cell? ⟨b, o + j, none⟩ = some (.int .i64 (f j)) := (hW.cell (World.block_lt_of_cell? _ _ ca)).trans ca
      clear ca
      have eb := HL.out (by omega)
      subst eb
      obtain ⟨cb, b0, b1⟩ := HB.out j hlt
      have cB : wr.cell? ⟨bq, oq + j, none⟩ = some (.int .i64 (g j)) := (hW.cell (World.block_lt_of_cell? _ _ cb)).trans cb
      clear cb
      have CM : Hid (∀ W : World, Calls Tryz.prog 101 #[.agg #[.int .i64 (t3 (dotV f g j)), .int .u64 (m3 (dotV f g j)), .int .u64 (lo (dotV f g j))], .int .i64 (f j), .int .i64 (g j)] W fun e w' => e = .returned (.agg #[.int .i64 (t3 (dotV f g (j + 1))), .int .u64 (m3 (dotV f g (j + 1))), .int .u64 (lo (dotV f g (j + 1)))]) ∧ Below W.heap.size W w') := fun W => prod1_any (dotV f g j) (f j) (g j) a0 a1 b0 b1 W
      clear a0 a1 b0 b1
      generalize t3 (dotV f g j) = tj at *
      generalize m3 (dotV f g j) = mj at *
      generalize lo (dotV f g j) = lj at *
      obtain ⟨tk, htk⟩ : ∃ x, t3 (dotV f g (j + 1)) = x := ⟨_, rfl⟩
      obtain ⟨mk, hmk⟩ : ∃ x, m3 (dotV f g (j + 1)) = x := ⟨_, rfl⟩
      obtain ⟨lk, hlk⟩ : ∃ x, lo (dotV f g (j + 1)) = x := ⟨_, rfl⟩
      rw [htk, hmk, hlk] at CM
      have HE : Hid (t3 (dotV f g (j + 1)) = tk ∧ m3 (dotV f g (j + 1)) = mk ∧ lo (dotV f g (j + 1)) = lk) := ⟨htk, hmk, hlk⟩
      clear htk hmk hlk
      go_upto_region 4 with fail
      have CD := hS.drew
      have CR := hR.drew
      have CV : Hid (Below w.heap.size w wr.drew) := hW.drew
      have xB : wr.drew.cell? ⟨bq, oq + j, none⟩ = some (.int .i64 (g j)) := cB
      have y0 := CD.c0
      have y1 := CD.c1
      have y2 := CD.c2
      clear cA cB hS hR hW
      go_region_with (first
        | (go_at_call 101; refine (CM.out _).mono ?_; rintro e wz ⟨rfl, hb⟩; clear xB y0 y1 y2; replace CD := CD.later hb; replace CR := CR.later hb; replace CV := hidD' CV hb; clear hb; have y0 := CD.c0; have y1 := CD.c1; have y2 := CD.c2; have z0 := CD.f0; have z1 := CD.f1; have z2 := CD.f2))
      all_goals
        have D5 := ((CD.set0 (.int .i64 tk)).set1 (.int .u64 mk)).set2 (.int .u64 lk)
        have R5 := ((CR.far (p := ⟨w.heap.size, 0, none⟩) (.int .i64 tk) (by dsimp only; omega)).far (p := ⟨w.heap.size, 1, none⟩) (.int .u64 mk) (by dsimp only; omega)).far (p := ⟨w.heap.size, 2, none⟩) (.int .u64 lk) (by dsimp only; omega)
        have W5 := ((CV.out.setCell (p := ⟨w.heap.size, 0, none⟩) (Nat.le_refl _) (.int .i64 tk)).setCell (p := ⟨w.heap.size, 1, none⟩) (Nat.le_refl _) (.int .u64 mk)).setCell (p := ⟨w.heap.size, 2, none⟩) (Nat.le_refl _) (.int .u64 lk)
        obtain ⟨rfl, rfl, rfl⟩ := HE.out
        clear CD CR CV CM y0 y1 y2 z0 z1 z2 HE
        go_wp2
        go_roundw
        case rel => exact ⟨j + 1, by omega, by go_num, D5, R5, W5⟩
        case measure => simp [intOf]; omega
    · obtain rfl : j = n := by omega
      have hjI : ¬ (j : Int) < (j : Int) := by omega
      have y0 := hS.c0
      have y1 := hS.c1
      have y2 := hS.c2
      have z0 := hR.c0
      have z1 := hR.c1
      have z2 := hR.c2
      have u0 := hR.f0
      have u1 := hR.f1
      have u2 := hR.f2
      have S0 := ((hR.set0 (.int .i64 (t3 (dotV f g j)))).set1 (.int .u64 (m3 (dotV f g j)))).set2 (.int .u64 (lo (dotV f g j)))
      have s0 := S0.c0
      have s1 := S0.c1
      have s2 := S0.c2
      have W5 := ((hW.setCell (p := ⟨w.heap.size + 1, 0, none⟩) (by dsimp only; omega) (.int .i64 (t3 (dotV f g j)))).setCell (p := ⟨w.heap.size + 1, 1, none⟩) (by dsimp only; omega) (.int .u64 (m3 (dotV f g j)))).setCell (p := ⟨w.heap.size + 1, 2, none⟩) (by dsimp only; omega) (.int .u64 (lo (dotV f g j)))
      clear hS hR hW S0 HA HB HK HL
      go_wp2
      exact bodyPost_ret (v := .agg #[.int .i64 (t3 (dotV f g j)), .int .u64 (m3 (dotV f g j)), .int .u64 (lo (dotV f g j))]) (by simp [results, Tryz.results100, go_sem, s0, s1, s2]) rfl ⟨rfl, W5⟩

set_option maxHeartbeats 1000000 in
theorem products_any (va vb : Value) (n : Nat) (f g : Nat → Int) (hn : n ≤ 70000) (w : World) (hA : Ar w va n f) (hB : Ar w vb n g) :
    Calls Tryz.prog 92 #[va, vb] w fun e w' => e = .returned (.agg #[.int .i64 (t3 (dotV f g n)), .int .u64 (m3 (dotV f g n)), .int .u64 (lo (dotV f g n))]) ∧ Below w.heap.size w w' := by
  have hb0 := bel1 w (.cells #[.int .i64 0, .int .u64 0, .int .u64 0] 95)
  have CG : Hid (Calls Tryz.prog 100 #[va, vb, .agg #[.int .i64 0, .int .u64 0, .int .u64 0], .func (.func 101) #[] #[]] (w.alloc (.cells #[.int .i64 0, .int .u64 0, .int .u64 0] 95)) fun e w' => e = .returned (.agg #[.int .i64 (t3 (dotV f g n)), .int .u64 (m3 (dotV f g n)), .int .u64 (lo (dotV f g n))]) ∧ Below (w.alloc (.cells #[.int .i64 0, .int .u64 0, .int .u64 0] 95)).heap.size (w.alloc (.cells #[.int .i64 0, .int .u64 0, .int .u64 0] 95)) w') := gatherPairs_any va vb n f g hn _ (hA.later hb0) (hB.later hb0)
  have R0 := B3.new w (.int .i64 0) (.int .u64 0) (.int .u64 0) 95
  obtain ⟨adr, cap, b, o, rfl, -, -, -, -⟩ := hA
  obtain ⟨adq, caq, bq, oq, rfl, -, -, -, -⟩ := hB
  generalize t3 (dotV f g n) = tj at *
  generalize m3 (dotV f g n) = mj at *
  generalize lo (dotV f g n) = lj at *
  go_enter Tryz.func92, Tryz.ntmps92
  go_wp2_with fail
  refine CG.out.mono ?_
  rintro e w1 ⟨rfl, hb⟩
  have W1 := bchain hb0 hb
  have R1 := R0.later hb
  have z0 := R1.c0
  have z1 := R1.c1
  have z2 := R1.c2
  have u0 := R1.f0
  have u1 := R1.f1
  have u2 := R1.f2
  have S0 := ((R1.set0 (.int .i64 tj)).set1 (.int .u64 mj)).set2 (.int .u64 lj)
  have s0 := S0.c0
  have s1 := S0.c1
  have s2 := S0.c2
  have W5 := ((W1.setCell (p := ⟨w.heap.size, 0, none⟩) (Nat.le_refl _) (.int .i64 tj)).setCell (p := ⟨w.heap.size, 1, none⟩) (Nat.le_refl _) (.int .u64 mj)).setCell (p := ⟨w.heap.size, 2, none⟩) (Nat.le_refl _) (.int .u64 lj)
  clear R0 R1 S0 hb hb0 W1 CG
  go_wp2
  exact bodyPost_ret (v := .agg #[.int .i64 tj, .int .u64 mj, .int .u64 lj]) (by simp [results, Tryz.results92, go_sem, s0, s1, s2]) rfl ⟨rfl, W5⟩

set_option maxHeartbeats 2000000 in
theorem plus1_of (hs ls x hp lp hr lr : Int) (w : World)
    (CM : Hid (∀ W : World, Calls Tryz.prog 46 #[.int .i64 x] W fun e w' => e = .returned (.agg #[.int .i64 hp, .int .u64 lp]) ∧ Below W.heap.size W w'))
    (CP : Hid (∀ W : World, Calls Tryz.prog 58 #[.agg #[.int .i64 hs, .int .u64 ls], .agg #[.int .i64 hp, .int .u64 lp]] W fun e w' => e = .returned (.agg #[.int .i64 hr, .int .u64 lr]) ∧ Below W.heap.size W w')) :
    Calls Tryz.prog 37 #[.agg #[.int .i64 hs, .int .u64 ls], .int .i64 x] w fun e w' => e = .returned (.agg #[.int .i64 hr, .int .u64 lr]) ∧ Below w.heap.size w w' := by
  have A0 := (B2.new w (.int .i64 hs) (.int .u64 ls) 85).later (bel1 _ (.cells #[.int .i64 0, .int .u64 0] 85))
  have R0 := B2.new (w.alloc (.cells #[.int .i64 hs, .int .u64 ls] 85)) (.int .i64 0) (.int .u64 0) 85
  have W0 := bel2 w (.cells #[.int .i64 hs, .int .u64 ls] 85) (.cells #[.int .i64 0, .int .u64 0] 85)
  simp only [World.size_alloc] at R0
  go_enter Tryz.func37, Tryz.ntmps37
  go_upto_region 1 with fail
  generalize (w.alloc (.cells #[.int .i64 hs, .int .u64 ls] 85)).alloc (.cells #[.int .i64 0, .int .u64 0] 85) = w1 at *
  have hd1 : Below w1.heap.size w1 w1.drew := (Below.refl _ _).drew
  have CO := R0.later hd1
  have A := A0.later hd1
  have CW : Hid (Below w.heap.size w w1.drew) := W0.drew
  have CC0 := CO.c0
  have CC1 := CO.c1
  have CF0 := CO.f0
  have CF1 := CO.f1
  clear hd1 A0 R0 W0
  go_region_held3 (fun w' => w'.cell? ⟨w.heap.size, 0, none⟩ = some (.int .i64 hs) ∧ w'.cell? ⟨w.heap.size, 1, none⟩ = some (.int .u64 ls))
    (first | exact ⟨A.c0, A.c1⟩ | (have A' := (A.far (p := ⟨w.heap.size + 1, 0, none⟩) (.int .i64 hr) (by dsimp only; omega)).far (p := ⟨w.heap.size + 1, 1, none⟩) (.int .u64 lr) (by dsimp only; omega); exact ⟨A'.c0, A'.c1⟩))
    (first
      | (go_at_call 46; refine (CM.out _).mono ?_; rintro e wz ⟨rfl, hb⟩; replace A := A.later hb; replace CC0 := cell_later hb CC0; replace CC1 := cell_later hb CC1; replace CF0 := frozen_later hb CO.c0 CF0; replace CF1 := frozen_later hb CO.c1 CF1; replace CO := CO.later hb; replace CW := hidD CW hb; clear hb)
      | (go_at_call 58; refine (CP.out _).mono ?_; rintro e wz ⟨rfl, hb⟩; replace A := A.later hb; replace CC0 := cell_later hb CC0; replace CC1 := cell_later hb CC1; replace CF0 := frozen_later hb CO.c0 CF0; replace CF1 := frozen_later hb CO.c1 CF1; replace CO := CO.later hb; replace CW := hidD CW hb; clear hb))
  have W5 := CW.out
  have S0 := (CO.set0 (.int .i64 hr)).set1 (.int .u64 lr)
  have s0 := S0.c0
  have s1 := S0.c1
  clear A CC0 CC1 CF0 CF1 CO CW CM CP S0
  go_wp2
  exact bodyPost_ret (v := .agg #[.int .i64 hr, .int .u64 lr]) (by simp [results, Tryz.results37, go_sem, s0, s1]) rfl ⟨rfl, (W5.setCell (by dsimp only; omega) _).setCell (by dsimp only; omega) _⟩
theorem plus1_any (s x : Int) (x0 : -9223372036854775808 ≤ x) (x1 : x ≤ 9223372036854775807) (w : World) :
    Calls Tryz.prog 37 #[.agg #[.int .i64 (hi (s)), .int .u64 (lo (s))], .int .i64 x] w fun e w' => e = .returned (.agg #[.int .i64 (hi (s + x)), .int .u64 (lo (s + x))]) ∧ Below w.heap.size w w' :=
  plus1_of _ _ x _ _ _ _ w (fun W => of_any x x0 x1 W) (fun W => add_any s x W)

set_option maxRecDepth 100000 in
set_option maxHeartbeats 4000000 in
theorem gather_any (va : Value) (n : Nat) (f : Nat → Int) (w : World) (hA : Ar w va n f) :
    Calls Tryz.prog 61 #[va, .agg #[.int .i64 0, .int .u64 0], .func (.func 37) #[] #[]] w fun e w' => e = .returned (.agg #[.int .i64 (hi (sumV f n)), .int .u64 (lo (sumV f n))]) ∧ Below w.heap.size w w' := by
  obtain ⟨adr, cap, b, o, rfl, k1, k2, k3, k4⟩ := hA
  unfold maxLen at *
  have HA : Hid (∀ k, k < n → w.cell? ⟨b, o + k, none⟩ = some (.int .i64 (f k)) ∧ -9223372036854775808 ≤ f k ∧ f k ≤ 9223372036854775807) := k4
  have HK : Hid (0 < n → adr = some ⟨b, o, none⟩) := k3
  clear k3 k4
  go_enter Tryz.func61, Tryz.ntmps61
  go_wp2
  go_loopw [11] (fun si wr => ∃ j : Nat, j ≤ n ∧ si = .int .i64 (j : Int) ∧ B2 w.heap.size (.int .i64 (hi (sumV f j))) (.int .u64 (lo (sumV f j))) wr ∧ B2 (w.heap.size + 1) (.int .i64 0) (.int .u64 0) wr ∧ Below w.heap.size w wr) (fun si _ => n - (intOf si).toNat)
  case atStart =>
    have R0 := B2.new (w.alloc (.cells #[.int .i64 0, .int .u64 0] 85)) (.int .i64 0) (.int .u64 0) 85
    simp only [World.size_alloc] at R0
    exact ⟨0, by omega, rfl, (B2.new w (.int .i64 0) (.int .u64 0) 85).later (bel1 _ _), R0, bel2 w _ _⟩
  case round =>
    obtain ⟨j, hj, rfl, hS, hR, hW⟩ := hrel
    by_cases hlt : j < n
    · have hjI : (j : Int) < (n : Int) := by omega
      have ea := HK.out (by omega)
      subst ea
      obtain ⟨ca, a0, a1⟩ := HA.out j hlt
      have cA : wr.cell? ⟨b, o + j, none⟩ = some (.int .i64 (f j)) := (hW.cell (World.block_lt_of_cell? _ _ ca)).trans ca
      clear ca
      have CM : Hid (∀ W : World, Calls Tryz.prog 37 #[.agg #[.int .i64 (hi (sumV f j)), .int .u64 (lo (sumV f j))], .int .i64 (f j)] W fun e w' => e = .returned (.agg #[.int .i64 (hi (sumV f (j + 1))), .int .u64 (lo (sumV f (j + 1)))]) ∧ Below W.heap.size W w') := fun W => plus1_any (sumV f j) (f j) a0 a1 W
      clear a0 a1
      generalize hi (sumV f j) = tj at *
      generalize lo (sumV f j) = lj at *
      obtain ⟨tk, htk⟩ : ∃ x, hi (sumV f (j + 1)) = x := ⟨_, rfl⟩
      obtain ⟨lk, hlk⟩ : ∃ x, lo (sumV f (j + 1)) = x := ⟨_, rfl⟩
      rw [htk, hlk] at CM
      have HE : Hid (hi (sumV f (j + 1)) = tk ∧ lo (sumV f (j + 1)) = lk) := ⟨htk, hlk⟩
      clear htk hlk
      have y0 := hS.c0
      have y1 := hS.c1
      have HW : Hid (Below w.heap.size w wr) := hW
      clear hW
      go_wp2_with (go_at_call 37; refine (CM.out _).mono ?_; rintro e wz ⟨rfl, hb⟩; clear cA y0 y1; replace hS := hS.later hb; replace hR := hR.later hb; replace HW := hidD' HW hb; clear hb; have y0 := hS.c0; have y1 := hS.c1; have z0 := hS.f0; have z1 := hS.f1)
      have D5 := (hS.set0 (.int .i64 tk)).set1 (.int .u64 lk)
      have R5 := (hR.far (p := ⟨w.heap.size, 0, none⟩) (.int .i64 tk) (by dsimp only; omega)).far (p := ⟨w.heap.size, 1, none⟩) (.int .u64 lk) (by dsimp only; omega)
      have W5 := (HW.out.setCell (p := ⟨w.heap.size, 0, none⟩) (Nat.le_refl _) (.int .i64 tk)).setCell (p := ⟨w.heap.size, 1, none⟩) (Nat.le_refl _) (.int .u64 lk)
      obtain ⟨rfl, rfl⟩ := HE.out
      go_roundw
      case rel => exact ⟨j + 1, by omega, by go_num, D5, R5, W5⟩
      case measure => simp [intOf]; omega
    · obtain rfl : j = n := by omega
      have hjI : ¬ (j : Int) < (j : Int) := by omega
      have y0 := hS.c0
      have y1 := hS.c1
      have z0 := hR.c0
      have z1 := hR.c1
      have u0 := hR.f0
      have u1 := hR.f1
      have S0 := (hR.set0 (.int .i64 (hi (sumV f j)))).set1 (.int .u64 (lo (sumV f j)))
      have s0 := S0.c0
      have s1 := S0.c1
      have W5 := (hW.setCell (p := ⟨w.heap.size + 1, 0, none⟩) (by dsimp only; omega) (.int .i64 (hi (sumV f j)))).setCell (p := ⟨w.heap.size + 1, 1, none⟩) (by dsimp only; omega) (.int .u64 (lo (sumV f j)))
      clear hS hR hW S0 HA HK
      go_wp2
      exact bodyPost_ret (v := .agg #[.int .i64 (hi (sumV f j)), .int .u64 (lo (sumV f j))]) (by simp [results, Tryz.results61, go_sem, s0, s1]) rfl ⟨rfl, W5⟩

set_option maxHeartbeats 1000000 in
theorem total_any (va : Value) (n : Nat) (f : Nat → Int) (w : World) (hA : Ar w va n f) :
    Calls Tryz.prog 41 #[va] w fun e w' => e = .returned (.agg #[.int .i64 (hi (sumV f n)), .int .u64 (lo (sumV f n))]) ∧ Below w.heap.size w w' := by
  have hb0 := bel1 w (.cells #[.int .i64 0, .int .u64 0] 85)
  have CG : Hid (Calls Tryz.prog 61 #[va, .agg #[.int .i64 0, .int .u64 0], .func (.func 37) #[] #[]] (w.alloc (.cells #[.int .i64 0, .int .u64 0] 85)) fun e w' => e = .returned (.agg #[.int .i64 (hi (sumV f n)), .int .u64 (lo (sumV f n))]) ∧ Below (w.alloc (.cells #[.int .i64 0, .int .u64 0] 85)).heap.size (w.alloc (.cells #[.int .i64 0, .int .u64 0] 85)) w') := gather_any va n f _ (hA.later hb0)
  have R0 := B2.new w (.int .i64 0) (.int .u64 0) 85
  obtain ⟨adr, cap, b, o, rfl, -, -, -, -⟩ := hA
  generalize hi (sumV f n) = tj at *
  generalize lo (sumV f n) = lj at *
  go_enter Tryz.func41, Tryz.ntmps41
  go_wp2_with fail
  refine CG.out.mono ?_
  rintro e w1 ⟨rfl, hb⟩
  have W1 := bchain hb0 hb
  have R1 := R0.later hb
  have z0 := R1.c0
  have z1 := R1.c1
  have u0 := R1.f0
  have u1 := R1.f1
  have S0 := (R1.set0 (.int .i64 tj)).set1 (.int .u64 lj)
  have s0 := S0.c0
  have s1 := S0.c1
  have W5 := (W1.setCell (p := ⟨w.heap.size, 0, none⟩) (Nat.le_refl _) (.int .i64 tj)).setCell (p := ⟨w.heap.size, 1, none⟩) (Nat.le_refl _) (.int .u64 lj)
  clear R0 R1 S0 hb hb0 W1 CG
  go_wp2
  exact bodyPost_ret (v := .agg #[.int .i64 tj, .int .u64 lj]) (by simp [results, Tryz.results41, go_sem, s0, s1]) rfl ⟨rfl, W5⟩

set_option maxHeartbeats 1000000 in
theorem vhold_nil (v : Int) (h0 : -170141183460469231731687303715884105728 ≤ v) (h1 : v ≤ 170141183460469231731687303715884105727) (w : World) :
    Calls Tryz.prog 60 #[.pointer none, .agg #[.int .i64 (hi (v)), .int .u64 (lo (v))]] w fun e w' => e = .returned (.int .i64 (clv v)) ∧ Below w.heap.size w w' := by
  obtain ⟨k0, k1⟩ := clv_fit v
  have CC : Hid (∀ W : World, Calls Tryz.prog 80 #[.agg #[.int .i64 (hi (v)), .int .u64 (lo (v))]] W fun e w' => e = .returned (.tuple #[.int .i64 (clv v), .bool (ovv v)]) ∧ Below W.heap.size W w') := fun W => clamp_any v h0 h1 W
  generalize clv v = x at *
  generalize ovv v = y at *
  go_enter Tryz.func60, Tryz.ntmps60
  go_wp2_with fail
  refine (CC.out _).mono ?_
  rintro e w1 ⟨rfl, hb⟩
  have W1 := bchain (bel1 w _) hb
  clear hb
  go_wp2_with fail
  refine (take_nil _ _ _).mono ?_
  rintro e w2 ⟨rfl, hz⟩
  subst hz
  clear CC
  go_wp2
  go_ret
  exact ⟨rfl, W1⟩

set_option maxHeartbeats 1000000 in
theorem vhold_un (v : Int) (h0 : -170141183460469231731687303715884105728 ≤ v) (h1 : v ≤ 170141183460469231731687303715884105727) (d : Nat) (n : Int) (n0 : 0 ≤ n) (n1 : n ≤ 1000000000) (w : World) (c : w.cell? ⟨d, 0, none⟩ = some (.int .i64 n)) (f : w.frozen? ⟨d, 0, none⟩ = false) :
    Calls Tryz.prog 60 #[.pointer (some ⟨d, 0, none⟩), .agg #[.int .i64 (hi (v)), .int .u64 (lo (v))]] w fun e w' => e = .returned (.int .i64 (clv v)) ∧ Un d (n + bi (ovv v)) w w' := by
  obtain ⟨k0, k1⟩ := clv_fit v
  have CC : Hid (∀ W : World, Calls Tryz.prog 80 #[.agg #[.int .i64 (hi (v)), .int .u64 (lo (v))]] W fun e w' => e = .returned (.tuple #[.int .i64 (clv v), .bool (ovv v)]) ∧ Below W.heap.size W w') := fun W => clamp_any v h0 h1 W
  generalize clv v = x at *
  generalize ovv v = y at *
  go_enter Tryz.func60, Tryz.ntmps60
  go_wp2_with fail
  refine (CC.out _).mono ?_
  rintro e w1 ⟨rfl, hb⟩
  have W1 := bchain (bel1 w _) hb
  clear hb
  have c1 := cell_later W1 c
  have f1 := frozen_later W1 c f
  go_wp2_with fail
  refine (take_un d n _ _ n0 n1 _ c1 f1).mono ?_
  rintro e w2 ⟨rfl, hU⟩
  have hV := Un.after W1 hU
  clear hU c1 f1 c f CC
  go_wp2
  go_ret
  exact ⟨rfl, hV⟩

theorem dotV_rng (va vb : Value) (n : Nat) (f g : Nat → Int) (hn : n ≤ 70000) (w : World) (hA : Ar w va n f) (hB : Ar w vb n g) : -3138550867693340381917894711603833208051177722232017256448 ≤ dotV f g n ∧ dotV f g n ≤ 3138550867693340381917894711603833208051177722232017256447 := by
  obtain ⟨_, _, _, _, _, _, _, _, h1⟩ := hA
  obtain ⟨_, _, _, _, _, _, _, _, h2⟩ := hB
  have key : ∀ k, k ≤ n → -((k : Int) * 85070591730234615865843651857942052864) ≤ dotV f g k ∧ dotV f g k ≤ (k : Int) * 85070591730234615865843651857942052864 := by
    intro k
    induction k with
    | zero => intro _; exact ⟨by simp [dotV], by simp [dotV]⟩
    | succ k ih =>
      intro hk
      obtain ⟨i0, i1⟩ := ih (by omega)
      obtain ⟨p0, p1⟩ := mul_in (f k) (g k) (h1 k (by omega)).2.1 (h1 k (by omega)).2.2 (h2 k (by omega)).2.1 (h2 k (by omega)).2.2
      have e : dotV f g (k + 1) = dotV f g k + f k * g k := rfl
      rw [e]
      generalize f k * g k = p at *
      constructor <;> omega
  obtain ⟨a, b⟩ := key n (Nat.le_refl _)
  constructor <;> omega
theorem sumV_small (va : Value) (n : Nat) (f : Nat → Int) (w : World) (hA : Ar w va n f) : -((n : Int) * 9223372036854775808) ≤ sumV f n ∧ sumV f n ≤ (n : Int) * 9223372036854775808 := by
  obtain ⟨_, _, _, _, _, _, _, _, h1⟩ := hA
  have key : ∀ k, k ≤ n → -((k : Int) * 9223372036854775808) ≤ sumV f k ∧ sumV f k ≤ (k : Int) * 9223372036854775808 := by
    intro k
    induction k with
    | zero => intro _; exact ⟨by simp [sumV], by simp [sumV]⟩
    | succ k ih =>
      intro hk
      obtain ⟨i0, i1⟩ := ih (by omega)
      have p0 := (h1 k (by omega)).2.1
      have p1 := (h1 k (by omega)).2.2
      have e : sumV f (k + 1) = sumV f k + f k := rfl
      rw [e]
      constructor <;> omega
  exact key n (Nat.le_refl _)
theorem sumV_rng (va : Value) (n : Nat) (f : Nat → Int) (hn : n ≤ 9223372036854775807) (w : World) (hA : Ar w va n f) : -170141183460469231731687303715884105728 ≤ sumV f n ∧ sumV f n ≤ 170141183460469231731687303715884105727 := by
  obtain ⟨a, b⟩ := sumV_small va n f w hA
  constructor <;> omega
set_option maxHeartbeats 1000000 in
theorem vdot_nil (va vb : Value) (n : Nat) (f g : Nat → Int) (hn : n ≤ 70000) (w : World) (hT : TabAt w) (hA : Ar w va n f) (hB : Ar w vb n g) :
    Calls Tryz.prog 72 #[.pointer none, va, vb] w fun e w' => e = .returned (.int .i64 (clv (rr (dotV f g n) 32))) ∧ Below w.heap.size w w' := by
  have CG : Hid (Calls Tryz.prog 92 #[va, vb] w fun e w' => e = .returned (.agg #[.int .i64 (t3 (dotV f g n)), .int .u64 (m3 (dotV f g n)), .int .u64 (lo (dotV f g n))]) ∧ Below w.heap.size w w') := products_any va vb n f g hn w hA hB
  obtain ⟨r0, r1⟩ := dotV_rng va vb n f g hn w hA hB
  have HN : Hid (∀ W : World, TabAt W → Calls Tryz.prog 47 #[.pointer none, .agg #[.int .i64 (t3 (dotV f g n)), .int .u64 (m3 (dotV f g n)), .int .u64 (lo (dotV f g n))], .int .i64 32] W fun e w' => e = .returned (.int .i64 (clv (rr (dotV f g n) 32))) ∧ Below W.heap.size W w') := fun W h => uNear_nil (dotV f g n) r0 r1 W h
  obtain ⟨k0, k1⟩ := clv_fit (rr (dotV f g n) 32)
  have HT : Hid (TabAt w) := hT
  obtain ⟨adr, cap, b, o, rfl, -, -, -, -⟩ := hA
  obtain ⟨adq, caq, bq, oq, rfl, -, -, -, -⟩ := hB
  clear hT r0 r1
  generalize clv (rr (dotV f g n) 32) = x at *
  generalize t3 (dotV f g n) = tj at *
  generalize m3 (dotV f g n) = mj at *
  generalize lo (dotV f g n) = lj at *
  go_enter Tryz.func72, Tryz.ntmps72
  go_wp2_with fail
  refine CG.out.mono ?_
  rintro e w1 ⟨rfl, W1⟩
  have T1 : Hid (TabAt w1) := HT.out.later W1
  clear CG HT
  go_wp2_with fail
  refine (HN.out _ T1.out).mono ?_
  rintro e w2 ⟨rfl, hb⟩
  have W2 := bchain W1 hb
  clear hb HN T1
  go_wp2
  go_ret
  exact ⟨rfl, W2⟩

set_option maxHeartbeats 1000000 in
theorem vdot_un (va vb : Value) (n : Nat) (f g : Nat → Int) (hn : n ≤ 70000) (d : Nat) (c : Int) (c0 : 0 ≤ c) (c1 : c ≤ 1000000000) (w : World) (hT : TabAt w) (hA : Ar w va n f) (hB : Ar w vb n g) (hc : w.cell? ⟨d, 0, none⟩ = some (.int .i64 c)) (hf : w.frozen? ⟨d, 0, none⟩ = false) :
    Calls Tryz.prog 72 #[.pointer (some ⟨d, 0, none⟩), va, vb] w fun e w' => e = .returned (.int .i64 (clv (rr (dotV f g n) 32))) ∧ Un d (c + bi (ovv (rr (dotV f g n) 32))) w w' := by
  have CG : Hid (Calls Tryz.prog 92 #[va, vb] w fun e w' => e = .returned (.agg #[.int .i64 (t3 (dotV f g n)), .int .u64 (m3 (dotV f g n)), .int .u64 (lo (dotV f g n))]) ∧ Below w.heap.size w w') := products_any va vb n f g hn w hA hB
  obtain ⟨r0, r1⟩ := dotV_rng va vb n f g hn w hA hB
  have HN : Hid (∀ W : World, TabAt W → W.cell? ⟨d, 0, none⟩ = some (.int .i64 c) → W.frozen? ⟨d, 0, none⟩ = false → Calls Tryz.prog 47 #[.pointer (some ⟨d, 0, none⟩), .agg #[.int .i64 (t3 (dotV f g n)), .int .u64 (m3 (dotV f g n)), .int .u64 (lo (dotV f g n))], .int .i64 32] W fun e w' => e = .returned (.int .i64 (clv (rr (dotV f g n) 32))) ∧ Un d (c + bi (ovv (rr (dotV f g n) 32))) W w') := fun W h hc hf => uNear_un (dotV f g n) r0 r1 d c c0 c1 W h hc hf
  obtain ⟨k0, k1⟩ := clv_fit (rr (dotV f g n) 32)
  have HT : Hid (TabAt w) := hT
  obtain ⟨adr, cap, b, o, rfl, -, -, -, -⟩ := hA
  obtain ⟨adq, caq, bq, oq, rfl, -, -, -, -⟩ := hB
  clear hT r0 r1
  generalize clv (rr (dotV f g n) 32) = x at *
  generalize bi (ovv (rr (dotV f g n) 32)) = z at *
  generalize t3 (dotV f g n) = tj at *
  generalize m3 (dotV f g n) = mj at *
  generalize lo (dotV f g n) = lj at *
  go_enter Tryz.func72, Tryz.ntmps72
  go_wp2_with fail
  refine CG.out.mono ?_
  rintro e w1 ⟨rfl, W1⟩
  have T1 : Hid (TabAt w1) := HT.out.later W1
  have x1 := cell_later W1 hc
  have y1 := frozen_later W1 hc hf
  clear CG HT
  go_wp2_with fail
  refine (HN.out _ T1.out x1 y1).mono ?_
  rintro e w2 ⟨rfl, hU⟩
  have hV := Un.after W1 hU
  clear hU HN T1 x1 y1 hc hf
  go_wp2
  go_ret
  exact ⟨rfl, hV⟩

end Go.Proofs.YtdfjnbkkdgolnabGreatDoor
