/-
  VWalkG, VWalkH, VWalkI, VWalkJ, VMat, VMat2, VWalkK, VWalkL.
-/
import Derived.Test.YtcdehbhdloaieaaGreatDoorBI
import Derived.Test.YtcdehbhdloaieaaGreatDoorBK
import Derived.Deep.RegionHeld3
import Derived.Deep.DrawnRows
/-
  The contract of regattaref04's MatVec.
-/
set_option linter.unusedVariables false
set_option linter.unusedSimpArgs false
namespace Go.Proofs.YtcdehbhdloaieaaGreatDoor
open Go.RowKit

/-- A part of a list. -/
theorem ar_sub {w : World} {b o n cap : Nat} {f : Nat → Int} (h : Ar w (.slice (some ⟨b, o, none⟩) n cap) n f) (p c : Nat) (hp : p + c ≤ n) : Ar w (.slice (some ⟨b, o + p, none⟩) c (cap - p)) c (fun k => f (p + k)) := by
  obtain ⟨adr, cap', b', o', e, h2, h3, h4, h5⟩ := h
  cases e
  refine ⟨_, _, b, o + p, rfl, by omega, by omega, fun _ => rfl, fun k hk => ?_⟩
  have e2 := h4 (by omega)
  cases e2
  have := h5 (p + k) (by omega)
  rw [show o + p + k = o + (p + k) by omega]
  exact this
def mvX (f g : Nat → Int) (c : Nat) (i : Nat) : Int := clv (rr (dotV (fun k => f (i * c + k)) g c) 32)
def mvO (f g : Nat → Int) (c : Nat) (i : Nat) : Bool := ovv (rr (dotV (fun k => f (i * c + k)) g c) 32)
theorem Un.from {d : Nat} {n : Int} {w w1 w2 : World} (hb : Below w.heap.size w w1) (h : Un d n w1 w2) : Un d n w w2 := Un.after hb h
theorem mv_step (j r c : Nat) (h : j < r) : j * c + c ≤ r * c := by
  have := Nat.mul_le_mul_right c (show j + 1 ≤ r by omega)
  rw [Nat.add_mul, Nat.one_mul] at this
  exact this
end Go.Proofs.YtcdehbhdloaieaaGreatDoor
/-
  The contracts of regattaref04's At and VecMat.
-/
set_option linter.unusedVariables false
set_option linter.unusedSimpArgs false
namespace Go.Proofs.YtcdehbhdloaieaaGreatDoor
open Go.RowKit

def vmX (f g : Nat → Int) (r c : Nat) (k : Nat) : Int := clv (rr (dotV g (fun t => f (t * c + k)) r) 32)
def vmO (f g : Nat → Int) (r c : Nat) (k : Nat) : Bool := ovv (rr (dotV g (fun t => f (t * c + k)) r) 32)
theorem vm_step (j r c k : Nat) (h : j < r) (hk : k < c) : j * c + k < r * c := by have := mv_step j r c h; omega
theorem below_own {B : Nat} {w wr w1 : World} {e : TypeId} {s : Nat} {v : Value} {n : Nat} {xs : List Value} {o : Obj} (hW : Below B w wr) (hB : B ≤ wr.heap.size) (hown : wr.ownsRow B e s v n xs) (hg : (wr.alloc o).grownBy w1 v.ownBlock) : Below B w w1 :=
  (hW.alloc hB o).grown hg (by rw [World.size_alloc]; omega) (fun k hk => (hown.lt k hk).1)
end Go.Proofs.YtcdehbhdloaieaaGreatDoor
/-
  The contract of regattaref04's VecMat.
-/
set_option linter.unusedVariables false
set_option linter.unusedSimpArgs false
namespace Go.Proofs.YtcdehbhdloaieaaGreatDoor
open Go.RowKit

end Go.Proofs.YtcdehbhdloaieaaGreatDoor
/-
  The contract of regattaref04's Means.
-/
set_option linter.unusedVariables false
set_option linter.unusedSimpArgs false
namespace Go.Proofs.YtcdehbhdloaieaaGreatDoor
open Go.RowKit

/-- A list of lists, apart from a block. -/
structure As (w : World) (d b o K n : Nat) (fs : Nat → Nat → Int) : Prop where
  c : ∀ k, k < K → ∃ va : Value, w.cell? ⟨b, o + k, none⟩ = some va ∧ Ar w va n (fs k) ∧ Nb va d
  a : b ≠ d
theorem As.un {w w' : World} {d b o K n : Nat} {fs : Nat → Nat → Int} {c : Int} (h : As w d b o K n fs) (hU : Un d c w w') : As w' d b o K n fs :=
  ⟨fun k hk => by obtain ⟨va, h1, h2, h3⟩ := h.c k hk; exact ⟨va, hU.o _ _ h.a h1, h2.un h3 hU, h3⟩, h.a⟩
theorem As.later {w w' : World} {d b o K n : Nat} {fs : Nat → Nat → Int} (h : As w d b o K n fs) (hb : Below w.heap.size w w') : As w' d b o K n fs :=
  ⟨fun k hk => by obtain ⟨va, h1, h2, h3⟩ := h.c k hk; exact ⟨va, cell_later hb h1, h2.later hb, h3⟩, h.a⟩
def msX (fs : Nat → Nat → Int) (K : Nat) (i : Nat) : Int := clv (quo (sumV (fun k => fs k i) K) (K : Int))
def msO (fs : Nat → Nat → Int) (K : Nat) (i : Nat) : Bool := ovv (quo (sumV (fun k => fs k i) K) (K : Int))
end Go.Proofs.YtcdehbhdloaieaaGreatDoor
/-
  The contract of regattaref04's Right.
-/
set_option linter.unusedVariables false
set_option linter.unusedSimpArgs false
namespace Go.Proofs.YtcdehbhdloaieaaGreatDoor
open Go.RowKit

/-- Whether a matrix is right. -/
def mtB (r c : Int) (n : Nat) : Bool := decide (1 ≤ r) && decide (1 ≤ c) && decide (r ≤ 65536) && decide (c ≤ 65536) && decide (r * c ≤ 65536) && decide ((n : Int) = r * c)
end Go.Proofs.YtcdehbhdloaieaaGreatDoor
/-
  The contract of the laws' mat.
-/
set_option linter.unusedVariables false
set_option linter.unusedSimpArgs false
namespace Go.Proofs.YtcdehbhdloaieaaGreatDoor
open Go.RowKit

/-- A matrix's block: three cells. -/
structure M3 (b : Nat) (x y z : Value) (w : World) : Prop where
  c0 : w.cell? ⟨b, 0, none⟩ = some x
  c1 : w.cell? ⟨b, 1, none⟩ = some y
  c2 : w.cell? ⟨b, 2, none⟩ = some z
  f0 : w.frozen? ⟨b, 0, none⟩ = false
  f1 : w.frozen? ⟨b, 1, none⟩ = false
  f2 : w.frozen? ⟨b, 2, none⟩ = false
theorem M3.later {b : Nat} {x y z : Value} {w w' : World} (h : M3 b x y z w) (hb : Below w.heap.size w w') : M3 b x y z w' :=
  ⟨cell_later hb h.c0, cell_later hb h.c1, cell_later hb h.c2, frozen_later hb h.c0 h.f0, frozen_later hb h.c1 h.f1, frozen_later hb h.c2 h.f2⟩
theorem M3.lt {b : Nat} {x y z : Value} {w : World} (h : M3 b x y z w) : b < w.heap.size := World.block_lt_of_cell? _ _ h.c0
theorem M3.new (w : World) (x y z : Value) (t : TypeId) : M3 w.heap.size x y z (w.alloc (.cells #[x, y, z] t)) :=
  ⟨by simp [go_sem], by simp [go_sem], by simp [go_sem], by simp [go_sem], by simp [go_sem], by simp [go_sem]⟩
theorem M3.far {b : Nat} {x y z : Value} {w : World} {p : Addr} (h : M3 b x y z w) (u : Value) (hp : p.block ≠ b) : M3 b x y z (w.setCell p u) :=
  ⟨cell_set hp h.c0, cell_set hp h.c1, cell_set hp h.c2, by rw [World.frozen?_setCell]; exact h.f0, by rw [World.frozen?_setCell]; exact h.f1, by rw [World.frozen?_setCell]; exact h.f2⟩
theorem M3.all {b : Nat} {x y z : Value} {w : World} (h : M3 b x y z w) (x' y' z' : Value) : M3 b x' y' z' (((w.setCell ⟨b, 0, none⟩ x').setCell ⟨b, 1, none⟩ y').setCell ⟨b, 2, none⟩ z') := by
  have c0 := h.c0
  have c1 := h.c1
  have c2 := h.c2
  have f0 := h.f0
  have f1 := h.f1
  have f2 := h.f2
  refine ⟨?_, ?_, ?_, ?_, ?_, ?_⟩ <;> simp [go_sem, c0, c1, c2, f0, f1, f2]
theorem Ar.set {w : World} {v : Value} {n : Nat} {f : Nat → Int} {p : Addr} (h : Ar w v n f) (hd : Nb v p.block) (u : Value) : Ar (w.setCell p u) v n f := by
  obtain ⟨adr, cap, b, o, h1, h2, h3, h4, h5⟩ := h
  refine ⟨adr, cap, b, o, h1, h2, h3, h4, fun k hk => ⟨?_, (h5 k hk).2⟩⟩
  have e := h4 (by omega)
  subst e
  subst h1
  exact cell_set (fun e => hd _ _ _ rfl (by omega) e.symm) (h5 k hk).1
theorem below_set3 {base : Nat} {w w' : World} {b : Nat} (h : Below base w w') (hb : base ≤ b) (x y z : Value) : Below base w (((w'.setCell ⟨b, 0, none⟩ x).setCell ⟨b, 1, none⟩ y).setCell ⟨b, 2, none⟩ z) :=
  ((h.setCell (by dsimp only; omega) _).setCell (by dsimp only; omega) _).setCell (by dsimp only; omega) _
end Go.Proofs.YtcdehbhdloaieaaGreatDoor
/-
  The contract of regattaref04's Outer.
-/
set_option linter.unusedVariables false
set_option linter.unusedSimpArgs false
namespace Go.Proofs.YtcdehbhdloaieaaGreatDoor
open Go.RowKit

def otX (f g : Nat → Int) (m : Nat) (k : Nat) : Int := clv (rnd (f (k / m) * g (k % m)) 32)
def otN (f g : Nat → Int) (m : Nat) : Nat → Int
  | 0 => 0
  | i + 1 => otN f g m i + cntV (fun k => ovv (rnd (f i * g k) 32)) m
theorem ot_rng (f g : Nat → Int) (m : Nat) (i : Nat) : 0 ≤ otN f g m i ∧ otN f g m i ≤ ((i * m : Nat) : Int) := by
  induction i with
  | zero => simp [otN]
  | succ i ih =>
    have h := cnt_rng (fun k => ovv (rnd (f i * g k) 32)) m
    rw [Nat.add_mul, Nat.one_mul]
    show 0 ≤ otN f g m i + cntV _ m ∧ otN f g m i + cntV _ m ≤ _
    rw [Int.natCast_add]
    omega
theorem ot_il (f g : Nat → Int) (m j : Nat) : il (otX f g m) (j * m) ++ il (fun k => clv (rnd (f j * g k) 32)) m = il (otX f g m) (j * m + m) := by
  unfold il
  rw [List.range_add, List.map_append, List.map_map]
  congr 1
  apply List.map_congr_left
  intro k hk
  have hk := List.mem_range.1 hk
  show _ = Value.int .i64 (otX f g m (j * m + k))
  unfold otX
  rw [show (j * m + k) / m = j by rw [Nat.mul_comm, Nat.mul_add_div (by omega), Nat.div_eq_of_lt hk, Nat.add_zero], show (j * m + k) % m = k by rw [Nat.mul_comm, Nat.mul_add_mod, Nat.mod_eq_of_lt hk]]
theorem il_one (f : Nat → Int) (n : Nat) : ∀ u ∈ il f n, u.oneCell' = true := by
  intro u hu
  unfold il at hu
  obtain ⟨k, _, rfl⟩ := List.mem_map.1 hu
  rfl
theorem Un.setFar {d : Nat} {c : Int} {w wr : World} {p : Addr} (h : Un d c w wr) (hd : d < w.heap.size) (hp : w.heap.size ≤ p.block) (u : Value) : Un d c w (wr.setCell p u) := by
  have blk : ∀ i, i < w.heap.size → (wr.setCell p u).heap[i]? = wr.heap[i]? := fun i hi => Below.heap_setCell _ _ _ _ (by omega)
  refine ⟨(World.cell?_of_block (w := wr) (blk d hd)).trans h.c, (World.frozen?_of_block (w := wr) (blk d hd)).trans h.f, ?_, ?_, ?_, ?_⟩
  · intro base w0 h1 h2 h3
    exact (h.b base w0 h1 h2 h3).setCell (by omega) u
  · intro a v ha hc
    have hb := World.block_lt_of_cell? _ _ hc
    exact (World.cell?_of_block (w := wr) (blk a.block hb)).trans (h.o a v ha hc)
  · have := h.s
    simp [World.setCell]
    omega
  · intro i hi hn
    exact (blk i hi).trans (h.k i hi hn)
theorem own_set {wr : World} {B : Nat} {e : TypeId} {s : Nat} {v : Value} {n : Nat} {xs : List Value} {p : Addr} (h : wr.ownsRow B e s v n xs) (hp : p.block < B) (u : Value) : (wr.setCell p u).ownsRow B e s v n xs := by
  refine ⟨h.1, ?_⟩
  rcases h.2 with h0 | ⟨g, cap, cur, hv, hg, hh, r⟩
  · exact Or.inl h0
  · exact Or.inr ⟨g, cap, cur, hv, hg, (Below.heap_setCell _ _ _ _ (by omega)).trans hh, r⟩
theorem M3.block {b : Nat} {x y z : Value} {w w' : World} (h : M3 b x y z w) (e : w'.heap[b]? = w.heap[b]?) : M3 b x y z w' :=
  ⟨(World.cell?_of_block (w := w) e).trans h.c0, (World.cell?_of_block (w := w) e).trans h.c1, (World.cell?_of_block (w := w) e).trans h.c2, (World.frozen?_of_block (w := w) e).trans h.f0, (World.frozen?_of_block (w := w) e).trans h.f1, (World.frozen?_of_block (w := w) e).trans h.f2⟩
theorem M3.un {b : Nat} {x y z : Value} {w w' : World} {d : Nat} {c : Int} (h : M3 b x y z w) (hU : Un d c w w') (hb : b ≠ d) : M3 b x y z w' := h.block (hU.k b h.lt hb)
theorem Un.growN {d : Nat} {c : Int} {w wr w1 : World} {r : Option Nat} (hU : Un d c w wr) (hd : d < w.heap.size) (hg : wr.grownBy w1 r) (hr : ∀ k, r = some k → w.heap.size ≤ k) : Un d c w w1 := by
  have hs := hU.s
  have blk : ∀ i, i < w.heap.size → w1.heap[i]? = wr.heap[i]? := fun i hi => hg.block i (by omega) (fun e => by have := hr i e.symm; omega)
  refine ⟨(World.cell?_of_block (w := wr) (blk d hd)).trans hU.c, (World.frozen?_of_block (w := wr) (blk d hd)).trans hU.f, ?_, ?_, ?_, ?_⟩
  · intro base w0 h1 h2 h3
    exact (hU.b base w0 h1 h2 h3).grown hg (by omega) (fun k hk => by have := hr k hk; omega)
  · intro a v ha hc
    have hb := World.block_lt_of_cell? _ _ hc
    exact (World.cell?_of_block (w := wr) (blk a.block hb)).trans (hU.o a v ha hc)
  · have := hg.size
    omega
  · intro i hi hn
    exact (blk i hi).trans (hU.k i hi hn)
theorem ar_news {w : World} {b o n cap : Nat} {f : Nat → Int} (h : Ar w (.slice (some ⟨b, o, none⟩) n cap) n f) (hn : 0 < n) : ∀ (j : Nat) (u : Value), (il f n)[j]? = some u → w.cell? ((⟨b, o, none⟩ : Addr).add j) = some u := by
  intro j u hu
  obtain ⟨adr, cap', b', o', e, h2, h3, h4, h5⟩ := h
  cases e
  have e2 := h4 hn
  cases e2
  have hj : j < n := by
    have := (List.getElem?_eq_some_iff.1 hu).1
    rw [il_len] at this
    exact this
  rw [il_get f n j hj] at hu
  cases hu
  have e3 : (⟨b, o, none⟩ : Addr).add j = ⟨b, o + j, none⟩ := by
    unfold Addr.add
    split
    · subst j; rfl
    · rfl
  rw [e3]
  exact (h5 j hj).1
end Go.Proofs.YtcdehbhdloaieaaGreatDoor
/-
  The contract of regattaref04's Outer: its walk.
-/
set_option linter.unusedVariables false
set_option linter.unusedSimpArgs false
namespace Go.Proofs.YtcdehbhdloaieaaGreatDoor
open Go.RowKit
attribute [local go_sem ↓] Go.wp_at_zero Go.wp_at_succ

theorem own_slice {w : World} {B : Nat} {e : TypeId} {s : Nat} {v : Value} {n : Nat} {xs : List Value} (h : w.ownsRow B e s v n xs) : ∃ a l k, v = .slice a l k := by
  rcases h.2 with ⟨h0, _⟩ | ⟨g, cap, cur, hv, _⟩
  · exact ⟨_, _, _, h0⟩
  · exact ⟨_, _, _, hv⟩
theorem ot_next {f g : Nat → Int} {m j d : Nat} {c : Int} {w wa wz : World} {x y z x' y' z' : Value} (h : Un d (c + otN f g m j) w wa ∧ M3 w.heap.size x y z wa ∧ M3 (w.heap.size + 1) x' y' z' wa) (hU : Un d (c + otN f g m j + cntV (fun k => ovv (rnd (f j * g k) 32)) m) wa wz) (hd : d < w.heap.size) : Un d (c + otN f g m (j + 1)) w wz ∧ M3 w.heap.size x y z wz ∧ M3 (w.heap.size + 1) x' y' z' wz := by
  refine ⟨?_, h.2.1.un hU (by omega), h.2.2.un hU (by omega)⟩
  have e : c + otN f g m (j + 1) = c + otN f g m j + cntV (fun k => ovv (rnd (f j * g k) 32)) m := by show c + (otN f g m j + cntV _ m) = _; omega
  rw [e]
  exact h.1.chain hU
theorem ot_grow {d : Nat} {c : Int} {w wa wz : World} {x y z x' y' z' : Value} {e : TypeId} {s n : Nat} {v : Value} {xs : List Value} (h : Un d c w wa ∧ M3 w.heap.size x y z wa ∧ M3 (w.heap.size + 1) x' y' z' wa) (hown : wa.ownsRow (w.heap.size + 2) e s v n xs) (hg : wa.grownBy wz v.ownBlock) (hd : d < w.heap.size) : Un d c w wz ∧ M3 w.heap.size x y z wz ∧ M3 (w.heap.size + 1) x' y' z' wz := by
  have hr : ∀ k, v.ownBlock = some k → w.heap.size + 2 ≤ k := fun k hk => (hown.lt k hk).1
  exact ⟨h.1.growN hd hg (fun k hk => by have := hr k hk; omega), h.2.1.block (hg.block _ h.2.1.lt (fun e => by have := hr _ e.symm; omega)), h.2.2.block (hg.block _ h.2.2.lt (fun e => by have := hr _ e.symm; omega))⟩
theorem ot_put {d : Nat} {c : Int} {w wa : World} {x y z x' y' z' : Value} (h : Un d c w wa ∧ M3 w.heap.size x y z wa ∧ M3 (w.heap.size + 1) x' y' z' wa) (hd : d < w.heap.size) (u : Value) : Un d c w (wa.setCell ⟨w.heap.size + 1, 2, none⟩ u) ∧ M3 w.heap.size x y z (wa.setCell ⟨w.heap.size + 1, 2, none⟩ u) ∧ M3 (w.heap.size + 1) x' y' u (wa.setCell ⟨w.heap.size + 1, 2, none⟩ u) := by
  refine ⟨h.1.setFar hd (by dsimp only; omega) u, h.2.1.far u (by dsimp only; omega), ?_⟩
  obtain ⟨c0, c1, c2, f0, f1, f2⟩ := h.2.2
  refine ⟨?_, ?_, ?_, ?_, ?_, ?_⟩ <;> simp [go_sem, c0, c1, c2, f0, f1, f2]
end Go.Proofs.YtcdehbhdloaieaaGreatDoor
