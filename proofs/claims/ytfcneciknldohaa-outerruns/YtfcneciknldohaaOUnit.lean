/-
  A unit or none: what is counted, and what is left as it was; vec's Axpy and Sub for both at once.
-/
import Derived.Test.YtfcneciknldohaaOAxpy
import Derived.Test.YtfcneciknldohaaPWalkG0
set_option linter.unusedVariables false
set_option linter.unusedSimpArgs false
namespace Go.Proofs.Ytfcneciknldohaa
open Go.RowKit

/-- Two cells of a struct that may be written. -/
structure Y2 (b : Nat) (x y : Value) (w : World) : Prop where
  c0 : w.cell? ⟨b, 0, none⟩ = some x
  c1 : w.cell? ⟨b, 1, none⟩ = some y
  f0 : w.frozen? ⟨b, 0, none⟩ = false
  f1 : w.frozen? ⟨b, 1, none⟩ = false
theorem Y2.new (w : World) (x y : Value) (t : TypeId) : Y2 w.heap.size x y (w.alloc (.cells #[x, y] t)) := ⟨by simp [go_sem], by simp [go_sem], by simp [go_sem], by simp [go_sem]⟩
theorem Y2.blk {b : Nat} {x y : Value} {w w' : World} (h : Y2 b x y w) (e : w'.heap[b]? = w.heap[b]?) : Y2 b x y w' :=
  ⟨(World.cell?_of_block (w := w) e).trans h.c0, (World.cell?_of_block (w := w) e).trans h.c1, (World.frozen?_of_block (w := w) e).trans h.f0, (World.frozen?_of_block (w := w) e).trans h.f1⟩
theorem Y2.lt {b : Nat} {x y : Value} {w : World} (h : Y2 b x y w) : b < w.heap.size := World.block_lt_of_cell? _ _ h.c0
theorem Y2.later {b : Nat} {x y : Value} {w w' : World} (h : Y2 b x y w) (hb : Below w.heap.size w w') : Y2 b x y w' := h.blk (hb.block b h.lt)
theorem Y2.un {b : Nat} {x y : Value} {w w' : World} {d : Nat} {c : Int} (h : Y2 b x y w) (hU : Un d c w w') (hn : b ≠ d) : Y2 b x y w' := h.blk (hU.k b h.lt hn)
theorem Y2.far {b : Nat} {x y : Value} {w : World} (h : Y2 b x y w) (p : Addr) (u : Value) (hp : p.block ≠ b) : Y2 b x y (w.setCell p u) := h.blk (Below.heap_setCell _ _ _ _ (fun e => hp e.symm))
theorem Y2.set0 {b : Nat} {x y : Value} {w : World} (h : Y2 b x y w) (u : Value) : Y2 b u y (w.setCell ⟨b, 0, none⟩ u) :=
  ⟨World.cell?_setCell_same' _ _ _ (by rw [h.c0]; rfl), (World.cell?_setCell_other _ _ _ _ (by simp)).trans h.c1, by rw [World.frozen?_setCell]; exact h.f0, by rw [World.frozen?_setCell]; exact h.f1⟩
theorem Y2.set1 {b : Nat} {x y : Value} {w : World} (h : Y2 b x y w) (u : Value) : Y2 b x u (w.setCell ⟨b, 1, none⟩ u) :=
  ⟨(World.cell?_setCell_other _ _ _ _ (by simp)).trans h.c0, World.cell?_setCell_same' _ _ _ (by rw [h.c1]; rfl), by rw [World.frozen?_setCell]; exact h.f0, by rw [World.frozen?_setCell]; exact h.f1⟩
theorem Y2.grow {b B : Nat} {x y : Value} {w w3 : World} {o : Obj} {r : Option Nat} (h : Y2 b x y w) (hg : (w.alloc o).grownBy w3 r) (hr : ∀ k, r = some k → B ≤ k) (hb : b < B) : Y2 b x y w3 := h.blk (by
  rw [hg.block b (by have := h.lt; rw [World.size_alloc]; omega) (fun e => by have := hr b e.symm; omega), Below.heap_alloc _ _ _ h.lt])
/-- No unit, or one with that count. -/
def Up (p : Option Addr) (c : Int) (w : World) : Prop := p = none ∨ ∃ d, p = some ⟨d, 0, none⟩ ∧ Uc w d c
/-- What is left behind a call that counts. -/
def Ux (p : Option Addr) (c : Int) (w w' : World) : Prop := (p = none ∧ Below w.heap.size w w') ∨ ∃ d, p = some ⟨d, 0, none⟩ ∧ d < w.heap.size ∧ Un d c w w'
/-- A block is not the unit's. -/
def Nu (b : Nat) (p : Option Addr) : Prop := ∀ d, p = some ⟨d, 0, none⟩ → b ≠ d
/-- A list is apart from the unit. -/
def Nv (v : Value) (p : Option Addr) : Prop := ∀ d, p = some ⟨d, 0, none⟩ → Nb v d
theorem nv_none (v : Value) : Nv v none := fun d e => by cases e
theorem nv_some {v : Value} {d : Nat} (h : Nb v d) : Nv v (some ⟨d, 0, none⟩) := fun d' e => by cases e; exact h
theorem Nv.nu {p : Option Addr} {b o n cap : Nat} (h : Nv (.slice (some ⟨b, o, none⟩) n cap) p) (hn : 0 < n) : Nu b p := fun d e => h d e _ n cap rfl hn
theorem Nu.nv {p : Option Addr} {b : Nat} (h : Nu b p) (o n cap : Nat) : Nv (.slice (some ⟨b, o, none⟩) n cap) p := fun d e a n' cap' e2 hn => by cases e2; exact h d e
theorem Up.lt {p : Option Addr} {c : Int} {w : World} (h : Up p c w) {b : Nat} (hb : w.heap.size ≤ b) : Nu b p := fun d e => by
  rcases h with h | ⟨d', h, hc⟩
  · rw [h] at e; cases e
  · rw [h] at e
    cases e
    have := World.block_lt_of_cell? _ _ hc.1
    intro e2
    subst e2
    dsimp only at this
    omega
theorem Up.ow {p : Option Addr} {c : Int} {w : World} (h : Up p c w) {v : Value} (hv : Ow w.heap.size v) : Nv v p := fun d e a n cap e2 hn => (h.lt (hv a n cap e2 hn)) d e
theorem Ux.up {p : Option Addr} {c : Int} {w w' : World} (h : Ux p c w w') : Up p c w' := by
  rcases h with ⟨h, -⟩ | ⟨d, h, -, hU⟩
  · exact Or.inl h
  · exact Or.inr ⟨d, h, hU.c, hU.f⟩
theorem Up.later {p : Option Addr} {c : Int} {w w' : World} (h : Up p c w) (hb : Below w.heap.size w w') : Up p c w' := by
  rcases h with h | ⟨d, h, hc⟩
  · exact Or.inl h
  · exact Or.inr ⟨d, h, hc.later hb⟩
theorem Up.ux {p : Option Addr} {c : Int} {w w' : World} (h : Up p c w) (hb : Below w.heap.size w w') : Ux p c w w' := by
  rcases h with h | ⟨d, h, hc⟩
  · exact Or.inl ⟨h, hb⟩
  · exact Or.inr ⟨d, h, World.block_lt_of_cell? _ _ hc.1, (Un.same hc.1 hc.2).ahead hb⟩
theorem Up.same {p : Option Addr} {c : Int} {w : World} (h : Up p c w) : Ux p c w w := h.ux (Below.refl _ _)
theorem Ux.size {p : Option Addr} {c : Int} {w w' : World} (h : Ux p c w w') : w.heap.size ≤ w'.heap.size := by
  rcases h with ⟨-, hb⟩ | ⟨d, -, -, hU⟩
  · exact hb.size
  · exact hU.s
theorem Ux.chain {p : Option Addr} {c c' : Int} {w w1 w2 : World} (h : Ux p c w w1) (k : Ux p c' w1 w2) : Ux p c' w w2 := by
  rcases h with ⟨h, hb⟩ | ⟨d, h, hd, hU⟩
  · rcases k with ⟨k, kb⟩ | ⟨d, k, -, -⟩
    · exact Or.inl ⟨h, bchain hb kb⟩
    · rw [h] at k; cases k
  · rcases k with ⟨k, kb⟩ | ⟨d', k, -, kU⟩
    · rw [h] at k; cases k
    · rw [h] at k
      cases k
      exact Or.inr ⟨d, h, hd, hU.chain kU⟩
theorem Ux.later {p : Option Addr} {c : Int} {w w1 w2 : World} (h : Ux p c w w1) (hb : Below w1.heap.size w1 w2) : Ux p c w w2 := by
  rcases h with ⟨h, h1⟩ | ⟨d, h, hd, hU⟩
  · exact Or.inl ⟨h, bchain h1 hb⟩
  · exact Or.inr ⟨d, h, hd, hU.ahead hb⟩
theorem Ux.drew {p : Option Addr} {c : Int} {w w1 : World} (h : Ux p c w w1) : Ux p c w w1.drew := h.later (Below.refl _ _).drew
theorem Ux.far {p : Option Addr} {c : Int} {w w1 : World} (h : Ux p c w w1) {a : Addr} (u : Value) (ha : w.heap.size ≤ a.block) : Ux p c w (w1.setCell a u) := by
  rcases h with ⟨h, h1⟩ | ⟨d, h, hd, hU⟩
  · exact Or.inl ⟨h, h1.setCell ha u⟩
  · exact Or.inr ⟨d, h, hd, hU.setnew a u hd ha⟩
theorem Ux.grow {p : Option Addr} {c : Int} {w wr w1 : World} {o : Obj} {r : Option Nat} (h : Ux p c w wr) (hg : (wr.alloc o).grownBy w1 r) (hr : ∀ k, r = some k → w.heap.size ≤ k) : Ux p c w w1 := by
  rcases h with ⟨h, h1⟩ | ⟨d, h, hd, hU⟩
  · have hs := h1.size
    exact Or.inl ⟨h, (h1.alloc (by omega) o).grown hg (by rw [World.size_alloc]; omega) hr⟩
  · exact Or.inr ⟨d, h, hd, hU.grow hd hg hr⟩
theorem Ux.blk {p : Option Addr} {c : Int} {w w' : World} (h : Ux p c w w') {i : Nat} (hi : i < w.heap.size) (hn : Nu i p) : w'.heap[i]? = w.heap[i]? := by
  rcases h with ⟨h, h1⟩ | ⟨d, h, hd, hU⟩
  · exact h1.block i hi
  · exact hU.k i hi (hn d h)
theorem Ux.cell {p : Option Addr} {c : Int} {w w' : World} (h : Ux p c w w') {a : Addr} {v : Value} (hn : Nu a.block p) (hc : w.cell? a = some v) : w'.cell? a = some v :=
  (World.cell?_of_block (w := w) (h.blk (World.block_lt_of_cell? _ _ hc) hn)).trans hc
theorem Ux.frozen {p : Option Addr} {c : Int} {w w' : World} (h : Ux p c w w') {a : Addr} {v : Value} (hn : Nu a.block p) (hc : w.cell? a = some v) (hf : w.frozen? a = false) : w'.frozen? a = false :=
  (World.frozen?_of_block (w := w) (h.blk (World.block_lt_of_cell? _ _ hc) hn)).trans hf
theorem Ar.ux {w w' : World} {v : Value} {n : Nat} {f : Nat → Int} {p : Option Addr} {c : Int} (h : Ar w v n f) (hn : Nv v p) (hU : Ux p c w w') : Ar w' v n f := by
  obtain ⟨adr, cap, b, o, h1, h2, h3, h4, h5⟩ := h
  refine ⟨adr, cap, b, o, h1, h2, h3, h4, fun k hk => ⟨hU.cell ?_ (h5 k hk).1, (h5 k hk).2⟩⟩
  have e := h4 (by omega)
  subst e
  subst h1
  exact hn.nu (by omega)
theorem Rw.ux {b n : Nat} {h : Nat → Value} {w w' : World} {p : Option Addr} {c : Int} (r : Rw b n h w) (hn : Nu b p) (hU : Ux p c w w') : Rw b n h w' := by
  rcases Nat.eq_zero_or_pos n with h0 | h0
  · subst h0
    exact ⟨fun k hk => absurd hk (Nat.not_lt_zero _), fun k hk => absurd hk (Nat.not_lt_zero _)⟩
  · exact r.block (hU.blk (World.block_lt_of_cell? _ _ (r.c 0 h0)) hn)
theorem own_ux {wr w1 : World} {B : Nat} {e : TypeId} {s : Nat} {v : Value} {n : Nat} {xs : List Value} {p : Option Addr} {c : Int} (h : wr.ownsRow B e s v n xs) (hU : Ux p c wr w1) (hn : ∀ g, B ≤ g → Nu g p) : w1.ownsRow B e s v n xs := by
  refine ⟨h.1, ?_⟩
  rcases h.2 with h0 | ⟨g, cap, cur, hv, hg, hh, r⟩
  · exact Or.inl h0
  · exact Or.inr ⟨g, cap, cur, hv, hg, (hU.blk (Array.getElem?_eq_some_iff.1 hh).1 (hn g hg)).trans hh, r⟩
/-- Both at once. -/
theorem ux_calls {f : Nat} {p : Option Addr} {c : Int} {w : World} {ags : Array Value} {P : Ending → World → Prop} {k : Int} (hp : Up p c w)
    (hN : p = none → Calls Try.prog f (#[.pointer none] ++ ags) w fun e w' => P e w' ∧ Below w.heap.size w w')
    (hU : ∀ d, p = some ⟨d, 0, none⟩ → Uc w d c → Calls Try.prog f (#[.pointer (some ⟨d, 0, none⟩)] ++ ags) w fun e w' => P e w' ∧ Un d (c + k) w w') :
    Calls Try.prog f (#[.pointer p] ++ ags) w fun e w' => P e w' ∧ Ux p (c + k) w w' := by
  rcases hp with rfl | ⟨d, rfl, hc⟩
  · exact (hN rfl).mono fun e w' h => ⟨h.1, Or.inl ⟨rfl, h.2⟩⟩
  · exact (hU d rfl hc).mono fun e w' h => ⟨h.1, Or.inr ⟨d, rfl, World.block_lt_of_cell? _ _ hc.1, h.2⟩⟩
theorem Y2.ux {b : Nat} {x y : Value} {w w' : World} {p : Option Addr} {c : Int} (h : Y2 b x y w) (hn : Nu b p) (hU : Ux p c w w') : Y2 b x y w' := h.blk (hU.blk h.lt hn)
theorem Ar.set10 {w : World} {v : Value} {n : Nat} {f : Nat → Int} (h : Ar w v n f) (a : Addr) (u : Value) (hn : Nb v a.block) : Ar (w.setCell a u) v n f := by
  obtain ⟨adr, cap, b, o, rfl, h2, h3, h4, h5⟩ := h
  refine ⟨adr, cap, b, o, rfl, h2, h3, h4, fun k hk => ⟨?_, (h5 k hk).2⟩⟩
  have e := h4 (by omega)
  subst e
  exact cell_set (fun e => hn _ n cap rfl (by omega) e.symm) (h5 k hk).1
theorem ux_one {d : Nat} {c : Int} {w w' : World} (h : Ux (some ⟨d, 0, none⟩) c w w') : Un d c w w' := by
  rcases h with ⟨h, -⟩ | ⟨d', h, -, hU⟩
  · cases h
  · cases h; exact hU
theorem ux_nil {c : Int} {w w' : World} (h : Ux none c w w') : Below w.heap.size w w' := by
  rcases h with ⟨-, h⟩ | ⟨d', h, -⟩
  · exact h
  · cases h
theorem axpy_ux (k : Int) (va vb : Value) (n : Nat) (f g : Nat → Int) (k0 : -9223372036854775808 ≤ k) (k1 : k ≤ 9223372036854775807) (hn : n ≤ 65536) (p : Option Addr) (c : Int) (c0 : 0 ≤ c) (c1 : c ≤ 800000000) (w : World) (hA : Ar w va n f) (hB : Ar w vb n g) (ha : Nv va p) (hb : Nv vb p) (hp : Up p c w) :
    Calls Try.prog 23 #[.pointer p, .int .i64 k, va, vb] w fun e w' => (∃ (ad : Option Addr) (cap : Nat), e = .returned (.tuple #[.slice ad n cap, .int .i64 0]) ∧ Ar w' (.slice ad n cap) n (fun i => clv (rnd (k * f i + g i * 4294967296) 32)) ∧ Ow w.heap.size (.slice ad n cap)) ∧ Ux p (c + cntV (fun i => ovv (rnd (k * f i + g i * 4294967296) 32)) n) w w' := by
  have e0 : dE n n = 0 := by unfold dE; rw [if_neg (by omega), if_pos rfl]
  have e1 : ∀ x, cE 0 x = x := fun x => rfl
  have e2 : ∀ x, rr x 32 = rnd x 32 := fun x => by unfold rr; rw [if_neg (by omega)]
  refine ux_calls (ags := #[.int .i64 k, va, vb]) hp (fun _ => (Axpy_nil k va vb n n f g w k0 k1 (by omega) (by omega) hA hB).mono ?_) (fun d e hc => (Axpy_un k va vb n n f g d c w k0 k1 (by omega) (by omega) c0 c1 hA hB (ha d e) (hb d e) hc).mono ?_)
  · rintro e w' ⟨v', h1, h2, h3⟩
    simp only [e0, e2] at h1 h2
    obtain ⟨ad, cap, b, o, rfl, q⟩ := id (h2.1 rfl)
    exact ⟨⟨ad, cap, h1, h2.1 rfl, h2.2.2⟩, h3⟩
  · rintro e w' ⟨v', h1, h2, h3⟩
    simp only [e0, e1, e2] at h1 h2 h3
    obtain ⟨ad, cap, b, o, rfl, q⟩ := id (h2.1 rfl)
    exact ⟨⟨ad, cap, h1, h2.1 rfl, h2.2.2⟩, h3⟩
theorem sub10_ux (va vb : Value) (n m : Nat) (f g : Nat → Int) (hn : n ≤ 70000) (hm : m ≤ 70000) (p : Option Addr) (c : Int) (c0 : 0 ≤ c) (c1 : c ≤ 800000000) (w : World) (hA : Ar w va n f) (hB : Ar w vb m g) (ha : Nv va p) (hb : Nv vb p) (hp : Up p c w) :
    Calls Try.prog 29 #[.pointer p, va, vb] w fun e w' => (∃ v', e = .returned (.tuple #[v', .int .i64 (dE n m)]) ∧ LL w w' v' n (fun i => clv (f i - g i)) (dE n m)) ∧ Ux p (c + cE (dE n m) (cntV (fun i => ovv (f i - g i)) n)) w w' := by
  refine ux_calls (ags := #[va, vb]) hp (fun _ => (Sub_nil va vb n m f g w (by omega) (by omega) hA hB).mono ?_) (fun d e hc => (Sub_un va vb n m f g d c w (by omega) (by omega) c0 c1 hA hB (ha d e) (hb d e) hc).mono ?_)
  · rintro e w' ⟨v', h1, h2, h3⟩
    exact ⟨⟨v', h1, h2⟩, h3⟩
  · rintro e w' ⟨v', h1, h2, h3⟩
    exact ⟨⟨v', h1, h2⟩, h3⟩
end Go.Proofs.Ytfcneciknldohaa
