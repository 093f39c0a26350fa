/-
Lists in memory, whatever their parts; bytes, bits and words of 32 bits.
Rows of cells that may be written; what writes into one block alone.
Layer 12's plain numbers: forms as lists of bytes; what is read of them, and what is left.
-/
import Derived.Test.YtkbpcmjdfaokhaaDoorProg
import Derived.Test.YtkbpcmjdfaokhaaDoorZ01
import Derived.WalkKit
import Derived.WalkSpells
import Derived.WalkLawsBesides
import Derived.Deep.DeepCutAuto
import Derived.Lib.QuietBelow
import Derived.BigQuiet
import Derived.OwnWalk
import Derived.Laws.MakeOwn
import Derived.Laws.Bits64b
import Derived.Maps.AppendAt
import Derived.Deep.RegionHeld3

set_option linter.unusedVariables false
set_option linter.unusedSimpArgs false
namespace Go.Proofs.YtkbpcmjdfaokhaaDoor
open Go.RowKit

theorem bel1 (w : World) (o1 : Obj) : Below w.heap.size w (w.alloc o1) := (Below.refl _ _).alloc (Nat.le_refl _) _
theorem bel2 (w : World) (o1 o2 : Obj) : Below w.heap.size w ((w.alloc o1).alloc o2) := (bel1 w o1).alloc (by simp) _
theorem bchain {a b c : World} (h : Below a.heap.size a b) (k : Below b.heap.size b c) : Below a.heap.size a c := h.trans (k.mono h.size)
theorem cell_later {w wx : World} {a : Addr} {v : Value} (hb : Below w.heap.size w wx) (hc : w.cell? a = some v) : wx.cell? a = some v := (hb.cell (World.block_lt_of_cell? _ _ hc)).trans hc
theorem frozen_later {w wx : World} {a : Addr} {v : Value} (hb : Below w.heap.size w wx) (hc : w.cell? a = some v) (h : w.frozen? a = false) : wx.frozen? a = false :=
  (hb.frozen (World.block_lt_of_cell? _ _ hc)).trans h
theorem cell_set {W : World} {p a : Addr} {x v : Value} (hp : p.block ≠ a.block) (h : W.cell? a = some v) : (W.setCell p x).cell? a = some v := by
  rw [World.cell?_setCell_far W p a x hp]; exact h
theorem own_later {wr w1 : World} {B : Nat} {e : TypeId} {s : Nat} {v : Value} {n : Nat} {xs : List Value} (h : wr.ownsRow B e s v n xs) (hb : Below wr.heap.size wr w1) : w1.ownsRow B e s v n xs := by
  refine ⟨h.1, ?_⟩
  rcases h.2 with h0 | ⟨g, cap, cur, hv, hg, hh, r⟩
  · exact Or.inl h0
  · exact Or.inr ⟨g, cap, cur, hv, hg, (hb.block g (Array.getElem?_eq_some_iff.1 hh).1).trans hh, r⟩
/-- A list that the call has made, from a block on. -/
def Ow (base : Nat) (v : Value) : Prop := ∀ (a : Addr) (n cap : Nat), v = .slice (some a) n cap → 0 < n → base ≤ a.block
def Nb (v : Value) (d : Nat) : Prop := ∀ (a : Addr) (n cap : Nat), v = .slice (some a) n cap → 0 < n → a.block ≠ d
theorem Ow.low {B B' : Nat} {v : Value} (h : Ow B v) (hl : B' ≤ B) : Ow B' v := fun a n cap e hn => Nat.le_trans hl (h a n cap e hn)
theorem ow_apart {B d : Nat} {v : Value} (h : Ow B v) (hd : d < B) : Nb v d := fun a n cap e hn e2 => by have := h a n cap e hn; omega
/-- A list in memory, its parts one cell each. -/
def Ls (w : World) (v : Value) (n : Nat) (h : Nat → Value) : Prop :=
  ∃ (adr : Option Addr) (cap b o : Nat), v = .slice adr n cap ∧ n ≤ cap ∧ (cap ≤ maxLen ∧ (adr = none → cap = 0)) ∧ (0 < n → adr = some ⟨b, o, none⟩) ∧ ∀ k, k < n → w.cell? ⟨b, o + k, none⟩ = some (h k)
theorem Ls.later {w w' : World} {v : Value} {n : Nat} {h : Nat → Value} (l : Ls w v n h) (hb : Below w.heap.size w w') : Ls w' v n h := by
  obtain ⟨adr, cap, b, o, h1, h2, h3, h4, h5⟩ := l
  exact ⟨adr, cap, b, o, h1, h2, h3, h4, fun k hk => cell_later hb (h5 k hk)⟩
theorem Ls.congr {w : World} {v : Value} {n : Nat} {h g : Nat → Value} (l : Ls w v n h) (e : ∀ k, k < n → h k = g k) : Ls w v n g := by
  obtain ⟨adr, cap, b, o, h1, h2, h3, h4, h5⟩ := l
  exact ⟨adr, cap, b, o, h1, h2, h3, h4, fun k hk => by rw [h5 k hk, e k hk]⟩
theorem Ls.spot {w : World} {v : Value} {n : Nat} {h : Nat → Value} (l : Ls w v n h) (j : Nat) (hj : j < n) : ∃ (b o cap : Nat), v = .slice (some ⟨b, o, none⟩) n cap ∧ w.cell? ⟨b, o + j, none⟩ = some (h j) := by
  obtain ⟨adr, cap, b, o, h1, h2, h3, h4, h5⟩ := l
  have e := h4 (by omega)
  subst e
  exact ⟨b, o, cap, h1, h5 j hj⟩
theorem Ls.nb {w : World} {v : Value} {n : Nat} {h : Nat → Value} (l : Ls w v n h) {d : Nat} (hd : w.heap.size ≤ d) : Nb v d := by
  obtain ⟨adr, cap, b, o, rfl, h2, h3, h4, h5⟩ := l
  intro a n' cap' e hn
  have e2 := h4 (by cases e; exact hn)
  subst e2
  cases e
  have h6 : b < w.heap.size := World.block_lt_of_cell? _ _ (h5 0 hn)
  show b ≠ d
  omega
theorem Ls.set {w : World} {v : Value} {n : Nat} {h : Nat → Value} (l : Ls w v n h) (a : Addr) (u : Value) (hn : Nb v a.block) : Ls (w.setCell a u) v n h := by
  obtain ⟨adr, cap, b, o, rfl, h2, h3, h4, h5⟩ := l
  refine ⟨adr, cap, b, o, rfl, h2, h3, h4, fun k hk => ?_⟩
  have e := h4 (by omega)
  subst e
  exact cell_set (fun e => hn _ n cap rfl (by omega) e.symm) (h5 k hk)
theorem Ls.len {w : World} {v : Value} {n : Nat} {h : Nat → Value} (l : Ls w v n h) : ∃ (ad : Option Addr) (cap : Nat), v = .slice ad n cap ∧ n ≤ cap ∧ cap ≤ maxLen := by
  obtain ⟨adr, cap, b, o, h1, h2, h3, -⟩ := l
  exact ⟨adr, cap, h1, h2, h3.1⟩
theorem Ls.nil {w : World} {n cap : Nat} {h : Nat → Value} (l : Ls w (.slice none n cap) n h) : n = 0 ∧ cap = 0 := by
  obtain ⟨adr, c, b, o, h1, h2, h3, h4, -⟩ := l
  cases h1
  have := h3.2 rfl
  omega
theorem ls_news {w : World} {a : Addr} {m cap : Nat} {h : Nat → Value} (l : Ls w (.slice (some a) m cap) m h) : ∀ j u, ((List.range m).map h)[j]? = some u → w.cell? (a.add j) = some u := by
  intro j u hj
  have hjm : j < m := by have := (List.getElem?_eq_some_iff.1 hj).1; simpa using this
  rw [List.getElem?_map, List.getElem?_range hjm] at hj
  obtain ⟨b', o', c', e', hc⟩ := l.spot j hjm
  cases e'
  rw [show (⟨b', o', none⟩ : Addr).add j = ⟨b', o' + j, none⟩ by simp [Addr.add], hc]
  exact hj
theorem ls_none (w : World) (h : Nat → Value) : Ls w (.slice none 0 0) 0 h := ⟨none, 0, 0, 0, rfl, Nat.le_refl _, ⟨Nat.zero_le _, fun _ => rfl⟩, fun h => by omega, fun k hk => by omega⟩
/-- So many cells. -/
def vl (h : Nat → Value) (n : Nat) : List Value := (List.range n).map h
theorem vl_succ (h : Nat → Value) (n : Nat) : vl h (n + 1) = vl h n ++ [h n] := by unfold vl; rw [List.range_succ, List.map_append]; rfl
theorem vl_get (h : Nat → Value) (n k : Nat) (hk : k < n) : (vl h n)[k]? = some (h k) := by unfold vl; rw [List.getElem?_map, List.getElem?_range hk]; rfl
theorem vl_len (h : Nat → Value) (n : Nat) : (vl h n).length = n := by unfold vl; simp
theorem vl_one (h : Nat → Value) (n : Nat) (ho : ∀ k, (h k).oneCell' = true) : ∀ u ∈ vl h n, u.oneCell' = true := by
  intro u hu
  unfold vl at hu
  obtain ⟨k, _, rfl⟩ := List.mem_map.1 hu
  exact ho k
theorem vl_add (h : Nat → Value) (n m : Nat) : vl h (n + m) = vl h n ++ vl (fun k => h (n + k)) m := by
  induction m with
  | zero => show vl h n = vl h n ++ []; rw [List.append_nil]
  | succ m ih => rw [← Nat.add_assoc, vl_succ, ih, vl_succ, List.append_assoc]
theorem vl_congr (h g : Nat → Value) (n : Nat) (e : ∀ k, k < n → h k = g k) : vl h n = vl g n := by
  unfold vl
  exact List.map_congr_left fun k hk => e k (List.mem_range.1 hk)
theorem ls_of_own {w : World} {base : Nat} {v : Value} {n : Nat} {h : Nat → Value} {e : TypeId} (r : w.ownsRow base e 1 v n (vl h n)) : Ls w v n h ∧ Ow base v := by
  rcases r.2 with ⟨hn, h0⟩ | ⟨g, cap, cur, hv, hbs, hg, h1, h2, h3⟩
  · subst hn h0
    exact ⟨ls_none w h, fun a n cap e => by cases e⟩
  · subst hv
    refine ⟨⟨some ⟨g, 0, none⟩, cap, g, 0, rfl, h1, ⟨h2, fun e => by cases e⟩, fun _ => rfl, fun k hk => ?_⟩, fun a n' cap' e _ => ?_⟩
    · rw [Nat.zero_add, r.cellAt k (by omega), vl_get h n k hk]
    · cases e; exact hbs
theorem own_succ {W : World} {base : Nat} {e : TypeId} {size : Nat} {v : Value} {k : Nat} {xs : List Value} (h : W.ownsRow base e size v (k + 1) xs) : ∃ g cap, v = .slice (some ⟨g, 0, none⟩) (k + 1) cap := by
  rcases h.2 with ⟨_, h0⟩ | ⟨g, cap, _, rfl, _⟩
  · omega
  · exact ⟨g, cap, rfl⟩
theorem own_sl {W : World} {base : Nat} {e : TypeId} {size : Nat} {v : Value} {k : Nat} {xs : List Value} (h : W.ownsRow base e size v k xs) : ∃ ad cap, v = .slice ad k cap := by
  rcases h.2 with ⟨h1, h0⟩ | ⟨g, cap, _, rfl, _⟩
  · subst h0; exact ⟨_, _, h1⟩
  · exact ⟨_, cap, rfl⟩
/-- What grows stays above. -/
theorem below_grow {w wr w1 : World} {e : TypeId} {s : Nat} {v : Value} {n : Nat} {xs : List Value} {o : Obj} (h : wr.ownsRow w.heap.size e s v n xs) (hW : Below w.heap.size w wr) (hg : (wr.alloc o).grownBy w1 v.ownBlock) : Below w.heap.size w w1 := by
  have hs := hW.size
  exact (hW.alloc (by omega) o).grown hg (by rw [World.size_alloc]; omega) (fun k hk => (h.lt k hk).1)
/-- Bytes, and whole numbers. -/
def by8 (f : Nat → Nat) : Nat → Value := fun k => .int .u8 ((f k : Nat) : Int)
def nt (f : Nat → Nat) : Nat → Value := fun k => .int .i64 ((f k : Nat) : Int)
theorem cell_one (w : World) (x : Value) (t : TypeId) (hx : x.oneCell' = true) : ∀ (j : Nat) (u : Value), [x][j]? = some u → (w.alloc (.cells #[x] t)).cell? ((⟨w.heap.size, 0, none⟩ : Addr).add j) = some u := by
  intro j u hj
  match j with
  | 0 =>
    simp at hj
    subst hj
    simp [go_sem]
  | j + 1 => simp at hj
theorem dinfo_int : (Tryd.prog.info? 3).map (fun i => (i.zero, i.size, i.bytes)) = some (some (.int .i64 0), 1, 8) := by kernel_rfl
theorem dinfo_byte : (Tryd.prog.info? 5).map (fun i => (i.zero, i.size, i.bytes)) = some (some (.int .u8 0), 1, 1) := by kernel_rfl
/-- Words of 32 bits. -/
theorem xor32 (a b : Nat) (ha : a < 4294967296) (hb : b < 4294967296) : bits .xor .u32 (a : Int) (b : Int) = ((a ^^^ b : Nat) : Int) := by
  have hx : a ^^^ b < 2 ^ 32 := Nat.xor_lt_two_pow (by omega) (by omega)
  have h1 : (BitVec.ofInt 32 (a : Int)).toNat = a := by
    rw [BitVec.ofInt_natCast, BitVec.toNat_ofNat]; exact Nat.mod_eq_of_lt (by omega)
  have h2 : (BitVec.ofInt 32 (b : Int)).toNat = b := by
    rw [BitVec.ofInt_natCast, BitVec.toNat_ofNat]; exact Nat.mod_eq_of_lt (by omega)
  show IntKind.u32.wrap ((BitVec.ofInt 32 (a : Int) ^^^ BitVec.ofInt 32 (b : Int)).toNat : Int) = _
  rw [BitVec.toNat_xor, h1, h2, IntKind.wrap_u32]
  omega
theorem and32 (a b : Nat) (ha : a < 4294967296) (hb : b < 4294967296) : bits .and .u32 (a : Int) (b : Int) = ((a &&& b : Nat) : Int) := by
  have hx : a &&& b < 2 ^ 32 := Nat.and_lt_two_pow _ (by omega)
  have h1 : (BitVec.ofInt 32 (a : Int)).toNat = a := by
    rw [BitVec.ofInt_natCast, BitVec.toNat_ofNat]; exact Nat.mod_eq_of_lt (by omega)
  have h2 : (BitVec.ofInt 32 (b : Int)).toNat = b := by
    rw [BitVec.ofInt_natCast, BitVec.toNat_ofNat]; exact Nat.mod_eq_of_lt (by omega)
  show IntKind.u32.wrap ((BitVec.ofInt 32 (a : Int) &&& BitVec.ofInt 32 (b : Int)).toNat : Int) = _
  rw [BitVec.toNat_and, h1, h2, IntKind.wrap_u32]
  omega
theorem xor8 (a b : Nat) (ha : a < 256) (hb : b < 256) : bits .xor .u8 (a : Int) (b : Int) = ((a ^^^ b : Nat) : Int) := by
  have hx : a ^^^ b < 2 ^ 8 := Nat.xor_lt_two_pow (by omega) (by omega)
  have h1 : (BitVec.ofInt 8 (a : Int)).toNat = a := by
    rw [BitVec.ofInt_natCast, BitVec.toNat_ofNat]; exact Nat.mod_eq_of_lt (by omega)
  have h2 : (BitVec.ofInt 8 (b : Int)).toNat = b := by
    rw [BitVec.ofInt_natCast, BitVec.toNat_ofNat]; exact Nat.mod_eq_of_lt (by omega)
  show IntKind.u8.wrap ((BitVec.ofInt 8 (a : Int) ^^^ BitVec.ofInt 8 (b : Int)).toNat : Int) = _
  rw [BitVec.toNat_xor, h1, h2, IntKind.wrap_u8]
  omega
theorem and8 (a b : Nat) (ha : a < 256) (hb : b < 256) : bits .and .u8 (a : Int) (b : Int) = ((a &&& b : Nat) : Int) := by
  have hx : a &&& b < 2 ^ 8 := Nat.and_lt_two_pow _ (by omega)
  have h1 : (BitVec.ofInt 8 (a : Int)).toNat = a := by
    rw [BitVec.ofInt_natCast, BitVec.toNat_ofNat]; exact Nat.mod_eq_of_lt (by omega)
  have h2 : (BitVec.ofInt 8 (b : Int)).toNat = b := by
    rw [BitVec.ofInt_natCast, BitVec.toNat_ofNat]; exact Nat.mod_eq_of_lt (by omega)
  show IntKind.u8.wrap ((BitVec.ofInt 8 (a : Int) &&& BitVec.ofInt 8 (b : Int)).toNat : Int) = _
  rw [BitVec.toNat_and, h1, h2, IntKind.wrap_u8]
  omega
end Go.Proofs.YtkbpcmjdfaokhaaDoor
set_option linter.unusedVariables false
set_option linter.unusedSimpArgs false
namespace Go.Proofs.YtkbpcmjdfaokhaaDoor
open Go.RowKit

/-- A row of so many cells. -/
structure Rw (b n : Nat) (h : Nat → Value) (w : World) : Prop where
  c : ∀ k, k < n → w.cell? ⟨b, k, none⟩ = some (h k)
  f : ∀ k, k < n → w.frozen? ⟨b, k, none⟩ = false
theorem Rw.later {b n : Nat} {h : Nat → Value} {w w' : World} (r : Rw b n h w) (hb : Below w.heap.size w w') : Rw b n h w' :=
  ⟨fun k hk => cell_later hb (r.c k hk), fun k hk => frozen_later hb (r.c k hk) (r.f k hk)⟩
theorem Rw.block {b n : Nat} {h : Nat → Value} {w w' : World} (r : Rw b n h w) (hb : w'.heap[b]? = w.heap[b]?) : Rw b n h w' :=
  ⟨fun k hk => (World.cell?_of_block (w := w) hb).trans (r.c k hk), fun k hk => (World.frozen?_of_block (w := w) hb).trans (r.f k hk)⟩
theorem Rw.far {b n : Nat} {h : Nat → Value} {w : World} {p : Addr} (r : Rw b n h w) (u : Value) (hp : p.block ≠ b) : Rw b n h (w.setCell p u) :=
  ⟨fun k hk => cell_set hp (r.c k hk), fun k hk => by rw [World.frozen?_setCell]; exact r.f k hk⟩
theorem Rw.set {b n : Nat} {h : Nat → Value} {w : World} (r : Rw b n h w) (j : Nat) (u : Value) : Rw b n (fun k => if k = j then u else h k) (w.setCell ⟨b, j, none⟩ u) := by
  refine ⟨fun k hk => ?_, fun k hk => by rw [World.frozen?_setCell]; exact r.f k hk⟩
  by_cases e : k = j
  · subst e
    simp only [if_true]
    exact World.cell?_setCell_same' _ _ _ (by rw [r.c k hk]; rfl)
  · simp only [if_neg e]
    exact (World.cell?_setCell_other _ _ _ _ (by first | (simp; done) | (simp; omega))).trans (r.c k hk)
theorem Rw.congr {b n : Nat} {h g : Nat → Value} {w : World} (r : Rw b n h w) (e : ∀ k, k < n → h k = g k) : Rw b n g w :=
  ⟨fun k hk => by rw [r.c k hk, e k hk], r.f⟩
theorem made_get (z : Value) (n k : Nat) (hk : k < n) : (madeCells #[z] n)[k]? = some z := by
  unfold madeCells
  rw [Array.getElem?_map, Array.getElem?_eq_getElem (by simpa using hk)]
  simp [Nat.mod_one]
theorem Rw.made (w : World) (z : Value) (n : Nat) (t : TypeId) : Rw w.heap.size n (fun _ => z) (w.alloc (.cells (madeCells #[z] n) t)) := by
  refine ⟨fun k hk => ?_, fun k hk => ?_⟩
  · have := made_get z n k hk
    simp [go_sem, this]
  · simp [go_sem]
theorem own_row {w : World} {base : Nat} {e : TypeId} {v : Value} {n : Nat} {h : Nat → Value} (r : w.ownsRow base e 1 v n (vl h n)) (hn : 0 < n) : ∃ g cap, v = .slice (some ⟨g, 0, none⟩) n cap ∧ base ≤ g ∧ n ≤ cap ∧ cap ≤ maxLen ∧ Rw g n h w := by
  rcases r.2 with ⟨_, h0⟩ | ⟨g, cap, cur, rfl, hg, hh, hc1, hc2, hsz, htk⟩
  · omega
  · refine ⟨g, cap, rfl, hg, hc1, hc2, ⟨fun k hk => ?_, fun k hk => by simp [World.frozen?, hh]⟩⟩
    rw [r.cellAt k (by omega), vl_get h n k hk]
theorem Rw.lt {b n : Nat} {h : Nat → Value} {w : World} (r : Rw b n h w) (hn : 0 < n) : b < w.heap.size := World.block_lt_of_cell? _ _ (r.c 0 hn)
theorem Rw.ls {g n : Nat} {h : Nat → Value} {w : World} (r : Rw g n h w) (o m cap : Nat) (hm : o + m ≤ n) (hc : m ≤ cap) (hx : cap ≤ maxLen) : Ls w (.slice (some ⟨g, o, none⟩) m cap) m (fun k => h (o + k)) := ⟨_, cap, g, o, rfl, hc, ⟨hx, fun e => by cases e⟩, fun _ => rfl, fun k hk => r.c (o + k) (by omega)⟩
/-- From a world to one in which one block alone was written. -/
structure Wr (b : Nat) (w w' : World) : Prop where
  o : ∀ i, i ≠ b → w'.heap[i]? = w.heap[i]?
  s : w'.heap.size = w.heap.size
  B : ∀ (base : Nat) (w0 : World), base ≤ b → Below base w0 w → Below base w0 w'
theorem Wr.same (b : Nat) (w : World) : Wr b w w := ⟨fun _ _ => rfl, rfl, fun _ _ _ h => h⟩
theorem Wr.set {b : Nat} {w w' : World} (h : Wr b w w') (j : Nat) (u : Value) : Wr b w (w'.setCell ⟨b, j, none⟩ u) :=
  ⟨fun i hi => (Below.heap_setCell _ _ _ _ hi).trans (h.o i hi), by rw [World.size_setCell]; exact h.s, fun base w0 h1 h2 => (h.B base w0 h1 h2).setCell (by dsimp only; omega) u⟩
theorem Wr.cell {b : Nat} {w w' : World} (h : Wr b w w') {a : Addr} {v : Value} (hn : a.block ≠ b) (hc : w.cell? a = some v) : w'.cell? a = some v := (World.cell?_of_block (w := w) (h.o _ hn)).trans hc
theorem Ls.wr {b : Nat} {w w' : World} {v : Value} {n : Nat} {h : Nat → Value} (l : Ls w v n h) (hW : Wr b w w') (hn : Nb v b) : Ls w' v n h := by
  obtain ⟨adr, cap, q, o, rfl, h2, h3, h4, h5⟩ := l
  refine ⟨adr, cap, q, o, rfl, h2, h3, h4, fun k hk => ?_⟩
  have e := h4 (by omega)
  subst e
  exact hW.cell (hn ⟨q, o, none⟩ n cap rfl (by omega)) (h5 k hk)
theorem nt_set {g n : Nat} {F : Nat → Nat} {w : World} (r : Rw g n (nt F) w) (j x : Nat) : Rw g n (nt (fun k => if k = j then x else F k)) (w.setCell ⟨g, j, none⟩ (.int .i64 (x : Int))) := by
  refine (r.set j (.int .i64 (x : Int))).congr (fun k hk => ?_)
  unfold nt
  by_cases e : k = j
  · simp [e]
  · simp [e]
theorem nt_congr {g n : Nat} {F G : Nat → Nat} {w : World} (r : Rw g n (nt F) w) (e : ∀ k, k < n → F k = G k) : Rw g n (nt G) w := r.congr (fun k hk => by unfold nt; rw [e k hk])
end Go.Proofs.YtkbpcmjdfaokhaaDoor
set_option linter.unusedVariables false
namespace Go.Proofs.YtkbpcmjdfaokhaaDoor

/-- A count's form. -/
def enU (n : Nat) : List Nat := if h : n < 128 then [n] else (n % 128 + 128) :: enU (n / 128)
termination_by n
decreasing_by omega
theorem enU_lt {n : Nat} (h : n < 128) : enU n = [n] := by rw [enU, dif_pos h]
theorem enU_ge {n : Nat} (h : 128 ≤ n) : enU n = (n % 128 + 128) :: enU (n / 128) := by rw [enU, dif_neg (by omega)]
/-- A whole number as a count, and back. -/
def ctI (n : Int) : Nat := if n < 0 then (2 * (-(n + 1)) + 1).toNat else (2 * n).toNat
def ofC (n : Nat) : Int := if n % 2 = 1 then -((n / 2 : Nat) : Int) - 1 else ((n / 2 : Nat) : Int)
theorem ofC_ct (n : Int) : ofC (ctI n) = n := by
  unfold ofC ctI
  by_cases h : n < 0
  · rw [if_pos h, if_pos (by omega)]; omega
  · rw [if_neg h, if_neg (by omega)]; omega
theorem ct_ofC (n : Nat) : ctI (ofC n) = n := by
  unfold ofC ctI
  by_cases h : n % 2 = 1
  · rw [if_pos h, if_pos (by omega)]; omega
  · rw [if_neg h, if_neg (by omega)]; omega
theorem ctI_lt {n : Int} (h1 : -9223372036854775808 ≤ n) (h2 : n ≤ 9223372036854775807) : ctI n < 18446744073709551616 := by
  unfold ctI
  split <;> omega
theorem ofC_bd {n : Nat} (h : n < 18446744073709551616) : -9223372036854775808 ≤ ofC n ∧ ofC n ≤ 9223372036854775807 := by
  unfold ofC
  split <;> omega
/-- So many bytes of a number, the lowest first, and back. -/
def enN (n : Nat) : Nat → List Nat
  | 0 => []
  | k + 1 => n % 256 :: enN (n / 256) k
def deN : List Nat → Nat
  | [] => 0
  | c :: t => c + 256 * deN t
theorem enN_len (n k : Nat) : (enN n k).length = k := by
  induction k generalizing n with
  | zero => rfl
  | succ k ih => simp [enN, ih]
theorem enN_byte (n k : Nat) : ∀ c ∈ enN n k, c < 256 := by
  induction k generalizing n with
  | zero => intro c hc; cases hc
  | succ k ih =>
    intro c hc
    simp only [enN, List.mem_cons] at hc
    rcases hc with rfl | hc
    · omega
    · exact ih _ c hc
theorem de_en (k : Nat) : ∀ n, n < 256 ^ k → deN (enN n k) = n := by
  induction k with
  | zero => intro n h; simp at h; simp [enN, deN, h]
  | succ k ih =>
    intro n h
    have h2 : n / 256 < 256 ^ k := Nat.div_lt_of_lt_mul (by rw [Nat.pow_succ] at h; omega)
    simp only [enN, deN, ih _ h2]
    omega
theorem en_de : ∀ l : List Nat, (∀ c ∈ l, c < 256) → enN (deN l) l.length = l := by
  intro l
  induction l with
  | nil => intro _; rfl
  | cons c t ih =>
    intro h
    have hc := h c (by simp)
    have ht := ih (fun x hx => h x (by simp [hx]))
    show enN (c + 256 * deN t) (t.length + 1) = c :: t
    simp only [enN]
    rw [show (c + 256 * deN t) % 256 = c by omega, show (c + 256 * deN t) / 256 = deN t by omega, ht]
theorem deN_lt : ∀ l : List Nat, (∀ c ∈ l, c < 256) → deN l < 256 ^ l.length := by
  intro l
  induction l with
  | nil => intro _; simp [deN]
  | cons c t ih =>
    intro h
    have hc := h c (by simp)
    have ht := ih (fun x hx => h x (by simp [hx]))
    show c + 256 * deN t < 256 ^ (t.length + 1)
    rw [Nat.pow_succ]
    omega
/-- A Fix as eight bytes: a number below 0 as 2^64 more. -/
def u64 (x : Int) : Nat := if x < 0 then (x + 18446744073709551616).toNat else x.toNat
def s64 (n : Nat) : Int := if n < 9223372036854775808 then (n : Int) else (n : Int) - 18446744073709551616
theorem s64_u {x : Int} (h1 : -9223372036854775808 ≤ x) (h2 : x ≤ 9223372036854775807) : s64 (u64 x) = x := by
  unfold s64 u64
  by_cases h : x < 0
  · rw [if_pos h, if_neg (by omega)]; omega
  · rw [if_neg h, if_pos (by omega)]; omega
theorem u64_s {n : Nat} (h : n < 18446744073709551616) : u64 (s64 n) = n := by
  unfold s64 u64
  by_cases h2 : n < 9223372036854775808
  · rw [if_pos h2, if_neg (by omega)]; omega
  · rw [if_neg h2, if_pos (by omega)]; omega
theorem u64_lt {x : Int} (h1 : -9223372036854775808 ≤ x) (h2 : x ≤ 9223372036854775807) : u64 x < 18446744073709551616 := by
  unfold u64; split <;> omega
theorem s64_bd {n : Nat} (h : n < 18446744073709551616) : -9223372036854775808 ≤ s64 n ∧ s64 n ≤ 9223372036854775807 := by
  unfold s64; split <;> omega
def enF (x : Int) : List Nat := enN (u64 x) 8
def enI (n : Int) : List Nat := enU (ctI n)
theorem enU_byte (n : Nat) : ∀ c ∈ enU n, c < 256 := by
  induction n using Nat.strongRecOn with
  | ind n ih =>
    by_cases h : n < 128
    · rw [enU_lt h]; intro c hc; simp at hc; omega
    · rw [enU_ge (by omega)]
      intro c hc
      simp only [List.mem_cons] at hc
      rcases hc with rfl | hc
      · omega
      · exact ih (n / 128) (by omega) c hc
theorem enU_pos (n : Nat) : 0 < (enU n).length := by
  by_cases h : n < 128
  · rw [enU_lt h]; simp
  · rw [enU_ge (by omega)]; simp
theorem enU_len : ∀ (k n : Nat), n < 128 ^ k → 0 < k → (enU n).length ≤ k := by
  intro k
  induction k with
  | zero => intro n h hk; omega
  | succ k ih =>
    intro n h hk
    by_cases h1 : n < 128
    · rw [enU_lt h1]; simp
    · rw [enU_ge (by omega)]
      have hk2 : 0 < k := by
        rcases Nat.eq_zero_or_pos k with rfl | q
        · simp at h; omega
        · exact q
      have := ih (n / 128) (Nat.div_lt_of_lt_mul (by rw [Nat.pow_succ] at h; omega)) hk2
      simp
      omega
theorem enU_ten {n : Nat} (h : n < 18446744073709551616) : (enU n).length ≤ 10 := enU_len 10 n (Nat.lt_of_lt_of_le h (by decide)) (by omega)
/-- A count, read: so many bytes of it have come. -/
def rdU : List Nat → Nat → Nat → Except Nat (Nat × List Nat)
  | [], _, _ => .error 120
  | c :: t, k, a => if k = 9 ∧ 1 < c then .error 121 else if c < 128 then (if c = 0 ∧ 0 < k then .error 121 else .ok (a + c % 128 * 2 ^ (7 * k), t)) else rdU t (k + 1) (a + c % 128 * 2 ^ (7 * k))
def rU (l : List Nat) : Except Nat (Nat × List Nat) := rdU l 0 0
theorem rd_en : ∀ (n k a : Nat) (t : List Nat), k ≤ 9 → n < 2 ^ (64 - 7 * k) → (0 < k → 0 < n) → rdU (enU n ++ t) k a = .ok (a + n * 2 ^ (7 * k), t) := by
  intro n
  induction n using Nat.strongRecOn with
  | ind n ih =>
    intro k a t hk hn h0
    have h9 : k = 9 → n < 2 := by
      intro e
      subst e
      exact hn
    by_cases h : n < 128
    · rw [enU_lt h]
      show rdU (n :: t) k a = _
      unfold rdU
      rw [if_neg (by intro ⟨e, e2⟩; have := h9 e; omega), if_pos h, if_neg (by intro ⟨e, e2⟩; have := h0 e2; omega), Nat.mod_eq_of_lt h]
    · have hk8 : k ≤ 8 := by
        rcases Nat.lt_or_ge k 9 with q | q
        · omega
        · have := h9 (by omega); omega
      rw [enU_ge (by omega)]
      show rdU ((n % 128 + 128) :: (enU (n / 128) ++ t)) k a = _
      unfold rdU
      have hp : 2 ^ (64 - 7 * k) = 128 * 2 ^ (64 - 7 * (k + 1)) := by
        rw [show 64 - 7 * k = 7 + (64 - 7 * (k + 1)) by omega, Nat.pow_add]
      rw [if_neg (by omega), if_neg (by omega), ih (n / 128) (by omega) (k + 1) _ t (by omega) (Nat.div_lt_of_lt_mul (by rw [← hp]; exact hn)) (fun _ => by omega)]
      congr 2
      have e1 : (n % 128 + 128) % 128 = n % 128 := by omega
      rw [e1, show 7 * (k + 1) = 7 + 7 * k by omega, Nat.pow_add, ← Nat.mul_assoc, Nat.add_assoc, ← Nat.add_mul]
      congr 2
      omega
theorem rU_en {n : Nat} (h : n < 18446744073709551616) (t : List Nat) : rU (enU n ++ t) = .ok (n, t) := by
  have := rd_en n 0 0 t (by omega) h (fun h => by omega)
  simpa [rU] using this
theorem en_rd : ∀ (l : List Nat) (k a n : Nat) (t : List Nat), k ≤ 9 → (∀ c ∈ l, c < 256) → rdU l k a = .ok (n, t) → ∃ m, n = a + m * 2 ^ (7 * k) ∧ l = enU m ++ t ∧ (0 < k → 0 < m) ∧ m < 2 ^ (64 - 7 * k) := by
  intro l
  induction l with
  | nil => intro k a n t hk hb h; cases h
  | cons c l ih =>
    intro k a n t hk hb h
    have hc := hb c (by simp)
    unfold rdU at h
    by_cases h1 : k = 9 ∧ 1 < c
    · rw [if_pos h1] at h; cases h
    · rw [if_neg h1] at h
      by_cases h2 : c < 128
      · rw [if_pos h2] at h
        by_cases h3 : c = 0 ∧ 0 < k
        · rw [if_pos h3] at h; cases h
        · rw [if_neg h3] at h
          cases h
          rw [Nat.mod_eq_of_lt h2]
          refine ⟨c, rfl, by rw [enU_lt h2]; rfl, fun q => by omega, ?_⟩
          by_cases h4 : k = 9
          · subst h4
            show c < 2
            omega
          · have : 2 ^ 8 ≤ 2 ^ (64 - 7 * k) := Nat.pow_le_pow_right (by omega) (by omega)
            omega
      · rw [if_neg h2] at h
        have hk8 : k + 1 ≤ 9 := by omega
        obtain ⟨m, e1, e2, e3, e4⟩ := ih (k + 1) _ n t hk8 (fun x hx => hb x (by simp [hx])) h
        have hm := e3 (by omega)
        have hp : 2 ^ (64 - 7 * k) = 128 * 2 ^ (64 - 7 * (k + 1)) := by
          rw [show 64 - 7 * k = 7 + (64 - 7 * (k + 1)) by omega, Nat.pow_add]
        refine ⟨c % 128 + 128 * m, ?_, ?_, fun _ => by omega, ?_⟩
        · rw [e1, show 7 * (k + 1) = 7 + 7 * k by omega, Nat.pow_add, Nat.add_mul, Nat.add_assoc]
          congr 2
          rw [Nat.mul_comm 128 m, Nat.mul_assoc]
        · rw [enU_ge (by omega), show (c % 128 + 128 * m) / 128 = m by omega, show (c % 128 + 128 * m) % 128 + 128 = c by omega, e2]
          rfl
        · rw [hp]
          omega
theorem en_rU {l : List Nat} {n : Nat} {t : List Nat} (hb : ∀ c ∈ l, c < 256) (h : rU l = .ok (n, t)) : l = enU n ++ t ∧ n < 18446744073709551616 := by
  obtain ⟨m, e1, e2, -, e4⟩ := en_rd l 0 0 n t (by omega) hb h
  have e : n = m := by simpa using e1
  subst e
  exact ⟨e2, e4⟩
/-- Cut off within a count bytes lack. -/
theorem rd_cut : ∀ (n k a : Nat) (q : List Nat), k ≤ 9 → n < 2 ^ (64 - 7 * k) → q.length < (enU n).length → q <+: enU n → rdU q k a = .error 120 := by
  intro n
  induction n using Nat.strongRecOn with
  | ind n ih =>
    intro k a q hk hn hl hq
    match q, hl, hq with
    | [], _, _ => rfl
    | c :: q, hl, hq =>
      have h : ¬ n < 128 := by
        intro h
        rw [enU_lt h] at hl
        simp at hl
      rw [enU_ge (by omega)] at hl hq
      obtain ⟨e1, e2⟩ := List.cons_prefix_cons.1 hq
      subst e1
      have h9 : k = 9 → n < 2 := by
        intro e
        subst e
        exact hn
      have hk8 : k ≤ 8 := by
        rcases Nat.lt_or_ge k 9 with q | q
        · omega
        · have := h9 (by omega); omega
      have hp : 2 ^ (64 - 7 * k) = 128 * 2 ^ (64 - 7 * (k + 1)) := by
        rw [show 64 - 7 * k = 7 + (64 - 7 * (k + 1)) by omega, Nat.pow_add]
      unfold rdU
      rw [if_neg (by omega), if_neg (by omega)]
      exact ih (n / 128) (by omega) (k + 1) _ q (by omega) (Nat.div_lt_of_lt_mul (by rw [← hp]; exact hn)) (by simpa using hl) e2
theorem rd_err : ∀ (l : List Nat) (k a e : Nat), rdU l k a = .error e → e = 120 ∨ e = 121 := by
  intro l
  induction l with
  | nil => intro k a e h; cases h; exact Or.inl rfl
  | cons c l ih =>
    intro k a e h
    unfold rdU at h
    split at h
    · cases h; exact Or.inr rfl
    · split at h
      · split at h
        · cases h; exact Or.inr rfl
        · cases h
      · exact ih _ _ _ h
theorem rd_len : ∀ (l : List Nat) (k a n : Nat) (t : List Nat), rdU l k a = .ok (n, t) → ∃ d, 0 < d ∧ d ≤ l.length ∧ t = l.drop d := by
  intro l
  induction l with
  | nil => intro k a n t h; cases h
  | cons c l ih =>
    intro k a n t h
    unfold rdU at h
    split at h
    · cases h
    · split at h
      · split at h
        · cases h
        · cases h; exact ⟨1, by omega, by simp, rfl⟩
      · obtain ⟨d, h1, h2, h3⟩ := ih _ _ _ _ h
        exact ⟨d + 1, by omega, by simp; omega, by rw [h3]; rfl⟩
end Go.Proofs.YtkbpcmjdfaokhaaDoor
