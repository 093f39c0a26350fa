/-
  Lists in memory, whatever their parts; bytes, bits and words of 32 bits.
-/
import Derived.Test.YtnchmnemclbfcaaProg
import Derived.Test.YtnchmnemclbfcaaCMath3
import Derived.WalkKit
import Derived.WalkSpells
import Derived.WalkLawsBesides
import Derived.Deep.DeepCutAuto
import Derived.Lib.QuietBelow
import Derived.BigQuiet
import Derived.OwnWalk
import Derived.Laws.MakeOwn
import Derived.Laws.Bits64b
import Derived.Maps.AppendAt
import Derived.Deep.RegionHeld3
set_option linter.unusedVariables false
set_option linter.unusedSimpArgs false
namespace Go.Proofs.Ytnchmnemclbfcaa
open Go.RowKit

theorem bel1 (w : World) (o1 : Obj) : Below w.heap.size w (w.alloc o1) := (Below.refl _ _).alloc (Nat.le_refl _) _
theorem bel2 (w : World) (o1 o2 : Obj) : Below w.heap.size w ((w.alloc o1).alloc o2) := (bel1 w o1).alloc (by simp) _
theorem bchain {a b c : World} (h : Below a.heap.size a b) (k : Below b.heap.size b c) : Below a.heap.size a c := h.trans (k.mono h.size)
theorem cell_later {w wx : World} {a : Addr} {v : Value} (hb : Below w.heap.size w wx) (hc : w.cell? a = some v) : wx.cell? a = some v := (hb.cell (World.block_lt_of_cell? _ _ hc)).trans hc
theorem frozen_later {w wx : World} {a : Addr} {v : Value} (hb : Below w.heap.size w wx) (hc : w.cell? a = some v) (h : w.frozen? a = false) : wx.frozen? a = false :=
  (hb.frozen (World.block_lt_of_cell? _ _ hc)).trans h
theorem cell_set {W : World} {p a : Addr} {x v : Value} (hp : p.block ≠ a.block) (h : W.cell? a = some v) : (W.setCell p x).cell? a = some v := by
  rw [World.cell?_setCell_far W p a x hp]; exact h
theorem own_later {wr w1 : World} {B : Nat} {e : TypeId} {s : Nat} {v : Value} {n : Nat} {xs : List Value} (h : wr.ownsRow B e s v n xs) (hb : Below wr.heap.size wr w1) : w1.ownsRow B e s v n xs := by
  refine ⟨h.1, ?_⟩
  rcases h.2 with h0 | ⟨g, cap, cur, hv, hg, hh, r⟩
  · exact Or.inl h0
  · exact Or.inr ⟨g, cap, cur, hv, hg, (hb.block g (Array.getElem?_eq_some_iff.1 hh).1).trans hh, r⟩
/-- A list that the call has made, from a block on. -/
def Ow (base : Nat) (v : Value) : Prop := ∀ (a : Addr) (n cap : Nat), v = .slice (some a) n cap → 0 < n → base ≤ a.block
def Nb (v : Value) (d : Nat) : Prop := ∀ (a : Addr) (n cap : Nat), v = .slice (some a) n cap → 0 < n → a.block ≠ d
theorem Ow.low {B B' : Nat} {v : Value} (h : Ow B v) (hl : B' ≤ B) : Ow B' v := fun a n cap e hn => Nat.le_trans hl (h a n cap e hn)
theorem ow_apart {B d : Nat} {v : Value} (h : Ow B v) (hd : d < B) : Nb v d := fun a n cap e hn e2 => by have := h a n cap e hn; omega
/-- A list in memory, its parts one cell each. -/
def Ls (w : World) (v : Value) (n : Nat) (h : Nat → Value) : Prop :=
  ∃ (adr : Option Addr) (cap b o : Nat), v = .slice adr n cap ∧ n ≤ cap ∧ (cap ≤ maxLen ∧ (adr = none → cap = 0)) ∧ (0 < n → adr = some ⟨b, o, none⟩) ∧ ∀ k, k < n → w.cell? ⟨b, o + k, none⟩ = some (h k)
theorem Ls.later {w w' : World} {v : Value} {n : Nat} {h : Nat → Value} (l : Ls w v n h) (hb : Below w.heap.size w w') : Ls w' v n h := by
  obtain ⟨adr, cap, b, o, h1, h2, h3, h4, h5⟩ := l
  exact ⟨adr, cap, b, o, h1, h2, h3, h4, fun k hk => cell_later hb (h5 k hk)⟩
theorem Ls.congr {w : World} {v : Value} {n : Nat} {h g : Nat → Value} (l : Ls w v n h) (e : ∀ k, k < n → h k = g k) : Ls w v n g := by
  obtain ⟨adr, cap, b, o, h1, h2, h3, h4, h5⟩ := l
  exact ⟨adr, cap, b, o, h1, h2, h3, h4, fun k hk => by rw [h5 k hk, e k hk]⟩
theorem Ls.spot {w : World} {v : Value} {n : Nat} {h : Nat → Value} (l : Ls w v n h) (j : Nat) (hj : j < n) : ∃ (b o cap : Nat), v = .slice (some ⟨b, o, none⟩) n cap ∧ w.cell? ⟨b, o + j, none⟩ = some (h j) := by
  obtain ⟨adr, cap, b, o, h1, h2, h3, h4, h5⟩ := l
  have e := h4 (by omega)
  subst e
  exact ⟨b, o, cap, h1, h5 j hj⟩
theorem Ls.nb {w : World} {v : Value} {n : Nat} {h : Nat → Value} (l : Ls w v n h) {d : Nat} (hd : w.heap.size ≤ d) : Nb v d := by
  obtain ⟨adr, cap, b, o, rfl, h2, h3, h4, h5⟩ := l
  intro a n' cap' e hn
  have e2 := h4 (by cases e; exact hn)
  subst e2
  cases e
  have h6 : b < w.heap.size := World.block_lt_of_cell? _ _ (h5 0 hn)
  show b ≠ d
  omega
theorem Ls.set {w : World} {v : Value} {n : Nat} {h : Nat → Value} (l : Ls w v n h) (a : Addr) (u : Value) (hn : Nb v a.block) : Ls (w.setCell a u) v n h := by
  obtain ⟨adr, cap, b, o, rfl, h2, h3, h4, h5⟩ := l
  refine ⟨adr, cap, b, o, rfl, h2, h3, h4, fun k hk => ?_⟩
  have e := h4 (by omega)
  subst e
  exact cell_set (fun e => hn _ n cap rfl (by omega) e.symm) (h5 k hk)
theorem Ls.len {w : World} {v : Value} {n : Nat} {h : Nat → Value} (l : Ls w v n h) : ∃ (ad : Option Addr) (cap : Nat), v = .slice ad n cap ∧ n ≤ cap ∧ cap ≤ maxLen := by
  obtain ⟨adr, cap, b, o, h1, h2, h3, -⟩ := l
  exact ⟨adr, cap, h1, h2, h3.1⟩
theorem Ls.nil {w : World} {n cap : Nat} {h : Nat → Value} (l : Ls w (.slice none n cap) n h) : n = 0 ∧ cap = 0 := by
  obtain ⟨adr, c, b, o, h1, h2, h3, h4, -⟩ := l
  cases h1
  have := h3.2 rfl
  omega
theorem ls_news {w : World} {a : Addr} {m cap : Nat} {h : Nat → Value} (l : Ls w (.slice (some a) m cap) m h) : ∀ j u, ((List.range m).map h)[j]? = some u → w.cell? (a.add j) = some u := by
  intro j u hj
  have hjm : j < m := by have := (List.getElem?_eq_some_iff.1 hj).1; simpa using this
  rw [List.getElem?_map, List.getElem?_range hjm] at hj
  obtain ⟨b', o', c', e', hc⟩ := l.spot j hjm
  cases e'
  rw [show (⟨b', o', none⟩ : Addr).add j = ⟨b', o' + j, none⟩ by simp [Addr.add], hc]
  exact hj
theorem ls_none (w : World) (h : Nat → Value) : Ls w (.slice none 0 0) 0 h := ⟨none, 0, 0, 0, rfl, Nat.le_refl _, ⟨Nat.zero_le _, fun _ => rfl⟩, fun h => by omega, fun k hk => by omega⟩
/-- So many cells. -/
def vl (h : Nat → Value) (n : Nat) : List Value := (List.range n).map h
theorem vl_succ (h : Nat → Value) (n : Nat) : vl h (n + 1) = vl h n ++ [h n] := by unfold vl; rw [List.range_succ, List.map_append]; rfl
theorem vl_get (h : Nat → Value) (n k : Nat) (hk : k < n) : (vl h n)[k]? = some (h k) := by unfold vl; rw [List.getElem?_map, List.getElem?_range hk]; rfl
theorem vl_len (h : Nat → Value) (n : Nat) : (vl h n).length = n := by unfold vl; simp
theorem vl_one (h : Nat → Value) (n : Nat) (ho : ∀ k, (h k).oneCell' = true) : ∀ u ∈ vl h n, u.oneCell' = true := by
  intro u hu
  unfold vl at hu
  obtain ⟨k, _, rfl⟩ := List.mem_map.1 hu
  exact ho k
theorem vl_add (h : Nat → Value) (n m : Nat) : vl h (n + m) = vl h n ++ vl (fun k => h (n + k)) m := by
  induction m with
  | zero => show vl h n = vl h n ++ []; rw [List.append_nil]
  | succ m ih => rw [← Nat.add_assoc, vl_succ, ih, vl_succ, List.append_assoc]
theorem vl_congr (h g : Nat → Value) (n : Nat) (e : ∀ k, k < n → h k = g k) : vl h n = vl g n := by
  unfold vl
  exact List.map_congr_left fun k hk => e k (List.mem_range.1 hk)
theorem ls_of_own {w : World} {base : Nat} {v : Value} {n : Nat} {h : Nat → Value} {e : TypeId} (r : w.ownsRow base e 1 v n (vl h n)) : Ls w v n h ∧ Ow base v := by
  rcases r.2 with ⟨hn, h0⟩ | ⟨g, cap, cur, hv, hbs, hg, h1, h2, h3⟩
  · subst hn h0
    exact ⟨ls_none w h, fun a n cap e => by cases e⟩
  · subst hv
    refine ⟨⟨some ⟨g, 0, none⟩, cap, g, 0, rfl, h1, ⟨h2, fun e => by cases e⟩, fun _ => rfl, fun k hk => ?_⟩, fun a n' cap' e _ => ?_⟩
    · rw [Nat.zero_add, r.cellAt k (by omega), vl_get h n k hk]
    · cases e; exact hbs
theorem own_succ {W : World} {base : Nat} {e : TypeId} {size : Nat} {v : Value} {k : Nat} {xs : List Value} (h : W.ownsRow base e size v (k + 1) xs) : ∃ g cap, v = .slice (some ⟨g, 0, none⟩) (k + 1) cap := by
  rcases h.2 with ⟨_, h0⟩ | ⟨g, cap, _, rfl, _⟩
  · omega
  · exact ⟨g, cap, rfl⟩
theorem own_sl {W : World} {base : Nat} {e : TypeId} {size : Nat} {v : Value} {k : Nat} {xs : List Value} (h : W.ownsRow base e size v k xs) : ∃ ad cap, v = .slice ad k cap := by
  rcases h.2 with ⟨h1, h0⟩ | ⟨g, cap, _, rfl, _⟩
  · subst h0; exact ⟨_, _, h1⟩
  · exact ⟨_, cap, rfl⟩
/-- What grows stays above. -/
theorem below_grow {w wr w1 : World} {e : TypeId} {s : Nat} {v : Value} {n : Nat} {xs : List Value} {o : Obj} (h : wr.ownsRow w.heap.size e s v n xs) (hW : Below w.heap.size w wr) (hg : (wr.alloc o).grownBy w1 v.ownBlock) : Below w.heap.size w w1 := by
  have hs := hW.size
  exact (hW.alloc (by omega) o).grown hg (by rw [World.size_alloc]; omega) (fun k hk => (h.lt k hk).1)
/-- Bytes, and whole numbers. -/
def by8 (f : Nat → Nat) : Nat → Value := fun k => .int .u8 ((f k : Nat) : Int)
def nt (f : Nat → Nat) : Nat → Value := fun k => .int .i64 ((f k : Nat) : Int)
theorem cell_one (w : World) (x : Value) (t : TypeId) (hx : x.oneCell' = true) : ∀ (j : Nat) (u : Value), [x][j]? = some u → (w.alloc (.cells #[x] t)).cell? ((⟨w.heap.size, 0, none⟩ : Addr).add j) = some u := by
  intro j u hj
  match j with
  | 0 =>
    simp at hj
    subst hj
    simp [go_sem]
  | j + 1 => simp at hj
theorem dinfo_int : (Try.prog.info? 3).map (fun i => (i.zero, i.size, i.bytes)) = some (some (.int .i64 0), 1, 8) := by kernel_rfl
theorem dinfo_byte : (Try.prog.info? 5).map (fun i => (i.zero, i.size, i.bytes)) = some (some (.int .u8 0), 1, 1) := by kernel_rfl
/-- Words of 32 bits. -/
theorem xor32 (a b : Nat) (ha : a < 4294967296) (hb : b < 4294967296) : bits .xor .u32 (a : Int) (b : Int) = ((a ^^^ b : Nat) : Int) := by
  have hx : a ^^^ b < 2 ^ 32 := Nat.xor_lt_two_pow (by omega) (by omega)
  have h1 : (BitVec.ofInt 32 (a : Int)).toNat = a := by
    rw [BitVec.ofInt_natCast, BitVec.toNat_ofNat]; exact Nat.mod_eq_of_lt (by omega)
  have h2 : (BitVec.ofInt 32 (b : Int)).toNat = b := by
    rw [BitVec.ofInt_natCast, BitVec.toNat_ofNat]; exact Nat.mod_eq_of_lt (by omega)
  show IntKind.u32.wrap ((BitVec.ofInt 32 (a : Int) ^^^ BitVec.ofInt 32 (b : Int)).toNat : Int) = _
  rw [BitVec.toNat_xor, h1, h2, IntKind.wrap_u32]
  omega
theorem and32 (a b : Nat) (ha : a < 4294967296) (hb : b < 4294967296) : bits .and .u32 (a : Int) (b : Int) = ((a &&& b : Nat) : Int) := by
  have hx : a &&& b < 2 ^ 32 := Nat.and_lt_two_pow _ (by omega)
  have h1 : (BitVec.ofInt 32 (a : Int)).toNat = a := by
    rw [BitVec.ofInt_natCast, BitVec.toNat_ofNat]; exact Nat.mod_eq_of_lt (by omega)
  have h2 : (BitVec.ofInt 32 (b : Int)).toNat = b := by
    rw [BitVec.ofInt_natCast, BitVec.toNat_ofNat]; exact Nat.mod_eq_of_lt (by omega)
  show IntKind.u32.wrap ((BitVec.ofInt 32 (a : Int) &&& BitVec.ofInt 32 (b : Int)).toNat : Int) = _
  rw [BitVec.toNat_and, h1, h2, IntKind.wrap_u32]
  omega
theorem xor8 (a b : Nat) (ha : a < 256) (hb : b < 256) : bits .xor .u8 (a : Int) (b : Int) = ((a ^^^ b : Nat) : Int) := by
  have hx : a ^^^ b < 2 ^ 8 := Nat.xor_lt_two_pow (by omega) (by omega)
  have h1 : (BitVec.ofInt 8 (a : Int)).toNat = a := by
    rw [BitVec.ofInt_natCast, BitVec.toNat_ofNat]; exact Nat.mod_eq_of_lt (by omega)
  have h2 : (BitVec.ofInt 8 (b : Int)).toNat = b := by
    rw [BitVec.ofInt_natCast, BitVec.toNat_ofNat]; exact Nat.mod_eq_of_lt (by omega)
  show IntKind.u8.wrap ((BitVec.ofInt 8 (a : Int) ^^^ BitVec.ofInt 8 (b : Int)).toNat : Int) = _
  rw [BitVec.toNat_xor, h1, h2, IntKind.wrap_u8]
  omega
theorem and8 (a b : Nat) (ha : a < 256) (hb : b < 256) : bits .and .u8 (a : Int) (b : Int) = ((a &&& b : Nat) : Int) := by
  have hx : a &&& b < 2 ^ 8 := Nat.and_lt_two_pow _ (by omega)
  have h1 : (BitVec.ofInt 8 (a : Int)).toNat = a := by
    rw [BitVec.ofInt_natCast, BitVec.toNat_ofNat]; exact Nat.mod_eq_of_lt (by omega)
  have h2 : (BitVec.ofInt 8 (b : Int)).toNat = b := by
    rw [BitVec.ofInt_natCast, BitVec.toNat_ofNat]; exact Nat.mod_eq_of_lt (by omega)
  show IntKind.u8.wrap ((BitVec.ofInt 8 (a : Int) &&& BitVec.ofInt 8 (b : Int)).toNat : Int) = _
  rw [BitVec.toNat_and, h1, h2, IntKind.wrap_u8]
  omega
end Go.Proofs.Ytnchmnemclbfcaa
