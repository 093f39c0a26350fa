/-
  Texts of this proof, joined: CMath CMath2 CMath3 CBase CRow PkMath PkMath2 PkBase.
-/
import Derived.Test.YthnpdcblfocemaaGreatDoorProg
import Derived.WalkKit
import Derived.WalkSpells
import Derived.WalkLawsBesides
import Derived.Deep.DeepCutAuto
import Derived.Lib.QuietBelow
import Derived.BigQuiet
import Derived.OwnWalk
import Derived.Laws.MakeOwn
import Derived.Laws.Bits64b
import Derived.Maps.AppendAt
import Derived.Deep.RegionHeld3
import Derived.Laws.AppendOwnNone
set_option linter.unusedVariables false
namespace Go.Proofs.YthnpdcblfocemaaGreatDoor

theorem xm2 (a b : Nat) : (a ^^^ b) % 2 = (a + b) % 2 := by
  have h := @Nat.xor_mod_two_eq_one a b
  by_cases ha : a % 2 = 1
  · by_cases hb : b % 2 = 1
    · have : ¬ (a ^^^ b) % 2 = 1 := fun e => (h.1 e) ⟨fun _ => hb, fun _ => ha⟩
      omega
    · have : (a ^^^ b) % 2 = 1 := h.2 (fun e => hb (e.1 ha))
      omega
  · by_cases hb : b % 2 = 1
    · have : (a ^^^ b) % 2 = 1 := h.2 (fun e => ha (e.2 hb))
      omega
    · have : ¬ (a ^^^ b) % 2 = 1 := fun e => (h.1 e) ⟨fun x => absurd x ha, fun x => absurd x hb⟩
      omega
def cP : Nat := 3988292384
def cZ (r : Nat) : Nat := if r % 2 = 1 then (r / 2) ^^^ cP else r / 2
def cZs : Nat → Nat → Nat
  | 0, r => r
  | k + 1, r => cZs k (cZ r)
def cB (r b : Nat) : Nat := cZ (r ^^^ b)
def cR (t : Nat → Nat) (r : Nat) : Nat → Nat
  | 0 => r
  | i + 1 => cB (cR t r i) (t i)
theorem cZ_xor (a b : Nat) : cZ (a ^^^ b) = cZ a ^^^ cZ b := by
  have h1 : (a ^^^ b) / 2 = a / 2 ^^^ b / 2 := Nat.xor_div_two
  have h2 : (a ^^^ b) % 2 = (a + b) % 2 := xm2 _ _
  unfold cZ
  rw [h1, h2]
  by_cases ha : a % 2 = 1
  · by_cases hb : b % 2 = 1
    · rw [if_neg (by omega), if_pos ha, if_pos hb]
      rw [Nat.xor_assoc, Nat.xor_comm cP, Nat.xor_assoc, Nat.xor_self, Nat.xor_zero]
    · rw [if_pos (by omega), if_pos ha, if_neg hb, Nat.xor_assoc, Nat.xor_comm (b / 2), ← Nat.xor_assoc]
  · by_cases hb : b % 2 = 1
    · rw [if_pos (by omega), if_neg ha, if_pos hb, Nat.xor_assoc]
    · rw [if_neg (by omega), if_neg ha, if_neg hb]
theorem cZ_lt (r : Nat) (h : r < 4294967296) : cZ r < 4294967296 := by
  unfold cZ
  split
  · exact Nat.xor_lt_two_pow (n := 32) (by omega) (by unfold cP; omega)
  · omega
theorem cB_lt (r b : Nat) (h : r < 4294967296) (hb : b < 2) : cB r b < 4294967296 := cZ_lt _ (Nat.xor_lt_two_pow (n := 32) (by omega) (by omega))
theorem cR_lt (t : Nat → Nat) (r : Nat) (h : r < 4294967296) (ht : ∀ i, t i < 2) (i : Nat) : cR t r i < 4294967296 := by
  induction i with
  | zero => exact h
  | succ i ih => exact cB_lt _ _ ih (ht i)
theorem cR_add (t : Nat → Nat) (r i j : Nat) : cR t r (i + j) = cR (fun k => t (i + k)) (cR t r i) j := by
  induction j with
  | zero => rfl
  | succ j ih =>
    show cB (cR t r (i + j)) (t (i + j)) = cB (cR (fun k => t (i + k)) (cR t r i) j) (t (i + j))
    rw [ih]
theorem cR_congr (t u : Nat → Nat) (r : Nat) (i : Nat) (h : ∀ k, k < i → t k = u k) : cR t r i = cR u r i := by
  induction i with
  | zero => rfl
  | succ i ih =>
    show cB (cR t r i) (t i) = cB (cR u r i) (u i)
    rw [ih (fun k hk => h k (by omega)), h i (by omega)]
theorem cZs_xor (k a b : Nat) : cZs k (a ^^^ b) = cZs k a ^^^ cZs k b := by
  induction k generalizing a b with
  | zero => rfl
  | succ k ih => show cZs k (cZ (a ^^^ b)) = cZs k (cZ a) ^^^ cZs k (cZ b); rw [cZ_xor, ih]
theorem cZs_lt (k r : Nat) (h : r < 4294967296) : cZs k r < 4294967296 := by
  induction k generalizing r with
  | zero => exact h
  | succ k ih => exact ih _ (cZ_lt r h)
theorem cZs_add (i j r : Nat) : cZs (i + j) r = cZs j (cZs i r) := by
  induction i generalizing r with
  | zero => rw [Nat.zero_add]; rfl
  | succ i ih => rw [Nat.succ_add]; exact ih (cZ r)
theorem two_xor (m b : Nat) (hb : b < 2) : 2 * m + b = 2 * m ^^^ b := by
  have h1 : (2 * m ^^^ b) / 2 = m := by rw [Nat.xor_div_two]; rw [show 2 * m / 2 = m by omega, show b / 2 = 0 by omega, Nat.xor_zero]
  have h2 : (2 * m ^^^ b) % 2 = b := by rw [xm2]; omega
  omega
theorem cZ_two (m : Nat) : cZ (2 * m) = m := by
  unfold cZ
  rw [if_neg (by omega)]
  omega
end Go.Proofs.YthnpdcblfocemaaGreatDoor
set_option linter.unusedVariables false
namespace Go.Proofs.YthnpdcblfocemaaGreatDoor
def oT (t : Nat → Nat) (n : Nat) : Nat → Nat := fun k => if k < n then t k else 0
end Go.Proofs.YthnpdcblfocemaaGreatDoor
set_option linter.unusedVariables false
namespace Go.Proofs.YthnpdcblfocemaaGreatDoor

theorem cZs_pow (k m : Nat) : cZs k (2 ^ k * m) = m := by
  induction k generalizing m with
  | zero => rw [Nat.pow_zero, Nat.one_mul]; rfl
  | succ k ih =>
    show cZs k (cZ (2 ^ (k + 1) * m)) = m
    rw [Nat.pow_succ, Nat.mul_comm (2 ^ k) 2, Nat.mul_assoc, cZ_two, ih]
theorem low_xor (k m b : Nat) (hb : b < 2 ^ k) : 2 ^ k * m + b = 2 ^ k * m ^^^ b := by
  induction k generalizing m b with
  | zero =>
    obtain rfl : b = 0 := by simpa using hb
    rw [Nat.xor_zero, Nat.add_zero]
  | succ k ih =>
    rw [Nat.pow_succ] at hb ⊢
    have h := ih m (b / 2) (by omega)
    have e : 2 ^ k * 2 * m = 2 * (2 ^ k * m) := by rw [Nat.mul_comm (2 ^ k) 2, Nat.mul_assoc]
    have d : (2 ^ k * 2 * m ^^^ b) / 2 = 2 ^ k * m ^^^ b / 2 := by rw [Nat.xor_div_two, e]; congr 1; omega
    have q : (2 ^ k * 2 * m ^^^ b) % 2 = b % 2 := by rw [xm2, e]; omega
    rw [← h] at d
    rw [e] at d q ⊢
    omega
theorem half_eq (r : Nat) : cZs 4 r = r / 16 ^^^ cZs 4 (r % 16) := by
  have e : r = 2 ^ 4 * (r / 16) ^^^ r % 16 := by
    rw [← low_xor 4 (r / 16) (r % 16) (by omega)]
    omega
  have h : cZs 4 r = cZs 4 (2 ^ 4 * (r / 16) ^^^ r % 16) := by rw [← e]
  rw [h, cZs_xor, cZs_pow]
theorem cR_number (m r x : Nat) (hx : x < 2 ^ m) : cR (fun k => x / 2 ^ k % 2) r m = cZs m (r ^^^ x) := by
  induction m generalizing r x with
  | zero =>
    obtain rfl : x = 0 := by simpa using hx
    show r = r ^^^ 0
    rw [Nat.xor_zero]
  | succ m ih =>
    rw [Nat.pow_succ] at hx
    rw [Nat.add_comm m 1, cR_add]
    have e1 : cR (fun k => x / 2 ^ k % 2) r 1 = cZ (r ^^^ x % 2) := by show cZ (r ^^^ x / 2 ^ 0 % 2) = _; rw [Nat.pow_zero, Nat.div_one]
    have e2 : (fun k => x / 2 ^ (1 + k) % 2) = (fun k => x / 2 / 2 ^ k % 2) := by
      funext k
      rw [Nat.div_div_eq_div_mul, Nat.add_comm 1 k, Nat.pow_succ, Nat.mul_comm 2]
    rw [e1, e2, ih _ (x / 2) (by omega), Nat.add_comm 1 m]
    show cZs m (cZ (r ^^^ x % 2) ^^^ x / 2) = cZs m (cZ (r ^^^ x))
    have e3 : r ^^^ x = (r ^^^ x % 2) ^^^ 2 * (x / 2) := by
      rw [Nat.xor_assoc, Nat.xor_comm (x % 2), ← two_xor _ _ (by omega), show 2 * (x / 2) + x % 2 = x by omega]
    rw [e3, cZ_xor (r ^^^ x % 2) (2 * (x / 2)), cZ_two]
def cBt (f : Nat → Nat) : Nat → Nat := fun k => f (k / 8) / 2 ^ (k % 8) % 2
theorem cBt_lt (f : Nat → Nat) (k : Nat) : cBt f k < 2 := Nat.mod_lt _ (by omega)
theorem cR_byte (f : Nat → Nat) (r j : Nat) (hf : f j < 256) : cR (cBt f) r (8 * (j + 1)) = cZs 8 (cR (cBt f) r (8 * j) ^^^ f j) := by
  rw [show 8 * (j + 1) = 8 * j + 8 by omega, cR_add, ← cR_number 8 _ (f j) hf]
  refine cR_congr _ _ _ _ (fun k hk => ?_)
  unfold cBt
  rw [show (8 * j + k) / 8 = j by omega, show (8 * j + k) % 8 = k by omega]
def cF (ns : Nat → Nat) (fs : Nat → Nat → Nat) (r : Nat) : Nat → Nat
  | 0 => r
  | j + 1 => cR (cBt (fs j)) (cF ns fs r j) (8 * ns j)
theorem cF_lt (ns : Nat → Nat) (fs : Nat → Nat → Nat) (r : Nat) (hr : r < 4294967296) (j : Nat) : cF ns fs r j < 4294967296 := by
  induction j with
  | zero => exact hr
  | succ j ih => exact cR_lt _ _ ih (cBt_lt _) _
def jn (f g : Nat → Nat) (n : Nat) : Nat → Nat := fun k => if k < n then f k else g (k - n)
def cA (ns : Nat → Nat) (fs : Nat → Nat → Nat) : Nat → Nat × (Nat → Nat)
  | 0 => (0, fun _ => 0)
  | j + 1 => ((cA ns fs j).1 + ns j, jn (cA ns fs j).2 (fs j) (cA ns fs j).1)
def cS (f : Nat → Nat) (n : Nat) : Nat := 4294967295 - cR (cBt f) 4294967295 (8 * n)
theorem cS_lt (f : Nat → Nat) (n : Nat) : cS f n < 4294967296 := by unfold cS; omega
end Go.Proofs.YthnpdcblfocemaaGreatDoor
set_option linter.unusedVariables false
set_option linter.unusedSimpArgs false
namespace Go.Proofs.YthnpdcblfocemaaGreatDoor
open Go.RowKit

theorem bel1 (w : World) (o1 : Obj) : Below w.heap.size w (w.alloc o1) := (Below.refl _ _).alloc (Nat.le_refl _) _
theorem bel2 (w : World) (o1 o2 : Obj) : Below w.heap.size w ((w.alloc o1).alloc o2) := (bel1 w o1).alloc (by simp) _
theorem bchain {a b c : World} (h : Below a.heap.size a b) (k : Below b.heap.size b c) : Below a.heap.size a c := h.trans (k.mono h.size)
theorem cell_later {w wx : World} {a : Addr} {v : Value} (hb : Below w.heap.size w wx) (hc : w.cell? a = some v) : wx.cell? a = some v := (hb.cell (World.block_lt_of_cell? _ _ hc)).trans hc
theorem frozen_later {w wx : World} {a : Addr} {v : Value} (hb : Below w.heap.size w wx) (hc : w.cell? a = some v) (h : w.frozen? a = false) : wx.frozen? a = false :=
  (hb.frozen (World.block_lt_of_cell? _ _ hc)).trans h
theorem cell_set {W : World} {p a : Addr} {x v : Value} (hp : p.block ≠ a.block) (h : W.cell? a = some v) : (W.setCell p x).cell? a = some v := by
  rw [World.cell?_setCell_far W p a x hp]; exact h
theorem own_later {wr w1 : World} {B : Nat} {e : TypeId} {s : Nat} {v : Value} {n : Nat} {xs : List Value} (h : wr.ownsRow B e s v n xs) (hb : Below wr.heap.size wr w1) : w1.ownsRow B e s v n xs := by
  refine ⟨h.1, ?_⟩
  rcases h.2 with h0 | ⟨g, cap, cur, hv, hg, hh, r⟩
  · exact Or.inl h0
  · exact Or.inr ⟨g, cap, cur, hv, hg, (hb.block g (Array.getElem?_eq_some_iff.1 hh).1).trans hh, r⟩
def Ow (base : Nat) (v : Value) : Prop := ∀ (a : Addr) (n cap : Nat), v = .slice (some a) n cap → 0 < n → base ≤ a.block
def Nb (v : Value) (d : Nat) : Prop := ∀ (a : Addr) (n cap : Nat), v = .slice (some a) n cap → 0 < n → a.block ≠ d
theorem Ow.low {B B' : Nat} {v : Value} (h : Ow B v) (hl : B' ≤ B) : Ow B' v := fun a n cap e hn => Nat.le_trans hl (h a n cap e hn)
def Ls (w : World) (v : Value) (n : Nat) (h : Nat → Value) : Prop :=
  ∃ (adr : Option Addr) (cap b o : Nat), v = .slice adr n cap ∧ n ≤ cap ∧ (cap ≤ maxLen ∧ (adr = none → cap = 0)) ∧ (0 < n → adr = some ⟨b, o, none⟩) ∧ ∀ k, k < n → w.cell? ⟨b, o + k, none⟩ = some (h k)
theorem Ls.later {w w' : World} {v : Value} {n : Nat} {h : Nat → Value} (l : Ls w v n h) (hb : Below w.heap.size w w') : Ls w' v n h := by
  obtain ⟨adr, cap, b, o, h1, h2, h3, h4, h5⟩ := l
  exact ⟨adr, cap, b, o, h1, h2, h3, h4, fun k hk => cell_later hb (h5 k hk)⟩
theorem Ls.congr {w : World} {v : Value} {n : Nat} {h g : Nat → Value} (l : Ls w v n h) (e : ∀ k, k < n → h k = g k) : Ls w v n g := by
  obtain ⟨adr, cap, b, o, h1, h2, h3, h4, h5⟩ := l
  exact ⟨adr, cap, b, o, h1, h2, h3, h4, fun k hk => by rw [h5 k hk, e k hk]⟩
theorem Ls.spot {w : World} {v : Value} {n : Nat} {h : Nat → Value} (l : Ls w v n h) (j : Nat) (hj : j < n) : ∃ (b o cap : Nat), v = .slice (some ⟨b, o, none⟩) n cap ∧ w.cell? ⟨b, o + j, none⟩ = some (h j) := by
  obtain ⟨adr, cap, b, o, h1, h2, h3, h4, h5⟩ := l
  have e := h4 (by omega)
  subst e
  exact ⟨b, o, cap, h1, h5 j hj⟩
theorem Ls.len {w : World} {v : Value} {n : Nat} {h : Nat → Value} (l : Ls w v n h) : ∃ (ad : Option Addr) (cap : Nat), v = .slice ad n cap ∧ n ≤ cap ∧ cap ≤ maxLen := by
  obtain ⟨adr, cap, b, o, h1, h2, h3, -⟩ := l
  exact ⟨adr, cap, h1, h2, h3.1⟩
theorem Ls.nil {w : World} {n cap : Nat} {h : Nat → Value} (l : Ls w (.slice none n cap) n h) : n = 0 ∧ cap = 0 := by
  obtain ⟨adr, c, b, o, h1, h2, h3, h4, -⟩ := l
  cases h1
  have := h3.2 rfl
  omega
theorem ls_news {w : World} {a : Addr} {m cap : Nat} {h : Nat → Value} (l : Ls w (.slice (some a) m cap) m h) : ∀ j u, ((List.range m).map h)[j]? = some u → w.cell? (a.add j) = some u := by
  intro j u hj
  have hjm : j < m := by have := (List.getElem?_eq_some_iff.1 hj).1; simpa using this
  rw [List.getElem?_map, List.getElem?_range hjm] at hj
  obtain ⟨b', o', c', e', hc⟩ := l.spot j hjm
  cases e'
  rw [show (⟨b', o', none⟩ : Addr).add j = ⟨b', o' + j, none⟩ by simp [Addr.add], hc]
  exact hj
theorem ls_none (w : World) (h : Nat → Value) : Ls w (.slice none 0 0) 0 h := ⟨none, 0, 0, 0, rfl, Nat.le_refl _, ⟨Nat.zero_le _, fun _ => rfl⟩, fun h => by omega, fun k hk => by omega⟩
def vl (h : Nat → Value) (n : Nat) : List Value := (List.range n).map h
theorem vl_succ (h : Nat → Value) (n : Nat) : vl h (n + 1) = vl h n ++ [h n] := by unfold vl; rw [List.range_succ, List.map_append]; rfl
theorem vl_get (h : Nat → Value) (n k : Nat) (hk : k < n) : (vl h n)[k]? = some (h k) := by unfold vl; rw [List.getElem?_map, List.getElem?_range hk]; rfl
theorem vl_len (h : Nat → Value) (n : Nat) : (vl h n).length = n := by unfold vl; simp
theorem ls_of_own {w : World} {base : Nat} {v : Value} {n : Nat} {h : Nat → Value} {e : TypeId} (r : w.ownsRow base e 1 v n (vl h n)) : Ls w v n h ∧ Ow base v := by
  rcases r.2 with ⟨hn, h0⟩ | ⟨g, cap, cur, hv, hbs, hg, h1, h2, h3⟩
  · subst hn h0
    exact ⟨ls_none w h, fun a n cap e => by cases e⟩
  · subst hv
    refine ⟨⟨some ⟨g, 0, none⟩, cap, g, 0, rfl, h1, ⟨h2, fun e => by cases e⟩, fun _ => rfl, fun k hk => ?_⟩, fun a n' cap' e _ => ?_⟩
    · rw [Nat.zero_add, r.cellAt k (by omega), vl_get h n k hk]
    · cases e; exact hbs
theorem own_succ {W : World} {base : Nat} {e : TypeId} {size : Nat} {v : Value} {k : Nat} {xs : List Value} (h : W.ownsRow base e size v (k + 1) xs) : ∃ g cap, v = .slice (some ⟨g, 0, none⟩) (k + 1) cap := by
  rcases h.2 with ⟨_, h0⟩ | ⟨g, cap, _, rfl, _⟩
  · omega
  · exact ⟨g, cap, rfl⟩
theorem own_sl {W : World} {base : Nat} {e : TypeId} {size : Nat} {v : Value} {k : Nat} {xs : List Value} (h : W.ownsRow base e size v k xs) : ∃ ad cap, v = .slice ad k cap := by
  rcases h.2 with ⟨h1, h0⟩ | ⟨g, cap, _, rfl, _⟩
  · subst h0; exact ⟨_, _, h1⟩
  · exact ⟨_, cap, rfl⟩
theorem below_grow {w wr w1 : World} {e : TypeId} {s : Nat} {v : Value} {n : Nat} {xs : List Value} {o : Obj} (h : wr.ownsRow w.heap.size e s v n xs) (hW : Below w.heap.size w wr) (hg : (wr.alloc o).grownBy w1 v.ownBlock) : Below w.heap.size w w1 := by
  have hs := hW.size
  exact (hW.alloc (by omega) o).grown hg (by rw [World.size_alloc]; omega) (fun k hk => (h.lt k hk).1)
def by8 (f : Nat → Nat) : Nat → Value := fun k => .int .u8 ((f k : Nat) : Int)
def nt (f : Nat → Nat) : Nat → Value := fun k => .int .i64 ((f k : Nat) : Int)
theorem cell_one (w : World) (x : Value) (t : TypeId) (hx : x.oneCell' = true) : ∀ (j : Nat) (u : Value), [x][j]? = some u → (w.alloc (.cells #[x] t)).cell? ((⟨w.heap.size, 0, none⟩ : Addr).add j) = some u := by
  intro j u hj
  match j with
  | 0 =>
    simp at hj
    subst hj
    simp [go_sem]
  | j + 1 => simp at hj
theorem dinfo_int : (Tryz.prog.info? 3).map (fun i => (i.zero, i.size, i.bytes)) = some (some (.int .i64 0), 1, 8) := by kernel_rfl
theorem dinfo_byte : (Tryz.prog.info? 5).map (fun i => (i.zero, i.size, i.bytes)) = some (some (.int .u8 0), 1, 1) := by kernel_rfl
theorem xor32 (a b : Nat) (ha : a < 4294967296) (hb : b < 4294967296) : bits .xor .u32 (a : Int) (b : Int) = ((a ^^^ b : Nat) : Int) := by
  have hx : a ^^^ b < 2 ^ 32 := Nat.xor_lt_two_pow (by omega) (by omega)
  have h1 : (BitVec.ofInt 32 (a : Int)).toNat = a := by
    rw [BitVec.ofInt_natCast, BitVec.toNat_ofNat]; exact Nat.mod_eq_of_lt (by omega)
  have h2 : (BitVec.ofInt 32 (b : Int)).toNat = b := by
    rw [BitVec.ofInt_natCast, BitVec.toNat_ofNat]; exact Nat.mod_eq_of_lt (by omega)
  show IntKind.u32.wrap ((BitVec.ofInt 32 (a : Int) ^^^ BitVec.ofInt 32 (b : Int)).toNat : Int) = _
  rw [BitVec.toNat_xor, h1, h2, IntKind.wrap_u32]
  omega
theorem and32 (a b : Nat) (ha : a < 4294967296) (hb : b < 4294967296) : bits .and .u32 (a : Int) (b : Int) = ((a &&& b : Nat) : Int) := by
  have hx : a &&& b < 2 ^ 32 := Nat.and_lt_two_pow _ (by omega)
  have h1 : (BitVec.ofInt 32 (a : Int)).toNat = a := by
    rw [BitVec.ofInt_natCast, BitVec.toNat_ofNat]; exact Nat.mod_eq_of_lt (by omega)
  have h2 : (BitVec.ofInt 32 (b : Int)).toNat = b := by
    rw [BitVec.ofInt_natCast, BitVec.toNat_ofNat]; exact Nat.mod_eq_of_lt (by omega)
  show IntKind.u32.wrap ((BitVec.ofInt 32 (a : Int) &&& BitVec.ofInt 32 (b : Int)).toNat : Int) = _
  rw [BitVec.toNat_and, h1, h2, IntKind.wrap_u32]
  omega
theorem and8 (a b : Nat) (ha : a < 256) (hb : b < 256) : bits .and .u8 (a : Int) (b : Int) = ((a &&& b : Nat) : Int) := by
  have hx : a &&& b < 2 ^ 8 := Nat.and_lt_two_pow _ (by omega)
  have h1 : (BitVec.ofInt 8 (a : Int)).toNat = a := by
    rw [BitVec.ofInt_natCast, BitVec.toNat_ofNat]; exact Nat.mod_eq_of_lt (by omega)
  have h2 : (BitVec.ofInt 8 (b : Int)).toNat = b := by
    rw [BitVec.ofInt_natCast, BitVec.toNat_ofNat]; exact Nat.mod_eq_of_lt (by omega)
  show IntKind.u8.wrap ((BitVec.ofInt 8 (a : Int) &&& BitVec.ofInt 8 (b : Int)).toNat : Int) = _
  rw [BitVec.toNat_and, h1, h2, IntKind.wrap_u8]
  omega
end Go.Proofs.YthnpdcblfocemaaGreatDoor
set_option linter.unusedVariables false
set_option linter.unusedSimpArgs false
namespace Go.Proofs.YthnpdcblfocemaaGreatDoor
open Go.RowKit

structure Rw (b n : Nat) (h : Nat → Value) (w : World) : Prop where
  c : ∀ k, k < n → w.cell? ⟨b, k, none⟩ = some (h k)
  f : ∀ k, k < n → w.frozen? ⟨b, k, none⟩ = false
theorem Rw.set {b n : Nat} {h : Nat → Value} {w : World} (r : Rw b n h w) (j : Nat) (u : Value) : Rw b n (fun k => if k = j then u else h k) (w.setCell ⟨b, j, none⟩ u) := by
  refine ⟨fun k hk => ?_, fun k hk => by rw [World.frozen?_setCell]; exact r.f k hk⟩
  by_cases e : k = j
  · subst e
    simp only [if_true]
    exact World.cell?_setCell_same' _ _ _ (by rw [r.c k hk]; rfl)
  · simp only [if_neg e]
    exact (World.cell?_setCell_other _ _ _ _ (by first | (simp; done) | (simp; omega))).trans (r.c k hk)
theorem Rw.congr {b n : Nat} {h g : Nat → Value} {w : World} (r : Rw b n h w) (e : ∀ k, k < n → h k = g k) : Rw b n g w :=
  ⟨fun k hk => by rw [r.c k hk, e k hk], r.f⟩
theorem made_get (z : Value) (n k : Nat) (hk : k < n) : (madeCells #[z] n)[k]? = some z := by
  unfold madeCells
  rw [Array.getElem?_map, Array.getElem?_eq_getElem (by simpa using hk)]
  simp [Nat.mod_one]
theorem Rw.made (w : World) (z : Value) (n : Nat) (t : TypeId) : Rw w.heap.size n (fun _ => z) (w.alloc (.cells (madeCells #[z] n) t)) := by
  refine ⟨fun k hk => ?_, fun k hk => ?_⟩
  · have := made_get z n k hk
    simp [go_sem, this]
  · simp [go_sem]
end Go.Proofs.YthnpdcblfocemaaGreatDoor
set_option linter.unusedVariables false
namespace Go.Proofs.YthnpdcblfocemaaGreatDoor
def enN (n : Nat) : Nat → List Nat
  | 0 => []
  | k + 1 => n % 256 :: enN (n / 256) k
def deN : List Nat → Nat
  | [] => 0
  | c :: t => c + 256 * deN t
theorem enN_len (n k : Nat) : (enN n k).length = k := by
  induction k generalizing n with
  | zero => rfl
  | succ k ih => simp [enN, ih]
theorem enN_byte (n k : Nat) : ∀ c ∈ enN n k, c < 256 := by
  induction k generalizing n with
  | zero => intro c hc; cases hc
  | succ k ih =>
    intro c hc
    simp only [enN, List.mem_cons] at hc
    rcases hc with rfl | hc
    · omega
    · exact ih _ c hc
theorem de_en (k : Nat) : ∀ n, n < 256 ^ k → deN (enN n k) = n := by
  induction k with
  | zero => intro n h; simp at h; simp [enN, deN, h]
  | succ k ih =>
    intro n h
    have h2 : n / 256 < 256 ^ k := Nat.div_lt_of_lt_mul (by rw [Nat.pow_succ] at h; omega)
    simp only [enN, deN, ih _ h2]
    omega
theorem en_de : ∀ l : List Nat, (∀ c ∈ l, c < 256) → enN (deN l) l.length = l := by
  intro l
  induction l with
  | nil => intro _; rfl
  | cons c t ih =>
    intro h
    have hc := h c (by simp)
    have ht := ih (fun x hx => h x (by simp [hx]))
    show enN (c + 256 * deN t) (t.length + 1) = c :: t
    simp only [enN]
    rw [show (c + 256 * deN t) % 256 = c by omega, show (c + 256 * deN t) / 256 = deN t by omega, ht]
theorem deN_lt : ∀ l : List Nat, (∀ c ∈ l, c < 256) → deN l < 256 ^ l.length := by
  intro l
  induction l with
  | nil => intro _; simp [deN]
  | cons c t ih =>
    intro h
    have hc := h c (by simp)
    have ht := ih (fun x hx => h x (by simp [hx]))
    show c + 256 * deN t < 256 ^ (t.length + 1)
    rw [Nat.pow_succ]
    omega
def u64 (x : Int) : Nat := if x < 0 then (x + 18446744073709551616).toNat else x.toNat
def rdU : List Nat → Nat → Nat → Except Nat (Nat × List Nat)
  | [], _, _ => .error 120
  | c :: t, k, a => if k = 9 ∧ 1 < c then .error 121 else if c < 128 then (if c = 0 ∧ 0 < k then .error 121 else .ok (a + c % 128 * 2 ^ (7 * k), t)) else rdU t (k + 1) (a + c % 128 * 2 ^ (7 * k))
def rU (l : List Nat) : Except Nat (Nat × List Nat) := rdU l 0 0
end Go.Proofs.YthnpdcblfocemaaGreatDoor
set_option linter.unusedVariables false
namespace Go.Proofs.YthnpdcblfocemaaGreatDoor

abbrev Rdr (α : Type) := List Nat → Except Nat (α × List Nat)
abbrev Sta := Except Nat (List Nat)
def pn {α : Type} (P : Rdr α) : Sta → Sta
  | .error e => .error e
  | .ok l => match P l with
    | .ok (_, t) => .ok t
    | .error e => .error e
def rB : Rdr (List Nat) := fun l => match rU l with
  | .ok (n, t) => if t.length < n then .error 120 else .ok (t.take n, t.drop n)
  | .error e => .error e
structure One {α : Type} (P : Rdr α) (en : α → List Nat) (good : α → Prop) : Prop where
  back : ∀ x t, good x → P (en x ++ t) = .ok (x, t)
  one : ∀ l x t, (∀ c ∈ l, c < 256) → P l = .ok (x, t) → l = en x ++ t ∧ good x
  short : ∀ x q, good x → q <+: en x → q.length < (en x).length → P q = .error 120
def okB (l : List Nat) : Prop := (∀ c ∈ l, c < 256) ∧ l.length < 18446744073709551616
end Go.Proofs.YthnpdcblfocemaaGreatDoor
set_option linter.unusedVariables false
set_option linter.unusedSimpArgs false
namespace Go.Proofs.YthnpdcblfocemaaGreatDoor
open Go.RowKit

def b8f (l : List Nat) : Nat → Value := fun k => .int .u8 ((l.getD k 0 : Nat) : Int)
def b8 (l : List Nat) : List Value := l.map fun c : Nat => .int .u8 (c : Int)
theorem b8_len (l : List Nat) : (b8 l).length = l.length := by simp [b8]
theorem b8_app (l m : List Nat) : b8 (l ++ m) = b8 l ++ b8 m := by simp [b8]
theorem vl_b8 (l : List Nat) : vl (b8f l) l.length = b8 l := by
  apply List.ext_getElem
  · rw [vl_len, b8_len]
  · intro k h1 h2
    rw [b8_len] at h2
    simp [vl, b8, b8f, List.getD, h2]
theorem b8_one (l : List Nat) : ∀ u ∈ b8 l, u.oneCell' = true := by
  intro u hu
  unfold b8 at hu
  obtain ⟨k, _, rfl⟩ := List.mem_map.1 hu
  rfl
def Bs (w : World) (v : Value) (l : List Nat) : Prop := Ls w v l.length (b8f l)
theorem Bs.later {w w' : World} {v : Value} {l : List Nat} (h : Bs w v l) (hb : Below w.heap.size w w') : Bs w' v l := Ls.later h hb
def Ob (base : Nat) (w : World) (v : Value) (l : List Nat) : Prop := w.ownsRow base 5 1 v l.length (b8 l)
theorem Ob.bs {base : Nat} {w : World} {v : Value} {l : List Nat} (h : Ob base w v l) : Bs w v l ∧ Ow base v := by
  unfold Ob at h
  rw [← vl_b8] at h
  exact ls_of_own h
theorem ob_nil (base : Nat) (w : World) : Ob base w (.slice none 0 0) [] := World.ownsRow_nil _ _ _ _
theorem Ob.later {base : Nat} {w w' : World} {v : Value} {l : List Nat} (h : Ob base w v l) (hb : Below w.heap.size w w') : Ob base w' v l := own_later h hb
theorem Ob.sl {base : Nat} {w : World} {v : Value} {l : List Nat} (h : Ob base w v l) : ∃ ad cap, v = .slice ad l.length cap := own_sl h
theorem Bs.at {w : World} {v : Value} {l : List Nat} (h : Bs w v l) (j : Nat) (hj : j < l.length) : ∃ (b o cap : Nat), v = .slice (some ⟨b, o, none⟩) l.length cap ∧ w.cell? ⟨b, o + j, none⟩ = some (.int .u8 ((l.getD j 0 : Nat) : Int)) := Ls.spot h j hj
theorem Bs.len {w : World} {v : Value} {l : List Nat} (h : Bs w v l) : ∃ (ad : Option Addr) (cap : Nat), v = .slice ad l.length cap ∧ l.length ≤ cap ∧ cap ≤ maxLen := Ls.len h
theorem Bs.cel {w : World} {ad : Option Addr} {n cap : Nat} {l : List Nat} (h : Bs w (.slice ad n cap) l) (j : Nat) (hj : j < l.length) : ∃ (b o : Nat), ad = some ⟨b, o, none⟩ ∧ w.cell? ⟨b, o + j, none⟩ = some (.int .u8 ((l.getD j 0 : Nat) : Int)) := by
  obtain ⟨b, o, c, e, hc⟩ := h.at j hj
  injection e with e1 e2 e3
  exact ⟨b, o, e1, hc⟩
theorem bs_one (w : World) (x : Nat) (t : TypeId) : Bs (w.alloc (.cells #[.int .u8 (x : Int)] t)) (.slice (some ⟨w.heap.size, 0, none⟩) 1 1) [x] :=
  ⟨_, 1, w.heap.size, 0, rfl, Nat.le_refl _, ⟨by unfold maxLen; omega, fun e => by cases e⟩, fun _ => rfl, fun k hk => by
    have hk0 : k < 1 := hk
    obtain rfl : k = 0 := by omega
    simp [go_sem, b8f]⟩
def Gw (base : Nat) (w w' : World) : Prop := (∀ w0, Below base w0 w → Below base w0 w') ∧ w.heap.size ≤ w'.heap.size
theorem byteInfo : ∃ i, Tryz.prog.info? 5 = some i ∧ i.zero = some (.int .u8 0) ∧ i.size = 1 ∧ i.bytes = 1 := by
  obtain ⟨i0, hti, hi0, hi1, hi2⟩ := info_parts dinfo_byte
  exact ⟨i0, hti, hi0, hi1, hi2⟩
theorem apB {ops : Array Oper} {rest : List Oper} {o : Oper} {a : Act} {w : World} {Q : Exit → Act → World → Prop} (hgd : o.guard = none) (s x : Operand)
    (ho : o.op = .call { callee := .builtin .append, args := #[s, x], argTypes := #[30, 30] })
    (base : Nat) (v : Value) (l : List Nat) (hs : a.eval s = v) (hO : Ob base w v l) (vx : Value) (m : List Nat) (hx : a.eval x = vx) (hL : Bs w vx m)
    (hlen : l.length + m.length ≤ 1073741824) (hbase : base ≤ w.heap.size)
    (h : ∀ v' w', Ob base w' v' (l ++ m) → Gw base w w' → wpList Tryz.prog ops Q rest (a.put o.dst v') w') : wpList Tryz.prog ops Q (o :: rest) a w := by
  obtain ⟨i0, hti, hi0, hi1, hi2⟩ := byteInfo
  obtain ⟨ad, cap, e, h1, h2⟩ := hL.len
  subst e
  cases ad with
  | none =>
    obtain ⟨e0, e1⟩ := Ls.nil hL
    obtain rfl : m = [] := List.eq_nil_of_length_eq_zero e0
    subst e1
    refine wpList_append_own_none hgd s x 30 ho base 5 i0 1 Tryz.underlying30 hti v _ _ hs hO hx ?_
    refine h v w ?_ ⟨fun _ h => h, Nat.le_refl _⟩
    rw [List.append_nil]; exact hO
  | some ad =>
    have hnews := ls_news hL
    refine wpList_append_own w hgd s x 30 ho base 5 i0 (.int .u8 0) 1 1 Tryz.underlying30 hti hi0 hi1 hi2 rfl (by decide) v l.length (b8 l) hs hO ad m.length cap (b8 m) hx (by rw [b8_len, Nat.mul_one]) (by rw [← vl_b8]; exact hnews) (b8_one m) (by unfold maxLen; omega) (by omega) hbase ?_
    intro v' w' hown hg _
    refine h v' w' ?_ ⟨fun w0 hb => hb.grown hg hbase (fun k hk => (hO.lt k hk).1), hg.size⟩
    unfold Ob
    rw [List.length_append, b8_app]
    exact hown
theorem wp_append_own_none {P : Program} {w : World} {o : Oper} {a : Act} {K : Act → World → Prop} {Q : Exit → Act → World → Prop} (s x : Operand) (t : TypeId)
    (ho : o.op = .call { callee := .builtin .append, args := #[s, x], argTypes := #[t, t] })
    (base : Nat) (e : TypeId) (i : TypeInfo) (size : Nat) (ht : P.underlying t = some (.slice e)) (hi : P.info? e = some i)
    (v : Value) (n : Nat) (xs : List Value) (hs : a.eval s = v) (hown : w.ownsRow base e size v n xs) (hx : a.eval x = .slice none 0 0)
    (h : K (a.put o.dst v) w) : o.wp P a w K Q := by
  have hrun := run_append_owned_none (P := P) (w := w) base t o.type e i size ht hi v n xs hown
  unfold Oper.wp
  simp [execOp, ho, resolve, invoke, builtin, hs, hx, hrun, Result.andThen]
  exact h
theorem apB_op {o : Oper} {a : Act} {w : World} {K : Act → World → Prop} {Q : Exit → Act → World → Prop} (s x : Operand)
    (ho : o.op = .call { callee := .builtin .append, args := #[s, x], argTypes := #[30, 30] })
    (base : Nat) (v : Value) (l : List Nat) (hs : a.eval s = v) (hO : Ob base w v l) (vx : Value) (m : List Nat) (hx : a.eval x = vx) (hL : Bs w vx m)
    (hlen : l.length + m.length ≤ 1073741824) (hbase : base ≤ w.heap.size)
    (h : ∀ v' w', Ob base w' v' (l ++ m) → Gw base w w' → K (a.put o.dst v') w') : o.wp Tryz.prog a w K Q := by
  obtain ⟨i0, hti, hi0, hi1, hi2⟩ := byteInfo
  obtain ⟨ad, cap, e, h1, h2⟩ := hL.len
  subst e
  cases ad with
  | none =>
    obtain ⟨e0, e1⟩ := Ls.nil hL
    obtain rfl : m = [] := List.eq_nil_of_length_eq_zero e0
    subst e1
    refine wp_append_own_none s x 30 ho base 5 i0 1 Tryz.underlying30 hti v _ _ hs hO hx ?_
    refine h v w ?_ ⟨fun _ h => h, Nat.le_refl _⟩
    rw [List.append_nil]; exact hO
  | some ad =>
    have hnews := ls_news hL
    refine wp_append_own w s x 30 ho base 5 i0 (.int .u8 0) 1 1 Tryz.underlying30 hti hi0 hi1 hi2 rfl (by decide) v l.length (b8 l) hs hO ad m.length cap (b8 m) hx (by rw [b8_len, Nat.mul_one]) (by rw [← vl_b8]; exact hnews) (b8_one m) (by unfold maxLen; omega) (by omega) hbase ?_
    intro v' w' hown hg _
    refine h v' w' ?_ ⟨fun w0 hb => hb.grown hg hbase (fun k hk => (hO.lt k hk).1), hg.size⟩
    unfold Ob
    rw [List.length_append, b8_app]
    exact hown
def sv (ad : Option Addr) (p q cap : Nat) : Value := .slice (if cap = p then ad else ad.map (·.add p)) (q - p) (cap - p)
theorem slice_run (w : World) (ad : Option Addr) (n cap p q : Nat) (h1 : p ≤ q) (h2 : q ≤ cap) :
    (Instr.slice 30 (.slice ad n cap) (some (.int .i64 (p : Int))) (some (.int .i64 (q : Int))) none).run Tryz.prog w = .ok (sv ad p q cap) w := by
  have ht : Tryz.prog.underlying 30 = some (.slice (Tryz.prog.elem 30)) := by kernel_rfl
  have hs : (sizeOf (Tryz.prog.elem 30)).run Tryz.prog w = .ok 1 w := by
    obtain ⟨i0, hti, hi0, hi1, hi2⟩ := byteInfo
    have e : Tryz.prog.elem 30 = 5 := by kernel_rfl
    rw [e]
    simp [sizeOf, typeInfo, hti, hi1]
  rw [run_slice_lh w 30 ad n cap ht .i64 .i64 (p : Int) (q : Int) (by omega) (by omega) (by omega), hs]
  simp [Result.andThen, sliced, sv]
theorem sv_bs {w : World} {ad : Option Addr} {n cap : Nat} {l : List Nat} (h : Bs w (.slice ad n cap) l) (p q : Nat) (h1 : p ≤ q) (h2 : q ≤ l.length) : Bs w (sv ad p q cap) ((l.drop p).take (q - p)) := by
  obtain ⟨adr, c, b, o, e, h3, h4, h5, h6⟩ := h
  injection e with e1 e2 e3
  subst e1 e3
  have hl : ((l.drop p).take (q - p)).length = q - p := by rw [List.length_take, List.length_drop]; omega
  refine ⟨_, cap - p, b, o + p, by rw [hl]; rfl, by rw [hl]; omega, ⟨by omega, ?_⟩, ?_, ?_⟩
  · intro e
    by_cases q : cap = p
    · omega
    · rw [if_neg q] at e
      have : ad = none := by cases ad with
        | none => rfl
        | some a => cases e
      have := h4.2 this
      omega
  · intro hp
    rw [hl] at hp
    have e := h5 (by omega)
    rw [if_neg (by omega), e]
    simp [Addr.add]
  · intro k hk
    rw [hl] at hk
    rw [show o + p + k = o + (p + k) by omega, h6 (p + k) (by omega)]
    unfold b8f
    congr 3
    simp [List.getD, List.getElem?_take, hk]
structure Kp (F : Nat → Prop) (w w' : World) : Prop where
  os : w'.os = w.os
  tape : w'.tape = w.tape
  output : w'.output = w.output
  size : w.heap.size ≤ w'.heap.size
  block : ∀ k, k < w.heap.size → ¬ F k → w'.heap[k]? = w.heap[k]?
theorem Kp.refl (F : Nat → Prop) (w : World) : Kp F w w := ⟨rfl, rfl, rfl, Nat.le_refl _, fun _ _ _ => rfl⟩
theorem Kp.of {F : Nat → Prop} {w w' : World} (h : Below w.heap.size w w') : Kp F w w' := ⟨h.os, h.tape, h.output, h.size, fun k hk _ => h.block k hk⟩
theorem Kp.trans {F G : Nat → Prop} {a b c : World} (h : Kp F a b) (k : Kp G b c) (hG : ∀ i, G i → F i ∨ a.heap.size ≤ i) : Kp F a c :=
  ⟨k.os.trans h.os, k.tape.trans h.tape, k.output.trans h.output, Nat.le_trans h.size k.size, fun i hi hn => (k.block i (Nat.lt_of_lt_of_le hi h.size) (fun q => by rcases hG i q with q | q; exact hn q; omega)).trans (h.block i hi hn)⟩
theorem Kp.mono {F G : Nat → Prop} {w w' : World} (h : Kp F w w') (hG : ∀ i, F i → G i) : Kp G w w' := ⟨h.os, h.tape, h.output, h.size, fun i hi hn => h.block i hi (fun q => hn (hG i q))⟩
theorem Kp.below {F : Nat → Prop} {w w' : World} (h : Kp F w w') {B : Nat} (hF : ∀ i, F i → B ≤ i) (hB : B ≤ w.heap.size) : Below B w w' :=
  ⟨h.os, h.tape, h.output, h.size, fun i hi => h.block i (by omega) (fun q => by have := hF i q; omega)⟩
theorem Kp.next {F : Nat → Prop} {w0 w w' : World} (h : Kp F w w') {B : Nat} (hb : Below B w0 w) (hF : ∀ i, F i → B ≤ i) (hB : B ≤ w.heap.size) : Below B w0 w' := hb.trans (h.below hF hB)
theorem Kp.set {F : Nat → Prop} {a w : World} (h : Kp F a w) {p : Addr} (hp : F p.block ∨ a.heap.size ≤ p.block) (u : Value) : Kp F a (w.setCell p u) :=
  ⟨h.os, h.tape, h.output, by rw [World.size_setCell]; exact h.size, fun i hi hn => (Below.heap_setCell _ _ _ _ (fun e => by subst e; rcases hp with q | q; exact hn q; omega)).trans (h.block i hi hn)⟩
theorem Kp.drew {F : Nat → Prop} {a w : World} (h : Kp F a w) : Kp F a w.drew := ⟨h.os, h.tape, h.output, h.size, h.block⟩
theorem Kp.cell {F : Nat → Prop} {w w' : World} (h : Kp F w w') {a : Addr} {v : Value} (hn : ¬ F a.block) (hc : w.cell? a = some v) : w'.cell? a = some v :=
  (World.cell?_of_block (w := w) (h.block _ (World.block_lt_of_cell? _ _ hc) hn)).trans hc
theorem Kp.frozen {F : Nat → Prop} {w w' : World} (h : Kp F w w') {a : Addr} {v : Value} (hn : ¬ F a.block) (hc : w.cell? a = some v) (hf : w.frozen? a = false) : w'.frozen? a = false :=
  (World.frozen?_of_block (w := w) (h.block _ (World.block_lt_of_cell? _ _ hc) hn)).trans hf
theorem Kp.grow {F : Nat → Prop} {a w w' : World} (h : Kp F a w) {B : Nat} (hb : Below B w w') (hB : a.heap.size ≤ B) : Kp F a w' :=
  ⟨hb.os.trans h.os, hb.tape.trans h.tape, hb.output.trans h.output, Nat.le_trans h.size hb.size, fun i hi hn => (hb.block i (by omega)).trans (h.block i hi hn)⟩
def Nf (F : Nat → Prop) (v : Value) : Prop := ∀ (a : Addr) (n cap : Nat), v = .slice (some a) n cap → 0 < n → ¬ F a.block
theorem Kp.ls {F : Nat → Prop} {w w' : World} (h : Kp F w w') {v : Value} {n : Nat} {g : Nat → Value} (l : Ls w v n g) (hn : Nf F v) : Ls w' v n g := by
  obtain ⟨adr, cap, q, o, rfl, h2, h3, h4, h5⟩ := l
  refine ⟨adr, cap, q, o, rfl, h2, h3, h4, fun k hk => ?_⟩
  have e := h4 (by omega)
  subst e
  exact h.cell (hn ⟨q, o, none⟩ n cap rfl (by omega)) (h5 k hk)
theorem Kp.bs {F : Nat → Prop} {w w' : World} (h : Kp F w w') {v : Value} {l : List Nat} (hl : Bs w v l) (hn : Nf F v) : Bs w' v l := h.ls hl hn
theorem ow_nf {F : Nat → Prop} {B : Nat} {v : Value} (h : Ow B v) (hF : ∀ i, F i → i < B) : Nf F v := fun a n cap e hn q => by have := h a n cap e hn; have := hF _ q; omega
def Lo (B : Nat) (v : Value) : Prop := ∀ (a : Addr) (n cap : Nat), v = .slice (some a) n cap → 0 < n → a.block < B
theorem Ls.lo {w : World} {v : Value} {n : Nat} {h : Nat → Value} (l : Ls w v n h) : Lo w.heap.size v := by
  obtain ⟨adr, cap, b, o, rfl, h2, h3, h4, h5⟩ := l
  intro a n' cap' e hn
  have e2 := h4 (by cases e; exact hn)
  subst e2
  cases e
  exact World.block_lt_of_cell? _ _ (h5 0 hn)
def Gr (F F' : Nat → Prop) (w : World) : Prop := ∀ k, F' k → F k ∨ w.heap.size ≤ k
theorem drop_cons {l : List Nat} {n : Nat} (h : n < l.length) : l.drop n = l.getD n 0 :: l.drop (n + 1) := by
  rw [List.drop_eq_getElem_cons h]
  simp [List.getD, h]
theorem getD_byte {l : List Nat} (hb : ∀ c ∈ l, c < 256) (k : Nat) : l.getD k 0 < 256 := by
  by_cases h : k < l.length
  · have : l.getD k 0 = l[k] := by simp [List.getD, h]
    rw [this]
    exact hb _ (List.getElem_mem h)
  · have : l.getD k 0 = 0 := by simp [List.getD, h]
    omega
end Go.Proofs.YthnpdcblfocemaaGreatDoor
