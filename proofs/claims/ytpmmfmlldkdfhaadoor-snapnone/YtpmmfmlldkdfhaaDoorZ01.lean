/-
Plain numbers of layer 11: half bytes, bytes, texts one behind the other, texts laid over one another, runs of turned bits.
Lists in memory, whatever their parts; bytes, bits and words of 32 bits.
Rows of cells that may be written; what writes into one block alone.
-/
import Derived.Test.YtpmmfmlldkdfhaaDoorZ00
import Derived.Test.YtpmmfmlldkdfhaaDoorProg
import Derived.WalkKit
import Derived.WalkSpells
import Derived.WalkLawsBesides
import Derived.Deep.DeepCutAuto
import Derived.Lib.QuietBelow
import Derived.BigQuiet
import Derived.OwnWalk
import Derived.Laws.MakeOwn
import Derived.Laws.Bits64b
import Derived.Maps.AppendAt
import Derived.Deep.RegionHeld3

set_option linter.unusedVariables false
namespace Go.Proofs.YtpmmfmlldkdfhaaDoor

theorem cZs_pow (k m : Nat) : cZs k (2 ^ k * m) = m := by
  induction k generalizing m with
  | zero => rw [Nat.pow_zero, Nat.one_mul]; rfl
  | succ k ih =>
    show cZs k (cZ (2 ^ (k + 1) * m)) = m
    rw [Nat.pow_succ, Nat.mul_comm (2 ^ k) 2, Nat.mul_assoc, cZ_two, ih]
theorem low_xor (k m b : Nat) (hb : b < 2 ^ k) : 2 ^ k * m + b = 2 ^ k * m ^^^ b := by
  induction k generalizing m b with
  | zero =>
    obtain rfl : b = 0 := by simpa using hb
    rw [Nat.xor_zero, Nat.add_zero]
  | succ k ih =>
    rw [Nat.pow_succ] at hb ⊢
    have h := ih m (b / 2) (by omega)
    have e : 2 ^ k * 2 * m = 2 * (2 ^ k * m) := by rw [Nat.mul_comm (2 ^ k) 2, Nat.mul_assoc]
    have d : (2 ^ k * 2 * m ^^^ b) / 2 = 2 ^ k * m ^^^ b / 2 := by rw [Nat.xor_div_two, e]; congr 1; omega
    have q : (2 ^ k * 2 * m ^^^ b) % 2 = b % 2 := by rw [xm2, e]; omega
    rw [← h] at d
    rw [e] at d q ⊢
    omega
/-- Half a byte further, by a table. -/
theorem half_eq (r : Nat) : cZs 4 r = r / 16 ^^^ cZs 4 (r % 16) := by
  have e : r = 2 ^ 4 * (r / 16) ^^^ r % 16 := by
    rw [← low_xor 4 (r / 16) (r % 16) (by omega)]
    omega
  have h : cZs 4 r = cZs 4 (2 ^ 4 * (r / 16) ^^^ r % 16) := by rw [← e]
  rw [h, cZs_xor, cZs_pow]
/-- The bits of a number, the lowest first. -/
theorem cR_number (m r x : Nat) (hx : x < 2 ^ m) : cR (fun k => x / 2 ^ k % 2) r m = cZs m (r ^^^ x) := by
  induction m generalizing r x with
  | zero =>
    obtain rfl : x = 0 := by simpa using hx
    show r = r ^^^ 0
    rw [Nat.xor_zero]
  | succ m ih =>
    rw [Nat.pow_succ] at hx
    rw [Nat.add_comm m 1, cR_add]
    have e1 : cR (fun k => x / 2 ^ k % 2) r 1 = cZ (r ^^^ x % 2) := by show cZ (r ^^^ x / 2 ^ 0 % 2) = _; rw [Nat.pow_zero, Nat.div_one]
    have e2 : (fun k => x / 2 ^ (1 + k) % 2) = (fun k => x / 2 / 2 ^ k % 2) := by
      funext k
      rw [Nat.div_div_eq_div_mul, Nat.add_comm 1 k, Nat.pow_succ, Nat.mul_comm 2]
    rw [e1, e2, ih _ (x / 2) (by omega), Nat.add_comm 1 m]
    show cZs m (cZ (r ^^^ x % 2) ^^^ x / 2) = cZs m (cZ (r ^^^ x))
    have e3 : r ^^^ x = (r ^^^ x % 2) ^^^ 2 * (x / 2) := by
      rw [Nat.xor_assoc, Nat.xor_comm (x % 2), ← two_xor _ _ (by omega), show 2 * (x / 2) + x % 2 = x by omega]
    rw [e3, cZ_xor (r ^^^ x % 2) (2 * (x / 2)), cZ_two]
/-- The bits of a text. -/
def cBt (f : Nat → Nat) : Nat → Nat := fun k => f (k / 8) / 2 ^ (k % 8) % 2
theorem cBt_lt (f : Nat → Nat) (k : Nat) : cBt f k < 2 := Nat.mod_lt _ (by omega)
theorem cR_byte (f : Nat → Nat) (r j : Nat) (hf : f j < 256) : cR (cBt f) r (8 * (j + 1)) = cZs 8 (cR (cBt f) r (8 * j) ^^^ f j) := by
  rw [show 8 * (j + 1) = 8 * j + 8 by omega, cR_add, ← cR_number 8 _ (f j) hf]
  refine cR_congr _ _ _ _ (fun k hk => ?_)
  unfold cBt
  rw [show (8 * j + k) / 8 = j by omega, show (8 * j + k) % 8 = k by omega]
/-- Several texts, one behind the other. -/
def cF (ns : Nat → Nat) (fs : Nat → Nat → Nat) (r : Nat) : Nat → Nat
  | 0 => r
  | j + 1 => cR (cBt (fs j)) (cF ns fs r j) (8 * ns j)
theorem cF_lt (ns : Nat → Nat) (fs : Nat → Nat → Nat) (r : Nat) (hr : r < 4294967296) (j : Nat) : cF ns fs r j < 4294967296 := by
  induction j with
  | zero => exact hr
  | succ j ih => exact cR_lt _ _ ih (cBt_lt _) _
/-- One text behind the other. -/
def jn (f g : Nat → Nat) (n : Nat) : Nat → Nat := fun k => if k < n then f k else g (k - n)
theorem jn_lt (f g : Nat → Nat) (n : Nat) (hf : ∀ k, f k < 256) (hg : ∀ k, g k < 256) (k : Nat) : jn f g n k < 256 := by
  unfold jn
  split
  · exact hf k
  · exact hg _
theorem cR_jn (f g : Nat → Nat) (n m r : Nat) : cR (cBt (jn f g n)) r (8 * (n + m)) = cR (cBt g) (cR (cBt f) r (8 * n)) (8 * m) := by
  rw [Nat.mul_add, cR_add]
  rw [cR_congr (cBt (jn f g n)) (cBt f) r (8 * n) (fun k hk => by unfold cBt jn; rw [if_pos (by omega)])]
  refine cR_congr _ _ _ _ (fun k hk => ?_)
  unfold cBt jn
  rw [if_neg (by omega), show (8 * n + k) / 8 - n = k / 8 by omega, show (8 * n + k) % 8 = k % 8 by omega]
/-- The parts that are read so far, as one text. -/
def cA (ns : Nat → Nat) (fs : Nat → Nat → Nat) : Nat → Nat × (Nat → Nat)
  | 0 => (0, fun _ => 0)
  | j + 1 => ((cA ns fs j).1 + ns j, jn (cA ns fs j).2 (fs j) (cA ns fs j).1)
theorem cA_lt (ns : Nat → Nat) (fs : Nat → Nat → Nat) (K : Nat) (hf : ∀ j k, fs j k < 256) (j : Nat) : ∀ k, (cA ns fs j).2 k < 256 := by
  induction j with
  | zero => intro k; exact Nat.zero_lt_succ _
  | succ j ih => exact jn_lt _ _ _ ih (hf j)
theorem cF_cA (ns : Nat → Nat) (fs : Nat → Nat → Nat) (r j : Nat) : cF ns fs r j = cR (cBt (cA ns fs j).2) r (8 * (cA ns fs j).1) := by
  induction j with
  | zero => rfl
  | succ j ih =>
    show cR (cBt (fs j)) (cF ns fs r j) (8 * ns j) = cR (cBt (jn (cA ns fs j).2 (fs j) (cA ns fs j).1)) r (8 * ((cA ns fs j).1 + ns j))
    rw [cR_jn, ih]
theorem ones_xor (b : Nat) (hb : b < 4294967296) : 4294967295 - b = 4294967295 ^^^ b := by
  have h : ∀ (k : Nat) (b : Nat), b < 2 ^ k → (2 ^ k - 1) ^^^ b = 2 ^ k - 1 - b := by
    intro k
    induction k with
    | zero => intro b hb; obtain rfl : b = 0 := by simpa using hb
              rfl
    | succ k ih =>
      intro b hb
      have hp : 0 < 2 ^ k := Nat.two_pow_pos k
      rw [Nat.pow_succ] at hb ⊢
      have h1 := ih (b / 2) (by omega)
      have d : ((2 ^ k * 2 - 1) ^^^ b) / 2 = (2 ^ k - 1) ^^^ (b / 2) := by rw [Nat.xor_div_two]; congr 1; omega
      have m : ((2 ^ k * 2 - 1) ^^^ b) % 2 = (2 ^ k * 2 - 1 + b) % 2 := xm2 _ _
      rw [h1] at d
      omega
  exact (h 32 b hb).symm
/-- A text's sum. -/
def cS (f : Nat → Nat) (n : Nat) : Nat := 4294967295 - cR (cBt f) 4294967295 (8 * n)
theorem cS_lt (f : Nat → Nat) (n : Nat) : cS f n < 4294967296 := by unfold cS; omega
theorem cS_xor (f : Nat → Nat) (n : Nat) : cS f n = 4294967295 ^^^ cR (cBt f) 4294967295 (8 * n) := ones_xor _ (cR_lt _ _ (by omega) (cBt_lt f) _)
theorem not_not32 (x : Nat) (h : x < 4294967296) : 4294967295 - (4294967295 - x) = x := by omega
/-- Two texts' sums, joined. -/
theorem two_join (f g : Nat → Nat) (n m : Nat) : cZs (8 * m) (cS f n) ^^^ cS g m = cS (jn f g n) (n + m) := by
  have hA := cR_lt (cBt f) 4294967295 (by omega) (cBt_lt f) (8 * n)
  rw [cS_xor f n, cS_xor g m, cS_xor (jn f g n) (n + m), cR_jn]
  generalize cR (cBt f) 4294967295 (8 * n) = R at *
  have h := cR_xor (cBt g) (fun _ => 0) 4294967295 (4294967295 ^^^ R) (8 * m)
  have e1 : (fun k => cBt g k ^^^ 0) = cBt g := by funext k; rw [Nat.xor_zero]
  rw [e1, ← Nat.xor_assoc, Nat.xor_self, Nat.zero_xor, cR_none] at h
  rw [h]
  generalize cZs (8 * m) (4294967295 ^^^ R) = Z
  generalize cR (cBt g) 4294967295 (8 * m) = Y
  rw [← Nat.xor_assoc Z, Nat.xor_comm Z 4294967295, Nat.xor_assoc, Nat.xor_comm Z Y]
/-- Three texts laid over one another. -/
theorem cBt_xor (f g : Nat → Nat) (k : Nat) : cBt (fun i => f i ^^^ g i) k = cBt f k ^^^ cBt g k := by
  unfold cBt
  have h : ∀ (j a b : Nat), (a ^^^ b) / 2 ^ j % 2 = (a / 2 ^ j % 2) ^^^ (b / 2 ^ j % 2) := by
    intro j
    induction j with
    | zero =>
      intro a b
      rw [Nat.pow_zero, Nat.div_one, Nat.div_one, Nat.div_one, xm2]
      have h1 : a % 2 = 0 ∨ a % 2 = 1 := by omega
      have h2 : b % 2 = 0 ∨ b % 2 = 1 := by omega
      rcases h1 with h1 | h1 <;> rcases h2 with h2 | h2 <;> rw [h1, h2] <;> simp <;> omega
    | succ j ih =>
      intro a b
      rw [Nat.pow_succ, Nat.mul_comm (2 ^ j) 2, ← Nat.div_div_eq_div_mul, ← Nat.div_div_eq_div_mul, ← Nat.div_div_eq_div_mul, Nat.xor_div_two, ih]
  exact h _ _ _
theorem three_laid (f g h : Nat → Nat) (n : Nat) : cS (fun i => f i ^^^ g i ^^^ h i) n = cS f n ^^^ cS g n ^^^ cS h n := by
  rw [cS_xor, cS_xor f, cS_xor g, cS_xor h]
  have e1 : cBt (fun i => f i ^^^ g i ^^^ h i) = fun k => (cBt f k ^^^ cBt g k) ^^^ cBt h k := by
    funext k
    rw [cBt_xor (fun i => f i ^^^ g i) h, cBt_xor f g]
  have e2 : (4294967295 : Nat) = (4294967295 ^^^ 4294967295) ^^^ 4294967295 := by rw [Nat.xor_self, Nat.zero_xor]
  have e3 : cR (cBt (fun i => f i ^^^ g i ^^^ h i)) 4294967295 (8 * n) = cR (cBt f) 4294967295 (8 * n) ^^^ cR (cBt g) 4294967295 (8 * n) ^^^ cR (cBt h) 4294967295 (8 * n) := by
    rw [e1]
    have a1 := cR_xor (fun k => cBt f k ^^^ cBt g k) (cBt h) (4294967295 ^^^ 4294967295) 4294967295 (8 * n)
    have a2 := cR_xor (cBt f) (cBt g) 4294967295 4294967295 (8 * n)
    rw [← e2] at a1
    rw [a1, a2]
  rw [e3]
  generalize cR (cBt f) 4294967295 (8 * n) = A
  generalize cR (cBt g) 4294967295 (8 * n) = B
  generalize cR (cBt h) 4294967295 (8 * n) = C
  have e4 : ∀ o : Nat, o ^^^ (A ^^^ B ^^^ C) = (o ^^^ A) ^^^ (o ^^^ B) ^^^ (o ^^^ C) := by
    intro o
    rw [Nat.xor_comm o A, Nat.xor_assoc A o, ← Nat.xor_assoc o o B, Nat.xor_self, Nat.zero_xor, Nat.xor_comm o (A ^^^ B ^^^ C), Nat.xor_assoc (A ^^^ B), Nat.xor_comm C o]
  exact e4 _
/-- A run of turned bits is told. -/
theorem burst_text (f c : Nat → Nat) (n at' x : Nat) (hx : x < 4294967296) (hx0 : x ≠ 0) (hat : at' < 8 * n) (hc : ∀ k, k < 8 * n → cBt c k = cBt f k ^^^ (if at' ≤ k ∧ k < at' + 32 then (x.testBit (k - at')).toNat else 0)) (hin : ∀ k, k < 32 → x.testBit k = true → at' + k < 8 * n) : cS f n ≠ cS c n := by
  intro e
  have hF := cR_lt (cBt f) 4294967295 (by omega) (cBt_lt f) (8 * n)
  have hC := cR_lt (cBt c) 4294967295 (by omega) (cBt_lt c) (8 * n)
  have e2 : cR (cBt f) 4294967295 (8 * n) = cR (cBt c) 4294967295 (8 * n) := by
    unfold cS at e
    omega
  let t : Nat → Nat := fun k => if k < 8 * n then (if at' ≤ k ∧ k < at' + 32 then (x.testBit (k - at')).toNat else 0) else 0
  have ht : ∀ k, t k < 2 := fun k => by
    show (if k < 8 * n then _ else 0) < 2
    split
    · split
      · exact Bool.toNat_lt _
      · omega
    · omega
  have h := cR_xor (cBt f) (cBt c) 4294967295 4294967295 (8 * n)
  rw [e2, Nat.xor_self, Nat.xor_self] at h
  have h2 : cR (fun k => cBt f k ^^^ cBt c k) 0 (8 * n) = cR t 0 (8 * n) := cR_congr _ _ _ _ (fun k hk => by
    show cBt f k ^^^ cBt c k = if k < 8 * n then _ else 0
    rw [if_pos hk, hc k hk, ← Nat.xor_assoc, Nat.xor_self, Nat.zero_xor])
  rw [h2] at h
  refine burst_ne t ht at' (8 * n) (fun k hk => ?_) (fun k hk => ?_) (fun k hk => ?_) ?_ (by omega) h
  · show (if k < 8 * n then (if at' ≤ k ∧ k < at' + 32 then _ else 0) else 0) = 0
    rw [if_neg (show ¬ (at' ≤ k ∧ k < at' + 32) by omega)]
    split <;> rfl
  · show (if k < 8 * n then (if at' ≤ k ∧ k < at' + 32 then _ else 0) else 0) = 0
    rw [if_neg (show ¬ (at' ≤ k ∧ k < at' + 32) by omega)]
    split <;> rfl
  · show (if k < 8 * n then _ else 0) = 0
    rw [if_neg (by omega)]
  · have e3 : cN t at' 32 = x := by
      have hg : ∀ (m i : Nat), i + m ≤ 32 → cN t (at' + i) m = cN (fun k => (x.testBit k).toNat) i m := by
        intro m
        induction m with
        | zero => intro i _; rfl
        | succ m ih =>
          intro i hi
          show t (at' + i) + 2 * cN t (at' + i + 1) m = (x.testBit i).toNat + 2 * cN _ (i + 1) m
          rw [show at' + i + 1 = at' + (i + 1) by omega, ih (i + 1) (by omega)]
          congr 1
          show (if at' + i < 8 * n then (if at' ≤ at' + i ∧ at' + i < at' + 32 then (x.testBit (at' + i - at')).toNat else 0) else 0) = _
          rw [if_pos (show at' ≤ at' + i ∧ at' + i < at' + 32 by omega), show at' + i - at' = i by omega]
          by_cases hb : x.testBit i = true
          · rw [if_pos (hin i (by omega) hb)]
          · rw [Bool.not_eq_true] at hb
            rw [hb]
            split <;> rfl
      have := hg 32 0 (by omega)
      rw [Nat.add_zero] at this
      rw [this, cN_bits 32 x hx]
    rw [e3]
    exact hx0
end Go.Proofs.YtpmmfmlldkdfhaaDoor
set_option linter.unusedVariables false
set_option linter.unusedSimpArgs false
namespace Go.Proofs.YtpmmfmlldkdfhaaDoor
open Go.RowKit

theorem bel1 (w : World) (o1 : Obj) : Below w.heap.size w (w.alloc o1) := (Below.refl _ _).alloc (Nat.le_refl _) _
theorem bel2 (w : World) (o1 o2 : Obj) : Below w.heap.size w ((w.alloc o1).alloc o2) := (bel1 w o1).alloc (by simp) _
theorem bchain {a b c : World} (h : Below a.heap.size a b) (k : Below b.heap.size b c) : Below a.heap.size a c := h.trans (k.mono h.size)
theorem cell_later {w wx : World} {a : Addr} {v : Value} (hb : Below w.heap.size w wx) (hc : w.cell? a = some v) : wx.cell? a = some v := (hb.cell (World.block_lt_of_cell? _ _ hc)).trans hc
theorem frozen_later {w wx : World} {a : Addr} {v : Value} (hb : Below w.heap.size w wx) (hc : w.cell? a = some v) (h : w.frozen? a = false) : wx.frozen? a = false :=
  (hb.frozen (World.block_lt_of_cell? _ _ hc)).trans h
theorem cell_set {W : World} {p a : Addr} {x v : Value} (hp : p.block ≠ a.block) (h : W.cell? a = some v) : (W.setCell p x).cell? a = some v := by
  rw [World.cell?_setCell_far W p a x hp]; exact h
theorem own_later {wr w1 : World} {B : Nat} {e : TypeId} {s : Nat} {v : Value} {n : Nat} {xs : List Value} (h : wr.ownsRow B e s v n xs) (hb : Below wr.heap.size wr w1) : w1.ownsRow B e s v n xs := by
  refine ⟨h.1, ?_⟩
  rcases h.2 with h0 | ⟨g, cap, cur, hv, hg, hh, r⟩
  · exact Or.inl h0
  · exact Or.inr ⟨g, cap, cur, hv, hg, (hb.block g (Array.getElem?_eq_some_iff.1 hh).1).trans hh, r⟩
/-- A list that the call has made, from a block on. -/
def Ow (base : Nat) (v : Value) : Prop := ∀ (a : Addr) (n cap : Nat), v = .slice (some a) n cap → 0 < n → base ≤ a.block
def Nb (v : Value) (d : Nat) : Prop := ∀ (a : Addr) (n cap : Nat), v = .slice (some a) n cap → 0 < n → a.block ≠ d
theorem Ow.low {B B' : Nat} {v : Value} (h : Ow B v) (hl : B' ≤ B) : Ow B' v := fun a n cap e hn => Nat.le_trans hl (h a n cap e hn)
theorem ow_apart {B d : Nat} {v : Value} (h : Ow B v) (hd : d < B) : Nb v d := fun a n cap e hn e2 => by have := h a n cap e hn; omega
/-- A list in memory, its parts one cell each. -/
def Ls (w : World) (v : Value) (n : Nat) (h : Nat → Value) : Prop :=
  ∃ (adr : Option Addr) (cap b o : Nat), v = .slice adr n cap ∧ n ≤ cap ∧ (cap ≤ maxLen ∧ (adr = none → cap = 0)) ∧ (0 < n → adr = some ⟨b, o, none⟩) ∧ ∀ k, k < n → w.cell? ⟨b, o + k, none⟩ = some (h k)
theorem Ls.later {w w' : World} {v : Value} {n : Nat} {h : Nat → Value} (l : Ls w v n h) (hb : Below w.heap.size w w') : Ls w' v n h := by
  obtain ⟨adr, cap, b, o, h1, h2, h3, h4, h5⟩ := l
  exact ⟨adr, cap, b, o, h1, h2, h3, h4, fun k hk => cell_later hb (h5 k hk)⟩
theorem Ls.congr {w : World} {v : Value} {n : Nat} {h g : Nat → Value} (l : Ls w v n h) (e : ∀ k, k < n → h k = g k) : Ls w v n g := by
  obtain ⟨adr, cap, b, o, h1, h2, h3, h4, h5⟩ := l
  exact ⟨adr, cap, b, o, h1, h2, h3, h4, fun k hk => by rw [h5 k hk, e k hk]⟩
theorem Ls.spot {w : World} {v : Value} {n : Nat} {h : Nat → Value} (l : Ls w v n h) (j : Nat) (hj : j < n) : ∃ (b o cap : Nat), v = .slice (some ⟨b, o, none⟩) n cap ∧ w.cell? ⟨b, o + j, none⟩ = some (h j) := by
  obtain ⟨adr, cap, b, o, h1, h2, h3, h4, h5⟩ := l
  have e := h4 (by omega)
  subst e
  exact ⟨b, o, cap, h1, h5 j hj⟩
theorem Ls.nb {w : World} {v : Value} {n : Nat} {h : Nat → Value} (l : Ls w v n h) {d : Nat} (hd : w.heap.size ≤ d) : Nb v d := by
  obtain ⟨adr, cap, b, o, rfl, h2, h3, h4, h5⟩ := l
  intro a n' cap' e hn
  have e2 := h4 (by cases e; exact hn)
  subst e2
  cases e
  have h6 : b < w.heap.size := World.block_lt_of_cell? _ _ (h5 0 hn)
  show b ≠ d
  omega
theorem Ls.set {w : World} {v : Value} {n : Nat} {h : Nat → Value} (l : Ls w v n h) (a : Addr) (u : Value) (hn : Nb v a.block) : Ls (w.setCell a u) v n h := by
  obtain ⟨adr, cap, b, o, rfl, h2, h3, h4, h5⟩ := l
  refine ⟨adr, cap, b, o, rfl, h2, h3, h4, fun k hk => ?_⟩
  have e := h4 (by omega)
  subst e
  exact cell_set (fun e => hn _ n cap rfl (by omega) e.symm) (h5 k hk)
theorem Ls.len {w : World} {v : Value} {n : Nat} {h : Nat → Value} (l : Ls w v n h) : ∃ (ad : Option Addr) (cap : Nat), v = .slice ad n cap ∧ n ≤ cap ∧ cap ≤ maxLen := by
  obtain ⟨adr, cap, b, o, h1, h2, h3, -⟩ := l
  exact ⟨adr, cap, h1, h2, h3.1⟩
theorem Ls.nil {w : World} {n cap : Nat} {h : Nat → Value} (l : Ls w (.slice none n cap) n h) : n = 0 ∧ cap = 0 := by
  obtain ⟨adr, c, b, o, h1, h2, h3, h4, -⟩ := l
  cases h1
  have := h3.2 rfl
  omega
theorem ls_news {w : World} {a : Addr} {m cap : Nat} {h : Nat → Value} (l : Ls w (.slice (some a) m cap) m h) : ∀ j u, ((List.range m).map h)[j]? = some u → w.cell? (a.add j) = some u := by
  intro j u hj
  have hjm : j < m := by have := (List.getElem?_eq_some_iff.1 hj).1; simpa using this
  rw [List.getElem?_map, List.getElem?_range hjm] at hj
  obtain ⟨b', o', c', e', hc⟩ := l.spot j hjm
  cases e'
  rw [show (⟨b', o', none⟩ : Addr).add j = ⟨b', o' + j, none⟩ by simp [Addr.add], hc]
  exact hj
theorem ls_none (w : World) (h : Nat → Value) : Ls w (.slice none 0 0) 0 h := ⟨none, 0, 0, 0, rfl, Nat.le_refl _, ⟨Nat.zero_le _, fun _ => rfl⟩, fun h => by omega, fun k hk => by omega⟩
/-- So many cells. -/
def vl (h : Nat → Value) (n : Nat) : List Value := (List.range n).map h
theorem vl_succ (h : Nat → Value) (n : Nat) : vl h (n + 1) = vl h n ++ [h n] := by unfold vl; rw [List.range_succ, List.map_append]; rfl
theorem vl_get (h : Nat → Value) (n k : Nat) (hk : k < n) : (vl h n)[k]? = some (h k) := by unfold vl; rw [List.getElem?_map, List.getElem?_range hk]; rfl
theorem vl_len (h : Nat → Value) (n : Nat) : (vl h n).length = n := by unfold vl; simp
theorem vl_one (h : Nat → Value) (n : Nat) (ho : ∀ k, (h k).oneCell' = true) : ∀ u ∈ vl h n, u.oneCell' = true := by
  intro u hu
  unfold vl at hu
  obtain ⟨k, _, rfl⟩ := List.mem_map.1 hu
  exact ho k
theorem vl_add (h : Nat → Value) (n m : Nat) : vl h (n + m) = vl h n ++ vl (fun k => h (n + k)) m := by
  induction m with
  | zero => show vl h n = vl h n ++ []; rw [List.append_nil]
  | succ m ih => rw [← Nat.add_assoc, vl_succ, ih, vl_succ, List.append_assoc]
theorem vl_congr (h g : Nat → Value) (n : Nat) (e : ∀ k, k < n → h k = g k) : vl h n = vl g n := by
  unfold vl
  exact List.map_congr_left fun k hk => e k (List.mem_range.1 hk)
theorem ls_of_own {w : World} {base : Nat} {v : Value} {n : Nat} {h : Nat → Value} {e : TypeId} (r : w.ownsRow base e 1 v n (vl h n)) : Ls w v n h ∧ Ow base v := by
  rcases r.2 with ⟨hn, h0⟩ | ⟨g, cap, cur, hv, hbs, hg, h1, h2, h3⟩
  · subst hn h0
    exact ⟨ls_none w h, fun a n cap e => by cases e⟩
  · subst hv
    refine ⟨⟨some ⟨g, 0, none⟩, cap, g, 0, rfl, h1, ⟨h2, fun e => by cases e⟩, fun _ => rfl, fun k hk => ?_⟩, fun a n' cap' e _ => ?_⟩
    · rw [Nat.zero_add, r.cellAt k (by omega), vl_get h n k hk]
    · cases e; exact hbs
theorem own_succ {W : World} {base : Nat} {e : TypeId} {size : Nat} {v : Value} {k : Nat} {xs : List Value} (h : W.ownsRow base e size v (k + 1) xs) : ∃ g cap, v = .slice (some ⟨g, 0, none⟩) (k + 1) cap := by
  rcases h.2 with ⟨_, h0⟩ | ⟨g, cap, _, rfl, _⟩
  · omega
  · exact ⟨g, cap, rfl⟩
theorem own_sl {W : World} {base : Nat} {e : TypeId} {size : Nat} {v : Value} {k : Nat} {xs : List Value} (h : W.ownsRow base e size v k xs) : ∃ ad cap, v = .slice ad k cap := by
  rcases h.2 with ⟨h1, h0⟩ | ⟨g, cap, _, rfl, _⟩
  · subst h0; exact ⟨_, _, h1⟩
  · exact ⟨_, cap, rfl⟩
/-- What grows stays above. -/
theorem below_grow {w wr w1 : World} {e : TypeId} {s : Nat} {v : Value} {n : Nat} {xs : List Value} {o : Obj} (h : wr.ownsRow w.heap.size e s v n xs) (hW : Below w.heap.size w wr) (hg : (wr.alloc o).grownBy w1 v.ownBlock) : Below w.heap.size w w1 := by
  have hs := hW.size
  exact (hW.alloc (by omega) o).grown hg (by rw [World.size_alloc]; omega) (fun k hk => (h.lt k hk).1)
/-- Bytes, and whole numbers. -/
def by8 (f : Nat → Nat) : Nat → Value := fun k => .int .u8 ((f k : Nat) : Int)
def nt (f : Nat → Nat) : Nat → Value := fun k => .int .i64 ((f k : Nat) : Int)
theorem cell_one (w : World) (x : Value) (t : TypeId) (hx : x.oneCell' = true) : ∀ (j : Nat) (u : Value), [x][j]? = some u → (w.alloc (.cells #[x] t)).cell? ((⟨w.heap.size, 0, none⟩ : Addr).add j) = some u := by
  intro j u hj
  match j with
  | 0 =>
    simp at hj
    subst hj
    simp [go_sem]
  | j + 1 => simp at hj
theorem dinfo_int : (Tryd.prog.info? 3).map (fun i => (i.zero, i.size, i.bytes)) = some (some (.int .i64 0), 1, 8) := by kernel_rfl
theorem dinfo_byte : (Tryd.prog.info? 5).map (fun i => (i.zero, i.size, i.bytes)) = some (some (.int .u8 0), 1, 1) := by kernel_rfl
/-- Words of 32 bits. -/
theorem xor32 (a b : Nat) (ha : a < 4294967296) (hb : b < 4294967296) : bits .xor .u32 (a : Int) (b : Int) = ((a ^^^ b : Nat) : Int) := by
  have hx : a ^^^ b < 2 ^ 32 := Nat.xor_lt_two_pow (by omega) (by omega)
  have h1 : (BitVec.ofInt 32 (a : Int)).toNat = a := by
    rw [BitVec.ofInt_natCast, BitVec.toNat_ofNat]; exact Nat.mod_eq_of_lt (by omega)
  have h2 : (BitVec.ofInt 32 (b : Int)).toNat = b := by
    rw [BitVec.ofInt_natCast, BitVec.toNat_ofNat]; exact Nat.mod_eq_of_lt (by omega)
  show IntKind.u32.wrap ((BitVec.ofInt 32 (a : Int) ^^^ BitVec.ofInt 32 (b : Int)).toNat : Int) = _
  rw [BitVec.toNat_xor, h1, h2, IntKind.wrap_u32]
  omega
theorem and32 (a b : Nat) (ha : a < 4294967296) (hb : b < 4294967296) : bits .and .u32 (a : Int) (b : Int) = ((a &&& b : Nat) : Int) := by
  have hx : a &&& b < 2 ^ 32 := Nat.and_lt_two_pow _ (by omega)
  have h1 : (BitVec.ofInt 32 (a : Int)).toNat = a := by
    rw [BitVec.ofInt_natCast, BitVec.toNat_ofNat]; exact Nat.mod_eq_of_lt (by omega)
  have h2 : (BitVec.ofInt 32 (b : Int)).toNat = b := by
    rw [BitVec.ofInt_natCast, BitVec.toNat_ofNat]; exact Nat.mod_eq_of_lt (by omega)
  show IntKind.u32.wrap ((BitVec.ofInt 32 (a : Int) &&& BitVec.ofInt 32 (b : Int)).toNat : Int) = _
  rw [BitVec.toNat_and, h1, h2, IntKind.wrap_u32]
  omega
theorem xor8 (a b : Nat) (ha : a < 256) (hb : b < 256) : bits .xor .u8 (a : Int) (b : Int) = ((a ^^^ b : Nat) : Int) := by
  have hx : a ^^^ b < 2 ^ 8 := Nat.xor_lt_two_pow (by omega) (by omega)
  have h1 : (BitVec.ofInt 8 (a : Int)).toNat = a := by
    rw [BitVec.ofInt_natCast, BitVec.toNat_ofNat]; exact Nat.mod_eq_of_lt (by omega)
  have h2 : (BitVec.ofInt 8 (b : Int)).toNat = b := by
    rw [BitVec.ofInt_natCast, BitVec.toNat_ofNat]; exact Nat.mod_eq_of_lt (by omega)
  show IntKind.u8.wrap ((BitVec.ofInt 8 (a : Int) ^^^ BitVec.ofInt 8 (b : Int)).toNat : Int) = _
  rw [BitVec.toNat_xor, h1, h2, IntKind.wrap_u8]
  omega
theorem and8 (a b : Nat) (ha : a < 256) (hb : b < 256) : bits .and .u8 (a : Int) (b : Int) = ((a &&& b : Nat) : Int) := by
  have hx : a &&& b < 2 ^ 8 := Nat.and_lt_two_pow _ (by omega)
  have h1 : (BitVec.ofInt 8 (a : Int)).toNat = a := by
    rw [BitVec.ofInt_natCast, BitVec.toNat_ofNat]; exact Nat.mod_eq_of_lt (by omega)
  have h2 : (BitVec.ofInt 8 (b : Int)).toNat = b := by
    rw [BitVec.ofInt_natCast, BitVec.toNat_ofNat]; exact Nat.mod_eq_of_lt (by omega)
  show IntKind.u8.wrap ((BitVec.ofInt 8 (a : Int) &&& BitVec.ofInt 8 (b : Int)).toNat : Int) = _
  rw [BitVec.toNat_and, h1, h2, IntKind.wrap_u8]
  omega
end Go.Proofs.YtpmmfmlldkdfhaaDoor
set_option linter.unusedVariables false
set_option linter.unusedSimpArgs false
namespace Go.Proofs.YtpmmfmlldkdfhaaDoor
open Go.RowKit

/-- A row of so many cells. -/
structure Rw (b n : Nat) (h : Nat → Value) (w : World) : Prop where
  c : ∀ k, k < n → w.cell? ⟨b, k, none⟩ = some (h k)
  f : ∀ k, k < n → w.frozen? ⟨b, k, none⟩ = false
theorem Rw.later {b n : Nat} {h : Nat → Value} {w w' : World} (r : Rw b n h w) (hb : Below w.heap.size w w') : Rw b n h w' :=
  ⟨fun k hk => cell_later hb (r.c k hk), fun k hk => frozen_later hb (r.c k hk) (r.f k hk)⟩
theorem Rw.block {b n : Nat} {h : Nat → Value} {w w' : World} (r : Rw b n h w) (hb : w'.heap[b]? = w.heap[b]?) : Rw b n h w' :=
  ⟨fun k hk => (World.cell?_of_block (w := w) hb).trans (r.c k hk), fun k hk => (World.frozen?_of_block (w := w) hb).trans (r.f k hk)⟩
theorem Rw.far {b n : Nat} {h : Nat → Value} {w : World} {p : Addr} (r : Rw b n h w) (u : Value) (hp : p.block ≠ b) : Rw b n h (w.setCell p u) :=
  ⟨fun k hk => cell_set hp (r.c k hk), fun k hk => by rw [World.frozen?_setCell]; exact r.f k hk⟩
theorem Rw.set {b n : Nat} {h : Nat → Value} {w : World} (r : Rw b n h w) (j : Nat) (u : Value) : Rw b n (fun k => if k = j then u else h k) (w.setCell ⟨b, j, none⟩ u) := by
  refine ⟨fun k hk => ?_, fun k hk => by rw [World.frozen?_setCell]; exact r.f k hk⟩
  by_cases e : k = j
  · subst e
    simp only [if_true]
    exact World.cell?_setCell_same' _ _ _ (by rw [r.c k hk]; rfl)
  · simp only [if_neg e]
    exact (World.cell?_setCell_other _ _ _ _ (by first | (simp; done) | (simp; omega))).trans (r.c k hk)
theorem Rw.congr {b n : Nat} {h g : Nat → Value} {w : World} (r : Rw b n h w) (e : ∀ k, k < n → h k = g k) : Rw b n g w :=
  ⟨fun k hk => by rw [r.c k hk, e k hk], r.f⟩
theorem made_get (z : Value) (n k : Nat) (hk : k < n) : (madeCells #[z] n)[k]? = some z := by
  unfold madeCells
  rw [Array.getElem?_map, Array.getElem?_eq_getElem (by simpa using hk)]
  simp [Nat.mod_one]
theorem Rw.made (w : World) (z : Value) (n : Nat) (t : TypeId) : Rw w.heap.size n (fun _ => z) (w.alloc (.cells (madeCells #[z] n) t)) := by
  refine ⟨fun k hk => ?_, fun k hk => ?_⟩
  · have := made_get z n k hk
    simp [go_sem, this]
  · simp [go_sem]
theorem own_row {w : World} {base : Nat} {e : TypeId} {v : Value} {n : Nat} {h : Nat → Value} (r : w.ownsRow base e 1 v n (vl h n)) (hn : 0 < n) : ∃ g cap, v = .slice (some ⟨g, 0, none⟩) n cap ∧ base ≤ g ∧ n ≤ cap ∧ cap ≤ maxLen ∧ Rw g n h w := by
  rcases r.2 with ⟨_, h0⟩ | ⟨g, cap, cur, rfl, hg, hh, hc1, hc2, hsz, htk⟩
  · omega
  · refine ⟨g, cap, rfl, hg, hc1, hc2, ⟨fun k hk => ?_, fun k hk => by simp [World.frozen?, hh]⟩⟩
    rw [r.cellAt k (by omega), vl_get h n k hk]
theorem Rw.lt {b n : Nat} {h : Nat → Value} {w : World} (r : Rw b n h w) (hn : 0 < n) : b < w.heap.size := World.block_lt_of_cell? _ _ (r.c 0 hn)
theorem Rw.ls {g n : Nat} {h : Nat → Value} {w : World} (r : Rw g n h w) (o m cap : Nat) (hm : o + m ≤ n) (hc : m ≤ cap) (hx : cap ≤ maxLen) : Ls w (.slice (some ⟨g, o, none⟩) m cap) m (fun k => h (o + k)) := ⟨_, cap, g, o, rfl, hc, ⟨hx, fun e => by cases e⟩, fun _ => rfl, fun k hk => r.c (o + k) (by omega)⟩
/-- From a world to one in which one block alone was written. -/
structure Wr (b : Nat) (w w' : World) : Prop where
  o : ∀ i, i ≠ b → w'.heap[i]? = w.heap[i]?
  s : w'.heap.size = w.heap.size
  B : ∀ (base : Nat) (w0 : World), base ≤ b → Below base w0 w → Below base w0 w'
theorem Wr.same (b : Nat) (w : World) : Wr b w w := ⟨fun _ _ => rfl, rfl, fun _ _ _ h => h⟩
theorem Wr.set {b : Nat} {w w' : World} (h : Wr b w w') (j : Nat) (u : Value) : Wr b w (w'.setCell ⟨b, j, none⟩ u) :=
  ⟨fun i hi => (Below.heap_setCell _ _ _ _ hi).trans (h.o i hi), by rw [World.size_setCell]; exact h.s, fun base w0 h1 h2 => (h.B base w0 h1 h2).setCell (by dsimp only; omega) u⟩
theorem Wr.cell {b : Nat} {w w' : World} (h : Wr b w w') {a : Addr} {v : Value} (hn : a.block ≠ b) (hc : w.cell? a = some v) : w'.cell? a = some v := (World.cell?_of_block (w := w) (h.o _ hn)).trans hc
theorem Ls.wr {b : Nat} {w w' : World} {v : Value} {n : Nat} {h : Nat → Value} (l : Ls w v n h) (hW : Wr b w w') (hn : Nb v b) : Ls w' v n h := by
  obtain ⟨adr, cap, q, o, rfl, h2, h3, h4, h5⟩ := l
  refine ⟨adr, cap, q, o, rfl, h2, h3, h4, fun k hk => ?_⟩
  have e := h4 (by omega)
  subst e
  exact hW.cell (hn ⟨q, o, none⟩ n cap rfl (by omega)) (h5 k hk)
theorem nt_set {g n : Nat} {F : Nat → Nat} {w : World} (r : Rw g n (nt F) w) (j x : Nat) : Rw g n (nt (fun k => if k = j then x else F k)) (w.setCell ⟨g, j, none⟩ (.int .i64 (x : Int))) := by
  refine (r.set j (.int .i64 (x : Int))).congr (fun k hk => ?_)
  unfold nt
  by_cases e : k = j
  · simp [e]
  · simp [e]
theorem nt_congr {g n : Nat} {F G : Nat → Nat} {w : World} (r : Rw g n (nt F) w) (e : ∀ k, k < n → F k = G k) : Rw g n (nt G) w := r.congr (fun k hk => by unfold nt; rw [e k hk])
end Go.Proofs.YtpmmfmlldkdfhaaDoor
