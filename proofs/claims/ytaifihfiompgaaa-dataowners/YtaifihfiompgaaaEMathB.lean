/-
  Stirred words: what rand's words are, as plain numbers.
-/
import Derived.Test.YtaifihfiompgaaaEMathA
import Derived.Laws.Bits64
set_option linter.unusedVariables false
set_option linter.unusedSimpArgs false
namespace Go.Proofs.Ytaifihfiompgaaa

/-- The stir. -/
def stY (x : Nat) : Nat := (x ^^^ x / 4294967296) * 11400714819323198549 % 18446744073709551616
def stZ (y : Nat) : Nat := (y ^^^ y / 536870912) * 15241094284759029579 % 18446744073709551616
def stN (x : Nat) : Nat := stZ (stY x) ^^^ stZ (stY x) / 4294967296
theorem xor_in (a b : Nat) (ha : a < 18446744073709551616) (hb : b < 18446744073709551616) : a ^^^ b < 18446744073709551616 := Nat.xor_lt_two_pow (n := 64) (by omega) (by omega)
theorem stY_lt (x : Nat) : stY x < 18446744073709551616 := Nat.mod_lt _ (by omega)
theorem stZ_lt (x : Nat) : stZ x < 18446744073709551616 := Nat.mod_lt _ (by omega)
theorem stN_lt (x : Nat) : stN x < 18446744073709551616 := xor_in _ _ (stZ_lt _) (by have := stZ_lt (stY x); omega)
/-- A number as 64 bits without a sign. -/
def u6 (n : Int) : Nat := (n % 18446744073709551616).toNat
theorem u6_lt (n : Int) : u6 n < 18446744073709551616 := by unfold u6; omega
theorem u6_cast (n : Int) : ((u6 n : Nat) : Int) = n % 18446744073709551616 := by unfold u6; omega
theorem u6_pos (n : Int) (h0 : 0 ≤ n) (h1 : n < 18446744073709551616) : ((u6 n : Nat) : Int) = n := by rw [u6_cast]; omega
/-- One number more stirred in. -/
def mxN (w : Nat) (n : Int) : Nat := stN (((w ^^^ u6 n) + 14029467366897019727) % 18446744073709551616)
theorem mxN_lt (w : Nat) (n : Int) : mxN w n < 18446744073709551616 := stN_lt _
/-- A key's root. -/
def rtN (s : Nat) (a b c : Int) : Nat := mxN (mxN (mxN (stN ((s + 7046029254386353131) % 18446744073709551616)) a) b) c
theorem rtN_lt (s : Nat) (a b c : Int) : rtN s a b c < 18446744073709551616 := mxN_lt _ _
/-- A word. -/
def wdN (s : Nat) (a b c i : Int) : Nat := stN (rtN s a b c ^^^ (u6 i * 11400714819323198485 % 18446744073709551616))
theorem wdN_lt (s : Nat) (a b c i : Int) : wdN s a b c i < 18446744073709551616 := stN_lt _
/-- A number below another. -/
def blN (w n : Nat) : Nat := w * n / 18446744073709551616
theorem blN_lt (w n : Nat) (hw : w < 18446744073709551616) (hn : 0 < n) : blN w n < n := by
  unfold blN
  rw [Nat.div_lt_iff_lt_mul (by omega), Nat.mul_comm n]
  exact Nat.mul_lt_mul_of_pos_right hw hn
theorem blN_le (w n : Nat) (hw : w < 18446744073709551616) : blN w n ≤ n := by
  unfold blN
  apply Nat.div_le_of_le_mul
  exact Nat.mul_le_mul_right n (by omega)
/-- A part. -/
def ptN (w : Nat) : Nat := w / 4294967296
theorem ptN_lt (w : Nat) (hw : w < 18446744073709551616) : ptN w < 4294967296 := by unfold ptN; omega
/-- As much more. -/
def bwN (d p : Nat) : Nat := d * p / 4294967296
theorem bwN_lt (d p : Nat) (hp : p < 4294967296) (hd : 0 < d) : bwN d p < d := by
  unfold bwN
  rw [Nat.div_lt_iff_lt_mul (by omega)]
  exact Nat.mul_lt_mul_of_pos_left hp hd
/-- What a round of a trip stirs in: the lowest bits of a word. -/
def rfN (s : Nat) (a b c : Int) (S t r : Nat) : Nat := wdN s a b c (1024 * (t : Int) + (r : Int)) % S
theorem rfN_lt (s : Nat) (a b c : Int) (S t r : Nat) (hS : 0 < S) : rfN s a b c S t r < S := Nat.mod_lt _ hS
/-- How wide a half is: the least power of two, 2 at least, whose square isn't below n. -/
def Hf (n b : Nat) : Prop := 1 ≤ b ∧ n ≤ 2 ^ b * 2 ^ b ∧ (b = 1 ∨ 2 ^ (b - 1) * 2 ^ (b - 1) < n)
theorem Hf.one {n b c : Nat} (h : Hf n b) (h' : Hf n c) : b = c := by
  have key : ∀ p q : Nat, Hf n p → Hf n q → ¬ p < q := fun p q hp hq hlt => by
    rcases hq.2.2 with h1 | h1
    · have := hp.1; omega
    · have h2 : 2 ^ p ≤ 2 ^ (q - 1) := Nat.pow_le_pow_right (by omega) (by omega)
      have h3 := Nat.mul_le_mul h2 h2
      have h4 := hp.2.1
      omega
  rcases Nat.lt_trichotomy b c with h1 | h1 | h1
  · exact absurd h1 (key b c h h')
  · exact h1
  · exact absurd h1 (key c b h' h)
/-- Where i goes. -/
def Goes (s : Nat) (a b c : Int) (n i x : Nat) : Prop := ∃ k, Hf n k ∧ Gets (trp (rfN s a b c (2 ^ k)) (2 ^ k)) n i x
def Comes (s : Nat) (a b c : Int) (n j x : Nat) : Prop := ∃ k, Hf n k ∧ Gets (prt (rfN s a b c (2 ^ k)) (2 ^ k)) n j x
theorem Goes.one {s : Nat} {a b c : Int} {n i x y : Nat} (h : Goes s a b c n i x) (h' : Goes s a b c n i y) : x = y := by
  obtain ⟨k, h1, h2⟩ := h
  obtain ⟨q, h3, h4⟩ := h'
  obtain rfl := h1.one h3
  exact h2.one h4
theorem Comes.one {s : Nat} {a b c : Int} {n i x y : Nat} (h : Comes s a b c n i x) (h' : Comes s a b c n i y) : x = y := by
  obtain ⟨k, h1, h2⟩ := h
  obtain ⟨q, h3, h4⟩ := h'
  obtain rfl := h1.one h3
  exact h2.one h4
theorem Goes.comes {s : Nat} {a b c : Int} {n i x : Nat} (hi : i < n) (h : Goes s a b c n i x) : Comes s a b c n x i := by
  obtain ⟨k, h1, h2⟩ := h
  have hf : ∀ t r, rfN s a b c (2 ^ k) t r < 2 ^ k := fun t r => rfN_lt _ _ _ _ _ _ _ (Nat.two_pow_pos k)
  exact ⟨k, h1, h2.back (fun y hy => trp_lt _ k hf y hy) (fun y hy => prt_trp _ k hf y hy) h1.2.1 hi⟩
theorem Comes.goes {s : Nat} {a b c : Int} {n i x : Nat} (hi : i < n) (h : Comes s a b c n i x) : Goes s a b c n x i := by
  obtain ⟨k, h1, h2⟩ := h
  have hf : ∀ t r, rfN s a b c (2 ^ k) t r < 2 ^ k := fun t r => rfN_lt _ _ _ _ _ _ _ (Nat.two_pow_pos k)
  exact ⟨k, h1, h2.back (fun y hy => prt_lt _ k hf y hy) (fun y hy => trp_prt _ k hf y hy) h1.2.1 hi⟩
theorem Goes.lt {s : Nat} {a b c : Int} {n i x : Nat} (h : Goes s a b c n i x) : x < n := by
  obtain ⟨k, -, m, -, -, h3, -⟩ := h
  exact h3
theorem Comes.lt {s : Nat} {a b c : Int} {n i x : Nat} (h : Comes s a b c n i x) : x < n := by
  obtain ⟨k, -, m, -, -, h3, -⟩ := h
  exact h3
end Go.Proofs.Ytaifihfiompgaaa
