/-
  Plain numbers of layer 11: bits of a text that are turned one by one.
-/
import Derived.Test.YtfcbgkcclganmaaDoorCMath3
set_option linter.unusedVariables false
namespace Go.Proofs.YtfcbgkcclganmaaDoor

/-- The text, so many of the run's bits turned. -/
def bF (f : Nat → Nat) (p x : Nat) : Nat → Nat → Nat
  | 0 => f
  | j + 1 => if x.testBit j = true then (fun q => if q = (p + j) / 8 then bF f p x j q ^^^ 2 ^ ((p + j) % 8) else bF f p x j q) else bF f p x j
theorem bF_lt (f : Nat → Nat) (p x : Nat) (hf : ∀ k, f k < 256) (j : Nat) : ∀ k, bF f p x j k < 256 := by
  induction j with
  | zero => exact hf
  | succ j ih =>
    intro k
    show (if x.testBit j = true then (fun q => if q = (p + j) / 8 then bF f p x j q ^^^ 2 ^ ((p + j) % 8) else bF f p x j q) else bF f p x j) k < 256
    split
    · dsimp only
      split
      · refine Nat.xor_lt_two_pow (n := 8) (ih k) (Nat.pow_lt_pow_right (by omega) (by omega))
      · exact ih k
    · exact ih k
theorem pow_bit (e i : Nat) (he : e < 8) (hi : i < 8) : 2 ^ e / 2 ^ i % 2 = if i = e then 1 else 0 := by
  have : ∀ e i : Fin 8, 2 ^ e.1 / 2 ^ i.1 % 2 = if i.1 = e.1 then 1 else 0 := by decide
  exact this ⟨e, he⟩ ⟨i, hi⟩
theorem bF_bits (f : Nat → Nat) (p x j q : Nat) : cBt (bF f p x j) q = cBt f q ^^^ (if p ≤ q ∧ q < p + j then (x.testBit (q - p)).toNat else 0) := by
  induction j with
  | zero =>
    rw [if_neg (by omega), Nat.xor_zero]
    rfl
  | succ j ih =>
    by_cases hb : x.testBit j = true
    · have e : bF f p x (j + 1) = fun i => bF f p x j i ^^^ (if i = (p + j) / 8 then 2 ^ ((p + j) % 8) else 0) := by
        show (if x.testBit j = true then _ else _) = _
        rw [if_pos hb]
        funext i
        by_cases hi : i = (p + j) / 8
        · rw [if_pos hi, if_pos hi]
        · rw [if_neg hi, if_neg hi, Nat.xor_zero]
      rw [e, cBt_xor, ih]
      have h : cBt (fun i => if i = (p + j) / 8 then 2 ^ ((p + j) % 8) else 0) q = if q = p + j then 1 else 0 := by
        show (if q / 8 = (p + j) / 8 then 2 ^ ((p + j) % 8) else 0) / 2 ^ (q % 8) % 2 = _
        by_cases h8 : q / 8 = (p + j) / 8
        · rw [if_pos h8, pow_bit _ _ (by omega) (by omega)]
          by_cases hq : q = p + j
          · rw [if_pos (by omega), if_pos hq]
          · rw [if_neg (by omega), if_neg hq]
        · rw [if_neg h8, if_neg (by intro e; exact h8 (by rw [e]))]
          simp
      rw [h, Nat.xor_assoc]
      congr 1
      by_cases hq : q = p + j
      · rw [if_neg (by omega), if_pos hq, if_pos (by omega), Nat.zero_xor, hq, show p + j - p = j by omega, hb]
        rfl
      · rw [if_neg hq, Nat.xor_zero]
        by_cases h1 : p ≤ q ∧ q < p + j
        · rw [if_pos h1, if_pos (by omega)]
        · rw [if_neg h1, if_neg (by omega)]
    · have e : bF f p x (j + 1) = bF f p x j := by
        show (if x.testBit j = true then _ else _) = _
        rw [if_neg hb]
      rw [e, ih]
      congr 1
      by_cases hq : q = p + j
      · rw [if_neg (by omega), if_pos (by omega), hq, show p + j - p = j by omega]
        rw [Bool.not_eq_true] at hb
        rw [hb]
        rfl
      · by_cases h1 : p ≤ q ∧ q < p + j
        · rw [if_pos h1, if_pos (by omega)]
        · rw [if_neg h1, if_neg (by omega)]
theorem bF_step (f : Nat → Nat) (p x j k : Nat) (hb : x.testBit j = true) : (if k = (p + j) / 8 then bF f p x j ((p + j) / 8) ^^^ 2 ^ ((p + j) % 8) else bF f p x j k) = bF f p x (j + 1) k := by
  show _ = (if x.testBit j = true then (fun q => if q = (p + j) / 8 then bF f p x j q ^^^ 2 ^ ((p + j) % 8) else bF f p x j q) else bF f p x j) k
  rw [if_pos hb]
  by_cases h : k = (p + j) / 8
  · rw [if_pos h, if_pos h, h]
  · rw [if_neg h, if_neg h]
theorem bF_same (f : Nat → Nat) (p x j k : Nat) (hb : ¬ x.testBit j = true) : bF f p x (j + 1) k = bF f p x j k := by
  show (if x.testBit j = true then (fun q => if q = (p + j) / 8 then bF f p x j q ^^^ 2 ^ ((p + j) % 8) else bF f p x j q) else bF f p x j) k = _
  rw [if_neg hb]
end Go.Proofs.YtfcbgkcclganmaaDoor
