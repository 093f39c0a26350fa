/-
  Contracts of regattaref02's half, Less, One64.
-/
import Derived.Test.YtekdpeiemfppiabDoorSWalkA
set_option linter.unusedVariables false
set_option linter.unusedSimpArgs false
namespace Go.Proofs.YtekdpeiemfppiabDoor
open Go.RowKit

theorem dg_up (a : Int) (q : Nat) : a / 2 ^ (32 * q) = a / 2 ^ (32 * (q + 1)) * 4294967296 + dg a q := by
  have hp := pow_pos' (32 * q)
  rw [pow32, ← Int.ediv_ediv_of_nonneg (by omega)]
  unfold dg
  omega
theorem lt_of_up (a b : Int) (q : Nat) (h : a / 2 ^ q < b / 2 ^ q) : a < b := by
  have hp := pow_pos' q
  rcases Int.lt_or_le a b with h1 | h1
  · exact h1
  · have := Int.ediv_le_ediv (show (0 : Int) < 2 ^ q by omega) h1
    omega
theorem less_digit (a b : Int) (q : Nat) (h : a / 2 ^ (32 * (q + 1)) = b / 2 ^ (32 * (q + 1))) (hn : dg a q ≠ dg b q) : decide (dg a q < dg b q) = decide (a < b) := by
  have ea := dg_up a q
  have eb := dg_up b q
  rw [h] at ea
  by_cases hl : dg a q < dg b q
  · rw [decide_eq_true hl, decide_eq_true (lt_of_up a b (32 * q) (by omega))]
  · have := lt_of_up b a (32 * q) (by omega)
    rw [decide_eq_false hl, decide_eq_false (by omega)]
theorem same_digit (a b : Int) (q : Nat) (h : a / 2 ^ (32 * (q + 1)) = b / 2 ^ (32 * (q + 1))) (hn : dg a q = dg b q) : a / 2 ^ (32 * q) = b / 2 ^ (32 * q) := by
  rw [dg_up a q, dg_up b q, h, hn]

theorem one_digit (x : Int) (p k : Nat) (x0 : 0 ≤ x) (x1 : x ≤ 18446744073709551615) : dg (x * 2 ^ (32 * p)) k = if k = p + 1 then x / 4294967296 else if k = p then x % 4294967296 else 0 := by
  have hp := pow_pos' (32 * p)
  unfold dg
  rcases (show k < p ∨ k = p ∨ k = p + 1 ∨ p + 2 ≤ k by omega) with h | rfl | rfl | h
  · rw [if_neg (by omega), if_neg (by omega)]
    have e : x * 2 ^ (32 * p) = x * 2 ^ (32 * (p - k - 1)) * 4294967296 * 2 ^ (32 * k) := by
      rw [show (4294967296 : Int) = 2 ^ 32 from rfl, Int.mul_assoc, Int.mul_assoc, ← Int.pow_add, ← Int.pow_add]
      congr 2; omega
    have hk := pow_pos' (32 * k)
    rw [e, Int.mul_ediv_cancel _ (by omega), Int.mul_emod_left]
  · rw [if_neg (by omega), if_pos rfl, Int.mul_ediv_cancel _ (by omega)]
  · rw [if_pos rfl, pow32, ← Int.ediv_ediv_of_nonneg (by omega), Int.mul_ediv_cancel _ (by omega)]
    omega
  · rw [if_neg (by omega), if_neg (by omega)]
    have e : (2 : Int) ^ (32 * k) = 2 ^ (32 * p) * (18446744073709551616 * 2 ^ (32 * (k - p - 2))) := by
      rw [show (18446744073709551616 : Int) = 2 ^ 64 from rfl, ← Int.pow_add, ← Int.pow_add]
      congr 1; omega
    have hk := pow_pos' (32 * (k - p - 2))
    have hx : (18446744073709551616 : Int) * 1 ≤ 18446744073709551616 * 2 ^ (32 * (k - p - 2)) := Int.mul_le_mul_of_nonneg_left (by omega) (by omega)
    rw [e, ← Int.ediv_ediv_of_nonneg (by omega), Int.mul_ediv_cancel _ (by omega), Int.ediv_eq_zero_of_lt x0 (by omega)]
    rfl

end Go.Proofs.YtekdpeiemfppiabDoor
