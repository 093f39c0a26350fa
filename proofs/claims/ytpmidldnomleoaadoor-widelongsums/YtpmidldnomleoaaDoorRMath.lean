/-
  Plain arithmetic of lists of bits, the lowest first: 'bl m v' are the m lowest bits of the whole number v.
-/
import Derived.Test.YtpmidldnomleoaaDoorMath5
set_option linter.unusedVariables false
namespace Go.Proofs.YtpmidldnomleoaaDoor

def bl (m : Nat) (v : Int) : List Int := (List.range m).map (fun i => v / 2 ^ i % 2)
theorem bl_zero (v : Int) : bl 0 v = [] := rfl
theorem bl_succ (m : Nat) (v : Int) : bl (m + 1) v = bl m v ++ [v / 2 ^ m % 2] := by
  unfold bl; rw [List.range_succ, List.map_append]; rfl
theorem bl_len (m : Nat) (v : Int) : (bl m v).length = m := by unfold bl; rw [List.length_map, List.length_range]
theorem bl_get (m : Nat) (v : Int) (i : Nat) (h : i < m) : (bl m v)[i]? = some (v / 2 ^ i % 2) := by
  unfold bl; rw [List.getElem?_map, List.getElem?_range h]; rfl
theorem bit_01 (v : Int) : v % 2 = 0 ∨ v % 2 = 1 := by omega
theorem bit_congr (a b : Int) (m i : Nat) (h : i < m) (hc : (a - b) % 2 ^ m = 0) : a / 2 ^ i % 2 = b / 2 ^ i % 2 := by
  obtain ⟨c, hc⟩ := Int.dvd_of_emod_eq_zero hc
  have e : a = b + 2 ^ i * (2 * (2 ^ (m - i - 1) * c)) := by
    have : (2 : Int) ^ m = 2 ^ i * (2 * 2 ^ (m - i - 1)) := by
      rw [show (2 : Int) * 2 ^ (m - i - 1) = 2 ^ (m - i - 1 + 1) by rw [Int.pow_succ, Int.mul_comm], ← Int.pow_add]; congr 1; omega
    rw [this] at hc
    have e2 : 2 ^ i * (2 * 2 ^ (m - i - 1)) * c = 2 ^ i * (2 * (2 ^ (m - i - 1) * c)) := by rw [Int.mul_assoc, Int.mul_assoc]
    omega
  have hp : (2 : Int) ^ i ≠ 0 := by have := pow_pos' i; omega
  rw [e, Int.add_mul_ediv_left _ _ hp]
  omega
theorem bl_congr (a b : Int) (m : Nat) (hc : (a - b) % 2 ^ m = 0) : bl m a = bl m b := by
  unfold bl
  apply List.map_congr_left
  intro i hi
  exact bit_congr a b m i (List.mem_range.1 hi) hc
/-- Beyond its sign a number's bits are all alike. -/
theorem bit_top (x : Int) (k : Nat) (hk : 63 ≤ k) (h0 : -9223372036854775808 ≤ x) (h1 : x ≤ 9223372036854775807) : x / 2 ^ k % 2 = if x < 0 then 1 else 0 := by
  have hp := pow_pos' (k - 63)
  have e : (2 : Int) ^ k = 9223372036854775808 * 2 ^ (k - 63) := by
    rw [show (9223372036854775808 : Int) = 2 ^ 63 from rfl, ← Int.pow_add]; congr 1; omega
  rw [e, ← Int.ediv_ediv_of_nonneg (by omega)]
  by_cases h : x < 0
  · have h2 : x / 9223372036854775808 = -1 := by omega
    rw [h2, if_pos h, Int.ediv_eq_neg_one_of_neg_of_le (by omega) (by omega)]; rfl
  · have h2 : x / 9223372036854775808 = 0 := by omega
    rw [h2, if_neg h, Int.zero_ediv]; rfl

end Go.Proofs.YtpmidldnomleoaaDoor
