/-
  Plain arithmetic of regattaref03's Parse, and its contract where the text is a number's and short enough.
-/
import Derived.Test.YtekdpeiemfppiabDoorDWalkE
set_option linter.unusedVariables false
set_option linter.unusedSimpArgs false
namespace Go.Proofs.YtekdpeiemfppiabDoor
open Go.RowKit

theorem dd_low (x y : Nat) (hy : y < 10) : dd (10 * x + y) 0 = y := by unfold dd; rw [Nat.pow_zero, Nat.div_one]; omega
theorem dd_up (x y k : Nat) (hy : y < 10) : dd (10 * x + y) (k + 1) = dd x k := by
  unfold dd
  rw [Nat.pow_succ, Nat.mul_comm (10 ^ k), ← Nat.div_div_eq_div_mul, show (10 * x + y) / 10 = x by omega]
theorem num_dig (t : List UInt8) (hd : ∀ i, i < t.length → 48 ≤ gb t i ∧ gb t i ≤ 57) : ∀ j, j ≤ t.length → num (t.take j) < 10 ^ j ∧ ∀ k, k < j → dd (num (t.take j)) k = gb t (j - 1 - k) - 48 := by
  intro j
  induction j with
  | zero => intro _; exact ⟨by rw [List.take_zero]; decide, fun k hk => by omega⟩
  | succ j ih =>
    intro hj
    obtain ⟨h1, h2⟩ := ih (by omega)
    have hg := hd j (by omega)
    rw [num_take t j (by omega)]
    refine ⟨by rw [Nat.pow_succ]; omega, fun k hk => ?_⟩
    cases k with
    | zero => rw [dd_low _ _ (by omega), show j + 1 - 1 - 0 = j by omega]
    | succ k => rw [dd_up _ _ _ (by omega), h2 k (by omega), show j + 1 - 1 - (k + 1) = j - 1 - k by omega]
theorem num_all (t : List UInt8) (hd : ∀ i, i < t.length → 48 ≤ gb t i ∧ gb t i ≤ 57) : num t < 10 ^ t.length ∧ ∀ k, k < t.length → dd (num t) k = gb t (t.length - 1 - k) - 48 := by
  have h := num_dig t hd t.length (Nat.le_refl _)
  rw [List.take_length] at h
  exact h
/-- What is cut off: 0 nothing, 1 less than half, 2 half, 3 more. -/
def rs (L i : Nat) : Int := if L % 10 ^ i = 0 then 0 else if 2 * (L % 10 ^ i) < 10 ^ i then 1 else if 2 * (L % 10 ^ i) = 10 ^ i then 2 else 3
theorem rs_zero (L : Nat) : rs L 0 = 0 := by unfold rs; rw [if_pos (by rw [Nat.pow_zero, Nat.mod_one])]
theorem rs_pos (L i : Nat) : 0 ≤ rs L i ∧ rs L i ≤ 3 ∧ (0 < rs L i ↔ L % 10 ^ i ≠ 0) := by
  unfold rs
  by_cases h : L % 10 ^ i = 0
  · rw [if_pos h]; simp [h]
  · rw [if_neg h]
    split
    · simp [h]
    · split <;> simp [h]
theorem rs_step (L i : Nat) : rs L (i + 1) = if 5 < dd L i ∨ (dd L i = 5 ∧ 0 < rs L i) then 3 else if dd L i = 5 then 2 else if 0 < dd L i ∨ 0 < rs L i then 1 else rs L i := by
  have hp := ten_pos i
  have hr := Nat.mod_lt L hp
  have h3 := (rs_pos L i).2.2
  have hd := dd_lt L i
  have e : rs L i = 0 ∨ 0 < rs L i := by have := (rs_pos L i).1; omega
  have hR : rs L (i + 1) = (if dd L i * 10 ^ i + L % 10 ^ i = 0 then 0 else if 2 * (dd L i * 10 ^ i + L % 10 ^ i) < 10 * 10 ^ i then 1 else if 2 * (dd L i * 10 ^ i + L % 10 ^ i) = 10 * 10 ^ i then 2 else 3) := by
    unfold rs
    rw [dmod_up, Nat.pow_succ, Nat.mul_comm (10 ^ i) 10]
  rw [hR]
  generalize rs L i = s at *
  generalize dd L i = d at *
  generalize L % 10 ^ i = r at *
  generalize 10 ^ i = P at *
  rcases (show d = 0 ∨ d = 1 ∨ d = 2 ∨ d = 3 ∨ d = 4 ∨ d = 5 ∨ d = 6 ∨ d = 7 ∨ d = 8 ∨ d = 9 by omega) with h | h | h | h | h | h | h | h | h | h <;> subst h
  · by_cases h0 : r = 0
    · have hs : s = 0 := by rcases e with e | e; · exact e
                            · exact absurd h0 (h3.1 e)
      rw [if_pos (by omega), if_neg (by omega), if_neg (by omega), if_neg (by omega), hs]
    · have hs : 0 < s := h3.2 h0
      rw [if_neg (by omega), if_pos (by omega), if_neg (by omega), if_neg (by omega), if_pos (by omega)]
  · rw [if_neg (by omega), if_pos (by omega), if_neg (by omega), if_neg (by omega), if_pos (by omega)]
  · rw [if_neg (by omega), if_pos (by omega), if_neg (by omega), if_neg (by omega), if_pos (by omega)]
  · rw [if_neg (by omega), if_pos (by omega), if_neg (by omega), if_neg (by omega), if_pos (by omega)]
  · rw [if_neg (by omega), if_pos (by omega), if_neg (by omega), if_neg (by omega), if_pos (by omega)]
  · by_cases h0 : r = 0
    · have hs : s = 0 := by rcases e with e | e; · exact e
                            · exact absurd h0 (h3.1 e)
      rw [if_neg (by omega), if_neg (by omega), if_pos (by omega), if_neg (by omega), if_pos (by omega)]
    · have hs : 0 < s := h3.2 h0
      rw [if_neg (by omega), if_neg (by omega), if_neg (by omega), if_pos (by omega)]
  · rw [if_neg (by omega), if_neg (by omega), if_neg (by omega), if_pos (by omega)]
  · rw [if_neg (by omega), if_neg (by omega), if_neg (by omega), if_pos (by omega)]
  · rw [if_neg (by omega), if_neg (by omega), if_neg (by omega), if_pos (by omega)]
  · rw [if_neg (by omega), if_neg (by omega), if_neg (by omega), if_pos (by omega)]
/-- By 10^k, to the nearest, of two the even one. -/
def rq (L k : Nat) : Nat := if rs L k = 3 ∨ (rs L k = 2 ∧ L / 10 ^ k % 2 = 1) then L / 10 ^ k + 1 else L / 10 ^ k
theorem top_step (L t : Nat) : L / 10 ^ t = 10 * (L / 10 ^ (t + 1)) + dd L t := by
  unfold dd
  rw [Nat.pow_succ, ← Nat.div_div_eq_div_mul]
  omega
theorem far_same2 (X Y : Int) (hX : 9223372036854775809 ≤ X) (hY : 9223372036854775809 ≤ Y) (bel : Bool) :
    clv (if bel = true then -Y else Y) = clv (if bel = true then -X else X) ∧ ovv (if bel = true then -Y else Y) = ovv (if bel = true then -X else X) := by
  cases bel
  · have h1 := clv_hi X (by omega)
    have h2 := clv_hi Y (by omega)
    simp only [Bool.false_eq_true, if_false]
    rw [h1.1, h1.2, h2.1, h2.2]
    exact ⟨rfl, rfl⟩
  · have h1 := clv_lo (-X) (by omega)
    have h2 := clv_lo (-Y) (by omega)
    simp only [if_true]
    rw [h1.1, h1.2, h2.1, h2.2]
    exact ⟨rfl, rfl⟩
end Go.Proofs.YtekdpeiemfppiabDoor
