/-
  Plain arithmetic of regattaref02's numbers: digits to the base 2^32.
-/
import Derived.Test.YtekdpeiemfppiabDoorMath4
set_option linter.unusedVariables false
namespace Go.Proofs.YtekdpeiemfppiabDoor

/-- The i-th digit to the base 2^32. -/
def dg (v : Int) (i : Nat) : Int := v / 2 ^ (32 * i) % 4294967296
theorem dg_rng (v : Int) (i : Nat) : 0 ≤ dg v i ∧ dg v i ≤ 4294967295 := by unfold dg; omega
/-- What a sum carries into the i-th digit. -/
def ca (a b : Int) (i : Nat) : Int := (a % 2 ^ (32 * i) + b % 2 ^ (32 * i)) / 2 ^ (32 * i)
/-- What a difference borrows of the i-th digit. -/
def bo (a b : Int) (i : Nat) : Int := -((a % 2 ^ (32 * i) - b % 2 ^ (32 * i)) / 2 ^ (32 * i))
theorem ca_zero (a b : Int) : ca a b 0 = 0 := by
  unfold ca; rw [Nat.mul_zero, Int.pow_zero]; omega
theorem bo_zero (a b : Int) : bo a b 0 = 0 := by
  unfold bo; rw [Nat.mul_zero, Int.pow_zero]; omega
theorem pow32 (i : Nat) : (2 : Int) ^ (32 * (i + 1)) = 2 ^ (32 * i) * 4294967296 := by
  rw [show 32 * (i + 1) = 32 * i + 32 by omega, Int.pow_add]; rfl
/-- A number below p·B: its upper digit and what is below. -/
theorem mod_up (a p : Int) (hp : 1 ≤ p) : a % (p * 4294967296) = a / p % 4294967296 * p + a % p := by
  have h1 := Int.mul_ediv_add_emod a p
  have h2 := Int.mul_ediv_add_emod (a / p) 4294967296
  have h3 := Int.emod_nonneg a (show p ≠ 0 by omega)
  have h4 := Int.emod_lt_of_pos a (show 0 < p by omega)
  have q0 : 0 ≤ a / p % 4294967296 := by omega
  have q1 : a / p % 4294967296 ≤ 4294967295 := by omega
  generalize a / p = q at *
  generalize q % 4294967296 = d at *
  generalize q / 4294967296 = e at *
  generalize a % p = r at *
  have e1 : a = (p * 4294967296) * e + (d * p + r) := by
    have : p * q = p * (4294967296 * e + d) := by rw [h2]
    rw [Int.mul_add, ← Int.mul_assoc, Int.mul_comm p d] at this
    omega
  have n0 : 0 ≤ d * p := Int.mul_nonneg q0 (by omega)
  have n1 : d * p ≤ 4294967295 * p := Int.mul_le_mul_of_nonneg_right q1 (by omega)
  have := Int.add_mul_emod_self_left (d * p + r) (p * 4294967296) e
  rw [e1, Int.add_comm, this, Int.emod_eq_of_lt (by omega) (by omega)]
theorem add_over (u r p : Int) (hp : 1 ≤ p) : (u * p + r) / p = u + r / p := by
  rw [Int.add_comm, Int.add_mul_ediv_right _ _ (by omega), Int.add_comm]
/-- (u·p + r) by p·B, where r by p is c: (u + c) by B. -/
theorem up_div (u r p : Int) (hp : 1 ≤ p) : (u * p + r) / (p * 4294967296) = (u + r / p) / 4294967296 := by
  rw [← add_over u r p hp, Int.ediv_ediv_of_nonneg (by omega)]
theorem sum_digit (a b : Int) (i : Nat) : (dg a i + dg b i + ca a b i) % 4294967296 = dg (a + b) i ∧ (dg a i + dg b i + ca a b i) / 4294967296 = ca a b (i + 1) := by
  have hp := pow_pos' (32 * i)
  unfold ca dg
  rw [pow32]
  generalize (2 : Int) ^ (32 * i) = p at *
  have ea := Int.mul_ediv_add_emod a p
  have eb := Int.mul_ediv_add_emod b p
  have es : (a + b) / p = a / p + b / p + (a % p + b % p) / p := by
    have e : a + b = (a / p + b / p) * p + (a % p + b % p) := by
      rw [Int.add_mul, Int.mul_comm (a / p), Int.mul_comm (b / p)]; omega
    have h := congrArg (fun t => t / p) e
    rw [add_over _ _ p (by omega)] at h
    exact h
  refine ⟨by rw [es]; omega, ?_⟩
  rw [mod_up a p (by omega), mod_up b p (by omega)]
  rw [show a / p % 4294967296 * p + a % p + (b / p % 4294967296 * p + b % p) = (a / p % 4294967296 + b / p % 4294967296) * p + (a % p + b % p) by rw [Int.add_mul]; omega, up_div _ _ p (by omega)]
theorem ca_rng (a b : Int) (i : Nat) : 0 ≤ ca a b i ∧ ca a b i ≤ 1 := by
  have hp := pow_pos' (32 * i)
  unfold ca
  generalize (2 : Int) ^ (32 * i) = p at *
  have h1 := Int.emod_nonneg a (show p ≠ 0 by omega)
  have h2 := Int.emod_lt_of_pos a (show 0 < p by omega)
  have h3 := Int.emod_nonneg b (show p ≠ 0 by omega)
  have h4 := Int.emod_lt_of_pos b (show 0 < p by omega)
  refine ⟨Int.ediv_nonneg (by omega) (by omega), ?_⟩
  have := Int.ediv_lt_of_lt_mul (a := a % p + b % p) (b := 2) (c := p) (by omega) (by omega)
  omega
theorem dif_digit (a b : Int) (i : Nat) : (dg a i + 4294967296 - dg b i - bo a b i) % 4294967296 = dg (a - b) i ∧ 1 - (dg a i + 4294967296 - dg b i - bo a b i) / 4294967296 = bo a b (i + 1) := by
  have hp := pow_pos' (32 * i)
  unfold bo dg
  rw [pow32]
  generalize (2 : Int) ^ (32 * i) = p at *
  have ea := Int.mul_ediv_add_emod a p
  have eb := Int.mul_ediv_add_emod b p
  have es : (a - b) / p = a / p - b / p + (a % p - b % p) / p := by
    have e : a - b = (a / p - b / p) * p + (a % p - b % p) := by
      rw [Int.sub_mul, Int.mul_comm (a / p), Int.mul_comm (b / p)]; omega
    have h := congrArg (fun t => t / p) e
    rw [add_over _ _ p (by omega)] at h
    exact h
  refine ⟨by rw [es]; omega, ?_⟩
  rw [mod_up a p (by omega), mod_up b p (by omega)]
  rw [show a / p % 4294967296 * p + a % p - (b / p % 4294967296 * p + b % p) = (a / p % 4294967296 - b / p % 4294967296) * p + (a % p - b % p) by rw [Int.sub_mul]; omega, up_div _ _ p (by omega)]
  omega
theorem bo_rng (a b : Int) (i : Nat) : 0 ≤ bo a b i ∧ bo a b i ≤ 1 := by
  have hp := pow_pos' (32 * i)
  unfold bo
  generalize (2 : Int) ^ (32 * i) = p at *
  have h1 := Int.emod_nonneg a (show p ≠ 0 by omega)
  have h2 := Int.emod_lt_of_pos a (show 0 < p by omega)
  have h3 := Int.emod_nonneg b (show p ≠ 0 by omega)
  have h4 := Int.emod_lt_of_pos b (show 0 < p by omega)
  have l := Int.ediv_lt_of_lt_mul (a := a % p - b % p) (b := 1) (c := p) (by omega) (by omega)
  have g : -1 ≤ (a % p - b % p) / p := by
    rw [Int.le_ediv_iff_mul_le (by omega)]
    omega
  omega
/-- By two, digit by digit, from above. -/
theorem half_digit (m : Int) (i : Nat) : (m / 2 ^ (32 * (i + 1)) % 2 * 4294967296 + dg m i) / 2 = dg (m / 2) i ∧ (m / 2 ^ (32 * (i + 1)) % 2 * 4294967296 + dg m i) % 2 = m / 2 ^ (32 * i) % 2 := by
  have hp := pow_pos' (32 * i)
  unfold dg
  rw [pow32, ← Int.ediv_ediv_of_nonneg (show (0 : Int) ≤ 2 ^ (32 * i) by omega)]
  rw [show m / 2 / 2 ^ (32 * i) = m / 2 ^ (32 * i) / 2 by rw [Int.ediv_ediv_of_nonneg (by omega), Int.ediv_ediv_of_nonneg (by omega), Int.mul_comm]]
  generalize m / 2 ^ (32 * i) = M
  omega
/-- Six digits are enough. -/
theorem top_none (m : Int) (h0 : 0 ≤ m) (h1 : m < 6277101735386680763835789423207666416102355444464034512896) : m / 2 ^ (32 * 6) = 0 := Int.ediv_eq_zero_of_lt h0 (by show m < 6277101735386680763835789423207666416102355444464034512896; exact h1)
end Go.Proofs.YtekdpeiemfppiabDoor
