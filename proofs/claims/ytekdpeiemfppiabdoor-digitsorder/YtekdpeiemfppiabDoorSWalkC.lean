/-
  Contracts of regattaref02's Clamp and Whole.
-/
import Derived.Test.YtekdpeiemfppiabDoorSWalkB
set_option linter.unusedVariables false
set_option linter.unusedSimpArgs false
namespace Go.Proofs.YtekdpeiemfppiabDoor
open Go.RowKit

theorem dg_big (m : Int) (k : Nat) (hk : 2 ≤ k) (m0 : 0 ≤ m) (h : dg m k ≠ 0) : 18446744073709551616 ≤ m := by
  rcases Int.lt_or_le m 18446744073709551616 with h1 | h1
  · exfalso
    apply h
    unfold dg
    have hp : (18446744073709551616 : Int) ≤ 2 ^ (32 * k) := by
      have h2 : (2 : Nat) ^ 64 ≤ 2 ^ (32 * k) := Nat.pow_le_pow_right (by omega) (by omega)
      have h3 : (((2 : Nat) ^ 64 : Nat) : Int) ≤ (((2 : Nat) ^ (32 * k) : Nat) : Int) := by omega
      rw [Int.natCast_pow, Int.natCast_pow] at h3
      exact h3
    rw [Int.ediv_eq_zero_of_lt m0 (by omega)]
    rfl
  · exact h1
theorem dg_small (m : Int) (m0 : 0 ≤ m) (m1 : m < 6277101735386680763835789423207666416102355444464034512896) (h2 : dg m 2 = 0) (h3 : dg m 3 = 0) (h4 : dg m 4 = 0) (h5 : dg m 5 = 0) : m ≤ 18446744073709551615 ∧ dg m 1 * 4294967296 + dg m 0 = m := by
  have e0 := dg_up m 0
  have e1 := dg_up m 1
  have e2 := dg_up m 2
  have e3 := dg_up m 3
  have e4 := dg_up m 4
  have e5 := dg_up m 5
  have e6 := top_none m m0 m1
  have z0 := dg_rng m 0
  have z1 := dg_rng m 1
  rw [Nat.mul_zero, Int.pow_zero, Int.ediv_one] at e0
  simp only [show 0 + 1 = 1 from rfl, show 1 + 1 = 2 from rfl, show 2 + 1 = 3 from rfl, show 3 + 1 = 4 from rfl, show 4 + 1 = 5 from rfl, show 5 + 1 = 6 from rfl] at e0 e1 e2 e3 e4 e5
  rw [e6, h5] at e5
  rw [e5, h4] at e4
  rw [e4, h3] at e3
  rw [e3, h2] at e2
  rw [e2] at e1
  omega

end Go.Proofs.YtekdpeiemfppiabDoor
