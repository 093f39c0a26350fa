/-
  Plain arithmetic of regattaref02's quotients, bit by bit.
-/
import Derived.Test.YtpmlpcejmndidabDoorSMath2
set_option linter.unusedVariables false
namespace Go.Proofs.YtpmlpcejmndidabDoor

theorem qd_up (T B z : Int) (hB : 1 ≤ B) (h : B ≤ 2 * (T % B) + z) (z01 : z = 0 ∨ z = 1) : (2 * T + z) % B = 2 * (T % B) + z - B ∧ (2 * T + z) / B = 2 * (T / B) + 1 := by
  have e := Int.mul_ediv_add_emod T B
  have m0 := Int.emod_nonneg T (show B ≠ 0 by omega)
  have m1 := Int.emod_lt_of_pos T (show 0 < B by omega)
  have := (Int.ediv_emod_unique (a := 2 * T + z) (b := B) (r := 2 * (T % B) + z - B) (q := 2 * (T / B) + 1) (by omega)).2 ⟨by rw [Int.mul_add, Int.mul_left_comm]; omega, by omega, by omega⟩
  exact ⟨this.2, this.1⟩
theorem qd_down (T B z : Int) (hB : 1 ≤ B) (h : 2 * (T % B) + z < B) (z01 : z = 0 ∨ z = 1) : (2 * T + z) % B = 2 * (T % B) + z ∧ (2 * T + z) / B = 2 * (T / B) := by
  have e := Int.mul_ediv_add_emod T B
  have m0 := Int.emod_nonneg T (show B ≠ 0 by omega)
  have := (Int.ediv_emod_unique (a := 2 * T + z) (b := B) (r := 2 * (T % B) + z) (q := 2 * (T / B)) (by omega)).2 ⟨by rw [Int.mul_left_comm]; omega, by omega, by omega⟩
  exact ⟨this.2, this.1⟩
theorem down_one (M : Int) (s : Nat) : M / 2 ^ s = 2 * (M / 2 ^ (s + 1)) + M / 2 ^ s % 2 := by
  have hp := pow_pos' s
  rw [Int.pow_succ, ← Int.ediv_ediv_of_nonneg (show (0 : Int) ≤ 2 ^ s by omega)]
  omega
theorem div_turn (M D : Int) (s : Nat) (hD : 1 ≤ D) : M / 2 ^ s / D = M / D / 2 ^ s := by
  have hp := pow_pos' s
  rw [Int.ediv_ediv_of_nonneg (by omega), Int.ediv_ediv_of_nonneg (by omega), Int.mul_comm]
theorem mod_div_32 (X : Int) (r : Nat) (hr : r < 32) : X % 4294967296 / 2 ^ r % 2 = X / 2 ^ r % 2 := by
  have hp := pow_pos' r
  have e := Int.mul_ediv_add_emod X 4294967296
  have e2 : (4294967296 : Int) = 2 ^ r * (2 * 2 ^ (31 - r)) := by
    rw [show (2 : Int) * 2 ^ (31 - r) = 2 ^ (31 - r + 1) by rw [Int.pow_succ, Int.mul_comm], ← Int.pow_add, show r + (31 - r + 1) = 32 by omega]; rfl
  have e3 : X / 2 ^ r = 2 * 2 ^ (31 - r) * (X / 4294967296) + X % 4294967296 / 2 ^ r := by
    have e4 : X = 2 ^ r * (2 * 2 ^ (31 - r) * (X / 4294967296)) + X % 4294967296 := by
      rw [← Int.mul_assoc, ← e2]; exact e.symm
    have h5 : X / 2 ^ r = (2 ^ r * (2 * 2 ^ (31 - r) * (X / 4294967296)) + X % 4294967296) / 2 ^ r := congrArg (fun t => t / (2 : Int) ^ r) e4
    rw [Int.add_comm, Int.add_mul_ediv_left _ _ (show (2 : Int) ^ r ≠ 0 by omega)] at h5
    omega
  rw [e3, Int.mul_assoc]
  omega
theorem dg_bit (M : Int) (i k : Nat) (hk : k < 32) : dg M i / 2 ^ k % 2 = M / 2 ^ (32 * i + k) % 2 := by
  have hp := pow_pos' (32 * i)
  unfold dg
  rw [mod_div_32 _ k hk, Int.ediv_ediv_of_nonneg (by omega), Int.pow_add]
/-- A digit of which k bits are left to be made. -/
def pq (Q : Int) (i k : Nat) : Int := Q / 2 ^ (32 * i + k) % 2 ^ (32 - k)
theorem pq_top (Q : Int) (i : Nat) : pq Q i 32 = 0 := by unfold pq; rw [Nat.sub_self, Int.pow_zero]; omega
theorem pq_end (Q : Int) (i : Nat) : pq Q i 0 = dg Q i := rfl
theorem pq_rng (Q : Int) (i k : Nat) : 0 ≤ pq Q i k ∧ pq Q i k ≤ 4294967295 := by
  unfold pq
  have hp := pow_pos' (32 - k)
  have h2 : (2 : Int) ^ (32 - k) ≤ 4294967296 := by
    have h3 : (2 : Nat) ^ (32 - k) ≤ 2 ^ 32 := Nat.pow_le_pow_right (by omega) (by omega)
    have h4 : (((2 : Nat) ^ (32 - k) : Nat) : Int) ≤ (((2 : Nat) ^ 32 : Nat) : Int) := by omega
    rw [Int.natCast_pow, Int.natCast_pow] at h4
    exact h4
  have h0 := Int.emod_nonneg (Q / 2 ^ (32 * i + k)) (show (2 : Int) ^ (32 - k) ≠ 0 by omega)
  have h1 := Int.emod_lt_of_pos (Q / 2 ^ (32 * i + k)) (show (0 : Int) < 2 ^ (32 - k) by omega)
  omega
theorem pq_step (Q : Int) (i k : Nat) (hk : k < 32) (z : Int) (hz : Q / 2 ^ (32 * i + k) = 2 * (Q / 2 ^ (32 * i + k + 1)) + z) (z01 : z = 0 ∨ z = 1) : pq Q i k = 2 * pq Q i (k + 1) + z := by
  unfold pq
  rw [hz, show 32 * i + (k + 1) = 32 * i + k + 1 by omega, show 32 - k = (32 - (k + 1)) + 1 by omega]
  generalize Q / 2 ^ (32 * i + k + 1) = X
  rw [Int.pow_succ]
  have hp := pow_pos' (32 - (k + 1))
  generalize (2 : Int) ^ (32 - (k + 1)) = P at *
  have e := Int.mul_ediv_add_emod X P
  have m0 := Int.emod_nonneg X (show P ≠ 0 by omega)
  have m1 := Int.emod_lt_of_pos X (show 0 < P by omega)
  exact ((Int.ediv_emod_unique (a := 2 * X + z) (b := P * 2) (r := 2 * (X % P) + z) (q := X / P) (by omega)).2 ⟨by rw [Int.mul_right_comm]; omega, by omega, by omega⟩).2
/-- One bit more: what is left, and the quotient's bit. -/
theorem quo_bit (M D : Int) (i k : Nat) (hD : 1 ≤ D) (hk : k < 32) :
    (D ≤ 2 * (M / 2 ^ (32 * i + k + 1) % D) + M / 2 ^ (32 * i + k) % 2 → M / 2 ^ (32 * i + k) % D = 2 * (M / 2 ^ (32 * i + k + 1) % D) + M / 2 ^ (32 * i + k) % 2 - D ∧ pq (M / D) i k = 2 * pq (M / D) i (k + 1) + 1) ∧
    (2 * (M / 2 ^ (32 * i + k + 1) % D) + M / 2 ^ (32 * i + k) % 2 < D → M / 2 ^ (32 * i + k) % D = 2 * (M / 2 ^ (32 * i + k + 1) % D) + M / 2 ^ (32 * i + k) % 2 ∧ pq (M / D) i k = 2 * pq (M / D) i (k + 1)) := by
  have e := down_one M (32 * i + k)
  have z01 : M / 2 ^ (32 * i + k) % 2 = 0 ∨ M / 2 ^ (32 * i + k) % 2 = 1 := by omega
  have t1 := div_turn M D (32 * i + k) hD
  have t2 := div_turn M D (32 * i + k + 1) hD
  constructor
  · intro h
    obtain ⟨u1, u2⟩ := qd_up _ D _ hD h z01
    rw [← e] at u1 u2
    refine ⟨u1, pq_step _ i k hk 1 ?_ (.inr rfl)⟩
    rw [← t1, ← t2, u2]
  · intro h
    obtain ⟨u1, u2⟩ := qd_down _ D _ hD h z01
    rw [← e] at u1 u2
    refine ⟨u1, ?_⟩
    have := pq_step (M / D) i k hk 0 (by rw [← t1, ← t2, u2]; omega) (.inl rfl)
    omega
end Go.Proofs.YtpmlpcejmndidabDoor
