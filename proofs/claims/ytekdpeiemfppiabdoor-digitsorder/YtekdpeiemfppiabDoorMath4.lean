/-
  Plain arithmetic of roots.
-/
import Derived.Test.YtekdpeiemfppiabDoorMath3
set_option linter.unusedVariables false
namespace Go.Proofs.YtekdpeiemfppiabDoor

/-- The root, bit by bit from the highest: k bits are left. -/
def rtA (v : Int) : Nat → Int → Int
  | 0, r => r
  | k + 1, r => rtA v k (if (r + 2 ^ k) * (r + 2 ^ k) ≤ v then r + 2 ^ k else r)
def rt (v : Int) : Int := rtA v 63 0

/-- What holds when k bits are left. -/
structure RtI (v : Int) (k : Nat) (r : Int) : Prop where
  low : 0 ≤ r
  mod : r % 2 ^ k = 0
  top : r + 2 ^ k ≤ 9223372036854775808
  le : r * r ≤ v
  lt : v < (r + 2 ^ k) * (r + 2 ^ k)
theorem RtI.start (v : Int) (v0 : 0 ≤ v) (v1 : v < 85070591730234615865843651857942052864) : RtI v 63 0 :=
  ⟨by omega, by omega, by omega, by omega, by omega⟩
theorem pow_two (k : Nat) : (2 : Int) ^ (k + 1) = 2 ^ k + 2 ^ k := by rw [Int.pow_succ]; omega
theorem RtI.step {v : Int} {k : Nat} {r : Int} (h : RtI v (k + 1) r) : RtI v k (if (r + 2 ^ k) * (r + 2 ^ k) ≤ v then r + 2 ^ k else r) := by
  obtain ⟨low, mod, top, le, lt⟩ := h
  have hp := pow_pos' k
  have e2 := pow_two k
  obtain ⟨c, hc⟩ := Int.dvd_of_emod_eq_zero mod
  have hm : r % 2 ^ k = 0 := by rw [hc, e2, ← Int.two_mul, Int.mul_comm 2, Int.mul_assoc]; exact Int.mul_emod_right _ _
  by_cases hl : (r + 2 ^ k) * (r + 2 ^ k) ≤ v
  · rw [if_pos hl]
    refine ⟨by omega, ?_, by omega, hl, ?_⟩
    · rw [Int.add_emod_right]; exact hm
    · rw [show r + 2 ^ k + 2 ^ k = r + 2 ^ (k + 1) by omega]; exact lt
  · rw [if_neg hl]
    exact ⟨low, hm, by omega, le, by omega⟩
theorem rtA_spec (v : Int) : ∀ (k : Nat) (r : Int), RtI v k r → RtI v 0 (rtA v k r)
  | 0, r, h => h
  | k + 1, r, h => rtA_spec v k _ h.step
theorem rt_spec (v : Int) (v0 : 0 ≤ v) (v1 : v < 85070591730234615865843651857942052864) : 0 ≤ rt v ∧ rt v ≤ 9223372036854775807 ∧ rt v * rt v ≤ v ∧ v < (rt v + 1) * (rt v + 1) := by
  obtain ⟨low, mod, top, le, lt⟩ := rtA_spec v 63 0 (RtI.start v v0 v1)
  refine ⟨low, ?_, le, lt⟩
  have : (2 : Int) ^ 0 = 1 := rfl
  unfold rt
  omega
theorem sq_rng (n : Int) (n0 : 0 ≤ n) (n1 : n ≤ 9223372036854775808) : 0 ≤ n * n ∧ n * n ≤ 85070591730234615865843651857942052864 := by
  have h := Int.mul_le_mul n1 n1 n0 (by omega : (0 : Int) ≤ 9223372036854775808)
  exact ⟨Int.mul_nonneg n0 n0, by omega⟩

theorem words_mid (v : Int) (v0 : 0 ≤ v) (v1 : v < 85070591730234615865843651857942052864) : ¬ t3 v < 0 ∧ ¬ 0 < t3 v ∧ m3 v < 4611686018427387904 ∧ 0 ≤ m3 v ∧ m3 v = hi v := by unfold t3 m3 hi; omega
theorem words_neg (v : Int) (v0 : v < 0) (v1 : -3138550867693340381917894711603833208051177722232017256448 ≤ v) : t3 v < 0 := by unfold t3; omega
theorem words_big (v : Int) (v0 : 85070591730234615865843651857942052864 ≤ v) (v1 : v < 3138550867693340381917894711603833208051177722232017256448) : ¬ t3 v < 0 ∧ (0 < t3 v ∨ (¬ 0 < t3 v ∧ ¬ m3 v < 4611686018427387904)) := by unfold t3 m3; omega

end Go.Proofs.YtekdpeiemfppiabDoor
