/-
  Contracts of regattaref02's Clamp and Whole.
-/
import Derived.Test.YtekdpeiemfppiaaDoorSWalkB
set_option linter.unusedVariables false
set_option linter.unusedSimpArgs false
namespace Go.Proofs.YtekdpeiemfppiaaDoor
open Go.RowKit

theorem dg_big (m : Int) (k : Nat) (hk : 2 ≤ k) (m0 : 0 ≤ m) (h : dg m k ≠ 0) : 18446744073709551616 ≤ m := by
  rcases Int.lt_or_le m 18446744073709551616 with h1 | h1
  · exfalso
    apply h
    unfold dg
    have hp : (18446744073709551616 : Int) ≤ 2 ^ (32 * k) := by
      have h2 : (2 : Nat) ^ 64 ≤ 2 ^ (32 * k) := Nat.pow_le_pow_right (by omega) (by omega)
      have h3 : (((2 : Nat) ^ 64 : Nat) : Int) ≤ (((2 : Nat) ^ (32 * k) : Nat) : Int) := by omega
      rw [Int.natCast_pow, Int.natCast_pow] at h3
      exact h3
    rw [Int.ediv_eq_zero_of_lt m0 (by omega)]
    rfl
  · exact h1
theorem dg_small (m : Int) (m0 : 0 ≤ m) (m1 : m < 6277101735386680763835789423207666416102355444464034512896) (h2 : dg m 2 = 0) (h3 : dg m 3 = 0) (h4 : dg m 4 = 0) (h5 : dg m 5 = 0) : m ≤ 18446744073709551615 ∧ dg m 1 * 4294967296 + dg m 0 = m := by
  have e0 := dg_up m 0
  have e1 := dg_up m 1
  have e2 := dg_up m 2
  have e3 := dg_up m 3
  have e4 := dg_up m 4
  have e5 := dg_up m 5
  have e6 := top_none m m0 m1
  have z0 := dg_rng m 0
  have z1 := dg_rng m 1
  rw [Nat.mul_zero, Int.pow_zero, Int.ediv_one] at e0
  simp only [show 0 + 1 = 1 from rfl, show 1 + 1 = 2 from rfl, show 2 + 1 = 3 from rfl, show 3 + 1 = 4 from rfl, show 4 + 1 = 5 from rfl, show 5 + 1 = 6 from rfl] at e0 e1 e2 e3 e4 e5
  rw [e6, h5] at e5
  rw [e5, h4] at e4
  rw [e4, h3] at e3
  rw [e3, h2] at e2
  rw [e2] at e1
  omega

set_option maxHeartbeats 2000000 in
theorem sclamp_any (m : Int) (bel : Bool) (m0 : 0 ≤ m) (m1 : m < 6277101735386680763835789423207666416102355444464034512896) (w : World) :
    Calls Tryd.prog 35 #[.agg #[.int .u64 (dg (m) 0), .int .u64 (dg (m) 1), .int .u64 (dg (m) 2), .int .u64 (dg (m) 3), .int .u64 (dg (m) 4), .int .u64 (dg (m) 5)], .bool bel] w fun e w' => e = .returned (.tuple #[.int .i64 (clv (if bel = true then -m else m)), .bool (ovv (if bel = true then -m else m))]) ∧ Below w.heap.size w w' := by
  obtain ⟨p1, p2⟩ := dg_rng m 0
  obtain ⟨p3, p4⟩ := dg_rng m 1
  have k1 := wrap_small (dg m 1 * 4294967296) (by omega) (by omega)
  have k2 := wrap_small (dg m 1 * 4294967296 + dg m 0) (by omega) (by omega)
  have hS := dg_small m m0 m1
  have h2 := dg_big m 2 (by omega) m0
  have h3 := dg_big m 3 (by omega) m0
  have h4 := dg_big m 4 (by omega) m0
  have h5 := dg_big m 5 (by omega) m0
  generalize dg m 0 = d0 at *
  generalize dg m 1 = d1 at *
  generalize dg m 2 = d2 at *
  generalize dg m 3 = d3 at *
  generalize dg m 4 = d4 at *
  generalize dg m 5 = d5 at *
  by_cases hov : d2 = 0 ∧ d3 = 0 ∧ d4 = 0 ∧ d5 = 0
  · obtain ⟨rfl, rfl, rfl, rfl⟩ := hov
    obtain ⟨hm, hn⟩ := hS rfl rfl rfl rfl
    clear h2 h3 h4 h5 hS
    have n0 : 0 ≤ d1 * 4294967296 + d0 := by omega
    have n1 : d1 * 4294967296 + d0 ≤ 18446744073709551615 := by omega
    subst hn
    clear hm m0 m1
    cases bel
    · rw [if_neg (by simp)]
      by_cases hc : 9223372036854775808 ≤ d1 * 4294967296 + d0
      · have HV : Hid (clv (d1 * 4294967296 + d0) = 9223372036854775807 ∧ ovv (d1 * 4294967296 + d0) = true) := clv_hi (d1 * 4294967296 + d0) (by omega)
        go_enter Tryd.func35, Tryd.ntmps35
        go_wp2
        go_ret2
        exact ⟨by rw [HV.out.1, HV.out.2]; rfl, bel1 _ _⟩
      · have HV : Hid (clv (d1 * 4294967296 + d0) = d1 * 4294967296 + d0 ∧ ovv (d1 * 4294967296 + d0) = false) := clv_in (d1 * 4294967296 + d0) (by omega) (by omega)
        have k3 : IntKind.i64.wrap (d1 * 4294967296 + d0) = d1 * 4294967296 + d0 := by rw [IntKind.wrap_i64]; omega
        have hc' : d1 * 4294967296 + d0 < 9223372036854775808 := by omega
        go_enter Tryd.func35, Tryd.ntmps35
        go_wp2
        go_ret2
        exact ⟨by rw [HV.out.1, HV.out.2]; first | rfl | (simp [k3]; done), bel1 _ _⟩
    · rw [if_pos rfl]
      by_cases hc : 9223372036854775808 < d1 * 4294967296 + d0
      · have HV : Hid (clv (-(d1 * 4294967296 + d0)) = -9223372036854775808 ∧ ovv (-(d1 * 4294967296 + d0)) = true) := clv_lo (-(d1 * 4294967296 + d0)) (by omega)
        go_enter Tryd.func35, Tryd.ntmps35
        go_wp2
        go_ret2
        exact ⟨by rw [HV.out.1, HV.out.2]; rfl, bel1 _ _⟩
      · have HV : Hid (clv (-(d1 * 4294967296 + d0)) = -(d1 * 4294967296 + d0) ∧ ovv (-(d1 * 4294967296 + d0)) = false) := clv_in (-(d1 * 4294967296 + d0)) (by omega) (by omega)
        have k3 : IntKind.i64.wrap (IntKind.u64.wrap (-(d1 * 4294967296 + d0))) = -(d1 * 4294967296 + d0) := by rw [IntKind.wrap_i64, IntKind.wrap_u64]; omega
        have hc' : d1 * 4294967296 + d0 ≤ 9223372036854775808 := by omega
        go_enter Tryd.func35, Tryd.ntmps35
        go_wp2
        go_ret2
        exact ⟨by rw [HV.out.1, HV.out.2]; first | rfl | (simp [k3]; done), bel1 _ _⟩
  · have hbig : 18446744073709551616 ≤ m := by
      by_cases g2 : d2 = 0
      · by_cases g3 : d3 = 0
        · by_cases g4 : d4 = 0
          · by_cases g5 : d5 = 0
            · exact absurd ⟨g2, g3, g4, g5⟩ hov
            · exact h5 g5
          · exact h4 g4
        · exact h3 g3
      · exact h2 g2
    clear h2 h3 h4 h5 hS
    have hcase : (¬ d2 = 0) ∨ (d2 = 0 ∧ ¬ d3 = 0) ∨ (d2 = 0 ∧ d3 = 0 ∧ ¬ d4 = 0) ∨ (d2 = 0 ∧ d3 = 0 ∧ d4 = 0 ∧ ¬ d5 = 0) := by
      by_cases g2 : d2 = 0
      · by_cases g3 : d3 = 0
        · by_cases g4 : d4 = 0
          · by_cases g5 : d5 = 0
            · exact absurd ⟨g2, g3, g4, g5⟩ hov
            · exact .inr (.inr (.inr ⟨g2, g3, g4, g5⟩))
          · exact .inr (.inr (.inl ⟨g2, g3, g4⟩))
        · exact .inr (.inl ⟨g2, g3⟩)
      · exact .inl g2
    clear hov
    cases bel
    · rw [if_neg (by simp)]
      have HV : Hid (clv m = 9223372036854775807 ∧ ovv m = true) := clv_hi m (by omega)
      clear hbig m0 m1
      rcases hcase with g2 | ⟨rfl, g3⟩ | ⟨rfl, rfl, g4⟩ | ⟨rfl, rfl, rfl, g5⟩
      all_goals
        go_enter Tryd.func35, Tryd.ntmps35
        go_wp2
        go_ret2
        exact ⟨by rw [HV.out.1, HV.out.2]; rfl, bel1 _ _⟩
    · rw [if_pos rfl]
      have HV : Hid (clv (-m) = -9223372036854775808 ∧ ovv (-m) = true) := clv_lo (-m) (by omega)
      clear hbig m0 m1
      rcases hcase with g2 | ⟨rfl, g3⟩ | ⟨rfl, rfl, g4⟩ | ⟨rfl, rfl, rfl, g5⟩
      all_goals
        go_enter Tryd.func35, Tryd.ntmps35
        go_wp2
        go_ret2
        exact ⟨by rw [HV.out.1, HV.out.2]; rfl, bel1 _ _⟩
end Go.Proofs.YtekdpeiemfppiaaDoor
