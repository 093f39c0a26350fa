/-
  FixRises: for all numbers a, b, c the law regattalaw02.FixRises returns true: sums, products with what isn't below 0, and roots never fall as a number rises. No condition.
-/
import Derived.Test.YtpmlpcejmndidabFWalkC
set_option linter.unusedVariables false
set_option linter.unusedSimpArgs false
namespace Go.Proofs.Ytpmlpcejmndidab
open Go.RowKit

theorem clv_up (u v : Int) (h : u ≤ v) : clv u ≤ clv v := by unfold clv; repeat' split
                                                             all_goals omega
theorem gu_up (m n q : Int) (h : m ≤ n) (hm : gu (c3 m 2147483648) (lo q) = true) : gu (c3 n 2147483648) (lo q) = true := by
  rcases (show n < 2147483648 ∨ n = 2147483648 ∨ 2147483648 < n by omega) with c | c | c
  · rw [c3_lt m _ (by omega)] at hm
    unfold gu at hm
    simp at hm
  · rcases (show m < 2147483648 ∨ m = 2147483648 by omega) with d | d
    · rw [c3_lt m _ d] at hm
      unfold gu at hm
      simp at hm
    · rw [c, ← d]; rw [d] at hm ⊢; exact hm
  · rw [c3_gt _ _ c]
    unfold gu
    simp
theorem rnd_rise (u v : Int) (h : u ≤ v) : rnd u 32 ≤ rnd v 32 := by
  have e1 : (2 : Int) ^ 32 = 4294967296 := rfl
  have e2 : (2 : Int) ^ (32 - 1) = 2147483648 := rfl
  unfold rnd
  rw [e1, e2]
  rcases (show u / 4294967296 = v / 4294967296 ∨ u / 4294967296 + 1 ≤ v / 4294967296 by omega) with c | c
  · have hm : u % 4294967296 ≤ v % 4294967296 := by omega
    rw [c]
    by_cases g : gu (c3 (u % 4294967296) 2147483648) (lo (v / 4294967296)) = true
    · rw [if_pos g, if_pos (gu_up _ _ _ hm g)]
      omega
    · rw [if_neg g]
      split <;> omega
  · split <;> split <;> omega
theorem rt_rise (u v : Int) (u0 : 0 ≤ u) (h : u ≤ v) (v1 : v < 85070591730234615865843651857942052864) : rt u ≤ rt v := by
  obtain ⟨a0, a1, a2, a3⟩ := rt_spec u u0 (by omega)
  obtain ⟨b0, b1, b2, b3⟩ := rt_spec v (by omega) v1
  by_cases hc : rt u ≤ rt v
  · exact hc
  · exfalso
    have := Int.mul_le_mul (show rt v + 1 ≤ rt u by omega) (show rt v + 1 ≤ rt u by omega) (by omega) (by omega)
    omega
theorem sv_rise (u v : Int) (h : u ≤ v) (v1 : v ≤ 9223372036854775807) : sv u ≤ sv v := by
  unfold sv
  by_cases hu : u < 0
  · rw [if_pos hu]
    split
    · omega
    · exact (rt_spec _ (by omega) (by omega)).1
  · rw [if_neg hu, if_neg (by omega)]
    exact rt_rise _ _ (by omega) (by omega) (by omega)
set_option maxHeartbeats 2000000 in
theorem fixRises_walk (a b c : Int) (a0 : -9223372036854775808 ≤ a) (a1 : a ≤ 9223372036854775807) (b0 : -9223372036854775808 ≤ b) (b1 : b ≤ 9223372036854775807) (c0 : -9223372036854775808 ≤ c) (c1 : c ≤ 9223372036854775807) (w : World) :
    Calls Try.prog 6 #[.int .i64 a, .int .i64 b, .int .i64 c] w fun e w' => e = .returned (.bool true) ∧ Below w.heap.size w w' := by
  have hl : min a b ≤ max a b := by omega
  have l0 : -9223372036854775808 ≤ min a b := by omega
  have l1 : min a b ≤ 9223372036854775807 := by omega
  have m0 : -9223372036854775808 ≤ max a b := by omega
  have m1 : max a b ≤ 9223372036854775807 := by omega
  have h1 := fun W => fadd_any (min a b) c l0 l1 c0 c1 W
  have h2 := fun W => fadd_any (max a b) c m0 m1 c0 c1 W
  have h3 := fun W => fmul_any (min a b) c l0 l1 c0 c1 W
  have h4 := fun W => fmul_any (max a b) c m0 m1 c0 c1 W
  have h5 := fun W => fsqrt_any (min a b) l0 l1 W
  have h6 := fun W => fsqrt_any (max a b) m0 m1 W
  have x1 : ¬ clv (max a b + c) < clv (min a b + c) := by have := clv_up (min a b + c) (max a b + c) (by omega); omega
  have x3 : sv (min a b) ≤ sv (max a b) := sv_rise _ _ hl m1
  have x2 : 0 ≤ c → ¬ clv (rnd (max a b * c) 32) < clv (rnd (min a b * c) 32) := by
    intro hc
    have := clv_up _ _ (rnd_rise (min a b * c) (max a b * c) (Int.mul_le_mul_of_nonneg_right hl hc))
    omega
  generalize clv (min a b + c) = s1 at *
  generalize clv (max a b + c) = s2 at *
  generalize clv (rnd (min a b * c) 32) = s3 at *
  generalize clv (rnd (max a b * c) 32) = s4 at *
  generalize sv (min a b) = s5 at *
  generalize sv (max a b) = s6 at *
  generalize ovv (min a b + c) = o1 at *
  generalize ovv (max a b + c) = o2 at *
  generalize ovv (rnd (min a b * c) 32) = o3 at *
  generalize ovv (rnd (max a b * c) 32) = o4 at *
  generalize decide (min a b < 0) = o5 at *
  generalize decide (max a b < 0) = o6 at *
  have P1 : Hid (∀ W : World, Calls Try.prog 18 #[.int .i64 (min a b), .int .i64 c] W fun e w' => e = .returned (.tuple #[.int .i64 s1, .bool o1]) ∧ Below W.heap.size W w') := h1
  have P2 : Hid (∀ W : World, Calls Try.prog 18 #[.int .i64 (max a b), .int .i64 c] W fun e w' => e = .returned (.tuple #[.int .i64 s2, .bool o2]) ∧ Below W.heap.size W w') := h2
  have P3 : Hid (∀ W : World, Calls Try.prog 16 #[.int .i64 (min a b), .int .i64 c] W fun e w' => e = .returned (.tuple #[.int .i64 s3, .bool o3]) ∧ Below W.heap.size W w') := h3
  have P4 : Hid (∀ W : World, Calls Try.prog 16 #[.int .i64 (max a b), .int .i64 c] W fun e w' => e = .returned (.tuple #[.int .i64 s4, .bool o4]) ∧ Below W.heap.size W w') := h4
  have P5 : Hid (∀ W : World, Calls Try.prog 19 #[.int .i64 (min a b)] W fun e w' => e = .returned (.tuple #[.int .i64 s5, .bool o5]) ∧ Below W.heap.size W w') := h5
  have P6 : Hid (∀ W : World, Calls Try.prog 19 #[.int .i64 (max a b)] W fun e w' => e = .returned (.tuple #[.int .i64 s6, .bool o6]) ∧ Below W.heap.size W w') := h6
  clear h1 h2 h3 h4 h5 h6
  by_cases hc : 0 ≤ c
  · have x4 := x2 hc
    clear x2
    go_enter Try.func6, Try.ntmps6
    go_wp2_with fail
    refine (kawake_any _).mono ?_
    rintro e w1 ⟨rfl, W1⟩
    go_wp2_with fail
    refine (P1.out _).mono ?_
    rintro e w2 ⟨rfl, hb⟩
    have W2 := bchain W1 hb
    clear hb W1 P1
    go_wp2_with fail
    refine (P2.out _).mono ?_
    rintro e w3 ⟨rfl, hb⟩
    have W3 := bchain W2 hb
    clear hb W2 P2
    go_wp2_with fail
    refine (P3.out _).mono ?_
    rintro e w4 ⟨rfl, hb⟩
    have W4 := bchain W3 hb
    clear hb W3 P3
    go_wp2_with fail
    refine (P4.out _).mono ?_
    rintro e w5 ⟨rfl, hb⟩
    have W5 := bchain W4 hb
    clear hb W4 P4
    go_wp2_with fail
    refine (P5.out _).mono ?_
    rintro e w6 ⟨rfl, hb⟩
    have W6 := bchain W5 hb
    clear hb W5 P5
    go_wp2_with fail
    refine (P6.out _).mono ?_
    rintro e w7 ⟨rfl, hb⟩
    have W7 := bchain W6 hb
    clear hb W6 P6
    go_wp2
    go_ret
    exact ⟨rfl, W7⟩
  · clear x2
    go_enter Try.func6, Try.ntmps6
    go_wp2_with fail
    refine (kawake_any _).mono ?_
    rintro e w1 ⟨rfl, W1⟩
    go_wp2_with fail
    refine (P1.out _).mono ?_
    rintro e w2 ⟨rfl, hb⟩
    have W2 := bchain W1 hb
    clear hb W1 P1
    go_wp2_with fail
    refine (P2.out _).mono ?_
    rintro e w3 ⟨rfl, hb⟩
    have W3 := bchain W2 hb
    clear hb W2 P2
    go_wp2_with fail
    refine (P5.out _).mono ?_
    rintro e w4 ⟨rfl, hb⟩
    have W4 := bchain W3 hb
    clear hb W3 P5
    go_wp2_with fail
    refine (P6.out _).mono ?_
    rintro e w5 ⟨rfl, hb⟩
    have W5 := bchain W4 hb
    clear hb W4 P6
    go_wp2
    go_ret
    exact ⟨rfl, W5⟩
end Go.Proofs.Ytpmlpcejmndidab
