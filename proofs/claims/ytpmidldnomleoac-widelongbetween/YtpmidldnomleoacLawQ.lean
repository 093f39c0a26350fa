/-
  WideLongBetween: for all numbers a, b of 64 bits the law regattalaw01.WideLongBetween returns true: a root's square is not above the number, and the next one's is. No condition.
-/
import Derived.Test.YtpmidldnomleoacTools
set_option linter.unusedVariables false
set_option linter.unusedSimpArgs false
namespace Go.Proofs.Ytpmidldnomleoac
open Go.RowKit

theorem c3_le (x y : Int) (h : x ≤ y) : decide (c3 x y ≤ 0) = true := by
  apply decide_eq_true; unfold c3; split
  · omega
  · split <;> omega
theorem c3_pos (x y : Int) (h : y < x) : decide (0 < c3 x y) = true := by
  apply decide_eq_true; rw [c3_gt x y h]; omega
theorem prod_rng (a b : Int) (a0 : -9223372036854775808 ≤ a) (a1 : a ≤ 9223372036854775807) (b0 : -9223372036854775808 ≤ b) (b1 : b ≤ 9223372036854775807) : -85070591730234615865843651857942052864 ≤ a * b ∧ a * b ≤ 85070591730234615865843651857942052864 ∧ (a * b = 85070591730234615865843651857942052864 → a = -9223372036854775808 ∧ b = -9223372036854775808) := by
  by_cases ha : 0 ≤ a
  · by_cases hb : 0 ≤ b
    · have h1 := Int.mul_nonneg ha hb
      have h2 := Int.mul_le_mul a1 b1 hb (show (0 : Int) ≤ 9223372036854775807 by omega)
      omega
    · have h1 := Int.mul_nonneg ha (show 0 ≤ -b by omega)
      have h2 := Int.mul_le_mul a1 (show -b ≤ 9223372036854775808 by omega) (show 0 ≤ -b by omega) (show (0 : Int) ≤ 9223372036854775807 by omega)
      rw [Int.mul_neg] at h1 h2
      omega
  · by_cases hb : 0 ≤ b
    · have h1 := Int.mul_nonneg (show 0 ≤ -a by omega) hb
      have h2 := Int.mul_le_mul (show -a ≤ 9223372036854775808 by omega) b1 hb (show (0 : Int) ≤ 9223372036854775808 by omega)
      rw [Int.neg_mul] at h1 h2
      omega
    · have h1 := Int.mul_nonneg (show 0 ≤ -a by omega) (show 0 ≤ -b by omega)
      have h2 := Int.mul_le_mul (show -a ≤ 9223372036854775808 by omega) (show -b ≤ 9223372036854775808 by omega) (show 0 ≤ -b by omega) (show (0 : Int) ≤ 9223372036854775808 by omega)
      rw [Int.neg_mul_neg] at h1 h2
      refine ⟨by omega, by omega, fun h => ?_⟩
      by_cases hx : a = -9223372036854775808
      · subst hx
        omega
      · exfalso
        have h3 := Int.mul_le_mul (show -a ≤ 9223372036854775807 by omega) (show -b ≤ 9223372036854775808 by omega) (show 0 ≤ -b by omega) (show (0 : Int) ≤ 9223372036854775807 by omega)
        rw [Int.neg_mul_neg] at h3
        omega

set_option maxHeartbeats 4000000 in
theorem wideLongBetween_walk (a b : Int) (a0 : -9223372036854775808 ≤ a) (a1 : a ≤ 9223372036854775807) (b0 : -9223372036854775808 ≤ b) (b1 : b ≤ 9223372036854775807) (w : World) :
    Calls Try.prog 3 #[.int .i64 a, .int .i64 b] w fun e w' => e = .returned (.bool true) ∧ Below w.heap.size w w' := by
  obtain ⟨p0, p1, p2⟩ := prod_rng a b a0 a1 b0 b1
  have M := fun W => mul_any a b a0 a1 b0 b1 W
  obtain ⟨v, hv⟩ : ∃ v, a * b = v := ⟨_, rfl⟩
  rw [hv] at p0 p1 p2 M
  clear hv
  go_enter Try.func3, Try.ntmps3
  go_wp2_with fail
  refine (awake_any _).mono ?_
  rintro e w1 ⟨rfl, hb⟩
  have W1 : Below w.heap.size w w1 := hb
  clear hb
  go_wp2_with fail
  refine (M _).mono ?_
  rintro e w2 ⟨rfl, hb⟩
  have W2 : Below w.heap.size w w2 := bchain W1 hb
  clear hb W1 M
  go_wp2_with fail
  have B2 := Bx.new w2 (.int .i64 (hi v)) (.int .u64 (lo v)) 25
  have W3 : Below w.heap.size w (w2.alloc (.cells #[.int .i64 (hi v), .int .u64 (lo v)] 25)) := bchain W2 (bel1 _ _)
  clear W2
  generalize w2.alloc (.cells #[.int .i64 (hi v), .int .u64 (lo v)] 25) = w3 at *
  generalize w2.heap.size = bx at *
  refine (extend_any v (by omega) (by omega) _).mono ?_
  rintro e w4 ⟨rfl, hb⟩
  have W4 : Below w.heap.size w w4 := bchain W3 hb
  have B4 := B2.later hb
  clear hb W3 B2
  by_cases c1 : v < 0
  · have hh := hi_neg v (by omega) c1
    go_wp2_with fail
    refine (root_neg _ _ _ (words_neg v c1 (by omega)) _).mono ?_
    rintro e w5 ⟨rfl, hb⟩
    have W5 : Below w.heap.size w w5 := bchain W4 hb
    have x0 := (B4.later hb).c0
    clear hb W4 B4
    go_wp2
    go_ret
    exact ⟨rfl, W5⟩
  · have hh := hi_pos v (by omega) (by omega)
    by_cases c2 : v = 85070591730234615865843651857942052864
    · obtain ⟨ea, eb⟩ := p2 c2
      have hv6 : 85070591730234615865843651857942052864 ≤ v := by omega
      subst ea eb
      clear p2 c2
      go_wp2_with fail
      refine (root_big _ _ _ (words_big v hv6 (by omega)).1 (words_big v hv6 (by omega)).2 _).mono ?_
      rintro e w5 ⟨rfl, hb⟩
      have W5 : Below w.heap.size w w5 := bchain W4 hb
      have x0 := (B4.later hb).c0
      clear hb W4 B4
      go_wp2
      go_ret
      exact ⟨rfl, W5⟩
    · have hR := rt_spec v (by omega) (by omega)
      go_wp2_with fail
      refine (root_mid v (by omega) (by omega) _).mono ?_
      rintro e w5 ⟨rfl, hb⟩
      have W5 : Below w.heap.size w w5 := bchain W4 hb
      have B5 := B4.later hb
      have x0 := B5.c0
      clear hb W4 B4 p2
      generalize rt v = r at *
      obtain ⟨q0, q1, q2, q3⟩ := hR
      have s1 := sq_rng r q0 (by omega)
      have s2 := sq_rng (r + 1) (by omega) (by omega)
      have n1 : -170141183460469231731687303715884105728 ≤ r * r := by omega
      have n2 : r * r ≤ 170141183460469231731687303715884105727 := by omega
      have n3 : -170141183460469231731687303715884105728 ≤ (r + 1) * (r + 1) := by omega
      have n4 : (r + 1) * (r + 1) ≤ 170141183460469231731687303715884105727 := by omega
      have n5 : -170141183460469231731687303715884105728 ≤ v := by omega
      have n6 : v ≤ 170141183460469231731687303715884105727 := by omega
      have f1 := c3_le (r * r) v q2
      have f2 := c3_pos ((r + 1) * (r + 1)) v q3
      go_wp2_with fail
      refine (of_any r (by omega) (by omega) _).mono ?_
      rintro e w6 ⟨rfl, hb⟩
      have W6 : Below w.heap.size w w6 := bchain W5 hb
      have B6 := B5.later hb
      clear hb W5 B5
      go_wp2_with fail
      refine (of_any 1 (by omega) (by omega) _).mono ?_
      rintro e w7 ⟨rfl, hb⟩
      have W7 : Below w.heap.size w w7 := bchain W6 hb
      have B7 := B6.later hb
      clear hb W6 B6
      go_wp2_with fail
      refine (add_any r 1 _).mono ?_
      rintro e w8 ⟨rfl, hb⟩
      have W8 : Below w.heap.size w w8 := bchain W7 hb
      have B8 := B7.later hb
      clear hb W7 B7
      go_wp2_with fail
      refine (clamp_any (r + 1) (by omega) (by omega) _).mono ?_
      rintro e w9 ⟨rfl, hb⟩
      have W9 : Below w.heap.size w w9 := bchain W8 hb
      have B9 := B8.later hb
      clear hb W8 B8
      have z0 := fun x y => cell_regrown B9.c0 x y
      have z1 := fun x y => cell_regrown B9.c1 x y
      clear x0
      by_cases c3' : r + 1 ≤ 9223372036854775807
      · obtain ⟨e1, e2⟩ := clv_in (r + 1) (by omega) c3'
        go_upto_region 10 with fail
        refine wp_region_quiet_below (by kernel_rfl) (by kernel_rfl) ?_
        repeat (quiet_step (first | (go_at_call 5; exact Calls.regrown_of (mul_any _ _ (by omega) (by omega) (by omega) (by omega) _)) | (go_at_call 11; exact Calls.regrown_of (cmp_any _ v (by first | exact n1 | exact n3) (by first | exact n2 | exact n4) n5 n6 _))))
        refine wpQuiet_nil ?_
        intro wd hw'
        have hB2 : Below w9.heap.size w9 wd := by obtain ⟨⟨dq, osq⟩, rfl⟩ := hw'; exact below_regrown w9 dq osq
        have W10 : Below w.heap.size w wd := bchain W9 hB2
        clear hw' hB2
        go_wp2
        go_ret
        exact ⟨rfl, W10⟩
      · obtain ⟨e1, e2⟩ := clv_hi (r + 1) (by omega)
        go_upto_region 10 with fail
        refine wp_region_quiet_below (by kernel_rfl) (by kernel_rfl) ?_
        repeat (quiet_step (first | (go_at_call 5; exact Calls.regrown_of (mul_any _ _ (by omega) (by omega) (by omega) (by omega) _)) | (go_at_call 11; exact Calls.regrown_of (cmp_any _ v (by first | exact n1 | exact n3) (by first | exact n2 | exact n4) n5 n6 _))))
        refine wpQuiet_nil ?_
        intro wd hw'
        have hB2 : Below w9.heap.size w9 wd := by obtain ⟨⟨dq, osq⟩, rfl⟩ := hw'; exact below_regrown w9 dq osq
        have W10 : Below w.heap.size w wd := bchain W9 hB2
        clear hw' hB2
        go_wp2
        go_ret
        exact ⟨rfl, W10⟩

end Go.Proofs.Ytpmidldnomleoac
