/-
  Contracts of math/bits.Mul64 and of regatta/wide's Mul, clamped, Clamp, goesUp, size, Extend.
-/
import Derived.Test.YtpmlpcejmndidabDoorWalkB
import Derived.Lib.Mul64
import Derived.Laws.Bits64b
set_option linter.unusedVariables false
namespace Go.Proofs.YtpmlpcejmndidabDoor
open Go.RowKit

theorem mk32 (a : Nat) (ha : a < 18446744073709551616) : bits .and .u64 (a : Int) 4294967295 = ((a % 4294967296 : Nat) : Int) := by
  have h := bits_and_u64_nat a 4294967295 ha (by omega)
  have e : a &&& 4294967295 = a % 4294967296 := Nat.and_two_pow_sub_one_eq_mod a 32
  rw [e] at h
  exact h
theorem dv32 (a : Nat) : (a : Int) / 4294967296 = ((a / 4294967296 : Nat) : Int) := by omega
theorem mlN (a b : Nat) : (a : Int) * (b : Int) = ((a * b : Nat) : Int) := (Int.natCast_mul a b).symm
theorem adN (a b : Nat) : (a : Int) + (b : Int) = ((a + b : Nat) : Int) := (Int.natCast_add a b).symm
theorem wrN (a : Nat) (ha : a < 18446744073709551616) : IntKind.u64.wrap (a : Int) = (a : Int) := by rw [IntKind.wrap_u64]; omega
theorem wrM (a : Nat) : IntKind.u64.wrap (a : Int) = ((a % 18446744073709551616 : Nat) : Int) := by rw [IntKind.wrap_u64]; omega

set_option maxHeartbeats 1000000 in
theorem mul64_nat (x y : Nat) (hx : x < 18446744073709551616) (hy : y < 18446744073709551616) (w : World) :
    Calls Tryd.prog 50 #[.int .u64 x, .int .u64 y] w fun e w' => e = .returned (.tuple #[.int .u64 ((x * y / 18446744073709551616 : Nat) : Int), .int .u64 ((x * y % 18446744073709551616 : Nat) : Int)]) ∧ w' = w := by
  obtain ⟨bd, bt, bw, hhi⟩ := Lib.mul64_hi x y hx hy
  have ba := Lib.half_mul_le (a := x / 4294967296) (b := y / 4294967296) (by omega) (by omega)
  have bb := Lib.half_mul_le (a := x / 4294967296) (b := y % 4294967296) (by omega) (by omega)
  have bc := Lib.half_mul_le (a := x % 4294967296) (b := y / 4294967296) (by omega) (by omega)
  have ba' : x / 4294967296 * (y / 4294967296) < 18446744073709551616 := by omega
  have bb' : x / 4294967296 * (y % 4294967296) < 18446744073709551616 := by omega
  have bc' : x % 4294967296 * (y / 4294967296) < 18446744073709551616 := by omega
  have bh1 : x / 4294967296 * (y / 4294967296) + (x / 4294967296 * (y % 4294967296) + x % 4294967296 * (y % 4294967296) / 4294967296) / 4294967296 < 18446744073709551616 := by omega
  have bh : x / 4294967296 * (y / 4294967296) + (x / 4294967296 * (y % 4294967296) + x % 4294967296 * (y % 4294967296) / 4294967296) / 4294967296 + ((x / 4294967296 * (y % 4294967296) + x % 4294967296 * (y % 4294967296) / 4294967296) % 4294967296 + x % 4294967296 * (y / 4294967296)) / 4294967296 < 18446744073709551616 := by omega
  go_enter Tryd.func50, Tryd.ntmps50
  go_wp2
  simp only [mk32 x hx, mk32 y hy, dv32, mlN, adN, wrN _ bd, wrN _ bb', wrN _ bt, mk32 _ bt, wrN _ bc', wrN _ bw, wrN _ ba', wrN _ bh1, wrN _ bh, wrM (x * y)]
  rw [hhi]
  go_ret2
  exact ⟨rfl, rfl⟩

theorem mul64_any (x y : Int) (x0 : 0 ≤ x) (x1 : x ≤ 18446744073709551615) (y0 : 0 ≤ y) (y1 : y ≤ 18446744073709551615) (w : World) :
    Calls Tryd.prog 50 #[.int .u64 x, .int .u64 y] w fun e w' => e = .returned (.tuple #[.int .u64 (x * y / 18446744073709551616), .int .u64 (x * y % 18446744073709551616)]) ∧ w' = w := by
  obtain ⟨X, rfl⟩ := Int.eq_ofNat_of_zero_le x0
  obtain ⟨Y, rfl⟩ := Int.eq_ofNat_of_zero_le y0
  have h := mul64_nat X Y (by omega) (by omega) w
  rw [show ((X * Y / 18446744073709551616 : Nat) : Int) = (X : Int) * (Y : Int) / 18446744073709551616 by rw [mlN]; omega, show ((X * Y % 18446744073709551616 : Nat) : Int) = (X : Int) * (Y : Int) % 18446744073709551616 by rw [mlN]; omega] at h
  exact h

theorem w64 (x : Int) : wrap64 x = sg x := by unfold wrap64 sg; rfl

set_option maxHeartbeats 1000000 in
theorem mul_any (a b : Int) (a0 : -9223372036854775808 ≤ a) (a1 : a ≤ 9223372036854775807) (b0 : -9223372036854775808 ≤ b) (b1 : b ≤ 9223372036854775807) (w : World) :
    Calls Tryd.prog 27 #[.int .i64 a, .int .i64 b] w fun e w' => e = .returned (.agg #[.int .i64 (hi (a * b)), .int .u64 (lo (a * b))]) ∧ Below w.heap.size w w' := by
  by_cases ha : a < 0
  · by_cases hb : b < 0
    · go_enter Tryd.func27, Tryd.ntmps27
      go_wp2_with (go_at_call 50; refine (mul64_any _ _ ?_ ?_ ?_ ?_ _).mono ?_; (first | omega | (rw [IntKind.wrap_u64]; omega)); (first | omega | (rw [IntKind.wrap_u64]; omega)); (first | omega | (rw [IntKind.wrap_u64]; omega)); (first | omega | (rw [IntKind.wrap_u64]; omega)); rintro e w' ⟨rfl, rfl⟩)
      exact bodyPost_ret (v := .agg #[.int .i64 (hi (a * b)), .int .u64 (lo (a * b))]) (by simp [results, Tryd.results27, go_sem]; simp only [IntKind.wrap_u64, w64, sg]; exact mul_nn a b ha hb a0 b0) rfl ⟨rfl, bel1 _ _⟩
    · go_enter Tryd.func27, Tryd.ntmps27
      go_wp2_with (go_at_call 50; refine (mul64_any _ _ ?_ ?_ ?_ ?_ _).mono ?_; (first | omega | (rw [IntKind.wrap_u64]; omega)); (first | omega | (rw [IntKind.wrap_u64]; omega)); (first | omega | (rw [IntKind.wrap_u64]; omega)); (first | omega | (rw [IntKind.wrap_u64]; omega)); rintro e w' ⟨rfl, rfl⟩)
      exact bodyPost_ret (v := .agg #[.int .i64 (hi (a * b)), .int .u64 (lo (a * b))]) (by simp [results, Tryd.results27, go_sem]; simp only [IntKind.wrap_u64, w64, sg]; exact mul_np a b ha (by omega) a0 b1) rfl ⟨rfl, bel1 _ _⟩
  · by_cases hb : b < 0
    · go_enter Tryd.func27, Tryd.ntmps27
      go_wp2_with (go_at_call 50; refine (mul64_any _ _ ?_ ?_ ?_ ?_ _).mono ?_; (first | omega | (rw [IntKind.wrap_u64]; omega)); (first | omega | (rw [IntKind.wrap_u64]; omega)); (first | omega | (rw [IntKind.wrap_u64]; omega)); (first | omega | (rw [IntKind.wrap_u64]; omega)); rintro e w' ⟨rfl, rfl⟩)
      exact bodyPost_ret (v := .agg #[.int .i64 (hi (a * b)), .int .u64 (lo (a * b))]) (by simp [results, Tryd.results27, go_sem]; simp only [IntKind.wrap_u64, w64, sg]; exact mul_pn a b (by omega) hb a1 b0) rfl ⟨rfl, bel1 _ _⟩
    · go_enter Tryd.func27, Tryd.ntmps27
      go_wp2_with (go_at_call 50; refine (mul64_any _ _ ?_ ?_ ?_ ?_ _).mono ?_; (first | omega | (rw [IntKind.wrap_u64]; omega)); (first | omega | (rw [IntKind.wrap_u64]; omega)); (first | omega | (rw [IntKind.wrap_u64]; omega)); (first | omega | (rw [IntKind.wrap_u64]; omega)); rintro e w' ⟨rfl, rfl⟩)
      exact bodyPost_ret (v := .agg #[.int .i64 (hi (a * b)), .int .u64 (lo (a * b))]) (by simp [results, Tryd.results27, go_sem]; simp only [w64, sg]; exact mul_pp a b) rfl ⟨rfl, bel1 _ _⟩

set_option maxHeartbeats 400000 in
theorem clamp_any (v : Int) (h0 : -170141183460469231731687303715884105728 ≤ v) (h1 : v ≤ 170141183460469231731687303715884105727) (w : World) :
    Calls Tryd.prog 52 #[.agg #[.int .i64 (hi v), .int .u64 (lo v)]] w fun e w' => e = .returned (.tuple #[.int .i64 (clv v), .bool (ovv v)]) ∧ Below w.heap.size w w' := by
  by_cases c1 : v < -9223372036854775808
  · obtain ⟨e1, e2⟩ := clv_lo v c1
    obtain ⟨f1, f2⟩ := fits_lo v c1 h0
    rw [e1, e2]
    have f1' : (hi v == wrap64 (lo v) / 9223372036854775808) = false := by rw [beq_eq_false_iff_ne, w64]; exact f1
    clear e1 e2 f1 c1
    go_enter Tryd.func52, Tryd.ntmps52
    go_wp2
    go_ret2
    exact ⟨rfl, bel1 _ _⟩
  · by_cases c2 : 9223372036854775807 < v
    · obtain ⟨e1, e2⟩ := clv_hi v c2
      obtain ⟨f1, f2⟩ := fits_hi v c2 h1
      rw [e1, e2]
      have f1' : (hi v == wrap64 (lo v) / 9223372036854775808) = false := by rw [beq_eq_false_iff_ne, w64]; exact f1
      clear e1 e2 f1 c1 c2
      go_enter Tryd.func52, Tryd.ntmps52
      go_wp2
      go_ret2
      exact ⟨rfl, bel1 _ _⟩
    · obtain ⟨e1, e2⟩ := clv_in v (by omega) (by omega)
      obtain ⟨f1, f2⟩ := fits_in v (by omega) (by omega)
      rw [e1, e2]
      have f1' : (hi v == wrap64 (lo v) / 9223372036854775808) = true := by rw [beq_iff_eq, w64]; exact f1
      have F2 : Hid (wrap64 (lo v) = v) := by show wrap64 (lo v) = v; rw [w64]; exact f2
      clear e1 e2 f1 f2 c1 c2
      go_enter Tryd.func52, Tryd.ntmps52
      go_wp2
      go_ret2
      exact ⟨by rw [F2.out]; rfl, bel1 _ _⟩

set_option maxHeartbeats 400000 in
theorem goesUp_any (s l : Int) (l0 : 0 ≤ l) (w : World) :
    Calls Tryd.prog 56 #[.int .i64 s, .int .u64 l] w fun e w' => e = .returned (.bool (gu s l)) ∧ w' = w := by
  by_cases c1 : 0 < s
  · have e1 : gu s l = true := by unfold gu; simp [c1]
    rw [e1]
    clear e1
    go_enter Tryd.func56, Tryd.ntmps56
    go_wp2
    go_ret
    exact ⟨rfl, rfl⟩
  · by_cases c2 : s = 0
    · subst c2
      have e1 : gu 0 l = decide (l % 2 = 1) := by unfold gu; simp
      rw [e1]
      clear e1
      by_cases c3 : l % 2 = 1
      · rw [decide_eq_true c3]
        have c3' : (l % 2 == 1) = true := beq_iff_eq.2 c3
        go_enter Tryd.func56, Tryd.ntmps56
        go_wp2
        go_ret
        exact ⟨rfl, rfl⟩
      · rw [decide_eq_false c3]
        have c3' : (l % 2 == 1) = false := beq_eq_false_iff_ne.2 c3
        go_enter Tryd.func56, Tryd.ntmps56
        go_wp2
        go_ret
        exact ⟨rfl, rfl⟩
    · have e1 : gu s l = false := by unfold gu; simp [c1, c2]
      rw [e1]
      clear e1
      have c2' : (s == 0) = false := beq_eq_false_iff_ne.2 c2
      go_enter Tryd.func56, Tryd.ntmps56
      go_wp2
      go_ret
      exact ⟨rfl, rfl⟩

set_option maxHeartbeats 400000 in
theorem size_any (v : Int) (h0 : -170141183460469231731687303715884105728 ≤ v) (h1 : v ≤ 170141183460469231731687303715884105727) (w : World) :
    Calls Tryd.prog 82 #[.agg #[.int .i64 (hi v), .int .u64 (lo v)]] w fun e w' => e = .returned (.agg #[.int .i64 (hi (ab v)), .int .u64 (lo (ab v))]) ∧ Below w.heap.size w w' := by
  by_cases c1 : v < 0
  · have f := hi_neg v h0 c1
    rw [ab_neg v c1]
    clear c1 h0 h1
    go_enter Tryd.func82, Tryd.ntmps82
    go_wp2_with fail
    refine (neg_any v _).mono ?_
    rintro e w1 ⟨rfl, hb⟩
    obtain ⟨hc, hf⟩ := bcell hb
    have hz := hb.size
    simp at hc hf hz
    go_wp2_with fail
    exact bodyPost_ret (v := .agg #[.int .i64 (hi (-v)), .int .u64 (lo (-v))]) (by simp [results, Tryd.results82, go_sem, hc]) rfl ⟨rfl, ((((bel2 w _ _).trans (hb.mono (by simp; omega))).setCell (by simp) _).setCell (by simp) _)⟩
  · have f := hi_pos v (by omega) h1
    rw [ab_pos v (by omega)]
    clear c1 h0 h1
    go_enter Tryd.func82, Tryd.ntmps82
    go_wp2
    exact bodyPost_ret (v := .agg #[.int .i64 (hi v), .int .u64 (lo v)]) (by simp [results, Tryd.results82, go_sem]) rfl ⟨rfl, bel2 _ _ _⟩

set_option maxHeartbeats 400000 in
theorem extend_any (v : Int) (h0 : -170141183460469231731687303715884105728 ≤ v) (h1 : v ≤ 170141183460469231731687303715884105727) (w : World) :
    Calls Tryd.prog 26 #[.agg #[.int .i64 (hi v), .int .u64 (lo v)]] w fun e w' => e = .returned (.agg #[.int .i64 (t3 v), .int .u64 (m3 v), .int .u64 (lo v)]) ∧ Below w.heap.size w w' := by
  obtain ⟨e1, e2⟩ := ext_words v h0 h1
  have e2' : IntKind.u64.wrap (hi v) = m3 v := by rw [IntKind.wrap_u64]; exact e2
  clear h0 h1 e2
  go_enter Tryd.func26, Tryd.ntmps26
  go_wp2
  exact bodyPost_ret (v := .agg #[.int .i64 (t3 v), .int .u64 (m3 v), .int .u64 (lo v)]) (by simp [results, Tryd.results26, go_sem]) rfl ⟨rfl, bel2 _ _ _⟩

end Go.Proofs.YtpmlpcejmndidabDoor
