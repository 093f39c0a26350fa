/-
  WideShifts: for every wide number a and every int n the law regattalaw01.WideShifts returns true: shifts are times and by powers of two; to the right they go down, or to the nearest number, of two the even one. No condition.
-/
import Derived.Test.YtpmidldnomleoaaRWalkI
import Derived.Test.YtpmidldnomleoaaRWalkF
set_option linter.unusedVariables false
set_option linter.unusedSimpArgs false
namespace Go.Proofs.Ytpmidldnomleoaa
open Go.RowKit

theorem far_up (a n : Int) (h : 127 < n) : hi (a * 2 ^ n.toNat) = 0 ∧ lo (a * 2 ^ n.toNat) = 0 := by
  have e : a * 2 ^ n.toNat = a * 2 ^ (n.toNat - 128) * 340282366920938463463374607431768211456 := by
    rw [Int.mul_assoc, show (340282366920938463463374607431768211456 : Int) = 2 ^ 128 from rfl, ← Int.pow_add]; congr 2; omega
  rw [e]
  generalize a * 2 ^ (n.toNat - 128) = X
  unfold hi lo
  omega
theorem far_down (a n : Int) (h : 127 < n) (a0 : -170141183460469231731687303715884105728 ≤ a) (a1 : a ≤ 170141183460469231731687303715884105727) : a / 2 ^ n.toNat = if a < 0 then -1 else 0 := by
  have hp : (170141183460469231731687303715884105728 : Int) ≤ 2 ^ n.toNat := by
    have h2 : (2 : Nat) ^ 127 ≤ 2 ^ n.toNat := Nat.pow_le_pow_right (by omega) (by omega)
    have h3 : (((2 : Nat) ^ 127 : Nat) : Int) ≤ (((2 : Nat) ^ n.toNat : Nat) : Int) := by omega
    rw [Int.natCast_pow] at h3
    exact h3
  by_cases hn : a < 0
  · rw [if_pos hn, Int.ediv_eq_neg_one_of_neg_of_le (by omega) (by omega)]
  · rw [if_neg hn, Int.ediv_eq_zero_of_lt (by omega) (by omega)]

set_option maxHeartbeats 400000 in
theorem times_any (n : Int) (k : Nat) (h : min (max n 0) 127 = (k : Int)) (w : World) :
    Calls Try.prog 25 #[.int .i64 n, .int .i64 127] w fun e w' => e = .returned (.int .i64 (k : Int)) ∧ w' = w := by
  go_enter Try.func25, Try.ntmps25
  go_wp2
  go_ret
  exact ⟨rfl, rfl⟩

set_option maxHeartbeats 4000000 in
theorem wideShifts_walk (a n : Int) (a0 : -170141183460469231731687303715884105728 ≤ a) (a1 : a ≤ 170141183460469231731687303715884105727) (n0 : -9223372036854775808 ≤ n) (n1 : n ≤ 9223372036854775807) (w : World) :
    Calls Try.prog 5 #[.agg #[.int .i64 (hi a), .int .u64 (lo a)], .int .i64 n] w fun e w' => e = .returned (.bool true) ∧ Below w.heap.size w w' := by
  have ra := inr_128 a a0 a1
  go_enter Try.func5, Try.ntmps5
  go_wp2_with fail
  refine (awake_any _).mono ?_
  rintro e w1 ⟨rfl, hb⟩
  have W1 : Below w.heap.size w w1 := bchain (bel1 _ _) hb
  have B1 := (Bx.new w (.int .i64 (hi a)) (.int .u64 (lo a)) 24).later hb
  clear hb
  have c0 := B1.c0
  have c1 := B1.c1
  go_wp2_with fail
  refine (bits_any a _).mono ?_
  rintro e w2 ⟨v2, rfl, hown, hb⟩
  have W2 := bchain W1 hb
  have B2 := B1.later hb
  have X2 := bt_own hown (by omega)
  clear hb hown W1 B1 c0 c1
  have c0 := B2.c0
  have c1 := B2.c1
  by_cases hn : 127 < n
  · obtain ⟨f1, f2⟩ := far_up a n hn
    have f3 := far_down a n hn a0 a1
    have SR := fun W => shr_any a n n1 a0 a1 W
    by_cases hneg : a < 0
    · have hh := hi_neg a a0 hneg
      rw [f3, if_pos hneg] at SR
      have SR' : Hid (∀ W : World, Calls Try.prog 24 #[.agg #[.int .i64 (hi a), .int .u64 (lo a)], .int .i64 n] W fun e w' => e = .returned (.agg #[.int .i64 (-1), .int .u64 18446744073709551615]) ∧ Below W.heap.size W w') := SR
      clear SR f3
      have c0a : (w2.alloc (.cells #[.int .i64 0, .int .u64 0] 24)).cell? ⟨w.heap.size, 0, none⟩ = some (.int .i64 (hi a)) := cell_alloc c0
      go_upto_region 8 with fail
      clear c0a
      have L3 := Bx.new w2 (.int .i64 (-1)) (.int .u64 18446744073709551615) 24
      have B3 := B2.later (bel1 w2 (.cells #[.int .i64 (-1), .int .u64 18446744073709551615] 24))
      have W3 := bchain W2 (bel1 w2 (.cells #[.int .i64 (-1), .int .u64 18446744073709551615] 24))
      clear B2 W2 X2 c0 c1
      generalize w2.alloc (.cells #[.int .i64 (-1), .int .u64 18446744073709551615] 24) = w3 at *
      generalize w2.heap.size = b at *
      have z0 := fun x y => cell_regrown B3.c0 x y
      have z1 := fun x y => cell_regrown B3.c1 x y
      have z2 := fun x y => cell_regrown L3.c0 x y
      have z3 := fun x y => cell_regrown L3.c1 x y
      refine wp_region_quiet_below (by kernel_rfl) (by kernel_rfl) ?_
      repeat (quiet_step (first | (go_at_call 22; exact Calls.regrown_of (shl_any a n n1 _)) | (go_at_call 23; exact Calls.regrown_of (round_big _ _ n hn _)) | (go_at_call 24; exact Calls.regrown_of (SR'.out _))))
      refine wpQuiet_nil ?_
      intro wd hw'
      have hB2 : Below w3.heap.size w3 wd := by obtain ⟨⟨dq, osq⟩, rfl⟩ := hw'; exact below_regrown w3 dq osq
      have W4 := bchain W3 hB2
      clear hw' hB2
      go_wp2
      go_ret
      exact ⟨rfl, W4⟩
    · have hh := hi_pos a (by omega) a1
      rw [f3, if_neg hneg] at SR
      have SR' : Hid (∀ W : World, Calls Try.prog 24 #[.agg #[.int .i64 (hi a), .int .u64 (lo a)], .int .i64 n] W fun e w' => e = .returned (.agg #[.int .i64 0, .int .u64 0]) ∧ Below W.heap.size W w') := SR
      clear SR f3
      have c0a : (w2.alloc (.cells #[.int .i64 0, .int .u64 0] 24)).cell? ⟨w.heap.size, 0, none⟩ = some (.int .i64 (hi a)) := cell_alloc c0
      go_upto_region 8 with fail
      clear c0a
      have L3 := Bx.new w2 (.int .i64 0) (.int .u64 0) 24
      have B3 := B2.later (bel1 w2 (.cells #[.int .i64 0, .int .u64 0] 24))
      have W3 := bchain W2 (bel1 w2 (.cells #[.int .i64 0, .int .u64 0] 24))
      clear B2 W2 X2 c0 c1
      generalize w2.alloc (.cells #[.int .i64 0, .int .u64 0] 24) = w3 at *
      generalize w2.heap.size = b at *
      have z0 := fun x y => cell_regrown B3.c0 x y
      have z1 := fun x y => cell_regrown B3.c1 x y
      have z2 := fun x y => cell_regrown L3.c0 x y
      have z3 := fun x y => cell_regrown L3.c1 x y
      refine wp_region_quiet_below (by kernel_rfl) (by kernel_rfl) ?_
      repeat (quiet_step (first | (go_at_call 22; exact Calls.regrown_of (shl_any a n n1 _)) | (go_at_call 23; exact Calls.regrown_of (round_big _ _ n hn _)) | (go_at_call 24; exact Calls.regrown_of (SR'.out _))))
      refine wpQuiet_nil ?_
      intro wd hw'
      have hB2 : Below w3.heap.size w3 wd := by obtain ⟨⟨dq, osq⟩, rfl⟩ := hw'; exact below_regrown w3 dq osq
      have W4 := bchain W3 hB2
      clear hw' hB2
      go_wp2
      go_ret
      exact ⟨rfl, W4⟩
  · obtain ⟨k, hk⟩ : ∃ k : Nat, n.toNat = k := ⟨_, rfl⟩
    have hk1 : k ≤ 127 := by omega
    have SL := fun W => shl_any a n n1 W
    have SR := fun W => shr_any a n n1 a0 a1 W
    rw [hk] at SL SR
    have SLH : Hid (∀ W : World, Calls Try.prog 22 #[.agg #[.int .i64 (hi a), .int .u64 (lo a)], .int .i64 n] W fun e w' => e = .returned (.agg #[.int .i64 (hi (a * 2 ^ k)), .int .u64 (lo (a * 2 ^ k))]) ∧ Below W.heap.size W w') := SL
    have SRH : Hid (∀ W : World, Calls Try.prog 24 #[.agg #[.int .i64 (hi a), .int .u64 (lo a)], .int .i64 n] W fun e w' => e = .returned (.agg #[.int .i64 (hi (a / 2 ^ k)), .int .u64 (lo (a / 2 ^ k))]) ∧ Below W.heap.size W w') := SR
    -- what both Rounds come to
    have RND : ∃ r : Int, Hid (∀ W : World, Calls Try.prog 23 #[.agg #[.int .i64 (hi a), .int .u64 (lo a)], .int .i64 n] W fun e w' => e = .returned (.agg #[.int .i64 (hi r), .int .u64 (lo r)]) ∧ Below W.heap.size W w') ∧ Hid (∀ (W : World) (v : Value), Bt W v 128 a → Calls Try.prog 28 #[v, .int .i64 (k : Int)] W fun e w' => ∃ v', e = .returned v' ∧ Bt w' v' 128 r ∧ Below W.heap.size W w') := by
      by_cases hz : k = 0
      · refine ⟨a, fun W => round_none _ _ n (by omega) W, fun W v hv => ?_⟩
        subst hz
        refine (rround_zero v W).mono ?_
        rintro e w' ⟨rfl, rfl⟩
        exact ⟨v, rfl, hv, Below.refl _ _⟩
      · have en : n = (k : Int) := by omega
        refine ⟨rnd a k, fun W => ?_, fun W v hv => rround_any v 128 k a (by omega) (by omega) (by omega) (by omega) ra W hv⟩
        rw [en]
        exact round_mid a k (by omega) hk1 a0 a1 W
    obtain ⟨r, RW, RR⟩ := RND
    have m1 : min (max n 0) 127 = (k : Int) := by omega
    clear SL SR hk n0
    go_wp2_with fail
    refine (times_any n k m1 _).mono ?_
    rintro e w3 ⟨rfl, hw⟩
    subst hw
    clear m1
    go_wp2_with fail
    refine (SLH.out _).mono ?_
    rintro e w4 ⟨rfl, hb⟩
    have W4 := bchain W2 hb
    have B4 := B2.later hb
    have X4 := X2.later hb
    clear hb W2 B2 X2 SLH c0 c1
    go_wp2_with fail
    refine (rshl_any _ 128 k a (by omega) (by omega) (by omega) _ X4).mono ?_
    rintro e w5 ⟨v5, rfl, hown, hb⟩
    have T5 := bt_own hown (by omega)
    have W5 := bchain W4 hb
    have B5 := B4.later hb
    have X5 := X4.later hb
    clear hb hown W4 B4 X4
    go_wp2_with fail
    refine (wides_any v5 _ _ T5).mono ?_
    rintro e w6 ⟨rfl, hb⟩
    have W6 := bchain W5 hb
    have B6 := B5.later hb
    have X6 := X5.later hb
    clear hb W5 B5 X5 T5
    have c0 := B6.c0
    have c1 := B6.c1
    go_wp2_with fail
    refine (SRH.out _).mono ?_
    rintro e w7 ⟨rfl, hb⟩
    have W7 := bchain W6 hb
    have B7 := B6.later hb
    have X7 := X6.later hb
    clear hb W6 B6 X6 SRH c0 c1
    go_wp2_with fail
    refine (rshr_any _ 128 k a (by omega) (by omega) (by omega) ra _ X7).mono ?_
    rintro e w8 ⟨v8, rfl, hown, hb⟩
    have T8 := bt_own hown (by omega)
    have W8 := bchain W7 hb
    have B8 := B7.later hb
    have X8 := X7.later hb
    clear hb hown W7 B7 X7
    go_wp2_with fail
    refine (wides_any v8 _ _ T8).mono ?_
    rintro e w9 ⟨rfl, hb⟩
    have W9 := bchain W8 hb
    have B9 := B8.later hb
    have X9 := X8.later hb
    clear hb W8 B8 X8 T8
    have c0 := B9.c0
    have c1 := B9.c1
    go_wp2_with fail
    refine (RW.out _).mono ?_
    rintro e w10 ⟨rfl, hb⟩
    have W10 := bchain W9 hb
    have B10 := B9.later hb
    have X10 := X9.later hb
    clear hb W9 B9 X9 RW c0 c1
    go_wp2_with fail
    refine (RR.out _ _ X10).mono ?_
    rintro e w11 ⟨v11, rfl, T11, hb⟩
    have W11 := bchain W10 hb
    have B11 := B10.later hb
    have X11 := X10.later hb
    clear hb W10 B10 X10 RR
    go_wp2_with fail
    refine (wides_any v11 _ _ T11).mono ?_
    rintro e w12 ⟨rfl, hb⟩
    have W12 := bchain W11 hb
    clear hb T11 W11 B11 X11
    go_wp2
    go_ret
    exact ⟨rfl, W12⟩
end Go.Proofs.Ytpmidldnomleoaa
