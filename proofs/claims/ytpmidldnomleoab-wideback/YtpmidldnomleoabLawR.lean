/-
  WideBack: for all numbers a, b of 64 bits and every int n the law regattalaw01.WideBack returns true: a product divided by one of its factors is the other one; shifted up and down a number that keeps its bits is what it was. No condition.
-/
import Derived.Test.YtpmidldnomleoabWalkL
import Derived.Test.YtpmidldnomleoabMath7
set_option linter.unusedVariables false
set_option linter.unusedSimpArgs false
namespace Go.Proofs.Ytpmidldnomleoab
open Go.RowKit

theorem pow_le_62 (k : Nat) (hk : k ≤ 62) : (2 : Int) ^ k ≤ 4611686018427387904 := by
  have h : (2 : Nat) ^ k ≤ 2 ^ 62 := Nat.pow_le_pow_right (by omega) hk
  have h2 : (((2 : Nat) ^ k : Nat) : Int) ≤ (((2 : Nat) ^ 62 : Nat) : Int) := by omega
  rw [Int.natCast_pow] at h2
  exact h2
theorem rnd_up (a : Int) (k : Nat) : rnd (a * 2 ^ k) k = a := by
  have hp := pow_pos' k
  have hp2 := pow_pos' (k - 1)
  unfold rnd
  rw [Int.mul_emod_left, Int.mul_ediv_cancel _ (by omega), c3_lt _ _ (by omega)]
  have : gu (-1) (lo a) = false := by unfold gu; simp
  rw [this]
  rfl
theorem round_back (a : Int) (k : Nat) (hk : k ≤ 63) (a0 : -9223372036854775808 ≤ a) (a1 : a ≤ 9223372036854775807) (w : World) :
    Calls Try.prog 22 #[.agg #[.int .i64 (hi (a * 2 ^ k)), .int .u64 (lo (a * 2 ^ k))], .int .i64 k] w fun e w' => e = .returned (.agg #[.int .i64 (hi a), .int .u64 (lo a)]) ∧ Below w.heap.size w w' := by
  obtain ⟨v0, v1⟩ := up_in a k hk a0 a1
  by_cases h : k = 0
  · subst h
    have h2 := round_none (hi (a * 2 ^ 0)) (lo (a * 2 ^ 0)) 0 (by omega) w
    rw [Int.pow_zero, Int.mul_one] at *
    exact h2
  · have h2 := round_mid (a * 2 ^ k) k (by omega) (by omega) v0 v1 w
    rw [rnd_up] at h2
    exact h2
theorem shr_back (a : Int) (k : Nat) (hk : k ≤ 63) (a0 : -9223372036854775808 ≤ a) (a1 : a ≤ 9223372036854775807) (w : World) :
    Calls Try.prog 21 #[.agg #[.int .i64 (hi (a * 2 ^ k)), .int .u64 (lo (a * 2 ^ k))], .int .i64 k] w fun e w' => e = .returned (.agg #[.int .i64 (hi a), .int .u64 (lo a)]) ∧ Below w.heap.size w w' := by
  obtain ⟨v0, v1⟩ := up_in a k hk a0 a1
  have hp := pow_pos' k
  have h := shr_any (a * 2 ^ k) k (by omega) v0 v1 w
  rw [Int.toNat_natCast, Int.mul_ediv_cancel _ (by omega)] at h
  exact h
theorem quo_back (a b : Int) (hb : b ≠ 0) (a0 : -9223372036854775808 ≤ a) (a1 : a ≤ 9223372036854775807) (b0 : -9223372036854775808 ≤ b) (b1 : b ≤ 9223372036854775807) (w : World) :
    Calls Try.prog 18 #[.agg #[.int .i64 (hi (a * b)), .int .u64 (lo (a * b))], .int .i64 b] w fun e w' => e = .returned (.tuple #[.agg #[.int .i64 (hi a), .int .u64 (lo a)], .bool true]) ∧ Below w.heap.size w w' := by
  obtain ⟨v0, v1⟩ := prod_in a b a0 a1 b0 (by omega)
  have h := quo_any (a * b) b v0 v1 b0 b1 hb w
  rw [quo_mul a b hb] at h
  exact h

set_option maxHeartbeats 4000000 in
theorem wideBack_walk (a b n : Int) (a0 : -9223372036854775808 ≤ a) (a1 : a ≤ 9223372036854775807) (b0 : -9223372036854775808 ≤ b) (b1 : b ≤ 9223372036854775807) (n0 : -9223372036854775808 ≤ n) (n1 : n ≤ 9223372036854775807) (w : World) :
    Calls Try.prog 7 #[.int .i64 a, .int .i64 b, .int .i64 n] w fun e w' => e = .returned (.bool true) ∧ Below w.heap.size w w' := by
  go_enter Try.func7, Try.ntmps7
  go_wp2_with fail
  refine (awake_any _).mono ?_
  rintro e w1 ⟨rfl, hb⟩
  have W1 : Below w.heap.size w w1 := hb
  clear hb
  go_upto_if 13 with fail
  go_cut [] (fun wc => Below w.heap.size w wc)
  case first =>
    by_cases hb0 : b = 0
    · subst hb0
      go_wp2_with fail
      go_meet
      exact W1
    · have hb1 : (b != 0) = true := by rw [bne_iff_ne]; exact hb0
      have QB := fun W => quo_back a b hb0 a0 a1 b0 b1 W
      rw [hb1]
      go_wp2_with fail
      refine (mul_any a b a0 a1 b0 b1 _).mono ?_
      rintro e w2 ⟨rfl, hb⟩
      have W2 : Below w.heap.size w w2 := bchain W1 hb
      clear hb W1
      go_wp2_with fail
      refine (QB _).mono ?_
      rintro e w3 ⟨rfl, hb⟩
      have W3 : Below w.heap.size w w3 := bchain W2 hb
      clear hb W2 QB
      go_upto_region 5 with fail
      have B3 := Bx.new w3 (.int .i64 (hi a)) (.int .u64 (lo a)) 33
      have W4 : Below w.heap.size w (w3.alloc (.cells #[.int .i64 (hi a), .int .u64 (lo a)] 33)) := bchain W3 (bel1 _ _)
      clear W3
      generalize w3.alloc (.cells #[.int .i64 (hi a), .int .u64 (lo a)] 33) = w4 at *
      generalize w3.heap.size = bx at *
      have z0 := fun x y => cell_regrown B3.c0 x y
      have z1 := fun x y => cell_regrown B3.c1 x y
      refine wp_region_quiet_below (by kernel_rfl) (by kernel_rfl) ?_
      repeat (quiet_step (first | (go_at_call 17; exact Calls.regrown_of (of_any a a0 a1 _))))
      refine wpQuiet_nil ?_
      intro wd hw'
      have hB2 : Below w4.heap.size w4 wd := by obtain ⟨⟨dq, osq⟩, rfl⟩ := hw'; exact below_regrown w4 dq osq
      have W5 : Below w.heap.size w wd := bchain W4 hB2
      clear hw' hB2
      go_wp2_with fail
      go_meet
      exact W5
  case rest =>
    by_cases c1 : n < 0
    · go_wp2
      go_ret
      exact ⟨rfl, hcut⟩
    · by_cases c2 : 63 < n
      · go_wp2
        go_ret
        exact ⟨rfl, hcut⟩
      · obtain ⟨k, rfl⟩ := Int.eq_ofNat_of_zero_le (show 0 ≤ n by omega)
        have hk : k ≤ 63 := by omega
        have SB := fun W => shr_back a k hk a0 a1 W
        have RB := fun W => round_back a k hk a0 a1 W
        have hmn : min k 64 = k := by omega
        go_wp2_with fail
        refine (of_any a a0 a1 _).mono ?_
        rintro e w2 ⟨rfl, hb⟩
        have W2 : Below w.heap.size w w2 := bchain hcut hb
        clear hb hcut W1
        go_wp2_with fail
        refine (shl_any a k (by omega) _).mono ?_
        rw [Int.toNat_natCast]
        rintro e w3 ⟨rfl, hb⟩
        have W3 : Below w.heap.size w w3 := bchain W2 hb
        clear hb W2
        go_upto_region 10 with fail
        have B3 := Bx.new w3 (.int .i64 (hi (a * 2 ^ k))) (.int .u64 (lo (a * 2 ^ k))) 33
        have W4 : Below w.heap.size w (w3.alloc (.cells #[.int .i64 (hi (a * 2 ^ k)), .int .u64 (lo (a * 2 ^ k))] 33)) := bchain W3 (bel1 _ _)
        clear W3
        generalize w3.alloc (.cells #[.int .i64 (hi (a * 2 ^ k)), .int .u64 (lo (a * 2 ^ k))] 33) = w4 at *
        generalize w3.heap.size = bx at *
        have z0 := fun x y => cell_regrown B3.c0 x y
        have z1 := fun x y => cell_regrown B3.c1 x y
        by_cases c3 : 62 < k
        · have c3' : (62 : Int) < k := by omega
          have SB' : Hid (∀ W : World, Calls Try.prog 21 #[.agg #[.int .i64 (hi (a * 2 ^ k)), .int .u64 (lo (a * 2 ^ k))], .int .i64 k] W fun e w' => e = .returned (.agg #[.int .i64 (hi a), .int .u64 (lo a)]) ∧ Below W.heap.size W w') := SB
          have RB' : Hid (∀ W : World, Calls Try.prog 22 #[.agg #[.int .i64 (hi (a * 2 ^ k)), .int .u64 (lo (a * 2 ^ k))], .int .i64 k] W fun e w' => e = .returned (.agg #[.int .i64 (hi a), .int .u64 (lo a)]) ∧ Below W.heap.size W w') := RB
          clear SB RB
          refine wp_region_quiet_below (by kernel_rfl) (by kernel_rfl) ?_
          repeat (quiet_step (first | (go_at_call 17; exact Calls.regrown_of (of_any a a0 a1 _)) | (go_at_call 21; exact Calls.regrown_of (SB'.out _)) | (go_at_call 22; exact Calls.regrown_of (RB'.out _))))
          refine wpQuiet_nil ?_
          intro wd hw'
          have hB2 : Below w4.heap.size w4 wd := by obtain ⟨⟨dq, osq⟩, rfl⟩ := hw'; exact below_regrown w4 dq osq
          have W5 : Below w.heap.size w wd := bchain W4 hB2
          clear hw' hB2
          go_wp2
          go_ret
          exact ⟨rfl, W5⟩
        · have c3' : ¬ (62 : Int) < k := by omega
          have hp := pow_pos' k
          have hp2 := pow_le_62 k (by omega)
          have hw1 : IntKind.i64.wrap (2 ^ k) = 2 ^ k := by rw [IntKind.wrap_i64]; omega
          have MB : Hid (∀ W : World, Calls Try.prog 15 #[.int .i64 a, .int .i64 (2 ^ k)] W fun e w' => e = .returned (.agg #[.int .i64 (hi (a * 2 ^ k)), .int .u64 (lo (a * 2 ^ k))]) ∧ Below W.heap.size W w') := fun W => mul_any a (2 ^ k) a0 a1 (by omega) (by omega) W
          have SB' : Hid (∀ W : World, Calls Try.prog 21 #[.agg #[.int .i64 (hi (a * 2 ^ k)), .int .u64 (lo (a * 2 ^ k))], .int .i64 k] W fun e w' => e = .returned (.agg #[.int .i64 (hi a), .int .u64 (lo a)]) ∧ Below W.heap.size W w') := SB
          have RB' : Hid (∀ W : World, Calls Try.prog 22 #[.agg #[.int .i64 (hi (a * 2 ^ k)), .int .u64 (lo (a * 2 ^ k))], .int .i64 k] W fun e w' => e = .returned (.agg #[.int .i64 (hi a), .int .u64 (lo a)]) ∧ Below W.heap.size W w') := RB
          clear SB RB hp hp2
          refine wp_region_quiet_below (by kernel_rfl) (by kernel_rfl) ?_
          repeat (quiet_step (first | (go_at_call 17; exact Calls.regrown_of (of_any a a0 a1 _)) | (go_at_call 21; exact Calls.regrown_of (SB'.out _)) | (go_at_call 22; exact Calls.regrown_of (RB'.out _)) | (go_at_call 15; exact Calls.regrown_of (MB.out _))))
          refine wpQuiet_nil ?_
          intro wd hw'
          have hB2 : Below w4.heap.size w4 wd := by obtain ⟨⟨dq, osq⟩, rfl⟩ := hw'; exact below_regrown w4 dq osq
          have W5 : Below w.heap.size w wd := bchain W4 hB2
          clear hw' hB2
          go_wp2
          go_ret
          exact ⟨rfl, W5⟩

end Go.Proofs.Ytpmidldnomleoab
