/-
  WideLongAll: for every wide number a and every int n the law regattalaw01.WideLongAll returns true: a wide number is the same as a long one: it is rounded and clamped alike. Its condition: the table of math/bits.TrailingZeros64 reads as its initialiser lays it (the card ties it to the program's text).
-/
import Derived.Test.YtpmidldnomleoabDoorWalkR
set_option linter.unusedVariables false
set_option linter.unusedSimpArgs false
namespace Go.Proofs.YtpmidldnomleoabDoor
open Go.RowKit

theorem rnd_far (a : Int) (k : Nat) (hk : 128 ≤ k) (a0 : -170141183460469231731687303715884105728 ≤ a) (a1 : a ≤ 170141183460469231731687303715884105727) : rnd a k = 0 := by
  have hp : (170141183460469231731687303715884105728 : Int) ≤ 2 ^ (k - 1) := by
    have h2 : (2 : Nat) ^ 127 ≤ 2 ^ (k - 1) := Nat.pow_le_pow_right (by omega) (by omega)
    have h3 : (((2 : Nat) ^ 127 : Nat) : Int) ≤ (((2 : Nat) ^ (k - 1) : Nat) : Int) := by omega
    rw [Int.natCast_pow, Int.natCast_pow] at h3
    exact h3
  have e2 : (2 : Int) ^ k = 2 ^ (k - 1) + 2 ^ (k - 1) := by rw [← pow_two, show k - 1 + 1 = k by omega]
  unfold rnd
  by_cases hn : a < 0
  · have q : a / 2 ^ k = -1 := Int.ediv_eq_neg_one_of_neg_of_le (by omega) (by omega)
    have m : a % 2 ^ k = a + 2 ^ k := by
      have := Int.mul_ediv_add_emod a (2 ^ k)
      rw [q] at this
      omega
    have g : gu (c3 (a % 2 ^ k) (2 ^ (k - 1))) (lo (a / 2 ^ k)) = true := by
      rw [m, q, show lo (-1) = 18446744073709551615 from rfl]
      rcases (show 2 ^ (k - 1) < a + 2 ^ k ∨ a + 2 ^ k = 2 ^ (k - 1) by omega) with h | h
      · rw [c3_gt _ _ h]; rfl
      · rw [h, c3_self]; rfl
    rw [if_pos g, q]
    rfl
  · have q : a / 2 ^ k = 0 := Int.ediv_eq_zero_of_lt (by omega) (by omega)
    have m : a % 2 ^ k = a := Int.emod_eq_of_lt (by omega) (by omega)
    have g : ¬ gu (c3 (a % 2 ^ k) (2 ^ (k - 1))) (lo (a / 2 ^ k)) = true := by
      rw [m, c3_lt _ _ (by omega)]
      unfold gu
      simp
    rw [if_neg g, q]
theorem rnd_128 (v : Int) (n : Nat) (hn : 1 ≤ n) (h0 : -170141183460469231731687303715884105728 ≤ v) (h1 : v ≤ 170141183460469231731687303715884105727) : -170141183460469231731687303715884105728 ≤ rnd v n ∧ rnd v n ≤ 170141183460469231731687303715884105727 := by
  have hp : (2 : Int) ≤ 2 ^ n := by
    have := pow_two (n - 1)
    have := pow_pos' (n - 1)
    rw [show n - 1 + 1 = n by omega] at *
    omega
  have a1 : v / 2 ^ n ≤ 85070591730234615865843651857942052863 := by
    have := Int.ediv_le_ediv (show (0 : Int) < 2 ^ n by omega) h1
    have h2 : (170141183460469231731687303715884105727 : Int) / 2 ^ n ≤ 85070591730234615865843651857942052863 := by
      apply Int.le_of_lt_add_one
      apply Int.ediv_lt_of_lt_mul (by omega)
      have := Int.mul_le_mul_of_nonneg_left hp (show (0 : Int) ≤ 85070591730234615865843651857942052864 by omega)
      omega
    omega
  have a0 : -85070591730234615865843651857942052864 ≤ v / 2 ^ n := by
    rw [Int.le_ediv_iff_mul_le (by omega)]
    have := Int.mul_le_mul_of_nonpos_left (a := -85070591730234615865843651857942052864) (by omega) hp
    omega
  unfold rnd
  split <;> omega

set_option maxHeartbeats 1000000 in
theorem wideLongAll_walk (a n : Int) (a0 : -170141183460469231731687303715884105728 ≤ a) (a1 : a ≤ 170141183460469231731687303715884105727) (n0 : -9223372036854775808 ≤ n) (n1 : n ≤ 9223372036854775807) (w : World) (hT : TabAt w) :
    Calls Tryd.prog 3 #[.agg #[.int .i64 (hi a), .int .u64 (lo a)], .int .i64 n] w fun e w' => e = .returned (.bool true) ∧ Below w.heap.size w w' := by
  have W0 := bel1 w (.cells #[.int .i64 (hi a), .int .u64 (lo a)] 24)
  have B0 := Bx.new w (.int .i64 (hi a)) (.int .u64 (lo a)) 24
  have T0 := hT.later W0
  go_enter Tryd.func3, Tryd.ntmps3
  go_wp2_with fail
  refine (awake_any _).mono ?_
  rintro e w1 ⟨rfl, hb⟩
  have W1 : Below w.heap.size w w1 := bchain W0 hb
  have B1 := B0.later hb
  have T1 := T0.later hb
  have c0 := B1.c0
  have c1 := B1.c1
  clear hb B0 T0 W0 hT
  go_wp2_with fail
  refine (extend_any a a0 a1 _).mono ?_
  rintro e w2 ⟨rfl, hb⟩
  have W2 := bchain W1 hb
  have B2 := B1.later hb
  have T2 := T1.later hb
  clear hb B1 T1 W1 c0 c1
  by_cases hbig : 191 < n
  · go_wp2_with fail
    refine (near_big _ _ _ n hbig _).mono ?_
    rintro e w3 ⟨rfl, hb⟩
    have W3 := bchain W2 hb
    have h127 : 127 < n := by omega
    clear hb B2 T2 W2 hbig
    go_wp2
    go_ret
    exact ⟨rfl, W3⟩
  · obtain ⟨k, hk⟩ : ∃ k : Nat, max n 0 = (k : Int) := ⟨(max n 0).toNat, by omega⟩
    have k1 : k ≤ 191 := by omega
    have NR := fun W h => near_mid a n k hk k1 (by omega) (by omega) W h
    by_cases h127 : 127 < n
    · rw [rl_pos a k (by omega), rnd_far a k (by omega) a0 a1, (clv_in 0 (by omega) (by omega)).1, (clv_in 0 (by omega) (by omega)).2] at NR
      have NRH : Hid (∀ W : World, TabAt W → Calls Tryd.prog 5 #[.agg #[.int .i64 (t3 a), .int .u64 (m3 a), .int .u64 (lo a)], .int .i64 n] W fun e w' => e = .returned (.tuple #[.int .i64 0, .bool false]) ∧ Below W.heap.size W w') := NR
      clear NR hk
      go_wp2_with fail
      refine (NRH.out _ T2).mono ?_
      rintro e w3 ⟨rfl, hb⟩
      have W3 := bchain W2 hb
      clear hb B2 T2 W2 NRH
      go_wp2
      go_ret
      exact ⟨rfl, W3⟩
    · have RND : ∃ r : Int, Hid (rl a k = r) ∧ Hid (∀ W : World, Calls Tryd.prog 8 #[.agg #[.int .i64 (hi a), .int .u64 (lo a)], .int .i64 n] W fun e w' => e = .returned (.agg #[.int .i64 (hi r), .int .u64 (lo r)]) ∧ Below W.heap.size W w') ∧ Hid (-170141183460469231731687303715884105728 ≤ r ∧ r ≤ 170141183460469231731687303715884105727) := by
        by_cases hz : k = 0
        · subst hz
          exact ⟨a, rl_zero a, fun W => round_none _ _ n (by omega) W, ⟨a0, a1⟩⟩
        · have en : n = (k : Int) := by omega
          refine ⟨rnd a k, rl_pos a k (by omega), fun W => ?_, rnd_128 a k (by omega) a0 a1⟩
          rw [en]
          exact round_mid a k (by omega) (by omega) a0 a1 W
      obtain ⟨r, hr, RW, RG⟩ := RND
      rw [hr.out] at NR
      have CL : Hid (∀ W : World, Calls Tryd.prog 7 #[.agg #[.int .i64 (hi r), .int .u64 (lo r)]] W fun e w' => e = .returned (.tuple #[.int .i64 (clv r), .bool (ovv r)]) ∧ Below W.heap.size W w') := fun W => clamp_any r RG.out.1 RG.out.2 W
      generalize clv r = X at *
      generalize ovv r = Y at *
      have NRH : Hid (∀ W : World, TabAt W → Calls Tryd.prog 5 #[.agg #[.int .i64 (t3 a), .int .u64 (m3 a), .int .u64 (lo a)], .int .i64 n] W fun e w' => e = .returned (.tuple #[.int .i64 X, .bool Y]) ∧ Below W.heap.size W w') := NR
      clear NR hk hr RG
      go_wp2_with fail
      refine (NRH.out _ T2).mono ?_
      rintro e w3 ⟨rfl, hb⟩
      have W3 := bchain W2 hb
      have B3' := B2.later hb
      clear hb B2 T2 W2 NRH
      have c0 := B3'.c0
      have c1 := B3'.c1
      go_wp2_with fail
      refine (RW.out _).mono ?_
      rintro e w4 ⟨rfl, hb⟩
      have W4 := bchain W3 hb
      clear hb W3 B3' c0 c1 RW
      go_wp2_with fail
      refine (CL.out _).mono ?_
      rintro e w5 ⟨rfl, hb⟩
      have W5 := bchain W4 hb
      clear hb W4 CL
      cases Y
      · go_wp2
        go_ret
        exact ⟨rfl, W5⟩
      · go_wp2
        go_ret
        exact ⟨rfl, W5⟩
end Go.Proofs.YtpmidldnomleoabDoor
