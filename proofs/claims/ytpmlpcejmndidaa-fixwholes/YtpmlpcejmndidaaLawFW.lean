/-
  FixWholes: for all whole n, d and every number a the law regattalaw02.FixWholes returns true: whole numbers and ratios of them are the nearest numbers of steps, or held; a number's whole parts are down, and nearest. No condition.
-/
import Derived.Test.YtpmlpcejmndidaaFWalkD
import Derived.Test.YtpmlpcejmndidaaSWalkL
set_option linter.unusedVariables false
set_option linter.unusedSimpArgs false
namespace Go.Proofs.Ytpmlpcejmndidaa
open Go.RowKit

theorem sratio_1 (a b : Int) (a0 : -9223372036854775808 ≤ a) (a1 : a ≤ 9223372036854775807) (b0 : -9223372036854775808 ≤ b) (b1 : b ≤ 9223372036854775807) (w : World) :
    Calls Try.prog 25 #[.int .i64 a, .int .i64 1, .int .i64 b] w fun e w' => e = .returned (.tuple #[.int .i64 (qv (a * 4294967296) b), .bool (qo (a * 4294967296) b)]) ∧ Below w.heap.size w w' := sratio_any a b 1 (by omega) a0 a1 b0 b1 w
theorem sadd_z (a k : Int) (K : Nat) (hK : k = K) (hk : K ≤ 4) (a0 : -9223372036854775808 ≤ a) (a1 : a ≤ 9223372036854775807) (w : World) :
    Calls Try.prog 30 #[.agg #[.int .u64 0, .int .u64 0, .int .u64 0, .int .u64 0, .int .u64 0, .int .u64 0, .int .u64 0, .int .u64 0, .int .u64 0, .int .u64 0, .int .u64 0, .int .u64 0], .int .i64 a, .int .i64 k] w fun e w' => ∃ p' q', e = .returned (.agg #[.int .u64 (dg (p') 0), .int .u64 (dg (p') 1), .int .u64 (dg (p') 2), .int .u64 (dg (p') 3), .int .u64 (dg (p') 4), .int .u64 (dg (p') 5), .int .u64 (dg (q') 0), .int .u64 (dg (q') 1), .int .u64 (dg (q') 2), .int .u64 (dg (q') 3), .int .u64 (dg (q') 4), .int .u64 (dg (q') 5)]) ∧ Sm p' q' (a * 2 ^ (32 * K)) (9223372036854775808 * 2 ^ (32 * K)) ∧ Below w.heap.size w w' := by
  subst hK
  exact sadd_zero a K hk a0 a1 w
theorem floor_pos (a : Int) (h : ¬ a < 0) : a.tdiv 4294967296 = a / 4294967296 := Int.tdiv_eq_ediv_of_nonneg (by omega)
theorem clv_same (a : Int) (a0 : -2147483648 ≤ a) (a1 : a ≤ 2147483648) : clv a = a := (clv_in a (by omega) (by omega)).1
set_option maxHeartbeats 4000000 in
theorem fixWholes_walk (n d a : Int) (n0 : -9223372036854775808 ≤ n) (n1 : n ≤ 9223372036854775807) (d0 : -9223372036854775808 ≤ d) (d1 : d ≤ 9223372036854775807) (a0 : -9223372036854775808 ≤ a) (a1 : a ≤ 9223372036854775807) (w : World) :
    Calls Try.prog 7 #[.int .i64 n, .int .i64 d, .int .i64 a] w fun e w' => e = .returned (.bool true) ∧ Below w.heap.size w w' := by
  have P1 : Hid (∀ W : World, Calls Try.prog 28 #[.int .i64 n] W fun e w' => e = .returned (.tuple #[.int .i64 (clv (n * 4294967296)), .bool (ovv (n * 4294967296))]) ∧ Below W.heap.size W w') := fun W => fint_any n n0 n1 W
  have P2 : Hid (∀ W : World, Calls Try.prog 29 #[.int .i64 n, .int .i64 d] W fun e w' => e = .returned (.tuple #[.int .i64 (qv (n * 4294967296) d), .bool (qo (n * 4294967296) d)]) ∧ Below W.heap.size W w') := fun W => fratio_any n d n0 n1 d0 d1 W
  have R2 : Hid (∀ W : World, Calls Try.prog 25 #[.int .i64 n, .int .i64 1, .int .i64 d] W fun e w' => e = .returned (.tuple #[.int .i64 (qv (n * 4294967296) d), .bool (qo (n * 4294967296) d)]) ∧ Below W.heap.size W w') := fun W => sratio_1 n d n0 n1 d0 d1 W
  have R1 : Hid (∀ W : World, Calls Try.prog 30 #[.agg #[.int .u64 0, .int .u64 0, .int .u64 0, .int .u64 0, .int .u64 0, .int .u64 0, .int .u64 0, .int .u64 0, .int .u64 0, .int .u64 0, .int .u64 0, .int .u64 0], .int .i64 n, .int .i64 1] W fun e w' => ∃ p' q', e = .returned (.agg #[.int .u64 (dg (p') 0), .int .u64 (dg (p') 1), .int .u64 (dg (p') 2), .int .u64 (dg (p') 3), .int .u64 (dg (p') 4), .int .u64 (dg (p') 5), .int .u64 (dg (q') 0), .int .u64 (dg (q') 1), .int .u64 (dg (q') 2), .int .u64 (dg (q') 3), .int .u64 (dg (q') 4), .int .u64 (dg (q') 5)]) ∧ Sm p' q' (n * 4294967296) 39614081257132168796771975168 ∧ Below W.heap.size W w') := fun W => sadd_z n 1 1 rfl (by omega) n0 n1 W
  have R3 : Hid (∀ W : World, Calls Try.prog 30 #[.agg #[.int .u64 0, .int .u64 0, .int .u64 0, .int .u64 0, .int .u64 0, .int .u64 0, .int .u64 0, .int .u64 0, .int .u64 0, .int .u64 0, .int .u64 0, .int .u64 0], .int .i64 a, .int .i64 0] W fun e w' => ∃ p' q', e = .returned (.agg #[.int .u64 (dg (p') 0), .int .u64 (dg (p') 1), .int .u64 (dg (p') 2), .int .u64 (dg (p') 3), .int .u64 (dg (p') 4), .int .u64 (dg (p') 5), .int .u64 (dg (q') 0), .int .u64 (dg (q') 1), .int .u64 (dg (q') 2), .int .u64 (dg (q') 3), .int .u64 (dg (q') 4), .int .u64 (dg (q') 5)]) ∧ Sm p' q' (a * 1) 9223372036854775808 ∧ Below W.heap.size W w') := fun W => sadd_z a 0 0 rfl (by omega) a0 a1 W
  have R5 : Hid (∀ p q : Int, Sm p q (n * 4294967296) 39614081257132168796771975168 → ∀ W : World, Calls Try.prog 21 #[.agg #[.int .u64 (dg (p) 0), .int .u64 (dg (p) 1), .int .u64 (dg (p) 2), .int .u64 (dg (p) 3), .int .u64 (dg (p) 4), .int .u64 (dg (p) 5), .int .u64 (dg (q) 0), .int .u64 (dg (q) 1), .int .u64 (dg (q) 2), .int .u64 (dg (q) 3), .int .u64 (dg (q) 4), .int .u64 (dg (q) 5)], .int .i64 0] W fun e w' => e = .returned (.tuple #[.int .i64 (clv (n * 4294967296)), .bool (ovv (n * 4294967296))]) ∧ Below W.heap.size W w') := fun p q hS W => sround_of p q _ _ 0 (by omega) hS (by omega) W
  obtain ⟨r0, r1⟩ := rnd32_in a a0 a1
  have R6 : Hid (∀ p q : Int, Sm p q (a * 1) 9223372036854775808 → ∀ W : World, Calls Try.prog 21 #[.agg #[.int .u64 (dg (p) 0), .int .u64 (dg (p) 1), .int .u64 (dg (p) 2), .int .u64 (dg (p) 3), .int .u64 (dg (p) 4), .int .u64 (dg (p) 5), .int .u64 (dg (q) 0), .int .u64 (dg (q) 1), .int .u64 (dg (q) 2), .int .u64 (dg (q) 3), .int .u64 (dg (q) 4), .int .u64 (dg (q) 5)], .int .i64 32] W fun e w' => e = .returned (.tuple #[.int .i64 (rnd a 32), .bool (ovv (rnd a 32))]) ∧ Below W.heap.size W w') := by
    intro p q hS W
    rw [Int.mul_one] at hS
    have h := sround_of p q _ _ 32 (by omega) hS (by omega) W
    rw [show rr a 32 = rnd a 32 from rfl, clv_same _ r0 r1] at h
    exact h
  have P3 : Hid (∀ W : World, Calls Try.prog 31 #[.int .i64 a] W fun e w' => e = .returned (.int .i64 (rnd a 32)) ∧ Below W.heap.size W w') := fun W => fwhole_any a a0 a1 W
  have P4 : Hid (∀ W : World, Calls Try.prog 32 #[.int .i64 a] W fun e w' => e = .returned (.int .i64 (a / 4294967296)) ∧ w' = W) := fun W => ffloor_any a a0 a1 W
  have f0 : -2147483648 ≤ a / 4294967296 := by omega
  have f1 : a / 4294967296 ≤ 2147483647 := by omega
  by_cases hn : a < 0
  · by_cases hm : a % 4294967296 = 0
    · have t1 : a.tdiv 4294967296 = a / 4294967296 := by rw [Int.tdiv_eq_ediv]; rw [if_pos (Or.inr (Int.dvd_of_emod_eq_zero hm))]; omega
      have t2 : a.tmod 4294967296 = 0 := Int.tmod_eq_zero_of_dvd (Int.dvd_of_emod_eq_zero hm)
      go_enter Try.func7, Try.ntmps7
      go_wp2_with fail
      refine (kawake_any _).mono ?_
      rintro e w1 ⟨rfl, W1⟩
      go_wp2_with fail
      refine (P1.out _).mono ?_
      rintro e w2 ⟨rfl, hb⟩
      have W2 := bchain W1 hb
      clear hb W1 P1
      go_wp2_with fail
      refine (P2.out _).mono ?_
      rintro e w3 ⟨rfl, hb⟩
      have W3 := bchain W2 hb
      clear hb W2 P2
      go_wp2_with fail
      refine (R1.out _).mono ?_
      rintro e w4 ⟨p', q', rfl, hS, hb⟩
      have W4 := bchain W3 hb
      clear hb W3 R1
      have R9 : Hid (∀ W : World, Calls Try.prog 21 #[.agg #[.int .u64 (dg (p') 0), .int .u64 (dg (p') 1), .int .u64 (dg (p') 2), .int .u64 (dg (p') 3), .int .u64 (dg (p') 4), .int .u64 (dg (p') 5), .int .u64 (dg (q') 0), .int .u64 (dg (q') 1), .int .u64 (dg (q') 2), .int .u64 (dg (q') 3), .int .u64 (dg (q') 4), .int .u64 (dg (q') 5)], .int .i64 0] W fun e w' => e = .returned (.tuple #[.int .i64 (clv (n * 4294967296)), .bool (ovv (n * 4294967296))]) ∧ Below W.heap.size W w') := fun W => R5.out p' q' hS W
      clear R5 hS
      go_wp2_with fail
      refine (R9.out _).mono ?_
      rintro e w5 ⟨rfl, hb⟩
      have W5 := bchain W4 hb
      clear hb W4 R9
      go_wp2_with fail
      refine (R2.out _).mono ?_
      rintro e w6 ⟨rfl, hb⟩
      have W6 := bchain W5 hb
      clear hb W5 R2
      go_wp2_with fail
      refine (R3.out _).mono ?_
      rintro e w7 ⟨p2, q2, rfl, hS, hb⟩
      have W7 := bchain W6 hb
      clear hb W6 R3
      have R8 : Hid (∀ W : World, Calls Try.prog 21 #[.agg #[.int .u64 (dg (p2) 0), .int .u64 (dg (p2) 1), .int .u64 (dg (p2) 2), .int .u64 (dg (p2) 3), .int .u64 (dg (p2) 4), .int .u64 (dg (p2) 5), .int .u64 (dg (q2) 0), .int .u64 (dg (q2) 1), .int .u64 (dg (q2) 2), .int .u64 (dg (q2) 3), .int .u64 (dg (q2) 4), .int .u64 (dg (q2) 5)], .int .i64 32] W fun e w' => e = .returned (.tuple #[.int .i64 (rnd a 32), .bool (ovv (rnd a 32))]) ∧ Below W.heap.size W w') := fun W => R6.out p2 q2 hS W
      clear R6 hS
      go_wp2_with fail
      refine (R8.out _).mono ?_
      rintro e w8 ⟨rfl, hb⟩
      have W8 := bchain W7 hb
      clear hb W7 R8
      go_wp2_with fail
      refine (like_same _ _ _).mono ?_
      rintro e wz ⟨rfl, hz⟩
      subst hz
      go_wp2_with fail
      refine (like_same _ _ _).mono ?_
      rintro e wz ⟨rfl, hz⟩
      subst hz
      go_wp2_with fail
      refine (P3.out _).mono ?_
      rintro e w9 ⟨rfl, hb⟩
      have W9 := bchain W8 hb
      clear hb W8 P3
      go_wp2_with fail
      refine (P4.out _).mono ?_
      rintro e wz ⟨rfl, hz⟩
      subst hz
      clear P4
      go_wp2
      go_ret
      exact ⟨rfl, W9⟩
    · have t1 : a.tdiv 4294967296 = a / 4294967296 + 1 := by
        rw [Int.tdiv_eq_ediv, if_neg (by intro h; rcases h with h | h; · omega
                                         · exact hm (Int.emod_eq_zero_of_dvd h))]
        rfl
      have t2 : ¬ a.tmod 4294967296 = 0 := fun h => hm (Int.emod_eq_zero_of_dvd (Int.dvd_of_tmod_eq_zero h))
      go_enter Try.func7, Try.ntmps7
      go_wp2_with fail
      refine (kawake_any _).mono ?_
      rintro e w1 ⟨rfl, W1⟩
      go_wp2_with fail
      refine (P1.out _).mono ?_
      rintro e w2 ⟨rfl, hb⟩
      have W2 := bchain W1 hb
      clear hb W1 P1
      go_wp2_with fail
      refine (P2.out _).mono ?_
      rintro e w3 ⟨rfl, hb⟩
      have W3 := bchain W2 hb
      clear hb W2 P2
      go_wp2_with fail
      refine (R1.out _).mono ?_
      rintro e w4 ⟨p', q', rfl, hS, hb⟩
      have W4 := bchain W3 hb
      clear hb W3 R1
      have R9 : Hid (∀ W : World, Calls Try.prog 21 #[.agg #[.int .u64 (dg (p') 0), .int .u64 (dg (p') 1), .int .u64 (dg (p') 2), .int .u64 (dg (p') 3), .int .u64 (dg (p') 4), .int .u64 (dg (p') 5), .int .u64 (dg (q') 0), .int .u64 (dg (q') 1), .int .u64 (dg (q') 2), .int .u64 (dg (q') 3), .int .u64 (dg (q') 4), .int .u64 (dg (q') 5)], .int .i64 0] W fun e w' => e = .returned (.tuple #[.int .i64 (clv (n * 4294967296)), .bool (ovv (n * 4294967296))]) ∧ Below W.heap.size W w') := fun W => R5.out p' q' hS W
      clear R5 hS
      go_wp2_with fail
      refine (R9.out _).mono ?_
      rintro e w5 ⟨rfl, hb⟩
      have W5 := bchain W4 hb
      clear hb W4 R9
      go_wp2_with fail
      refine (R2.out _).mono ?_
      rintro e w6 ⟨rfl, hb⟩
      have W6 := bchain W5 hb
      clear hb W5 R2
      go_wp2_with fail
      refine (R3.out _).mono ?_
      rintro e w7 ⟨p2, q2, rfl, hS, hb⟩
      have W7 := bchain W6 hb
      clear hb W6 R3
      have R8 : Hid (∀ W : World, Calls Try.prog 21 #[.agg #[.int .u64 (dg (p2) 0), .int .u64 (dg (p2) 1), .int .u64 (dg (p2) 2), .int .u64 (dg (p2) 3), .int .u64 (dg (p2) 4), .int .u64 (dg (p2) 5), .int .u64 (dg (q2) 0), .int .u64 (dg (q2) 1), .int .u64 (dg (q2) 2), .int .u64 (dg (q2) 3), .int .u64 (dg (q2) 4), .int .u64 (dg (q2) 5)], .int .i64 32] W fun e w' => e = .returned (.tuple #[.int .i64 (rnd a 32), .bool (ovv (rnd a 32))]) ∧ Below W.heap.size W w') := fun W => R6.out p2 q2 hS W
      clear R6 hS
      go_wp2_with fail
      refine (R8.out _).mono ?_
      rintro e w8 ⟨rfl, hb⟩
      have W8 := bchain W7 hb
      clear hb W7 R8
      go_wp2_with fail
      refine (like_same _ _ _).mono ?_
      rintro e wz ⟨rfl, hz⟩
      subst hz
      go_wp2_with fail
      refine (like_same _ _ _).mono ?_
      rintro e wz ⟨rfl, hz⟩
      subst hz
      go_wp2_with fail
      refine (P3.out _).mono ?_
      rintro e w9 ⟨rfl, hb⟩
      have W9 := bchain W8 hb
      clear hb W8 P3
      go_wp2_with fail
      refine (P4.out _).mono ?_
      rintro e wz ⟨rfl, hz⟩
      subst hz
      clear P4
      go_wp2
      go_ret
      exact ⟨rfl, W9⟩
  · have t1 := floor_pos a hn
    go_enter Try.func7, Try.ntmps7
    go_wp2_with fail
    refine (kawake_any _).mono ?_
    rintro e w1 ⟨rfl, W1⟩
    go_wp2_with fail
    refine (P1.out _).mono ?_
    rintro e w2 ⟨rfl, hb⟩
    have W2 := bchain W1 hb
    clear hb W1 P1
    go_wp2_with fail
    refine (P2.out _).mono ?_
    rintro e w3 ⟨rfl, hb⟩
    have W3 := bchain W2 hb
    clear hb W2 P2
    go_wp2_with fail
    refine (R1.out _).mono ?_
    rintro e w4 ⟨p', q', rfl, hS, hb⟩
    have W4 := bchain W3 hb
    clear hb W3 R1
    have R9 : Hid (∀ W : World, Calls Try.prog 21 #[.agg #[.int .u64 (dg (p') 0), .int .u64 (dg (p') 1), .int .u64 (dg (p') 2), .int .u64 (dg (p') 3), .int .u64 (dg (p') 4), .int .u64 (dg (p') 5), .int .u64 (dg (q') 0), .int .u64 (dg (q') 1), .int .u64 (dg (q') 2), .int .u64 (dg (q') 3), .int .u64 (dg (q') 4), .int .u64 (dg (q') 5)], .int .i64 0] W fun e w' => e = .returned (.tuple #[.int .i64 (clv (n * 4294967296)), .bool (ovv (n * 4294967296))]) ∧ Below W.heap.size W w') := fun W => R5.out p' q' hS W
    clear R5 hS
    go_wp2_with fail
    refine (R9.out _).mono ?_
    rintro e w5 ⟨rfl, hb⟩
    have W5 := bchain W4 hb
    clear hb W4 R9
    go_wp2_with fail
    refine (R2.out _).mono ?_
    rintro e w6 ⟨rfl, hb⟩
    have W6 := bchain W5 hb
    clear hb W5 R2
    go_wp2_with fail
    refine (R3.out _).mono ?_
    rintro e w7 ⟨p2, q2, rfl, hS, hb⟩
    have W7 := bchain W6 hb
    clear hb W6 R3
    have R8 : Hid (∀ W : World, Calls Try.prog 21 #[.agg #[.int .u64 (dg (p2) 0), .int .u64 (dg (p2) 1), .int .u64 (dg (p2) 2), .int .u64 (dg (p2) 3), .int .u64 (dg (p2) 4), .int .u64 (dg (p2) 5), .int .u64 (dg (q2) 0), .int .u64 (dg (q2) 1), .int .u64 (dg (q2) 2), .int .u64 (dg (q2) 3), .int .u64 (dg (q2) 4), .int .u64 (dg (q2) 5)], .int .i64 32] W fun e w' => e = .returned (.tuple #[.int .i64 (rnd a 32), .bool (ovv (rnd a 32))]) ∧ Below W.heap.size W w') := fun W => R6.out p2 q2 hS W
    clear R6 hS
    go_wp2_with fail
    refine (R8.out _).mono ?_
    rintro e w8 ⟨rfl, hb⟩
    have W8 := bchain W7 hb
    clear hb W7 R8
    go_wp2_with fail
    refine (like_same _ _ _).mono ?_
    rintro e wz ⟨rfl, hz⟩
    subst hz
    go_wp2_with fail
    refine (like_same _ _ _).mono ?_
    rintro e wz ⟨rfl, hz⟩
    subst hz
    go_wp2_with fail
    refine (P3.out _).mono ?_
    rintro e w9 ⟨rfl, hb⟩
    have W9 := bchain W8 hb
    clear hb W8 P3
    go_wp2_with fail
    refine (P4.out _).mono ?_
    rintro e wz ⟨rfl, hz⟩
    subst hz
    clear P4
    go_wp2
    go_ret
    exact ⟨rfl, W9⟩
end Go.Proofs.Ytpmlpcejmndidaa
