/-
  The contracts of fix's quotient, Div, By, Ratio.
-/
import Derived.Test.YtpmlpcejmndidabDoorFWalkC
import Derived.Test.YtpmlpcejmndidabDoorWalkL
set_option linter.unusedVariables false
set_option linter.unusedSimpArgs false
namespace Go.Proofs.YtpmlpcejmndidabDoor
open Go.RowKit

theorem quo_in (v d : Int) (hd : d ≠ 0) (B : Int) (B0 : 1 ≤ B) (v0 : -B ≤ v) (v1 : v ≤ B) : -B - 1 ≤ quo v d ∧ quo v d ≤ B + 1 := by
  have h1 : 0 ≤ ab v ∧ ab v ≤ B := by unfold ab; split <;> omega
  have h2 : 1 ≤ ab d := by unfold ab; split <;> omega
  have h3 : 0 ≤ ab v / ab d := Int.ediv_nonneg h1.1 (by omega)
  have h4 : ab v / ab d ≤ ab v := Int.ediv_le_self _ h1.1
  have h5 : 0 ≤ quoA v d ∧ quoA v d ≤ B + 1 := by unfold quoA; split <;> omega
  unfold quo
  split <;> omega
set_option maxHeartbeats 1000000 in
theorem quot_any (v d : Int) (v0 : -85070591730234615865843651857942052864 ≤ v) (v1 : v ≤ 85070591730234615865843651857942052864) (d0 : -9223372036854775808 ≤ d) (d1 : d ≤ 9223372036854775807) (w : World) :
    Calls Tryd.prog 66 #[.agg #[.int .i64 (hi v), .int .u64 (lo v)], .int .i64 d] w fun e w' => e = .returned (.tuple #[.int .i64 (qv v d), .bool (qo v d)]) ∧ Below w.heap.size w w' := by
  unfold qv qo
  by_cases hd : d = 0
  · subst hd
    rw [if_pos rfl, if_pos rfl]
    have A0 := Bx.new w (.int .i64 (hi v)) (.int .u64 (lo v)) 57
    unfold zv
    have CM0 : ∀ W : World, Calls Tryd.prog 57 #[.agg #[.int .i64 (hi v), .int .u64 (lo v)], .agg #[.int .i64 0, .int .u64 0]] W fun e w' => e = .returned (.int .i64 (c3 v 0)) ∧ Below W.heap.size W w' := fun W => cmp_any v 0 (by omega) (by omega) (by omega) (by omega) W
    rcases (show 0 < v ∨ v = 0 ∨ v < 0 by omega) with h | h | h
    · rw [if_pos h]
      have CM : Hid (∀ W : World, Calls Tryd.prog 57 #[.agg #[.int .i64 (hi v), .int .u64 (lo v)], .agg #[.int .i64 0, .int .u64 0]] W fun e w' => e = .returned (.int .i64 1) ∧ Below W.heap.size W w') := by
        intro W
        have h' := CM0 W
        rw [c3_gt v 0 h] at h'
        exact h'
      clear CM0
      go_enter Tryd.func66, Tryd.ntmps66
      go_wp2_with fail
      refine (quo_zero _ _ _).mono ?_
      rintro e w1 ⟨rfl, hb⟩
      have W1 := bchain (bel1 w _) hb
      have A1 := A0.later hb
      clear hb A0
      have W2 := bchain W1 (bel1 w1 (.cells #[.int .i64 0, .int .u64 0] 57))
      have A2 := A1.later (bel1 w1 (.cells #[.int .i64 0, .int .u64 0] 57))
      clear W1 A1
      obtain ⟨x0, x1, x2, x3⟩ := A2
      go_wp2_with fail
      refine (CM.out _).mono ?_
      rintro e w3 ⟨rfl, hb⟩
      have W3 := bchain W2 hb
      clear hb W2 CM x0 x1 x2 x3
      go_wp2
      go_ret2
      exact ⟨rfl, W3⟩
    · rw [if_neg (by omega), if_neg (by omega)]
      have CM : Hid (∀ W : World, Calls Tryd.prog 57 #[.agg #[.int .i64 (hi v), .int .u64 (lo v)], .agg #[.int .i64 0, .int .u64 0]] W fun e w' => e = .returned (.int .i64 0) ∧ Below W.heap.size W w') := by
        intro W
        have h' := CM0 W
        rw [show c3 v 0 = 0 by rw [h]; exact c3_self 0] at h'
        exact h'
      clear CM0 h
      go_enter Tryd.func66, Tryd.ntmps66
      go_wp2_with fail
      refine (quo_zero _ _ _).mono ?_
      rintro e w1 ⟨rfl, hb⟩
      have W1 := bchain (bel1 w _) hb
      have A1 := A0.later hb
      clear hb A0
      have W2 := bchain W1 (bel1 w1 (.cells #[.int .i64 0, .int .u64 0] 57))
      have A2 := A1.later (bel1 w1 (.cells #[.int .i64 0, .int .u64 0] 57))
      clear W1 A1
      obtain ⟨x0, x1, x2, x3⟩ := A2
      go_wp2_with fail
      refine (CM.out _).mono ?_
      rintro e w3 ⟨rfl, hb⟩
      have W3 := bchain W2 hb
      clear hb W2 CM x0 x1 x2 x3
      go_wp2
      go_ret2
      exact ⟨rfl, W3⟩
    · rw [if_neg (by omega), if_pos h]
      have CM : Hid (∀ W : World, Calls Tryd.prog 57 #[.agg #[.int .i64 (hi v), .int .u64 (lo v)], .agg #[.int .i64 0, .int .u64 0]] W fun e w' => e = .returned (.int .i64 (-1)) ∧ Below W.heap.size W w') := by
        intro W
        have h' := CM0 W
        rw [c3_lt v 0 h] at h'
        exact h'
      clear CM0
      go_enter Tryd.func66, Tryd.ntmps66
      go_wp2_with fail
      refine (quo_zero _ _ _).mono ?_
      rintro e w1 ⟨rfl, hb⟩
      have W1 := bchain (bel1 w _) hb
      have A1 := A0.later hb
      clear hb A0
      have W2 := bchain W1 (bel1 w1 (.cells #[.int .i64 0, .int .u64 0] 57))
      have A2 := A1.later (bel1 w1 (.cells #[.int .i64 0, .int .u64 0] 57))
      clear W1 A1
      obtain ⟨x0, x1, x2, x3⟩ := A2
      go_wp2_with fail
      refine (CM.out _).mono ?_
      rintro e w3 ⟨rfl, hb⟩
      have W3 := bchain W2 hb
      clear hb W2 CM x0 x1 x2 x3
      go_wp2
      go_ret2
      exact ⟨rfl, W3⟩
  · rw [if_neg hd, if_neg hd]
    obtain ⟨q0, q1⟩ := quo_in v d hd 85070591730234615865843651857942052864 (by omega) v0 v1
    have QU : Hid (∀ W : World, Calls Tryd.prog 76 #[.agg #[.int .i64 (hi v), .int .u64 (lo v)], .int .i64 d] W fun e w' => e = .returned (.tuple #[.agg #[.int .i64 (hi (quo v d)), .int .u64 (lo (quo v d))], .bool true]) ∧ Below W.heap.size W w') := fun W => quo_any v d (by omega) (by omega) d0 d1 hd W
    have HO : Hid (∀ W : World, Calls Tryd.prog 29 #[.agg #[.int .i64 (hi (quo v d)), .int .u64 (lo (quo v d))]] W fun e w' => e = .returned (.tuple #[.int .i64 (clv (quo v d)), .bool (ovv (quo v d))]) ∧ Below W.heap.size W w') := fun W => hold_any (quo v d) (by omega) (by omega) W
    go_enter Tryd.func66, Tryd.ntmps66
    go_wp2_with fail
    refine (QU.out _).mono ?_
    rintro e w1 ⟨rfl, hb⟩
    have W1 := bchain (bel1 w _) hb
    clear hb QU
    have W2 := bchain W1 (bel1 w1 (.cells #[.int .i64 (hi (quo v d)), .int .u64 (lo (quo v d))] 57))
    have A2 := Bx.new w1 (.int .i64 (hi (quo v d))) (.int .u64 (lo (quo v d))) 57
    go_wp2_with fail
    refine (HO.out _).mono ?_
    rintro e w3 ⟨rfl, hb⟩
    have W3 := bchain W2 hb
    clear hb W2 HO
    go_wp2
    go_ret2
    exact ⟨rfl, W3⟩
set_option maxHeartbeats 1000000 in
theorem fdiv_any (a b : Int) (a0 : -9223372036854775808 ≤ a) (a1 : a ≤ 9223372036854775807) (b0 : -9223372036854775808 ≤ b) (b1 : b ≤ 9223372036854775807) (w : World) :
    Calls Tryd.prog 47 #[.int .i64 a, .int .i64 b] w fun e w' => e = .returned (.tuple #[.int .i64 (qv (a * 4294967296) b), .bool (qo (a * 4294967296) b)]) ∧ Below w.heap.size w w' := by
  have SH : Hid (∀ W : World, Calls Tryd.prog 34 #[.agg #[.int .i64 (hi a), .int .u64 (lo a)], .int .i64 32] W fun e w' => e = .returned (.agg #[.int .i64 (hi (a * 4294967296)), .int .u64 (lo (a * 4294967296))]) ∧ Below W.heap.size W w') := fun W => shl_any a 32 (by omega) W
  have QU : Hid (∀ W : World, Calls Tryd.prog 66 #[.agg #[.int .i64 (hi (a * 4294967296)), .int .u64 (lo (a * 4294967296))], .int .i64 b] W fun e w' => e = .returned (.tuple #[.int .i64 (qv (a * 4294967296) b), .bool (qo (a * 4294967296) b)]) ∧ Below W.heap.size W w') := fun W => quot_any (a * 4294967296) b (by omega) (by omega) b0 b1 W
  go_enter Tryd.func47, Tryd.ntmps47
  go_wp2_with fail
  refine (steps_any a a0 a1 _).mono ?_
  rintro e w1 ⟨rfl, W1⟩
  go_wp2_with fail
  refine (SH.out _).mono ?_
  rintro e w2 ⟨rfl, hb⟩
  have W2 := bchain W1 hb
  clear hb W1 SH
  go_wp2_with fail
  refine (QU.out _).mono ?_
  rintro e w3 ⟨rfl, hb⟩
  have W3 := bchain W2 hb
  clear hb W2 QU
  go_wp2
  go_ret2
  exact ⟨rfl, W3⟩
set_option maxHeartbeats 1000000 in
theorem fby_any (a b : Int) (a0 : -9223372036854775808 ≤ a) (a1 : a ≤ 9223372036854775807) (b0 : -9223372036854775808 ≤ b) (b1 : b ≤ 9223372036854775807) (w : World) :
    Calls Tryd.prog 48 #[.int .i64 a, .int .i64 b] w fun e w' => e = .returned (.tuple #[.int .i64 (qv a b), .bool (qo a b)]) ∧ Below w.heap.size w w' := by
  have QU : Hid (∀ W : World, Calls Tryd.prog 66 #[.agg #[.int .i64 (hi a), .int .u64 (lo a)], .int .i64 b] W fun e w' => e = .returned (.tuple #[.int .i64 (qv a b), .bool (qo a b)]) ∧ Below W.heap.size W w') := fun W => quot_any a b (by omega) (by omega) b0 b1 W
  go_enter Tryd.func48, Tryd.ntmps48
  go_wp2_with fail
  refine (steps_any a a0 a1 _).mono ?_
  rintro e w1 ⟨rfl, W1⟩
  go_wp2_with fail
  refine (QU.out _).mono ?_
  rintro e w2 ⟨rfl, hb⟩
  have W2 := bchain W1 hb
  clear hb W1 QU
  go_wp2
  go_ret2
  exact ⟨rfl, W2⟩
end Go.Proofs.YtpmlpcejmndidabDoor
