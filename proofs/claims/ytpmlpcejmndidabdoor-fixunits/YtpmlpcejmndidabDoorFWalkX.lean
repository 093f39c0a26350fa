/-
  The contract of the law's op: its step.
-/
import Derived.Test.YtpmlpcejmndidabDoorFWalkW
set_option linter.unusedVariables false
set_option linter.unusedSimpArgs false
namespace Go.Proofs.YtpmlpcejmndidabDoor
open Go.RowKit

set_option maxHeartbeats 1000000 in
theorem step_1_nil (a b : Int) (a0 : -9223372036854775808 ≤ a) (a1 : a ≤ 9223372036854775807) (b0 : -9223372036854775808 ≤ b) (b1 : b ≤ 9223372036854775807) (w : World) :
    Calls Tryd.prog 7 #[.pointer none, .agg #[.int .i64 1, .int .i64 a, .int .i64 b]] w fun e w' => e = .returned (.int .i64 (clv (a + b))) ∧ Below w.heap.size w w' := by
  have W0 := bel1 w (.cells #[.int .i64 1, .int .i64 a, .int .i64 b] 31)
  have P : Hid (∀ W : World, Calls Tryd.prog 19 #[.pointer none, .int .i64 a, .int .i64 b] W fun e w' => e = .returned (.int .i64 (clv (a + b))) ∧ Below W.heap.size W w') := fun W => uAdd_nil a b a0 a1 b0 b1 W
  go_enter Tryd.func7, Tryd.ntmps7
  go_wp2_with fail
  refine (P.out _).mono ?_
  rintro e w3 ⟨rfl, hb⟩
  have W3 := bchain W0 hb
  clear hb W0 P
  go_wp2
  go_ret
  exact ⟨rfl, W3⟩
set_option maxHeartbeats 1000000 in
theorem step_1_un (a b : Int) (a0 : -9223372036854775808 ≤ a) (a1 : a ≤ 9223372036854775807) (b0 : -9223372036854775808 ≤ b) (b1 : b ≤ 9223372036854775807) (d : Nat) (n : Int) (n0 : 0 ≤ n) (n1 : n ≤ 1000) (w : World) (c : w.cell? ⟨d, 0, none⟩ = some (.int .i64 n)) (f : w.frozen? ⟨d, 0, none⟩ = false) :
    Calls Tryd.prog 7 #[.pointer (some ⟨d, 0, none⟩), .agg #[.int .i64 1, .int .i64 a, .int .i64 b]] w fun e w' => e = .returned (.int .i64 (clv (a + b))) ∧ Un d (n + bi (ovv (a + b))) w w' := by
  have W0 := bel1 w (.cells #[.int .i64 1, .int .i64 a, .int .i64 b] 31)
  have c1 := cell_later W0 c
  have f1 := frozen_later W0 c f
  clear c f
  have P : Hid (∀ W : World, W.cell? ⟨d, 0, none⟩ = some (.int .i64 n) → W.frozen? ⟨d, 0, none⟩ = false → Calls Tryd.prog 19 #[.pointer (some ⟨d, 0, none⟩), .int .i64 a, .int .i64 b] W fun e w' => e = .returned (.int .i64 (clv (a + b))) ∧ Un d (n + bi (ovv (a + b))) W w') := fun W hc hf => uAdd_un a b a0 a1 b0 b1 d n n0 n1 W hc hf
  go_enter Tryd.func7, Tryd.ntmps7
  go_wp2_with fail
  refine (P.out _ c1 f1).mono ?_
  rintro e w3 ⟨rfl, hU⟩
  have hV := Un.after W0 hU
  clear hU W0 P c1 f1
  go_wp2
  go_ret
  exact ⟨rfl, hV⟩
set_option maxHeartbeats 1000000 in
theorem step_2_nil (a b : Int) (a0 : -9223372036854775808 ≤ a) (a1 : a ≤ 9223372036854775807) (b0 : -9223372036854775808 ≤ b) (b1 : b ≤ 9223372036854775807) (w : World) :
    Calls Tryd.prog 7 #[.pointer none, .agg #[.int .i64 2, .int .i64 a, .int .i64 b]] w fun e w' => e = .returned (.int .i64 (clv (a - b))) ∧ Below w.heap.size w w' := by
  have W0 := bel1 w (.cells #[.int .i64 2, .int .i64 a, .int .i64 b] 31)
  have P : Hid (∀ W : World, Calls Tryd.prog 20 #[.pointer none, .int .i64 a, .int .i64 b] W fun e w' => e = .returned (.int .i64 (clv (a - b))) ∧ Below W.heap.size W w') := fun W => uSub_nil a b a0 a1 b0 b1 W
  go_enter Tryd.func7, Tryd.ntmps7
  go_wp2_with fail
  refine (P.out _).mono ?_
  rintro e w3 ⟨rfl, hb⟩
  have W3 := bchain W0 hb
  clear hb W0 P
  go_wp2
  go_ret
  exact ⟨rfl, W3⟩
set_option maxHeartbeats 1000000 in
theorem step_2_un (a b : Int) (a0 : -9223372036854775808 ≤ a) (a1 : a ≤ 9223372036854775807) (b0 : -9223372036854775808 ≤ b) (b1 : b ≤ 9223372036854775807) (d : Nat) (n : Int) (n0 : 0 ≤ n) (n1 : n ≤ 1000) (w : World) (c : w.cell? ⟨d, 0, none⟩ = some (.int .i64 n)) (f : w.frozen? ⟨d, 0, none⟩ = false) :
    Calls Tryd.prog 7 #[.pointer (some ⟨d, 0, none⟩), .agg #[.int .i64 2, .int .i64 a, .int .i64 b]] w fun e w' => e = .returned (.int .i64 (clv (a - b))) ∧ Un d (n + bi (ovv (a - b))) w w' := by
  have W0 := bel1 w (.cells #[.int .i64 2, .int .i64 a, .int .i64 b] 31)
  have c1 := cell_later W0 c
  have f1 := frozen_later W0 c f
  clear c f
  have P : Hid (∀ W : World, W.cell? ⟨d, 0, none⟩ = some (.int .i64 n) → W.frozen? ⟨d, 0, none⟩ = false → Calls Tryd.prog 20 #[.pointer (some ⟨d, 0, none⟩), .int .i64 a, .int .i64 b] W fun e w' => e = .returned (.int .i64 (clv (a - b))) ∧ Un d (n + bi (ovv (a - b))) W w') := fun W hc hf => uSub_un a b a0 a1 b0 b1 d n n0 n1 W hc hf
  go_enter Tryd.func7, Tryd.ntmps7
  go_wp2_with fail
  refine (P.out _ c1 f1).mono ?_
  rintro e w3 ⟨rfl, hU⟩
  have hV := Un.after W0 hU
  clear hU W0 P c1 f1
  go_wp2
  go_ret
  exact ⟨rfl, hV⟩
set_option maxHeartbeats 1000000 in
theorem step_3_nil (a b : Int) (a0 : -9223372036854775808 ≤ a) (a1 : a ≤ 9223372036854775807) (b0 : -9223372036854775808 ≤ b) (b1 : b ≤ 9223372036854775807) (w : World) :
    Calls Tryd.prog 7 #[.pointer none, .agg #[.int .i64 3, .int .i64 a, .int .i64 b]] w fun e w' => e = .returned (.int .i64 (clv (rnd (a * b) 32))) ∧ Below w.heap.size w w' := by
  have W0 := bel1 w (.cells #[.int .i64 3, .int .i64 a, .int .i64 b] 31)
  have P : Hid (∀ W : World, Calls Tryd.prog 21 #[.pointer none, .int .i64 a, .int .i64 b] W fun e w' => e = .returned (.int .i64 (clv (rnd (a * b) 32))) ∧ Below W.heap.size W w') := fun W => uMul_nil a b a0 a1 b0 b1 W
  go_enter Tryd.func7, Tryd.ntmps7
  go_wp2_with fail
  refine (P.out _).mono ?_
  rintro e w3 ⟨rfl, hb⟩
  have W3 := bchain W0 hb
  clear hb W0 P
  go_wp2
  go_ret
  exact ⟨rfl, W3⟩
set_option maxHeartbeats 1000000 in
theorem step_3_un (a b : Int) (a0 : -9223372036854775808 ≤ a) (a1 : a ≤ 9223372036854775807) (b0 : -9223372036854775808 ≤ b) (b1 : b ≤ 9223372036854775807) (d : Nat) (n : Int) (n0 : 0 ≤ n) (n1 : n ≤ 1000) (w : World) (c : w.cell? ⟨d, 0, none⟩ = some (.int .i64 n)) (f : w.frozen? ⟨d, 0, none⟩ = false) :
    Calls Tryd.prog 7 #[.pointer (some ⟨d, 0, none⟩), .agg #[.int .i64 3, .int .i64 a, .int .i64 b]] w fun e w' => e = .returned (.int .i64 (clv (rnd (a * b) 32))) ∧ Un d (n + bi (ovv (rnd (a * b) 32))) w w' := by
  have W0 := bel1 w (.cells #[.int .i64 3, .int .i64 a, .int .i64 b] 31)
  have c1 := cell_later W0 c
  have f1 := frozen_later W0 c f
  clear c f
  have P : Hid (∀ W : World, W.cell? ⟨d, 0, none⟩ = some (.int .i64 n) → W.frozen? ⟨d, 0, none⟩ = false → Calls Tryd.prog 21 #[.pointer (some ⟨d, 0, none⟩), .int .i64 a, .int .i64 b] W fun e w' => e = .returned (.int .i64 (clv (rnd (a * b) 32))) ∧ Un d (n + bi (ovv (rnd (a * b) 32))) W w') := fun W hc hf => uMul_un a b a0 a1 b0 b1 d n n0 n1 W hc hf
  go_enter Tryd.func7, Tryd.ntmps7
  go_wp2_with fail
  refine (P.out _ c1 f1).mono ?_
  rintro e w3 ⟨rfl, hU⟩
  have hV := Un.after W0 hU
  clear hU W0 P c1 f1
  go_wp2
  go_ret
  exact ⟨rfl, hV⟩
set_option maxHeartbeats 1000000 in
theorem step_4_nil (a b : Int) (a0 : -9223372036854775808 ≤ a) (a1 : a ≤ 9223372036854775807) (b0 : -9223372036854775808 ≤ b) (b1 : b ≤ 9223372036854775807) (w : World) :
    Calls Tryd.prog 7 #[.pointer none, .agg #[.int .i64 4, .int .i64 a, .int .i64 b]] w fun e w' => e = .returned (.int .i64 (qv (a * 4294967296) b)) ∧ Below w.heap.size w w' := by
  have W0 := bel1 w (.cells #[.int .i64 4, .int .i64 a, .int .i64 b] 31)
  have P : Hid (∀ W : World, Calls Tryd.prog 22 #[.pointer none, .int .i64 a, .int .i64 b] W fun e w' => e = .returned (.int .i64 (qv (a * 4294967296) b)) ∧ Below W.heap.size W w') := fun W => uDiv_nil a b a0 a1 b0 b1 W
  go_enter Tryd.func7, Tryd.ntmps7
  go_wp2_with fail
  refine (P.out _).mono ?_
  rintro e w3 ⟨rfl, hb⟩
  have W3 := bchain W0 hb
  clear hb W0 P
  go_wp2
  go_ret
  exact ⟨rfl, W3⟩
set_option maxHeartbeats 1000000 in
theorem step_4_un (a b : Int) (a0 : -9223372036854775808 ≤ a) (a1 : a ≤ 9223372036854775807) (b0 : -9223372036854775808 ≤ b) (b1 : b ≤ 9223372036854775807) (d : Nat) (n : Int) (n0 : 0 ≤ n) (n1 : n ≤ 1000) (w : World) (c : w.cell? ⟨d, 0, none⟩ = some (.int .i64 n)) (f : w.frozen? ⟨d, 0, none⟩ = false) :
    Calls Tryd.prog 7 #[.pointer (some ⟨d, 0, none⟩), .agg #[.int .i64 4, .int .i64 a, .int .i64 b]] w fun e w' => e = .returned (.int .i64 (qv (a * 4294967296) b)) ∧ Un d (n + bi (qo (a * 4294967296) b)) w w' := by
  have W0 := bel1 w (.cells #[.int .i64 4, .int .i64 a, .int .i64 b] 31)
  have c1 := cell_later W0 c
  have f1 := frozen_later W0 c f
  clear c f
  have P : Hid (∀ W : World, W.cell? ⟨d, 0, none⟩ = some (.int .i64 n) → W.frozen? ⟨d, 0, none⟩ = false → Calls Tryd.prog 22 #[.pointer (some ⟨d, 0, none⟩), .int .i64 a, .int .i64 b] W fun e w' => e = .returned (.int .i64 (qv (a * 4294967296) b)) ∧ Un d (n + bi (qo (a * 4294967296) b)) W w') := fun W hc hf => uDiv_un a b a0 a1 b0 b1 d n n0 n1 W hc hf
  go_enter Tryd.func7, Tryd.ntmps7
  go_wp2_with fail
  refine (P.out _ c1 f1).mono ?_
  rintro e w3 ⟨rfl, hU⟩
  have hV := Un.after W0 hU
  clear hU W0 P c1 f1
  go_wp2
  go_ret
  exact ⟨rfl, hV⟩
set_option maxHeartbeats 1000000 in
theorem step_5_nil (a b : Int) (a0 : -9223372036854775808 ≤ a) (a1 : a ≤ 9223372036854775807) (b0 : -9223372036854775808 ≤ b) (b1 : b ≤ 9223372036854775807) (w : World) :
    Calls Tryd.prog 7 #[.pointer none, .agg #[.int .i64 5, .int .i64 a, .int .i64 b]] w fun e w' => e = .returned (.int .i64 (qv a (b / 4294967296))) ∧ Below w.heap.size w w' := by
  have W0 := bel1 w (.cells #[.int .i64 5, .int .i64 a, .int .i64 b] 31)
  have P : Hid (∀ W : World, Calls Tryd.prog 23 #[.pointer none, .int .i64 a, .int .i64 (b / 4294967296)] W fun e w' => e = .returned (.int .i64 (qv a (b / 4294967296))) ∧ Below W.heap.size W w') := fun W => uBy_nil a (b / 4294967296) a0 a1 (by omega) (by omega) W
  have q0 : -2147483648 ≤ b / 4294967296 := by omega
  have q1 : b / 4294967296 ≤ 2147483647 := by omega
  go_enter Tryd.func7, Tryd.ntmps7
  go_wp2_with fail
  refine (P.out _).mono ?_
  rintro e w3 ⟨rfl, hb⟩
  have W3 := bchain W0 hb
  clear hb W0 P
  go_wp2
  go_ret
  exact ⟨rfl, W3⟩
set_option maxHeartbeats 1000000 in
theorem step_5_un (a b : Int) (a0 : -9223372036854775808 ≤ a) (a1 : a ≤ 9223372036854775807) (b0 : -9223372036854775808 ≤ b) (b1 : b ≤ 9223372036854775807) (d : Nat) (n : Int) (n0 : 0 ≤ n) (n1 : n ≤ 1000) (w : World) (c : w.cell? ⟨d, 0, none⟩ = some (.int .i64 n)) (f : w.frozen? ⟨d, 0, none⟩ = false) :
    Calls Tryd.prog 7 #[.pointer (some ⟨d, 0, none⟩), .agg #[.int .i64 5, .int .i64 a, .int .i64 b]] w fun e w' => e = .returned (.int .i64 (qv a (b / 4294967296))) ∧ Un d (n + bi (qo a (b / 4294967296))) w w' := by
  have W0 := bel1 w (.cells #[.int .i64 5, .int .i64 a, .int .i64 b] 31)
  have c1 := cell_later W0 c
  have f1 := frozen_later W0 c f
  clear c f
  have P : Hid (∀ W : World, W.cell? ⟨d, 0, none⟩ = some (.int .i64 n) → W.frozen? ⟨d, 0, none⟩ = false → Calls Tryd.prog 23 #[.pointer (some ⟨d, 0, none⟩), .int .i64 a, .int .i64 (b / 4294967296)] W fun e w' => e = .returned (.int .i64 (qv a (b / 4294967296))) ∧ Un d (n + bi (qo a (b / 4294967296))) W w') := fun W hc hf => uBy_un a (b / 4294967296) a0 a1 (by omega) (by omega) d n n0 n1 W hc hf
  have q0 : -2147483648 ≤ b / 4294967296 := by omega
  have q1 : b / 4294967296 ≤ 2147483647 := by omega
  go_enter Tryd.func7, Tryd.ntmps7
  go_wp2_with fail
  refine (P.out _ c1 f1).mono ?_
  rintro e w3 ⟨rfl, hU⟩
  have hV := Un.after W0 hU
  clear hU W0 P c1 f1
  go_wp2
  go_ret
  exact ⟨rfl, hV⟩
set_option maxHeartbeats 1000000 in
theorem step_6_nil (a b : Int) (a0 : -9223372036854775808 ≤ a) (a1 : a ≤ 9223372036854775807) (b0 : -9223372036854775808 ≤ b) (b1 : b ≤ 9223372036854775807) (w : World) :
    Calls Tryd.prog 7 #[.pointer none, .agg #[.int .i64 6, .int .i64 a, .int .i64 b]] w fun e w' => e = .returned (.int .i64 (sv a)) ∧ Below w.heap.size w w' := by
  have W0 := bel1 w (.cells #[.int .i64 6, .int .i64 a, .int .i64 b] 31)
  have P : Hid (∀ W : World, Calls Tryd.prog 24 #[.pointer none, .int .i64 a] W fun e w' => e = .returned (.int .i64 (sv a)) ∧ Below W.heap.size W w') := fun W => uSqrt_nil a a0 a1 W
  go_enter Tryd.func7, Tryd.ntmps7
  go_wp2_with fail
  refine (P.out _).mono ?_
  rintro e w3 ⟨rfl, hb⟩
  have W3 := bchain W0 hb
  clear hb W0 P
  go_wp2
  go_ret
  exact ⟨rfl, W3⟩
set_option maxHeartbeats 1000000 in
theorem step_6_un (a b : Int) (a0 : -9223372036854775808 ≤ a) (a1 : a ≤ 9223372036854775807) (b0 : -9223372036854775808 ≤ b) (b1 : b ≤ 9223372036854775807) (d : Nat) (n : Int) (n0 : 0 ≤ n) (n1 : n ≤ 1000) (w : World) (c : w.cell? ⟨d, 0, none⟩ = some (.int .i64 n)) (f : w.frozen? ⟨d, 0, none⟩ = false) :
    Calls Tryd.prog 7 #[.pointer (some ⟨d, 0, none⟩), .agg #[.int .i64 6, .int .i64 a, .int .i64 b]] w fun e w' => e = .returned (.int .i64 (sv a)) ∧ Un d (n + bi (decide (a < 0))) w w' := by
  have W0 := bel1 w (.cells #[.int .i64 6, .int .i64 a, .int .i64 b] 31)
  have c1 := cell_later W0 c
  have f1 := frozen_later W0 c f
  clear c f
  have P : Hid (∀ W : World, W.cell? ⟨d, 0, none⟩ = some (.int .i64 n) → W.frozen? ⟨d, 0, none⟩ = false → Calls Tryd.prog 24 #[.pointer (some ⟨d, 0, none⟩), .int .i64 a] W fun e w' => e = .returned (.int .i64 (sv a)) ∧ Un d (n + bi (decide (a < 0))) W w') := fun W hc hf => uSqrt_un a a0 a1 d n n0 n1 W hc hf
  go_enter Tryd.func7, Tryd.ntmps7
  go_wp2_with fail
  refine (P.out _ c1 f1).mono ?_
  rintro e w3 ⟨rfl, hU⟩
  have hV := Un.after W0 hU
  clear hU W0 P c1 f1
  go_wp2
  go_ret
  exact ⟨rfl, hV⟩
set_option maxHeartbeats 1000000 in
theorem step_7_nil (a b : Int) (a0 : -9223372036854775808 ≤ a) (a1 : a ≤ 9223372036854775807) (b0 : -9223372036854775808 ≤ b) (b1 : b ≤ 9223372036854775807) (w : World) :
    Calls Tryd.prog 7 #[.pointer none, .agg #[.int .i64 7, .int .i64 a, .int .i64 b]] w fun e w' => e = .returned (.int .i64 (a)) ∧ Below w.heap.size w w' := by
  have W0 := bel1 w (.cells #[.int .i64 7, .int .i64 a, .int .i64 b] 31)
  have P : Hid (∀ W : World, Calls Tryd.prog 28 #[.pointer none, .int .i64 a, .bool (decide (0 < b))] W fun e w' => e = .returned (.int .i64 a) ∧ w' = W) := fun W => take_nil a _ W
  go_enter Tryd.func7, Tryd.ntmps7
  go_wp2_with fail
  refine (P.out _).mono ?_
  rintro e w3 ⟨rfl, hz⟩
  subst hz
  clear P
  go_wp2
  go_ret
  exact ⟨rfl, W0⟩
set_option maxHeartbeats 1000000 in
theorem step_7_un (a b : Int) (a0 : -9223372036854775808 ≤ a) (a1 : a ≤ 9223372036854775807) (b0 : -9223372036854775808 ≤ b) (b1 : b ≤ 9223372036854775807) (d : Nat) (n : Int) (n0 : 0 ≤ n) (n1 : n ≤ 1000) (w : World) (c : w.cell? ⟨d, 0, none⟩ = some (.int .i64 n)) (f : w.frozen? ⟨d, 0, none⟩ = false) :
    Calls Tryd.prog 7 #[.pointer (some ⟨d, 0, none⟩), .agg #[.int .i64 7, .int .i64 a, .int .i64 b]] w fun e w' => e = .returned (.int .i64 (a)) ∧ Un d (n + bi (decide (0 < b))) w w' := by
  have W0 := bel1 w (.cells #[.int .i64 7, .int .i64 a, .int .i64 b] 31)
  have c1 := cell_later W0 c
  have f1 := frozen_later W0 c f
  clear c f
  have P : Hid (∀ W : World, W.cell? ⟨d, 0, none⟩ = some (.int .i64 n) → W.frozen? ⟨d, 0, none⟩ = false → Calls Tryd.prog 28 #[.pointer (some ⟨d, 0, none⟩), .int .i64 a, .bool (decide (0 < b))] W fun e w' => e = .returned (.int .i64 a) ∧ Un d (n + bi (decide (0 < b))) W w') := fun W hc hf => take_un d n a _ n0 n1 W hc hf
  go_enter Tryd.func7, Tryd.ntmps7
  go_wp2_with fail
  refine (P.out _ c1 f1).mono ?_
  rintro e w3 ⟨rfl, hU⟩
  have hV := Un.after W0 hU
  clear hU W0 P c1 f1
  go_wp2
  go_ret
  exact ⟨rfl, hV⟩
set_option maxHeartbeats 1000000 in
theorem step_9_nil (a b : Int) (a0 : -9223372036854775808 ≤ a) (a1 : a ≤ 9223372036854775807) (b0 : -9223372036854775808 ≤ b) (b1 : b ≤ 9223372036854775807) (w : World) (hT : TabAt w) :
    Calls Tryd.prog 7 #[.pointer none, .agg #[.int .i64 9, .int .i64 a, .int .i64 b]] w fun e w' => e = .returned (.int .i64 (clv (rnd (a * b) 32))) ∧ Below w.heap.size w w' := by
  have W0 := bel1 w (.cells #[.int .i64 9, .int .i64 a, .int .i64 b] 31)
  obtain ⟨m0, m1⟩ := mul_in a b a0 a1 b0 b1
  have HT : Hid (TabAt (w.alloc (.cells #[.int .i64 9, .int .i64 a, .int .i64 b] 31))) := hT.later W0
  clear hT
  have P1 : Hid (∀ W : World, Calls Tryd.prog 27 #[.int .i64 a, .int .i64 b] W fun e w' => e = .returned (.agg #[.int .i64 (hi (a * b)), .int .u64 (lo (a * b))]) ∧ Below W.heap.size W w') := fun W => mul_any a b a0 a1 b0 b1 W
  have P2 : Hid (∀ W : World, Calls Tryd.prog 26 #[.agg #[.int .i64 (hi (a * b)), .int .u64 (lo (a * b))]] W fun e w' => e = .returned (.agg #[.int .i64 (t3 (a * b)), .int .u64 (m3 (a * b)), .int .u64 (lo (a * b))]) ∧ Below W.heap.size W w') := fun W => extend_any (a * b) (by omega) (by omega) W
  have P3 : Hid (∀ W : World, TabAt W → Calls Tryd.prog 25 #[.pointer none, .agg #[.int .i64 (t3 (a * b)), .int .u64 (m3 (a * b)), .int .u64 (lo (a * b))], .int .i64 32] W fun e w' => e = .returned (.int .i64 (clv (rnd (a * b) 32))) ∧ Below W.heap.size W w') := fun W hT => uNear_nil (a * b) (by omega) (by omega) W hT
  go_enter Tryd.func7, Tryd.ntmps7
  go_wp2_with fail
  refine (P1.out _).mono ?_
  rintro e w1 ⟨rfl, hb⟩
  have W1 := bchain W0 hb
  replace HT : Hid (TabAt w1) := HT.out.later hb
  clear hb W0 P1
  go_wp2_with fail
  refine (P2.out _).mono ?_
  rintro e w2 ⟨rfl, hb⟩
  have W2 := bchain W1 hb
  replace HT : Hid (TabAt w2) := HT.out.later hb
  clear hb W1 P2
  go_wp2_with fail
  refine (P3.out _ HT.out).mono ?_
  rintro e w3 ⟨rfl, hb⟩
  have W3 := bchain W2 hb
  clear hb W2 P3 HT
  go_wp2
  go_ret
  exact ⟨rfl, W3⟩
set_option maxHeartbeats 1000000 in
theorem step_9_un (a b : Int) (a0 : -9223372036854775808 ≤ a) (a1 : a ≤ 9223372036854775807) (b0 : -9223372036854775808 ≤ b) (b1 : b ≤ 9223372036854775807) (d : Nat) (n : Int) (n0 : 0 ≤ n) (n1 : n ≤ 1000) (w : World) (hT : TabAt w) (c : w.cell? ⟨d, 0, none⟩ = some (.int .i64 n)) (f : w.frozen? ⟨d, 0, none⟩ = false) :
    Calls Tryd.prog 7 #[.pointer (some ⟨d, 0, none⟩), .agg #[.int .i64 9, .int .i64 a, .int .i64 b]] w fun e w' => e = .returned (.int .i64 (clv (rnd (a * b) 32))) ∧ Un d (n + bi (ovv (rnd (a * b) 32))) w w' := by
  have W0 := bel1 w (.cells #[.int .i64 9, .int .i64 a, .int .i64 b] 31)
  have c1 := cell_later W0 c
  have f1 := frozen_later W0 c f
  clear c f
  obtain ⟨m0, m1⟩ := mul_in a b a0 a1 b0 b1
  have HT : Hid (TabAt (w.alloc (.cells #[.int .i64 9, .int .i64 a, .int .i64 b] 31))) := hT.later W0
  clear hT
  have P1 : Hid (∀ W : World, Calls Tryd.prog 27 #[.int .i64 a, .int .i64 b] W fun e w' => e = .returned (.agg #[.int .i64 (hi (a * b)), .int .u64 (lo (a * b))]) ∧ Below W.heap.size W w') := fun W => mul_any a b a0 a1 b0 b1 W
  have P2 : Hid (∀ W : World, Calls Tryd.prog 26 #[.agg #[.int .i64 (hi (a * b)), .int .u64 (lo (a * b))]] W fun e w' => e = .returned (.agg #[.int .i64 (t3 (a * b)), .int .u64 (m3 (a * b)), .int .u64 (lo (a * b))]) ∧ Below W.heap.size W w') := fun W => extend_any (a * b) (by omega) (by omega) W
  have P3 : Hid (∀ W : World, TabAt W → W.cell? ⟨d, 0, none⟩ = some (.int .i64 n) → W.frozen? ⟨d, 0, none⟩ = false → Calls Tryd.prog 25 #[.pointer (some ⟨d, 0, none⟩), .agg #[.int .i64 (t3 (a * b)), .int .u64 (m3 (a * b)), .int .u64 (lo (a * b))], .int .i64 32] W fun e w' => e = .returned (.int .i64 (clv (rnd (a * b) 32))) ∧ Un d (n + bi (ovv (rnd (a * b) 32))) W w') := fun W hT hc hf => uNear_un (a * b) (by omega) (by omega) d n n0 n1 W hT hc hf
  go_enter Tryd.func7, Tryd.ntmps7
  go_wp2_with fail
  refine (P1.out _).mono ?_
  rintro e w1 ⟨rfl, hb⟩
  have W1 := bchain W0 hb
  replace HT : Hid (TabAt w1) := HT.out.later hb
  replace f1 := frozen_later hb c1 f1
  replace c1 := cell_later hb c1
  clear hb W0 P1
  go_wp2_with fail
  refine (P2.out _).mono ?_
  rintro e w2 ⟨rfl, hb⟩
  have W2 := bchain W1 hb
  replace HT : Hid (TabAt w2) := HT.out.later hb
  replace f1 := frozen_later hb c1 f1
  replace c1 := cell_later hb c1
  clear hb W1 P2
  go_wp2_with fail
  refine (P3.out _ HT.out c1 f1).mono ?_
  rintro e w3 ⟨rfl, hU⟩
  have hV := Un.after W2 hU
  clear hU W2 P3 HT c1 f1
  go_wp2
  go_ret
  exact ⟨rfl, hV⟩
theorem step_any_nil (k a b : Int) (k0 : 1 ≤ k) (k1 : k ≤ 9) (k8 : k ≠ 8) (a0 : -9223372036854775808 ≤ a) (a1 : a ≤ 9223372036854775807) (b0 : -9223372036854775808 ≤ b) (b1 : b ≤ 9223372036854775807) (w : World) (hT : TabAt w) :
    Calls Tryd.prog 7 #[.pointer none, .agg #[.int .i64 k, .int .i64 a, .int .i64 b]] w fun e w' => e = .returned (.int .i64 (wx k a b)) ∧ Below w.heap.size w w' := by
  rcases (show k = 1 ∨ k = 2 ∨ k = 3 ∨ k = 4 ∨ k = 5 ∨ k = 6 ∨ k = 7 ∨ k = 9 by omega) with h | h | h | h | h | h | h | h <;> subst h
  · exact step_1_nil a b a0 a1 b0 b1 w
  · exact step_2_nil a b a0 a1 b0 b1 w
  · exact step_3_nil a b a0 a1 b0 b1 w
  · exact step_4_nil a b a0 a1 b0 b1 w
  · exact step_5_nil a b a0 a1 b0 b1 w
  · exact step_6_nil a b a0 a1 b0 b1 w
  · exact step_7_nil a b a0 a1 b0 b1 w
  · exact step_9_nil a b a0 a1 b0 b1 w hT
theorem step_any_un (k a b : Int) (k0 : 1 ≤ k) (k1 : k ≤ 9) (k8 : k ≠ 8) (a0 : -9223372036854775808 ≤ a) (a1 : a ≤ 9223372036854775807) (b0 : -9223372036854775808 ≤ b) (b1 : b ≤ 9223372036854775807) (d : Nat) (n : Int) (n0 : 0 ≤ n) (n1 : n ≤ 1000) (w : World) (hT : TabAt w) (c : w.cell? ⟨d, 0, none⟩ = some (.int .i64 n)) (f : w.frozen? ⟨d, 0, none⟩ = false) :
    Calls Tryd.prog 7 #[.pointer (some ⟨d, 0, none⟩), .agg #[.int .i64 k, .int .i64 a, .int .i64 b]] w fun e w' => e = .returned (.int .i64 (wx k a b)) ∧ Un d (n + bi (wo k a b)) w w' := by
  rcases (show k = 1 ∨ k = 2 ∨ k = 3 ∨ k = 4 ∨ k = 5 ∨ k = 6 ∨ k = 7 ∨ k = 9 by omega) with h | h | h | h | h | h | h | h <;> subst h
  · exact step_1_un a b a0 a1 b0 b1 d n n0 n1 w c f
  · exact step_2_un a b a0 a1 b0 b1 d n n0 n1 w c f
  · exact step_3_un a b a0 a1 b0 b1 d n n0 n1 w c f
  · exact step_4_un a b a0 a1 b0 b1 d n n0 n1 w c f
  · exact step_5_un a b a0 a1 b0 b1 d n n0 n1 w c f
  · exact step_6_un a b a0 a1 b0 b1 d n n0 n1 w c f
  · exact step_7_un a b a0 a1 b0 b1 d n n0 n1 w c f
  · exact step_9_un a b a0 a1 b0 b1 d n n0 n1 w hT c f
end Go.Proofs.YtpmlpcejmndidabDoor
