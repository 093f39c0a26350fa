/-
  The contract of regattaref02's Sub.
-/
import Derived.Test.YtpmlpcejmndidabDoorSWalkH
set_option linter.unusedVariables false
set_option linter.unusedSimpArgs false
namespace Go.Proofs.YtpmlpcejmndidabDoor
open Go.RowKit

theorem Sm.turn {p q V B : Int} (h : Sm p q V B) : Sm q p (-V) B := by
  obtain ⟨h1, h2, h3, h4, h5⟩ := h
  exact ⟨h2, h1, h4, h3, by omega⟩

set_option maxHeartbeats 1000000 in
theorem rfsub_any (a b : Int) (a0 : -9223372036854775808 ≤ a) (a1 : a ≤ 9223372036854775807) (b0 : -9223372036854775808 ≤ b) (b1 : b ≤ 9223372036854775807) (w : World) :
    Calls Tryd.prog 14 #[.int .i64 a, .int .i64 b] w fun e w' => e = .returned (.tuple #[.int .i64 (clv (a - b)), .bool (ovv (a - b))]) ∧ Below w.heap.size w w' := by
  go_enter Tryd.func14, Tryd.ntmps14
  go_wp2_with fail
  refine (sadd_zero b 0 (by omega) b0 b1 _).mono ?_
  rintro e w1 ⟨p', q', rfl, hS, W1⟩
  have hT := hS.turn
  rw [Nat.mul_zero, Int.pow_zero, Int.mul_one, Int.mul_one] at hT
  clear hS
  have W2 := bchain W1 (bel1 w1 (.cells #[.int .u64 (dg (q') 0), .int .u64 (dg (q') 1), .int .u64 (dg (q') 2), .int .u64 (dg (q') 3), .int .u64 (dg (q') 4), .int .u64 (dg (q') 5), .int .u64 (dg (p') 0), .int .u64 (dg (p') 1), .int .u64 (dg (p') 2), .int .u64 (dg (p') 3), .int .u64 (dg (p') 4), .int .u64 (dg (p') 5)] 73))
  clear W1
  go_wp2_with fail
  refine (sadd_any q' p' _ _ a 0 (by omega) hT a0 a1 _).mono ?_
  rintro e w2 ⟨p2, q2, rfl, hS2, hb⟩
  have W3 := bchain W2 hb
  clear hb W2 hT
  rw [Nat.mul_zero, Int.pow_zero, Int.mul_one, Int.mul_one, show -b + a = a - b by omega] at hS2
  go_wp2_with fail
  refine (sround_of p2 q2 _ _ 0 (by omega) hS2 (by omega) _).mono ?_
  rintro e w3 ⟨rfl, hb⟩
  have W4 := bchain W3 hb
  clear hb W3 hS2
  go_wp2
  go_ret2
  exact ⟨rfl, W4⟩
end Go.Proofs.YtpmlpcejmndidabDoor
