/-
  WideClamps: for every wide number a the law regattalaw01.WideClamps returns true: what 64 bits hold stays, all else becomes the end that is nearer, and it is told. No condition.
-/
import Derived.Test.YtpmidldnomleoaaRWalkF
set_option linter.unusedVariables false
set_option linter.unusedSimpArgs false
namespace Go.Proofs.Ytpmidldnomleoaa
open Go.RowKit

set_option maxHeartbeats 1000000 in
theorem wideClamps_walk (a : Int) (a0 : -170141183460469231731687303715884105728 ≤ a) (a1 : a ≤ 170141183460469231731687303715884105727) (w : World) :
    Calls Try.prog 7 #[.agg #[.int .i64 (hi a), .int .u64 (lo a)]] w fun e w' => e = .returned (.bool true) ∧ Below w.heap.size w w' := by
  go_enter Try.func7, Try.ntmps7
  go_wp2_with fail
  refine (awake_any _).mono ?_
  rintro e w1 ⟨rfl, hb⟩
  have W1 : Below w.heap.size w w1 := bchain (bel1 _ _) hb
  have B1 := (Bx.new w (.int .i64 (hi a)) (.int .u64 (lo a)) 24).later hb
  clear hb
  have c0 := B1.c0
  have c1 := B1.c1
  go_wp2_with fail
  refine (clamp_any a a0 a1 _).mono ?_
  rintro e w2 ⟨rfl, hb⟩
  have W2 := bchain W1 hb
  have B2 := B1.later hb
  clear hb W1 B1 c0 c1
  have c0 := B2.c0
  have c1 := B2.c1
  go_wp2_with fail
  refine (bits_any a _).mono ?_
  rintro e w3 ⟨v3, rfl, hown, hb⟩
  have W3 := bchain W2 hb
  have A3 := bt_own hown (by omega)
  clear hb hown W2 B2 c0 c1
  go_wp2_with fail
  refine (rclamp_any v3 128 a (by omega) (by omega) (inr_128 a a0 a1) _ A3).mono ?_
  rintro e w4 ⟨rfl, hb⟩
  have W4 := bchain W3 hb
  clear hb W3 A3
  go_wp2
  go_ret
  exact ⟨rfl, W4⟩
end Go.Proofs.Ytpmidldnomleoaa
