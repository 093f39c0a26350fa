/-
  WideProducts: for all numbers a, b of 64 bits the law regattalaw01.WideProducts returns true: a product of two numbers is exact, whatever they are. No condition.
-/
import Derived.Test.YtpmidldnomleoaaRWalkH
set_option linter.unusedVariables false
set_option linter.unusedSimpArgs false
namespace Go.Proofs.Ytpmidldnomleoaa
open Go.RowKit

set_option maxHeartbeats 1000000 in
theorem wideProducts_walk (a b : Int) (a0 : -9223372036854775808 ≤ a) (a1 : a ≤ 9223372036854775807) (b0 : -9223372036854775808 ≤ b) (b1 : b ≤ 9223372036854775807) (w : World) :
    Calls Try.prog 4 #[.int .i64 a, .int .i64 b] w fun e w' => e = .returned (.bool true) ∧ Below w.heap.size w w' := by
  go_enter Try.func4, Try.ntmps4
  go_wp2_with fail
  refine (awake_any _).mono ?_
  rintro e w1 ⟨rfl, hb⟩
  have W1 : Below w.heap.size w w1 := hb
  clear hb
  go_wp2_with fail
  refine (mul_any a b a0 a1 b0 b1 _).mono ?_
  rintro e w2 ⟨rfl, hb⟩
  have W2 := bchain W1 hb
  clear hb W1
  go_wp2_with fail
  refine (rmul_any a b 128 a0 a1 b0 b1 (by omega) (by omega) _).mono ?_
  rintro e w3 ⟨v3, rfl, A3, hb⟩
  have W3 := bchain W2 hb
  clear hb W2
  go_wp2_with fail
  refine (wides_any v3 (a * b) _ A3).mono ?_
  rintro e w4 ⟨rfl, hb⟩
  have W4 := bchain W3 hb
  clear hb W3 A3
  go_wp2
  go_ret
  exact ⟨rfl, W4⟩
end Go.Proofs.Ytpmidldnomleoaa
