/-
  WideSpreads: for all numbers x, y, z of 64 bits the law regattalaw01.WideSpreads returns true: a product is the same either way round, and a product of a sum is the sum of the products. No condition.
-/
import Derived.Test.YtpmidldnomleoabTools
set_option linter.unusedVariables false
set_option linter.unusedSimpArgs false
namespace Go.Proofs.Ytpmidldnomleoab
open Go.RowKit

set_option maxHeartbeats 1000000 in
theorem wideSpreads_walk (x y z : Int) (x0 : -9223372036854775808 ≤ x) (x1 : x ≤ 9223372036854775807) (y0 : -9223372036854775808 ≤ y) (y1 : y ≤ 9223372036854775807) (z0 : -9223372036854775808 ≤ z) (z1 : z ≤ 9223372036854775807) (w : World) :
    Calls Try.prog 5 #[.int .i64 x, .int .i64 y, .int .i64 z] w fun e w' => e = .returned (.bool true) ∧ Below w.heap.size w w' := by
  have e1 : hi (y * x) = hi (x * y) := by rw [Int.mul_comm]
  have e2 : lo (y * x) = lo (x * y) := by rw [Int.mul_comm]
  have e3 : hi (x * (y + z)) = hi (x * y + x * z) := by rw [Int.mul_add]
  have e4 : lo (x * (y + z)) = lo (x * y + x * z) := by rw [Int.mul_add]
  by_cases hs : -9223372036854775808 ≤ y + z ∧ y + z ≤ 9223372036854775807
  · obtain ⟨s0, s1⟩ := hs
    obtain ⟨e5, e6⟩ := clv_in (y + z) s0 s1
    go_enter Try.func5, Try.ntmps5
    go_wp2_with (first | (go_at_call 8; refine (awake_any _).mono ?_; rintro e w' ⟨rfl, hb⟩) | (go_at_call 15; refine (mul_any _ _ ?_ ?_ ?_ ?_ _).mono ?_; omega; omega; omega; omega; rintro e w' ⟨rfl, hb⟩) | (go_at_call 17; refine (of_any _ ?_ ?_ _).mono ?_; omega; omega; rintro e w' ⟨rfl, hb⟩) | (go_at_call 12; refine (add_any _ _ _).mono ?_; rintro e w' ⟨rfl, hb⟩) | (go_at_call 16; refine (clamp_any (y + z) ?_ ?_ _).mono ?_; omega; omega; rintro e w' ⟨rfl, hb⟩))
    go_ret
    exact ⟨rfl, by repeat (first | assumption | refine bchain ?_ (by assumption))⟩
  · have e5 := ovv_out (y + z) hs
    clear hs
    go_enter Try.func5, Try.ntmps5
    go_wp2_with (first | (go_at_call 8; refine (awake_any _).mono ?_; rintro e w' ⟨rfl, hb⟩) | (go_at_call 15; refine (mul_any _ _ ?_ ?_ ?_ ?_ _).mono ?_; omega; omega; omega; omega; rintro e w' ⟨rfl, hb⟩) | (go_at_call 17; refine (of_any _ ?_ ?_ _).mono ?_; omega; omega; rintro e w' ⟨rfl, hb⟩) | (go_at_call 12; refine (add_any _ _ _).mono ?_; rintro e w' ⟨rfl, hb⟩) | (go_at_call 16; refine (clamp_any (y + z) ?_ ?_ _).mono ?_; omega; omega; rintro e w' ⟨rfl, hb⟩))
    go_ret
    exact ⟨rfl, by repeat (first | assumption | refine bchain ?_ (by assumption))⟩
end Go.Proofs.Ytpmidldnomleoab
