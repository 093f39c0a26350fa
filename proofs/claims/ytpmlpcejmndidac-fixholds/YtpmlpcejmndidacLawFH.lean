/-
  FixHolds: for all numbers a, b the law regattalaw02.FixHolds returns true: a sum is held just if it left the range, which its sign tells; then it is the end on that side. No condition.
-/
import Derived.Test.YtpmlpcejmndidacFWalkC
set_option linter.unusedVariables false
set_option linter.unusedSimpArgs false
namespace Go.Proofs.Ytpmlpcejmndidac
open Go.RowKit

set_option maxHeartbeats 2000000 in
theorem fixHolds_walk (a b : Int) (a0 : -9223372036854775808 ≤ a) (a1 : a ≤ 9223372036854775807) (b0 : -9223372036854775808 ≤ b) (b1 : b ≤ 9223372036854775807) (w : World) :
    Calls Try.prog 3 #[.int .i64 a, .int .i64 b] w fun e w' => e = .returned (.bool true) ∧ Below w.heap.size w w' := by
  have h := fun W => fadd_any a b a0 a1 b0 b1 W
  rcases (show a + b < -9223372036854775808 ∨ 9223372036854775807 < a + b ∨ (-9223372036854775808 ≤ a + b ∧ a + b ≤ 9223372036854775807) by omega) with c | c | c
  · rw [(clv_lo _ c).1, (clv_lo _ c).2] at h
    have P1 : Hid (∀ W : World, Calls Try.prog 6 #[.int .i64 a, .int .i64 b] W fun e w' => e = .returned (.tuple #[.int .i64 (-9223372036854775808), .bool true]) ∧ Below W.heap.size W w') := h
    clear h
    have n1 : ¬ 0 < a := by omega
    have n2 : a < 0 := by omega
    have n3 : b < -9223372036854775808 - a := by omega
    go_enter Try.func3, Try.ntmps3
    go_wp2_with fail
    refine (kawake_any _).mono ?_
    rintro e w1 ⟨rfl, W1⟩
    go_wp2_with fail
    refine (P1.out _).mono ?_
    rintro e w2 ⟨rfl, hb⟩
    have W2 := bchain W1 hb
    clear hb W1 P1
    go_wp2
    go_ret
    exact ⟨rfl, W2⟩
  · rw [(clv_hi _ c).1, (clv_hi _ c).2] at h
    have P1 : Hid (∀ W : World, Calls Try.prog 6 #[.int .i64 a, .int .i64 b] W fun e w' => e = .returned (.tuple #[.int .i64 9223372036854775807, .bool true]) ∧ Below W.heap.size W w') := h
    clear h
    have n1 : 0 < a := by omega
    have n3 : 9223372036854775807 - a < b := by omega
    go_enter Try.func3, Try.ntmps3
    go_wp2_with fail
    refine (kawake_any _).mono ?_
    rintro e w1 ⟨rfl, W1⟩
    go_wp2_with fail
    refine (P1.out _).mono ?_
    rintro e w2 ⟨rfl, hb⟩
    have W2 := bchain W1 hb
    clear hb W1 P1
    go_wp2
    go_ret
    exact ⟨rfl, W2⟩
  · obtain ⟨c0, c1⟩ := c
    rw [(clv_in _ c0 c1).1, (clv_in _ c0 c1).2] at h
    have P1 : Hid (∀ W : World, Calls Try.prog 6 #[.int .i64 a, .int .i64 b] W fun e w' => e = .returned (.tuple #[.int .i64 (a + b), .bool false]) ∧ Below W.heap.size W w') := h
    clear h
    by_cases n1 : 0 < a
    · have n2 : ¬ 9223372036854775807 - a < b := by omega
      have n3 : ¬ a < 0 := by omega
      go_enter Try.func3, Try.ntmps3
      go_wp2_with fail
      refine (kawake_any _).mono ?_
      rintro e w1 ⟨rfl, W1⟩
      go_wp2_with fail
      refine (P1.out _).mono ?_
      rintro e w2 ⟨rfl, hb⟩
      have W2 := bchain W1 hb
      clear hb W1 P1
      go_wp2
      go_ret
      exact ⟨rfl, W2⟩
    · by_cases n3 : a < 0
      · have n2 : ¬ b < -9223372036854775808 - a := by omega
        go_enter Try.func3, Try.ntmps3
        go_wp2_with fail
        refine (kawake_any _).mono ?_
        rintro e w1 ⟨rfl, W1⟩
        go_wp2_with fail
        refine (P1.out _).mono ?_
        rintro e w2 ⟨rfl, hb⟩
        have W2 := bchain W1 hb
        clear hb W1 P1
        go_wp2
        go_ret
        exact ⟨rfl, W2⟩
      · go_enter Try.func3, Try.ntmps3
        go_wp2_with fail
        refine (kawake_any _).mono ?_
        rintro e w1 ⟨rfl, W1⟩
        go_wp2_with fail
        refine (P1.out _).mono ?_
        rintro e w2 ⟨rfl, hb⟩
        have W2 := bchain W1 hb
        clear hb W1 P1
        go_wp2
        go_ret
        exact ⟨rfl, W2⟩
end Go.Proofs.Ytpmlpcejmndidac
