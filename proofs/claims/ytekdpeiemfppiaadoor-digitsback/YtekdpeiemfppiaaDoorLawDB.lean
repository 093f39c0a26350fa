/-
  DigitsBack: for every number a and every whole n the law regattalaw03.DigitsBack returns true: what is told is read again as it was, numbers and whole numbers. Its condition: the table of the powers of ten reads as its initialiser lays it.
-/
import Derived.Test.YtekdpeiemfppiaaDoorDAwake
import Derived.Test.YtekdpeiemfppiaaDoorDMathC
set_option linter.unusedVariables false
set_option linter.unusedSimpArgs false
namespace Go.Proofs.YtekdpeiemfppiaaDoor
open Go.RowKit

set_option maxHeartbeats 1000000 in
theorem digitsBack_walk (a n : Int) (a0 : -9223372036854775808 ≤ a) (a1 : a ≤ 9223372036854775807) (n0 : -9223372036854775808 ≤ n) (n1 : n ≤ 9223372036854775807) (w : World) (hT : PT w) :
    Calls Tryd.prog 6 #[.int .i64 a, .int .i64 n] w fun e w' => e = .returned (.bool true) ∧ Below w.heap.size w w' := by
  have HT : Hid (PT w) := hT
  clear hT
  obtain ⟨t1, t2, t3, t4⟩ := text_back a a0 a1
  obtain ⟨u1, u2, u3⟩ := whole_back n n0 n1
  have P1 : Hid (∀ W : World, PT W → Calls Tryd.prog 10 #[.int .i64 a] W fun e w' => e = .returned (.string (bs (tl a))) ∧ Below W.heap.size W w') := fun W h => gtext_any a a0 a1 W h
  have P2 : Hid (∀ W : World, Calls Tryd.prog 12 #[.string (bs (tl a))] W fun e w' => e = .returned (.tuple #[.int .i64 a, .bool false, .int .i64 0]) ∧ Below W.heap.size W w') := by
    intro W
    have h := gparse_any (tl a) (by omega) W
    rw [t1, t2, t3] at h
    exact h
  have P3 : Hid (∀ W : World, PT W → Calls Tryd.prog 16 #[.int .i64 n] W fun e w' => e = .returned (.string (bs (wl n))) ∧ Below W.heap.size W w') := fun W h => gwhole_any n n0 n1 W h
  have P4 : Hid (∀ W : World, Calls Tryd.prog 14 #[.string (bs (wl n))] W fun e w' => e = .returned (.tuple #[.int .i64 n, .int .i64 0]) ∧ Below W.heap.size W w') := by
    intro W
    have h := gint_any (wl n) (by omega) W
    rw [u1, u2] at h
    exact h
  clear t1 t2 t3 t4 u1 u2 u3
  go_enter Tryd.func6, Tryd.ntmps6
  go_wp2_with fail
  refine (dawake_any _).mono ?_
  rintro e w1 ⟨rfl, W1⟩
  go_wp2_with fail
  refine (P1.out _ (HT.out.later W1)).mono ?_
  rintro e w2 ⟨rfl, hb⟩
  have W2 := bchain W1 hb
  clear hb W1 P1
  go_wp2_with fail
  refine (P2.out _).mono ?_
  rintro e w3 ⟨rfl, hb⟩
  have W3 := bchain W2 hb
  clear hb W2 P2
  go_wp2_with fail
  refine (P3.out _ (HT.out.later W3)).mono ?_
  rintro e w4 ⟨rfl, hb⟩
  have W4 := bchain W3 hb
  clear hb W3 P3 HT
  go_wp2_with fail
  refine (P4.out _).mono ?_
  rintro e w5 ⟨rfl, hb⟩
  have W5 := bchain W4 hb
  clear hb W4 P4
  go_wp2
  go_ret
  exact ⟨rfl, W5⟩
end Go.Proofs.YtekdpeiemfppiaaDoor
