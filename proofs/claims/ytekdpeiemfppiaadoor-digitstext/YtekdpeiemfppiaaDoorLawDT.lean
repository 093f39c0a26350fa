/-
  DigitsText: for every number a the law regattalaw03.DigitsText returns true: its text is exact, with no nought too many. Its condition: the table of the powers of ten reads as its initialiser lays it.
-/
import Derived.Test.YtekdpeiemfppiaaDoorDAwake
set_option linter.unusedVariables false
set_option linter.unusedSimpArgs false
namespace Go.Proofs.YtekdpeiemfppiaaDoor
open Go.RowKit

set_option maxHeartbeats 1000000 in
theorem digitsText_walk (a : Int) (a0 : -9223372036854775808 ≤ a) (a1 : a ≤ 9223372036854775807) (w : World) (hT : PT w) :
    Calls Tryd.prog 3 #[.int .i64 a] w fun e w' => e = .returned (.bool true) ∧ Below w.heap.size w w' := by
  have P1 : Hid (∀ W : World, PT W → Calls Tryd.prog 10 #[.int .i64 a] W fun e w' => e = .returned (.string (bs (tl a))) ∧ Below W.heap.size W w') := fun W h => gtext_any a a0 a1 W h
  have HT : Hid (PT w) := hT
  clear hT
  have P2 : Hid (∀ W : World, Calls Tryd.prog 11 #[.int .i64 a] W fun e w' => e = .returned (.string (bs (tl a))) ∧ Below W.heap.size W w') := fun W => stext_any a a0 a1 W
  have e1 := bs_toList (tl a)
  go_enter Tryd.func3, Tryd.ntmps3
  go_wp2_with fail
  refine (dawake_any _).mono ?_
  rintro e w1 ⟨rfl, W1⟩
  go_wp2_with fail
  refine (P1.out _ (HT.out.later W1)).mono ?_
  rintro e w2 ⟨rfl, hb⟩
  have W2 := bchain W1 hb
  clear hb W1 P1 HT
  go_wp2_with fail
  refine (P2.out _).mono ?_
  rintro e w3 ⟨rfl, hb⟩
  have W3 := bchain W2 hb
  clear hb W2 P2
  go_wp2
  go_ret
  exact ⟨by simp, W3⟩
end Go.Proofs.YtekdpeiemfppiaaDoor
