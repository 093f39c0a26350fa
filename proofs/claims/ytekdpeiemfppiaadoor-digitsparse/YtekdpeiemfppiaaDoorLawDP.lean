/-
  DigitsParse: for every text s the law regattalaw03.DigitsParse returns true: it is the number that is nearest to what it says, or held, or no number's. No condition.
-/
import Derived.Test.YtekdpeiemfppiaaDoorDAwake
set_option linter.unusedVariables false
set_option linter.unusedSimpArgs false
namespace Go.Proofs.YtekdpeiemfppiaaDoor
open Go.RowKit

set_option maxHeartbeats 1000000 in
theorem digitsParse_walk (l : List UInt8) (hl : l.length ≤ maxLen) (w : World) :
    Calls Tryd.prog 4 #[.string (bs l)] w fun e w' => e = .returned (.bool true) ∧ Below w.heap.size w w' := by
  have z := bs_size l
  unfold maxLen at hl
  by_cases h : (300 : Int) < (l.length : Int)
  · go_enter Tryd.func4, Tryd.ntmps4
    go_wp2_with fail
    refine (dawake_any _).mono ?_
    rintro e w1 ⟨rfl, W1⟩
    go_wp2
    go_ret
    exact ⟨rfl, W1⟩
  · have P1 : Hid (∀ W : World, Calls Tryd.prog 12 #[.string (bs l)] W fun e w' => e = .returned (.tuple #[.int .i64 (prX l), .bool (prH l), .int .i64 (prE l)]) ∧ Below W.heap.size W w') := fun W => gparse_any l (by omega) W
    have P2 : Hid (∀ W : World, Calls Tryd.prog 13 #[.string (bs l)] W fun e w' => e = .returned (.tuple #[.int .i64 (prX l), .bool (prH l), .int .i64 (prE l)]) ∧ Below W.heap.size W w') := fun W => sparse_any l (by omega) W
    generalize prX l = x at *
    generalize prH l = o at *
    generalize prE l = f at *
    have bo : (o == o) = true := by cases o <;> rfl
    go_enter Tryd.func4, Tryd.ntmps4
    go_wp2_with fail
    refine (dawake_any _).mono ?_
    rintro e w1 ⟨rfl, W1⟩
    go_wp2_with fail
    refine (P1.out _).mono ?_
    rintro e w2 ⟨rfl, hb⟩
    have W2 := bchain W1 hb
    clear hb W1 P1
    go_wp2_with fail
    refine (P2.out _).mono ?_
    rintro e w3 ⟨rfl, hb⟩
    have W3 := bchain W2 hb
    clear hb W2 P2
    go_wp2
    go_ret
    exact ⟨rfl, W3⟩
end Go.Proofs.YtekdpeiemfppiaaDoor
