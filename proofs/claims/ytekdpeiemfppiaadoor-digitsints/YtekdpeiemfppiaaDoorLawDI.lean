/-
  DigitsInts: for every whole n and every text s the law regattalaw03.DigitsInts returns true: any whole number has its text, and any text is the whole number that it says, or none. Its condition: the table of the powers of ten reads as its initialiser lays it.
-/
import Derived.Test.YtekdpeiemfppiaaDoorDAwake
set_option linter.unusedVariables false
set_option linter.unusedSimpArgs false
namespace Go.Proofs.YtekdpeiemfppiaaDoor
open Go.RowKit

set_option maxHeartbeats 1000000 in
theorem digitsInts_walk (n : Int) (l : List UInt8) (n0 : -9223372036854775808 ≤ n) (n1 : n ≤ 9223372036854775807) (hl : l.length ≤ maxLen) (w : World) (hT : PT w) :
    Calls Tryd.prog 5 #[.int .i64 n, .string (bs l)] w fun e w' => e = .returned (.bool true) ∧ Below w.heap.size w w' := by
  have HT : Hid (PT w) := hT
  clear hT
  have z := bs_size l
  unfold maxLen at hl
  by_cases h : (300 : Int) < (l.length : Int)
  · go_enter Tryd.func5, Tryd.ntmps5
    go_wp2_with fail
    refine (dawake_any _).mono ?_
    rintro e w1 ⟨rfl, W1⟩
    go_wp2
    go_ret
    exact ⟨rfl, W1⟩
  · have P1 : Hid (∀ W : World, Calls Tryd.prog 14 #[.string (bs l)] W fun e w' => e = .returned (.tuple #[.int .i64 (iX l), .int .i64 (iE l)]) ∧ Below W.heap.size W w') := fun W => gint_any l (by omega) W
    have P2 : Hid (∀ W : World, Calls Tryd.prog 15 #[.string (bs l)] W fun e w' => e = .returned (.tuple #[.int .i64 (iX l), .int .i64 (iE l)]) ∧ Below W.heap.size W w') := fun W => sint_any l (by omega) W
    have P3 : Hid (∀ W : World, PT W → Calls Tryd.prog 16 #[.int .i64 n] W fun e w' => e = .returned (.string (bs (wl n))) ∧ Below W.heap.size W w') := fun W h => gwhole_any n n0 n1 W h
    have P4 : Hid (∀ W : World, Calls Tryd.prog 17 #[.int .i64 n] W fun e w' => e = .returned (.string (bs (wl n))) ∧ Below W.heap.size W w') := fun W => swholet_any n n0 n1 W
    have e1 := bs_toList (wl n)
    generalize iX l = x at *
    generalize iE l = f at *
    have e2 : (wl n == wl n) = true := by simp
    go_enter Tryd.func5, Tryd.ntmps5
    go_wp2_with fail
    refine (dawake_any _).mono ?_
    rintro e w1 ⟨rfl, W1⟩
    go_wp2_with fail
    refine (P1.out _).mono ?_
    rintro e w2 ⟨rfl, hb⟩
    have W2 := bchain W1 hb
    clear hb W1 P1
    go_wp2_with fail
    refine (P2.out _).mono ?_
    rintro e w3 ⟨rfl, hb⟩
    have W3 := bchain W2 hb
    clear hb W2 P2
    go_wp2_with fail
    refine (P3.out _ (HT.out.later W3)).mono ?_
    rintro e w4 ⟨rfl, hb⟩
    have W4 := bchain W3 hb
    clear hb W3 P3 HT
    go_wp2_with fail
    refine (P4.out _).mono ?_
    rintro e w5 ⟨rfl, hb⟩
    have W5 := bchain W4 hb
    clear hb W4 P4
    go_wp2
    go_ret
    exact ⟨rfl, W5⟩
end Go.Proofs.YtekdpeiemfppiaaDoor
