/-
  The chapter's examples: regattalaw03's awake.
-/
import Derived.Test.YtekdpeiemfppiabDoorDMathA
import Derived.Test.YtekdpeiemfppiabDoorGWalk
set_option linter.unusedVariables false
set_option linter.unusedSimpArgs false
namespace Go.Proofs.YtekdpeiemfppiabDoor
open Go.RowKit

set_option maxHeartbeats 1000000 in
theorem dawake_any (w : World) : Calls Tryd.prog 4 #[] w fun e w' => e = .returned (.bool true) ∧ Below w.heap.size w w' := by
  have P1 : Hid (∀ W : World, Calls Tryd.prog 6 #[.string { data := #[48, 46, 49] }] W fun e w' => e = .returned (.tuple #[.int .i64 429496730, .bool false, .int .i64 0]) ∧ Below W.heap.size W w') := by
    intro W
    have h := gparse_any [48, 46, 49] (by decide) W
    rw [parse_01.1, parse_01.2.1, parse_01.2.2] at h
    exact h
  have P2 : Hid (∀ W : World, Calls Tryd.prog 6 #[.string { data := #[50, 49, 52, 55, 52, 56, 51, 54, 52, 56] }] W fun e w' => e = .returned (.tuple #[.int .i64 9223372036854775807, .bool true, .int .i64 0]) ∧ Below W.heap.size W w') := by
    intro W
    have h := gparse_any [50, 49, 52, 55, 52, 56, 51, 54, 52, 56] (by decide) W
    rw [parse_big.1, parse_big.2.1, parse_big.2.2] at h
    exact h
  have P3 : Hid (∀ W : World, Calls Tryd.prog 6 #[.string { data := #[49, 46] }] W fun e w' => e = .returned (.tuple #[.int .i64 0, .bool false, .int .i64 30]) ∧ Below W.heap.size W w') := by
    intro W
    have h := gparse_any [49, 46] (by decide) W
    rw [parse_1p.1, parse_1p.2.1, parse_1p.2.2] at h
    exact h
  have P4 : Hid (∀ W : World, Calls Tryd.prog 7 #[.int .i64 (-1)] W fun e w' => e = .returned (.string (bs (tl (-1)))) ∧ Below W.heap.size W w') := fun W => gtext_low (-1) (by omega) (by omega) W (Or.inl (by decide))
  have e1 : (bs (tl (-1))).toList = [45, 48, 46, 48, 48, 48, 48, 48, 48, 48, 48, 48, 50, 51, 50, 56, 51, 48, 54, 52, 51, 54, 53, 51, 56, 54, 57, 54, 50, 56, 57, 48, 54, 50, 53] := by rw [bs_toList, text_m1]
  have e2 : (ByteArray.mk #[45, 48, 46, 48, 48, 48, 48, 48, 48, 48, 48, 48, 50, 51, 50, 56, 51, 48, 54, 52, 51, 54, 53, 51, 56, 54, 57, 54, 50, 56, 57, 48, 54, 50, 53]).toList = [45, 48, 46, 48, 48, 48, 48, 48, 48, 48, 48, 48, 50, 51, 50, 56, 51, 48, 54, 52, 51, 54, 53, 51, 56, 54, 57, 54, 50, 56, 57, 48, 54, 50, 53] := ByteArray.toList_mk _
  go_enter Tryd.func4, Tryd.ntmps4
  go_wp2_with fail
  refine (P1.out _).mono ?_
  rintro e w1 ⟨rfl, W1⟩
  clear P1
  go_wp2_with fail
  refine (P2.out _).mono ?_
  rintro e w2 ⟨rfl, hb⟩
  have W2 := bchain W1 hb
  clear hb W1 P2
  go_wp2_with fail
  refine (P3.out _).mono ?_
  rintro e w3 ⟨rfl, hb⟩
  have W3 := bchain W2 hb
  clear hb W2 P3
  go_wp2_with fail
  refine (P4.out _).mono ?_
  rintro e w4 ⟨rfl, hb⟩
  have W4 := bchain W3 hb
  clear hb W3 P4
  go_wp2
  go_ret
  exact ⟨by simp, W4⟩
end Go.Proofs.YtekdpeiemfppiabDoor
