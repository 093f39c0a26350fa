/-
  FixBack: for every number a the law regattalaw02.FixBack returns true: a number of at most 53 bits goes to a float64 and back without loss; any number comes back no farther off than the float is. No condition.
-/
import Derived.Test.YtpmlpcejmndidabFWalkE
set_option linter.unusedVariables false
set_option linter.unusedSimpArgs false
namespace Go.Proofs.Ytpmlpcejmndidab
open Go.RowKit

set_option maxHeartbeats 2000000 in
theorem fixBack_walk (a : Int) (a0 : -9223372036854775808 ≤ a) (a1 : a ≤ 9223372036854775807) (w : World) :
    Calls Try.prog 7 #[.int .i64 a] w fun e w' => e = .returned (.bool true) ∧ Below w.heap.size w w' := by
  obtain ⟨hN, h1, h2⟩ := fV_fb a a0 a1
  have hlt := fb_lt a a0 a1
  have hf := fun W => ffloat_num (fb a) hlt hN W
  have ht := fun W => ftold_any a a0 a1 W
  generalize fb a = B at *
  generalize fV B = V at *
  have P1 : Hid (∀ W : World, Calls Try.prog 14 #[.int .i64 a] W fun e w' => e = .returned (.float .f64 B) ∧ w' = W) := ht
  clear hN hlt ht
  by_cases hs : -9007199254740992 < a ∧ a < 9007199254740992
  · have hV := h1 hs
    subst hV
    obtain ⟨s0, s1⟩ := hs
    rw [(clv_in V a0 a1).1, (clv_in V a0 a1).2] at hf
    have P2 : Hid (∀ W : World, Calls Try.prog 9 #[.float .f64 B] W fun e w' => e = .returned (.tuple #[.int .i64 V, .bool false, .int .i64 0]) ∧ Below W.heap.size W w') := hf
    clear hf h1 h2
    go_enter Try.func7, Try.ntmps7
    go_wp2_with fail
    refine (kawake_any _).mono ?_
    rintro e w1 ⟨rfl, W1⟩
    go_wp2_with fail
    refine (P1.out _).mono ?_
    rintro e wz ⟨rfl, hz⟩
    subst hz
    clear P1
    go_wp2_with fail
    refine (P2.out _).mono ?_
    rintro e w3 ⟨rfl, hb⟩
    have W3 := bchain W1 hb
    clear hb W1 P2
    go_wp2
    go_ret
    exact ⟨rfl, W3⟩
  · obtain ⟨d0, d1, d2⟩ := h2 hs
    have c0 : a - 512 ≤ clv V ∧ clv V ≤ a + 512 ∧ -9223372036854775808 ≤ clv V ∧ clv V ≤ 9223372036854775807 := by
      unfold clv
      split
      · omega
      · split <;> omega
    obtain ⟨x0, x1, x2, x3⟩ := c0
    generalize clv V = x at *
    generalize ovv V = o at *
    have P2 : Hid (∀ W : World, Calls Try.prog 9 #[.float .f64 B] W fun e w' => e = .returned (.tuple #[.int .i64 x, .bool o, .int .i64 0]) ∧ Below W.heap.size W w') := hf
    have hsub := fun W => fsub_any x a x2 x3 a0 a1 W
    rw [(clv_in (x - a) (by omega) (by omega)).1, (clv_in (x - a) (by omega) (by omega)).2] at hsub
    have P3 : Hid (∀ W : World, Calls Try.prog 20 #[.int .i64 x, .int .i64 a] W fun e w' => e = .returned (.tuple #[.int .i64 (x - a), .bool false]) ∧ Below W.heap.size W w') := hsub
    clear hf hsub h1 h2
    have y0 : -512 ≤ x - a := by omega
    have y1 : x - a ≤ 512 := by omega
    by_cases hs1 : -9007199254740992 < a
    · have hs2 : ¬ a < 9007199254740992 := fun h => hs ⟨hs1, h⟩
      clear hs
      go_enter Try.func7, Try.ntmps7
      go_wp2_with fail
      refine (kawake_any _).mono ?_
      rintro e w1 ⟨rfl, W1⟩
      go_wp2_with fail
      refine (P1.out _).mono ?_
      rintro e wz ⟨rfl, hz⟩
      subst hz
      clear P1
      go_wp2_with fail
      refine (P2.out _).mono ?_
      rintro e w3 ⟨rfl, hb⟩
      have W3 := bchain W1 hb
      clear hb W1 P2
      go_wp2_with fail
      refine (P3.out _).mono ?_
      rintro e w4 ⟨rfl, hb⟩
      have W4 := bchain W3 hb
      clear hb W3 P3
      go_wp2
      go_ret
      exact ⟨rfl, W4⟩
    · clear hs
      go_enter Try.func7, Try.ntmps7
      go_wp2_with fail
      refine (kawake_any _).mono ?_
      rintro e w1 ⟨rfl, W1⟩
      go_wp2_with fail
      refine (P1.out _).mono ?_
      rintro e wz ⟨rfl, hz⟩
      subst hz
      clear P1
      go_wp2_with fail
      refine (P2.out _).mono ?_
      rintro e w3 ⟨rfl, hb⟩
      have W3 := bchain W1 hb
      clear hb W1 P2
      go_wp2_with fail
      refine (P3.out _).mono ?_
      rintro e w4 ⟨rfl, hb⟩
      have W4 := bchain W3 hb
      clear hb W3 P3
      go_wp2
      go_ret
      exact ⟨rfl, W4⟩
end Go.Proofs.Ytpmlpcejmndidab
