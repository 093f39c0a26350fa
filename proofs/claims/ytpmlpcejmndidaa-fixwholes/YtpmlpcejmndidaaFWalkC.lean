/-
  The contracts of the laws' like and of fix's Clamp, Floor, Whole, whole, Int.
-/
import Derived.Test.YtpmlpcejmndidaaFWalkB
set_option linter.unusedVariables false
set_option linter.unusedSimpArgs false
namespace Go.Proofs.Ytpmlpcejmndidaa
open Go.RowKit

set_option maxHeartbeats 1000000 in
theorem like_same (a : Int) (o : Bool) (w : World) :
    Calls Try.prog 16 #[.int .i64 a, .bool o, .int .i64 a, .bool o] w fun e w' => e = .returned (.bool true) ∧ w' = w := by
  go_enter Try.func16, Try.ntmps16
  cases o
  · go_wp2
    go_ret
    exact ⟨rfl, rfl⟩
  · go_wp2
    go_ret
    exact ⟨rfl, rfl⟩
def cl3 (a l h : Int) : Int := if h < a then h else if a < l then l else a
set_option maxHeartbeats 1000000 in
theorem fclamp_any (a l h : Int) (w : World) :
    Calls Try.prog 33 #[.int .i64 a, .int .i64 l, .int .i64 h] w fun e w' => e = .returned (.int .i64 (cl3 a l h)) ∧ w' = w := by
  unfold cl3
  by_cases h1 : h < a
  · rw [if_pos h1]
    go_enter Try.func33, Try.ntmps33
    go_wp2
    go_ret
    exact ⟨rfl, rfl⟩
  · rw [if_neg h1]
    by_cases h2 : a < l
    · rw [if_pos h2]
      go_enter Try.func33, Try.ntmps33
      go_wp2
      go_ret
      exact ⟨rfl, rfl⟩
    · rw [if_neg h2]
      go_enter Try.func33, Try.ntmps33
      go_wp2
      go_ret
      exact ⟨rfl, rfl⟩
set_option maxHeartbeats 1000000 in
theorem ffloor_any (a : Int) (a0 : -9223372036854775808 ≤ a) (a1 : a ≤ 9223372036854775807) (w : World) :
    Calls Try.prog 32 #[.int .i64 a] w fun e w' => e = .returned (.int .i64 (a / 4294967296)) ∧ w' = w := by
  have q0 : -2147483648 ≤ a / 4294967296 := by omega
  have q1 : a / 4294967296 ≤ 2147483647 := by omega
  go_enter Try.func32, Try.ntmps32
  go_wp2
  go_ret
  exact ⟨rfl, rfl⟩
theorem lo_back (r : Int) (r0 : -9223372036854775808 ≤ r) (r1 : r ≤ 9223372036854775807) : wrap64 (lo r) = r := by unfold wrap64 lo; omega
theorem rnd32_in (a : Int) (a0 : -9223372036854775808 ≤ a) (a1 : a ≤ 9223372036854775807) : -2147483648 ≤ rnd a 32 ∧ rnd a 32 ≤ 2147483648 := by
  have e : (2 : Int) ^ 32 = 4294967296 := rfl
  unfold rnd
  rw [e]
  split <;> omega
set_option maxHeartbeats 1000000 in
theorem fwhole_any (a : Int) (a0 : -9223372036854775808 ≤ a) (a1 : a ≤ 9223372036854775807) (w : World) :
    Calls Try.prog 31 #[.int .i64 a] w fun e w' => e = .returned (.int .i64 (rnd a 32)) ∧ Below w.heap.size w w' := by
  obtain ⟨r0, r1⟩ := rnd32_in a a0 a1
  have hl := lo_back (rnd a 32) (by omega) (by omega)
  have l0 := lo_ge (rnd a 32)
  have l1 := lo_le (rnd a 32)
  have hf := run_field_lo
  go_enter Try.func31, Try.ntmps31
  go_wp2_with fail
  refine (steps_any a a0 a1 _).mono ?_
  rintro e w1 ⟨rfl, W1⟩
  go_wp2_with fail
  refine (round_mid a 32 (by omega) (by omega) (by omega) (by omega) _).mono ?_
  rintro e w2 ⟨rfl, hb⟩
  have W2 := bchain W1 hb
  clear hb W1
  go_wp2
  go_ret
  refine ⟨?_, W2⟩
  show Ending.returned (.int .i64 (wrap64 (lo (rnd a 32)))) = _
  rw [hl]
set_option maxHeartbeats 1000000 in
theorem whole_any (a : Int) (a0 : -9223372036854775808 ≤ a) (a1 : a ≤ 9223372036854775807) (w : World) :
    Calls Try.prog 55 #[.int .i64 a] w fun e w' => e = .returned (.agg #[.int .i64 (hi (a * 4294967296)), .int .u64 (lo (a * 4294967296))]) ∧ Below w.heap.size w w' := by
  have SH : Hid (∀ W : World, Calls Try.prog 49 #[.agg #[.int .i64 (hi a), .int .u64 (lo a)], .int .i64 32] W fun e w' => e = .returned (.agg #[.int .i64 (hi (a * 4294967296)), .int .u64 (lo (a * 4294967296))]) ∧ Below W.heap.size W w') := fun W => shl_any a 32 (by omega) W
  go_enter Try.func55, Try.ntmps55
  go_wp2_with fail
  refine (of_any a a0 a1 _).mono ?_
  rintro e w1 ⟨rfl, hb⟩
  have W1 := bchain (bel1 w _) hb
  have B1 := (Bx.new w (.int .i64 0) (.int .u64 0) 56).later hb
  clear hb
  go_wp2_with fail
  refine (SH.out _).mono ?_
  rintro e w2 ⟨rfl, hb⟩
  have W2 := bchain W1 hb
  have B2 := B1.later hb
  clear hb W1 B1 SH
  obtain ⟨c0, c1, f0, f1⟩ := B2
  go_wp2_with fail
  exact bodyPost_ret (v := .agg #[.int .i64 (hi (a * 4294967296)), .int .u64 (lo (a * 4294967296))]) (by simp [results, Try.results55, go_sem, c0, c1, f0, f1]) rfl ⟨rfl, ((W2.setCell (by simp) _).setCell (by simp) _)⟩
set_option maxHeartbeats 1000000 in
theorem fint_any (a : Int) (a0 : -9223372036854775808 ≤ a) (a1 : a ≤ 9223372036854775807) (w : World) :
    Calls Try.prog 28 #[.int .i64 a] w fun e w' => e = .returned (.tuple #[.int .i64 (clv (a * 4294967296)), .bool (ovv (a * 4294967296))]) ∧ Below w.heap.size w w' := by
  go_enter Try.func28, Try.ntmps28
  go_wp2_with fail
  refine (whole_any a a0 a1 _).mono ?_
  rintro e w1 ⟨rfl, W1⟩
  go_wp2_with fail
  refine (hold_any (a * 4294967296) (by omega) (by omega) _).mono ?_
  rintro e w2 ⟨rfl, hb⟩
  have W2 := bchain W1 hb
  clear hb W1
  go_wp2
  go_ret2
  exact ⟨rfl, W2⟩
end Go.Proofs.Ytpmlpcejmndidaa
