/-
  The contract of regattalaw01's awake: the chapter's examples come out as they should.
-/
import Derived.Test.YtpmidldnomleoaaDoorWalkH
set_option linter.unusedVariables false
set_option linter.unusedSimpArgs false
namespace Go.Proofs.YtpmidldnomleoaaDoor
open Go.RowKit

theorem quo_5 (w : World) : Calls Tryd.prog 16 #[.agg #[.int .i64 (hi (-5)), .int .u64 (lo (-5))], .int .i64 2] w fun e w' => e = .returned (.tuple #[.agg #[.int .i64 (hi (-2)), .int .u64 (lo (-2))], .bool true]) ∧ Below w.heap.size w w' := by
  have D1 : DivAt 0 (ab (-5) / 18446744073709551616) (ab 2) := by
    rw [show ab (-5) / 18446744073709551616 = 0 from rfl, show ab 2 = 2 from rfl]
    exact div64_zero 0 2 (by omega) (by omega) (by omega) (by omega)
  have D2 : DivAt (ab (-5) / 18446744073709551616 % ab 2) (lo (ab (-5))) (ab 2) := by
    rw [show ab (-5) / 18446744073709551616 % ab 2 = 0 from rfl, show ab 2 = 2 from rfl, show lo (ab (-5)) = 5 from rfl]
    exact div64_zero 5 2 (by omega) (by omega) (by omega) (by omega)
  have h := quo_of (-5) 2 (by omega) (by omega) (by omega) (by omega) (by omega) D1 D2 w
  rw [show quo (-5) 2 = -2 from rfl] at h
  exact h
theorem root_17 (w : World) : Calls Tryd.prog 18 #[.agg #[.int .i64 (t3 17), .int .u64 (m3 17), .int .u64 (lo 17)]] w fun e w' => e = .returned (.tuple #[.int .i64 4, .bool false]) ∧ Below w.heap.size w w' := by
  have h := root_mid 17 (by omega) (by omega) w
  rw [show rt 17 = 4 by kernel_rfl] at h
  exact h
theorem round_7 (w : World) : Calls Tryd.prog 19 #[.agg #[.int .i64 (hi 7), .int .u64 (lo 7)], .int .i64 1] w fun e w' => e = .returned (.agg #[.int .i64 (hi 4), .int .u64 (lo 4)]) ∧ Below w.heap.size w w' := by
  have h := round_mid 7 1 (by omega) (by omega) (by omega) (by omega) w
  rw [show rnd 7 1 = 4 from rfl] at h
  exact h

set_option maxHeartbeats 1000000 in
theorem awake_any (w : World) : Calls Tryd.prog 4 #[] w fun e w' => e = .returned (.bool true) ∧ Below w.heap.size w w' := by
  have hfd := run_field_lo
  go_enter Tryd.func4, Tryd.ntmps4
  go_wp2_with fail
  refine (of_any (-5) (by omega) (by omega) _).mono ?_
  rintro e w1 ⟨rfl, hb⟩
  have W1 : Below w.heap.size w w1 := hb
  clear hb
  go_wp2_with fail
  refine (quo_5 _).mono ?_
  rintro e w2 ⟨rfl, hb⟩
  have W2 : Below w.heap.size w w2 := W1.trans (hb.mono W1.size)
  clear hb W1
  go_wp2_with fail
  have B2 := Bx.new w2 (.int .i64 (hi (-2))) (.int .u64 (lo (-2))) 30
  refine (of_any 17 (by omega) (by omega) _).mono ?_
  rintro e w3 ⟨rfl, hb⟩
  have W3 : Below w.heap.size w w3 := (W2.alloc W2.size _).trans (hb.mono (by simp; have := W2.size; omega))
  have B3 := B2.later hb
  clear hb W2 B2
  go_wp2_with fail
  refine (extend_any 17 (by omega) (by omega) _).mono ?_
  rintro e w4 ⟨rfl, hb⟩
  have W4 : Below w.heap.size w w4 := W3.trans (hb.mono W3.size)
  have B4 := B3.later hb
  clear hb W3 B3
  go_wp2_with fail
  refine (root_17 _).mono ?_
  rintro e w5 ⟨rfl, hb⟩
  have W5 : Below w.heap.size w w5 := W4.trans (hb.mono W4.size)
  have B5 := B4.later hb
  clear hb W4 B4
  generalize w2.heap.size = b at *
  go_upto_region 3 with fail
  have q0 := fun x y => cell_regrown B5.c0 x y
  have q1 := fun x y => cell_regrown B5.c1 x y
  have hl4 : lo 4 = 4 := rfl
  refine wp_region_quiet_below (by kernel_rfl) (by kernel_rfl) ?_
  repeat (quiet_step (first | (go_at_call 17; exact Calls.regrown_of (of_any _ (by omega) (by omega) _)) | (go_at_call 19; exact Calls.regrown_of (round_7 _))))
  refine wpQuiet_nil ?_
  intro wd hw'
  have hB2 : Below w5.heap.size w5 wd := by obtain ⟨⟨dq, osq⟩, rfl⟩ := hw'; exact below_regrown w5 dq osq
  have W6 : Below w.heap.size w wd := W5.trans (hB2.mono W5.size)
  clear hw' hB2 q0 q1
  go_wp2
  go_ret
  exact ⟨rfl, W6⟩
end Go.Proofs.YtpmidldnomleoaaDoor
