/-
  WideOrders: for all wide numbers a, b, c the law regattalaw01.WideOrders returns true: sums may be made in any order, and what is taken away again leaves what was there. No condition.
-/
import Derived.Test.YtpmidldnomleoabWalkI
set_option linter.unusedVariables false
set_option linter.unusedSimpArgs false
namespace Go.Proofs.Ytpmidldnomleoab
open Go.RowKit

set_option maxHeartbeats 1000000 in
theorem wideOrders_walk (a b c : Int) (a0 : -170141183460469231731687303715884105728 ≤ a) (a1 : a ≤ 170141183460469231731687303715884105727) (b0 : -170141183460469231731687303715884105728 ≤ b) (b1 : b ≤ 170141183460469231731687303715884105727) (c0 : -170141183460469231731687303715884105728 ≤ c) (c1 : c ≤ 170141183460469231731687303715884105727) (w : World) :
    Calls Try.prog 4 #[.agg #[.int .i64 (hi a), .int .u64 (lo a)], .agg #[.int .i64 (hi b), .int .u64 (lo b)], .agg #[.int .i64 (hi c), .int .u64 (lo c)]] w fun e w' => e = .returned (.bool true) ∧ Below w.heap.size w w' := by
  clear a0 a1 b0 b1 c0 c1
  have e1 : hi (b + a) = hi (a + b) := by rw [Int.add_comm]
  have e2 : lo (b + a) = lo (a + b) := by rw [Int.add_comm]
  have e3 : hi (a + (b + c)) = hi (a + b + c) := by rw [Int.add_assoc]
  have e4 : lo (a + (b + c)) = lo (a + b + c) := by rw [Int.add_assoc]
  have e5 : hi (a + b - b) = hi a := by rw [Int.add_sub_cancel]
  have e6 : lo (a + b - b) = lo a := by rw [Int.add_sub_cancel]
  have e7 : hi (a + -a) = 0 := by rw [Int.add_right_neg]; rfl
  have e8 : lo (a + -a) = 0 := by rw [Int.add_right_neg]; rfl
  have e9 : hi 0 = 0 := rfl
  have e10 : lo 0 = 0 := rfl
  go_enter Try.func4, Try.ntmps4
  go_wp2_with fail
  refine (awake_any _).mono ?_
  rintro e w1 ⟨rfl, hb⟩
  have W1 : Below w.heap.size w w1 := (bel3 w _ _ _).trans (hb.mono (by simp; omega))
  have ca0 : w1.cell? ⟨w.heap.size, 0, none⟩ = some (.int .i64 (hi a)) := cell_later hb (cell_alloc (cell_alloc (by simp [go_sem])))
  have ca1 : w1.cell? ⟨w.heap.size, 1, none⟩ = some (.int .u64 (lo a)) := cell_later hb (cell_alloc (cell_alloc (by simp [go_sem])))
  have cb0 : w1.cell? ⟨w.heap.size + 1, 0, none⟩ = some (.int .i64 (hi b)) := cell_later hb (cell_alloc (by simp [go_sem]))
  have cb1 : w1.cell? ⟨w.heap.size + 1, 1, none⟩ = some (.int .u64 (lo b)) := cell_later hb (cell_alloc (by simp [go_sem]))
  have cc0 : w1.cell? ⟨w.heap.size + 1 + 1, 0, none⟩ = some (.int .i64 (hi c)) := cell_later hb (by simp [go_sem])
  have cc1 : w1.cell? ⟨w.heap.size + 1 + 1, 1, none⟩ = some (.int .u64 (lo c)) := cell_later hb (by simp [go_sem])
  clear hb
  go_upto_region 3 with fail
  have q0 := fun x y => cell_regrown ca0 x y
  have q1 := fun x y => cell_regrown ca1 x y
  have q2 := fun x y => cell_regrown cb0 x y
  have q3 := fun x y => cell_regrown cb1 x y
  have q4 := fun x y => cell_regrown cc0 x y
  have q5 := fun x y => cell_regrown cc1 x y
  clear ca0 ca1 cb0 cb1 cc0 cc1
  refine wp_region_quiet_below (by kernel_rfl) (by kernel_rfl) ?_
  repeat (quiet_step (first | (go_at_call 12; exact Calls.regrown_of (add_any _ _ _)) | (go_at_call 13; exact Calls.regrown_of (sub_any _ _ _)) | (go_at_call 14; exact Calls.regrown_of (neg_any _ _))))
  refine wpQuiet_nil ?_
  intro wd hw'
  have hB2 : Below w1.heap.size w1 wd := by obtain ⟨⟨dq, osq⟩, rfl⟩ := hw'; exact below_regrown w1 dq osq
  have W6 : Below w.heap.size w wd := W1.trans (hB2.mono W1.size)
  clear hw' hB2
  go_wp2
  go_ret
  exact ⟨rfl, W6⟩

end Go.Proofs.Ytpmidldnomleoab
