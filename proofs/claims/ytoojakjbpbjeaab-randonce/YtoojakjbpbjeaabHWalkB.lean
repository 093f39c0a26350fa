/-
  The contracts of rand's Below, Part and Between.
-/
import Derived.Test.YtoojakjbpbjeaabHWalkA
import Derived.Test.YtoojakjbpbjeaabEWalkB
import Derived.Deep.RegionHeld3
set_option linter.unusedVariables false
set_option linter.unusedSimpArgs false
namespace Go.Proofs.Ytoojakjbpbjeaab
open Go.RowKit

set_option maxHeartbeats 4000000 in
theorem pBelow_any (s : Nat) (a b c i : Int) (n : Nat) (hk : Ky s a b c) (i0 : -9223372036854775808 ≤ i) (i1 : i ≤ 9223372036854775807) (n0 : 1 ≤ n) (n1 : n ≤ 9223372036854775807) (w : World) :
    Calls Try.prog 15 #[.agg #[.int .u64 (s : Int), .int .i64 a, .int .i64 b, .int .i64 c], .int .i64 i, .int .i64 (n : Int)] w fun e w' => e = .returned (.int .i64 ((blN (wdN s a b c i) n : Nat) : Int)) ∧ Below w.heap.size w w' := by
  have CW : Hid (∀ W : World, Calls Try.prog 8 #[.agg #[.int .u64 (s : Int), .int .i64 a, .int .i64 b, .int .i64 c], .int .i64 i] W fun e w' => e = .returned (.int .u64 ((wdN s a b c i : Nat) : Int)) ∧ Below W.heap.size W w') := fun W => pWord_any s a b c i hk i0 i1 W
  have hl := wdN_lt s a b c i
  generalize wdN s a b c i = X at *
  have CP : Hid (∀ W : World, Calls Try.prog 23 #[.int .u64 (X : Int), .int .u64 (n : Int)] W fun e w' => e = .returned (.tuple #[.int .u64 ((blN X n : Nat) : Int), .int .u64 ((X * n % 18446744073709551616 : Nat) : Int)]) ∧ w' = W) := fun W => mul64_nat X n hl (by omega) W
  have hlt := blN_lt X n hl (by omega)
  generalize blN X n = R at *
  generalize X * n % 18446744073709551616 = Q at *
  have hb0 : Hid (Below w.heap.size w (w.alloc (.cells #[.int .u64 (s : Int), .int .i64 a, .int .i64 b, .int .i64 c] 24))) := bel1 w _
  have hnI : ¬ (n : Int) < 1 := by omega
  have hwn : IntKind.u64.wrap (n : Int) = (n : Int) := by rw [IntKind.wrap_u64]; omega
  have E5 : wrap64 (R : Int) = (R : Int) := by rw [w64, sg_id _ (by omega) (by omega)]
  clear hk
  go_enter Try.func15, Try.ntmps15
  go_wp2_with fail
  refine (CW.out _).mono ?_
  rintro e w1 ⟨rfl, hb⟩
  have hX : Hid (Below w.heap.size w w1) := bchain hb0.out hb
  clear CW hb hb0
  go_wp2_with fail
  refine (CP.out _).mono ?_
  rintro e w2 ⟨rfl, hz⟩
  subst hz
  clear CP
  go_wp2
  go_ret
  exact ⟨rfl, hX.out⟩
set_option maxHeartbeats 1000000 in
theorem pBelow_none (s : Nat) (a b c i n : Int) (hn : n < 1) (w : World) :
    Calls Try.prog 15 #[.agg #[.int .u64 (s : Int), .int .i64 a, .int .i64 b, .int .i64 c], .int .i64 i, .int .i64 n] w fun e w' => e = .returned (.int .i64 0) ∧ Below w.heap.size w w' := by
  have hb0 := bel1 w (.cells #[.int .u64 (s : Int), .int .i64 a, .int .i64 b, .int .i64 c] 24)
  go_enter Try.func15, Try.ntmps15
  go_wp2
  go_ret
  exact ⟨rfl, hb0⟩
theorem btw_math (lw hg : Int) (D p : Nat) (hD : (D : Int) = hg - lw) : hg * (p : Int) - lw * (p : Int) = ((D * p : Nat) : Int) := by
  rw [← Int.sub_mul, ← hD, Int.natCast_mul]
end Go.Proofs.Ytoojakjbpbjeaab
