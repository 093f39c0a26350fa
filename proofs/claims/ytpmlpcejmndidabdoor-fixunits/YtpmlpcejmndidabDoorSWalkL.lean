/-
  The contracts of regattaref02's Zero, Ratio, Div, Sqrt.
-/
import Derived.Test.YtpmlpcejmndidabDoorSWalkI
import Derived.Test.YtpmlpcejmndidabDoorFWalkA
import Derived.Test.YtpmlpcejmndidabDoorSWalkK
import Derived.Test.YtpmlpcejmndidabDoorSWalkJ
set_option linter.unusedVariables false
set_option linter.unusedSimpArgs false
namespace Go.Proofs.YtpmlpcejmndidabDoor
open Go.RowKit

set_option maxHeartbeats 1000000 in
theorem szero_any (a : Int) (w : World) :
    Calls Tryd.prog 42 #[.int .i64 a] w fun e w' => e = .returned (.tuple #[.int .i64 (zv a), .bool true]) ∧ Below w.heap.size w w' := by
  unfold zv
  rcases (show 0 < a ∨ a = 0 ∨ a < 0 by omega) with h | h | h
  · rw [if_pos h]
    go_enter Tryd.func42, Tryd.ntmps42
    go_wp2
    go_ret2
    exact ⟨rfl, Below.refl _ _⟩
  · subst h
    rw [if_neg (by omega), if_neg (by omega)]
    go_enter Tryd.func42, Tryd.ntmps42
    go_wp2
    go_ret2
    exact ⟨rfl, Below.refl _ _⟩
  · have h' : ¬ 0 < a := by omega
    rw [if_neg (by omega), if_pos h]
    go_enter Tryd.func42, Tryd.ntmps42
    go_wp2
    go_ret2
    exact ⟨rfl, Below.refl _ _⟩

set_option maxHeartbeats 1000000 in
theorem sratio_any (a b : Int) (k : Nat) (hk : k ≤ 1) (a0 : -9223372036854775808 ≤ a) (a1 : a ≤ 9223372036854775807) (b0 : -9223372036854775808 ≤ b) (b1 : b ≤ 9223372036854775807) (w : World) :
    Calls Tryd.prog 17 #[.int .i64 a, .int .i64 (k : Int), .int .i64 b] w fun e w' => e = .returned (.tuple #[.int .i64 (qv (a * 2 ^ (32 * k)) b), .bool (qo (a * 2 ^ (32 * k)) b)]) ∧ Below w.heap.size w w' := by
  unfold qv qo
  by_cases hb : b = 0
  · rw [if_pos hb, if_pos hb, zv_pos]
    subst hb
    go_enter Tryd.func17, Tryd.ntmps17
    go_wp2_with fail
    refine (szero_any a _).mono ?_
    rintro e w1 ⟨rfl, W1⟩
    go_wp2
    go_ret2
    exact ⟨rfl, W1⟩
  · rw [if_neg hb, if_neg hb]
    go_enter Tryd.func17, Tryd.ntmps17
    go_wp2_with fail
    refine (sadd_zero a k (by omega) a0 a1 _).mono ?_
    rintro e w1 ⟨p', q', rfl, hS, W1⟩
    go_wp2_with fail
    refine (squo_any p' q' _ _ b hS ?_ b0 b1 hb _).mono ?_
    · rcases (show k = 0 ∨ k = 1 by omega) with h | h <;> subst h <;> decide
    rintro e w2 ⟨rfl, hb'⟩
    have W2 := bchain W1 hb'
    clear hb' W1 hS
    go_wp2
    go_ret2
    exact ⟨rfl, W2⟩
set_option maxHeartbeats 1000000 in
theorem rfdiv_any (a b : Int) (a0 : -9223372036854775808 ≤ a) (a1 : a ≤ 9223372036854775807) (b0 : -9223372036854775808 ≤ b) (b1 : b ≤ 9223372036854775807) (w : World) :
    Calls Tryd.prog 16 #[.int .i64 a, .int .i64 b] w fun e w' => e = .returned (.tuple #[.int .i64 (qv (a * 4294967296) b), .bool (qo (a * 4294967296) b)]) ∧ Below w.heap.size w w' := by
  go_enter Tryd.func16, Tryd.ntmps16
  go_wp2_with fail
  refine (sratio_any a b 1 (by omega) a0 a1 b0 b1 _).mono ?_
  rintro e w1 ⟨rfl, W1⟩
  go_wp2
  go_ret2
  exact ⟨rfl, W1⟩
set_option maxHeartbeats 1000000 in
theorem rfsqrt_any (a : Int) (a0 : -9223372036854775808 ≤ a) (a1 : a ≤ 9223372036854775807) (w : World) :
    Calls Tryd.prog 18 #[.int .i64 a] w fun e w' => e = .returned (.tuple #[.int .i64 (sv a), .bool (decide (a < 0))]) ∧ Below w.heap.size w w' := by
  have SR : Hid (∀ p q B : Int, Sm p q (a * 2 ^ (32 * 1)) B → B < 3138550867693340381917894711603833208051177722232017256448 → ∀ W : World, Calls Tryd.prog 44 #[.agg #[.int .u64 (dg (p) 0), .int .u64 (dg (p) 1), .int .u64 (dg (p) 2), .int .u64 (dg (p) 3), .int .u64 (dg (p) 4), .int .u64 (dg (p) 5), .int .u64 (dg (q) 0), .int .u64 (dg (q) 1), .int .u64 (dg (q) 2), .int .u64 (dg (q) 3), .int .u64 (dg (q) 4), .int .u64 (dg (q) 5)]] W fun e w' => e = .returned (.tuple #[.int .i64 (sv a), .bool (decide (a < 0))]) ∧ Below W.heap.size W w') := by
    intro p q B hS hB W
    have h := sroot_any p q _ B hS hB W
    have e1 : a * 2 ^ (32 * 1) = a * 4294967296 := rfl
    rw [e1] at h
    unfold sv
    by_cases hn : a < 0
    · rw [if_pos (by omega), if_pos (by omega)] at h
      rw [if_pos hn, decide_eq_true hn]
      exact h
    · rw [if_neg (by omega), if_neg (by omega), if_neg (by omega), if_neg (by omega)] at h
      rw [if_neg hn, decide_eq_false hn]
      exact h
  go_enter Tryd.func18, Tryd.ntmps18
  go_wp2_with fail
  refine (sadd_zero a 1 (by omega) a0 a1 _).mono ?_
  rintro e w1 ⟨p', q', rfl, hS, W1⟩
  go_wp2_with fail
  refine (SR.out p' q' _ hS (by decide) _).mono ?_
  rintro e w2 ⟨rfl, hb'⟩
  have W2 := bchain W1 hb'
  clear hb' W1 hS SR
  go_wp2
  go_ret2
  exact ⟨rfl, W2⟩
end Go.Proofs.YtpmlpcejmndidabDoor
