/-
  Contracts of math/bits.Mul64 and of regatta/wide's Mul, clamped, Clamp, goesUp, size, Extend.
-/
import Derived.Test.YtekdpeiemfppiabDoorWalkB
import Derived.Lib.Mul64
import Derived.Laws.Bits64b
set_option linter.unusedVariables false
namespace Go.Proofs.YtekdpeiemfppiabDoor
open Go.RowKit

theorem mk32 (a : Nat) (ha : a < 18446744073709551616) : bits .and .u64 (a : Int) 4294967295 = ((a % 4294967296 : Nat) : Int) := by
  have h := bits_and_u64_nat a 4294967295 ha (by omega)
  have e : a &&& 4294967295 = a % 4294967296 := Nat.and_two_pow_sub_one_eq_mod a 32
  rw [e] at h
  exact h
theorem dv32 (a : Nat) : (a : Int) / 4294967296 = ((a / 4294967296 : Nat) : Int) := by omega
theorem mlN (a b : Nat) : (a : Int) * (b : Int) = ((a * b : Nat) : Int) := (Int.natCast_mul a b).symm
theorem adN (a b : Nat) : (a : Int) + (b : Int) = ((a + b : Nat) : Int) := (Int.natCast_add a b).symm
theorem wrN (a : Nat) (ha : a < 18446744073709551616) : IntKind.u64.wrap (a : Int) = (a : Int) := by rw [IntKind.wrap_u64]; omega
theorem wrM (a : Nat) : IntKind.u64.wrap (a : Int) = ((a % 18446744073709551616 : Nat) : Int) := by rw [IntKind.wrap_u64]; omega

theorem w64 (x : Int) : wrap64 x = sg x := by unfold wrap64 sg; rfl

set_option maxHeartbeats 400000 in
theorem clamp_any (v : Int) (h0 : -170141183460469231731687303715884105728 ≤ v) (h1 : v ≤ 170141183460469231731687303715884105727) (w : World) :
    Calls Tryd.prog 16 #[.agg #[.int .i64 (hi v), .int .u64 (lo v)]] w fun e w' => e = .returned (.tuple #[.int .i64 (clv v), .bool (ovv v)]) ∧ Below w.heap.size w w' := by
  by_cases c1 : v < -9223372036854775808
  · obtain ⟨e1, e2⟩ := clv_lo v c1
    obtain ⟨f1, f2⟩ := fits_lo v c1 h0
    rw [e1, e2]
    have f1' : (hi v == wrap64 (lo v) / 9223372036854775808) = false := by rw [beq_eq_false_iff_ne, w64]; exact f1
    clear e1 e2 f1 c1
    go_enter Tryd.func16, Tryd.ntmps16
    go_wp2
    go_ret2
    exact ⟨rfl, bel1 _ _⟩
  · by_cases c2 : 9223372036854775807 < v
    · obtain ⟨e1, e2⟩ := clv_hi v c2
      obtain ⟨f1, f2⟩ := fits_hi v c2 h1
      rw [e1, e2]
      have f1' : (hi v == wrap64 (lo v) / 9223372036854775808) = false := by rw [beq_eq_false_iff_ne, w64]; exact f1
      clear e1 e2 f1 c1 c2
      go_enter Tryd.func16, Tryd.ntmps16
      go_wp2
      go_ret2
      exact ⟨rfl, bel1 _ _⟩
    · obtain ⟨e1, e2⟩ := clv_in v (by omega) (by omega)
      obtain ⟨f1, f2⟩ := fits_in v (by omega) (by omega)
      rw [e1, e2]
      have f1' : (hi v == wrap64 (lo v) / 9223372036854775808) = true := by rw [beq_iff_eq, w64]; exact f1
      have F2 : Hid (wrap64 (lo v) = v) := by show wrap64 (lo v) = v; rw [w64]; exact f2
      clear e1 e2 f1 f2 c1 c2
      go_enter Tryd.func16, Tryd.ntmps16
      go_wp2
      go_ret2
      exact ⟨by rw [F2.out]; rfl, bel1 _ _⟩

set_option maxHeartbeats 400000 in
theorem goesUp_any (s l : Int) (l0 : 0 ≤ l) (w : World) :
    Calls Tryd.prog 31 #[.int .i64 s, .int .u64 l] w fun e w' => e = .returned (.bool (gu s l)) ∧ w' = w := by
  by_cases c1 : 0 < s
  · have e1 : gu s l = true := by unfold gu; simp [c1]
    rw [e1]
    clear e1
    go_enter Tryd.func31, Tryd.ntmps31
    go_wp2
    go_ret
    exact ⟨rfl, rfl⟩
  · by_cases c2 : s = 0
    · subst c2
      have e1 : gu 0 l = decide (l % 2 = 1) := by unfold gu; simp
      rw [e1]
      clear e1
      by_cases c3 : l % 2 = 1
      · rw [decide_eq_true c3]
        have c3' : (l % 2 == 1) = true := beq_iff_eq.2 c3
        go_enter Tryd.func31, Tryd.ntmps31
        go_wp2
        go_ret
        exact ⟨rfl, rfl⟩
      · rw [decide_eq_false c3]
        have c3' : (l % 2 == 1) = false := beq_eq_false_iff_ne.2 c3
        go_enter Tryd.func31, Tryd.ntmps31
        go_wp2
        go_ret
        exact ⟨rfl, rfl⟩
    · have e1 : gu s l = false := by unfold gu; simp [c1, c2]
      rw [e1]
      clear e1
      have c2' : (s == 0) = false := beq_eq_false_iff_ne.2 c2
      go_enter Tryd.func31, Tryd.ntmps31
      go_wp2
      go_ret
      exact ⟨rfl, rfl⟩

end Go.Proofs.YtekdpeiemfppiabDoor
