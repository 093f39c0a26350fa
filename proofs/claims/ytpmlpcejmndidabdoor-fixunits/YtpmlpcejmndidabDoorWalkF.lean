/-
  Contracts of math/bits.Div64 where the high word is nought, and of regatta/wide's divide, over what Div64 gives at the two calls.
-/
import Derived.Test.YtpmlpcejmndidabDoorWalkE
import Derived.Test.YtpmlpcejmndidabDoorMath3
set_option linter.unusedVariables false
set_option linter.unusedSimpArgs false
namespace Go.Proofs.YtpmlpcejmndidabDoor
open Go.RowKit

/-- What Div64 gives at one input. -/
def DivAt (h l y : Int) : Prop := ∀ w : World, Calls Tryd.prog 88 #[.int .u64 h, .int .u64 l, .int .u64 y] w fun e w' => e = .returned (.tuple #[.int .u64 ((h * 18446744073709551616 + l) / y), .int .u64 ((h * 18446744073709551616 + l) % y)]) ∧ Below w.heap.size w w'

set_option maxHeartbeats 400000 in
theorem div64_zero (l y : Int) (l0 : 0 ≤ l) (l1 : l ≤ 18446744073709551615) (y0 : 1 ≤ y) (y1 : y ≤ 18446744073709551615) : DivAt 0 l y := by
  intro w
  rw [Int.zero_mul, Int.zero_add]
  have hy : (y == 0) = false := beq_eq_false_iff_ne.2 (by omega)
  go_enter Tryd.func88, Tryd.ntmps88
  go_wp2
  go_quiet (fail)
  go_wp2
  go_ret2
  exact ⟨rfl, by simpa using below_drewN (Below.refl w.heap.size w) nq⟩

set_option maxHeartbeats 400000 in
theorem divide_of (v d : Int) (v0 : 0 ≤ v) (v1 : v ≤ 170141183460469231731687303715884105728) (d0 : 1 ≤ d) (d1 : d ≤ 18446744073709551615) (D1 : DivAt 0 (v / 18446744073709551616) d) (D2 : DivAt (v / 18446744073709551616 % d) (lo v) d) (w : World) :
    Calls Tryd.prog 83 #[.agg #[.int .i64 (hi v), .int .u64 (lo v)], .int .u64 d] w fun e w' => e = .returned (.tuple #[.agg #[.int .i64 (hi (v / d)), .int .u64 (lo (v / d))], .int .u64 (v % d)]) ∧ Below w.heap.size w w' := by
  obtain ⟨e1, e2, e3, e4⟩ := div_words v d d0 v0 v1
  have E1 : Hid (sg (v / 18446744073709551616 / d) = hi (v / d)) := e1
  have E2 : Hid ((v / 18446744073709551616 % d * 18446744073709551616 + lo v) / d = lo (v / d)) := e2
  have E3 : Hid ((v / 18446744073709551616 % d * 18446744073709551616 + lo v) % d = v % d) := (mod_step v d d0).symm
  have E4 : IntKind.u64.wrap (hi v) = v / 18446744073709551616 := by rw [IntKind.wrap_u64]; exact hi_u v v0 v1
  clear e1 e2
  go_enter Tryd.func83, Tryd.ntmps83
  go_wp2_with fail
  refine (D1 _).mono ?_
  rw [Int.zero_mul, Int.zero_add]
  rintro e w1 ⟨rfl, hb⟩
  have hz := hb.size
  simp at hz
  have ca1 : w1.cell? ⟨w.heap.size, 1, none⟩ = some (.int .u64 (lo v)) := cell_later hb (cell_alloc (by simp [go_sem]))
  have cr0 : w1.cell? ⟨w.heap.size + 1, 0, none⟩ = some (.int .i64 0) := cell_later hb (by simp [go_sem])
  have cr1 : w1.cell? ⟨w.heap.size + 1, 1, none⟩ = some (.int .u64 0) := cell_later hb (by simp [go_sem])
  have fr0 : w1.frozen? ⟨w.heap.size + 1, 0, none⟩ = false := frozen_later hb (v := .int .i64 0) (by simp [go_sem]) (by simp [go_sem])
  have fr1 : w1.frozen? ⟨w.heap.size + 1, 1, none⟩ = false := frozen_later hb (v := .int .u64 0) (by simp [go_sem]) (by simp [go_sem])
  have hW : Below w.heap.size w w1 := (bel2 w _ _).trans (hb.mono (by simp; omega))
  clear hb D1
  go_wp2_with fail
  refine (D2 _).mono ?_
  rw [E2.out, E3.out]
  rintro e w2 ⟨rfl, hb⟩
  have ds0 := cell_later hb cr0
  have ds1 := cell_later hb cr1
  have gs0 := frozen_later hb cr0 fr0
  have gs1 := frozen_later hb cr1 fr1
  have hW2 : Below w.heap.size w w2 := hW.trans (hb.mono (by omega))
  clear D2 hb hW cr0 cr1 fr0 fr1 ca1
  go_wp2_with fail
  exact bodyPost_ret (v := .tuple #[.agg #[.int .i64 (hi (v / d)), .int .u64 (lo (v / d))], .int .u64 (v % d)]) (by simp [results, Tryd.results83, go_sem, ds0, ds1]; rw [w64]; exact E1.out) rfl ⟨rfl, (hW2.setCell (by dsimp only; omega) _).setCell (by dsimp only; omega) _⟩
end Go.Proofs.YtpmlpcejmndidabDoor
