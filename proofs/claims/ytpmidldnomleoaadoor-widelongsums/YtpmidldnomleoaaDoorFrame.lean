/-
  What every row's step over wide numbers wants: how a wide number is opened, and shut again.
-/
import Derived.Test.YtpmidldnomleoaaDoorRows
import Derived.Test.YtpmidldnomleoaaDoorMath
import Derived.WalkKit
import Derived.ProofKit
import Derived.OpenShut
import Derived.ChangeOld
import Derived.Below
import Derived.Lib.SmallJoins
set_option linter.unusedVariables false
namespace Go.Proofs.YtpmidldnomleoaaDoor
open Go.ChangeShapes Go.WideShapes Go.ChangeAt Go.RowKit Go.Joins

theorem own : ownKnob Tryd.prog.godebug = none := by kernel_rfl
theorem cellsW : Tryd.prog.cellsOf 30 = 2 := by kernel_rfl

theorem open_wide {H : Type} {enc : TypeId × Value → H} {w : World} {r : Reach} {b0 base : Nat} {sp : Nat → Bool} {hd : Bool} {v : Value} {d : DataW H} {p : List MemPlace}
    (hv : Value.okWide Tryd.prog w r b0 30 v) (h : DataW.Trod enc Tryd.prog w base sp hd 30 v d p) :
    ∃ a b : Int, v = .agg #[.int .i64 a, .int .u64 b] ∧ d = .agg [.lit (.int .i64 a), .lit (.int .u64 b)] ∧ p = [] ∧ (Lit.int .i64 a).wf = true ∧ (Lit.int .u64 b).wf = true := by
  obtain ⟨c0, c1, y0, y1, m, rfl, rfl, rfl, hy0, hy1⟩ := open_agg2 Tryd.underlying30 (by kernel_rfl) cellsW hv h
  obtain ⟨a, e0, rfl, wa⟩ := DataW.trod_int Tryd.underlying2 hy0
  obtain ⟨b, e1, rfl, wb⟩ := DataW.trod_int Tryd.underlying23 hy1
  simp at e0 e1
  subst e0 e1
  exact ⟨a, b, rfl, rfl, rfl, wa, wb⟩

theorem shut_wide {H : Type} {enc : TypeId × Value → H} {W' : World} {sp : Nat → Bool} {a b : Int} (wa : (Lit.int .i64 a).wf = true) (wb : (Lit.int .u64 b).wf = true) :
    DataW.Trod enc Tryd.prog W' 0 sp true 30 (.agg #[.int .i64 a, .int .u64 b]) (.agg [.lit (.int .i64 a), .lit (.int .u64 b)]) [] :=
  shut_agg2 (y0 := (.lit (.int .i64 a), [])) (y1 := (.lit (.int .u64 b), [])) Tryd.underlying30 (by kernel_rfl) cellsW ⟨1, by simp [DataW.trod, Tryd.underlying2, wa]⟩ ⟨1, by simp [DataW.trod, Tryd.underlying23, wb]⟩

theorem wide_words {a b : Int} (wa : (Lit.int .i64 a).wf = true) (wb : (Lit.int .u64 b).wf = true) : hi (nm a b) = a ∧ lo (nm a b) = b :=
  ⟨hi_nm a b (bounds_i64 wa).1 (bounds_i64 wa).2 (bounds_u64 wb).1 (bounds_u64 wb).2, lo_nm a b (bounds_u64 wb).1 (bounds_u64 wb).2⟩
theorem wide_rng {a b : Int} (wa : (Lit.int .i64 a).wf = true) (wb : (Lit.int .u64 b).wf = true) : -170141183460469231731687303715884105728 ≤ nm a b ∧ nm a b ≤ 170141183460469231731687303715884105727 :=
  ⟨nm_ge a b (bounds_i64 wa).1 (bounds_u64 wb).1, nm_le a b (bounds_i64 wa).2 (bounds_u64 wb).2⟩

end Go.Proofs.YtpmidldnomleoaaDoor
