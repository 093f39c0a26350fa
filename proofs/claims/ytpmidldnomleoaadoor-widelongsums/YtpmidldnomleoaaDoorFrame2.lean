/-
  How a long number is opened, and shut again.
-/
import Derived.Test.YtpmidldnomleoaaDoorFrame
set_option linter.unusedVariables false
namespace Go.Proofs.YtpmidldnomleoaaDoor
open Go.ChangeShapes Go.WideShapes Go.ChangeAt Go.RowKit Go.Joins

theorem cellsL : Tryd.prog.cellsOf 25 = 3 := by kernel_rfl

theorem open_long {H : Type} {enc : TypeId × Value → H} {w : World} {r : Reach} {b0 base : Nat} {sp : Nat → Bool} {hd : Bool} {v : Value} {d : DataW H} {p : List MemPlace}
    (hv : Value.okWide Tryd.prog w r b0 25 v) (h : DataW.Trod enc Tryd.prog w base sp hd 25 v d p) :
    ∃ a b c : Int, v = .agg #[.int .i64 a, .int .u64 b, .int .u64 c] ∧ d = .agg [.lit (.int .i64 a), .lit (.int .u64 b), .lit (.int .u64 c)] ∧ p = [] ∧ (Lit.int .i64 a).wf = true ∧ (Lit.int .u64 b).wf = true ∧ (Lit.int .u64 c).wf = true := by
  obtain ⟨c0, c1, c2, y0, y1, y2, m, rfl, rfl, rfl, hy0, hy1, hy2⟩ := open_agg3 Tryd.underlying25 (by kernel_rfl) cellsL hv h
  obtain ⟨a, e0, rfl, wa⟩ := DataW.trod_int Tryd.underlying2 hy0
  obtain ⟨b, e1, rfl, wb⟩ := DataW.trod_int Tryd.underlying23 hy1
  obtain ⟨c, e2, rfl, wc⟩ := DataW.trod_int Tryd.underlying23 hy2
  simp at e0 e1 e2
  subst e0 e1 e2
  exact ⟨a, b, c, rfl, rfl, rfl, wa, wb, wc⟩

theorem shut_long {H : Type} {enc : TypeId × Value → H} {W' : World} {sp : Nat → Bool} {a b c : Int} (wa : (Lit.int .i64 a).wf = true) (wb : (Lit.int .u64 b).wf = true) (wc : (Lit.int .u64 c).wf = true) :
    DataW.Trod enc Tryd.prog W' 0 sp true 25 (.agg #[.int .i64 a, .int .u64 b, .int .u64 c]) (.agg [.lit (.int .i64 a), .lit (.int .u64 b), .lit (.int .u64 c)]) [] :=
  shut_agg3 (y0 := (.lit (.int .i64 a), [])) (y1 := (.lit (.int .u64 b), [])) (y2 := (.lit (.int .u64 c), [])) Tryd.underlying25 (by kernel_rfl) cellsL ⟨1, by simp [DataW.trod, Tryd.underlying2, wa]⟩ ⟨1, by simp [DataW.trod, Tryd.underlying23, wb]⟩ ⟨1, by simp [DataW.trod, Tryd.underlying23, wc]⟩

def nm3 (a b c : Int) : Int := a * 340282366920938463463374607431768211456 + b * 18446744073709551616 + c
theorem long_words {a b c : Int} (wa : (Lit.int .i64 a).wf = true) (wb : (Lit.int .u64 b).wf = true) (wc : (Lit.int .u64 c).wf = true) : t3 (nm3 a b c) = a ∧ m3 (nm3 a b c) = b ∧ lo (nm3 a b c) = c := by
  have h1 := bounds_i64 wa
  have h2 := bounds_u64 wb
  have h3 := bounds_u64 wc
  unfold t3 m3 lo nm3
  omega
theorem long_rng {a b c : Int} (wa : (Lit.int .i64 a).wf = true) (wb : (Lit.int .u64 b).wf = true) (wc : (Lit.int .u64 c).wf = true) : -3138550867693340381917894711603833208051177722232017256448 ≤ nm3 a b c ∧ nm3 a b c ≤ 3138550867693340381917894711603833208051177722232017256447 := by
  have h1 := bounds_i64 wa
  have h2 := bounds_u64 wb
  have h3 := bounds_u64 wc
  unfold nm3
  omega
end Go.Proofs.YtpmidldnomleoaaDoor
