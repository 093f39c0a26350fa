/-
  An argument that is a key, opened.
-/
import Derived.Test.YtaifihfiompgaaaFFrame
import Derived.Test.YtaifihfiompgaaaVFrame
import Derived.Test.YtaifihfiompgaaaEWalkA
set_option linter.unusedVariables false
namespace Go.Proofs.Ytaifihfiompgaaa
open Go.ChangeShapes Go.WideShapes Go.ChangeAt Go.RowKit Go.Joins

theorem cellsKa : Try.prog.cellsOf 51 = 4 := by kernel_rfl
theorem bounds_u64' {x : Int} (h : (Lit.int .u64 x).wf = true) : 0 ≤ x ∧ x ≤ 18446744073709551615 := by
  simp [Lit.wf, IntKind.min, IntKind.max, IntKind.bits, IntKind.signed] at h
  omega
set_option maxRecDepth 100000 in
theorem open_key {H : Type} {enc : TypeId × Value → H} {w : World} {r : Reach} {b0 : Nat} {v : Value} {d : DataW H} {p : List MemPlace}
    (hv : Value.okWide Try.prog w r b0 51 v) (h : DataW.Trod enc Try.prog w 0 (fun _ => true) true 51 v d p) :
    ∃ (s : Nat) (a b c : Int), v = .agg #[.int .u64 (s : Int), .int .i64 a, .int .i64 b, .int .i64 c] ∧ Ky s a b c := by
  obtain ⟨c0, c1, c2, c3, y0, y1, y2, y3, m, rfl, rfl, rfl, hy0, hy1, hy2, hy3⟩ := open_agg4 Try.underlying51 (by kernel_rfl) cellsKa hv h
  obtain ⟨s, e0, -, ws⟩ := DataW.trod_int Try.underlying22 hy0
  obtain ⟨a, e1, -, wa⟩ := DataW.trod_int Try.underlying3 hy1
  obtain ⟨b, e2, -, wb⟩ := DataW.trod_int Try.underlying3 hy2
  obtain ⟨c, e3, -, wc⟩ := DataW.trod_int Try.underlying3 hy3
  simp at e0 e1 e2 e3
  subst e0 e1 e2 e3
  obtain ⟨s0, s1⟩ := bounds_u64' ws
  obtain ⟨S, rfl⟩ : ∃ S : Nat, s = (S : Int) := ⟨s.toNat, by omega⟩
  exact ⟨S, a, b, c, rfl, ⟨by omega, (bounds_i64 wa).1, (bounds_i64 wa).2, (bounds_i64 wb).1, (bounds_i64 wb).2, (bounds_i64 wc).1, (bounds_i64 wc).2⟩⟩
end Go.Proofs.Ytaifihfiompgaaa
