/-
  Regions that draw, operation by operation.
-/
import Derived.Test.YtaifihfiompgaaaEWalkA
import Derived.RegionTactic
set_option linter.unusedVariables false
set_option linter.unusedSimpArgs false
namespace Go.Proofs.Ytaifihfiompgaaa
theorem ready_cons {P : Program} {ops : Array Oper} {Q : Exit → Act → World → Prop} {md : Region.Mode} {fuel : Nat} {listed : Array Bool} {a : Act} {w : World} {i : Nat} {rs : List Nat} (h : wpOp P ops Q i (wpAny P md ops Q fuel (listed.setIfInBounds i true)) a w) (hs : AllReady P md ops Q fuel listed a w rs) : AllReady P md ops Q fuel listed a w (i :: rs) := fun j hj => by
  rcases List.mem_cons.1 hj with rfl | hj
  · exact h
  · exact hs j hj
/-- An operation that yields a value and turns nothing. -/
theorem op_val {P : Program} {ops : Array Oper} {Q : Exit → Act → World → Prop} {i : Nat} {o : Oper} {v : Value} {K : Act → World → Prop} {a : Act} {w : World} (ho : ops[i]? = some o) (hw : Region.wanted o (yielded ops a.tmps) = true) (hy : (execOp a.eval o).run P w = .ok (.value v) w) (h : K (a.put o.dst v) w) : wpOp P ops Q i K a w :=
  wpOp_step ho (fun K' hK => by rw [if_pos hw]; unfold Oper.wp; rw [hy]; exact hK _ _ h)
/-- An operation that turns the world. -/
theorem op_skip {P : Program} {ops : Array Oper} {Q : Exit → Act → World → Prop} {i : Nat} {o : Oper} {K : Act → World → Prop} {a : Act} {w w' : World} (ho : ops[i]? = some o) (hw : Region.wanted o (yielded ops a.tmps) = true) (hy : (execOp a.eval o).run P w = .ok .skip w') (h : K (a.put o.dst undef) w') : wpOp P ops Q i K a w :=
  wpOp_step ho (fun K' hK => by rw [if_pos hw]; unfold Oper.wp; rw [hy]; exact hK _ _ h)
/-- The address of a list's cell. -/
theorem run_idx {o : Oper} {a : Act} {w : World} {x y g j q cap : Nat} (ho : o.op = .indexAddr 26 (.tmp x) (.tmp y)) (hx : a.eval (.tmp x) = .slice (some ⟨g, 0, none⟩) j cap) (hy : a.eval (.tmp y) = .int .i64 (q : Int)) (hq : q < j) : (execOp a.eval o).run Try.prog w = .ok (.value (.pointer (some ⟨g, q, none⟩))) w := by
  obtain ⟨d, op, ty, po, af, gu⟩ := o
  simp only at ho
  subst ho
  have hqI : (q : Int) < (j : Int) := by omega
  simp only [execOp, hx, hy]
  go_simp
/-- A load of a whole number. -/
theorem run_ldi {o : Oper} {a : Act} {w : World} {x : Nat} {p : Addr} {v : Int} (ho : o.op = .load 3 (.tmp x)) (hx : a.eval (.tmp x) = .pointer (some p)) (hc : w.cell? p = some (.int .i64 v)) : (execOp a.eval o).run Try.prog w = .ok (.value (.int .i64 v)) w := by
  obtain ⟨d, op, ty, po, af, gu⟩ := o
  simp only at ho
  subst ho
  simp only [execOp, hx]
  go_simp
/-- A store of a whole number. -/
theorem run_sti {o : Oper} {a : Act} {w : World} {x y : Nat} {p : Addr} {u : Value} {v : Int} (ho : o.op = .store 3 (.tmp x) (.tmp y)) (hx : a.eval (.tmp x) = .pointer (some p)) (hy : a.eval (.tmp y) = .int .i64 v) (hc : w.cell? p = some u) (hf : w.frozen? p = false) : (execOp a.eval o).run Try.prog w = .ok .skip (w.setCell p (.int .i64 v)) := by
  obtain ⟨d, op, ty, po, af, gu⟩ := o
  simp only at ho
  subst ho
  simp only [execOp, hx, hy]
  go_simp
end Go.Proofs.Ytaifihfiompgaaa
