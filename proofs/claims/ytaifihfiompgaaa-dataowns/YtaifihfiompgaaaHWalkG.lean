/-
  The contract of slices.Reverse over four rounds.
-/
import Derived.Test.YtaifihfiompgaaaHWalkF
import Derived.Laws.EntriesVeiled
set_option linter.unusedVariables false
set_option linter.unusedSimpArgs false
namespace Go.Proofs.Ytaifihfiompgaaa
open Go.RowKit

theorem own_set {w : World} {base : Nat} {e : TypeId} {g n cap : Nat} {xs : List Value} (h : w.ownsRow base e 1 (.slice (some ⟨g, 0, none⟩) n cap) n xs) (i : Nat) (u : Value) : (w.setCell ⟨g, i, none⟩ u).ownsRow base e 1 (.slice (some ⟨g, 0, none⟩) n cap) n (xs.set i u) := by
  refine ⟨by rw [List.length_set]; exact h.1, ?_⟩
  rcases h.2 with ⟨h', _⟩ | ⟨g', cap', cur, h', hb, hg, h1, h2, h3, h4⟩
  · cases h'
  · cases h'
    refine Or.inr ⟨g, cap, cur.setIfInBounds i u, rfl, hb, heap_setCell_same w g i cur e u hg, h1, h2, by rw [Array.size_setIfInBounds]; exact h3, ?_⟩
    rw [Array.toList_setIfInBounds, List.take_set, h4]
/-- The address of a cell of a list that begins at the second one. -/
theorem run_idxr {o : Oper} {a : Act} {w : World} {x y g q c : Nat} (ho : o.op = .indexAddr 62 (.tmp x) (.tmp y)) (hx : a.eval (.tmp x) = .slice (some ⟨g, 1, none⟩) 4 c) (hy : a.eval (.tmp y) = .int .i64 (q : Int)) (hq : q < 4) : (execOp a.eval o).run Try.prog w = .ok (.value (.pointer (some ⟨g, 1 + q, none⟩))) w := by
  obtain ⟨d, op, ty, po, af, gu⟩ := o
  simp only at ho
  subst ho
  have hqI : (q : Int) < 4 := by omega
  simp only [execOp, hx, hy]
  go_simp
/-- A load of a round. -/
theorem run_ldr {o : Oper} {a : Act} {w : World} {x : Nat} {p : Addr} {v : Value} (ho : o.op = .load 71 (.tmp x)) (hx : a.eval (.tmp x) = .pointer (some p)) (hc : w.cell? p = some v) : (execOp a.eval o).run Try.prog w = .ok (.value v) w := by
  obtain ⟨d, op, ty, po, af, gu⟩ := o
  simp only at ho
  subst ho
  simp only [execOp, hx]
  go_simp
/-- A store of a round. -/
theorem run_str {o : Oper} {a : Act} {w : World} {x y : Nat} {p : Addr} {u : Value} {f : Fn} {p1 q1 : Array Value} (ho : o.op = .store 71 (.tmp x) (.tmp y)) (hx : a.eval (.tmp x) = .pointer (some p)) (hy : a.eval (.tmp y) = .func f p1 q1) (hc : w.cell? p = some u) (hf : w.frozen? p = false) : (execOp a.eval o).run Try.prog w = .ok .skip (w.setCell p (.func f p1 q1)) := by
  obtain ⟨d, op, ty, po, af, gu⟩ := o
  simp only at ho
  subst ho
  simp only [execOp, hx, hy]
  go_simp
set_option maxRecDepth 100000 in
set_option maxHeartbeats 4000000 in
theorem reverse_any (g cap c B : Nat) (bb : Value) (f0 f1 f2 f3 : Fn) (p0 q0 p1 q1 p2 q2 p3 q3 : Array Value) (w : World) (hgB : B ≤ g) (hown : w.ownsRow B 71 1 (.slice (some ⟨g, 0, none⟩) 5 cap) 5 [bb, .func f0 p0 q0, .func f1 p1 q1, .func f2 p2 q2, .func f3 p3 q3]) :
    Calls Try.prog 36 #[.slice (some ⟨g, 1, none⟩) 4 c] w fun e w' => e = .returned (.tuple #[]) ∧ w'.ownsRow B 71 1 (.slice (some ⟨g, 0, none⟩) 5 cap) 5 [bb, .func f3 p3 q3, .func f2 p2 q2, .func f1 p1 q1, .func f0 p0 q0] ∧ Below B w w' := by
  have H0 : Hid (w.ownsRow B 71 1 (.slice (some ⟨g, 0, none⟩) 5 cap) 5 [bb, .func f0 p0 q0, .func f1 p1 q1, .func f2 p2 q2, .func f3 p3 q3]) := hown
  clear hown
  go_enter Try.func36, Try.ntmps36
  go_upto_region 1 with fail
  go_loopw [2, 3] (fun s2 s3 wr => ((s2 = .int .i64 0 ∧ s3 = .int .i64 3 ∧ Hid (wr.ownsRow B 71 1 (.slice (some ⟨g, 0, none⟩) 5 cap) 5 [bb, .func f0 p0 q0, .func f1 p1 q1, .func f2 p2 q2, .func f3 p3 q3])) ∨ (s2 = .int .i64 1 ∧ s3 = .int .i64 2 ∧ Hid (wr.ownsRow B 71 1 (.slice (some ⟨g, 0, none⟩) 5 cap) 5 [bb, .func f3 p3 q3, .func f1 p1 q1, .func f2 p2 q2, .func f0 p0 q0])) ∨ (s2 = .int .i64 2 ∧ s3 = .int .i64 1 ∧ Hid (wr.ownsRow B 71 1 (.slice (some ⟨g, 0, none⟩) 5 cap) 5 [bb, .func f3 p3 q3, .func f2 p2 q2, .func f1 p1 q1, .func f0 p0 q0]))) ∧ Hid (Below B w wr)) (fun s2 _ _ => 3 - (intOf s2).toNat)
  case atStart => exact ⟨Or.inl ⟨rfl, rfl, H0⟩, Below.refl _ _⟩
  case round =>
    obtain ⟨h, HW⟩ := hrel
    clear H0
    rcases h with ⟨rfl, rfl, HO⟩ | ⟨rfl, rfl, HO⟩ | ⟨rfl, rfl, HO⟩
    · skip
      have hD : wr.drew.ownsRow B 71 1 (.slice (some ⟨g, 0, none⟩) 5 cap) 5 [bb, .func f0 p0 q0, .func f1 p1 q1, .func f2 p2 q2, .func f3 p3 q3] := own_later HO.out ((Below.refl _ _).drew)
      have ci : wr.drew.cell? ⟨g, 1, none⟩ = some (.func f0 p0 q0) := hD.cellAt 1 (by omega)
      have cq : wr.drew.cell? ⟨g, 4, none⟩ = some (.func f3 p3 q3) := hD.cellAt 4 (by omega)
      have fi : wr.drew.frozen? ⟨g, 1, none⟩ = false := hD.frozenAt 1
      have hE := own_set hD 1 (.func f3 p3 q3)
      have cc2 : (wr.drew.setCell ⟨g, 1, none⟩ (.func f3 p3 q3)).cell? ⟨g, 4, none⟩ = some (.func f3 p3 q3) := hE.cellAt 4 (by omega)
      have ff2 : (wr.drew.setCell ⟨g, 1, none⟩ (.func f3 p3 q3)).frozen? ⟨g, 4, none⟩ = false := hE.frozenAt 4
      have HO2 : Hid (((wr.drew.setCell ⟨g, 1, none⟩ (.func f3 p3 q3)).setCell ⟨g, 4, none⟩ (.func f0 p0 q0)).ownsRow B 71 1 (.slice (some ⟨g, 0, none⟩) 5 cap) 5 [bb, .func f3 p3 q3, .func f1 p1 q1, .func f2 p2 q2, .func f0 p0 q0]) := own_set hE 4 (.func f0 p0 q0)
      have HW2 : Hid (Below B w ((wr.drew.setCell ⟨g, 1, none⟩ (.func f3 p3 q3)).setCell ⟨g, 4, none⟩ (.func f0 p0 q0))) := (HW.out.drew.setCell hgB _).setCell hgB _
      clear hD hE HO HW
      go_wp2_with fail
      refine wp_region_any (by kernel_rfl) ?_
      change wpAny _ _ _ _ _ _ _ (World.drew _)
      generalize wr.drew = wy at *
      refine wpAny_take (i := 0) (v := ?v1) rfl (by kernel_rfl) (by kernel_rfl) (by kernel_rfl) (fun _ _ _ h => h) (Or.inl ⟨by kernel_rfl, ?h1⟩) ?r1
      case h1 => (intro w; go_simp) <;> with_reducible rfl
      refine wpAny_take (i := 1) (v := ?v2) rfl (by kernel_rfl) (by kernel_rfl) (by kernel_rfl) (fun _ _ _ h => h) (Or.inl ⟨by kernel_rfl, ?h2⟩) ?r2
      case h2 => (intro w; go_simp) <;> with_reducible rfl
      refine wpAny_take (i := 2) (v := ?v3) rfl (by kernel_rfl) (by kernel_rfl) (by kernel_rfl) (fun _ _ _ h => h) (Or.inl ⟨by kernel_rfl, ?h3⟩) ?r3
      case h3 => (intro w; go_simp) <;> with_reducible rfl
      go_simp
      refine wpAny_take (i := 3) (v := ?v4) rfl (by kernel_rfl) (by kernel_rfl) (by kernel_rfl) (fun _ _ _ h => h) (Or.inl ⟨by kernel_rfl, ?h4⟩) ?r4
      case h4 => (intro w; go_simp) <;> with_reducible rfl
      refine wpAny_take (i := 4) (v := ?v5) rfl (by kernel_rfl) (by kernel_rfl) (by kernel_rfl) (fun _ _ _ h => h) (Or.inl ⟨by kernel_rfl, ?h5⟩) ?r5
      case h5 => (intro w; go_simp) <;> with_reducible rfl
      refine wpAny_take (i := 5) (v := ?v6) rfl (by kernel_rfl) (by kernel_rfl) (by kernel_rfl) (fun _ _ _ h => h) (Or.inl ⟨by kernel_rfl, ?h6⟩) ?r6
      case h6 => (intro w; go_simp) <;> with_reducible rfl
      go_simp
      refine wpAny_take (i := 8) (v := ?v7) rfl (by kernel_rfl) (by kernel_rfl) (by kernel_rfl) (fun _ _ _ h => h) (Or.inl ⟨by kernel_rfl, ?h7⟩) ?r7
      case h7 => (intro w; go_simp) <;> with_reducible rfl
      refine wpAny_take (i := 9) (v := ?v8) rfl (by kernel_rfl) (by kernel_rfl) (by kernel_rfl) (fun _ _ _ h => h) (Or.inl ⟨by kernel_rfl, ?h8⟩) ?r8
      case h8 => (intro w; go_simp) <;> with_reducible rfl
      go_simp
      refine wpAny_ready (rs := [6, 10]) (by kernel_rfl) (by simp) (ready_cons ?_ (ready_cons ?_ AllReady.nil))
      · refine op_val (v := .pointer (some ⟨g, 4, none⟩)) rfl (by kernel_rfl) (run_idxr (x := 18) (y := 19) (q := 3) (c := c) rfl (by kernel_rfl) (by kernel_rfl) (by omega)) ?_
        refine wpAny_ready (rs := [7, 10]) (by kernel_rfl) (by simp) (ready_cons ?_ (ready_cons ?_ AllReady.nil))
        · refine op_val (v := .func f3 p3 q3) rfl (by kernel_rfl) (run_ldr (x := 20) (p := ⟨g, 4, none⟩) rfl (by kernel_rfl) cq) ?_
          refine wpAny_ready (rs := [10]) (by kernel_rfl) (by simp) (ready_cons ?_ AllReady.nil)
          refine op_val (v := .pointer (some ⟨g, 1, none⟩)) rfl (by kernel_rfl) (run_idxr (x := 22) (y := 23) (q := 0) (c := c) rfl (by kernel_rfl) (by kernel_rfl) (by omega)) ?_
          refine wpAny_ready (rs := [11]) (by kernel_rfl) (by simp) (ready_cons ?_ AllReady.nil)
          refine op_val (v := .func f0 p0 q0) rfl (by kernel_rfl) (run_ldr (x := 24) (p := ⟨g, 1, none⟩) rfl (by kernel_rfl) ci) ?_
          go_simp
          refine wpAny_ready (rs := [12]) (by kernel_rfl) (by simp) (ready_cons ?_ AllReady.nil)
          refine op_val (v := .pointer (some ⟨g, 1, none⟩)) rfl (by kernel_rfl) (run_idxr (x := 14) (y := 15) (q := 0) (c := c) rfl (by kernel_rfl) (by kernel_rfl) (by omega)) ?_
          refine wpAny_ready (rs := [13]) (by kernel_rfl) (by simp) (ready_cons ?_ AllReady.nil)
          refine op_skip rfl (by kernel_rfl) (run_str (x := 26) (y := 21) (p := ⟨g, 1, none⟩) (f := f3) (p1 := p3) (q1 := q3) rfl (by kernel_rfl) (by kernel_rfl) ci fi) ?_
          generalize wy.setCell ⟨g, 1, none⟩ (.func f3 p3 q3) = wA at *
          refine wpAny_ready (rs := [14]) (by kernel_rfl) (by simp) (ready_cons ?_ AllReady.nil)
          refine op_val (v := .pointer (some ⟨g, 4, none⟩)) rfl (by kernel_rfl) (run_idxr (x := 16) (y := 17) (q := 3) (c := c) rfl (by kernel_rfl) (by kernel_rfl) (by omega)) ?_
          refine wpAny_ready (rs := [15]) (by kernel_rfl) (by simp) (ready_cons ?_ AllReady.nil)
          refine op_skip rfl (by kernel_rfl) (run_str (x := 27) (y := 25) (p := ⟨g, 4, none⟩) (f := f0) (p1 := p0) (q1 := q0) rfl (by kernel_rfl) (by kernel_rfl) cc2 ff2) ?_
          generalize wA.setCell ⟨g, 4, none⟩ (.func f0 p0 q0) = wB at *
          go_simp
          refine wpAny_done (by kernel_rfl) ?_ _
          go_wp2
          go_roundw
          case rel => exact ⟨Or.inr (Or.inl ⟨by go_num, by go_num, HO2⟩), HW2⟩
          case measure => simp [intOf]
        · refine op_val (v := .pointer (some ⟨g, 1, none⟩)) rfl (by kernel_rfl) (run_idxr (x := 22) (y := 23) (q := 0) (c := c) rfl (by kernel_rfl) (by kernel_rfl) (by omega)) ?_
          refine wpAny_ready (rs := [7, 11]) (by kernel_rfl) (by simp) (ready_cons ?_ (ready_cons ?_ AllReady.nil))
          · refine op_val (v := .func f3 p3 q3) rfl (by kernel_rfl) (run_ldr (x := 20) (p := ⟨g, 4, none⟩) rfl (by kernel_rfl) cq) ?_
            refine wpAny_ready (rs := [11]) (by kernel_rfl) (by simp) (ready_cons ?_ AllReady.nil)
            refine op_val (v := .func f0 p0 q0) rfl (by kernel_rfl) (run_ldr (x := 24) (p := ⟨g, 1, none⟩) rfl (by kernel_rfl) ci) ?_
            go_simp
            refine wpAny_ready (rs := [12]) (by kernel_rfl) (by simp) (ready_cons ?_ AllReady.nil)
            refine op_val (v := .pointer (some ⟨g, 1, none⟩)) rfl (by kernel_rfl) (run_idxr (x := 14) (y := 15) (q := 0) (c := c) rfl (by kernel_rfl) (by kernel_rfl) (by omega)) ?_
            refine wpAny_ready (rs := [13]) (by kernel_rfl) (by simp) (ready_cons ?_ AllReady.nil)
            refine op_skip rfl (by kernel_rfl) (run_str (x := 26) (y := 21) (p := ⟨g, 1, none⟩) (f := f3) (p1 := p3) (q1 := q3) rfl (by kernel_rfl) (by kernel_rfl) ci fi) ?_
            generalize wy.setCell ⟨g, 1, none⟩ (.func f3 p3 q3) = wA at *
            refine wpAny_ready (rs := [14]) (by kernel_rfl) (by simp) (ready_cons ?_ AllReady.nil)
            refine op_val (v := .pointer (some ⟨g, 4, none⟩)) rfl (by kernel_rfl) (run_idxr (x := 16) (y := 17) (q := 3) (c := c) rfl (by kernel_rfl) (by kernel_rfl) (by omega)) ?_
            refine wpAny_ready (rs := [15]) (by kernel_rfl) (by simp) (ready_cons ?_ AllReady.nil)
            refine op_skip rfl (by kernel_rfl) (run_str (x := 27) (y := 25) (p := ⟨g, 4, none⟩) (f := f0) (p1 := p0) (q1 := q0) rfl (by kernel_rfl) (by kernel_rfl) cc2 ff2) ?_
            generalize wA.setCell ⟨g, 4, none⟩ (.func f0 p0 q0) = wB at *
            go_simp
            refine wpAny_done (by kernel_rfl) ?_ _
            go_wp2
            go_roundw
            case rel => exact ⟨Or.inr (Or.inl ⟨by go_num, by go_num, HO2⟩), HW2⟩
            case measure => simp [intOf]
          · refine op_val (v := .func f0 p0 q0) rfl (by kernel_rfl) (run_ldr (x := 24) (p := ⟨g, 1, none⟩) rfl (by kernel_rfl) ci) ?_
            refine wpAny_ready (rs := [7]) (by kernel_rfl) (by simp) (ready_cons ?_ AllReady.nil)
            refine op_val (v := .func f3 p3 q3) rfl (by kernel_rfl) (run_ldr (x := 20) (p := ⟨g, 4, none⟩) rfl (by kernel_rfl) cq) ?_
            go_simp
            refine wpAny_ready (rs := [12]) (by kernel_rfl) (by simp) (ready_cons ?_ AllReady.nil)
            refine op_val (v := .pointer (some ⟨g, 1, none⟩)) rfl (by kernel_rfl) (run_idxr (x := 14) (y := 15) (q := 0) (c := c) rfl (by kernel_rfl) (by kernel_rfl) (by omega)) ?_
            refine wpAny_ready (rs := [13]) (by kernel_rfl) (by simp) (ready_cons ?_ AllReady.nil)
            refine op_skip rfl (by kernel_rfl) (run_str (x := 26) (y := 21) (p := ⟨g, 1, none⟩) (f := f3) (p1 := p3) (q1 := q3) rfl (by kernel_rfl) (by kernel_rfl) ci fi) ?_
            generalize wy.setCell ⟨g, 1, none⟩ (.func f3 p3 q3) = wA at *
            refine wpAny_ready (rs := [14]) (by kernel_rfl) (by simp) (ready_cons ?_ AllReady.nil)
            refine op_val (v := .pointer (some ⟨g, 4, none⟩)) rfl (by kernel_rfl) (run_idxr (x := 16) (y := 17) (q := 3) (c := c) rfl (by kernel_rfl) (by kernel_rfl) (by omega)) ?_
            refine wpAny_ready (rs := [15]) (by kernel_rfl) (by simp) (ready_cons ?_ AllReady.nil)
            refine op_skip rfl (by kernel_rfl) (run_str (x := 27) (y := 25) (p := ⟨g, 4, none⟩) (f := f0) (p1 := p0) (q1 := q0) rfl (by kernel_rfl) (by kernel_rfl) cc2 ff2) ?_
            generalize wA.setCell ⟨g, 4, none⟩ (.func f0 p0 q0) = wB at *
            go_simp
            refine wpAny_done (by kernel_rfl) ?_ _
            go_wp2
            go_roundw
            case rel => exact ⟨Or.inr (Or.inl ⟨by go_num, by go_num, HO2⟩), HW2⟩
            case measure => simp [intOf]
      · refine op_val (v := .pointer (some ⟨g, 1, none⟩)) rfl (by kernel_rfl) (run_idxr (x := 22) (y := 23) (q := 0) (c := c) rfl (by kernel_rfl) (by kernel_rfl) (by omega)) ?_
        refine wpAny_ready (rs := [6, 11]) (by kernel_rfl) (by simp) (ready_cons ?_ (ready_cons ?_ AllReady.nil))
        · refine op_val (v := .pointer (some ⟨g, 4, none⟩)) rfl (by kernel_rfl) (run_idxr (x := 18) (y := 19) (q := 3) (c := c) rfl (by kernel_rfl) (by kernel_rfl) (by omega)) ?_
          refine wpAny_ready (rs := [7, 11]) (by kernel_rfl) (by simp) (ready_cons ?_ (ready_cons ?_ AllReady.nil))
          · refine op_val (v := .func f3 p3 q3) rfl (by kernel_rfl) (run_ldr (x := 20) (p := ⟨g, 4, none⟩) rfl (by kernel_rfl) cq) ?_
            refine wpAny_ready (rs := [11]) (by kernel_rfl) (by simp) (ready_cons ?_ AllReady.nil)
            refine op_val (v := .func f0 p0 q0) rfl (by kernel_rfl) (run_ldr (x := 24) (p := ⟨g, 1, none⟩) rfl (by kernel_rfl) ci) ?_
            go_simp
            refine wpAny_ready (rs := [12]) (by kernel_rfl) (by simp) (ready_cons ?_ AllReady.nil)
            refine op_val (v := .pointer (some ⟨g, 1, none⟩)) rfl (by kernel_rfl) (run_idxr (x := 14) (y := 15) (q := 0) (c := c) rfl (by kernel_rfl) (by kernel_rfl) (by omega)) ?_
            refine wpAny_ready (rs := [13]) (by kernel_rfl) (by simp) (ready_cons ?_ AllReady.nil)
            refine op_skip rfl (by kernel_rfl) (run_str (x := 26) (y := 21) (p := ⟨g, 1, none⟩) (f := f3) (p1 := p3) (q1 := q3) rfl (by kernel_rfl) (by kernel_rfl) ci fi) ?_
            generalize wy.setCell ⟨g, 1, none⟩ (.func f3 p3 q3) = wA at *
            refine wpAny_ready (rs := [14]) (by kernel_rfl) (by simp) (ready_cons ?_ AllReady.nil)
            refine op_val (v := .pointer (some ⟨g, 4, none⟩)) rfl (by kernel_rfl) (run_idxr (x := 16) (y := 17) (q := 3) (c := c) rfl (by kernel_rfl) (by kernel_rfl) (by omega)) ?_
            refine wpAny_ready (rs := [15]) (by kernel_rfl) (by simp) (ready_cons ?_ AllReady.nil)
            refine op_skip rfl (by kernel_rfl) (run_str (x := 27) (y := 25) (p := ⟨g, 4, none⟩) (f := f0) (p1 := p0) (q1 := q0) rfl (by kernel_rfl) (by kernel_rfl) cc2 ff2) ?_
            generalize wA.setCell ⟨g, 4, none⟩ (.func f0 p0 q0) = wB at *
            go_simp
            refine wpAny_done (by kernel_rfl) ?_ _
            go_wp2
            go_roundw
            case rel => exact ⟨Or.inr (Or.inl ⟨by go_num, by go_num, HO2⟩), HW2⟩
            case measure => simp [intOf]
          · refine op_val (v := .func f0 p0 q0) rfl (by kernel_rfl) (run_ldr (x := 24) (p := ⟨g, 1, none⟩) rfl (by kernel_rfl) ci) ?_
            refine wpAny_ready (rs := [7]) (by kernel_rfl) (by simp) (ready_cons ?_ AllReady.nil)
            refine op_val (v := .func f3 p3 q3) rfl (by kernel_rfl) (run_ldr (x := 20) (p := ⟨g, 4, none⟩) rfl (by kernel_rfl) cq) ?_
            go_simp
            refine wpAny_ready (rs := [12]) (by kernel_rfl) (by simp) (ready_cons ?_ AllReady.nil)
            refine op_val (v := .pointer (some ⟨g, 1, none⟩)) rfl (by kernel_rfl) (run_idxr (x := 14) (y := 15) (q := 0) (c := c) rfl (by kernel_rfl) (by kernel_rfl) (by omega)) ?_
            refine wpAny_ready (rs := [13]) (by kernel_rfl) (by simp) (ready_cons ?_ AllReady.nil)
            refine op_skip rfl (by kernel_rfl) (run_str (x := 26) (y := 21) (p := ⟨g, 1, none⟩) (f := f3) (p1 := p3) (q1 := q3) rfl (by kernel_rfl) (by kernel_rfl) ci fi) ?_
            generalize wy.setCell ⟨g, 1, none⟩ (.func f3 p3 q3) = wA at *
            refine wpAny_ready (rs := [14]) (by kernel_rfl) (by simp) (ready_cons ?_ AllReady.nil)
            refine op_val (v := .pointer (some ⟨g, 4, none⟩)) rfl (by kernel_rfl) (run_idxr (x := 16) (y := 17) (q := 3) (c := c) rfl (by kernel_rfl) (by kernel_rfl) (by omega)) ?_
            refine wpAny_ready (rs := [15]) (by kernel_rfl) (by simp) (ready_cons ?_ AllReady.nil)
            refine op_skip rfl (by kernel_rfl) (run_str (x := 27) (y := 25) (p := ⟨g, 4, none⟩) (f := f0) (p1 := p0) (q1 := q0) rfl (by kernel_rfl) (by kernel_rfl) cc2 ff2) ?_
            generalize wA.setCell ⟨g, 4, none⟩ (.func f0 p0 q0) = wB at *
            go_simp
            refine wpAny_done (by kernel_rfl) ?_ _
            go_wp2
            go_roundw
            case rel => exact ⟨Or.inr (Or.inl ⟨by go_num, by go_num, HO2⟩), HW2⟩
            case measure => simp [intOf]
        · refine op_val (v := .func f0 p0 q0) rfl (by kernel_rfl) (run_ldr (x := 24) (p := ⟨g, 1, none⟩) rfl (by kernel_rfl) ci) ?_
          refine wpAny_ready (rs := [6]) (by kernel_rfl) (by simp) (ready_cons ?_ AllReady.nil)
          refine op_val (v := .pointer (some ⟨g, 4, none⟩)) rfl (by kernel_rfl) (run_idxr (x := 18) (y := 19) (q := 3) (c := c) rfl (by kernel_rfl) (by kernel_rfl) (by omega)) ?_
          refine wpAny_ready (rs := [7]) (by kernel_rfl) (by simp) (ready_cons ?_ AllReady.nil)
          refine op_val (v := .func f3 p3 q3) rfl (by kernel_rfl) (run_ldr (x := 20) (p := ⟨g, 4, none⟩) rfl (by kernel_rfl) cq) ?_
          go_simp
          refine wpAny_ready (rs := [12]) (by kernel_rfl) (by simp) (ready_cons ?_ AllReady.nil)
          refine op_val (v := .pointer (some ⟨g, 1, none⟩)) rfl (by kernel_rfl) (run_idxr (x := 14) (y := 15) (q := 0) (c := c) rfl (by kernel_rfl) (by kernel_rfl) (by omega)) ?_
          refine wpAny_ready (rs := [13]) (by kernel_rfl) (by simp) (ready_cons ?_ AllReady.nil)
          refine op_skip rfl (by kernel_rfl) (run_str (x := 26) (y := 21) (p := ⟨g, 1, none⟩) (f := f3) (p1 := p3) (q1 := q3) rfl (by kernel_rfl) (by kernel_rfl) ci fi) ?_
          generalize wy.setCell ⟨g, 1, none⟩ (.func f3 p3 q3) = wA at *
          refine wpAny_ready (rs := [14]) (by kernel_rfl) (by simp) (ready_cons ?_ AllReady.nil)
          refine op_val (v := .pointer (some ⟨g, 4, none⟩)) rfl (by kernel_rfl) (run_idxr (x := 16) (y := 17) (q := 3) (c := c) rfl (by kernel_rfl) (by kernel_rfl) (by omega)) ?_
          refine wpAny_ready (rs := [15]) (by kernel_rfl) (by simp) (ready_cons ?_ AllReady.nil)
          refine op_skip rfl (by kernel_rfl) (run_str (x := 27) (y := 25) (p := ⟨g, 4, none⟩) (f := f0) (p1 := p0) (q1 := q0) rfl (by kernel_rfl) (by kernel_rfl) cc2 ff2) ?_
          generalize wA.setCell ⟨g, 4, none⟩ (.func f0 p0 q0) = wB at *
          go_simp
          refine wpAny_done (by kernel_rfl) ?_ _
          go_wp2
          go_roundw
          case rel => exact ⟨Or.inr (Or.inl ⟨by go_num, by go_num, HO2⟩), HW2⟩
          case measure => simp [intOf]
    · skip
      have hD : wr.drew.ownsRow B 71 1 (.slice (some ⟨g, 0, none⟩) 5 cap) 5 [bb, .func f3 p3 q3, .func f1 p1 q1, .func f2 p2 q2, .func f0 p0 q0] := own_later HO.out ((Below.refl _ _).drew)
      have ci : wr.drew.cell? ⟨g, 2, none⟩ = some (.func f1 p1 q1) := hD.cellAt 2 (by omega)
      have cq : wr.drew.cell? ⟨g, 3, none⟩ = some (.func f2 p2 q2) := hD.cellAt 3 (by omega)
      have fi : wr.drew.frozen? ⟨g, 2, none⟩ = false := hD.frozenAt 2
      have hE := own_set hD 2 (.func f2 p2 q2)
      have cc2 : (wr.drew.setCell ⟨g, 2, none⟩ (.func f2 p2 q2)).cell? ⟨g, 3, none⟩ = some (.func f2 p2 q2) := hE.cellAt 3 (by omega)
      have ff2 : (wr.drew.setCell ⟨g, 2, none⟩ (.func f2 p2 q2)).frozen? ⟨g, 3, none⟩ = false := hE.frozenAt 3
      have HO2 : Hid (((wr.drew.setCell ⟨g, 2, none⟩ (.func f2 p2 q2)).setCell ⟨g, 3, none⟩ (.func f1 p1 q1)).ownsRow B 71 1 (.slice (some ⟨g, 0, none⟩) 5 cap) 5 [bb, .func f3 p3 q3, .func f2 p2 q2, .func f1 p1 q1, .func f0 p0 q0]) := own_set hE 3 (.func f1 p1 q1)
      have HW2 : Hid (Below B w ((wr.drew.setCell ⟨g, 2, none⟩ (.func f2 p2 q2)).setCell ⟨g, 3, none⟩ (.func f1 p1 q1))) := (HW.out.drew.setCell hgB _).setCell hgB _
      clear hD hE HO HW
      go_wp2_with fail
      refine wp_region_any (by kernel_rfl) ?_
      change wpAny _ _ _ _ _ _ _ (World.drew _)
      generalize wr.drew = wy at *
      refine wpAny_take (i := 0) (v := ?v9) rfl (by kernel_rfl) (by kernel_rfl) (by kernel_rfl) (fun _ _ _ h => h) (Or.inl ⟨by kernel_rfl, ?h9⟩) ?r9
      case h9 => (intro w; go_simp) <;> with_reducible rfl
      refine wpAny_take (i := 1) (v := ?v10) rfl (by kernel_rfl) (by kernel_rfl) (by kernel_rfl) (fun _ _ _ h => h) (Or.inl ⟨by kernel_rfl, ?h10⟩) ?r10
      case h10 => (intro w; go_simp) <;> with_reducible rfl
      refine wpAny_take (i := 2) (v := ?v11) rfl (by kernel_rfl) (by kernel_rfl) (by kernel_rfl) (fun _ _ _ h => h) (Or.inl ⟨by kernel_rfl, ?h11⟩) ?r11
      case h11 => (intro w; go_simp) <;> with_reducible rfl
      go_simp
      refine wpAny_take (i := 3) (v := ?v12) rfl (by kernel_rfl) (by kernel_rfl) (by kernel_rfl) (fun _ _ _ h => h) (Or.inl ⟨by kernel_rfl, ?h12⟩) ?r12
      case h12 => (intro w; go_simp) <;> with_reducible rfl
      refine wpAny_take (i := 4) (v := ?v13) rfl (by kernel_rfl) (by kernel_rfl) (by kernel_rfl) (fun _ _ _ h => h) (Or.inl ⟨by kernel_rfl, ?h13⟩) ?r13
      case h13 => (intro w; go_simp) <;> with_reducible rfl
      refine wpAny_take (i := 5) (v := ?v14) rfl (by kernel_rfl) (by kernel_rfl) (by kernel_rfl) (fun _ _ _ h => h) (Or.inl ⟨by kernel_rfl, ?h14⟩) ?r14
      case h14 => (intro w; go_simp) <;> with_reducible rfl
      go_simp
      refine wpAny_take (i := 8) (v := ?v15) rfl (by kernel_rfl) (by kernel_rfl) (by kernel_rfl) (fun _ _ _ h => h) (Or.inl ⟨by kernel_rfl, ?h15⟩) ?r15
      case h15 => (intro w; go_simp) <;> with_reducible rfl
      refine wpAny_take (i := 9) (v := ?v16) rfl (by kernel_rfl) (by kernel_rfl) (by kernel_rfl) (fun _ _ _ h => h) (Or.inl ⟨by kernel_rfl, ?h16⟩) ?r16
      case h16 => (intro w; go_simp) <;> with_reducible rfl
      go_simp
      refine wpAny_ready (rs := [6, 10]) (by kernel_rfl) (by simp) (ready_cons ?_ (ready_cons ?_ AllReady.nil))
      · refine op_val (v := .pointer (some ⟨g, 3, none⟩)) rfl (by kernel_rfl) (run_idxr (x := 18) (y := 19) (q := 2) (c := c) rfl (by kernel_rfl) (by kernel_rfl) (by omega)) ?_
        refine wpAny_ready (rs := [7, 10]) (by kernel_rfl) (by simp) (ready_cons ?_ (ready_cons ?_ AllReady.nil))
        · refine op_val (v := .func f2 p2 q2) rfl (by kernel_rfl) (run_ldr (x := 20) (p := ⟨g, 3, none⟩) rfl (by kernel_rfl) cq) ?_
          refine wpAny_ready (rs := [10]) (by kernel_rfl) (by simp) (ready_cons ?_ AllReady.nil)
          refine op_val (v := .pointer (some ⟨g, 2, none⟩)) rfl (by kernel_rfl) (run_idxr (x := 22) (y := 23) (q := 1) (c := c) rfl (by kernel_rfl) (by kernel_rfl) (by omega)) ?_
          refine wpAny_ready (rs := [11]) (by kernel_rfl) (by simp) (ready_cons ?_ AllReady.nil)
          refine op_val (v := .func f1 p1 q1) rfl (by kernel_rfl) (run_ldr (x := 24) (p := ⟨g, 2, none⟩) rfl (by kernel_rfl) ci) ?_
          go_simp
          refine wpAny_ready (rs := [12]) (by kernel_rfl) (by simp) (ready_cons ?_ AllReady.nil)
          refine op_val (v := .pointer (some ⟨g, 2, none⟩)) rfl (by kernel_rfl) (run_idxr (x := 14) (y := 15) (q := 1) (c := c) rfl (by kernel_rfl) (by kernel_rfl) (by omega)) ?_
          refine wpAny_ready (rs := [13]) (by kernel_rfl) (by simp) (ready_cons ?_ AllReady.nil)
          refine op_skip rfl (by kernel_rfl) (run_str (x := 26) (y := 21) (p := ⟨g, 2, none⟩) (f := f2) (p1 := p2) (q1 := q2) rfl (by kernel_rfl) (by kernel_rfl) ci fi) ?_
          generalize wy.setCell ⟨g, 2, none⟩ (.func f2 p2 q2) = wA at *
          refine wpAny_ready (rs := [14]) (by kernel_rfl) (by simp) (ready_cons ?_ AllReady.nil)
          refine op_val (v := .pointer (some ⟨g, 3, none⟩)) rfl (by kernel_rfl) (run_idxr (x := 16) (y := 17) (q := 2) (c := c) rfl (by kernel_rfl) (by kernel_rfl) (by omega)) ?_
          refine wpAny_ready (rs := [15]) (by kernel_rfl) (by simp) (ready_cons ?_ AllReady.nil)
          refine op_skip rfl (by kernel_rfl) (run_str (x := 27) (y := 25) (p := ⟨g, 3, none⟩) (f := f1) (p1 := p1) (q1 := q1) rfl (by kernel_rfl) (by kernel_rfl) cc2 ff2) ?_
          generalize wA.setCell ⟨g, 3, none⟩ (.func f1 p1 q1) = wB at *
          go_simp
          refine wpAny_done (by kernel_rfl) ?_ _
          go_wp2
          go_roundw
          case rel => exact ⟨Or.inr (Or.inr ⟨by go_num, by go_num, HO2⟩), HW2⟩
          case measure => simp [intOf]
        · refine op_val (v := .pointer (some ⟨g, 2, none⟩)) rfl (by kernel_rfl) (run_idxr (x := 22) (y := 23) (q := 1) (c := c) rfl (by kernel_rfl) (by kernel_rfl) (by omega)) ?_
          refine wpAny_ready (rs := [7, 11]) (by kernel_rfl) (by simp) (ready_cons ?_ (ready_cons ?_ AllReady.nil))
          · refine op_val (v := .func f2 p2 q2) rfl (by kernel_rfl) (run_ldr (x := 20) (p := ⟨g, 3, none⟩) rfl (by kernel_rfl) cq) ?_
            refine wpAny_ready (rs := [11]) (by kernel_rfl) (by simp) (ready_cons ?_ AllReady.nil)
            refine op_val (v := .func f1 p1 q1) rfl (by kernel_rfl) (run_ldr (x := 24) (p := ⟨g, 2, none⟩) rfl (by kernel_rfl) ci) ?_
            go_simp
            refine wpAny_ready (rs := [12]) (by kernel_rfl) (by simp) (ready_cons ?_ AllReady.nil)
            refine op_val (v := .pointer (some ⟨g, 2, none⟩)) rfl (by kernel_rfl) (run_idxr (x := 14) (y := 15) (q := 1) (c := c) rfl (by kernel_rfl) (by kernel_rfl) (by omega)) ?_
            refine wpAny_ready (rs := [13]) (by kernel_rfl) (by simp) (ready_cons ?_ AllReady.nil)
            refine op_skip rfl (by kernel_rfl) (run_str (x := 26) (y := 21) (p := ⟨g, 2, none⟩) (f := f2) (p1 := p2) (q1 := q2) rfl (by kernel_rfl) (by kernel_rfl) ci fi) ?_
            generalize wy.setCell ⟨g, 2, none⟩ (.func f2 p2 q2) = wA at *
            refine wpAny_ready (rs := [14]) (by kernel_rfl) (by simp) (ready_cons ?_ AllReady.nil)
            refine op_val (v := .pointer (some ⟨g, 3, none⟩)) rfl (by kernel_rfl) (run_idxr (x := 16) (y := 17) (q := 2) (c := c) rfl (by kernel_rfl) (by kernel_rfl) (by omega)) ?_
            refine wpAny_ready (rs := [15]) (by kernel_rfl) (by simp) (ready_cons ?_ AllReady.nil)
            refine op_skip rfl (by kernel_rfl) (run_str (x := 27) (y := 25) (p := ⟨g, 3, none⟩) (f := f1) (p1 := p1) (q1 := q1) rfl (by kernel_rfl) (by kernel_rfl) cc2 ff2) ?_
            generalize wA.setCell ⟨g, 3, none⟩ (.func f1 p1 q1) = wB at *
            go_simp
            refine wpAny_done (by kernel_rfl) ?_ _
            go_wp2
            go_roundw
            case rel => exact ⟨Or.inr (Or.inr ⟨by go_num, by go_num, HO2⟩), HW2⟩
            case measure => simp [intOf]
          · refine op_val (v := .func f1 p1 q1) rfl (by kernel_rfl) (run_ldr (x := 24) (p := ⟨g, 2, none⟩) rfl (by kernel_rfl) ci) ?_
            refine wpAny_ready (rs := [7]) (by kernel_rfl) (by simp) (ready_cons ?_ AllReady.nil)
            refine op_val (v := .func f2 p2 q2) rfl (by kernel_rfl) (run_ldr (x := 20) (p := ⟨g, 3, none⟩) rfl (by kernel_rfl) cq) ?_
            go_simp
            refine wpAny_ready (rs := [12]) (by kernel_rfl) (by simp) (ready_cons ?_ AllReady.nil)
            refine op_val (v := .pointer (some ⟨g, 2, none⟩)) rfl (by kernel_rfl) (run_idxr (x := 14) (y := 15) (q := 1) (c := c) rfl (by kernel_rfl) (by kernel_rfl) (by omega)) ?_
            refine wpAny_ready (rs := [13]) (by kernel_rfl) (by simp) (ready_cons ?_ AllReady.nil)
            refine op_skip rfl (by kernel_rfl) (run_str (x := 26) (y := 21) (p := ⟨g, 2, none⟩) (f := f2) (p1 := p2) (q1 := q2) rfl (by kernel_rfl) (by kernel_rfl) ci fi) ?_
            generalize wy.setCell ⟨g, 2, none⟩ (.func f2 p2 q2) = wA at *
            refine wpAny_ready (rs := [14]) (by kernel_rfl) (by simp) (ready_cons ?_ AllReady.nil)
            refine op_val (v := .pointer (some ⟨g, 3, none⟩)) rfl (by kernel_rfl) (run_idxr (x := 16) (y := 17) (q := 2) (c := c) rfl (by kernel_rfl) (by kernel_rfl) (by omega)) ?_
            refine wpAny_ready (rs := [15]) (by kernel_rfl) (by simp) (ready_cons ?_ AllReady.nil)
            refine op_skip rfl (by kernel_rfl) (run_str (x := 27) (y := 25) (p := ⟨g, 3, none⟩) (f := f1) (p1 := p1) (q1 := q1) rfl (by kernel_rfl) (by kernel_rfl) cc2 ff2) ?_
            generalize wA.setCell ⟨g, 3, none⟩ (.func f1 p1 q1) = wB at *
            go_simp
            refine wpAny_done (by kernel_rfl) ?_ _
            go_wp2
            go_roundw
            case rel => exact ⟨Or.inr (Or.inr ⟨by go_num, by go_num, HO2⟩), HW2⟩
            case measure => simp [intOf]
      · refine op_val (v := .pointer (some ⟨g, 2, none⟩)) rfl (by kernel_rfl) (run_idxr (x := 22) (y := 23) (q := 1) (c := c) rfl (by kernel_rfl) (by kernel_rfl) (by omega)) ?_
        refine wpAny_ready (rs := [6, 11]) (by kernel_rfl) (by simp) (ready_cons ?_ (ready_cons ?_ AllReady.nil))
        · refine op_val (v := .pointer (some ⟨g, 3, none⟩)) rfl (by kernel_rfl) (run_idxr (x := 18) (y := 19) (q := 2) (c := c) rfl (by kernel_rfl) (by kernel_rfl) (by omega)) ?_
          refine wpAny_ready (rs := [7, 11]) (by kernel_rfl) (by simp) (ready_cons ?_ (ready_cons ?_ AllReady.nil))
          · refine op_val (v := .func f2 p2 q2) rfl (by kernel_rfl) (run_ldr (x := 20) (p := ⟨g, 3, none⟩) rfl (by kernel_rfl) cq) ?_
            refine wpAny_ready (rs := [11]) (by kernel_rfl) (by simp) (ready_cons ?_ AllReady.nil)
            refine op_val (v := .func f1 p1 q1) rfl (by kernel_rfl) (run_ldr (x := 24) (p := ⟨g, 2, none⟩) rfl (by kernel_rfl) ci) ?_
            go_simp
            refine wpAny_ready (rs := [12]) (by kernel_rfl) (by simp) (ready_cons ?_ AllReady.nil)
            refine op_val (v := .pointer (some ⟨g, 2, none⟩)) rfl (by kernel_rfl) (run_idxr (x := 14) (y := 15) (q := 1) (c := c) rfl (by kernel_rfl) (by kernel_rfl) (by omega)) ?_
            refine wpAny_ready (rs := [13]) (by kernel_rfl) (by simp) (ready_cons ?_ AllReady.nil)
            refine op_skip rfl (by kernel_rfl) (run_str (x := 26) (y := 21) (p := ⟨g, 2, none⟩) (f := f2) (p1 := p2) (q1 := q2) rfl (by kernel_rfl) (by kernel_rfl) ci fi) ?_
            generalize wy.setCell ⟨g, 2, none⟩ (.func f2 p2 q2) = wA at *
            refine wpAny_ready (rs := [14]) (by kernel_rfl) (by simp) (ready_cons ?_ AllReady.nil)
            refine op_val (v := .pointer (some ⟨g, 3, none⟩)) rfl (by kernel_rfl) (run_idxr (x := 16) (y := 17) (q := 2) (c := c) rfl (by kernel_rfl) (by kernel_rfl) (by omega)) ?_
            refine wpAny_ready (rs := [15]) (by kernel_rfl) (by simp) (ready_cons ?_ AllReady.nil)
            refine op_skip rfl (by kernel_rfl) (run_str (x := 27) (y := 25) (p := ⟨g, 3, none⟩) (f := f1) (p1 := p1) (q1 := q1) rfl (by kernel_rfl) (by kernel_rfl) cc2 ff2) ?_
            generalize wA.setCell ⟨g, 3, none⟩ (.func f1 p1 q1) = wB at *
            go_simp
            refine wpAny_done (by kernel_rfl) ?_ _
            go_wp2
            go_roundw
            case rel => exact ⟨Or.inr (Or.inr ⟨by go_num, by go_num, HO2⟩), HW2⟩
            case measure => simp [intOf]
          · refine op_val (v := .func f1 p1 q1) rfl (by kernel_rfl) (run_ldr (x := 24) (p := ⟨g, 2, none⟩) rfl (by kernel_rfl) ci) ?_
            refine wpAny_ready (rs := [7]) (by kernel_rfl) (by simp) (ready_cons ?_ AllReady.nil)
            refine op_val (v := .func f2 p2 q2) rfl (by kernel_rfl) (run_ldr (x := 20) (p := ⟨g, 3, none⟩) rfl (by kernel_rfl) cq) ?_
            go_simp
            refine wpAny_ready (rs := [12]) (by kernel_rfl) (by simp) (ready_cons ?_ AllReady.nil)
            refine op_val (v := .pointer (some ⟨g, 2, none⟩)) rfl (by kernel_rfl) (run_idxr (x := 14) (y := 15) (q := 1) (c := c) rfl (by kernel_rfl) (by kernel_rfl) (by omega)) ?_
            refine wpAny_ready (rs := [13]) (by kernel_rfl) (by simp) (ready_cons ?_ AllReady.nil)
            refine op_skip rfl (by kernel_rfl) (run_str (x := 26) (y := 21) (p := ⟨g, 2, none⟩) (f := f2) (p1 := p2) (q1 := q2) rfl (by kernel_rfl) (by kernel_rfl) ci fi) ?_
            generalize wy.setCell ⟨g, 2, none⟩ (.func f2 p2 q2) = wA at *
            refine wpAny_ready (rs := [14]) (by kernel_rfl) (by simp) (ready_cons ?_ AllReady.nil)
            refine op_val (v := .pointer (some ⟨g, 3, none⟩)) rfl (by kernel_rfl) (run_idxr (x := 16) (y := 17) (q := 2) (c := c) rfl (by kernel_rfl) (by kernel_rfl) (by omega)) ?_
            refine wpAny_ready (rs := [15]) (by kernel_rfl) (by simp) (ready_cons ?_ AllReady.nil)
            refine op_skip rfl (by kernel_rfl) (run_str (x := 27) (y := 25) (p := ⟨g, 3, none⟩) (f := f1) (p1 := p1) (q1 := q1) rfl (by kernel_rfl) (by kernel_rfl) cc2 ff2) ?_
            generalize wA.setCell ⟨g, 3, none⟩ (.func f1 p1 q1) = wB at *
            go_simp
            refine wpAny_done (by kernel_rfl) ?_ _
            go_wp2
            go_roundw
            case rel => exact ⟨Or.inr (Or.inr ⟨by go_num, by go_num, HO2⟩), HW2⟩
            case measure => simp [intOf]
        · refine op_val (v := .func f1 p1 q1) rfl (by kernel_rfl) (run_ldr (x := 24) (p := ⟨g, 2, none⟩) rfl (by kernel_rfl) ci) ?_
          refine wpAny_ready (rs := [6]) (by kernel_rfl) (by simp) (ready_cons ?_ AllReady.nil)
          refine op_val (v := .pointer (some ⟨g, 3, none⟩)) rfl (by kernel_rfl) (run_idxr (x := 18) (y := 19) (q := 2) (c := c) rfl (by kernel_rfl) (by kernel_rfl) (by omega)) ?_
          refine wpAny_ready (rs := [7]) (by kernel_rfl) (by simp) (ready_cons ?_ AllReady.nil)
          refine op_val (v := .func f2 p2 q2) rfl (by kernel_rfl) (run_ldr (x := 20) (p := ⟨g, 3, none⟩) rfl (by kernel_rfl) cq) ?_
          go_simp
          refine wpAny_ready (rs := [12]) (by kernel_rfl) (by simp) (ready_cons ?_ AllReady.nil)
          refine op_val (v := .pointer (some ⟨g, 2, none⟩)) rfl (by kernel_rfl) (run_idxr (x := 14) (y := 15) (q := 1) (c := c) rfl (by kernel_rfl) (by kernel_rfl) (by omega)) ?_
          refine wpAny_ready (rs := [13]) (by kernel_rfl) (by simp) (ready_cons ?_ AllReady.nil)
          refine op_skip rfl (by kernel_rfl) (run_str (x := 26) (y := 21) (p := ⟨g, 2, none⟩) (f := f2) (p1 := p2) (q1 := q2) rfl (by kernel_rfl) (by kernel_rfl) ci fi) ?_
          generalize wy.setCell ⟨g, 2, none⟩ (.func f2 p2 q2) = wA at *
          refine wpAny_ready (rs := [14]) (by kernel_rfl) (by simp) (ready_cons ?_ AllReady.nil)
          refine op_val (v := .pointer (some ⟨g, 3, none⟩)) rfl (by kernel_rfl) (run_idxr (x := 16) (y := 17) (q := 2) (c := c) rfl (by kernel_rfl) (by kernel_rfl) (by omega)) ?_
          refine wpAny_ready (rs := [15]) (by kernel_rfl) (by simp) (ready_cons ?_ AllReady.nil)
          refine op_skip rfl (by kernel_rfl) (run_str (x := 27) (y := 25) (p := ⟨g, 3, none⟩) (f := f1) (p1 := p1) (q1 := q1) rfl (by kernel_rfl) (by kernel_rfl) cc2 ff2) ?_
          generalize wA.setCell ⟨g, 3, none⟩ (.func f1 p1 q1) = wB at *
          go_simp
          refine wpAny_done (by kernel_rfl) ?_ _
          go_wp2
          go_roundw
          case rel => exact ⟨Or.inr (Or.inr ⟨by go_num, by go_num, HO2⟩), HW2⟩
          case measure => simp [intOf]
    · go_wp2
      go_end0
      exact ⟨rfl, HO.out, HW.out⟩
end Go.Proofs.Ytaifihfiompgaaa
