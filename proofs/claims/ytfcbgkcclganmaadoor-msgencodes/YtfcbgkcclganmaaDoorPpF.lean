/-
  The program's pack: what a face's deferred function does, in a panic and without one.
-/
import Derived.Test.YtfcbgkcclganmaaDoorPpE
set_option linter.unusedVariables false
set_option linter.unusedSimpArgs false
namespace Go.Proofs.YtfcbgkcclganmaaDoor
open Go.RowKit

set_option maxRecDepth 100000 in
set_option maxHeartbeats 400000 in
theorem catchI_panicking (br b : Nat) (e : Int) (v1 v2 : Value) (older : List PanicEntry) (w : World) (h0 : w.cell? ⟨br, 0, none⟩ = some (.pointer (some ⟨b, 0, none⟩))) (cb : w.cell? ⟨b, 0, none⟩ = some (.bool true)) (h1 : w.cell? ⟨b, 1, none⟩ = some v1) (f1 : w.frozen? ⟨b, 1, none⟩ = false) (h2 : w.cell? ⟨b, 2, none⟩ = some v2) (f2 : w.frozen? ⟨b, 2, none⟩ = false) (hne : br ≠ b) :
    CallsD Tryd.prog 66 #[.pointer (some ⟨br, 0, none⟩)] (.panicking ({ v := .iface 28 (.int .i64 e), recovered := false } :: older)) w fun d u' w' =>
      d = .returned (.tuple #[]) ∧ u' = .panicking ({ v := .iface 28 (.int .i64 e), recovered := true } :: older) ∧ Cx b e w w' := by
  have has := fun (W : World) => asErrno (.int .i64 e) 20 W
  refine callsD_of_wpS Tryd.func66 rfl fun c₀ cs hu => ?_
  simp only [Tryd.ntmps66, List.size_toArray, List.length_cons, List.length_nil, Nat.reduceAdd, Nat.reduceSub, Array.replicate_succ, Array.replicate_zero, List.push_toArray, List.append_toArray, List.nil_append, List.cons_append]
  apply wpS_seq
  apply wpS_region
  have hc : recoverD (c₀ :: cs) = some (.iface 28 (.int .i64 e), { c₀ with mode := .panicking ({ v := .iface 28 (.int .i64 e), recovered := true } :: older) } :: cs) := by
    simp [recoverD, hu]
  refine opsS_recover (i := 0) rfl (by kernel_rfl) rfl hc ?_
  simp only [Act.put, List.setIfInBounds_toArray, List.set_cons_zero, List.set_cons_succ]
  refine opsS_val (i := 1) (.iface 28 (.int .i64 e)) rfl (by kernel_rfl) (by kernel_rfl) ?_
  simp only [Act.put, List.setIfInBounds_toArray, List.set_cons_zero, List.set_cons_succ]
  refine wpS_of_wp ?_
  clear hc
  go_wp2
  go_region
  all_goals (try go_wp2)
  all_goals refine ⟨rfl, _, rfl, _, results_none rfl _ _ _, rfl, rfl, ?_⟩
  refine ⟨(((Kp.refl (fun i => i = b) w).set (p := ⟨b, 1, none⟩) (Or.inl rfl) _).set (p := ⟨b, 2, none⟩) (Or.inl rfl) _).drew, ?_, ?_⟩
  · show ((w.setCell ⟨b, 1, none⟩ (.slice none 0 0)).setCell ⟨b, 2, none⟩ (.int .i64 e)).cell? ⟨b, 0, none⟩ = _
    rw [World.cell?_setCell_other _ _ _ _ (by simp), World.cell?_setCell_other _ _ _ _ (by simp)]; exact cb
  · show ((w.setCell ⟨b, 1, none⟩ (.slice none 0 0)).setCell ⟨b, 2, none⟩ (.int .i64 e)).cell? ⟨b, 2, none⟩ = _
    exact World.cell?_setCell_same' _ _ _ (by rw [World.cell?_setCell_other _ _ _ _ (by simp), h2]; rfl)
set_option maxRecDepth 100000 in
set_option maxHeartbeats 400000 in
theorem catchI_idle (br : Nat) (w : World) :
    CallsD Tryd.prog 66 #[.pointer (some ⟨br, 0, none⟩)] .returning w fun d u' w' => d = .returned (.tuple #[]) ∧ u' = .returning ∧ w' = w := by
  refine callsD_of_wpS Tryd.func66 rfl fun c₀ cs hu => ?_
  simp only [Tryd.ntmps66, List.size_toArray, List.length_cons, List.length_nil, Nat.reduceAdd, Nat.reduceSub, Array.replicate_succ, Array.replicate_zero, List.push_toArray, List.append_toArray, List.nil_append, List.cons_append]
  apply wpS_seq
  apply wpS_region
  have hc : recoverD (c₀ :: cs) = none := by
    simp [recoverD, hu]
  refine opsS_idle (i := 0) rfl (by kernel_rfl) rfl hc ?_
  simp only [Act.put, List.setIfInBounds_toArray, List.set_cons_zero, List.set_cons_succ]
  refine opsS_val (i := 1) .nilIface rfl (by kernel_rfl) (by kernel_rfl) ?_
  simp only [Act.put, List.setIfInBounds_toArray, List.set_cons_zero, List.set_cons_succ]
  refine wpS_of_wp ?_
  clear hc
  go_wp2
  refine ⟨rfl, .returning, ?_, _, results_none rfl _ _ _, rfl, rfl, rfl⟩
  cases c₀
  simp_all
set_option maxRecDepth 100000 in
set_option maxHeartbeats 400000 in
theorem catchB_panicking (br b : Nat) (e : Int) (v1 v2 : Value) (older : List PanicEntry) (w : World) (h0 : w.cell? ⟨br, 0, none⟩ = some (.pointer (some ⟨b, 0, none⟩))) (cb : w.cell? ⟨b, 0, none⟩ = some (.bool true)) (h1 : w.cell? ⟨b, 1, none⟩ = some v1) (f1 : w.frozen? ⟨b, 1, none⟩ = false) (h2 : w.cell? ⟨b, 2, none⟩ = some v2) (f2 : w.frozen? ⟨b, 2, none⟩ = false) (hne : br ≠ b) :
    CallsD Tryd.prog 68 #[.pointer (some ⟨br, 0, none⟩)] (.panicking ({ v := .iface 28 (.int .i64 e), recovered := false } :: older)) w fun d u' w' =>
      d = .returned (.tuple #[]) ∧ u' = .panicking ({ v := .iface 28 (.int .i64 e), recovered := true } :: older) ∧ Cx b e w w' := by
  have has := fun (W : World) => asErrno (.int .i64 e) 20 W
  refine callsD_of_wpS Tryd.func68 rfl fun c₀ cs hu => ?_
  simp only [Tryd.ntmps68, List.size_toArray, List.length_cons, List.length_nil, Nat.reduceAdd, Nat.reduceSub, Array.replicate_succ, Array.replicate_zero, List.push_toArray, List.append_toArray, List.nil_append, List.cons_append]
  apply wpS_seq
  apply wpS_region
  have hc : recoverD (c₀ :: cs) = some (.iface 28 (.int .i64 e), { c₀ with mode := .panicking ({ v := .iface 28 (.int .i64 e), recovered := true } :: older) } :: cs) := by
    simp [recoverD, hu]
  refine opsS_recover (i := 0) rfl (by kernel_rfl) rfl hc ?_
  simp only [Act.put, List.setIfInBounds_toArray, List.set_cons_zero, List.set_cons_succ]
  refine opsS_val (i := 1) (.iface 28 (.int .i64 e)) rfl (by kernel_rfl) (by kernel_rfl) ?_
  simp only [Act.put, List.setIfInBounds_toArray, List.set_cons_zero, List.set_cons_succ]
  refine wpS_of_wp ?_
  clear hc
  go_wp2
  go_region
  all_goals (try go_wp2)
  all_goals refine ⟨rfl, _, rfl, _, results_none rfl _ _ _, rfl, rfl, ?_⟩
  refine ⟨(((Kp.refl (fun i => i = b) w).set (p := ⟨b, 1, none⟩) (Or.inl rfl) _).set (p := ⟨b, 2, none⟩) (Or.inl rfl) _).drew, ?_, ?_⟩
  · show ((w.setCell ⟨b, 1, none⟩ (.slice none 0 0)).setCell ⟨b, 2, none⟩ (.int .i64 e)).cell? ⟨b, 0, none⟩ = _
    rw [World.cell?_setCell_other _ _ _ _ (by simp), World.cell?_setCell_other _ _ _ _ (by simp)]; exact cb
  · show ((w.setCell ⟨b, 1, none⟩ (.slice none 0 0)).setCell ⟨b, 2, none⟩ (.int .i64 e)).cell? ⟨b, 2, none⟩ = _
    exact World.cell?_setCell_same' _ _ _ (by rw [World.cell?_setCell_other _ _ _ _ (by simp), h2]; rfl)
set_option maxRecDepth 100000 in
set_option maxHeartbeats 400000 in
theorem catchB_idle (br : Nat) (w : World) :
    CallsD Tryd.prog 68 #[.pointer (some ⟨br, 0, none⟩)] .returning w fun d u' w' => d = .returned (.tuple #[]) ∧ u' = .returning ∧ w' = w := by
  refine callsD_of_wpS Tryd.func68 rfl fun c₀ cs hu => ?_
  simp only [Tryd.ntmps68, List.size_toArray, List.length_cons, List.length_nil, Nat.reduceAdd, Nat.reduceSub, Array.replicate_succ, Array.replicate_zero, List.push_toArray, List.append_toArray, List.nil_append, List.cons_append]
  apply wpS_seq
  apply wpS_region
  have hc : recoverD (c₀ :: cs) = none := by
    simp [recoverD, hu]
  refine opsS_idle (i := 0) rfl (by kernel_rfl) rfl hc ?_
  simp only [Act.put, List.setIfInBounds_toArray, List.set_cons_zero, List.set_cons_succ]
  refine opsS_val (i := 1) .nilIface rfl (by kernel_rfl) (by kernel_rfl) ?_
  simp only [Act.put, List.setIfInBounds_toArray, List.set_cons_zero, List.set_cons_succ]
  refine wpS_of_wp ?_
  clear hc
  go_wp2
  refine ⟨rfl, .returning, ?_, _, results_none rfl _ _ _, rfl, rfl, rfl⟩
  cases c₀
  simp_all
end Go.Proofs.YtfcbgkcclganmaaDoor
