/-
  The program's disk: what keep makes safe.
-/
import Derived.Test.YtnchmnemclbfcaaDqC
set_option linter.unusedVariables false
set_option linter.unusedSimpArgs false
namespace Go.Proofs.Ytnchmnemclbfcaa
open Go.RowKit

theorem mpS {ops : Array Oper} {o : Oper} {a : Act} {w w' : World} {K : Act → World → Prop} {Q : Exit → Act → World → Prop} {E : Prop} (hgd : o.guard = none) (T : TypeId) (m x v : Operand) (ho : o.op = .mapUpdate T m x v)
    (vm vx vv : Value) (hm : a.eval m = vm) (hx : a.eval x = vx) (hv : a.eval v = vv) (hrun : (Instr.mapUpdate T vm vx vv).run Try.prog w = .ok () w') (h : K (a.put o.dst undef) w') : if Region.wanted o (yielded ops a.tmps) = true then Oper.wp Try.prog o a w K Q else E := by
  have hw : Region.wanted o (yielded ops a.tmps) = true := by simp [Region.wanted, hgd]
  rw [if_pos hw]
  unfold Oper.wp
  simp [execOp, ho, hm, hx, hv, hrun, Result.andThen]
  exact h
theorem okb_set {bl : List (List Nat)} (h : ∀ b ∈ bl, okb b) (i : Nat) {t : List Nat} (ht : okb t) : ∀ b ∈ bl.set i t, okb b := by
  intro b hb
  rcases List.mem_or_eq_of_mem_set hb with q | q
  · exact h b q
  · rw [q]; exact ht
/-- What keep leaves. -/
def Kd15 (d M : Nat) (vU : Value) (L : Int) (F : Nat → Prop) (s : Dsk) (w w' : World) : Prop := Pd w' d M vU L F s ∧ Kp (fun k => k = M) w w'
set_option maxRecDepth 100000 in
set_option maxHeartbeats 4000000 in
theorem keep15 {w : World} {d M : Nat} {vU : Value} {L : Int} {F : Nat → Prop} {s : Dsk} (h : Pd w d M vU L F s) (i : Nat) (t : List Nat) (hi : i < s.bl.length) (ht : okb t) :
    Calls Try.prog 37 #[.pointer (some ⟨d, 0, none⟩), .int .i64 (i : Int), .agg (b8 t).toArray] w fun e w' => e = .returned (.tuple #[]) ∧ Kd15 d M vU L F { s with bl := s.bl.set i t } w w' := by
  obtain ⟨wA, hwA⟩ : ∃ wA, wA = w.alloc (.cells (b8 t).toArray 73) := ⟨_, rfl⟩
  have HA : Hid (Pd wA d M vU L F s ∧ Vb wA w.heap.size 73 (b8 t) ∧ Below w.heap.size w wA) := by
    rw [hwA]
    exact ⟨h.later (bel1 _ _), Vb.new _ _ _, bel1 _ _⟩
  have HI : Hid (i < s.bl.length ∧ okb t ∧ M < w.heap.size ∧ d < w.heap.size ∧ d ≠ M) := ⟨hi, ht, h.lt M h.fM, h.lt d h.fd, h.dM⟩
  clear h hi ht
  have c1 := HA.out.1.c1
  have hE := fun W => eq_zero15 t HI.out.2.1.1 W
  unfold bkV at hE
  have hg : Try.prog.eqGuardType Try.prog.depth 73 = false := by kernel_rfl
  have hbd := zero_blk15
  unfold bkV at hbd
  by_cases q : t = zr15
  · rw [decide_eq_true q] at hE
    obtain ⟨wD, hdel, hM, hK⟩ := map_del HA.out.1.mz i HI.out.1
    rw [← q] at hM
    unfold key15 at hdel
    have HR : Hid (Kd15 d M vU L F { s with bl := s.bl.set i t } w wD) :=
      ⟨HA.out.1.map hM hK (by rw [List.length_set]) (okb_set HA.out.1.ok.bl i HI.out.2.1), ((Kp.of HA.out.2.2).mono (fun _ q => q)).trans hK (fun k hk => Or.inl hk)⟩
    clear hM hK q
    go_enter Try.func37, Try.ntmps37
    go_upto_region 1 with fail
    rw [← hwA]
    clear hwA
    go_wp2_with (refine ldB rfl _ rfl w.heap.size 0 t rfl HA.out.2.1.all HI.out.2.1.1 ?_)
    refine bodyPost_ret (results_none rfl _ _ _) rfl ?_
    exact ⟨rfl, HR.out⟩
  · rw [decide_eq_false q] at hE
    go_enter Try.func37, Try.ntmps37
    go_upto_region 1 with fail
    rw [← hwA]
    clear hwA
    go_upto_region 3 with (refine ldB rfl _ rfl w.heap.size 0 t rfl HA.out.2.1.all HI.out.2.1.1 ?_)
    refine wp_region_held_drew (S := fun W => W.cell? ⟨d, 1, none⟩ = some (.map (some M)) ∧ Vb W w.heap.size 73 (b8 t)) (by kernel_rfl) ⟨c1, HA.out.2.1⟩ (fun HS => ?_)
    have HAd : Hid (Pd wA.drew d M vU L F s ∧ Below w.heap.size w wA.drew) := ⟨HA.out.1.kept (fun _ _ => rfl) (Nat.le_refl _), HA.out.2.2.drew⟩
    clear HA c1 hE hg hbd
    generalize wA.drew = wD at *
    obtain ⟨wE, hput, hM, hK⟩ := map_put HAd.out.1.mz i t HI.out.1
    unfold key15 bkV at hput
    have HR : Hid (Kd15 d M vU L F { s with bl := s.bl.set i t } w wE) :=
      ⟨HAd.out.1.map hM hK (by rw [List.length_set]) (okb_set HAd.out.1.ok.bl i HI.out.2.1), ((Kp.of HAd.out.2).mono (fun _ q => q)).trans hK (fun k hk => Or.inl hk)⟩
    have HSE : Hid (wE.cell? ⟨d, 1, none⟩ = some (.map (some M)) ∧ Vb wE w.heap.size 73 (b8 t)) := ⟨HR.out.1.c1, HS.2.kept (hK.block _ HS.2.lt (by have := HI.out.2.2.1; omega))⟩
    clear hM hK HAd q
    refine wpAnyH_take (i := 0) (v := ?v1) rfl (by kernel_rfl) (by kernel_rfl) (by kernel_rfl) (fun _ _ _ h => h) (Or.inl ⟨by kernel_rfl, ?h1⟩) HS ?r1
    case h1 => (rintro w ⟨n0, n1⟩; go_simp) <;> with_reducible rfl
    try simp only [Act.put, List.getElem_toArray, List.getElem_cons_succ, List.getElem_cons_zero, List.setIfInBounds_toArray, List.set_cons_zero, List.set_cons_succ]
    refine wpAnyH_take (i := 1) (v := ?v2) rfl (by kernel_rfl) (by kernel_rfl) (by kernel_rfl) (fun _ _ _ h => h) (Or.inl ⟨by kernel_rfl, ?h2⟩) HS ?r2
    case h2 => (rintro w ⟨n0, n1⟩; go_simp) <;> with_reducible rfl
    try simp only [Act.put, List.getElem_toArray, List.getElem_cons_succ, List.getElem_cons_zero, List.setIfInBounds_toArray, List.set_cons_zero, List.set_cons_succ]
    refine wpAnyH_take (i := 2) (v := ?v3) rfl (by kernel_rfl) (by kernel_rfl) (by kernel_rfl) (fun _ _ _ h => h) (Or.inl ⟨by kernel_rfl, ?h3⟩) HS ?r3
    case h3 => (rintro w ⟨n0, n1⟩; go_simp) <;> with_reducible rfl
    try simp only [Act.put, List.getElem_toArray, List.getElem_cons_succ, List.getElem_cons_zero, List.setIfInBounds_toArray, List.set_cons_zero, List.set_cons_succ]
    refine wpAnyH_take (i := 3) (v := ?v4) rfl (by kernel_rfl) (by kernel_rfl) (by kernel_rfl) (fun _ _ _ h => h) (Or.inl ⟨by kernel_rfl, ?h4⟩) HS ?r4
    case h4 => (rintro w ⟨n0, n1⟩; go_simp) <;> with_reducible rfl
    try simp only [Act.put, List.getElem_toArray, List.getElem_cons_succ, List.getElem_cons_zero, List.setIfInBounds_toArray, List.set_cons_zero, List.set_cons_succ]
    refine wpAnyH_take (i := 4) (v := ?v5) rfl (by kernel_rfl) (by kernel_rfl) (by kernel_rfl) (fun _ _ _ h => h) (Or.inl ⟨by kernel_rfl, ?h5⟩) HS ?r5
    case h5 => (rintro w ⟨n0, n1⟩; go_simp) <;> with_reducible rfl
    try simp only [Act.put, List.getElem_toArray, List.getElem_cons_succ, List.getElem_cons_zero, List.setIfInBounds_toArray, List.set_cons_zero, List.set_cons_succ]
    refine wpAnyH_take (i := 5) (v := .agg (b8 t).toArray) rfl (by kernel_rfl) (by kernel_rfl) (by kernel_rfl) (fun _ _ _ h => h) ?ha HS ?_
    case ha =>
      refine yieldsIf_load_mid (by kernel_rfl) 73 _ rfl w.heap.size 0 rfl (b8 t) _ ?_ und_blk15 rfl (by rw [b8_len, HI.out.2.1.1]; exact sz_blk15)
      exact fun W hW => hW.2.all
    try simp only [Act.put, List.getElem_toArray, List.getElem_cons_succ, List.getElem_cons_zero, List.setIfInBounds_toArray, List.set_cons_zero, List.set_cons_succ]
    refine wpAnyH_ready (rs := [6]) (by kernel_rfl) (by simp) ?_
    refine AllReadyH.cons rfl (fun K hK => ?_) AllReadyH.nil
    refine mpS rfl 45 _ _ _ rfl _ _ _ rfl rfl rfl hput ?_
    refine hK.out _ _ HSE.out (fun HS => ?_)
    clear hK K
    try simp only [Act.put, List.getElem_toArray, List.getElem_cons_succ, List.getElem_cons_zero, List.setIfInBounds_toArray, List.set_cons_zero, List.set_cons_succ]
    refine wpAnyH_done (by kernel_rfl) ?_ _
    clear HS HSE hput
    go_wp2
    go_end0
    exact ⟨rfl, HR.out⟩
end Go.Proofs.Ytnchmnemclbfcaa
