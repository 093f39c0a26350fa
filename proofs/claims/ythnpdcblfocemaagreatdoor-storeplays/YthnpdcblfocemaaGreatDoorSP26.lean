/-
  Texts of this proof, joined: DqD DqE DqF.
-/
import Derived.Test.YthnpdcblfocemaaGreatDoorSP25
import Derived.Laws.Tables
import Derived.Great.BuildSlice
import Derived.Great.FillDense
set_option linter.unusedVariables false
set_option linter.unusedSimpArgs false
namespace Go.Proofs.YthnpdcblfocemaaGreatDoor
open Go.RowKit

set_option maxRecDepth 100000 in
set_option maxHeartbeats 4000000 in
theorem new15 (w : World) (n : Nat) (h1 : 1 ≤ n) (h2 : n ≤ 16384) :
    Calls Tryz.prog 6 #[.int .i64 (n : Int)] w fun e w' => ∃ p F, e = .returned (.tuple #[p, .int .i64 0]) ∧ PD w' p F (dNew n) ∧ (∀ k, F k → w.heap.size ≤ k) ∧ Below w.heap.size w w' := by
  obtain ⟨wB, hwB⟩ : ∃ wB, wB = (w.alloc (.map #[] 0)).alloc (.cells #[.int .i64 (n : Int), .map (some w.heap.size), .slice none 0 0, .int .i64 (-1), .bool false] 67) := ⟨_, rfl⟩
  have HM : Hid (Mz wB w.heap.size (List.replicate n zr15)) := by
    rw [hwB]
    exact (Mz.made w n).kept (Below.heap_alloc _ _ _ (by simp))
  have HB : Hid (Below w.heap.size w wB) := by rw [hwB]; exact bel2 _ _ _
  have HP : Hid (PD wB (.pointer (some ⟨w.heap.size + 1, 0, none⟩)) (fun k => k = w.heap.size ∨ k = w.heap.size + 1) (dNew n)) := by
    refine ⟨w.heap.size + 1, w.heap.size, .slice none 0 0, -1, rfl, ?_⟩
    have hz : (dNew n).bl = List.replicate n zr15 := rfl
    have hl : (dNew n).bl.length = n := by rw [hz, List.length_replicate]
    refine ⟨okD_new n, ?_, Or.inr rfl, Or.inl rfl, fun g hg => (by cases hg), by omega, by omega, by omega, ?_, ?_, ?_, ?_, ?_, ?_, World.ownsRow_nil _ _ _ _, HM.out, rfl, fun q => (by cases q), ⟨by omega, by omega⟩⟩
    · intro k hk
      rw [hwB]
      simp
      omega
    · rw [hl, hwB]; simp [go_sem]
    · rw [hwB]; simp [go_sem]
    · rw [hwB]; simp [go_sem]
    · rw [hwB]; simp [go_sem]
    · rw [hwB]; simp [go_sem, dNew]
    · intro k hk
      rw [hwB]; simp [go_sem]
  have q1 : ¬ (n : Int) < 1 := by omega
  have q2 : ¬ (16384 : Int) < (n : Int) := by omega
  have q3 : 1 ≤ n := h1
  have q4 : n ≤ 16384 := h2
  have hmk : (Instr.makeMap 64 none).run Tryz.prog w = .ok (.map (some w.heap.size)) (w.alloc (.map #[] 0)) := by
    simp [Instr.makeMap, run_underlying und_map15, go_sem, Result.andThen]
  clear HM h1 h2
  go_enter Tryz.func6, Tryz.ntmps6
  go_wp2
  go_ret2
  rw [← hwB]
  exact ⟨_, rfl, _, HP.out, fun k (hk : k = w.heap.size ∨ k = w.heap.size + 1) => by omega, HB.out⟩
set_option maxRecDepth 100000 in
set_option maxHeartbeats 4000000 in
theorem newN15 (w : World) (n : Int) (h : n < 1 ∨ 16384 < n) :
    Calls Tryz.prog 6 #[.int .i64 n] w fun e w' => e = .returned (.tuple #[.pointer none, .int .i64 2]) ∧ Below w.heap.size w w' := by
  by_cases q : n < 1
  · clear h
    go_enter Tryz.func6, Tryz.ntmps6
    go_wp2
    go_ret2
    exact ⟨rfl, Below.refl _ _⟩
  · have q2 : 16384 < n := by omega
    clear h
    go_enter Tryz.func6, Tryz.ntmps6
    go_wp2
    go_ret2
    exact ⟨rfl, Below.refl _ _⟩
set_option maxRecDepth 100000 in
set_option maxHeartbeats 4000000 in
theorem blocks15 (w : World) (p : Value) (F : Nat → Prop) (s : Dsk) (h : PD w p F s) :
    Calls Tryz.prog 49 #[p] w fun e w' => e = .returned (.int .i64 ((s.bl.length : Nat) : Int)) ∧ Below w.heap.size w w' := by
  obtain ⟨d, M, vU, L, rfl, h⟩ := h
  have hm := made_yes h
  have c0 := h.c0
  clear h
  generalize s.bl.length = n at *
  go_enter Tryz.func49, Tryz.ntmps49
  go_wp2_with (go_at_call 41; refine hm.mono ?_; rintro e w' ⟨rfl, hw⟩; replace hw := hw.symm; subst hw; clear hm)
  go_ret
  exact ⟨rfl, Below.refl _ _⟩
set_option maxRecDepth 100000 in
set_option maxHeartbeats 4000000 in
theorem down15 (w : World) (p : Value) (F : Nat → Prop) (s : Dsk) (h : PD w p F s) :
    Calls Tryz.prog 25 #[p] w fun e w' => e = .returned (.bool s.dn) ∧ Below w.heap.size w w' := by
  obtain ⟨d, M, vU, L, rfl, h⟩ := h
  have hm := made_yes h
  have c4 := h.c4
  clear h
  generalize s.dn = dn at *
  go_enter Tryz.func25, Tryz.ntmps25
  go_wp2_with (go_at_call 41; refine hm.mono ?_; rintro e w' ⟨rfl, hw⟩; replace hw := hw.symm; subst hw; clear hm)
  go_ret
  exact ⟨rfl, Below.refl _ _⟩
set_option maxRecDepth 100000 in
set_option maxHeartbeats 4000000 in
theorem arm15 (w : World) (p : Value) (F : Nat → Prop) (s : Dsk) (n : Int) (h : PD w p F s) (hn : Bd64 n) :
    Calls Tryz.prog 15 #[p, .int .i64 n] w fun e w' => e = .returned (.tuple #[]) ∧ Ad PD p F (arS s n) w w' := by
  obtain ⟨d, M, vU, L, rfl, h⟩ := h
  have hm := made_yes h
  have f3 := h.f0 3 (by omega)
  have c3 := h.c3
  have HP : Hid (Pd (w.setCell ⟨d, 3, none⟩ (.int .i64 n)) d M vU n F (arS s n)) := h.left n n hn (fun _ => rfl)
  have HF : Hid (F d) := h.fd
  clear h hn
  go_enter Tryz.func15, Tryz.ntmps15
  go_wp2_with (go_at_call 41; refine hm.mono ?_; rintro e w' ⟨rfl, hw⟩; replace hw := hw.symm; subst hw; clear hm)
  go_end0
  exact ⟨rfl, F, ⟨d, M, vU, n, rfl, HP.out⟩, fun k hk => Or.inl hk, (Kp.refl F _).set (p := ⟨d, 3, none⟩) (Or.inl HF.out) _⟩
theorem ob_uf {base : Nat} {w : World} {v : Value} {l : List Nat} (h : Ob base w v l) : Uf w v := by
  intro b o n cap e k hk
  subst e
  rcases id h.2 with ⟨e, _⟩ | ⟨g, c, cur, e, hg, hh, _⟩
  · cases e
  · cases e
    simp [World.frozen?, hh]
def Hn15 (w : World) (l : List Nat) (v : Value) (w' : World) : Prop := Bs w' v l ∧ (Ow w.heap.size v ∧ Uf w' v) ∧ Below w.heap.size w w'
set_option maxRecDepth 100000 in
set_option maxHeartbeats 4000000 in
theorem safe15 {w : World} {d M : Nat} {vU : Value} {L : Int} {F : Nat → Prop} {s : Dsk} (h : Pd w d M vU L F s) (i : Nat) (hi : i < s.bl.length) :
    Calls Tryz.prog 26 #[.pointer (some ⟨d, 0, none⟩), .int .i64 (i : Int)] w fun e w' => ∃ v, e = .returned (.tuple #[v, .int .i64 0]) ∧ Hn15 w (s.bl.getD i []) v w' := by
  have hm := made_yes h
  have hh := has_any h (i : Int)
  have e : decide (0 ≤ (i : Int) ∧ (i : Int) < (s.bl.length : Int)) = true := by simp; omega
  rw [e] at hh
  have c1 := h.c1
  have hlk := map_look h.mz i hi
  have HL : Hid ((s.bl.getD i []).length = 128) := (getD_ok h.ok.bl hi).1
  unfold bkV key15 at hlk
  clear h hi e
  generalize s.bl.getD i [] = b at *
  have hz : ∀ W, (zeroValue 92).run Tryz.prog W = .ok (.agg (b8 zr15).toArray) W := fun W => zero_blk15 W
  go_enter Tryz.func26, Tryz.ntmps26
  go_upto_region 6 with (first
    | (go_at_call 41; refine hm.mono ?_; rintro e w' ⟨rfl, hw⟩; replace hw := hw.symm; subst hw; clear hm)
    | (go_at_call 45; refine hh.mono ?_; rintro e w' ⟨rfl, hw⟩; replace hw := hw.symm; subst hw; clear hh)
    | (refine alV rfl 92 (b8 zr15) hz rfl ?_; intro wB hV hB hS)
    | (refine stV rfl 92 _ _ rfl _ (b8 zr15) (b8 b) rfl rfl hV (by rw [b8_len, b8_len, HL.out, zr_len]) (by rw [b8_len, HL.out]; exact sz_blk15) (b8_one b) ?_; intro wC hVC hKC hSC))
  have HC : Hid (Below w.heap.size w wC ∧ Bs wC (.slice (some ⟨w.heap.size, 0, none⟩) 128 128) b) := by
    refine ⟨hKC.next hB (fun i hi => by omega) hB.size, ?_⟩
    have h := hVC.bs 0 b (fun j hj => by rw [Nat.zero_add]; exact b8_cell _ _ hj) 128 (by have := HL.out; omega) (by unfold maxLen; omega)
    rw [HL.out] at h
    exact h
  clear hV hB hS hVC hKC hSC hlk c1 hz
  have hcl := clone_any wC _ b HC.out.2 (by have := HL.out; omega)
  go_wp2_with (go_at_call 46; refine hcl.mono ?_; rintro e w' ⟨v, rfl, hO, hBw⟩; clear hcl)
  go_ret2
  have hs := HC.out.1.size
  exact ⟨_, rfl, hO.bs.1, ⟨hO.bs.2.low hs, ob_uf hO⟩, bchain HC.out.1 hBw⟩
set_option maxRecDepth 100000 in
set_option maxHeartbeats 4000000 in
theorem safeN15 {w : World} {d M : Nat} {vU : Value} {L : Int} {F : Nat → Prop} {s : Dsk} (h : Pd w d M vU L F s) (i : Int) (hi : i < 0 ∨ (s.bl.length : Int) ≤ i) :
    Calls Tryz.prog 26 #[.pointer (some ⟨d, 0, none⟩), .int .i64 i] w fun e w' => e = .returned (.tuple #[.slice none 0 0, .int .i64 151]) ∧ w' = w := by
  have hm := made_yes h
  have hh := has_any h i
  have e : decide (0 ≤ i ∧ i < (s.bl.length : Int)) = false := by simp; omega
  rw [e] at hh
  clear h hi e
  go_enter Tryz.func26, Tryz.ntmps26
  go_wp2_with (first
    | (go_at_call 41; refine hm.mono ?_; rintro e w' ⟨rfl, hw⟩; replace hw := hw.symm; subst hw; clear hm)
    | (go_at_call 45; refine hh.mono ?_; rintro e w' ⟨rfl, hw⟩; replace hw := hw.symm; subst hw; clear hh))
  go_ret2
  exact ⟨rfl, rfl⟩
end Go.Proofs.YthnpdcblfocemaaGreatDoor
set_option linter.unusedVariables false
set_option linter.unusedSimpArgs false
namespace Go.Proofs.YthnpdcblfocemaaGreatDoor
open Go.RowKit

theorem mpS {ops : Array Oper} {o : Oper} {a : Act} {w w' : World} {K : Act → World → Prop} {Q : Exit → Act → World → Prop} {E : Prop} (hgd : o.guard = none) (T : TypeId) (m x v : Operand) (ho : o.op = .mapUpdate T m x v)
    (vm vx vv : Value) (hm : a.eval m = vm) (hx : a.eval x = vx) (hv : a.eval v = vv) (hrun : (Instr.mapUpdate T vm vx vv).run Tryz.prog w = .ok () w') (h : K (a.put o.dst undef) w') : if Region.wanted o (yielded ops a.tmps) = true then Oper.wp Tryz.prog o a w K Q else E := by
  have hw : Region.wanted o (yielded ops a.tmps) = true := by simp [Region.wanted, hgd]
  rw [if_pos hw]
  unfold Oper.wp
  simp [execOp, ho, hm, hx, hv, hrun, Result.andThen]
  exact h
theorem okb_set {bl : List (List Nat)} (h : ∀ b ∈ bl, okb b) (i : Nat) {t : List Nat} (ht : okb t) : ∀ b ∈ bl.set i t, okb b := by
  intro b hb
  rcases List.mem_or_eq_of_mem_set hb with q | q
  · exact h b q
  · rw [q]; exact ht
def Kd15 (d M : Nat) (vU : Value) (L : Int) (F : Nat → Prop) (s : Dsk) (w w' : World) : Prop := Pd w' d M vU L F s ∧ Kp (fun k => k = M) w w'
set_option maxRecDepth 100000 in
set_option maxHeartbeats 4000000 in
theorem keep15 {w : World} {d M : Nat} {vU : Value} {L : Int} {F : Nat → Prop} {s : Dsk} (h : Pd w d M vU L F s) (i : Nat) (t : List Nat) (hi : i < s.bl.length) (ht : okb t) :
    Calls Tryz.prog 42 #[.pointer (some ⟨d, 0, none⟩), .int .i64 (i : Int), .agg (b8 t).toArray] w fun e w' => e = .returned (.tuple #[]) ∧ Kd15 d M vU L F { s with bl := s.bl.set i t } w w' := by
  obtain ⟨wA, hwA⟩ : ∃ wA, wA = w.alloc (.cells (b8 t).toArray 92) := ⟨_, rfl⟩
  have HA : Hid (Pd wA d M vU L F s ∧ Vb wA w.heap.size 92 (b8 t) ∧ Below w.heap.size w wA) := by
    rw [hwA]
    exact ⟨h.later (bel1 _ _), Vb.new _ _ _, bel1 _ _⟩
  have HI : Hid (i < s.bl.length ∧ okb t ∧ M < w.heap.size ∧ d < w.heap.size ∧ d ≠ M) := ⟨hi, ht, h.lt M h.fM, h.lt d h.fd, h.dM⟩
  clear h hi ht
  have c1 := HA.out.1.c1
  have hE := fun W => eq_zero15 t HI.out.2.1.1 W
  unfold bkV at hE
  have hg : Tryz.prog.eqGuardType Tryz.prog.depth 92 = false := by kernel_rfl
  have hbd := zero_blk15
  unfold bkV at hbd
  by_cases q : t = zr15
  · rw [decide_eq_true q] at hE
    obtain ⟨wD, hdel, hM, hK⟩ := map_del HA.out.1.mz i HI.out.1
    rw [← q] at hM
    unfold key15 at hdel
    have HR : Hid (Kd15 d M vU L F { s with bl := s.bl.set i t } w wD) :=
      ⟨HA.out.1.map hM hK (by rw [List.length_set]) (okb_set HA.out.1.ok.bl i HI.out.2.1), ((Kp.of HA.out.2.2).mono (fun _ q => q)).trans hK (fun k hk => Or.inl hk)⟩
    clear hM hK q
    go_enter Tryz.func42, Tryz.ntmps42
    go_upto_region 1 with fail
    rw [← hwA]
    clear hwA
    go_wp2_with (refine ldB rfl _ rfl w.heap.size 0 t rfl HA.out.2.1.all HI.out.2.1.1 ?_)
    refine bodyPost_ret (results_none rfl _ _ _) rfl ?_
    exact ⟨rfl, HR.out⟩
  · rw [decide_eq_false q] at hE
    go_enter Tryz.func42, Tryz.ntmps42
    go_upto_region 1 with fail
    rw [← hwA]
    clear hwA
    go_upto_region 3 with (refine ldB rfl _ rfl w.heap.size 0 t rfl HA.out.2.1.all HI.out.2.1.1 ?_)
    refine wp_region_held_drew (S := fun W => W.cell? ⟨d, 1, none⟩ = some (.map (some M)) ∧ Vb W w.heap.size 92 (b8 t)) (by kernel_rfl) ⟨c1, HA.out.2.1⟩ (fun HS => ?_)
    have HAd : Hid (Pd wA.drew d M vU L F s ∧ Below w.heap.size w wA.drew) := ⟨HA.out.1.kept (fun _ _ => rfl) (Nat.le_refl _), HA.out.2.2.drew⟩
    clear HA c1 hE hg hbd
    generalize wA.drew = wD at *
    obtain ⟨wE, hput, hM, hK⟩ := map_put HAd.out.1.mz i t HI.out.1
    unfold key15 bkV at hput
    have HR : Hid (Kd15 d M vU L F { s with bl := s.bl.set i t } w wE) :=
      ⟨HAd.out.1.map hM hK (by rw [List.length_set]) (okb_set HAd.out.1.ok.bl i HI.out.2.1), ((Kp.of HAd.out.2).mono (fun _ q => q)).trans hK (fun k hk => Or.inl hk)⟩
    have HSE : Hid (wE.cell? ⟨d, 1, none⟩ = some (.map (some M)) ∧ Vb wE w.heap.size 92 (b8 t)) := ⟨HR.out.1.c1, HS.2.kept (hK.block _ HS.2.lt (by have := HI.out.2.2.1; omega))⟩
    clear hM hK HAd q
    refine wpAnyH_take (i := 0) (v := ?v1) rfl (by kernel_rfl) (by kernel_rfl) (by kernel_rfl) (fun _ _ _ h => h) (Or.inl ⟨by kernel_rfl, ?h1⟩) HS ?r1
    case h1 => (rintro w ⟨n0, n1⟩; go_simp) <;> with_reducible rfl
    try simp only [Act.put, List.getElem_toArray, List.getElem_cons_succ, List.getElem_cons_zero, List.setIfInBounds_toArray, List.set_cons_zero, List.set_cons_succ]
    refine wpAnyH_take (i := 1) (v := ?v2) rfl (by kernel_rfl) (by kernel_rfl) (by kernel_rfl) (fun _ _ _ h => h) (Or.inl ⟨by kernel_rfl, ?h2⟩) HS ?r2
    case h2 => (rintro w ⟨n0, n1⟩; go_simp) <;> with_reducible rfl
    try simp only [Act.put, List.getElem_toArray, List.getElem_cons_succ, List.getElem_cons_zero, List.setIfInBounds_toArray, List.set_cons_zero, List.set_cons_succ]
    refine wpAnyH_take (i := 2) (v := ?v3) rfl (by kernel_rfl) (by kernel_rfl) (by kernel_rfl) (fun _ _ _ h => h) (Or.inl ⟨by kernel_rfl, ?h3⟩) HS ?r3
    case h3 => (rintro w ⟨n0, n1⟩; go_simp) <;> with_reducible rfl
    try simp only [Act.put, List.getElem_toArray, List.getElem_cons_succ, List.getElem_cons_zero, List.setIfInBounds_toArray, List.set_cons_zero, List.set_cons_succ]
    refine wpAnyH_take (i := 3) (v := ?v4) rfl (by kernel_rfl) (by kernel_rfl) (by kernel_rfl) (fun _ _ _ h => h) (Or.inl ⟨by kernel_rfl, ?h4⟩) HS ?r4
    case h4 => (rintro w ⟨n0, n1⟩; go_simp) <;> with_reducible rfl
    try simp only [Act.put, List.getElem_toArray, List.getElem_cons_succ, List.getElem_cons_zero, List.setIfInBounds_toArray, List.set_cons_zero, List.set_cons_succ]
    refine wpAnyH_take (i := 4) (v := ?v5) rfl (by kernel_rfl) (by kernel_rfl) (by kernel_rfl) (fun _ _ _ h => h) (Or.inl ⟨by kernel_rfl, ?h5⟩) HS ?r5
    case h5 => (rintro w ⟨n0, n1⟩; go_simp) <;> with_reducible rfl
    try simp only [Act.put, List.getElem_toArray, List.getElem_cons_succ, List.getElem_cons_zero, List.setIfInBounds_toArray, List.set_cons_zero, List.set_cons_succ]
    refine wpAnyH_take (i := 5) (v := .agg (b8 t).toArray) rfl (by kernel_rfl) (by kernel_rfl) (by kernel_rfl) (fun _ _ _ h => h) ?ha HS ?_
    case ha =>
      refine yieldsIf_load_mid (by kernel_rfl) 92 _ rfl w.heap.size 0 rfl (b8 t) _ ?_ und_blk15 rfl (by rw [b8_len, HI.out.2.1.1]; exact sz_blk15)
      exact fun W hW => hW.2.all
    try simp only [Act.put, List.getElem_toArray, List.getElem_cons_succ, List.getElem_cons_zero, List.setIfInBounds_toArray, List.set_cons_zero, List.set_cons_succ]
    refine wpAnyH_ready (rs := [6]) (by kernel_rfl) (by simp) ?_
    refine AllReadyH.cons rfl (fun K hK => ?_) AllReadyH.nil
    refine mpS rfl 64 _ _ _ rfl _ _ _ rfl rfl rfl hput ?_
    refine hK.out _ _ HSE.out (fun HS => ?_)
    clear hK K
    try simp only [Act.put, List.getElem_toArray, List.getElem_cons_succ, List.getElem_cons_zero, List.setIfInBounds_toArray, List.set_cons_zero, List.set_cons_succ]
    refine wpAnyH_done (by kernel_rfl) ?_ _
    clear HS HSE hput
    go_wp2
    go_end0
    exact ⟨rfl, HR.out⟩
end Go.Proofs.YthnpdcblfocemaaGreatDoor
set_option linter.unusedVariables false
set_option linter.unusedSimpArgs false
namespace Go.Proofs.YthnpdcblfocemaaGreatDoor
open Go.RowKit

theorem info_wr15 : (Tryz.prog.info? 94).map (fun i => (i.zero, i.size, i.bytes)) = some (some (.agg (wr15 (0, zr15)).toArray), 129, 136) := by kernel_rfl
theorem sz_wr15 : (Tryz.prog.info? 94).map (·.size) = some 129 := by kernel_rfl
theorem und_wrs15 : Tryz.prog.underlying 65 = some (.slice 94) := by kernel_rfl
theorem und_wr15 : ∃ fs, Tryz.prog.underlying 94 = some (.struct fs) := by
  have h : (match Tryz.prog.underlying 94 with | some (.struct _) => true | _ => false) = true := by kernel_rfl
  cases hq : Tryz.prog.underlying 94 with
  | none => rw [hq] at h; cases h
  | some u =>
    rw [hq] at h
    cases u <;> first | exact ⟨_, rfl⟩ | cases h
theorem zero_wr15 (w : World) : (zeroValue 94).run Tryz.prog w = .ok (.agg (wr15 (0, zr15)).toArray) w := by
  have h := info_wr15
  cases hq : Tryz.prog.info? 94 with
  | none => rw [hq] at h; simp at h
  | some i =>
    rw [hq] at h
    simp only [Option.map_some, Option.some.injEq, Prod.mk.injEq] at h
    simp [zeroValue, typeInfo, hq, h.1]
theorem built_wr15 (i : Int) : Tryz.prog.built 94 [(0, .int .i64 i)] = some (Value.int .i64 i :: b8 zr15).toArray := by kernel_rfl
theorem bdW {ops : Array Oper} {rest : List Oper} {o : Oper} {a : Act} {w : World} {Q : Exit → Act → World → Prop} (hgd : o.guard = none) (x : Operand) (ho : o.op = .build 94 #[(0, x)])
    (i : Nat) (hx : a.eval x = .int .i64 (i : Int)) (h : wpList Tryz.prog ops Q rest (a.put o.dst (.agg (wr15 (i, zr15)).toArray)) w) : wpList Tryz.prog ops Q (o :: rest) a w :=
  wpList_plain hgd fun K hK => by
    have hrun : (Instr.build 94 #[(0, .int .i64 (i : Int))]).run Tryz.prog w = .ok (.agg (wr15 (i, zr15)).toArray) w := run_build w _ _ _ (built_wr15 (i : Int))
    unfold Oper.wp
    simp [execOp, ho, hx, hrun, Result.andThen]
    exact hK _ _ h
theorem splice_wr (i : Nat) (b : List Nat) (n : Nat) (hn : b.length = n) (h : n ≤ 128) : splice (wr15 (i, zr15)) 1 (b8 (b.take n)) = wr15 (i, full b) := by
  subst hn
  rw [List.take_length]
  have e2 : (wr15 (i, zr15)).drop (1 + b.length) = b8 (List.replicate (128 - b.length) 0) := by
    rw [Nat.add_comm]
    show (b8 zr15).drop b.length = _
    simp only [b8, zr15, List.map_replicate, List.drop_replicate]
  have e1 : (wr15 (i, zr15)).take 1 = [.int .i64 (i : Int)] := rfl
  unfold splice
  rw [b8_len, e1, e2]
  unfold wr15 full
  rw [b8_app]
  rfl
theorem bsl15 (u : Nat × List Nat) (hu : u.2.length = 128) (w : World) : (Instr.buildSlice 65 1 #[(0, .agg (wr15 u).toArray)]).run Tryz.prog w = .ok (.slice (some ⟨w.heap.size, 0, none⟩) 1 1) (w.alloc (.cells (wr15 u).toArray 94)) := by
  have h := info_wr15
  cases hq : Tryz.prog.info? 94 with
  | none => rw [hq] at h; simp at h
  | some i =>
    rw [hq] at h
    simp only [Option.map_some, Option.some.injEq, Prod.mk.injEq] at h
    obtain ⟨h1, h2, h3⟩ := h
    have hz : (wr15 (0, zr15)).toArray.size = 129 := by rw [List.size_toArray, wr15_len zr_len]
    have hf := Great.fill_whole (s := 129) (by omega) [Value.agg (wr15 u).toArray] ((Array.range (1 * 129)).map ((Value.agg (wr15 (0, zr15)).toArray).cells[· % (Value.agg (wr15 (0, zr15)).toArray).cells.size]!)) (fun v hv => by
      rw [List.mem_singleton] at hv
      subst hv
      show (wr15 u).toArray.size = 129
      rw [List.size_toArray, wr15_len hu]) (by simp)
    have e : ([Value.agg (wr15 u).toArray].flatMap fun v => v.cells.toList).toArray = (wr15 u).toArray := by simp [Value.cells]
    rw [e] at hf
    exact run_buildSlice w 65 94 1 _ _ i _ und_wrs15 hq h1 (by rw [h2]; decide) (by rw [h2]; decide) (by rw [h2]; exact hf)
theorem bsS {ops : Array Oper} {o : Oper} {a : Act} {w : World} {K : Act → World → Prop} {Q : Exit → Act → World → Prop} {E : Prop} (hgd : o.guard = none) (x : Operand) (ho : o.op = .buildSlice 65 1 #[(0, x)])
    (u : Nat × List Nat) (hu : u.2.length = 128) (hx : a.eval x = .agg (wr15 u).toArray) (h : K (a.put o.dst (.slice (some ⟨w.heap.size, 0, none⟩) 1 1)) (w.alloc (.cells (wr15 u).toArray 94))) : if Region.wanted o (yielded ops a.tmps) = true then Oper.wp Tryz.prog o a w K Q else E := by
  have hw : Region.wanted o (yielded ops a.tmps) = true := by simp [Region.wanted, hgd]
  rw [if_pos hw]
  unfold Oper.wp
  simp [execOp, ho, hx, bsl15 u hu w, Result.andThen]
  exact h
theorem apS15 {ops : Array Oper} {o : Oper} {a : Act} {w : World} {K : Act → World → Prop} {Q : Exit → Act → World → Prop} {E : Prop} (hgd : o.guard = none) (s x : Operand)
    (ho : o.op = .call { callee := .builtin .append, args := #[s, x], argTypes := #[65, 65] })
    (v : Value) (m : Nat) (xs : List Value) (hs : a.eval s = v) (hO : w.ownsRow 0 94 129 v m xs) (g : Nat) (u : Nat × List Nat) (hu : u.2.length = 128) (hx : a.eval x = .slice (some ⟨g, 0, none⟩) 1 1) (hV : Vb w g 94 (wr15 u)) (hm : m ≤ 1000)
    (h : ∀ gn cn w', w'.ownsRow 0 94 129 (.slice (some ⟨gn, 0, none⟩) (m + 1) cn) (m + 1) (xs ++ wr15 u) → w.grownBy w' v.ownBlock → (∀ k, (Value.slice (some ⟨gn, 0, none⟩) (m + 1) cn).ownBlock = some k → v.ownBlock = some k ∨ w.heap.size ≤ k) → K (a.put o.dst (.slice (some ⟨gn, 0, none⟩) (m + 1) cn)) w') : if Region.wanted o (yielded ops a.tmps) = true then Oper.wp Tryz.prog o a w K Q else E := by
  have hw : Region.wanted o (yielded ops a.tmps) = true := by simp [Region.wanted, hgd]
  rw [if_pos hw]
  have hi := info_wr15
  cases hq : Tryz.prog.info? 94 with
  | none => rw [hq] at hi; simp at hi
  | some i =>
    rw [hq] at hi
    simp only [Option.map_some, Option.some.injEq, Prod.mk.injEq] at hi
    obtain ⟨h1, h2, h3⟩ := hi
    obtain ⟨v', w', e1, e2, e3, -, e5⟩ := run_append_own_at (P := Tryz.prog) w 0 65 o.type 94 i (.agg (wr15 (0, zr15)).toArray) 129 136 und_wrs15 hq h1 h2 h3 (by show (wr15 (0, zr15)).toArray.size = 129; rw [List.size_toArray, wr15_len zr_len]) (by omega) v m xs hO ⟨g, 0, none⟩ 1 1 (wr15 u)
      (by rw [wr15_len hu]) (fun j y hj => by rw [Addr.add_mid, Nat.zero_add]; exact hV.cell j y hj) (wr15_one u) (by unfold maxLen; omega) (by omega) (Nat.zero_le _)
    obtain ⟨gn, cn, rfl⟩ := own_succ e2
    unfold Oper.wp
    simp [execOp, ho, resolve, invoke, builtin, hs, hx, e1, Result.andThen]
    refine h gn cn w' e2 e3 (fun k hk => ?_)
    rcases e5 with q | q
    · exact Or.inl (q ▸ hk)
    · rw [q] at hk
      exact Or.inr (by have := Option.some.inj hk; omega)
set_option maxRecDepth 100000 in
set_option maxHeartbeats 8000000 in
theorem write15 (w : World) (p : Value) (F : Nat → Prop) (s : Dsk) (i : Int) (v : Value) (b : List Nat) (h : PD w p F s) (hv : Bs w v b) (hnf : Nf F v) (hb : ∀ c ∈ b, c < 256) (hl : b.length ≤ 2000000) (hu : s.un.length ≤ 1000) :
    Calls Tryz.prog 77 #[p, .int .i64 i, v] w fun e w' => e = .returned (.int .i64 ((wrE s i b : Nat) : Int)) ∧ Ad PD p F (wrS s i b) w w' := by
  obtain ⟨d, M, vU, L, rfl, h⟩ := h
  have hr := runs_yes h
  have hh := has_any h i
  have HR : Hid (Pd w d M vU L F s) := h
  have HL : Hid (Bs w v b ∧ ∀ c ∈ b, c < 256) := ⟨hv, hb⟩
  obtain ⟨av, cv, rfl, -, -⟩ := hv.len
  obtain ⟨aU, pU, rfl⟩ := h.sU
  have HE : Hid (wrE s i b = if dAsk s i ≠ 0 then dAsk s i else if 128 < b.length then 3 else if dGo s = true then 0 else 150) := rfl
  have HST : Hid (wrS s i b = if dAsk s i ≠ 0 ∨ 128 < b.length then s else dGone { s with un := s.un ++ [(i.toNat, full b)] }) := rfl
  obtain ⟨n, hn⟩ : ∃ n, b.length = n := ⟨_, rfl⟩
  have HN : Hid (b.length = n) := hn
  rw [hn] at HE HST HL ⊢
  obtain ⟨m, hm⟩ : ∃ m, s.un.length = m := ⟨_, rfl⟩
  have HM : Hid (s.un.length = m ∧ m ≤ 1000) := ⟨hm, by omega⟩
  rw [hm] at HR
  clear h hv hb hl hn hm hu hnf
  by_cases hd : s.dn = true
  · have ha : dAsk s i = 150 := by unfold dAsk; rw [if_pos hd]
    rw [ha, if_pos (by omega)] at HE
    rw [ha, if_pos (Or.inl (by omega))] at HST
    rw [if_pos hd] at hr
    clear hd ha hh
    go_enter Tryz.func77, Tryz.ntmps77
    go_wp2_with (go_at_call 90; refine hr.mono ?_; rintro e w' ⟨rfl, hw⟩; replace hw := hw.symm; subst hw; clear hr)
    go_ret
    exact ⟨by rw [HE.out]; rfl, F, by rw [HST.out]; exact ⟨d, M, _, L, rfl, HR.out⟩, fun k hk => Or.inl hk, Kp.refl _ _⟩
  rw [if_neg hd] at hr
  by_cases hi : ¬ (0 ≤ i ∧ i < (s.bl.length : Int))
  · have ha : dAsk s i = 151 := by unfold dAsk; rw [if_neg hd, if_pos (by omega)]
    rw [ha, if_pos (by omega)] at HE
    rw [ha, if_pos (Or.inl (by omega))] at HST
    rw [decide_eq_false hi] at hh
    clear hd ha hi
    go_enter Tryz.func77, Tryz.ntmps77
    go_wp2_with (first
      | (go_at_call 90; refine hr.mono ?_; rintro e w' ⟨rfl, hw⟩; replace hw := hw.symm; subst hw; clear hr)
      | (go_at_call 45; refine hh.mono ?_; rintro e w' ⟨rfl, hw⟩; replace hw := hw.symm; subst hw; clear hh))
    go_ret
    exact ⟨by rw [HE.out]; rfl, F, by rw [HST.out]; exact ⟨d, M, _, L, rfl, HR.out⟩, fun k hk => Or.inl hk, Kp.refl _ _⟩
  have hi := Decidable.not_not.1 hi
  have ha : dAsk s i = 0 := by unfold dAsk; rw [if_neg hd, if_neg (by omega)]
  rw [ha, if_neg (by omega)] at HE
  rw [ha] at HST
  rw [decide_eq_true hi] at hh
  obtain ⟨I, rfl⟩ : ∃ I : Nat, i = (I : Int) := ⟨i.toNat, by omega⟩
  have HI : Hid (I < s.bl.length) := by have := hi.2; show I < _; omega
  rw [Int.toNat_natCast] at HST
  clear hd ha hi
  by_cases q1 : 128 < n
  · have q1I : (128 : Int) < (n : Int) := by omega
    rw [if_pos q1] at HE
    rw [if_pos (Or.inr q1)] at HST
    go_enter Tryz.func77, Tryz.ntmps77
    go_wp2_with (first
      | (go_at_call 90; refine hr.mono ?_; rintro e w' ⟨rfl, hw⟩; replace hw := hw.symm; subst hw; clear hr)
      | (go_at_call 45; refine hh.mono ?_; rintro e w' ⟨rfl, hw⟩; replace hw := hw.symm; subst hw; clear hh))
    go_ret
    exact ⟨by rw [HE.out]; rfl, F, by rw [HST.out]; exact ⟨d, M, _, L, rfl, HR.out⟩, fun k hk => Or.inl hk, Kp.refl _ _⟩
  have q1I : ¬ (128 : Int) < (n : Int) := by omega
  rw [if_neg q1] at HE
  rw [if_neg (by omega)] at HST
  have HN2 : Hid (n ≤ 128) := by show n ≤ 128; omega
  have hz := zero_wr15
  have HZ : Hid ((wr15 (I, zr15)).length = 129 ∧ (wr15 (0, zr15)).length = 129) := ⟨wr15_len zr_len, wr15_len zr_len⟩
  go_enter Tryz.func77, Tryz.ntmps77
  go_upto_region 9 with (first
    | (go_at_call 90; refine hr.mono ?_; rintro e w' ⟨rfl, hw⟩; replace hw := hw.symm; subst hw; clear hr)
    | (go_at_call 45; refine hh.mono ?_; rintro e w' ⟨rfl, hw⟩; replace hw := hw.symm; subst hw; clear hh)
    | (refine bdW rfl _ rfl I rfl ?_)
    | (refine alV rfl 94 (wr15 (0, zr15)) hz rfl ?_; intro wB hV hB hS)
    | (refine stV rfl 94 _ _ rfl _ (wr15 (0, zr15)) (wr15 (I, zr15)) rfl rfl hV (by rw [HZ.out.1, HZ.out.2]) (by rw [HZ.out.1]; exact sz_wr15) (wr15_one _) ?_; intro wC hVC hKC hSC))
  have HC : Hid (Vb wC w.heap.size 94 (wr15 (I, zr15)) ∧ Below w.heap.size w wC ∧ wC.heap.size = w.heap.size + 1) := ⟨hVC, hKC.next hB (fun i hi => by omega) hB.size, by omega⟩
  have HBv : Hid (Bs wC (.slice av n cv) b) := HL.out.1.later HC.out.2.1
  clear hV hB hS hVC hKC hSC hz
  go_upto_region 10 with (refine cpW rfl _ _ rfl w.heap.size 1 (wr15 (I, zr15)) 94 b n 128 128 n cv _ _ rfl rfl HC.out.1 HN.out (Nat.min_eq_left HN2.out).symm (fun _ => rfl) HBv.out (by rw [HZ.out.1]; have := HN2.out; omega) ?_; intro wD hVD hKD hSD)
  rw [splice_wr I b n HN.out HN2.out] at hVD
  have HD : Hid (Vb wD.drew w.heap.size 94 (wr15 (I, full b)) ∧ Below w.heap.size w wD.drew ∧ wD.drew.heap.size = w.heap.size + 1) := ⟨hVD.kept rfl, (hKD.next HC.out.2.1 (fun i hi => by omega) HC.out.2.1.size).drew, hSD.trans HC.out.2.2⟩
  clear hVD hKD hSD HC HBv
  have HF : Hid ((full b).length = 128 ∧ okb (full b)) := by
    have h := full_ok (b := b) (by have := HN.out; have := HN2.out; omega) HL.out.2
    exact ⟨h.1, h⟩
  have HP : Hid (Pd wD.drew d M (.slice aU m pU) L F s) := HR.out.later HD.out.2.1
  have d2 := HP.out.c2
  try simp only [Act.put, List.getElem_toArray, List.getElem_cons_succ, List.getElem_cons_zero, List.setIfInBounds_toArray, List.set_cons_zero, List.set_cons_succ]
  refine wp_region_held_drew (S := fun W => Vb W w.heap.size 94 (wr15 (I, full b))) (by kernel_rfl) HD.out.1 (fun HS => ?_)
  have HS0 := HS
  generalize wD.drew = q0 at *
  obtain ⟨fs, hfs⟩ := und_wr15
  refine wpAnyH_take (i := 0) (v := ?v1) rfl (by kernel_rfl) (by kernel_rfl) (by kernel_rfl) (fun _ _ _ h => h) (Or.inl ⟨by kernel_rfl, ?h1⟩) HS ?r1
  case h1 => (rintro w n0; go_simp) <;> with_reducible rfl
  try simp only [Act.put, List.getElem_toArray, List.getElem_cons_succ, List.getElem_cons_zero, List.setIfInBounds_toArray, List.set_cons_zero, List.set_cons_succ]
  refine wpAnyH_take (i := 1) (v := ?v2) rfl (by kernel_rfl) (by kernel_rfl) (by kernel_rfl) (fun _ _ _ h => h) (Or.inl ⟨by kernel_rfl, ?h2⟩) HS ?r2
  case h2 => (rintro w n0; go_simp) <;> with_reducible rfl
  try simp only [Act.put, List.getElem_toArray, List.getElem_cons_succ, List.getElem_cons_zero, List.setIfInBounds_toArray, List.set_cons_zero, List.set_cons_succ]
  refine wpAnyH_take (i := 2) (v := ?v3) rfl (by kernel_rfl) (by kernel_rfl) (by kernel_rfl) (fun _ _ _ h => h) (Or.inl ⟨by kernel_rfl, ?h3⟩) HS ?r3
  case h3 => (rintro w n0; go_simp) <;> with_reducible rfl
  try simp only [Act.put, List.getElem_toArray, List.getElem_cons_succ, List.getElem_cons_zero, List.setIfInBounds_toArray, List.set_cons_zero, List.set_cons_succ]
  refine wpAnyH_take (i := 3) (v := ?v4) rfl (by kernel_rfl) (by kernel_rfl) (by kernel_rfl) (fun _ _ _ h => h) (Or.inl ⟨by kernel_rfl, ?h4⟩) HS ?r4
  case h4 => (rintro w n0; go_simp) <;> with_reducible rfl
  try simp only [Act.put, List.getElem_toArray, List.getElem_cons_succ, List.getElem_cons_zero, List.setIfInBounds_toArray, List.set_cons_zero, List.set_cons_succ]
  refine wpAnyH_take (i := 5) (v := .agg (wr15 (I, full b)).toArray) rfl (by kernel_rfl) (by kernel_rfl) (by kernel_rfl) (fun _ _ _ h => h) ?ha HS ?_
  case ha =>
    refine yieldsIf_load_mid (by kernel_rfl) 94 _ rfl w.heap.size 0 rfl (wr15 (I, full b)) _ ?_ hfs rfl (by rw [wr15_len HF.out.1]; exact sz_wr15)
    exact fun W hW => Vb.all hW
  try simp only [Act.put, List.getElem_toArray, List.getElem_cons_succ, List.getElem_cons_zero, List.setIfInBounds_toArray, List.set_cons_zero, List.set_cons_succ]
  have d3 : ∀ ob, (q0.alloc ob).cell? ⟨d, 2, none⟩ = some (.slice aU m pU) := fun ob => cell_later (bel1 _ _) d2
  have HA : Hid (Vb (q0.alloc (.cells (wr15 (I, full b)).toArray 94)) w.heap.size 94 (wr15 (I, full b)) ∧ Vb (q0.alloc (.cells (wr15 (I, full b)).toArray 94)) q0.heap.size 94 (wr15 (I, full b)) ∧ (q0.alloc (.cells (wr15 (I, full b)).toArray 94)).ownsRow 0 94 129 (.slice aU m pU) m (wcs s.un) ∧ Below w.heap.size w (q0.alloc (.cells (wr15 (I, full b)).toArray 94)) ∧ (q0.alloc (.cells (wr15 (I, full b)).toArray 94)).heap.size = w.heap.size + 2) :=
    ⟨HS0.old _, Vb.new _ _ _, by have h := (HP.out.later (bel1 q0 (.cells (wr15 (I, full b)).toArray 94))).rU; rw [HM.out.1] at h; exact h, HD.out.2.1.trans ⟨rfl, rfl, rfl, by simp, fun k hk => Below.heap_alloc _ _ _ (by have := HD.out.2.2; omega)⟩, by rw [World.size_alloc, HD.out.2.2]⟩
  refine wpAnyH_ready (rs := [4, 6]) (by kernel_rfl) (by simp) ?_
  refine AllReadyH.cons rfl (fun K hK => ?ba) (AllReadyH.cons rfl (fun K hK => ?bb) AllReadyH.nil)
  case' ba =>
    go_simp
    refine hK.out _ _ HS0 (fun HS => ?_)
    clear hK K
    try simp only [Act.put, List.getElem_toArray, List.getElem_cons_succ, List.getElem_cons_zero, List.setIfInBounds_toArray, List.set_cons_zero, List.set_cons_succ]
    refine wpAnyH_ready (rs := [6]) (by kernel_rfl) (by simp) ?_
    refine AllReadyH.cons rfl (fun K hK => ?_) AllReadyH.nil
    refine bsS rfl _ rfl (I, full b) HF.out.1 rfl ?_
    refine hK.out _ _ HA.out.1 (fun HS => ?_)
    clear hK K
    try simp only [Act.put, List.getElem_toArray, List.getElem_cons_succ, List.getElem_cons_zero, List.setIfInBounds_toArray, List.set_cons_zero, List.set_cons_succ]
  case' bb =>
    refine bsS rfl _ rfl (I, full b) HF.out.1 rfl ?_
    refine hK.out _ _ HA.out.1 (fun HS => ?_)
    clear hK K
    try simp only [Act.put, List.getElem_toArray, List.getElem_cons_succ, List.getElem_cons_zero, List.setIfInBounds_toArray, List.set_cons_zero, List.set_cons_succ]
    refine wpAnyH_ready (rs := [4]) (by kernel_rfl) (by simp) ?_
    refine AllReadyH.cons rfl (fun K hK => ?_) AllReadyH.nil
    go_simp
    refine hK.out _ _ HA.out.1 (fun HS => ?_)
    clear hK K
    try simp only [Act.put, List.getElem_toArray, List.getElem_cons_succ, List.getElem_cons_zero, List.setIfInBounds_toArray, List.set_cons_zero, List.set_cons_succ]
  all_goals
    clear d2 d3
    generalize q0.alloc (.cells (wr15 (I, full b)).toArray 94) = q1 at *
    refine wpAnyH_ready (rs := [7]) (by kernel_rfl) (by simp) ?_
    refine AllReadyH.cons rfl (fun K hK => ?_) AllReadyH.nil
    refine apS15 rfl _ _ rfl (.slice aU m pU) m (wcs s.un) rfl HA.out.2.2.1 q0.heap.size (I, full b) HF.out.1 rfl HA.out.2.1 HM.out.2 ?_
    intro gn cn q2 hO2 hg2 hat2
    obtain ⟨F2, HAdd⟩ : ∃ F2 : Nat → Prop, Hid (Pd (q2.setCell ⟨d, 2, none⟩ (.slice (some ⟨gn, 0, none⟩) (m + 1) cn)) d M (.slice (some ⟨gn, 0, none⟩) (m + 1) cn) L F2 { s with un := s.un ++ [(I, full b)] } ∧ Kp F w (q2.setCell ⟨d, 2, none⟩ (.slice (some ⟨gn, 0, none⟩) (m + 1) cn)) ∧ Gr F F2 w ∧ (∀ k, F k → F2 k)) :=
      ⟨_, by have h := HR.out.add HA.out.2.2.2.1 I (full b) HI.out HF.out.2 (by rw [HM.out.1]; exact hO2) hg2 hat2; exact ⟨h.1, h.2, fun k hk => by rcases hk with q | q; exact Or.inl q; exact Or.inr q.1, fun k hk => Or.inl hk⟩⟩
    have HQ : Hid (q2.cell? ⟨d, 2, none⟩ = some (.slice aU m pU) ∧ q2.frozen? ⟨d, 2, none⟩ = false ∧ Vb q2 w.heap.size 94 (wr15 (I, full b))) := by
      have hB := HA.out.2.2.2.1
      have hs := hB.size
      have hd := HR.out.lt d HR.out.fd
      have hud : (Value.slice aU m pU).ownBlock ≠ some d := fun e => (HR.out.gU d e).2.1 rfl
      have hbd : q2.heap[d]? = w.heap[d]? := (hg2.block d (by omega) (fun e => hud e.symm)).trans (hB.block d hd)
      refine ⟨cell_blk5 (a := ⟨d, 2, none⟩) hbd HR.out.c2, frz_blk5 (a := ⟨d, 2, none⟩) hbd (HR.out.f0 2 (by omega)), HA.out.1.kept (hg2.block _ (by have := HA.out.2.2.2.2; omega) (fun e => ?_))⟩
      have := (HR.out.rU.lt _ e.symm).2
      omega
    have cq2 := HQ.out.1
    have fq2 := HQ.out.2.1
    have HVf : Hid (Vb (q2.setCell ⟨d, 2, none⟩ (.slice (some ⟨gn, 0, none⟩) (m + 1) cn)) w.heap.size 94 (wr15 (I, full b))) := HQ.out.2.2.kept (out5 (by have := HR.out.lt d HR.out.fd; omega))
    refine hK.out _ _ HQ.out.2.2 (fun HS => ?_)
    clear hK K hO2 hg2 hat2 HA
    try simp only [Act.put, List.getElem_toArray, List.getElem_cons_succ, List.getElem_cons_zero, List.setIfInBounds_toArray, List.set_cons_zero, List.set_cons_succ]
    refine wpAnyH_take (i := 8) (v := ?_) rfl (by kernel_rfl) (by kernel_rfl) (by kernel_rfl) (fun _ _ _ h => h) (Or.inl ⟨by kernel_rfl, ?_⟩) HS ?_
    rotate_left
    · (rintro w n0; go_simp) <;> with_reducible rfl
    try simp only [Act.put, List.getElem_toArray, List.getElem_cons_succ, List.getElem_cons_zero, List.setIfInBounds_toArray, List.set_cons_zero, List.set_cons_succ]
    refine wpAnyH_take (i := 9) (v := ?_) rfl (by kernel_rfl) (by kernel_rfl) (by kernel_rfl) (fun _ _ _ h => h) (Or.inl ⟨by kernel_rfl, ?_⟩) HS ?_
    rotate_left
    · (rintro w n0; go_simp) <;> with_reducible rfl
    try simp only [Act.put, List.getElem_toArray, List.getElem_cons_succ, List.getElem_cons_zero, List.setIfInBounds_toArray, List.set_cons_zero, List.set_cons_succ]
    refine wpAnyH_ready (rs := [10]) (by kernel_rfl) (by simp) ?_
    refine AllReadyH.cons rfl (fun K hK => ?_) AllReadyH.nil
    go_simp
    refine hK.out _ _ HVf.out (fun HS => ?_)
    clear hK K cq2 fq2 HQ HVf
    try simp only [Act.put, List.getElem_toArray, List.getElem_cons_succ, List.getElem_cons_zero, List.setIfInBounds_toArray, List.set_cons_zero, List.set_cons_succ]
    refine wpAnyH_done (by kernel_rfl) ?_ _
    clear HS HS0
    generalize q2.setCell ⟨d, 2, none⟩ (.slice (some ⟨gn, 0, none⟩) (m + 1) cn) = q3 at *
    have hsp := spend_any HAdd.out.1
    have HSp : Hid (spE { s with un := s.un ++ [(I, full b)] } = if dGo s = true then 0 else 150) := rfl
    generalize spE { s with un := s.un ++ [(I, full b)] } = E at *
    go_wp2_with (go_at_call 91; refine hsp.mono ?_; rintro e q4 ⟨rfl, hX⟩; clear hsp)
    obtain ⟨L4, hP4, hK4⟩ := hX
    have HFin : Hid (Ad PD (.pointer (some ⟨d, 0, none⟩)) F (dGone { s with un := s.un ++ [(I, full b)] }) w q4) := ⟨F2, ⟨d, M, _, L4, rfl, hP4⟩, HAdd.out.2.2.1, HAdd.out.2.1.trans hK4 (fun k hk => Or.inl (by rw [hk]; exact HR.out.fd))⟩
    go_ret
    exact ⟨by rw [HE.out, ← HSp.out]; rfl, by rw [HST.out]; exact HFin.out⟩
end Go.Proofs.YthnpdcblfocemaaGreatDoor
