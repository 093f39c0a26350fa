/-
The program's disk: New, Blocks, Down, Arm, Safe.
The program's disk: what keep makes safe.
-/
import Derived.Test.YtpmmfmlldkdfhaaDoorZ32

set_option linter.unusedVariables false
set_option linter.unusedSimpArgs false
namespace Go.Proofs.YtpmmfmlldkdfhaaDoor
open Go.RowKit

set_option maxRecDepth 100000 in
set_option maxHeartbeats 4000000 in
theorem new15 (w : World) (n : Nat) (h1 : 1 ≤ n) (h2 : n ≤ 16384) :
    Calls Tryd.prog 9 #[.int .i64 (n : Int)] w fun e w' => ∃ p F, e = .returned (.tuple #[p, .int .i64 0]) ∧ PD w' p F (dNew n) ∧ (∀ k, F k → w.heap.size ≤ k) ∧ Below w.heap.size w w' := by
  obtain ⟨wB, hwB⟩ : ∃ wB, wB = (w.alloc (.map #[] 0)).alloc (.cells #[.int .i64 (n : Int), .map (some w.heap.size), .slice none 0 0, .int .i64 (-1), .bool false] 66) := ⟨_, rfl⟩
  have HM : Hid (Mz wB w.heap.size (List.replicate n zr15)) := by
    rw [hwB]
    exact (Mz.made w n).kept (Below.heap_alloc _ _ _ (by simp))
  have HB : Hid (Below w.heap.size w wB) := by rw [hwB]; exact bel2 _ _ _
  have HP : Hid (PD wB (.pointer (some ⟨w.heap.size + 1, 0, none⟩)) (fun k => k = w.heap.size ∨ k = w.heap.size + 1) (dNew n)) := by
    refine ⟨w.heap.size + 1, w.heap.size, .slice none 0 0, -1, rfl, ?_⟩
    have hz : (dNew n).bl = List.replicate n zr15 := rfl
    have hl : (dNew n).bl.length = n := by rw [hz, List.length_replicate]
    refine ⟨okD_new n, ?_, Or.inr rfl, Or.inl rfl, fun g hg => (by cases hg), by omega, by omega, by omega, ?_, ?_, ?_, ?_, ?_, ?_, World.ownsRow_nil _ _ _ _, HM.out, rfl, fun q => (by cases q), ⟨by omega, by omega⟩⟩
    · intro k hk
      rw [hwB]
      simp
      omega
    · rw [hl, hwB]; simp [go_sem]
    · rw [hwB]; simp [go_sem]
    · rw [hwB]; simp [go_sem]
    · rw [hwB]; simp [go_sem]
    · rw [hwB]; simp [go_sem, dNew]
    · intro k hk
      rw [hwB]; simp [go_sem]
  have q1 : ¬ (n : Int) < 1 := by omega
  have q2 : ¬ (16384 : Int) < (n : Int) := by omega
  have q3 : 1 ≤ n := h1
  have q4 : n ≤ 16384 := h2
  have hmk : (Instr.makeMap 63 none).run Tryd.prog w = .ok (.map (some w.heap.size)) (w.alloc (.map #[] 0)) := by
    simp [Instr.makeMap, run_underlying und_map15, go_sem, Result.andThen]
  clear HM h1 h2
  go_enter Tryd.func9, Tryd.ntmps9
  go_wp2
  go_ret2
  rw [← hwB]
  exact ⟨_, rfl, _, HP.out, fun k (hk : k = w.heap.size ∨ k = w.heap.size + 1) => by omega, HB.out⟩
set_option maxRecDepth 100000 in
set_option maxHeartbeats 4000000 in
theorem newN15 (w : World) (n : Int) (h : n < 1 ∨ 16384 < n) :
    Calls Tryd.prog 9 #[.int .i64 n] w fun e w' => e = .returned (.tuple #[.pointer none, .int .i64 2]) ∧ Below w.heap.size w w' := by
  by_cases q : n < 1
  · clear h
    go_enter Tryd.func9, Tryd.ntmps9
    go_wp2
    go_ret2
    exact ⟨rfl, Below.refl _ _⟩
  · have q2 : 16384 < n := by omega
    clear h
    go_enter Tryd.func9, Tryd.ntmps9
    go_wp2
    go_ret2
    exact ⟨rfl, Below.refl _ _⟩
set_option maxRecDepth 100000 in
set_option maxHeartbeats 4000000 in
theorem blocks15 (w : World) (p : Value) (F : Nat → Prop) (s : Dsk) (h : PD w p F s) :
    Calls Tryd.prog 28 #[p] w fun e w' => e = .returned (.int .i64 ((s.bl.length : Nat) : Int)) ∧ Below w.heap.size w w' := by
  obtain ⟨d, M, vU, L, rfl, h⟩ := h
  have hm := made_yes h
  have c0 := h.c0
  clear h
  generalize s.bl.length = n at *
  go_enter Tryd.func28, Tryd.ntmps28
  go_wp2_with (go_at_call 35; refine hm.mono ?_; rintro e w' ⟨rfl, hw⟩; replace hw := hw.symm; subst hw; clear hm)
  go_ret
  exact ⟨rfl, Below.refl _ _⟩
set_option maxRecDepth 100000 in
set_option maxHeartbeats 4000000 in
theorem blocksN15 (w : World) (p : Value) (h : Nd w p) :
    Calls Tryd.prog 28 #[p] w fun e w' => e = .returned (.int .i64 0) ∧ Below w.heap.size w w' := by
  have hm := made_no h
  go_enter Tryd.func28, Tryd.ntmps28
  go_wp2_with (go_at_call 35; refine hm.mono ?_; rintro e w' ⟨rfl, hw⟩; replace hw := hw.symm; subst hw; clear hm)
  go_ret
  exact ⟨rfl, Below.refl _ _⟩
set_option maxRecDepth 100000 in
set_option maxHeartbeats 4000000 in
theorem down15 (w : World) (p : Value) (F : Nat → Prop) (s : Dsk) (h : PD w p F s) :
    Calls Tryd.prog 45 #[p] w fun e w' => e = .returned (.bool s.dn) ∧ Below w.heap.size w w' := by
  obtain ⟨d, M, vU, L, rfl, h⟩ := h
  have hm := made_yes h
  have c4 := h.c4
  clear h
  generalize s.dn = dn at *
  go_enter Tryd.func45, Tryd.ntmps45
  go_wp2_with (go_at_call 35; refine hm.mono ?_; rintro e w' ⟨rfl, hw⟩; replace hw := hw.symm; subst hw; clear hm)
  go_ret
  exact ⟨rfl, Below.refl _ _⟩
set_option maxRecDepth 100000 in
set_option maxHeartbeats 4000000 in
theorem downN15 (w : World) (p : Value) (h : Nd w p) :
    Calls Tryd.prog 45 #[p] w fun e w' => e = .returned (.bool false) ∧ Below w.heap.size w w' := by
  have hm := made_no h
  go_enter Tryd.func45, Tryd.ntmps45
  go_wp2_with (go_at_call 35; refine hm.mono ?_; rintro e w' ⟨rfl, hw⟩; replace hw := hw.symm; subst hw; clear hm)
  go_ret
  exact ⟨rfl, Below.refl _ _⟩
set_option maxRecDepth 100000 in
set_option maxHeartbeats 4000000 in
theorem arm15 (w : World) (p : Value) (F : Nat → Prop) (s : Dsk) (n : Int) (h : PD w p F s) (hn : Bd64 n) :
    Calls Tryd.prog 18 #[p, .int .i64 n] w fun e w' => e = .returned (.tuple #[]) ∧ Ad PD p F (arS s n) w w' := by
  obtain ⟨d, M, vU, L, rfl, h⟩ := h
  have hm := made_yes h
  have f3 := h.f0 3 (by omega)
  have c3 := h.c3
  have HP : Hid (Pd (w.setCell ⟨d, 3, none⟩ (.int .i64 n)) d M vU n F (arS s n)) := h.left n n hn (fun _ => rfl)
  have HF : Hid (F d) := h.fd
  clear h hn
  go_enter Tryd.func18, Tryd.ntmps18
  go_wp2_with (go_at_call 35; refine hm.mono ?_; rintro e w' ⟨rfl, hw⟩; replace hw := hw.symm; subst hw; clear hm)
  go_end0
  exact ⟨rfl, F, ⟨d, M, vU, n, rfl, HP.out⟩, fun k hk => Or.inl hk, (Kp.refl F _).set (p := ⟨d, 3, none⟩) (Or.inl HF.out) _⟩
set_option maxRecDepth 100000 in
set_option maxHeartbeats 4000000 in
theorem armN15 (w : World) (p : Value) (n : Int) (h : Nd w p) :
    Calls Tryd.prog 18 #[p, .int .i64 n] w fun e w' => e = .returned (.tuple #[]) ∧ Below w.heap.size w w' := by
  have hm := made_no h
  go_enter Tryd.func18, Tryd.ntmps18
  go_wp2_with (go_at_call 35; refine hm.mono ?_; rintro e w' ⟨rfl, hw⟩; replace hw := hw.symm; subst hw; clear hm)
  go_end0
  exact ⟨rfl, Below.refl _ _⟩
/-- A list of one's own may be written. -/
theorem ob_uf {base : Nat} {w : World} {v : Value} {l : List Nat} (h : Ob base w v l) : Uf w v := by
  intro b o n cap e k hk
  subst e
  rcases id h.2 with ⟨e, _⟩ | ⟨g, c, cur, e, hg, hh, _⟩
  · cases e
  · cases e
    simp [World.frozen?, hh]
/-- What a call hands out as bytes of its own. -/
def Hn15 (w : World) (l : List Nat) (v : Value) (w' : World) : Prop := Bs w' v l ∧ (Ow w.heap.size v ∧ Uf w' v) ∧ Below w.heap.size w w'
set_option maxRecDepth 100000 in
set_option maxHeartbeats 4000000 in
theorem safe15 {w : World} {d M : Nat} {vU : Value} {L : Int} {F : Nat → Prop} {s : Dsk} (h : Pd w d M vU L F s) (i : Nat) (hi : i < s.bl.length) :
    Calls Tryd.prog 44 #[.pointer (some ⟨d, 0, none⟩), .int .i64 (i : Int)] w fun e w' => ∃ v, e = .returned (.tuple #[v, .int .i64 0]) ∧ Hn15 w (s.bl.getD i []) v w' := by
  have hm := made_yes h
  have hh := has_any h (i : Int)
  have e : decide (0 ≤ (i : Int) ∧ (i : Int) < (s.bl.length : Int)) = true := by simp; omega
  rw [e] at hh
  have c1 := h.c1
  have hlk := map_look h.mz i hi
  have HL : Hid ((s.bl.getD i []).length = 128) := (getD_ok h.ok.bl hi).1
  unfold bkV key15 at hlk
  clear h hi e
  generalize s.bl.getD i [] = b at *
  have hz : ∀ W, (zeroValue 92).run Tryd.prog W = .ok (.agg (b8 zr15).toArray) W := fun W => zero_blk15 W
  go_enter Tryd.func44, Tryd.ntmps44
  go_upto_region 6 with (first
    | (go_at_call 35; refine hm.mono ?_; rintro e w' ⟨rfl, hw⟩; replace hw := hw.symm; subst hw; clear hm)
    | (go_at_call 39; refine hh.mono ?_; rintro e w' ⟨rfl, hw⟩; replace hw := hw.symm; subst hw; clear hh)
    | (refine alV rfl 92 (b8 zr15) hz rfl ?_; intro wB hV hB hS)
    | (refine stV rfl 92 _ _ rfl _ (b8 zr15) (b8 b) rfl rfl hV (by rw [b8_len, b8_len, HL.out, zr_len]) (by rw [b8_len, HL.out]; exact sz_blk15) (b8_one b) ?_; intro wC hVC hKC hSC))
  have HC : Hid (Below w.heap.size w wC ∧ Bs wC (.slice (some ⟨w.heap.size, 0, none⟩) 128 128) b) := by
    refine ⟨hKC.next hB (fun i hi => by omega) hB.size, ?_⟩
    have h := hVC.bs 0 b (fun j hj => by rw [Nat.zero_add]; exact b8_cell _ _ hj) 128 (by have := HL.out; omega) (by unfold maxLen; omega)
    rw [HL.out] at h
    exact h
  clear hV hB hS hVC hKC hSC hlk c1 hz
  have hcl := clone_any wC _ b HC.out.2 (by have := HL.out; omega)
  go_wp2_with (go_at_call 54; refine hcl.mono ?_; rintro e w' ⟨v, rfl, hO, hBw⟩; clear hcl)
  go_ret2
  have hs := HC.out.1.size
  exact ⟨_, rfl, hO.bs.1, ⟨hO.bs.2.low hs, ob_uf hO⟩, bchain HC.out.1 hBw⟩
set_option maxRecDepth 100000 in
set_option maxHeartbeats 4000000 in
theorem safeN15 {w : World} {d M : Nat} {vU : Value} {L : Int} {F : Nat → Prop} {s : Dsk} (h : Pd w d M vU L F s) (i : Int) (hi : i < 0 ∨ (s.bl.length : Int) ≤ i) :
    Calls Tryd.prog 44 #[.pointer (some ⟨d, 0, none⟩), .int .i64 i] w fun e w' => e = .returned (.tuple #[.slice none 0 0, .int .i64 151]) ∧ w' = w := by
  have hm := made_yes h
  have hh := has_any h i
  have e : decide (0 ≤ i ∧ i < (s.bl.length : Int)) = false := by simp; omega
  rw [e] at hh
  clear h hi e
  go_enter Tryd.func44, Tryd.ntmps44
  go_wp2_with (first
    | (go_at_call 35; refine hm.mono ?_; rintro e w' ⟨rfl, hw⟩; replace hw := hw.symm; subst hw; clear hm)
    | (go_at_call 39; refine hh.mono ?_; rintro e w' ⟨rfl, hw⟩; replace hw := hw.symm; subst hw; clear hh))
  go_ret2
  exact ⟨rfl, rfl⟩
set_option maxRecDepth 100000 in
set_option maxHeartbeats 4000000 in
theorem safeNo15 (w : World) (p : Value) (i : Int) (h : Nd w p) :
    Calls Tryd.prog 44 #[p, .int .i64 i] w fun e w' => ∃ v, e = .returned (.tuple #[v, .int .i64 1]) ∧ Bs w' v [] ∧ Below w.heap.size w w' := by
  have hm := made_no h
  have HB : Hid (Bs w (.slice none 0 0) []) := ls_none w _
  go_enter Tryd.func44, Tryd.ntmps44
  go_wp2_with (go_at_call 35; refine hm.mono ?_; rintro e w' ⟨rfl, hw⟩; replace hw := hw.symm; subst hw; clear hm)
  go_ret2
  exact ⟨_, rfl, HB.out, Below.refl _ _⟩
end Go.Proofs.YtpmmfmlldkdfhaaDoor
set_option linter.unusedVariables false
set_option linter.unusedSimpArgs false
namespace Go.Proofs.YtpmmfmlldkdfhaaDoor
open Go.RowKit

theorem mpS {ops : Array Oper} {o : Oper} {a : Act} {w w' : World} {K : Act → World → Prop} {Q : Exit → Act → World → Prop} {E : Prop} (hgd : o.guard = none) (T : TypeId) (m x v : Operand) (ho : o.op = .mapUpdate T m x v)
    (vm vx vv : Value) (hm : a.eval m = vm) (hx : a.eval x = vx) (hv : a.eval v = vv) (hrun : (Instr.mapUpdate T vm vx vv).run Tryd.prog w = .ok () w') (h : K (a.put o.dst undef) w') : if Region.wanted o (yielded ops a.tmps) = true then Oper.wp Tryd.prog o a w K Q else E := by
  have hw : Region.wanted o (yielded ops a.tmps) = true := by simp [Region.wanted, hgd]
  rw [if_pos hw]
  unfold Oper.wp
  simp [execOp, ho, hm, hx, hv, hrun, Result.andThen]
  exact h
theorem okb_set {bl : List (List Nat)} (h : ∀ b ∈ bl, okb b) (i : Nat) {t : List Nat} (ht : okb t) : ∀ b ∈ bl.set i t, okb b := by
  intro b hb
  rcases List.mem_or_eq_of_mem_set hb with q | q
  · exact h b q
  · rw [q]; exact ht
/-- What keep leaves. -/
def Kd15 (d M : Nat) (vU : Value) (L : Int) (F : Nat → Prop) (s : Dsk) (w w' : World) : Prop := Pd w' d M vU L F s ∧ Kp (fun k => k = M) w w'
set_option maxRecDepth 100000 in
set_option maxHeartbeats 4000000 in
theorem keep15 {w : World} {d M : Nat} {vU : Value} {L : Int} {F : Nat → Prop} {s : Dsk} (h : Pd w d M vU L F s) (i : Nat) (t : List Nat) (hi : i < s.bl.length) (ht : okb t) :
    Calls Tryd.prog 36 #[.pointer (some ⟨d, 0, none⟩), .int .i64 (i : Int), .agg (b8 t).toArray] w fun e w' => e = .returned (.tuple #[]) ∧ Kd15 d M vU L F { s with bl := s.bl.set i t } w w' := by
  obtain ⟨wA, hwA⟩ : ∃ wA, wA = w.alloc (.cells (b8 t).toArray 92) := ⟨_, rfl⟩
  have HA : Hid (Pd wA d M vU L F s ∧ Vb wA w.heap.size 92 (b8 t) ∧ Below w.heap.size w wA) := by
    rw [hwA]
    exact ⟨h.later (bel1 _ _), Vb.new _ _ _, bel1 _ _⟩
  have HI : Hid (i < s.bl.length ∧ okb t ∧ M < w.heap.size ∧ d < w.heap.size ∧ d ≠ M) := ⟨hi, ht, h.lt M h.fM, h.lt d h.fd, h.dM⟩
  clear h hi ht
  have c1 := HA.out.1.c1
  have hE := fun W => eq_zero15 t HI.out.2.1.1 W
  unfold bkV at hE
  have hg : Tryd.prog.eqGuardType Tryd.prog.depth 92 = false := by kernel_rfl
  have hbd := zero_blk15
  unfold bkV at hbd
  by_cases q : t = zr15
  · rw [decide_eq_true q] at hE
    obtain ⟨wD, hdel, hM, hK⟩ := map_del HA.out.1.mz i HI.out.1
    rw [← q] at hM
    unfold key15 at hdel
    have HR : Hid (Kd15 d M vU L F { s with bl := s.bl.set i t } w wD) :=
      ⟨HA.out.1.map hM hK (by rw [List.length_set]) (okb_set HA.out.1.ok.bl i HI.out.2.1), ((Kp.of HA.out.2.2).mono (fun _ q => q)).trans hK (fun k hk => Or.inl hk)⟩
    clear hM hK q
    go_enter Tryd.func36, Tryd.ntmps36
    go_upto_region 1 with fail
    rw [← hwA]
    clear hwA
    go_wp2_with (refine ldB rfl _ rfl w.heap.size 0 t rfl HA.out.2.1.all HI.out.2.1.1 ?_)
    refine bodyPost_ret (results_none rfl _ _ _) rfl ?_
    exact ⟨rfl, HR.out⟩
  · rw [decide_eq_false q] at hE
    go_enter Tryd.func36, Tryd.ntmps36
    go_upto_region 1 with fail
    rw [← hwA]
    clear hwA
    go_upto_region 3 with (refine ldB rfl _ rfl w.heap.size 0 t rfl HA.out.2.1.all HI.out.2.1.1 ?_)
    refine wp_region_held_drew (S := fun W => W.cell? ⟨d, 1, none⟩ = some (.map (some M)) ∧ Vb W w.heap.size 92 (b8 t)) (by kernel_rfl) ⟨c1, HA.out.2.1⟩ (fun HS => ?_)
    have HAd : Hid (Pd wA.drew d M vU L F s ∧ Below w.heap.size w wA.drew) := ⟨HA.out.1.kept (fun _ _ => rfl) (Nat.le_refl _), HA.out.2.2.drew⟩
    clear HA c1 hE hg hbd
    generalize wA.drew = wD at *
    obtain ⟨wE, hput, hM, hK⟩ := map_put HAd.out.1.mz i t HI.out.1
    unfold key15 bkV at hput
    have HR : Hid (Kd15 d M vU L F { s with bl := s.bl.set i t } w wE) :=
      ⟨HAd.out.1.map hM hK (by rw [List.length_set]) (okb_set HAd.out.1.ok.bl i HI.out.2.1), ((Kp.of HAd.out.2).mono (fun _ q => q)).trans hK (fun k hk => Or.inl hk)⟩
    have HSE : Hid (wE.cell? ⟨d, 1, none⟩ = some (.map (some M)) ∧ Vb wE w.heap.size 92 (b8 t)) := ⟨HR.out.1.c1, HS.2.kept (hK.block _ HS.2.lt (by have := HI.out.2.2.1; omega))⟩
    clear hM hK HAd q
    refine wpAnyH_take (i := 0) (v := ?v1) rfl (by kernel_rfl) (by kernel_rfl) (by kernel_rfl) (fun _ _ _ h => h) (Or.inl ⟨by kernel_rfl, ?h1⟩) HS ?r1
    case h1 => (rintro w ⟨n0, n1⟩; go_simp) <;> with_reducible rfl
    try simp only [Act.put, List.getElem_toArray, List.getElem_cons_succ, List.getElem_cons_zero, List.setIfInBounds_toArray, List.set_cons_zero, List.set_cons_succ]
    refine wpAnyH_take (i := 1) (v := ?v2) rfl (by kernel_rfl) (by kernel_rfl) (by kernel_rfl) (fun _ _ _ h => h) (Or.inl ⟨by kernel_rfl, ?h2⟩) HS ?r2
    case h2 => (rintro w ⟨n0, n1⟩; go_simp) <;> with_reducible rfl
    try simp only [Act.put, List.getElem_toArray, List.getElem_cons_succ, List.getElem_cons_zero, List.setIfInBounds_toArray, List.set_cons_zero, List.set_cons_succ]
    refine wpAnyH_take (i := 2) (v := ?v3) rfl (by kernel_rfl) (by kernel_rfl) (by kernel_rfl) (fun _ _ _ h => h) (Or.inl ⟨by kernel_rfl, ?h3⟩) HS ?r3
    case h3 => (rintro w ⟨n0, n1⟩; go_simp) <;> with_reducible rfl
    try simp only [Act.put, List.getElem_toArray, List.getElem_cons_succ, List.getElem_cons_zero, List.setIfInBounds_toArray, List.set_cons_zero, List.set_cons_succ]
    refine wpAnyH_take (i := 3) (v := ?v4) rfl (by kernel_rfl) (by kernel_rfl) (by kernel_rfl) (fun _ _ _ h => h) (Or.inl ⟨by kernel_rfl, ?h4⟩) HS ?r4
    case h4 => (rintro w ⟨n0, n1⟩; go_simp) <;> with_reducible rfl
    try simp only [Act.put, List.getElem_toArray, List.getElem_cons_succ, List.getElem_cons_zero, List.setIfInBounds_toArray, List.set_cons_zero, List.set_cons_succ]
    refine wpAnyH_take (i := 4) (v := ?v5) rfl (by kernel_rfl) (by kernel_rfl) (by kernel_rfl) (fun _ _ _ h => h) (Or.inl ⟨by kernel_rfl, ?h5⟩) HS ?r5
    case h5 => (rintro w ⟨n0, n1⟩; go_simp) <;> with_reducible rfl
    try simp only [Act.put, List.getElem_toArray, List.getElem_cons_succ, List.getElem_cons_zero, List.setIfInBounds_toArray, List.set_cons_zero, List.set_cons_succ]
    refine wpAnyH_take (i := 5) (v := .agg (b8 t).toArray) rfl (by kernel_rfl) (by kernel_rfl) (by kernel_rfl) (fun _ _ _ h => h) ?ha HS ?_
    case ha =>
      refine yieldsIf_load_mid (by kernel_rfl) 92 _ rfl w.heap.size 0 rfl (b8 t) _ ?_ und_blk15 rfl (by rw [b8_len, HI.out.2.1.1]; exact sz_blk15)
      exact fun W hW => hW.2.all
    try simp only [Act.put, List.getElem_toArray, List.getElem_cons_succ, List.getElem_cons_zero, List.setIfInBounds_toArray, List.set_cons_zero, List.set_cons_succ]
    refine wpAnyH_ready (rs := [6]) (by kernel_rfl) (by simp) ?_
    refine AllReadyH.cons rfl (fun K hK => ?_) AllReadyH.nil
    refine mpS rfl 63 _ _ _ rfl _ _ _ rfl rfl rfl hput ?_
    refine hK.out _ _ HSE.out (fun HS => ?_)
    clear hK K
    try simp only [Act.put, List.getElem_toArray, List.getElem_cons_succ, List.getElem_cons_zero, List.setIfInBounds_toArray, List.set_cons_zero, List.set_cons_succ]
    refine wpAnyH_done (by kernel_rfl) ?_ _
    clear HS HSE hput
    go_wp2
    go_end0
    exact ⟨rfl, HR.out⟩
end Go.Proofs.YtpmmfmlldkdfhaaDoor
