/-
  OuterDeltas: for every two lists the law regattalaw10.OuterDeltas returns true: a delta is where a worker began less where it came to, held, each held part counted; of lists unlike in length there is none.
-/
import Derived.Test.YtfcneciknldohaaOHelp
set_option linter.unusedVariables false
set_option linter.unusedSimpArgs false
namespace Go.Proofs.Ytfcneciknldohaa
open Go.RowKit

/-- A region's condition may grow on the way. -/
theorem anyH_turn10 {P : Program} {md : Region.Mode} {ops : Array Oper} {Q : Exit → Act → World → Prop} {S S' : World → Prop} (hS : ∀ w, S' w → S w) : ∀ (fuel : Nat) (listed : Array Bool) (a : Act) (w : World), wpAnyH P md ops Q S' fuel listed a w → wpAnyH P md ops Q S fuel listed a w
  | 0, _, _, _, h => h
  | fuel + 1, _, _, _, h => ⟨h.1, fun i hi => wpOp_mono (fun a' w' h' => ⟨hS _ h'.1, anyH_turn10 hS fuel _ a' w' h'.2⟩) (h.2 i hi)⟩
theorem units10 {w w' : World} (hW : Below w.heap.size w w') (t t' : TypeId) : L2 w w'.heap.size (w'.heap.size + 1) 0 0 ((w'.alloc (.cells #[.int .i64 0] t)).alloc (.cells #[.int .i64 0] t')) := by
  have h2 := cell_new1 (w'.alloc (.cells #[.int .i64 0] t)) (.int .i64 0) t'
  rw [World.size_alloc] at h2
  exact ⟨bchain hW (bel2 _ _ _), ⟨cell_later (bel1 _ _) (cell_new1 w' _ _), by simp [go_sem]⟩, ⟨h2, by simp [go_sem]⟩⟩
set_option maxRecDepth 100000 in
set_option maxHeartbeats 8000000 in
theorem outerDeltas_any (va vb : Value) (n m : Nat) (f g : Nat → Int) (w : World) (hA : Ar w va n f) (hB : Ar w vb m g) :
    Calls Try.prog 5 #[va, vb] w fun e w' => e = .returned (.bool true) ∧ Below w.heap.size w w' := by
  have HAB : Hid (Ar w va n f ∧ Ar w vb m g) := ⟨hA, hB⟩
  obtain ⟨ada, ca, ba, oa, rfl, i1, i2, -, -⟩ := hA
  obtain ⟨adb, cb, bb, ob, rfl, q1, q2, -, -⟩ := hB
  unfold maxLen at i2 q2
  go_enter Try.func5, Try.ntmps5
  go_wp2_with fail
  refine (awake10_any _).mono ?_
  rintro e w1 ⟨rfl, hb⟩
  have HW1 : Hid (Below w.heap.size w w1) := hb
  clear hb
  by_cases hn : 200 < n
  · have hn' : (200 : Int) < (n : Int) := by omega
    go_wp2
    go_ret
    exact ⟨rfl, HW1.out⟩
  have hn' : ¬ (200 : Int) < (n : Int) := by omega
  by_cases hm : 200 < m
  · have hm' : (200 : Int) < (m : Int) := by omega
    go_wp2
    go_ret
    exact ⟨rfl, HW1.out⟩
  have hm' : ¬ (200 : Int) < (m : Int) := by omega
  go_upto_region 6 with fail
  have HL : Hid (L2 w w1.heap.size (w1.heap.size + 1) 0 0 ((w1.alloc (.cells #[.int .i64 0] 34)).alloc (.cells #[.int .i64 0] 37))) := units10 HW1.out _ _
  have hs := HW1.out.size
  obtain ⟨du, hdu⟩ : ∃ du, w1.heap.size = du := ⟨_, rfl⟩
  rw [hdu] at HL ⊢
  have hd0 : w.heap.size ≤ du := by omega
  have hd1 : w.heap.size ≤ du + 1 := by omega
  have hne : du ≠ du + 1 := by omega
  generalize ((w1.alloc (.cells #[.int .i64 0] 34)).alloc (.cells #[.int .i64 0] 37)) = w3 at *
  clear hs hdu HW1
  have CD : Hid (∀ W : World, L2 w du (du + 1) 0 0 W → Calls Try.prog 17 #[.pointer (some ⟨du, 0, none⟩), .slice ada n ca, .slice adb m cb] W fun e w' => ∃ v', e = .returned (.tuple #[v', .int .i64 (dE n m)]) ∧ LL W w' v' n (fun i => clv (f i - g i)) (dE n m) ∧ Un du (0 + cE (dE n m) (cntV (fun i => ovv (f i - g i)) n)) W w') := fun W hL => delta10_un _ _ n m f g (by omega) (by omega) du 0 (by omega) (by omega) W (HAB.out.1.later hL.B) (HAB.out.2.later hL.B) (HAB.out.1.nb hd0) (HAB.out.2.nb hd0) hL.u
  by_cases hnm : n = m
  · subst hnm
    have e0 : dE n n = 0 := by unfold dE; rw [if_neg (by omega), if_pos rfl]
    have e1 : ∀ x, cE 0 x = x := fun x => rfl
    rw [e0, e1, Int.zero_add] at CD
    have hcr := cnt_rng (fun i => ovv (f i - g i)) n
    have CV : Hid (∀ (W : World) (c : Int) (v1 v2 : Value), L2 w du (du + 1) c 0 W → An du (du + 1) v1 n f W → An du (du + 1) v2 n g W → Calls Try.prog 19 #[.pointer (some ⟨du + 1, 0, none⟩), v1, v2] W fun e w' => ∃ v', e = .returned v' ∧ Ar w' v' n (fun i => clv (f i - g i)) ∧ Ow W.heap.size v' ∧ Un (du + 1) (0 + cntV (fun i => ovv (f i - g i)) n) W w') := fun W c v1 v2 hL h1 h2 => usub_any v1 v2 n f g (du + 1) 0 (by omega) (by omega) (by omega) W h1.a h2.a h1.v h2.v hL.v.1 hL.v.2
    rw [Int.zero_add] at CV
    have CP : Hid (∀ (W : World) (v : Value) (F : Nat → Int), Ar W v n F → Calls Try.prog 14 #[v] W fun e w' => ∃ v', e = .returned v' ∧ Ar w' v' n F ∧ Ow W.heap.size v' ∧ Below W.heap.size W w') := fun W v F h => plain10_any v n F (by omega) W h
    have CS : Hid (∀ (W : World) (v1 v2 : Value) (F : Nat → Int), Ar W v1 n F → Ar W v2 n F → Calls Try.prog 18 #[v1, v2] W fun e w' => e = .returned (.bool true) ∧ Below W.heap.size W w') := fun W v1 v2 F h1 h2 => same_yes v1 v2 n F (by omega) W h1 h2
    generalize (fun i => clv (f i - g i)) = F at *
    generalize cntV (fun i => ovv (f i - g i)) n = cc at *
    clear e0 e1
    go_wp2_with fail
    refine (CD.out _ HL.out).mono ?_
    rintro e w4 ⟨v4, rfl, hLL, hU⟩
    have HL4 : Hid (L2 w du (du + 1) cc 0 w4) := HL.out.unu hU hd0 hne
    have HX4 : Hid (An du (du + 1) v4 n F w4) := An.new HL.out (hLL.1 rfl) hLL.2.2
    clear hLL hU HL CD
    obtain ⟨ad4, k4, b4, o4, rfl, -, -, -, -⟩ := id HX4.out.a
    go_upto_region 9 with fail
    have hbD : Below w4.heap.size w4 w4.drew := (Below.refl _ _).drew
    replace HL4 : Hid (L2 w du (du + 1) cc 0 w4.drew) := HL4.out.later hbD
    replace HX4 : Hid (An du (du + 1) (.slice ad4 n k4) n F w4.drew) := HX4.out.later hbD
    refine wp_region_held_drew (S := fun _ => True) (by kernel_rfl) trivial (fun HS => ?_)
    clear hbD
    generalize w4.drew = q0 at *
    refine wpAnyH_take (i := 0) (v := ?v1) rfl (by kernel_rfl) (by kernel_rfl) (by kernel_rfl) (fun _ _ _ h => h) (Or.inl ⟨by kernel_rfl, ?h1⟩) HS ?r1
    case h1 => (rintro w -; go_simp) <;> with_reducible rfl
    try simp only [Act.put, List.getElem_toArray, List.getElem_cons_succ, List.getElem_cons_zero, List.setIfInBounds_toArray, List.set_cons_zero, List.set_cons_succ]
    refine wpAnyH_take (i := 1) (v := ?v2) rfl (by kernel_rfl) (by kernel_rfl) (by kernel_rfl) (fun _ _ _ h => h) (Or.inl ⟨by kernel_rfl, ?h2⟩) HS ?r2
    case h2 => (rintro w -; go_simp) <;> with_reducible rfl
    try simp only [Act.put, List.getElem_toArray, List.getElem_cons_succ, List.getElem_cons_zero, List.setIfInBounds_toArray, List.set_cons_zero, List.set_cons_succ]
    refine wpAnyH_take (i := 2) (v := ?v3) rfl (by kernel_rfl) (by kernel_rfl) (by kernel_rfl) (fun _ _ _ h => h) (Or.inl ⟨by kernel_rfl, ?h3⟩) HS ?r3
    case h3 => (rintro w -; go_simp) <;> with_reducible rfl
    try simp only [Act.put, List.getElem_toArray, List.getElem_cons_succ, List.getElem_cons_zero, List.setIfInBounds_toArray, List.set_cons_zero, List.set_cons_succ]
    refine wpAnyH_take (i := 3) (v := ?v4) rfl (by kernel_rfl) (by kernel_rfl) (by kernel_rfl) (fun _ _ _ h => h) (Or.inl ⟨by kernel_rfl, ?h4⟩) HS ?r4
    case h4 => (rintro w -; go_simp) <;> with_reducible rfl
    try simp only [Act.put, List.getElem_toArray, List.getElem_cons_succ, List.getElem_cons_zero, List.setIfInBounds_toArray, List.set_cons_zero, List.set_cons_succ]
    refine wpAnyH_take (i := 5) (v := ?v5) rfl (by kernel_rfl) (by kernel_rfl) (by kernel_rfl) (fun _ _ _ h => h) (Or.inl ⟨by kernel_rfl, ?h5⟩) HS ?r5
    case h5 => (rintro w -; go_simp) <;> with_reducible rfl
    try simp only [Act.put, List.getElem_toArray, List.getElem_cons_succ, List.getElem_cons_zero, List.setIfInBounds_toArray, List.set_cons_zero, List.set_cons_succ]
    refine wpAnyH_take (i := 6) (v := ?v6) rfl (by kernel_rfl) (by kernel_rfl) (by kernel_rfl) (fun _ _ _ h => h) (Or.inl ⟨by kernel_rfl, ?h6⟩) HS ?r6
    case h6 => (rintro w -; go_simp) <;> with_reducible rfl
    try simp only [Act.put, List.getElem_toArray, List.getElem_cons_succ, List.getElem_cons_zero, List.setIfInBounds_toArray, List.set_cons_zero, List.set_cons_succ]
    refine wpAnyH_take (i := 8) (v := ?v7) rfl (by kernel_rfl) (by kernel_rfl) (by kernel_rfl) (fun _ _ _ h => h) (Or.inl ⟨by kernel_rfl, ?h7⟩) HS ?r7
    case h7 => (rintro w -; go_simp) <;> with_reducible rfl
    try simp only [Act.put, List.getElem_toArray, List.getElem_cons_succ, List.getElem_cons_zero, List.setIfInBounds_toArray, List.set_cons_zero, List.set_cons_succ]
    refine wpAnyH_ready (rs := [4]) (by kernel_rfl) (by simp) ?_
    refine AllReadyH.cons rfl (fun K hK => ?_) AllReadyH.nil
    go_simp
    refine (CP.out _ _ F HX4.out.a).mono ?_
    rintro e q1 ⟨v1, rfl, hA1, hO1, hb⟩
    refine hK.out _ _ trivial (fun HS => ?_)
    clear hK K
    have HL5 : Hid (L2 w du (du + 1) cc 0 q1) := HL4.out.later hb
    have HX5 : Hid (An du (du + 1) v1 n F q1) := An.new HL4.out hA1 hO1
    clear hA1 hO1 hb HL4 HX4
    try simp only [Act.put, List.getElem_toArray, List.getElem_cons_succ, List.getElem_cons_zero, List.setIfInBounds_toArray, List.set_cons_zero, List.set_cons_succ]
    refine wpAnyH_ready (rs := [7]) (by kernel_rfl) (by simp) ?_
    refine AllReadyH.cons rfl (fun K hK => ?_) AllReadyH.nil
    go_simp
    refine (CP.out _ _ f (HAB.out.1.later HL5.out.B)).mono ?_
    rintro e q2 ⟨v2, rfl, hA1, hO1, hb⟩
    refine hK.out _ _ trivial (fun HS => ?_)
    clear hK K
    have HL6 : Hid (L2 w du (du + 1) cc 0 q2) := HL5.out.later hb
    have HX6 : Hid (An du (du + 1) v1 n F q2) := HX5.out.later hb
    have HY6 : Hid (An du (du + 1) v2 n f q2) := An.new HL5.out hA1 hO1
    clear hA1 hO1 hb HL5 HX5
    try simp only [Act.put, List.getElem_toArray, List.getElem_cons_succ, List.getElem_cons_zero, List.setIfInBounds_toArray, List.set_cons_zero, List.set_cons_succ]
    refine wpAnyH_ready (rs := [9]) (by kernel_rfl) (by simp) ?_
    refine AllReadyH.cons rfl (fun K hK => ?_) AllReadyH.nil
    go_simp
    refine (CP.out _ _ g (HAB.out.2.later HL6.out.B)).mono ?_
    rintro e q3 ⟨v3, rfl, hA1, hO1, hb⟩
    refine hK.out _ _ trivial (fun HS => ?_)
    clear hK K
    have HL7 : Hid (L2 w du (du + 1) cc 0 q3) := HL6.out.later hb
    have HX7 : Hid (An du (du + 1) v1 n F q3) := HX6.out.later hb
    have HY7 : Hid (An du (du + 1) v2 n f q3) := HY6.out.later hb
    have HZ7 : Hid (An du (du + 1) v3 n g q3) := An.new HL6.out hA1 hO1
    clear hA1 hO1 hb HL6 HX6 HY6 CP
    try simp only [Act.put, List.getElem_toArray, List.getElem_cons_succ, List.getElem_cons_zero, List.setIfInBounds_toArray, List.set_cons_zero, List.set_cons_succ]
    refine wpAnyH_ready (rs := [10]) (by kernel_rfl) (by simp) ?_
    refine AllReadyH.cons rfl (fun K hK => ?_) AllReadyH.nil
    go_simp
    refine (CV.out _ _ _ _ HL7.out HY7.out HZ7.out).mono ?_
    rintro e q4 ⟨v5, rfl, hA1, hO1, hU⟩
    refine hK.out _ _ trivial (fun HS => ?_)
    clear hK K
    have HL8 : Hid (L2 w du (du + 1) cc cc q4) := HL7.out.unv hU hd1 hne
    have HX8 : Hid (An du (du + 1) v1 n F q4) := HX7.out.unv hU
    have HY8 : Hid (Ar q4 v5 n F) := hA1
    clear hA1 hO1 hU HL7 HX7 HY7 HZ7 CV
    try simp only [Act.put, List.getElem_toArray, List.getElem_cons_succ, List.getElem_cons_zero, List.setIfInBounds_toArray, List.set_cons_zero, List.set_cons_succ]
    refine wpAnyH_ready (rs := [11]) (by kernel_rfl) (by simp) ?_
    refine AllReadyH.cons rfl (fun K hK => ?_) AllReadyH.nil
    go_simp
    refine (CS.out _ _ _ F HX8.out.a HY8.out).mono ?_
    rintro e q5 ⟨rfl, hb⟩
    refine hK.out _ _ trivial (fun HS => ?_)
    clear hK K
    have HL9 : Hid (L2 w du (du + 1) cc cc q5) := HL8.out.later hb
    clear hb HL8 HX8 HY8 CS
    refine anyH_turn10 (S' := fun W' => W'.cell? ⟨du + 1, 0, none⟩ = some (.int .i64 cc)) (fun _ _ => trivial) _ _ _ _ ?_
    clear HS
    have HS := HL9.out.v.1
    try simp only [Act.put, List.getElem_toArray, List.getElem_cons_succ, List.getElem_cons_zero, List.setIfInBounds_toArray, List.set_cons_zero, List.set_cons_succ]
    refine wpAnyH_take (i := 12) (v := ?v8) rfl (by kernel_rfl) (by kernel_rfl) (by kernel_rfl) (fun _ _ _ h => h) (Or.inl ⟨by kernel_rfl, ?h8⟩) HS ?r8
    case h8 => (rintro w s1; go_simp) <;> with_reducible rfl
    try simp only [Act.put, List.getElem_toArray, List.getElem_cons_succ, List.getElem_cons_zero, List.setIfInBounds_toArray, List.set_cons_zero, List.set_cons_succ]
    refine wpAnyH_take (i := 13) (v := ?v9) rfl (by kernel_rfl) (by kernel_rfl) (by kernel_rfl) (fun _ _ _ h => h) (Or.inl ⟨by kernel_rfl, ?h9⟩) HS ?r9
    case h9 => (rintro w s1; go_simp) <;> with_reducible rfl
    try simp only [Act.put, List.getElem_toArray, List.getElem_cons_succ, List.getElem_cons_zero, List.setIfInBounds_toArray, List.set_cons_zero, List.set_cons_succ]
    refine wpAnyH_take (i := 14) (v := ?v10) rfl (by kernel_rfl) (by kernel_rfl) (by kernel_rfl) (fun _ _ _ h => h) (Or.inl ⟨by kernel_rfl, ?h10⟩) HS ?r10
    case h10 => (rintro w s1; go_simp) <;> with_reducible rfl
    try simp only [Act.put, List.getElem_toArray, List.getElem_cons_succ, List.getElem_cons_zero, List.setIfInBounds_toArray, List.set_cons_zero, List.set_cons_succ]
    refine wpAnyH_take (i := 16) (v := ?v11) rfl (by kernel_rfl) (by kernel_rfl) (by kernel_rfl) (fun _ _ _ h => h) (Or.inl ⟨by kernel_rfl, ?h11⟩) HS ?r11
    case h11 => (rintro w s1; go_simp) <;> with_reducible rfl
    try simp only [Act.put, List.getElem_toArray, List.getElem_cons_succ, List.getElem_cons_zero, List.setIfInBounds_toArray, List.set_cons_zero, List.set_cons_succ]
    refine wpAnyH_take (i := 17) (v := ?v12) rfl (by kernel_rfl) (by kernel_rfl) (by kernel_rfl) (fun _ _ _ h => h) (Or.inl ⟨by kernel_rfl, ?h12⟩) HS ?r12
    case h12 => (rintro w s1; go_simp) <;> with_reducible rfl
    try simp only [Act.put, List.getElem_toArray, List.getElem_cons_succ, List.getElem_cons_zero, List.setIfInBounds_toArray, List.set_cons_zero, List.set_cons_succ]
    refine wpAnyH_take (i := 18) (v := ?v13) rfl (by kernel_rfl) (by kernel_rfl) (by kernel_rfl) (fun _ _ _ h => h) (Or.inl ⟨by kernel_rfl, ?h13⟩) HS ?r13
    case h13 => (rintro w s1; go_simp) <;> with_reducible rfl
    try simp only [Act.put, List.getElem_toArray, List.getElem_cons_succ, List.getElem_cons_zero, List.setIfInBounds_toArray, List.set_cons_zero, List.set_cons_succ]
    refine wpAnyH_take (i := 19) (v := ?v14) rfl (by kernel_rfl) (by kernel_rfl) (by kernel_rfl) (fun _ _ _ h => h) (Or.inl ⟨by kernel_rfl, ?h14⟩) HS ?r14
    case h14 => (rintro w s1; go_simp) <;> with_reducible rfl
    try simp only [Act.put, List.getElem_toArray, List.getElem_cons_succ, List.getElem_cons_zero, List.setIfInBounds_toArray, List.set_cons_zero, List.set_cons_succ]
    refine wpAnyH_ready (rs := [15]) (by kernel_rfl) (by simp) ?_
    refine AllReadyH.cons rfl (fun K hK => ?_) AllReadyH.nil
    go_simp
    refine (count_any du cc q5 HL9.out.u.1).mono ?_
    rintro e q6 ⟨rfl, rfl⟩
    refine hK.out _ _ HS (fun HS => ?_)
    clear hK K
    try simp only [Act.put, List.getElem_toArray, List.getElem_cons_succ, List.getElem_cons_zero, List.setIfInBounds_toArray, List.set_cons_zero, List.set_cons_succ]
    refine wpAnyH_take (i := 20) (v := ?v15) rfl (by kernel_rfl) (by kernel_rfl) (by kernel_rfl) (fun _ _ _ h => h) (Or.inl ⟨by kernel_rfl, ?h15⟩) HS ?r15
    case h15 => (rintro w s1; go_simp) <;> with_reducible rfl
    try simp only [Act.put, List.getElem_toArray, List.getElem_cons_succ, List.getElem_cons_zero, List.setIfInBounds_toArray, List.set_cons_zero, List.set_cons_succ]
    refine wpAnyH_take (i := 21) (v := ?v16) rfl (by kernel_rfl) (by kernel_rfl) (by kernel_rfl) (fun _ _ _ h => h) (Or.inl ⟨by kernel_rfl, ?h16⟩) HS ?r16
    case h16 => (rintro w s1; go_simp) <;> with_reducible rfl
    try simp only [Act.put, List.getElem_toArray, List.getElem_cons_succ, List.getElem_cons_zero, List.setIfInBounds_toArray, List.set_cons_zero, List.set_cons_succ]
    refine wpAnyH_take (i := 22) (v := ?v17) rfl (by kernel_rfl) (by kernel_rfl) (by kernel_rfl) (fun _ _ _ h => h) (Or.inl ⟨by kernel_rfl, ?h17⟩) HS ?r17
    case h17 => (rintro w s1; go_simp) <;> with_reducible rfl
    try simp only [Act.put, List.getElem_toArray, List.getElem_cons_succ, List.getElem_cons_zero, List.setIfInBounds_toArray, List.set_cons_zero, List.set_cons_succ]
    refine wpAnyH_done (by kernel_rfl) ?_ _
    clear HS
    go_wp2
    go_ret
    exact ⟨rfl, HL9.out.B⟩
  · have hnm' : ¬ (n : Int) = (m : Int) := by omega
    have e0 : dE n m = 40 := by unfold dE; rw [if_neg (by omega), if_neg hnm]
    have e1 : ∀ x, cE 40 x = 0 := fun x => rfl
    rw [e0, e1, Int.zero_add] at CD
    clear e0 e1
    go_wp2_with fail
    refine (CD.out _ HL.out).mono ?_
    rintro e w4 ⟨v4, rfl, hLL, hU⟩
    obtain ⟨ad4, k4, rfl⟩ := hLL.2.1 (by omega)
    have HL4 : Hid (L2 w du (du + 1) 0 0 w4) := HL.out.unu hU hd0 hne
    clear hLL hU HL CD
    go_wp2_with fail
    refine (count_any du 0 _ HL4.out.u.1).mono ?_
    rintro e w5 ⟨rfl, rfl⟩
    go_wp2
    go_ret
    exact ⟨rfl, HL4.out.B⟩
end Go.Proofs.Ytfcneciknldohaa
