/-
  Texts of this proof, joined: LawMH.
-/
import Derived.Test.YtdfjnbkkdgolnabGreatDoorSX12
set_option linter.unusedVariables false
set_option linter.unusedSimpArgs false
namespace Go.Proofs.YtdfjnbkkdgolnabGreatDoor
open Go.RowKit

set_option maxRecDepth 100000 in
set_option maxHeartbeats 16000000 in
theorem mlpHidden_any (vs vp vx : Value) (m lp lx : Nat) (f P x : Nat → Int) (q0 : Int) (hq0 : -9223372036854775808 ≤ q0) (hq1 : q0 ≤ 9223372036854775807) (w : World) (hA : Ar w vs m f) (hP : Ar w vp lp P) (hX : Ar w vx lx x) (hV : TabAt w) :
    Calls Tryz.prog 5 #[.agg #[vs, vp], vx, .int .i64 q0] w fun e w' => e = .returned (.bool true) ∧ Below w.heap.size w w' := by
  obtain ⟨z, hz⟩ := zs_ex f m
  have HZz : Hid (Zs f m z) := hz
  have HAll : Hid (Ar w vs m f ∧ Ar w vp lp P ∧ Ar w vx lx x ∧ TabAt w) := ⟨hA, hP, hX, hV⟩
  obtain ⟨adr, cap, b, o, rfl, k1, k2, -, -⟩ := id hA
  obtain ⟨adp, cpp, bp, op, rfl, j1, j2, -, -⟩ := id hP
  obtain ⟨adx, cax, bx, ox, rfl, i1, i2, -, -⟩ := id hX
  unfold maxLen at k2 j2 i2
  have HAw : Hid (∀ W : World, Below w.heap.size w W → Calls Tryz.prog 7 #[] W fun e w' => e = .returned (.bool true) ∧ Below W.heap.size W w') := fun W hb => awake7_any mlp4 W (TabAt.later hV hb)
  have HFw : Hid (∀ W : World, Below w.heap.size w W → Calls Tryz.prog 8 #[.agg #[.slice adr m cap, .slice adp lp cpp]] W fun e w' => Tells e (fwP f m lp z) ∧ Below W.heap.size W w') := fun W hb => few7_any _ _ m lp f P z hz W (hA.later hb) (hP.later hb)
  have HRg : Hid (∀ W : World, lp ≤ 1000000 → Below w.heap.size w W → Calls Tryz.prog 10 #[.agg #[.slice adr m cap, .slice adp lp cpp]] W fun e w' => Tells e (rtP f m lp z) ∧ Below W.heap.size W w') := fun W hl hb => right7_any _ _ m lp f P z hz hl W (hA.later hb) (hP.later hb)
  obtain ⟨w1, hw1⟩ : ∃ w1, w1 = w.alloc (.cells #[.slice adr m cap, .slice adp lp cpp] 25) := ⟨_, rfl⟩
  have HB1 : Hid (Below w.heap.size w w1) := by rw [hw1]; exact bel1 _ _
  have HX1 : Hid (Bx w.heap.size (.slice adr m cap) (.slice adp lp cpp) w1) := by rw [hw1]; exact Bx.new w _ _ _
  clear hA hP hX hz hV
  go_enter Tryz.func5, Tryz.ntmps5
  go_upto_region 1 with fail
  rw [← hw1]
  clear hw1
  go_wp2_with fail
  refine (HAw.out _ HB1.out).mono ?_
  rintro e w2 ⟨rfl, hb⟩
  have HB2 : Hid (Below w.heap.size w w2) := bchain HB1.out hb
  have HX2 : Hid (Bx w.heap.size (.slice adr m cap) (.slice adp lp cpp) w2) := HX1.out.later hb
  have x0 := HX2.out.c0
  have x1 := HX2.out.c1
  clear hb HB1 HX1 HAw
  go_wp2_with fail
  refine (HFw.out _ HB2.out).mono ?_
  rintro e w3 ⟨hT, hb⟩
  have HB3 : Hid (Below w.heap.size w w3) := bchain HB2.out hb
  have HX3 : Hid (Bx w.heap.size (.slice adr m cap) (.slice adp lp cpp) w3) := HX2.out.later hb
  clear hb HB2 HX2 HFw x0 x1
  by_cases hfw : fwP f m lp z
  case neg =>
    have e0 := hT.no hfw
    subst e0
    go_wp2
    go_ret
    exact ⟨rfl, HB3.out⟩
  have e0 := hT.yes hfw
  subst e0
  clear hT
  have hmb : m ≤ 10 := hfw.1
  have hlb : lp ≤ 400 := hfw.2.1
  have HSh : Hid (Calls Tryz.prog 9 #[.slice (some ⟨w3.heap.size, 0, none⟩) 1 1] (w3.alloc (.cells #[.slice adx lx cax] 23)) fun e w' => e = .returned (.bool (shB (fun _ => lx) 1)) ∧ w' = w3.alloc (.cells #[.slice adx lx cax] 23)) := short_any w3.heap.size 1 1 (fun _ => lx) (by omega) (by omega) (by omega) _ (fun k hk => ⟨by unfold maxLen; omega, adx, cax, by obtain rfl : k = 0 := (by omega); exact cell_new1 _ _ _⟩)
  go_wp2_with fail
  refine HSh.out.mono ?_
  rintro e w4 ⟨rfl, hw4⟩
  have HB4 : Hid (Below w.heap.size w w4) := by rw [hw4]; exact bchain HB3.out (bel1 _ _)
  have HX4 : Hid (Bx w.heap.size (.slice adr m cap) (.slice adp lp cpp) w4) := by rw [hw4]; exact HX3.out.later (bel1 _ _)
  clear hw4 HSh HB3 HX3
  by_cases hlx : lx ≤ 100
  case neg =>
    have hsh : shB (fun _ => lx) 1 = false := shB_no _ _ 0 (by omega) (by omega)
    rw [hsh]
    go_wp2
    go_ret
    exact ⟨rfl, HB4.out⟩
  have hsh : shB (fun _ => lx) 1 = true := shB_yes _ _ (fun _ _ => hlx)
  rw [hsh]
  clear hsh
  have x0 := HX4.out.c0
  have x1 := HX4.out.c1
  go_wp2_with fail
  refine (HRg.out _ (by omega) HB4.out).mono ?_
  rintro e w5 ⟨hT, hb⟩
  have HB5 : Hid (Below w.heap.size w w5) := bchain HB4.out hb
  have HX5 : Hid (Bx w.heap.size (.slice adr m cap) (.slice adp lp cpp) w5) := HX4.out.later hb
  clear hb HB4 HX4 HRg x0 x1
  by_cases hrt : rtP f m lp z
  case neg =>
    have e0 := hT.no hrt
    subst e0
    go_wp2
    go_ret
    exact ⟨rfl, HB5.out⟩
  have e0 := hT.yes hrt
  subst e0
  clear hT
  obtain ⟨hs, hfz⟩ := HZz.out hrt.1
  have hlp : lp = fsN z (m - 1) := hrt.2
  obtain ⟨m2, m6, hz6⟩ := id hs
  have x0 := HX5.out.c0
  have x1 := HX5.out.c1
  obtain ⟨b, o, cap', hlit⟩ := HAll.out.1.lit (by omega)
  cases hlit
  have s0 : w5.cell? ⟨b, o, none⟩ = some (.int .i64 ((z 0 : Nat) : Int)) := by
    obtain ⟨ad, ca, bb, oo, e, -, -, h4, h5⟩ := (HAll.out.1.later HB5.out).congr hfz
    have e2 := h4 (by omega)
    cases e
    cases e2
    exact (h5 0 (by omega)).1
  have hmI : (0 : Int) < (m : Int) := by omega
  have hmN : 0 < m := by omega
  by_cases hm3 : m = 3
  case neg =>
    have hm3I : ¬ (m : Int) = 3 := by omega
    have hm32 : ((m : Int) != 3) = true := by simp [hm3I]
    go_wp2
    go_ret
    exact ⟨rfl, HB5.out⟩
  subst hm3
  have HS3 : Hid (∀ (W : World), Below w.heap.size w W → W.cell? ⟨b, o, none⟩ = some (.int .i64 ((z 0 : Nat) : Int)) ∧ W.cell? ⟨b, o + 1, none⟩ = some (.int .i64 ((z 1 : Nat) : Int)) ∧ W.cell? ⟨b, o + 2, none⟩ = some (.int .i64 ((z 2 : Nat) : Int))) := fun W hb => by
    obtain ⟨ad, ca, bb, oo, e, -, -, h4, h5⟩ := (HAll.out.1.later hb).congr hfz
    have e2 := h4 (by omega)
    cases e
    cases e2
    exact ⟨(h5 0 (by omega)).1, (h5 1 (by omega)).1, (h5 2 (by omega)).1⟩
  by_cases hx0 : lx = z 0
  case neg =>
    have hxI : ¬ (lx : Int) = ((z 0 : Nat) : Int) := by omega
    have hx2 : ((lx : Int) != ((z 0 : Nat) : Int)) = true := by simp [hxI]
    go_wp2
    go_ret
    exact ⟨rfl, HB5.out⟩
  subst hx0
  have HFQ : Hid (∀ (W : World) (vq : Value) (Q : Nat → Int), Below w.heap.size w W → Ar W vq lp Q → Calls Tryz.prog 11 #[.pointer none, .slice (some ⟨b, o, none⟩) 3 cap, vq, .slice adx (z 0) cax] W fun e w' => ∃ v', e = .returned (.tuple #[v', .int .i64 0]) ∧ Vls W.heap.size w' v' 3 z (vN z 3 Q x) ∧ Below W.heap.size W w') := fun W vq Q hb hq => (pFwd_ok (.slice (some ⟨b, o, none⟩) 3 cap) vq (.slice adx (z 0) cax) 3 lp z Q x none 0 (by omega) (by omega) W ((HAll.out.1.later hb).congr hfz) hq (HAll.out.2.2.1.later hb) hs hlp (nv_none _) (nv_none _) (Or.inl rfl) (HAll.out.2.2.2.later hb)).mono fun e w' ⟨v', h1, h2, h3⟩ => ⟨v', h1, h2, ux_nil h3⟩
  have Hlp : Hid (lp = z 0 * z 1 + z 1 + (z 1 * z 2 + z 2)) := by show lp = _; rw [hlp]; show 0 + (z 0 * z 1 + z 1) + (z 1 * z 2 + z 2) = _; omega
  obtain ⟨a1, a2⟩ := hz6 0 (by omega)
  obtain ⟨b1, b2⟩ := hz6 1 (by omega)
  obtain ⟨c1, c2⟩ := hz6 2 (by omega)
  have hlp0 : 0 < lp := by have := Hlp.out; omega
  clear hlp hfz hs hrt hfw HZz hz6
  obtain ⟨bp, op, cpp', hlit⟩ := HAll.out.2.1.lit hlp0
  cases hlit
  have HPc : Hid (∀ (W : World), Below w.heap.size w W → ∀ k, k < lp → W.cell? ⟨bp, op + k, none⟩ = some (.int .i64 (P k)) ∧ -9223372036854775808 ≤ P k ∧ P k ≤ 9223372036854775807) := fun W hb k hk => by
    obtain ⟨ad, ca, bb, oo, e, -, -, h4, h5⟩ := HAll.out.2.1.later hb
    have e2 := h4 (by omega)
    cases e
    cases e2
    exact h5 k hk
  have s1 := (HS3.out _ HB5.out).2.1
  by_cases h12 : z 1 < 2
  case pos =>
    have h12I : ((z 1 : Nat) : Int) < 2 := by omega
    go_wp2
    go_ret
    exact ⟨rfl, HB5.out⟩
  have h12I : ¬ ((z 1 : Nat) : Int) < 2 := by omega
  by_cases hq2 : q0 < 0
  case pos =>
    go_wp2
    go_ret
    exact ⟨rfl, HB5.out⟩
  obtain ⟨A, rfl⟩ : ∃ A : Nat, q0 = (A : Int) := ⟨q0.toNat, by omega⟩
  obtain ⟨i, hi⟩ : ∃ i, A % z 1 = i := ⟨_, rfl⟩
  obtain ⟨j, hj⟩ : ∃ j, (i + 1) % z 1 = j := ⟨_, rfl⟩
  have hi1 : i < z 1 := by rw [← hi]; exact Nat.mod_lt _ (by omega)
  have hj1 : j < z 1 := by rw [← hj]; exact Nat.mod_lt _ (by omega)
  have hij : i ≠ j := by
    rcases (by omega : i + 1 < z 1 ∨ i + 1 = z 1) with h | h
    · rw [Nat.mod_eq_of_lt h] at hj; omega
    · rw [h, Nat.mod_self] at hj; omega
  have t1 : ((A : Nat) : Int).tmod ((z 1 : Nat) : Int) = (i : Int) := by rw [Int.tmod_eq_emod_of_nonneg (by omega), ← hi]; rfl
  have t2 : ((i : Int) + 1).tmod ((z 1 : Nat) : Int) = (j : Int) := by rw [Int.tmod_eq_emod_of_nonneg (by omega), ← hj]; rfl
  have wi : IntKind.i64.wrap (i : Int) = (i : Int) := by rw [IntKind.wrap_i64]; omega
  have wj : IntKind.i64.wrap (j : Int) = (j : Int) := by rw [IntKind.wrap_i64]; omega
  have wi1 : IntKind.i64.wrap ((i : Int) + 1) = (i : Int) + 1 := by rw [IntKind.wrap_i64]; omega
  have z1n : ¬ ((z 1 : Nat) : Int) = 0 := by omega
  have z1z : ¬ z 1 = 0 := by omega
  have z1b : (((z 1 : Nat) : Int) == 0) = false := by simp; omega
  have Hij : Hid (i < z 1 ∧ j < z 1 ∧ i ≠ j) := ⟨hi1, hj1, hij⟩
  clear hi hj
  have hD5 : Below w5.heap.size w5 w5.drew := (Below.refl _ _).drew
  have HBa : Hid (Below w.heap.size w w5.drew) := bchain HB5.out hD5
  have HXa : Hid (Bx w.heap.size (.slice (some ⟨b, o, none⟩) 3 cap) (.slice (some ⟨bp, op, none⟩) lp cpp) w5.drew) := HX5.out.later hD5
  obtain ⟨r0, r1, r2⟩ := HS3.out _ HBa.out
  have y0 := cell_later hD5 x0
  have y1 := cell_later hD5 x1
  go_upto_region 5 with fail
  refine wp_region_held_drew (S := fun W' => W'.cell? ⟨w.heap.size, 0, none⟩ = some (.slice (some ⟨b, o, none⟩) 3 cap) ∧ W'.cell? ⟨b, o, none⟩ = some (.int .i64 ((z 0 : Nat) : Int)) ∧ W'.cell? ⟨b, o + 1, none⟩ = some (.int .i64 ((z 1 : Nat) : Int)) ∧ W'.cell? ⟨b, o + 2, none⟩ = some (.int .i64 ((z 2 : Nat) : Int))) (by kernel_rfl) ⟨y0, r0, r1, r2⟩ (fun HS => ?_)
  clear x0 x1 s0 s1 r0 r1 r2 hD5 HB5 HX5 HS3
  generalize w5.drew = wa at *
  refine wpAnyH_take (i := 0) (v := ?v1) rfl (by kernel_rfl) (by kernel_rfl) (by kernel_rfl) (fun _ _ _ h => h) (Or.inl ⟨by kernel_rfl, ?h1⟩) HS ?r1
  case h1 => (rintro w ⟨e0, e1, e2, e3⟩; go_simp) <;> with_reducible rfl
  try simp only [Act.put, List.getElem_toArray, List.getElem_cons_succ, List.getElem_cons_zero, List.setIfInBounds_toArray, List.set_cons_zero, List.set_cons_succ]
  refine wpAnyH_take (i := 1) (v := ?v2) rfl (by kernel_rfl) (by kernel_rfl) (by kernel_rfl) (fun _ _ _ h => h) (Or.inl ⟨by kernel_rfl, ?h2⟩) HS ?r2
  case h2 => (rintro w ⟨e0, e1, e2, e3⟩; go_simp) <;> with_reducible rfl
  try simp only [Act.put, List.getElem_toArray, List.getElem_cons_succ, List.getElem_cons_zero, List.setIfInBounds_toArray, List.set_cons_zero, List.set_cons_succ]
  refine wpAnyH_take (i := 2) (v := ?v3) rfl (by kernel_rfl) (by kernel_rfl) (by kernel_rfl) (fun _ _ _ h => h) (Or.inl ⟨by kernel_rfl, ?h3⟩) HS ?r3
  case h3 => (rintro w ⟨e0, e1, e2, e3⟩; go_simp) <;> with_reducible rfl
  try simp only [Act.put, List.getElem_toArray, List.getElem_cons_succ, List.getElem_cons_zero, List.setIfInBounds_toArray, List.set_cons_zero, List.set_cons_succ]
  refine wpAnyH_take (i := 3) (v := ?v4) rfl (by kernel_rfl) (by kernel_rfl) (by kernel_rfl) (fun _ _ _ h => h) (Or.inl ⟨by kernel_rfl, ?h4⟩) HS ?r4
  case h4 => (rintro w ⟨e0, e1, e2, e3⟩; go_simp) <;> with_reducible rfl
  try simp only [Act.put, List.getElem_toArray, List.getElem_cons_succ, List.getElem_cons_zero, List.setIfInBounds_toArray, List.set_cons_zero, List.set_cons_succ]
  refine wpAnyH_take (i := 4) (v := ?v5) rfl (by kernel_rfl) (by kernel_rfl) (by kernel_rfl) (fun _ _ _ h => h) (Or.inl ⟨by kernel_rfl, ?h5⟩) HS ?r5
  case h5 => (rintro w ⟨e0, e1, e2, e3⟩; go_simp) <;> with_reducible rfl
  try simp only [Act.put, List.getElem_toArray, List.getElem_cons_succ, List.getElem_cons_zero, List.setIfInBounds_toArray, List.set_cons_zero, List.set_cons_succ]
  refine wpAnyH_take (i := 5) (v := ?v6) rfl (by kernel_rfl) (by kernel_rfl) (by kernel_rfl) (fun _ _ _ h => h) (Or.inl ⟨by kernel_rfl, ?h6⟩) HS ?r6
  case h6 => (rintro w ⟨e0, e1, e2, e3⟩; go_simp) <;> with_reducible rfl
  try simp only [Act.put, List.getElem_toArray, List.getElem_cons_succ, List.getElem_cons_zero, List.setIfInBounds_toArray, List.set_cons_zero, List.set_cons_succ]
  refine wpAnyH_take (i := 6) (v := ?v7) rfl (by kernel_rfl) (by kernel_rfl) (by kernel_rfl) (fun _ _ _ h => h) (Or.inl ⟨by kernel_rfl, ?h7⟩) HS ?r7
  case h7 => (rintro w ⟨e0, e1, e2, e3⟩; go_simp) <;> with_reducible rfl
  try simp only [Act.put, List.getElem_toArray, List.getElem_cons_succ, List.getElem_cons_zero, List.setIfInBounds_toArray, List.set_cons_zero, List.set_cons_succ]
  refine wpAnyH_take (i := 7) (v := ?v8) rfl (by kernel_rfl) (by kernel_rfl) (by kernel_rfl) (fun _ _ _ h => h) (Or.inl ⟨by kernel_rfl, ?h8⟩) HS ?r8
  case h8 => (rintro w ⟨e0, e1, e2, e3⟩; go_simp) <;> with_reducible rfl
  try simp only [Act.put, List.getElem_toArray, List.getElem_cons_succ, List.getElem_cons_zero, List.setIfInBounds_toArray, List.set_cons_zero, List.set_cons_succ]
  refine wpAnyH_take (i := 8) (v := ?v9) rfl (by kernel_rfl) (by kernel_rfl) (by kernel_rfl) (fun _ _ _ h => h) (Or.inl ⟨by kernel_rfl, ?h9⟩) HS ?r9
  case h9 => (rintro w ⟨e0, e1, e2, e3⟩; go_simp) <;> with_reducible rfl
  try simp only [Act.put, List.getElem_toArray, List.getElem_cons_succ, List.getElem_cons_zero, List.setIfInBounds_toArray, List.set_cons_zero, List.set_cons_succ]
  refine wpAnyH_take (i := 9) (v := ?v10) rfl (by kernel_rfl) (by kernel_rfl) (by kernel_rfl) (fun _ _ _ h => h) (Or.inl ⟨by kernel_rfl, ?h10⟩) HS ?r10
  case h10 => (rintro w ⟨e0, e1, e2, e3⟩; go_simp) <;> with_reducible rfl
  try simp only [Act.put, List.getElem_toArray, List.getElem_cons_succ, List.getElem_cons_zero, List.setIfInBounds_toArray, List.set_cons_zero, List.set_cons_succ]
  refine wpAnyH_take (i := 10) (v := ?v11) rfl (by kernel_rfl) (by kernel_rfl) (by kernel_rfl) (fun _ _ _ h => h) (Or.inl ⟨by kernel_rfl, ?h11⟩) HS ?r11
  case h11 => (rintro w ⟨e0, e1, e2, e3⟩; go_simp) <;> with_reducible rfl
  try simp only [Act.put, List.getElem_toArray, List.getElem_cons_succ, List.getElem_cons_zero, List.setIfInBounds_toArray, List.set_cons_zero, List.set_cons_succ]
  refine wpAnyH_take (i := 11) (v := ?v12) rfl (by kernel_rfl) (by kernel_rfl) (by kernel_rfl) (fun _ _ _ h => h) (Or.inl ⟨by kernel_rfl, ?h12⟩) HS ?r12
  case h12 => (rintro w ⟨e0, e1, e2, e3⟩; go_simp) <;> with_reducible rfl
  try simp only [Act.put, List.getElem_toArray, List.getElem_cons_succ, List.getElem_cons_zero, List.setIfInBounds_toArray, List.set_cons_zero, List.set_cons_succ]
  refine wpAnyH_take (i := 12) (v := ?v13) rfl (by kernel_rfl) (by kernel_rfl) (by kernel_rfl) (fun _ _ _ h => h) (Or.inl ⟨by kernel_rfl, ?h13⟩) HS ?r13
  case h13 => (rintro w ⟨e0, e1, e2, e3⟩; go_simp) <;> with_reducible rfl
  try simp only [Act.put, List.getElem_toArray, List.getElem_cons_succ, List.getElem_cons_zero, List.setIfInBounds_toArray, List.set_cons_zero, List.set_cons_succ]
  refine wpAnyH_take (i := 13) (v := ?v14) rfl (by kernel_rfl) (by kernel_rfl) (by kernel_rfl) (fun _ _ _ h => h) (Or.inl ⟨by kernel_rfl, ?h14⟩) HS ?r14
  case h14 => (rintro w ⟨e0, e1, e2, e3⟩; go_simp) <;> with_reducible rfl
  try simp only [Act.put, List.getElem_toArray, List.getElem_cons_succ, List.getElem_cons_zero, List.setIfInBounds_toArray, List.set_cons_zero, List.set_cons_succ]
  refine wpAnyH_take (i := 14) (v := ?v15) rfl (by kernel_rfl) (by kernel_rfl) (by kernel_rfl) (fun _ _ _ h => h) (Or.inl ⟨by kernel_rfl, ?h15⟩) HS ?r15
  case h15 => (rintro w ⟨e0, e1, e2, e3⟩; go_simp) <;> with_reducible rfl
  try simp only [Act.put, List.getElem_toArray, List.getElem_cons_succ, List.getElem_cons_zero, List.setIfInBounds_toArray, List.set_cons_zero, List.set_cons_succ]
  refine wpAnyH_done (by kernel_rfl) ?_ _
  clear HS
  have hDa : Below wa.heap.size wa wa.drew := (Below.refl _ _).drew
  have HBe : Hid (Below w.heap.size w wa.drew) := bchain HBa.out hDa
  have HXe : Hid (Bx w.heap.size (.slice (some ⟨b, o, none⟩) 3 cap) (.slice (some ⟨bp, op, none⟩) lp cpp) wa.drew) := HXa.out.later hDa
  have x0 := cell_later hDa y0
  have x1 := cell_later hDa y1
  go_upto_region 6 with fail
  refine wp_region_held_drew (S := fun _ => True) (by kernel_rfl) trivial (fun HS => ?_)
  clear y0 y1 HBa hDa
  generalize wa.drew = we at *
  refine wpAnyH_take (i := 0) (v := ?v16) rfl (by kernel_rfl) (by kernel_rfl) (by kernel_rfl) (fun _ _ _ h => h) (Or.inl ⟨by kernel_rfl, ?h16⟩) HS ?r16
  case h16 => (rintro w _; go_simp) <;> with_reducible rfl
  try simp only [Act.put, List.getElem_toArray, List.getElem_cons_succ, List.getElem_cons_zero, List.setIfInBounds_toArray, List.set_cons_zero, List.set_cons_succ]
  refine wpAnyH_take (i := 1) (v := ?v17) rfl (by kernel_rfl) (by kernel_rfl) (by kernel_rfl) (fun _ _ _ h => h) (Or.inl ⟨by kernel_rfl, ?h17⟩) HS ?r17
  case h17 => (rintro w _; go_simp) <;> with_reducible rfl
  try simp only [Act.put, List.getElem_toArray, List.getElem_cons_succ, List.getElem_cons_zero, List.setIfInBounds_toArray, List.set_cons_zero, List.set_cons_succ]
  refine wpAnyH_take (i := 2) (v := ?v18) rfl (by kernel_rfl) (by kernel_rfl) (by kernel_rfl) (fun _ _ _ h => h) (Or.inl ⟨by kernel_rfl, ?h18⟩) HS ?r18
  case h18 => (rintro w _; go_simp) <;> with_reducible rfl
  try simp only [Act.put, List.getElem_toArray, List.getElem_cons_succ, List.getElem_cons_zero, List.setIfInBounds_toArray, List.set_cons_zero, List.set_cons_succ]
  refine wpAnyH_take (i := 3) (v := ?v19) rfl (by kernel_rfl) (by kernel_rfl) (by kernel_rfl) (fun _ _ _ h => h) (Or.inl ⟨by kernel_rfl, ?h19⟩) HS ?r19
  case h19 => (rintro w _; go_simp) <;> with_reducible rfl
  try simp only [Act.put, List.getElem_toArray, List.getElem_cons_succ, List.getElem_cons_zero, List.setIfInBounds_toArray, List.set_cons_zero, List.set_cons_succ]
  refine wpAnyH_take (i := 4) (v := ?v20) rfl (by kernel_rfl) (by kernel_rfl) (by kernel_rfl) (fun _ _ _ h => h) (Or.inl ⟨by kernel_rfl, ?h20⟩) HS ?r20
  case h20 => (rintro w _; go_simp) <;> with_reducible rfl
  try simp only [Act.put, List.getElem_toArray, List.getElem_cons_succ, List.getElem_cons_zero, List.setIfInBounds_toArray, List.set_cons_zero, List.set_cons_succ]
  refine wpAnyH_take (i := 5) (v := ?v21) rfl (by kernel_rfl) (by kernel_rfl) (by kernel_rfl) (fun _ _ _ h => h) (Or.inl ⟨by kernel_rfl, ?h21⟩) HS ?r21
  case h21 => (rintro w _; go_simp) <;> with_reducible rfl
  try simp only [Act.put, List.getElem_toArray, List.getElem_cons_succ, List.getElem_cons_zero, List.setIfInBounds_toArray, List.set_cons_zero, List.set_cons_succ]
  refine wpAnyH_take (i := 6) (v := ?v22) rfl (by kernel_rfl) (by kernel_rfl) (by kernel_rfl) (fun _ _ _ h => h) (Or.inl ⟨by kernel_rfl, ?h22⟩) HS ?r22
  case h22 => (rintro w _; go_simp) <;> with_reducible rfl
  try simp only [Act.put, List.getElem_toArray, List.getElem_cons_succ, List.getElem_cons_zero, List.setIfInBounds_toArray, List.set_cons_zero, List.set_cons_succ]
  refine wpAnyH_take (i := 7) (v := ?v23) rfl (by kernel_rfl) (by kernel_rfl) (by kernel_rfl) (fun _ _ _ h => h) (Or.inl ⟨by kernel_rfl, ?h23⟩) HS ?r23
  case h23 => (rintro w _; go_simp) <;> with_reducible rfl
  try simp only [Act.put, List.getElem_toArray, List.getElem_cons_succ, List.getElem_cons_zero, List.setIfInBounds_toArray, List.set_cons_zero, List.set_cons_succ]
  refine wpAnyH_take (i := 8) (v := ?v24) rfl (by kernel_rfl) (by kernel_rfl) (by kernel_rfl) (fun _ _ _ h => h) (Or.inl ⟨by kernel_rfl, ?h24⟩) HS ?r24
  case h24 => (rintro w _; go_simp) <;> with_reducible rfl
  try simp only [Act.put, List.getElem_toArray, List.getElem_cons_succ, List.getElem_cons_zero, List.setIfInBounds_toArray, List.set_cons_zero, List.set_cons_succ]
  refine wpAnyH_take (i := 9) (v := ?v25) rfl (by kernel_rfl) (by kernel_rfl) (by kernel_rfl) (fun _ _ _ h => h) (Or.inl ⟨by kernel_rfl, ?h25⟩) HS ?r25
  case h25 => (rintro w _; go_simp) <;> with_reducible rfl
  try simp only [Act.put, List.getElem_toArray, List.getElem_cons_succ, List.getElem_cons_zero, List.setIfInBounds_toArray, List.set_cons_zero, List.set_cons_succ]
  refine wpAnyH_take (i := 10) (v := ?v26) rfl (by kernel_rfl) (by kernel_rfl) (by kernel_rfl) (fun _ _ _ h => h) (Or.inl ⟨by kernel_rfl, ?h26⟩) HS ?r26
  case h26 => (rintro w _; go_simp) <;> with_reducible rfl
  try simp only [Act.put, List.getElem_toArray, List.getElem_cons_succ, List.getElem_cons_zero, List.setIfInBounds_toArray, List.set_cons_zero, List.set_cons_succ]
  refine wpAnyH_done (by kernel_rfl) ?_ _
  clear HS t1 t2 wi1 z1n z1b z1z
  obtain ⟨i0, hti, htz0, htz1, htz2⟩ := info_parts dinfo_fx
  have HCp : Hid (∀ (k : Nat) (u : Value), (il P lp)[k]? = some u → we.cell? ((⟨bp, op, none⟩ : Addr).add k) = some u) := il_src (HAll.out.2.1.later HBe.out)
  have x1b : ∀ ob, (we.alloc ob).cell? ⟨w.heap.size, 1, none⟩ = some (.slice (some ⟨bp, op, none⟩) lp cpp) := fun ob => cell_later (bel1 we ob) x1
  go_wp2_with (at_builtin; refine wpList_append_own _ rfl _ _ 23 rfl we.heap.size 32 i0 (.int .i64 0) 1 8 Tryz.underlying23 hti htz0 htz1 htz2 rfl (by decide) _ _ _ rfl (World.ownsRow_made we #[] 0 (Nat.le_refl _) (Nat.zero_le _) (by simp)) ⟨bp, op, none⟩ lp cpp (il P lp) rfl ?qc1 ?qc2 ?qc3 ?qc4 ?qc5 ?qc6 ?_)
  case qc1 => rw [il_len, Nat.mul_one]
  case qc2 =>
    intro j u hj
    exact cell_later (bel1 we _) (HCp.out j u hj)
  case qc3 =>
    intro u hu
    unfold il at hu
    obtain ⟨k, _, rfl⟩ := List.mem_map.1 hu
    rfl
  case qc4 => unfold maxLen; omega
  case qc5 => omega
  case qc6 => simp
  intro v' w7 hown hgrow hnil
  have hbx : w.heap.size < we.heap.size := World.block_lt_of_cell? _ _ x0
  have hbp : bp < we.heap.size := World.block_lt_of_cell? _ _ (HPc.out _ HBe.out 0 hlp0).1
  have HW7 : Hid (Below we.heap.size we w7) := ((Below.refl _ we).alloc (Nat.le_refl _) _).grown hgrow (by simp) (by intro k hk; simp [Value.ownBlock] at hk; omega)
  have HB7 : Hid (Below w.heap.size w w7) := bchain HBe.out HW7.out
  obtain ⟨g, capq, rfl, hg, hc1, hc2, hR7⟩ := own_rw7 (n := lp) (f := P) (by simpa using hown) hlp0
  unfold maxLen at hc2
  have HR7 : Hid (Rw g lp (fun a => .int .i64 (hQ1 z P i j 0 a)) w7) := hR7
  have HX7 : Hid (Bx w.heap.size (.slice (some ⟨b, o, none⟩) 3 cap) (.slice (some ⟨bp, op, none⟩) lp cpp) w7) := HXe.out.later HW7.out
  have Hg : Hid (w.heap.size < g ∧ bp ≠ g) := ⟨by omega, by omega⟩
  clear x1b hown hgrow hnil hR7 hbx hbp hg HW7 HCp x0 x1 HBe hti htz0 htz1 htz2
  go_upto_region 9 with fail
  go_loopw [88] (fun s88 wr => ∃ k : Nat, k ≤ z 0 ∧ s88 = .int .i64 (k : Int) ∧ Hid (Rw g lp (fun a => .int .i64 (hQ1 z P i j k a)) wr) ∧ Hid (Below w.heap.size w wr ∧ Bx w.heap.size (.slice (some ⟨b, o, none⟩) 3 cap) (.slice (some ⟨bp, op, none⟩) lp cpp) wr)) (fun s88 _ => z 0 - (intOf s88).toNat)
  case atStart => exact ⟨0, by omega, rfl, HR7, ⟨HB7.out, HX7.out⟩⟩
  case round =>
    clear HR7 HB7 HX7
    obtain ⟨k, hk, rfl, hR, hI⟩ := hrel
    by_cases hkt : k < z 0
    · have hkI : (k : Int) < ((z 0 : Nat) : Int) := by omega
      have hDr : Below wr.heap.size wr wr.drew := (Below.refl _ _).drew
      have hBd : Below w.heap.size w wr.drew := bchain hI.out.1 hDr
      obtain ⟨hi1, hj1, hij⟩ := Hij.out
      have hL := Hlp.out
      have ri := row_le (n := z 0) hi1
      have rj := row_le (n := z 0) hj1
      have hsl : i * z 0 + k < lp := by omega
      have htl : j * z 0 + k < lp := by omega
      have hst : i * z 0 + k ≠ j * z 0 + k := row_ne hij hkt hkt
      have hIi : (i : Int) * ((z 0 : Nat) : Int) = ((i * z 0 : Nat) : Int) := (Int.natCast_mul _ _).symm
      have hIj : (j : Int) * ((z 0 : Nat) : Int) = ((j * z 0 : Nat) : Int) := (Int.natCast_mul _ _).symm
      have hI4 : i * z 0 ≤ lp := by omega
      have hJ4 : j * z 0 ≤ lp := by omega
      clear hL ri rj hi1 hj1 hij
      obtain ⟨si, hsi⟩ : ∃ si, i * z 0 + k = si := ⟨_, rfl⟩
      obtain ⟨tj, htj⟩ : ∃ tj, j * z 0 + k = tj := ⟨_, rfl⟩
      rw [hsi] at hsl hst
      rw [htj] at htl hst
      have HRn : Hid (Rw g lp (fun a => .int .i64 (hQ1 z P i j (k + 1) a)) ((wr.drew.setCell ⟨g, si, none⟩ (.int .i64 (P tj))).setCell ⟨g, tj, none⟩ (.int .i64 (P si)))) := by
        rw [← hsi, ← htj]
        exact Rw.swq (s := h1s z i) (t := h1s z j) (P := P) (Q := P) (k := k) (hR.out.later hDr)
      have cP1 := (HPc.out _ hBd si hsl).1
      have cP2 := (HPc.out _ hBd tj htl).1
      have hX1 := cell_later hDr hI.out.2.c1
      have hX0 := cell_later hDr hI.out.2.c0
      have HIn : Hid (Below w.heap.size w ((wr.drew.setCell ⟨g, si, none⟩ (.int .i64 (P tj))).setCell ⟨g, tj, none⟩ (.int .i64 (P si))) ∧ Bx w.heap.size (.slice (some ⟨b, o, none⟩) 3 cap) (.slice (some ⟨bp, op, none⟩) lp cpp) ((wr.drew.setCell ⟨g, si, none⟩ (.int .i64 (P tj))).setCell ⟨g, tj, none⟩ (.int .i64 (P si)))) := ⟨(hBd.setCell (Nat.le_of_lt Hg.out.1) _).setCell (Nat.le_of_lt Hg.out.1) _, ((hI.out.2.later hDr).far7 _ (Nat.ne_of_gt Hg.out.1)).far7 _ (Nat.ne_of_gt Hg.out.1)⟩
      have cS := (hR.out.later hDr).c si hsl
      have fS := (hR.out.later hDr).f si hsl
      have cT := (hR.out.later hDr).c tj htl
      have fT := (hR.out.later hDr).f tj htl
      have hst2 : ¬ tj = si := fun h => hst h.symm
      have hsI : (si : Int) < (lp : Int) := by omega
      have htI : (tj : Int) < (lp : Int) := by omega
      generalize i * z 0 = pi at *
      generalize j * z 0 = pj at *
      have v1' : IntKind.i64.wrap (pi : Int) = (pi : Int) := by rw [IntKind.wrap_i64]; omega
      have v2' : IntKind.i64.wrap (pj : Int) = (pj : Int) := by rw [IntKind.wrap_i64]; omega
      have v3' : IntKind.i64.wrap ((pi : Int) + (k : Int)) = (si : Int) := by rw [IntKind.wrap_i64]; omega
      have v4' : IntKind.i64.wrap ((pj : Int) + (k : Int)) = (tj : Int) := by rw [IntKind.wrap_i64]; omega
      clear hsi htj hDr hBd hX0 hI hR
      go_upto_region 11 with fail
      refine wp_region_held_drew (S := fun W' => W'.cell? ⟨w.heap.size, 1, none⟩ = some (.slice (some ⟨bp, op, none⟩) lp cpp) ∧ W'.cell? ⟨bp, op + si, none⟩ = some (.int .i64 (P si)) ∧ W'.cell? ⟨bp, op + tj, none⟩ = some (.int .i64 (P tj))) (by kernel_rfl) ⟨hX1, cP1, cP2⟩ (fun HS => ?_)
      clear hX1 cP1 cP2
      generalize wr.drew = wD at *
      refine wpAnyH_take (i := 0) (v := ?v27) rfl (by kernel_rfl) (by kernel_rfl) (by kernel_rfl) (fun _ _ _ h => h) (Or.inl ⟨by kernel_rfl, ?h27⟩) HS ?r27
      case h27 => (rintro w ⟨e0, e1, e2⟩; go_simp) <;> with_reducible rfl
      try simp only [Act.put, List.getElem_toArray, List.getElem_cons_succ, List.getElem_cons_zero, List.setIfInBounds_toArray, List.set_cons_zero, List.set_cons_succ]
      refine wpAnyH_take (i := 1) (v := ?v28) rfl (by kernel_rfl) (by kernel_rfl) (by kernel_rfl) (fun _ _ _ h => h) (Or.inl ⟨by kernel_rfl, ?h28⟩) HS ?r28
      case h28 => (rintro w ⟨e0, e1, e2⟩; go_simp) <;> with_reducible rfl
      try simp only [Act.put, List.getElem_toArray, List.getElem_cons_succ, List.getElem_cons_zero, List.setIfInBounds_toArray, List.set_cons_zero, List.set_cons_succ]
      refine wpAnyH_take (i := 2) (v := ?v29) rfl (by kernel_rfl) (by kernel_rfl) (by kernel_rfl) (fun _ _ _ h => h) (Or.inl ⟨by kernel_rfl, ?h29⟩) HS ?r29
      case h29 => (rintro w ⟨e0, e1, e2⟩; go_simp) <;> with_reducible rfl
      try simp only [Act.put, List.getElem_toArray, List.getElem_cons_succ, List.getElem_cons_zero, List.setIfInBounds_toArray, List.set_cons_zero, List.set_cons_succ]
      refine wpAnyH_take (i := 3) (v := ?v30) rfl (by kernel_rfl) (by kernel_rfl) (by kernel_rfl) (fun _ _ _ h => h) (Or.inl ⟨by kernel_rfl, ?h30⟩) HS ?r30
      case h30 => (rintro w ⟨e0, e1, e2⟩; go_simp) <;> with_reducible rfl
      try simp only [Act.put, List.getElem_toArray, List.getElem_cons_succ, List.getElem_cons_zero, List.setIfInBounds_toArray, List.set_cons_zero, List.set_cons_succ]
      refine wpAnyH_take (i := 4) (v := ?v31) rfl (by kernel_rfl) (by kernel_rfl) (by kernel_rfl) (fun _ _ _ h => h) (Or.inl ⟨by kernel_rfl, ?h31⟩) HS ?r31
      case h31 => (rintro w ⟨e0, e1, e2⟩; go_simp) <;> with_reducible rfl
      try simp only [Act.put, List.getElem_toArray, List.getElem_cons_succ, List.getElem_cons_zero, List.setIfInBounds_toArray, List.set_cons_zero, List.set_cons_succ]
      refine wpAnyH_take (i := 5) (v := ?v32) rfl (by kernel_rfl) (by kernel_rfl) (by kernel_rfl) (fun _ _ _ h => h) (Or.inl ⟨by kernel_rfl, ?h32⟩) HS ?r32
      case h32 => (rintro w ⟨e0, e1, e2⟩; go_simp) <;> with_reducible rfl
      try simp only [Act.put, List.getElem_toArray, List.getElem_cons_succ, List.getElem_cons_zero, List.setIfInBounds_toArray, List.set_cons_zero, List.set_cons_succ]
      refine wpAnyH_take (i := 6) (v := ?v33) rfl (by kernel_rfl) (by kernel_rfl) (by kernel_rfl) (fun _ _ _ h => h) (Or.inl ⟨by kernel_rfl, ?h33⟩) HS ?r33
      case h33 => (rintro w ⟨e0, e1, e2⟩; go_simp) <;> with_reducible rfl
      try simp only [Act.put, List.getElem_toArray, List.getElem_cons_succ, List.getElem_cons_zero, List.setIfInBounds_toArray, List.set_cons_zero, List.set_cons_succ]
      refine wpAnyH_take (i := 7) (v := ?v34) rfl (by kernel_rfl) (by kernel_rfl) (by kernel_rfl) (fun _ _ _ h => h) (Or.inl ⟨by kernel_rfl, ?h34⟩) HS ?r34
      case h34 => (rintro w ⟨e0, e1, e2⟩; go_simp) <;> with_reducible rfl
      try simp only [Act.put, List.getElem_toArray, List.getElem_cons_succ, List.getElem_cons_zero, List.setIfInBounds_toArray, List.set_cons_zero, List.set_cons_succ]
      refine wpAnyH_take (i := 8) (v := ?v35) rfl (by kernel_rfl) (by kernel_rfl) (by kernel_rfl) (fun _ _ _ h => h) (Or.inl ⟨by kernel_rfl, ?h35⟩) HS ?r35
      case h35 => (rintro w ⟨e0, e1, e2⟩; go_simp) <;> with_reducible rfl
      try simp only [Act.put, List.getElem_toArray, List.getElem_cons_succ, List.getElem_cons_zero, List.setIfInBounds_toArray, List.set_cons_zero, List.set_cons_succ]
      refine wpAnyH_take (i := 9) (v := ?v36) rfl (by kernel_rfl) (by kernel_rfl) (by kernel_rfl) (fun _ _ _ h => h) (Or.inl ⟨by kernel_rfl, ?h36⟩) HS ?r36
      case h36 => (rintro w ⟨e0, e1, e2⟩; go_simp) <;> with_reducible rfl
      try simp only [Act.put, List.getElem_toArray, List.getElem_cons_succ, List.getElem_cons_zero, List.setIfInBounds_toArray, List.set_cons_zero, List.set_cons_succ]
      refine wpAnyH_take (i := 10) (v := ?v37) rfl (by kernel_rfl) (by kernel_rfl) (by kernel_rfl) (fun _ _ _ h => h) (Or.inl ⟨by kernel_rfl, ?h37⟩) HS ?r37
      case h37 => (rintro w ⟨e0, e1, e2⟩; go_simp) <;> with_reducible rfl
      try simp only [Act.put, List.getElem_toArray, List.getElem_cons_succ, List.getElem_cons_zero, List.setIfInBounds_toArray, List.set_cons_zero, List.set_cons_succ]
      refine wpAnyH_take (i := 11) (v := ?v38) rfl (by kernel_rfl) (by kernel_rfl) (by kernel_rfl) (fun _ _ _ h => h) (Or.inl ⟨by kernel_rfl, ?h38⟩) HS ?r38
      case h38 => (rintro w ⟨e0, e1, e2⟩; go_simp) <;> with_reducible rfl
      try simp only [Act.put, List.getElem_toArray, List.getElem_cons_succ, List.getElem_cons_zero, List.setIfInBounds_toArray, List.set_cons_zero, List.set_cons_succ]
      refine wpAnyH_take (i := 12) (v := ?v39) rfl (by kernel_rfl) (by kernel_rfl) (by kernel_rfl) (fun _ _ _ h => h) (Or.inl ⟨by kernel_rfl, ?h39⟩) HS ?r39
      case h39 => (rintro w ⟨e0, e1, e2⟩; go_simp) <;> with_reducible rfl
      try simp only [Act.put, List.getElem_toArray, List.getElem_cons_succ, List.getElem_cons_zero, List.setIfInBounds_toArray, List.set_cons_zero, List.set_cons_succ]
      refine wpAnyH_take (i := 13) (v := ?v40) rfl (by kernel_rfl) (by kernel_rfl) (by kernel_rfl) (fun _ _ _ h => h) (Or.inl ⟨by kernel_rfl, ?h40⟩) HS ?r40
      case h40 => (rintro w ⟨e0, e1, e2⟩; go_simp) <;> with_reducible rfl
      try simp only [Act.put, List.getElem_toArray, List.getElem_cons_succ, List.getElem_cons_zero, List.setIfInBounds_toArray, List.set_cons_zero, List.set_cons_succ]
      refine wpAnyH_take (i := 14) (v := ?v41) rfl (by kernel_rfl) (by kernel_rfl) (by kernel_rfl) (fun _ _ _ h => h) (Or.inl ⟨by kernel_rfl, ?h41⟩) HS ?r41
      case h41 => (rintro w ⟨e0, e1, e2⟩; go_simp) <;> with_reducible rfl
      try simp only [Act.put, List.getElem_toArray, List.getElem_cons_succ, List.getElem_cons_zero, List.setIfInBounds_toArray, List.set_cons_zero, List.set_cons_succ]
      refine wpAnyH_take (i := 15) (v := ?v42) rfl (by kernel_rfl) (by kernel_rfl) (by kernel_rfl) (fun _ _ _ h => h) (Or.inl ⟨by kernel_rfl, ?h42⟩) HS ?r42
      case h42 => (rintro w ⟨e0, e1, e2⟩; go_simp) <;> with_reducible rfl
      try simp only [Act.put, List.getElem_toArray, List.getElem_cons_succ, List.getElem_cons_zero, List.setIfInBounds_toArray, List.set_cons_zero, List.set_cons_succ]
      refine wpAnyH_take (i := 16) (v := ?v43) rfl (by kernel_rfl) (by kernel_rfl) (by kernel_rfl) (fun _ _ _ h => h) (Or.inl ⟨by kernel_rfl, ?h43⟩) HS ?r43
      case h43 => (rintro w ⟨e0, e1, e2⟩; go_simp) <;> with_reducible rfl
      try simp only [Act.put, List.getElem_toArray, List.getElem_cons_succ, List.getElem_cons_zero, List.setIfInBounds_toArray, List.set_cons_zero, List.set_cons_succ]
      refine wpAnyH_take (i := 17) (v := ?v44) rfl (by kernel_rfl) (by kernel_rfl) (by kernel_rfl) (fun _ _ _ h => h) (Or.inl ⟨by kernel_rfl, ?h44⟩) HS ?r44
      case h44 => (rintro w ⟨e0, e1, e2⟩; go_simp) <;> with_reducible rfl
      try simp only [Act.put, List.getElem_toArray, List.getElem_cons_succ, List.getElem_cons_zero, List.setIfInBounds_toArray, List.set_cons_zero, List.set_cons_succ]
      refine wpAnyH_take (i := 18) (v := ?v45) rfl (by kernel_rfl) (by kernel_rfl) (by kernel_rfl) (fun _ _ _ h => h) (Or.inl ⟨by kernel_rfl, ?h45⟩) HS ?r45
      case h45 => (rintro w ⟨e0, e1, e2⟩; go_simp) <;> with_reducible rfl
      try simp only [Act.put, List.getElem_toArray, List.getElem_cons_succ, List.getElem_cons_zero, List.setIfInBounds_toArray, List.set_cons_zero, List.set_cons_succ]
      refine wpAnyH_take (i := 19) (v := ?v46) rfl (by kernel_rfl) (by kernel_rfl) (by kernel_rfl) (fun _ _ _ h => h) (Or.inl ⟨by kernel_rfl, ?h46⟩) HS ?r46
      case h46 => (rintro w ⟨e0, e1, e2⟩; go_simp) <;> with_reducible rfl
      try simp only [Act.put, List.getElem_toArray, List.getElem_cons_succ, List.getElem_cons_zero, List.setIfInBounds_toArray, List.set_cons_zero, List.set_cons_succ]
      refine wpAnyH_take (i := 20) (v := ?v47) rfl (by kernel_rfl) (by kernel_rfl) (by kernel_rfl) (fun _ _ _ h => h) (Or.inl ⟨by kernel_rfl, ?h47⟩) HS ?r47
      case h47 => (rintro w ⟨e0, e1, e2⟩; go_simp) <;> with_reducible rfl
      try simp only [Act.put, List.getElem_toArray, List.getElem_cons_succ, List.getElem_cons_zero, List.setIfInBounds_toArray, List.set_cons_zero, List.set_cons_succ]
      refine wpAnyH_take (i := 21) (v := ?v48) rfl (by kernel_rfl) (by kernel_rfl) (by kernel_rfl) (fun _ _ _ h => h) (Or.inl ⟨by kernel_rfl, ?h48⟩) HS ?r48
      case h48 => (rintro w ⟨e0, e1, e2⟩; go_simp) <;> with_reducible rfl
      try simp only [Act.put, List.getElem_toArray, List.getElem_cons_succ, List.getElem_cons_zero, List.setIfInBounds_toArray, List.set_cons_zero, List.set_cons_succ]
      refine wpAnyH_take (i := 22) (v := ?v49) rfl (by kernel_rfl) (by kernel_rfl) (by kernel_rfl) (fun _ _ _ h => h) (Or.inl ⟨by kernel_rfl, ?h49⟩) HS ?r49
      case h49 => (rintro w ⟨e0, e1, e2⟩; go_simp) <;> with_reducible rfl
      try simp only [Act.put, List.getElem_toArray, List.getElem_cons_succ, List.getElem_cons_zero, List.setIfInBounds_toArray, List.set_cons_zero, List.set_cons_succ]
      refine wpAnyH_take (i := 23) (v := ?v50) rfl (by kernel_rfl) (by kernel_rfl) (by kernel_rfl) (fun _ _ _ h => h) (Or.inl ⟨by kernel_rfl, ?h50⟩) HS ?r50
      case h50 => (rintro w ⟨e0, e1, e2⟩; go_simp) <;> with_reducible rfl
      try simp only [Act.put, List.getElem_toArray, List.getElem_cons_succ, List.getElem_cons_zero, List.setIfInBounds_toArray, List.set_cons_zero, List.set_cons_succ]
      refine wpAnyH_take (i := 24) (v := ?v51) rfl (by kernel_rfl) (by kernel_rfl) (by kernel_rfl) (fun _ _ _ h => h) (Or.inl ⟨by kernel_rfl, ?h51⟩) HS ?r51
      case h51 => (rintro w ⟨e0, e1, e2⟩; go_simp) <;> with_reducible rfl
      try simp only [Act.put, List.getElem_toArray, List.getElem_cons_succ, List.getElem_cons_zero, List.setIfInBounds_toArray, List.set_cons_zero, List.set_cons_succ]
      refine wpAnyH_take (i := 25) (v := ?v52) rfl (by kernel_rfl) (by kernel_rfl) (by kernel_rfl) (fun _ _ _ h => h) (Or.inl ⟨by kernel_rfl, ?h52⟩) HS ?r52
      case h52 => (rintro w ⟨e0, e1, e2⟩; go_simp) <;> with_reducible rfl
      try simp only [Act.put, List.getElem_toArray, List.getElem_cons_succ, List.getElem_cons_zero, List.setIfInBounds_toArray, List.set_cons_zero, List.set_cons_succ]
      refine wpAnyH_take (i := 26) (v := ?v53) rfl (by kernel_rfl) (by kernel_rfl) (by kernel_rfl) (fun _ _ _ h => h) (Or.inl ⟨by kernel_rfl, ?h53⟩) HS ?r53
      case h53 => (rintro w ⟨e0, e1, e2⟩; go_simp) <;> with_reducible rfl
      try simp only [Act.put, List.getElem_toArray, List.getElem_cons_succ, List.getElem_cons_zero, List.setIfInBounds_toArray, List.set_cons_zero, List.set_cons_succ]
      refine wpAnyH_take (i := 27) (v := ?v54) rfl (by kernel_rfl) (by kernel_rfl) (by kernel_rfl) (fun _ _ _ h => h) (Or.inl ⟨by kernel_rfl, ?h54⟩) HS ?r54
      case h54 => (rintro w ⟨e0, e1, e2⟩; go_simp) <;> with_reducible rfl
      try simp only [Act.put, List.getElem_toArray, List.getElem_cons_succ, List.getElem_cons_zero, List.setIfInBounds_toArray, List.set_cons_zero, List.set_cons_succ]
      refine wpAnyH_take (i := 28) (v := ?v55) rfl (by kernel_rfl) (by kernel_rfl) (by kernel_rfl) (fun _ _ _ h => h) (Or.inl ⟨by kernel_rfl, ?h55⟩) HS ?r55
      case h55 => (rintro w ⟨e0, e1, e2⟩; go_simp) <;> with_reducible rfl
      try simp only [Act.put, List.getElem_toArray, List.getElem_cons_succ, List.getElem_cons_zero, List.setIfInBounds_toArray, List.set_cons_zero, List.set_cons_succ]
      refine wpAnyH_take (i := 29) (v := ?v56) rfl (by kernel_rfl) (by kernel_rfl) (by kernel_rfl) (fun _ _ _ h => h) (Or.inl ⟨by kernel_rfl, ?h56⟩) HS ?r56
      case h56 => (rintro w ⟨e0, e1, e2⟩; go_simp) <;> with_reducible rfl
      try simp only [Act.put, List.getElem_toArray, List.getElem_cons_succ, List.getElem_cons_zero, List.setIfInBounds_toArray, List.set_cons_zero, List.set_cons_succ]
      refine wpAnyH_take (i := 30) (v := ?v57) rfl (by kernel_rfl) (by kernel_rfl) (by kernel_rfl) (fun _ _ _ h => h) (Or.inl ⟨by kernel_rfl, ?h57⟩) HS ?r57
      case h57 => (rintro w ⟨e0, e1, e2⟩; go_simp) <;> with_reducible rfl
      try simp only [Act.put, List.getElem_toArray, List.getElem_cons_succ, List.getElem_cons_zero, List.setIfInBounds_toArray, List.set_cons_zero, List.set_cons_succ]
      refine wpAnyH_ready (rs := [31]) (by kernel_rfl) (by simp) ?_
      refine AllReadyH.cons rfl (fun K hK => ?_) AllReadyH.nil
      go_simp
      refine hK.out _ _ ⟨cell_set (Nat.ne_of_gt Hg.out.1) HS.1, cell_set (fun h => Hg.out.2 h.symm) HS.2.1, cell_set (fun h => Hg.out.2 h.symm) HS.2.2⟩ (fun HS => ?_)
      clear hK K
      refine wpAnyH_take (i := 32) (v := ?v58) rfl (by kernel_rfl) (by kernel_rfl) (by kernel_rfl) (fun _ _ _ h => h) (Or.inl ⟨by kernel_rfl, ?h58⟩) HS ?r58
      case h58 => (rintro w ⟨e0, e1, e2⟩; go_simp) <;> with_reducible rfl
      try simp only [Act.put, List.getElem_toArray, List.getElem_cons_succ, List.getElem_cons_zero, List.setIfInBounds_toArray, List.set_cons_zero, List.set_cons_succ]
      refine wpAnyH_ready (rs := [33]) (by kernel_rfl) (by simp) ?_
      refine AllReadyH.cons rfl (fun K hK => ?_) AllReadyH.nil
      go_simp
      refine hK.out _ _ ⟨cell_set (Nat.ne_of_gt Hg.out.1) HS.1, cell_set (fun h => Hg.out.2 h.symm) HS.2.1, cell_set (fun h => Hg.out.2 h.symm) HS.2.2⟩ (fun HS => ?_)
      clear hK K
      refine wpAnyH_done (by kernel_rfl) ?_ _
      clear HS cS cT fS fT
      go_wp2
      go_roundw
      case rel => exact ⟨k + 1, by omega, by go_num, HRn, HIn⟩
      case measure => simp [intOf]; omega
    · obtain rfl : k = z 0 := by omega
      have hkI : ¬ ((z 0 : Nat) : Int) < ((z 0 : Nat) : Int) := by omega
      have hDr : Below wr.heap.size wr wr.drew := (Below.refl _ _).drew
      have hBd : Below w.heap.size w wr.drew := bchain hI.out.1 hDr
      obtain ⟨hi1, hj1, hij⟩ := Hij.out
      have hL := Hlp.out
      have ri := row_le (n := z 0) hi1
      have rj := row_le (n := z 0) hj1
      have hsl : z 0 * z 1 + i < lp := by omega
      have htl : z 0 * z 1 + j < lp := by omega
      have hst : z 0 * z 1 + i ≠ z 0 * z 1 + j := by omega
      have hIi : ((z 0 : Nat) : Int) * ((z 1 : Nat) : Int) = ((z 0 * z 1 : Nat) : Int) := (Int.natCast_mul _ _).symm
      have hI4 : z 0 * z 1 ≤ lp := by omega
      clear hL ri rj hi1 hj1 hij
      obtain ⟨si, hsi⟩ : ∃ si, z 0 * z 1 + i = si := ⟨_, rfl⟩
      obtain ⟨tj, htj⟩ : ∃ tj, z 0 * z 1 + j = tj := ⟨_, rfl⟩
      rw [hsi] at hsl hst
      rw [htj] at htl hst
      have HRn : Hid (Rw g lp (fun a => .int .i64 (hQ2 z P i j a)) ((wr.drew.setCell ⟨g, si, none⟩ (.int .i64 (P tj))).setCell ⟨g, tj, none⟩ (.int .i64 (P si)))) := by
        rw [← hsi, ← htj]
        exact Rw.swq (s := h2s z i) (t := h2s z j) (P := P) (Q := hQ1 z P i j (z 0)) (k := 0) (hR.out.later hDr)
      have cP1 := (HPc.out _ hBd si hsl).1
      have cP2 := (HPc.out _ hBd tj htl).1
      have hX1 := cell_later hDr hI.out.2.c1
      have hX0 := cell_later hDr hI.out.2.c0
      have HIn : Hid (Below w.heap.size w ((wr.drew.setCell ⟨g, si, none⟩ (.int .i64 (P tj))).setCell ⟨g, tj, none⟩ (.int .i64 (P si))) ∧ Bx w.heap.size (.slice (some ⟨b, o, none⟩) 3 cap) (.slice (some ⟨bp, op, none⟩) lp cpp) ((wr.drew.setCell ⟨g, si, none⟩ (.int .i64 (P tj))).setCell ⟨g, tj, none⟩ (.int .i64 (P si)))) := ⟨(hBd.setCell (Nat.le_of_lt Hg.out.1) _).setCell (Nat.le_of_lt Hg.out.1) _, ((hI.out.2.later hDr).far7 _ (Nat.ne_of_gt Hg.out.1)).far7 _ (Nat.ne_of_gt Hg.out.1)⟩
      have cS := (hR.out.later hDr).c si hsl
      have fS := (hR.out.later hDr).f si hsl
      have cT := (hR.out.later hDr).c tj htl
      have fT := (hR.out.later hDr).f tj htl
      have hst2 : ¬ tj = si := fun h => hst h.symm
      have hsI : (si : Int) < (lp : Int) := by omega
      have htI : (tj : Int) < (lp : Int) := by omega
      obtain ⟨pi, hpi⟩ : ∃ pi, z 0 * z 1 = pi := ⟨_, rfl⟩
      rw [hpi] at hIi hI4 hsi htj
      have v1' : IntKind.i64.wrap (pi : Int) = (pi : Int) := by rw [IntKind.wrap_i64]; omega
      have v3' : IntKind.i64.wrap ((pi : Int) + (i : Int)) = (si : Int) := by rw [IntKind.wrap_i64]; omega
      have v4' : IntKind.i64.wrap ((pi : Int) + (j : Int)) = (tj : Int) := by rw [IntKind.wrap_i64]; omega
      clear hpi
      clear hsi htj hDr hBd hX0 hI hR
      go_upto_region 13 with fail
      refine wp_region_held_drew (S := fun W' => W'.cell? ⟨w.heap.size, 1, none⟩ = some (.slice (some ⟨bp, op, none⟩) lp cpp) ∧ W'.cell? ⟨bp, op + si, none⟩ = some (.int .i64 (P si)) ∧ W'.cell? ⟨bp, op + tj, none⟩ = some (.int .i64 (P tj))) (by kernel_rfl) ⟨hX1, cP1, cP2⟩ (fun HS => ?_)
      clear hX1 cP1 cP2
      generalize wr.drew = wD at *
      refine wpAnyH_take (i := 0) (v := ?v59) rfl (by kernel_rfl) (by kernel_rfl) (by kernel_rfl) (fun _ _ _ h => h) (Or.inl ⟨by kernel_rfl, ?h59⟩) HS ?r59
      case h59 => (rintro w ⟨e0, e1, e2⟩; go_simp) <;> with_reducible rfl
      try simp only [Act.put, List.getElem_toArray, List.getElem_cons_succ, List.getElem_cons_zero, List.setIfInBounds_toArray, List.set_cons_zero, List.set_cons_succ]
      refine wpAnyH_take (i := 1) (v := ?v60) rfl (by kernel_rfl) (by kernel_rfl) (by kernel_rfl) (fun _ _ _ h => h) (Or.inl ⟨by kernel_rfl, ?h60⟩) HS ?r60
      case h60 => (rintro w ⟨e0, e1, e2⟩; go_simp) <;> with_reducible rfl
      try simp only [Act.put, List.getElem_toArray, List.getElem_cons_succ, List.getElem_cons_zero, List.setIfInBounds_toArray, List.set_cons_zero, List.set_cons_succ]
      refine wpAnyH_take (i := 2) (v := ?v61) rfl (by kernel_rfl) (by kernel_rfl) (by kernel_rfl) (fun _ _ _ h => h) (Or.inl ⟨by kernel_rfl, ?h61⟩) HS ?r61
      case h61 => (rintro w ⟨e0, e1, e2⟩; go_simp) <;> with_reducible rfl
      try simp only [Act.put, List.getElem_toArray, List.getElem_cons_succ, List.getElem_cons_zero, List.setIfInBounds_toArray, List.set_cons_zero, List.set_cons_succ]
      refine wpAnyH_take (i := 3) (v := ?v62) rfl (by kernel_rfl) (by kernel_rfl) (by kernel_rfl) (fun _ _ _ h => h) (Or.inl ⟨by kernel_rfl, ?h62⟩) HS ?r62
      case h62 => (rintro w ⟨e0, e1, e2⟩; go_simp) <;> with_reducible rfl
      try simp only [Act.put, List.getElem_toArray, List.getElem_cons_succ, List.getElem_cons_zero, List.setIfInBounds_toArray, List.set_cons_zero, List.set_cons_succ]
      refine wpAnyH_take (i := 4) (v := ?v63) rfl (by kernel_rfl) (by kernel_rfl) (by kernel_rfl) (fun _ _ _ h => h) (Or.inl ⟨by kernel_rfl, ?h63⟩) HS ?r63
      case h63 => (rintro w ⟨e0, e1, e2⟩; go_simp) <;> with_reducible rfl
      try simp only [Act.put, List.getElem_toArray, List.getElem_cons_succ, List.getElem_cons_zero, List.setIfInBounds_toArray, List.set_cons_zero, List.set_cons_succ]
      refine wpAnyH_take (i := 5) (v := ?v64) rfl (by kernel_rfl) (by kernel_rfl) (by kernel_rfl) (fun _ _ _ h => h) (Or.inl ⟨by kernel_rfl, ?h64⟩) HS ?r64
      case h64 => (rintro w ⟨e0, e1, e2⟩; go_simp) <;> with_reducible rfl
      try simp only [Act.put, List.getElem_toArray, List.getElem_cons_succ, List.getElem_cons_zero, List.setIfInBounds_toArray, List.set_cons_zero, List.set_cons_succ]
      refine wpAnyH_take (i := 6) (v := ?v65) rfl (by kernel_rfl) (by kernel_rfl) (by kernel_rfl) (fun _ _ _ h => h) (Or.inl ⟨by kernel_rfl, ?h65⟩) HS ?r65
      case h65 => (rintro w ⟨e0, e1, e2⟩; go_simp) <;> with_reducible rfl
      try simp only [Act.put, List.getElem_toArray, List.getElem_cons_succ, List.getElem_cons_zero, List.setIfInBounds_toArray, List.set_cons_zero, List.set_cons_succ]
      refine wpAnyH_take (i := 7) (v := ?v66) rfl (by kernel_rfl) (by kernel_rfl) (by kernel_rfl) (fun _ _ _ h => h) (Or.inl ⟨by kernel_rfl, ?h66⟩) HS ?r66
      case h66 => (rintro w ⟨e0, e1, e2⟩; go_simp) <;> with_reducible rfl
      try simp only [Act.put, List.getElem_toArray, List.getElem_cons_succ, List.getElem_cons_zero, List.setIfInBounds_toArray, List.set_cons_zero, List.set_cons_succ]
      refine wpAnyH_take (i := 8) (v := ?v67) rfl (by kernel_rfl) (by kernel_rfl) (by kernel_rfl) (fun _ _ _ h => h) (Or.inl ⟨by kernel_rfl, ?h67⟩) HS ?r67
      case h67 => (rintro w ⟨e0, e1, e2⟩; go_simp) <;> with_reducible rfl
      try simp only [Act.put, List.getElem_toArray, List.getElem_cons_succ, List.getElem_cons_zero, List.setIfInBounds_toArray, List.set_cons_zero, List.set_cons_succ]
      refine wpAnyH_take (i := 9) (v := ?v68) rfl (by kernel_rfl) (by kernel_rfl) (by kernel_rfl) (fun _ _ _ h => h) (Or.inl ⟨by kernel_rfl, ?h68⟩) HS ?r68
      case h68 => (rintro w ⟨e0, e1, e2⟩; go_simp) <;> with_reducible rfl
      try simp only [Act.put, List.getElem_toArray, List.getElem_cons_succ, List.getElem_cons_zero, List.setIfInBounds_toArray, List.set_cons_zero, List.set_cons_succ]
      refine wpAnyH_take (i := 10) (v := ?v69) rfl (by kernel_rfl) (by kernel_rfl) (by kernel_rfl) (fun _ _ _ h => h) (Or.inl ⟨by kernel_rfl, ?h69⟩) HS ?r69
      case h69 => (rintro w ⟨e0, e1, e2⟩; go_simp) <;> with_reducible rfl
      try simp only [Act.put, List.getElem_toArray, List.getElem_cons_succ, List.getElem_cons_zero, List.setIfInBounds_toArray, List.set_cons_zero, List.set_cons_succ]
      refine wpAnyH_take (i := 11) (v := ?v70) rfl (by kernel_rfl) (by kernel_rfl) (by kernel_rfl) (fun _ _ _ h => h) (Or.inl ⟨by kernel_rfl, ?h70⟩) HS ?r70
      case h70 => (rintro w ⟨e0, e1, e2⟩; go_simp) <;> with_reducible rfl
      try simp only [Act.put, List.getElem_toArray, List.getElem_cons_succ, List.getElem_cons_zero, List.setIfInBounds_toArray, List.set_cons_zero, List.set_cons_succ]
      refine wpAnyH_take (i := 12) (v := ?v71) rfl (by kernel_rfl) (by kernel_rfl) (by kernel_rfl) (fun _ _ _ h => h) (Or.inl ⟨by kernel_rfl, ?h71⟩) HS ?r71
      case h71 => (rintro w ⟨e0, e1, e2⟩; go_simp) <;> with_reducible rfl
      try simp only [Act.put, List.getElem_toArray, List.getElem_cons_succ, List.getElem_cons_zero, List.setIfInBounds_toArray, List.set_cons_zero, List.set_cons_succ]
      refine wpAnyH_take (i := 13) (v := ?v72) rfl (by kernel_rfl) (by kernel_rfl) (by kernel_rfl) (fun _ _ _ h => h) (Or.inl ⟨by kernel_rfl, ?h72⟩) HS ?r72
      case h72 => (rintro w ⟨e0, e1, e2⟩; go_simp) <;> with_reducible rfl
      try simp only [Act.put, List.getElem_toArray, List.getElem_cons_succ, List.getElem_cons_zero, List.setIfInBounds_toArray, List.set_cons_zero, List.set_cons_succ]
      refine wpAnyH_take (i := 14) (v := ?v73) rfl (by kernel_rfl) (by kernel_rfl) (by kernel_rfl) (fun _ _ _ h => h) (Or.inl ⟨by kernel_rfl, ?h73⟩) HS ?r73
      case h73 => (rintro w ⟨e0, e1, e2⟩; go_simp) <;> with_reducible rfl
      try simp only [Act.put, List.getElem_toArray, List.getElem_cons_succ, List.getElem_cons_zero, List.setIfInBounds_toArray, List.set_cons_zero, List.set_cons_succ]
      refine wpAnyH_take (i := 15) (v := ?v74) rfl (by kernel_rfl) (by kernel_rfl) (by kernel_rfl) (fun _ _ _ h => h) (Or.inl ⟨by kernel_rfl, ?h74⟩) HS ?r74
      case h74 => (rintro w ⟨e0, e1, e2⟩; go_simp) <;> with_reducible rfl
      try simp only [Act.put, List.getElem_toArray, List.getElem_cons_succ, List.getElem_cons_zero, List.setIfInBounds_toArray, List.set_cons_zero, List.set_cons_succ]
      refine wpAnyH_take (i := 16) (v := ?v75) rfl (by kernel_rfl) (by kernel_rfl) (by kernel_rfl) (fun _ _ _ h => h) (Or.inl ⟨by kernel_rfl, ?h75⟩) HS ?r75
      case h75 => (rintro w ⟨e0, e1, e2⟩; go_simp) <;> with_reducible rfl
      try simp only [Act.put, List.getElem_toArray, List.getElem_cons_succ, List.getElem_cons_zero, List.setIfInBounds_toArray, List.set_cons_zero, List.set_cons_succ]
      refine wpAnyH_take (i := 17) (v := ?v76) rfl (by kernel_rfl) (by kernel_rfl) (by kernel_rfl) (fun _ _ _ h => h) (Or.inl ⟨by kernel_rfl, ?h76⟩) HS ?r76
      case h76 => (rintro w ⟨e0, e1, e2⟩; go_simp) <;> with_reducible rfl
      try simp only [Act.put, List.getElem_toArray, List.getElem_cons_succ, List.getElem_cons_zero, List.setIfInBounds_toArray, List.set_cons_zero, List.set_cons_succ]
      refine wpAnyH_take (i := 18) (v := ?v77) rfl (by kernel_rfl) (by kernel_rfl) (by kernel_rfl) (fun _ _ _ h => h) (Or.inl ⟨by kernel_rfl, ?h77⟩) HS ?r77
      case h77 => (rintro w ⟨e0, e1, e2⟩; go_simp) <;> with_reducible rfl
      try simp only [Act.put, List.getElem_toArray, List.getElem_cons_succ, List.getElem_cons_zero, List.setIfInBounds_toArray, List.set_cons_zero, List.set_cons_succ]
      refine wpAnyH_take (i := 19) (v := ?v78) rfl (by kernel_rfl) (by kernel_rfl) (by kernel_rfl) (fun _ _ _ h => h) (Or.inl ⟨by kernel_rfl, ?h78⟩) HS ?r78
      case h78 => (rintro w ⟨e0, e1, e2⟩; go_simp) <;> with_reducible rfl
      try simp only [Act.put, List.getElem_toArray, List.getElem_cons_succ, List.getElem_cons_zero, List.setIfInBounds_toArray, List.set_cons_zero, List.set_cons_succ]
      refine wpAnyH_take (i := 20) (v := ?v79) rfl (by kernel_rfl) (by kernel_rfl) (by kernel_rfl) (fun _ _ _ h => h) (Or.inl ⟨by kernel_rfl, ?h79⟩) HS ?r79
      case h79 => (rintro w ⟨e0, e1, e2⟩; go_simp) <;> with_reducible rfl
      try simp only [Act.put, List.getElem_toArray, List.getElem_cons_succ, List.getElem_cons_zero, List.setIfInBounds_toArray, List.set_cons_zero, List.set_cons_succ]
      refine wpAnyH_take (i := 21) (v := ?v80) rfl (by kernel_rfl) (by kernel_rfl) (by kernel_rfl) (fun _ _ _ h => h) (Or.inl ⟨by kernel_rfl, ?h80⟩) HS ?r80
      case h80 => (rintro w ⟨e0, e1, e2⟩; go_simp) <;> with_reducible rfl
      try simp only [Act.put, List.getElem_toArray, List.getElem_cons_succ, List.getElem_cons_zero, List.setIfInBounds_toArray, List.set_cons_zero, List.set_cons_succ]
      refine wpAnyH_take (i := 22) (v := ?v81) rfl (by kernel_rfl) (by kernel_rfl) (by kernel_rfl) (fun _ _ _ h => h) (Or.inl ⟨by kernel_rfl, ?h81⟩) HS ?r81
      case h81 => (rintro w ⟨e0, e1, e2⟩; go_simp) <;> with_reducible rfl
      try simp only [Act.put, List.getElem_toArray, List.getElem_cons_succ, List.getElem_cons_zero, List.setIfInBounds_toArray, List.set_cons_zero, List.set_cons_succ]
      refine wpAnyH_take (i := 23) (v := ?v82) rfl (by kernel_rfl) (by kernel_rfl) (by kernel_rfl) (fun _ _ _ h => h) (Or.inl ⟨by kernel_rfl, ?h82⟩) HS ?r82
      case h82 => (rintro w ⟨e0, e1, e2⟩; go_simp) <;> with_reducible rfl
      try simp only [Act.put, List.getElem_toArray, List.getElem_cons_succ, List.getElem_cons_zero, List.setIfInBounds_toArray, List.set_cons_zero, List.set_cons_succ]
      refine wpAnyH_take (i := 24) (v := ?v83) rfl (by kernel_rfl) (by kernel_rfl) (by kernel_rfl) (fun _ _ _ h => h) (Or.inl ⟨by kernel_rfl, ?h83⟩) HS ?r83
      case h83 => (rintro w ⟨e0, e1, e2⟩; go_simp) <;> with_reducible rfl
      try simp only [Act.put, List.getElem_toArray, List.getElem_cons_succ, List.getElem_cons_zero, List.setIfInBounds_toArray, List.set_cons_zero, List.set_cons_succ]
      refine wpAnyH_take (i := 25) (v := ?v84) rfl (by kernel_rfl) (by kernel_rfl) (by kernel_rfl) (fun _ _ _ h => h) (Or.inl ⟨by kernel_rfl, ?h84⟩) HS ?r84
      case h84 => (rintro w ⟨e0, e1, e2⟩; go_simp) <;> with_reducible rfl
      try simp only [Act.put, List.getElem_toArray, List.getElem_cons_succ, List.getElem_cons_zero, List.setIfInBounds_toArray, List.set_cons_zero, List.set_cons_succ]
      refine wpAnyH_take (i := 26) (v := ?v85) rfl (by kernel_rfl) (by kernel_rfl) (by kernel_rfl) (fun _ _ _ h => h) (Or.inl ⟨by kernel_rfl, ?h85⟩) HS ?r85
      case h85 => (rintro w ⟨e0, e1, e2⟩; go_simp) <;> with_reducible rfl
      try simp only [Act.put, List.getElem_toArray, List.getElem_cons_succ, List.getElem_cons_zero, List.setIfInBounds_toArray, List.set_cons_zero, List.set_cons_succ]
      refine wpAnyH_take (i := 27) (v := ?v86) rfl (by kernel_rfl) (by kernel_rfl) (by kernel_rfl) (fun _ _ _ h => h) (Or.inl ⟨by kernel_rfl, ?h86⟩) HS ?r86
      case h86 => (rintro w ⟨e0, e1, e2⟩; go_simp) <;> with_reducible rfl
      try simp only [Act.put, List.getElem_toArray, List.getElem_cons_succ, List.getElem_cons_zero, List.setIfInBounds_toArray, List.set_cons_zero, List.set_cons_succ]
      refine wpAnyH_take (i := 28) (v := ?v87) rfl (by kernel_rfl) (by kernel_rfl) (by kernel_rfl) (fun _ _ _ h => h) (Or.inl ⟨by kernel_rfl, ?h87⟩) HS ?r87
      case h87 => (rintro w ⟨e0, e1, e2⟩; go_simp) <;> with_reducible rfl
      try simp only [Act.put, List.getElem_toArray, List.getElem_cons_succ, List.getElem_cons_zero, List.setIfInBounds_toArray, List.set_cons_zero, List.set_cons_succ]
      refine wpAnyH_take (i := 29) (v := ?v88) rfl (by kernel_rfl) (by kernel_rfl) (by kernel_rfl) (fun _ _ _ h => h) (Or.inl ⟨by kernel_rfl, ?h88⟩) HS ?r88
      case h88 => (rintro w ⟨e0, e1, e2⟩; go_simp) <;> with_reducible rfl
      try simp only [Act.put, List.getElem_toArray, List.getElem_cons_succ, List.getElem_cons_zero, List.setIfInBounds_toArray, List.set_cons_zero, List.set_cons_succ]
      refine wpAnyH_take (i := 30) (v := ?v89) rfl (by kernel_rfl) (by kernel_rfl) (by kernel_rfl) (fun _ _ _ h => h) (Or.inl ⟨by kernel_rfl, ?h89⟩) HS ?r89
      case h89 => (rintro w ⟨e0, e1, e2⟩; go_simp) <;> with_reducible rfl
      try simp only [Act.put, List.getElem_toArray, List.getElem_cons_succ, List.getElem_cons_zero, List.setIfInBounds_toArray, List.set_cons_zero, List.set_cons_succ]
      refine wpAnyH_ready (rs := [31]) (by kernel_rfl) (by simp) ?_
      refine AllReadyH.cons rfl (fun K hK => ?_) AllReadyH.nil
      go_simp
      refine hK.out _ _ ⟨cell_set (Nat.ne_of_gt Hg.out.1) HS.1, cell_set (fun h => Hg.out.2 h.symm) HS.2.1, cell_set (fun h => Hg.out.2 h.symm) HS.2.2⟩ (fun HS => ?_)
      clear hK K
      refine wpAnyH_take (i := 32) (v := ?v90) rfl (by kernel_rfl) (by kernel_rfl) (by kernel_rfl) (fun _ _ _ h => h) (Or.inl ⟨by kernel_rfl, ?h90⟩) HS ?r90
      case h90 => (rintro w ⟨e0, e1, e2⟩; go_simp) <;> with_reducible rfl
      try simp only [Act.put, List.getElem_toArray, List.getElem_cons_succ, List.getElem_cons_zero, List.setIfInBounds_toArray, List.set_cons_zero, List.set_cons_succ]
      refine wpAnyH_ready (rs := [33]) (by kernel_rfl) (by simp) ?_
      refine AllReadyH.cons rfl (fun K hK => ?_) AllReadyH.nil
      go_simp
      refine hK.out _ _ ⟨cell_set (Nat.ne_of_gt Hg.out.1) HS.1, cell_set (fun h => Hg.out.2 h.symm) HS.2.1, cell_set (fun h => Hg.out.2 h.symm) HS.2.2⟩ (fun HS => ?_)
      clear hK K
      refine wpAnyH_done (by kernel_rfl) ?_ _
      clear HS cS cT fS fT
      clear hIi hI4 v1' v3' v4'
      have hI2 : ((z 0 : Nat) : Int) * ((z 1 : Nat) : Int) = ((z 0 * z 1 : Nat) : Int) := (Int.natCast_mul _ _).symm
      obtain ⟨r, hr⟩ : ∃ r, z 0 * z 1 = r := ⟨_, rfl⟩
      have hrl : r ≤ lp := by have := Hlp.out; omega
      obtain ⟨r2, hr2⟩ : ∃ r2, r + z 1 = r2 := ⟨_, rfl⟩
      rw [hr] at hI2
      have w1' : IntKind.i64.wrap (r : Int) = (r : Int) := by rw [IntKind.wrap_i64]; omega
      have w2' : IntKind.i64.wrap ((r : Int) + ((z 1 : Nat) : Int)) = (r2 : Int) := by rw [IntKind.wrap_i64]; omega
      have Hr : Hid (z 0 * z 1 + z 1 = r2) := by show _ = _; omega
      clear hr hr2
      go_upto_region 16 with fail
      clear hI2 w1' w2' hrl
      go_loopw [162] (fun s162 wu => ∃ k : Nat, k ≤ z 2 ∧ s162 = .int .i64 (k : Int) ∧ Hid (Rw g lp (fun a => .int .i64 (hQ3 z P i j k a)) wu) ∧ Hid (Below w.heap.size w wu ∧ Bx w.heap.size (.slice (some ⟨b, o, none⟩) 3 cap) (.slice (some ⟨bp, op, none⟩) lp cpp) wu)) (fun s162 _ => z 2 - (intOf s162).toNat)
      case atStart => exact ⟨0, by omega, rfl, HRn, HIn⟩
      case round =>
        rename World => wu
        clear HRn HIn
        obtain ⟨k, hk, rfl, hR, hI⟩ := hrel
        by_cases hkt : k < z 2
        · have hkI : (k : Int) < ((z 2 : Nat) : Int) := by omega
          have hDr : Below wu.heap.size wu wu.drew := (Below.refl _ _).drew
          have hBd : Below w.heap.size w wu.drew := bchain hI.out.1 hDr
          obtain ⟨hi1, hj1, hij⟩ := Hij.out
          have hL := Hlp.out
          have ri := row_le (n := z 0) hi1
          have rj := row_le (n := z 0) hj1
          have rk := row_le (n := z 1) hkt
          have hsl : z 0 * z 1 + z 1 + k * z 1 + i < lp := by omega
          have htl : z 0 * z 1 + z 1 + k * z 1 + j < lp := by omega
          have hst : z 0 * z 1 + z 1 + k * z 1 + i ≠ z 0 * z 1 + z 1 + k * z 1 + j := by omega
          have hIi : (k : Int) * ((z 1 : Nat) : Int) = ((k * z 1 : Nat) : Int) := (Int.natCast_mul _ _).symm
          have hI4 : k * z 1 ≤ lp := by omega
          have hr2' : r2 ≤ lp := by have := Hr.out; omega
          clear hL ri rj rk hi1 hj1 hij
          obtain ⟨si, hsi⟩ : ∃ si, z 0 * z 1 + z 1 + k * z 1 + i = si := ⟨_, rfl⟩
          obtain ⟨tj, htj⟩ : ∃ tj, z 0 * z 1 + z 1 + k * z 1 + j = tj := ⟨_, rfl⟩
          rw [hsi] at hsl hst
          rw [htj] at htl hst
          have HRn : Hid (Rw g lp (fun a => .int .i64 (hQ3 z P i j (k + 1) a)) ((wu.drew.setCell ⟨g, si, none⟩ (.int .i64 (P tj))).setCell ⟨g, tj, none⟩ (.int .i64 (P si)))) := by
            rw [← hsi, ← htj]
            exact Rw.swq (s := h3s z i) (t := h3s z j) (P := P) (Q := hQ2 z P i j) (k := k) (hR.out.later hDr)
          have cP1 := (HPc.out _ hBd si hsl).1
          have cP2 := (HPc.out _ hBd tj htl).1
          have hX1 := cell_later hDr hI.out.2.c1
          have hX0 := cell_later hDr hI.out.2.c0
          have HIn : Hid (Below w.heap.size w ((wu.drew.setCell ⟨g, si, none⟩ (.int .i64 (P tj))).setCell ⟨g, tj, none⟩ (.int .i64 (P si))) ∧ Bx w.heap.size (.slice (some ⟨b, o, none⟩) 3 cap) (.slice (some ⟨bp, op, none⟩) lp cpp) ((wu.drew.setCell ⟨g, si, none⟩ (.int .i64 (P tj))).setCell ⟨g, tj, none⟩ (.int .i64 (P si)))) := ⟨(hBd.setCell (Nat.le_of_lt Hg.out.1) _).setCell (Nat.le_of_lt Hg.out.1) _, ((hI.out.2.later hDr).far7 _ (Nat.ne_of_gt Hg.out.1)).far7 _ (Nat.ne_of_gt Hg.out.1)⟩
          have cS := (hR.out.later hDr).c si hsl
          have fS := (hR.out.later hDr).f si hsl
          have cT := (hR.out.later hDr).c tj htl
          have fT := (hR.out.later hDr).f tj htl
          have hst2 : ¬ tj = si := fun h => hst h.symm
          have hsI : (si : Int) < (lp : Int) := by omega
          have htI : (tj : Int) < (lp : Int) := by omega
          obtain ⟨pi, hpi⟩ : ∃ pi, k * z 1 = pi := ⟨_, rfl⟩
          rw [hpi] at hIi hI4 hsi htj
          rw [Hr.out] at hsi htj
          obtain ⟨pr, hpr⟩ : ∃ pr, r2 + pi = pr := ⟨_, rfl⟩
          have v1' : IntKind.i64.wrap (pi : Int) = (pi : Int) := by rw [IntKind.wrap_i64]; omega
          have v2' : IntKind.i64.wrap ((r2 : Int) + (pi : Int)) = (pr : Int) := by rw [IntKind.wrap_i64]; omega
          have v3' : IntKind.i64.wrap ((pr : Int) + (i : Int)) = (si : Int) := by rw [IntKind.wrap_i64]; omega
          have v4' : IntKind.i64.wrap ((pr : Int) + (j : Int)) = (tj : Int) := by rw [IntKind.wrap_i64]; omega
          clear hpi hpr
          clear hsi htj hDr hBd hX0 hI hR
          go_upto_region 18 with fail
          refine wp_region_held_drew (S := fun W' => W'.cell? ⟨w.heap.size, 1, none⟩ = some (.slice (some ⟨bp, op, none⟩) lp cpp) ∧ W'.cell? ⟨bp, op + si, none⟩ = some (.int .i64 (P si)) ∧ W'.cell? ⟨bp, op + tj, none⟩ = some (.int .i64 (P tj))) (by kernel_rfl) ⟨hX1, cP1, cP2⟩ (fun HS => ?_)
          clear hX1 cP1 cP2
          generalize wu.drew = wD at *
          refine wpAnyH_take (i := 0) (v := ?v91) rfl (by kernel_rfl) (by kernel_rfl) (by kernel_rfl) (fun _ _ _ h => h) (Or.inl ⟨by kernel_rfl, ?h91⟩) HS ?r91
          case h91 => (rintro w ⟨e0, e1, e2⟩; go_simp) <;> with_reducible rfl
          try simp only [Act.put, List.getElem_toArray, List.getElem_cons_succ, List.getElem_cons_zero, List.setIfInBounds_toArray, List.set_cons_zero, List.set_cons_succ]
          refine wpAnyH_take (i := 1) (v := ?v92) rfl (by kernel_rfl) (by kernel_rfl) (by kernel_rfl) (fun _ _ _ h => h) (Or.inl ⟨by kernel_rfl, ?h92⟩) HS ?r92
          case h92 => (rintro w ⟨e0, e1, e2⟩; go_simp) <;> with_reducible rfl
          try simp only [Act.put, List.getElem_toArray, List.getElem_cons_succ, List.getElem_cons_zero, List.setIfInBounds_toArray, List.set_cons_zero, List.set_cons_succ]
          refine wpAnyH_take (i := 2) (v := ?v93) rfl (by kernel_rfl) (by kernel_rfl) (by kernel_rfl) (fun _ _ _ h => h) (Or.inl ⟨by kernel_rfl, ?h93⟩) HS ?r93
          case h93 => (rintro w ⟨e0, e1, e2⟩; go_simp) <;> with_reducible rfl
          try simp only [Act.put, List.getElem_toArray, List.getElem_cons_succ, List.getElem_cons_zero, List.setIfInBounds_toArray, List.set_cons_zero, List.set_cons_succ]
          refine wpAnyH_take (i := 3) (v := ?v94) rfl (by kernel_rfl) (by kernel_rfl) (by kernel_rfl) (fun _ _ _ h => h) (Or.inl ⟨by kernel_rfl, ?h94⟩) HS ?r94
          case h94 => (rintro w ⟨e0, e1, e2⟩; go_simp) <;> with_reducible rfl
          try simp only [Act.put, List.getElem_toArray, List.getElem_cons_succ, List.getElem_cons_zero, List.setIfInBounds_toArray, List.set_cons_zero, List.set_cons_succ]
          refine wpAnyH_take (i := 4) (v := ?v95) rfl (by kernel_rfl) (by kernel_rfl) (by kernel_rfl) (fun _ _ _ h => h) (Or.inl ⟨by kernel_rfl, ?h95⟩) HS ?r95
          case h95 => (rintro w ⟨e0, e1, e2⟩; go_simp) <;> with_reducible rfl
          try simp only [Act.put, List.getElem_toArray, List.getElem_cons_succ, List.getElem_cons_zero, List.setIfInBounds_toArray, List.set_cons_zero, List.set_cons_succ]
          refine wpAnyH_take (i := 5) (v := ?v96) rfl (by kernel_rfl) (by kernel_rfl) (by kernel_rfl) (fun _ _ _ h => h) (Or.inl ⟨by kernel_rfl, ?h96⟩) HS ?r96
          case h96 => (rintro w ⟨e0, e1, e2⟩; go_simp) <;> with_reducible rfl
          try simp only [Act.put, List.getElem_toArray, List.getElem_cons_succ, List.getElem_cons_zero, List.setIfInBounds_toArray, List.set_cons_zero, List.set_cons_succ]
          refine wpAnyH_take (i := 6) (v := ?v97) rfl (by kernel_rfl) (by kernel_rfl) (by kernel_rfl) (fun _ _ _ h => h) (Or.inl ⟨by kernel_rfl, ?h97⟩) HS ?r97
          case h97 => (rintro w ⟨e0, e1, e2⟩; go_simp) <;> with_reducible rfl
          try simp only [Act.put, List.getElem_toArray, List.getElem_cons_succ, List.getElem_cons_zero, List.setIfInBounds_toArray, List.set_cons_zero, List.set_cons_succ]
          refine wpAnyH_take (i := 7) (v := ?v98) rfl (by kernel_rfl) (by kernel_rfl) (by kernel_rfl) (fun _ _ _ h => h) (Or.inl ⟨by kernel_rfl, ?h98⟩) HS ?r98
          case h98 => (rintro w ⟨e0, e1, e2⟩; go_simp) <;> with_reducible rfl
          try simp only [Act.put, List.getElem_toArray, List.getElem_cons_succ, List.getElem_cons_zero, List.setIfInBounds_toArray, List.set_cons_zero, List.set_cons_succ]
          refine wpAnyH_take (i := 8) (v := ?v99) rfl (by kernel_rfl) (by kernel_rfl) (by kernel_rfl) (fun _ _ _ h => h) (Or.inl ⟨by kernel_rfl, ?h99⟩) HS ?r99
          case h99 => (rintro w ⟨e0, e1, e2⟩; go_simp) <;> with_reducible rfl
          try simp only [Act.put, List.getElem_toArray, List.getElem_cons_succ, List.getElem_cons_zero, List.setIfInBounds_toArray, List.set_cons_zero, List.set_cons_succ]
          refine wpAnyH_take (i := 9) (v := ?v100) rfl (by kernel_rfl) (by kernel_rfl) (by kernel_rfl) (fun _ _ _ h => h) (Or.inl ⟨by kernel_rfl, ?h100⟩) HS ?r100
          case h100 => (rintro w ⟨e0, e1, e2⟩; go_simp) <;> with_reducible rfl
          try simp only [Act.put, List.getElem_toArray, List.getElem_cons_succ, List.getElem_cons_zero, List.setIfInBounds_toArray, List.set_cons_zero, List.set_cons_succ]
          refine wpAnyH_take (i := 10) (v := ?v101) rfl (by kernel_rfl) (by kernel_rfl) (by kernel_rfl) (fun _ _ _ h => h) (Or.inl ⟨by kernel_rfl, ?h101⟩) HS ?r101
          case h101 => (rintro w ⟨e0, e1, e2⟩; go_simp) <;> with_reducible rfl
          try simp only [Act.put, List.getElem_toArray, List.getElem_cons_succ, List.getElem_cons_zero, List.setIfInBounds_toArray, List.set_cons_zero, List.set_cons_succ]
          refine wpAnyH_take (i := 11) (v := ?v102) rfl (by kernel_rfl) (by kernel_rfl) (by kernel_rfl) (fun _ _ _ h => h) (Or.inl ⟨by kernel_rfl, ?h102⟩) HS ?r102
          case h102 => (rintro w ⟨e0, e1, e2⟩; go_simp) <;> with_reducible rfl
          try simp only [Act.put, List.getElem_toArray, List.getElem_cons_succ, List.getElem_cons_zero, List.setIfInBounds_toArray, List.set_cons_zero, List.set_cons_succ]
          refine wpAnyH_take (i := 12) (v := ?v103) rfl (by kernel_rfl) (by kernel_rfl) (by kernel_rfl) (fun _ _ _ h => h) (Or.inl ⟨by kernel_rfl, ?h103⟩) HS ?r103
          case h103 => (rintro w ⟨e0, e1, e2⟩; go_simp) <;> with_reducible rfl
          try simp only [Act.put, List.getElem_toArray, List.getElem_cons_succ, List.getElem_cons_zero, List.setIfInBounds_toArray, List.set_cons_zero, List.set_cons_succ]
          refine wpAnyH_take (i := 13) (v := ?v104) rfl (by kernel_rfl) (by kernel_rfl) (by kernel_rfl) (fun _ _ _ h => h) (Or.inl ⟨by kernel_rfl, ?h104⟩) HS ?r104
          case h104 => (rintro w ⟨e0, e1, e2⟩; go_simp) <;> with_reducible rfl
          try simp only [Act.put, List.getElem_toArray, List.getElem_cons_succ, List.getElem_cons_zero, List.setIfInBounds_toArray, List.set_cons_zero, List.set_cons_succ]
          refine wpAnyH_take (i := 14) (v := ?v105) rfl (by kernel_rfl) (by kernel_rfl) (by kernel_rfl) (fun _ _ _ h => h) (Or.inl ⟨by kernel_rfl, ?h105⟩) HS ?r105
          case h105 => (rintro w ⟨e0, e1, e2⟩; go_simp) <;> with_reducible rfl
          try simp only [Act.put, List.getElem_toArray, List.getElem_cons_succ, List.getElem_cons_zero, List.setIfInBounds_toArray, List.set_cons_zero, List.set_cons_succ]
          refine wpAnyH_take (i := 15) (v := ?v106) rfl (by kernel_rfl) (by kernel_rfl) (by kernel_rfl) (fun _ _ _ h => h) (Or.inl ⟨by kernel_rfl, ?h106⟩) HS ?r106
          case h106 => (rintro w ⟨e0, e1, e2⟩; go_simp) <;> with_reducible rfl
          try simp only [Act.put, List.getElem_toArray, List.getElem_cons_succ, List.getElem_cons_zero, List.setIfInBounds_toArray, List.set_cons_zero, List.set_cons_succ]
          refine wpAnyH_take (i := 16) (v := ?v107) rfl (by kernel_rfl) (by kernel_rfl) (by kernel_rfl) (fun _ _ _ h => h) (Or.inl ⟨by kernel_rfl, ?h107⟩) HS ?r107
          case h107 => (rintro w ⟨e0, e1, e2⟩; go_simp) <;> with_reducible rfl
          try simp only [Act.put, List.getElem_toArray, List.getElem_cons_succ, List.getElem_cons_zero, List.setIfInBounds_toArray, List.set_cons_zero, List.set_cons_succ]
          refine wpAnyH_take (i := 17) (v := ?v108) rfl (by kernel_rfl) (by kernel_rfl) (by kernel_rfl) (fun _ _ _ h => h) (Or.inl ⟨by kernel_rfl, ?h108⟩) HS ?r108
          case h108 => (rintro w ⟨e0, e1, e2⟩; go_simp) <;> with_reducible rfl
          try simp only [Act.put, List.getElem_toArray, List.getElem_cons_succ, List.getElem_cons_zero, List.setIfInBounds_toArray, List.set_cons_zero, List.set_cons_succ]
          refine wpAnyH_take (i := 18) (v := ?v109) rfl (by kernel_rfl) (by kernel_rfl) (by kernel_rfl) (fun _ _ _ h => h) (Or.inl ⟨by kernel_rfl, ?h109⟩) HS ?r109
          case h109 => (rintro w ⟨e0, e1, e2⟩; go_simp) <;> with_reducible rfl
          try simp only [Act.put, List.getElem_toArray, List.getElem_cons_succ, List.getElem_cons_zero, List.setIfInBounds_toArray, List.set_cons_zero, List.set_cons_succ]
          refine wpAnyH_take (i := 19) (v := ?v110) rfl (by kernel_rfl) (by kernel_rfl) (by kernel_rfl) (fun _ _ _ h => h) (Or.inl ⟨by kernel_rfl, ?h110⟩) HS ?r110
          case h110 => (rintro w ⟨e0, e1, e2⟩; go_simp) <;> with_reducible rfl
          try simp only [Act.put, List.getElem_toArray, List.getElem_cons_succ, List.getElem_cons_zero, List.setIfInBounds_toArray, List.set_cons_zero, List.set_cons_succ]
          refine wpAnyH_take (i := 20) (v := ?v111) rfl (by kernel_rfl) (by kernel_rfl) (by kernel_rfl) (fun _ _ _ h => h) (Or.inl ⟨by kernel_rfl, ?h111⟩) HS ?r111
          case h111 => (rintro w ⟨e0, e1, e2⟩; go_simp) <;> with_reducible rfl
          try simp only [Act.put, List.getElem_toArray, List.getElem_cons_succ, List.getElem_cons_zero, List.setIfInBounds_toArray, List.set_cons_zero, List.set_cons_succ]
          refine wpAnyH_take (i := 21) (v := ?v112) rfl (by kernel_rfl) (by kernel_rfl) (by kernel_rfl) (fun _ _ _ h => h) (Or.inl ⟨by kernel_rfl, ?h112⟩) HS ?r112
          case h112 => (rintro w ⟨e0, e1, e2⟩; go_simp) <;> with_reducible rfl
          try simp only [Act.put, List.getElem_toArray, List.getElem_cons_succ, List.getElem_cons_zero, List.setIfInBounds_toArray, List.set_cons_zero, List.set_cons_succ]
          refine wpAnyH_take (i := 22) (v := ?v113) rfl (by kernel_rfl) (by kernel_rfl) (by kernel_rfl) (fun _ _ _ h => h) (Or.inl ⟨by kernel_rfl, ?h113⟩) HS ?r113
          case h113 => (rintro w ⟨e0, e1, e2⟩; go_simp) <;> with_reducible rfl
          try simp only [Act.put, List.getElem_toArray, List.getElem_cons_succ, List.getElem_cons_zero, List.setIfInBounds_toArray, List.set_cons_zero, List.set_cons_succ]
          refine wpAnyH_take (i := 23) (v := ?v114) rfl (by kernel_rfl) (by kernel_rfl) (by kernel_rfl) (fun _ _ _ h => h) (Or.inl ⟨by kernel_rfl, ?h114⟩) HS ?r114
          case h114 => (rintro w ⟨e0, e1, e2⟩; go_simp) <;> with_reducible rfl
          try simp only [Act.put, List.getElem_toArray, List.getElem_cons_succ, List.getElem_cons_zero, List.setIfInBounds_toArray, List.set_cons_zero, List.set_cons_succ]
          refine wpAnyH_take (i := 24) (v := ?v115) rfl (by kernel_rfl) (by kernel_rfl) (by kernel_rfl) (fun _ _ _ h => h) (Or.inl ⟨by kernel_rfl, ?h115⟩) HS ?r115
          case h115 => (rintro w ⟨e0, e1, e2⟩; go_simp) <;> with_reducible rfl
          try simp only [Act.put, List.getElem_toArray, List.getElem_cons_succ, List.getElem_cons_zero, List.setIfInBounds_toArray, List.set_cons_zero, List.set_cons_succ]
          refine wpAnyH_take (i := 25) (v := ?v116) rfl (by kernel_rfl) (by kernel_rfl) (by kernel_rfl) (fun _ _ _ h => h) (Or.inl ⟨by kernel_rfl, ?h116⟩) HS ?r116
          case h116 => (rintro w ⟨e0, e1, e2⟩; go_simp) <;> with_reducible rfl
          try simp only [Act.put, List.getElem_toArray, List.getElem_cons_succ, List.getElem_cons_zero, List.setIfInBounds_toArray, List.set_cons_zero, List.set_cons_succ]
          refine wpAnyH_take (i := 26) (v := ?v117) rfl (by kernel_rfl) (by kernel_rfl) (by kernel_rfl) (fun _ _ _ h => h) (Or.inl ⟨by kernel_rfl, ?h117⟩) HS ?r117
          case h117 => (rintro w ⟨e0, e1, e2⟩; go_simp) <;> with_reducible rfl
          try simp only [Act.put, List.getElem_toArray, List.getElem_cons_succ, List.getElem_cons_zero, List.setIfInBounds_toArray, List.set_cons_zero, List.set_cons_succ]
          refine wpAnyH_take (i := 27) (v := ?v118) rfl (by kernel_rfl) (by kernel_rfl) (by kernel_rfl) (fun _ _ _ h => h) (Or.inl ⟨by kernel_rfl, ?h118⟩) HS ?r118
          case h118 => (rintro w ⟨e0, e1, e2⟩; go_simp) <;> with_reducible rfl
          try simp only [Act.put, List.getElem_toArray, List.getElem_cons_succ, List.getElem_cons_zero, List.setIfInBounds_toArray, List.set_cons_zero, List.set_cons_succ]
          refine wpAnyH_take (i := 28) (v := ?v119) rfl (by kernel_rfl) (by kernel_rfl) (by kernel_rfl) (fun _ _ _ h => h) (Or.inl ⟨by kernel_rfl, ?h119⟩) HS ?r119
          case h119 => (rintro w ⟨e0, e1, e2⟩; go_simp) <;> with_reducible rfl
          try simp only [Act.put, List.getElem_toArray, List.getElem_cons_succ, List.getElem_cons_zero, List.setIfInBounds_toArray, List.set_cons_zero, List.set_cons_succ]
          refine wpAnyH_take (i := 29) (v := ?v120) rfl (by kernel_rfl) (by kernel_rfl) (by kernel_rfl) (fun _ _ _ h => h) (Or.inl ⟨by kernel_rfl, ?h120⟩) HS ?r120
          case h120 => (rintro w ⟨e0, e1, e2⟩; go_simp) <;> with_reducible rfl
          try simp only [Act.put, List.getElem_toArray, List.getElem_cons_succ, List.getElem_cons_zero, List.setIfInBounds_toArray, List.set_cons_zero, List.set_cons_succ]
          refine wpAnyH_take (i := 30) (v := ?v121) rfl (by kernel_rfl) (by kernel_rfl) (by kernel_rfl) (fun _ _ _ h => h) (Or.inl ⟨by kernel_rfl, ?h121⟩) HS ?r121
          case h121 => (rintro w ⟨e0, e1, e2⟩; go_simp) <;> with_reducible rfl
          try simp only [Act.put, List.getElem_toArray, List.getElem_cons_succ, List.getElem_cons_zero, List.setIfInBounds_toArray, List.set_cons_zero, List.set_cons_succ]
          refine wpAnyH_take (i := 31) (v := ?v122) rfl (by kernel_rfl) (by kernel_rfl) (by kernel_rfl) (fun _ _ _ h => h) (Or.inl ⟨by kernel_rfl, ?h122⟩) HS ?r122
          case h122 => (rintro w ⟨e0, e1, e2⟩; go_simp) <;> with_reducible rfl
          try simp only [Act.put, List.getElem_toArray, List.getElem_cons_succ, List.getElem_cons_zero, List.setIfInBounds_toArray, List.set_cons_zero, List.set_cons_succ]
          refine wpAnyH_take (i := 32) (v := ?v123) rfl (by kernel_rfl) (by kernel_rfl) (by kernel_rfl) (fun _ _ _ h => h) (Or.inl ⟨by kernel_rfl, ?h123⟩) HS ?r123
          case h123 => (rintro w ⟨e0, e1, e2⟩; go_simp) <;> with_reducible rfl
          try simp only [Act.put, List.getElem_toArray, List.getElem_cons_succ, List.getElem_cons_zero, List.setIfInBounds_toArray, List.set_cons_zero, List.set_cons_succ]
          refine wpAnyH_take (i := 33) (v := ?v124) rfl (by kernel_rfl) (by kernel_rfl) (by kernel_rfl) (fun _ _ _ h => h) (Or.inl ⟨by kernel_rfl, ?h124⟩) HS ?r124
          case h124 => (rintro w ⟨e0, e1, e2⟩; go_simp) <;> with_reducible rfl
          try simp only [Act.put, List.getElem_toArray, List.getElem_cons_succ, List.getElem_cons_zero, List.setIfInBounds_toArray, List.set_cons_zero, List.set_cons_succ]
          refine wpAnyH_take (i := 34) (v := ?v125) rfl (by kernel_rfl) (by kernel_rfl) (by kernel_rfl) (fun _ _ _ h => h) (Or.inl ⟨by kernel_rfl, ?h125⟩) HS ?r125
          case h125 => (rintro w ⟨e0, e1, e2⟩; go_simp) <;> with_reducible rfl
          try simp only [Act.put, List.getElem_toArray, List.getElem_cons_succ, List.getElem_cons_zero, List.setIfInBounds_toArray, List.set_cons_zero, List.set_cons_succ]
          refine wpAnyH_take (i := 35) (v := ?v126) rfl (by kernel_rfl) (by kernel_rfl) (by kernel_rfl) (fun _ _ _ h => h) (Or.inl ⟨by kernel_rfl, ?h126⟩) HS ?r126
          case h126 => (rintro w ⟨e0, e1, e2⟩; go_simp) <;> with_reducible rfl
          try simp only [Act.put, List.getElem_toArray, List.getElem_cons_succ, List.getElem_cons_zero, List.setIfInBounds_toArray, List.set_cons_zero, List.set_cons_succ]
          refine wpAnyH_take (i := 36) (v := ?v127) rfl (by kernel_rfl) (by kernel_rfl) (by kernel_rfl) (fun _ _ _ h => h) (Or.inl ⟨by kernel_rfl, ?h127⟩) HS ?r127
          case h127 => (rintro w ⟨e0, e1, e2⟩; go_simp) <;> with_reducible rfl
          try simp only [Act.put, List.getElem_toArray, List.getElem_cons_succ, List.getElem_cons_zero, List.setIfInBounds_toArray, List.set_cons_zero, List.set_cons_succ]
          refine wpAnyH_take (i := 37) (v := ?v128) rfl (by kernel_rfl) (by kernel_rfl) (by kernel_rfl) (fun _ _ _ h => h) (Or.inl ⟨by kernel_rfl, ?h128⟩) HS ?r128
          case h128 => (rintro w ⟨e0, e1, e2⟩; go_simp) <;> with_reducible rfl
          try simp only [Act.put, List.getElem_toArray, List.getElem_cons_succ, List.getElem_cons_zero, List.setIfInBounds_toArray, List.set_cons_zero, List.set_cons_succ]
          refine wpAnyH_take (i := 38) (v := ?v129) rfl (by kernel_rfl) (by kernel_rfl) (by kernel_rfl) (fun _ _ _ h => h) (Or.inl ⟨by kernel_rfl, ?h129⟩) HS ?r129
          case h129 => (rintro w ⟨e0, e1, e2⟩; go_simp) <;> with_reducible rfl
          try simp only [Act.put, List.getElem_toArray, List.getElem_cons_succ, List.getElem_cons_zero, List.setIfInBounds_toArray, List.set_cons_zero, List.set_cons_succ]
          refine wpAnyH_ready (rs := [39]) (by kernel_rfl) (by simp) ?_
          refine AllReadyH.cons rfl (fun K hK => ?_) AllReadyH.nil
          go_simp
          refine hK.out _ _ ⟨cell_set (Nat.ne_of_gt Hg.out.1) HS.1, cell_set (fun h => Hg.out.2 h.symm) HS.2.1, cell_set (fun h => Hg.out.2 h.symm) HS.2.2⟩ (fun HS => ?_)
          clear hK K
          refine wpAnyH_take (i := 40) (v := ?v130) rfl (by kernel_rfl) (by kernel_rfl) (by kernel_rfl) (fun _ _ _ h => h) (Or.inl ⟨by kernel_rfl, ?h130⟩) HS ?r130
          case h130 => (rintro w ⟨e0, e1, e2⟩; go_simp) <;> with_reducible rfl
          try simp only [Act.put, List.getElem_toArray, List.getElem_cons_succ, List.getElem_cons_zero, List.setIfInBounds_toArray, List.set_cons_zero, List.set_cons_succ]
          refine wpAnyH_ready (rs := [41]) (by kernel_rfl) (by simp) ?_
          refine AllReadyH.cons rfl (fun K hK => ?_) AllReadyH.nil
          go_simp
          refine hK.out _ _ ⟨cell_set (Nat.ne_of_gt Hg.out.1) HS.1, cell_set (fun h => Hg.out.2 h.symm) HS.2.1, cell_set (fun h => Hg.out.2 h.symm) HS.2.2⟩ (fun HS => ?_)
          clear hK K
          refine wpAnyH_done (by kernel_rfl) ?_ _
          clear HS cS cT fS fT
          go_wp2
          go_roundw
          case rel => exact ⟨k + 1, by omega, by go_num, HRn, HIn⟩
          case measure => simp [intOf]; omega
        · obtain rfl : k = z 2 := by omega
          have hkI : ¬ ((z 2 : Nat) : Int) < ((z 2 : Nat) : Int) := by omega
          obtain ⟨hB, hX⟩ := hI.out
          have x0 := hX.c0
          have x1 := hX.c1
          have HB : Hid (Below w.heap.size w wu) := hB
          have CF := HFQ.out wu (.slice (some ⟨bp, op, none⟩) lp cpp) P hB (HAll.out.2.1.later hB)
          have HA3 : Hid (Ar wu (.slice (some ⟨g, 0, none⟩) lp capq) lp (hQ3 z P i j (z 2))) := ⟨some ⟨g, 0, none⟩, capq, g, 0, rfl, hc1, by unfold maxLen; omega, fun _ => rfl, fun k hk => ⟨by rw [Nat.zero_add]; exact hR.out.c k hk, hQ3_mem z P i j lp _ _ Hij.out.1 Hij.out.2.1 Hlp.out (fun a ha => (HPc.out _ hB a ha).2) k hk⟩⟩
          have HV3 : Hid (∀ k, k < z 2 → vN z 3 (hQ3 z P i j (z 2)) x 2 k = vN z 3 P x 2 k) := fun k hk => hidQ_v z P x i j Hij.out.1 Hij.out.2.1 Hij.out.2.2 k hk
          generalize hQ3 z P i j (z 2) = Q at *
          clear hR hI hB hX
          go_wp2_with fail
          refine CF.mono ?_
          rintro e w8 ⟨v8, rfl, hV8, hb8⟩
          have HB8 : Hid (Below w.heap.size w w8) := bchain HB.out hb8
          have CF2 := HFQ.out w8 (.slice (some ⟨g, 0, none⟩) lp capq) Q HB8.out (HA3.out.later hb8)
          replace x0 := cell_later hb8 x0
          obtain ⟨g8, c8, rfl, p1, p2, p3, p4⟩ := hV8
          unfold maxLen at p2
          obtain ⟨vy, hvy, hAy, -, -⟩ := p4 2 (by omega)
          clear CF HB p4 hb8 x1
          go_wp2_with fail
          refine CF2.mono ?_
          rintro e w9 ⟨v9, rfl, hV9, hb9⟩
          have HB9 : Hid (Below w.heap.size w w9.drew) := (bchain HB8.out hb9).drew
          obtain ⟨g9, c9, rfl, q1, q2, q3, q4⟩ := hV9
          unfold maxLen at q2
          obtain ⟨vz, hvz, hAz, -, -⟩ := q4 2 (by omega)
          have hD9 : Below w9.heap.size w9 w9.drew := (Below.refl _ _).drew
          have CS := same7_any vy vz (z 2) _ _ (by omega) w9.drew ((hAy.later hb9).later hD9) (hAz.later hD9) HV3.out
          have k1' := cell_later hD9 (cell_later hb9 hvy)
          have k2' := cell_later hD9 hvz
          clear CF2 HB8 q4 hb9 x0 hvy hvz hAy hAz hD9 HV3 HA3
          go_upto_region 22 with fail
          refine wp_region_held_drew (S := fun W' => W'.cell? ⟨g8, 2, none⟩ = some vy ∧ W'.cell? ⟨g9, 2, none⟩ = some vz) (by kernel_rfl) ⟨k1', k2'⟩ (fun HS => ?_)
          clear k1' k2'
          generalize w9.drew = wd at *
          refine wpAnyH_take (i := 0) (v := ?v131) rfl (by kernel_rfl) (by kernel_rfl) (by kernel_rfl) (fun _ _ _ h => h) (Or.inl ⟨by kernel_rfl, ?h131⟩) HS ?r131
          case h131 => (rintro w ⟨e0, e1⟩; go_simp) <;> with_reducible rfl
          try simp only [Act.put, List.getElem_toArray, List.getElem_cons_succ, List.getElem_cons_zero, List.setIfInBounds_toArray, List.set_cons_zero, List.set_cons_succ]
          refine wpAnyH_take (i := 1) (v := ?v132) rfl (by kernel_rfl) (by kernel_rfl) (by kernel_rfl) (fun _ _ _ h => h) (Or.inl ⟨by kernel_rfl, ?h132⟩) HS ?r132
          case h132 => (rintro w ⟨e0, e1⟩; go_simp) <;> with_reducible rfl
          try simp only [Act.put, List.getElem_toArray, List.getElem_cons_succ, List.getElem_cons_zero, List.setIfInBounds_toArray, List.set_cons_zero, List.set_cons_succ]
          refine wpAnyH_take (i := 2) (v := ?v133) rfl (by kernel_rfl) (by kernel_rfl) (by kernel_rfl) (fun _ _ _ h => h) (Or.inl ⟨by kernel_rfl, ?h133⟩) HS ?r133
          case h133 => (rintro w ⟨e0, e1⟩; go_simp) <;> with_reducible rfl
          try simp only [Act.put, List.getElem_toArray, List.getElem_cons_succ, List.getElem_cons_zero, List.setIfInBounds_toArray, List.set_cons_zero, List.set_cons_succ]
          refine wpAnyH_take (i := 3) (v := ?v134) rfl (by kernel_rfl) (by kernel_rfl) (by kernel_rfl) (fun _ _ _ h => h) (Or.inl ⟨by kernel_rfl, ?h134⟩) HS ?r134
          case h134 => (rintro w ⟨e0, e1⟩; go_simp) <;> with_reducible rfl
          try simp only [Act.put, List.getElem_toArray, List.getElem_cons_succ, List.getElem_cons_zero, List.setIfInBounds_toArray, List.set_cons_zero, List.set_cons_succ]
          refine wpAnyH_take (i := 4) (v := ?v135) rfl (by kernel_rfl) (by kernel_rfl) (by kernel_rfl) (fun _ _ _ h => h) (Or.inl ⟨by kernel_rfl, ?h135⟩) HS ?r135
          case h135 => (rintro w ⟨e0, e1⟩; go_simp) <;> with_reducible rfl
          try simp only [Act.put, List.getElem_toArray, List.getElem_cons_succ, List.getElem_cons_zero, List.setIfInBounds_toArray, List.set_cons_zero, List.set_cons_succ]
          refine wpAnyH_take (i := 5) (v := ?v136) rfl (by kernel_rfl) (by kernel_rfl) (by kernel_rfl) (fun _ _ _ h => h) (Or.inl ⟨by kernel_rfl, ?h136⟩) HS ?r136
          case h136 => (rintro w ⟨e0, e1⟩; go_simp) <;> with_reducible rfl
          try simp only [Act.put, List.getElem_toArray, List.getElem_cons_succ, List.getElem_cons_zero, List.setIfInBounds_toArray, List.set_cons_zero, List.set_cons_succ]
          refine wpAnyH_take (i := 6) (v := ?v137) rfl (by kernel_rfl) (by kernel_rfl) (by kernel_rfl) (fun _ _ _ h => h) (Or.inl ⟨by kernel_rfl, ?h137⟩) HS ?r137
          case h137 => (rintro w ⟨e0, e1⟩; go_simp) <;> with_reducible rfl
          try simp only [Act.put, List.getElem_toArray, List.getElem_cons_succ, List.getElem_cons_zero, List.setIfInBounds_toArray, List.set_cons_zero, List.set_cons_succ]
          refine wpAnyH_take (i := 7) (v := ?v138) rfl (by kernel_rfl) (by kernel_rfl) (by kernel_rfl) (fun _ _ _ h => h) (Or.inl ⟨by kernel_rfl, ?h138⟩) HS ?r138
          case h138 => (rintro w ⟨e0, e1⟩; go_simp) <;> with_reducible rfl
          try simp only [Act.put, List.getElem_toArray, List.getElem_cons_succ, List.getElem_cons_zero, List.setIfInBounds_toArray, List.set_cons_zero, List.set_cons_succ]
          refine wpAnyH_take (i := 8) (v := ?v139) rfl (by kernel_rfl) (by kernel_rfl) (by kernel_rfl) (fun _ _ _ h => h) (Or.inl ⟨by kernel_rfl, ?h139⟩) HS ?r139
          case h139 => (rintro w ⟨e0, e1⟩; go_simp) <;> with_reducible rfl
          try simp only [Act.put, List.getElem_toArray, List.getElem_cons_succ, List.getElem_cons_zero, List.setIfInBounds_toArray, List.set_cons_zero, List.set_cons_succ]
          refine wpAnyH_take (i := 9) (v := ?v140) rfl (by kernel_rfl) (by kernel_rfl) (by kernel_rfl) (fun _ _ _ h => h) (Or.inl ⟨by kernel_rfl, ?h140⟩) HS ?r140
          case h140 => (rintro w ⟨e0, e1⟩; go_simp) <;> with_reducible rfl
          try simp only [Act.put, List.getElem_toArray, List.getElem_cons_succ, List.getElem_cons_zero, List.setIfInBounds_toArray, List.set_cons_zero, List.set_cons_succ]
          refine wpAnyH_take (i := 10) (v := ?v141) rfl (by kernel_rfl) (by kernel_rfl) (by kernel_rfl) (fun _ _ _ h => h) (Or.inl ⟨by kernel_rfl, ?h141⟩) HS ?r141
          case h141 => (rintro w ⟨e0, e1⟩; go_simp) <;> with_reducible rfl
          try simp only [Act.put, List.getElem_toArray, List.getElem_cons_succ, List.getElem_cons_zero, List.setIfInBounds_toArray, List.set_cons_zero, List.set_cons_succ]
          refine wpAnyH_take (i := 11) (v := ?v142) rfl (by kernel_rfl) (by kernel_rfl) (by kernel_rfl) (fun _ _ _ h => h) (Or.inl ⟨by kernel_rfl, ?h142⟩) HS ?r142
          case h142 => (rintro w ⟨e0, e1⟩; go_simp) <;> with_reducible rfl
          try simp only [Act.put, List.getElem_toArray, List.getElem_cons_succ, List.getElem_cons_zero, List.setIfInBounds_toArray, List.set_cons_zero, List.set_cons_succ]
          refine wpAnyH_take (i := 12) (v := ?v143) rfl (by kernel_rfl) (by kernel_rfl) (by kernel_rfl) (fun _ _ _ h => h) (Or.inl ⟨by kernel_rfl, ?h143⟩) HS ?r143
          case h143 => (rintro w ⟨e0, e1⟩; go_simp) <;> with_reducible rfl
          try simp only [Act.put, List.getElem_toArray, List.getElem_cons_succ, List.getElem_cons_zero, List.setIfInBounds_toArray, List.set_cons_zero, List.set_cons_succ]
          refine wpAnyH_take (i := 13) (v := ?v144) rfl (by kernel_rfl) (by kernel_rfl) (by kernel_rfl) (fun _ _ _ h => h) (Or.inl ⟨by kernel_rfl, ?h144⟩) HS ?r144
          case h144 => (rintro w ⟨e0, e1⟩; go_simp) <;> with_reducible rfl
          try simp only [Act.put, List.getElem_toArray, List.getElem_cons_succ, List.getElem_cons_zero, List.setIfInBounds_toArray, List.set_cons_zero, List.set_cons_succ]
          refine wpAnyH_take (i := 14) (v := ?v145) rfl (by kernel_rfl) (by kernel_rfl) (by kernel_rfl) (fun _ _ _ h => h) (Or.inl ⟨by kernel_rfl, ?h145⟩) HS ?r145
          case h145 => (rintro w ⟨e0, e1⟩; go_simp) <;> with_reducible rfl
          try simp only [Act.put, List.getElem_toArray, List.getElem_cons_succ, List.getElem_cons_zero, List.setIfInBounds_toArray, List.set_cons_zero, List.set_cons_succ]
          refine wpAnyH_take (i := 15) (v := ?v146) rfl (by kernel_rfl) (by kernel_rfl) (by kernel_rfl) (fun _ _ _ h => h) (Or.inl ⟨by kernel_rfl, ?h146⟩) HS ?r146
          case h146 => (rintro w ⟨e0, e1⟩; go_simp) <;> with_reducible rfl
          try simp only [Act.put, List.getElem_toArray, List.getElem_cons_succ, List.getElem_cons_zero, List.setIfInBounds_toArray, List.set_cons_zero, List.set_cons_succ]
          refine wpAnyH_take (i := 16) (v := ?v147) rfl (by kernel_rfl) (by kernel_rfl) (by kernel_rfl) (fun _ _ _ h => h) (Or.inl ⟨by kernel_rfl, ?h147⟩) HS ?r147
          case h147 => (rintro w ⟨e0, e1⟩; go_simp) <;> with_reducible rfl
          try simp only [Act.put, List.getElem_toArray, List.getElem_cons_succ, List.getElem_cons_zero, List.setIfInBounds_toArray, List.set_cons_zero, List.set_cons_succ]
          refine wpAnyH_take (i := 17) (v := ?v148) rfl (by kernel_rfl) (by kernel_rfl) (by kernel_rfl) (fun _ _ _ h => h) (Or.inl ⟨by kernel_rfl, ?h148⟩) HS ?r148
          case h148 => (rintro w ⟨e0, e1⟩; go_simp) <;> with_reducible rfl
          try simp only [Act.put, List.getElem_toArray, List.getElem_cons_succ, List.getElem_cons_zero, List.setIfInBounds_toArray, List.set_cons_zero, List.set_cons_succ]
          refine wpAnyH_take (i := 18) (v := ?v149) rfl (by kernel_rfl) (by kernel_rfl) (by kernel_rfl) (fun _ _ _ h => h) (Or.inl ⟨by kernel_rfl, ?h149⟩) HS ?r149
          case h149 => (rintro w ⟨e0, e1⟩; go_simp) <;> with_reducible rfl
          try simp only [Act.put, List.getElem_toArray, List.getElem_cons_succ, List.getElem_cons_zero, List.setIfInBounds_toArray, List.set_cons_zero, List.set_cons_succ]
          refine wpAnyH_take (i := 19) (v := ?v150) rfl (by kernel_rfl) (by kernel_rfl) (by kernel_rfl) (fun _ _ _ h => h) (Or.inl ⟨by kernel_rfl, ?h150⟩) HS ?r150
          case h150 => (rintro w ⟨e0, e1⟩; go_simp) <;> with_reducible rfl
          try simp only [Act.put, List.getElem_toArray, List.getElem_cons_succ, List.getElem_cons_zero, List.setIfInBounds_toArray, List.set_cons_zero, List.set_cons_succ]
          refine wpAnyH_take (i := 20) (v := ?v151) rfl (by kernel_rfl) (by kernel_rfl) (by kernel_rfl) (fun _ _ _ h => h) (Or.inl ⟨by kernel_rfl, ?h151⟩) HS ?r151
          case h151 => (rintro w ⟨e0, e1⟩; go_simp) <;> with_reducible rfl
          try simp only [Act.put, List.getElem_toArray, List.getElem_cons_succ, List.getElem_cons_zero, List.setIfInBounds_toArray, List.set_cons_zero, List.set_cons_succ]
          refine wpAnyH_take (i := 21) (v := ?v152) rfl (by kernel_rfl) (by kernel_rfl) (by kernel_rfl) (fun _ _ _ h => h) (Or.inl ⟨by kernel_rfl, ?h152⟩) HS ?r152
          case h152 => (rintro w ⟨e0, e1⟩; go_simp) <;> with_reducible rfl
          try simp only [Act.put, List.getElem_toArray, List.getElem_cons_succ, List.getElem_cons_zero, List.setIfInBounds_toArray, List.set_cons_zero, List.set_cons_succ]
          refine wpAnyH_take (i := 22) (v := ?v153) rfl (by kernel_rfl) (by kernel_rfl) (by kernel_rfl) (fun _ _ _ h => h) (Or.inl ⟨by kernel_rfl, ?h153⟩) HS ?r153
          case h153 => (rintro w ⟨e0, e1⟩; go_simp) <;> with_reducible rfl
          try simp only [Act.put, List.getElem_toArray, List.getElem_cons_succ, List.getElem_cons_zero, List.setIfInBounds_toArray, List.set_cons_zero, List.set_cons_succ]
          refine wpAnyH_ready (rs := [23]) (by kernel_rfl) (by simp) ?_
          refine AllReadyH.cons rfl (fun K hK => ?_) AllReadyH.nil
          go_simp
          refine CS.mono ?_
          rintro e w10 ⟨rfl, rfl⟩
          refine hK.out _ _ HS (fun HS => ?_)
          clear hK K
          refine wpAnyH_take (i := 24) (v := ?v154) rfl (by kernel_rfl) (by kernel_rfl) (by kernel_rfl) (fun _ _ _ h => h) (Or.inl ⟨by kernel_rfl, ?h154⟩) HS ?r154
          case h154 => (rintro w ⟨e0, e1⟩; go_simp) <;> with_reducible rfl
          try simp only [Act.put, List.getElem_toArray, List.getElem_cons_succ, List.getElem_cons_zero, List.setIfInBounds_toArray, List.set_cons_zero, List.set_cons_succ]
          refine wpAnyH_take (i := 25) (v := ?v155) rfl (by kernel_rfl) (by kernel_rfl) (by kernel_rfl) (fun _ _ _ h => h) (Or.inl ⟨by kernel_rfl, ?h155⟩) HS ?r155
          case h155 => (rintro w ⟨e0, e1⟩; go_simp) <;> with_reducible rfl
          try simp only [Act.put, List.getElem_toArray, List.getElem_cons_succ, List.getElem_cons_zero, List.setIfInBounds_toArray, List.set_cons_zero, List.set_cons_succ]
          refine wpAnyH_done (by kernel_rfl) ?_ _
          clear HS
          go_wp2
          go_ret
          exact ⟨rfl, HB9.out⟩
end Go.Proofs.YtdfjnbkkdgolnabGreatDoor
