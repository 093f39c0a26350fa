/-
  The document's rates (regattaref08); the laws' own rates and pace.
-/
import Derived.Test.YtcdehbhdloaieaaGreatDoorQRefA
import Derived.Maps.AppendAt
set_option linter.unusedVariables false
set_option linter.unusedSimpArgs false
namespace Go.Proofs.YtcdehbhdloaieaaGreatDoor
open Go.RowKit

set_option maxRecDepth 100000 in
set_option maxHeartbeats 8000000 in
theorem refRight_any (B W : Int) (v : Value) (n : Nat) (at' fa : Nat → Int) (w : World) (hA : Drp w v n at' fa) :
    Calls Tryz.prog 23 #[.agg #[.int .i64 B, .int .i64 W, v]] w fun e w' => Tel e (RO B W n at' fa) ∧ Below w.heap.size w w' := by
  obtain ⟨adr, cap, b, o, rfl, k1, k2, k3, k4⟩ := hA
  unfold maxLen at k2
  have HC : Hid (∀ k, k < n → w.cell? ⟨b, o + k * 2, none⟩ = some (.int .i64 (at' k)) ∧ w.cell? ⟨b, o + k * 2 + 1, none⟩ = some (.int .i64 (fa k))) := fun k hk => (k4 k hk).1
  have HK : Hid (0 < n → adr = some ⟨b, o, none⟩) := k3
  obtain ⟨w1, hw1⟩ : ∃ w1, w1 = w.alloc (.cells #[.int .i64 B, .int .i64 W, .slice adr n cap] 47) := ⟨_, rfl⟩
  have HB1 : Hid (Below w.heap.size w w1) := by rw [hw1]; exact bel1 _ _
  have HQ := Q3.new w (.int .i64 B) (.int .i64 W) (.slice adr n cap) 47
  rw [← hw1] at HQ
  clear k3 k4
  go_enter Tryz.func23, Tryz.ntmps23
  go_upto_region 1 with fail
  rw [← hw1]
  clear hw1
  have x0 := HQ.c0
  have x1 := HQ.c1
  have x2 := HQ.c2
  have HNo : Hid (¬ (0 ≤ B ∧ 0 ≤ W ∧ W ≤ 1048576 ∧ n ≤ 16) → ¬ RO B W n at' fa) := fun h h' => h ⟨h'.1, h'.2.1, h'.2.2.1, h'.2.2.2.1⟩
  by_cases q1 : B < 0
  · go_wp2
    go_ret
    exact ⟨tel_no (HNo.out (by omega)), HB1.out⟩
  by_cases q2 : W < 0
  · go_wp2
    go_ret
    exact ⟨tel_no (HNo.out (by omega)), HB1.out⟩
  by_cases q3 : 1048576 < W
  · go_wp2
    go_ret
    exact ⟨tel_no (HNo.out (by omega)), HB1.out⟩
  by_cases q4 : 16 < n
  · have q4I : (16 : Int) < (n : Int) := by omega
    go_wp2
    go_ret
    exact ⟨tel_no (HNo.out (by omega)), HB1.out⟩
  have q4I : ¬ (16 : Int) < (n : Int) := by omega
  have HR : Hid (0 ≤ B ∧ 0 ≤ W ∧ W ≤ 1048576 ∧ n ≤ 16) := ⟨by omega, by omega, by omega, by omega⟩
  have HQ1 : Hid (Q3 w.heap.size (.int .i64 B) (.int .i64 W) (.slice adr n cap) w1) := HQ
  clear HQ HNo
  go_upto_region 4 with fail
  clear x0 x1 x2
  go_loopw [3] (fun si wr => ∃ j : Nat, j ≤ n ∧ si = .int .i64 (j : Int) ∧ Hid (∀ k, k < j → okD at' fa k) ∧ Hid (Q3 w.heap.size (.int .i64 B) (.int .i64 W) (.slice adr n cap) wr) ∧ Hid (Below w.heap.size w wr)) (fun si _ => n - (intOf si).toNat)
  case atStart => exact ⟨0, by omega, rfl, fun k hk => by omega, HQ1, HB1⟩
  case round =>
    obtain ⟨j, hj, rfl, HO, HQr, HW⟩ := hrel
    have x2 := HQr.out.c2
    by_cases hlt : j < n
    · have hjI : (j : Int) < (n : Int) := by omega
      have ea := HK.out (by omega)
      subst ea
      have c0 := cell_later HW.out (HC.out j hlt).1
      have c1 := cell_later HW.out (HC.out j hlt).2
      obtain ⟨we, hwe⟩ : ∃ we, we = wr.alloc (.cells #[.int .i64 (at' j), .int .i64 (fa j)] 80) := ⟨_, rfl⟩
      have hbe : Below wr.heap.size wr we := by rw [hwe]; exact bel1 _ _
      have HWe : Hid (Below w.heap.size w we) := bchain HW.out hbe
      have HQe : Hid (Q3 w.heap.size (.int .i64 B) (.int .i64 W) (.slice (some ⟨b, o, none⟩) n cap) we) := HQr.out.later hbe
      have e0 : we.cell? ⟨wr.heap.size, 0, none⟩ = some (.int .i64 (at' j)) := by rw [hwe]; simp [go_sem]
      have e1 : we.cell? ⟨wr.heap.size, 1, none⟩ = some (.int .i64 (fa j)) := by rw [hwe]; simp [go_sem]
      have HNo : Hid (¬ okD at' fa j → ¬ RO B W n at' fa) := fun h h' => h (h'.2.2.2.2 j hlt)
      have HD : Hid (okD at' fa j ↔ (1 ≤ at' j ∧ at' j ≤ 1048576 ∧ 0 ≤ fa j ∧ fa j ≤ 4294967296) ∧ (0 < j → at' (j - 1) < at' j)) := Iff.rfl
      have HO2 : Hid (okD at' fa j → ∀ k, k < j + 1 → okD at' fa k) := fun hd k hk => by
        rcases Nat.lt_or_ge k j with h | h
        · exact HO.out k h
        · obtain rfl : k = j := by omega
          exact hd
      have HP : Hid (0 < j → we.cell? ⟨b, o + (j - 1) * 2, none⟩ = some (.int .i64 (at' (j - 1)))) := fun h => cell_later HWe.out (HC.out (j - 1) (by omega)).1
      obtain ⟨pa, hpa⟩ : ∃ pa, at' (j - 1) = pa := ⟨_, rfl⟩
      rw [hpa] at HD HP
      obtain ⟨x, hx⟩ : ∃ x, at' j = x := ⟨_, rfl⟩
      obtain ⟨y, hy⟩ : ∃ y, fa j = y := ⟨_, rfl⟩
      rw [hx] at c0 HD e0
      rw [hy] at c1 HD e1
      rw [hx, hy] at hwe
      clear hx hy hpa hbe HO HQr HW
      go_upto_region 7 with fail
      rw [← hwe]
      clear hwe
      have d0 : Hid (we.cell? ⟨wr.heap.size, 0, none⟩ = some (.int .i64 x)) := e0
      by_cases g1 : x < 1
      · go_wp2
        go_ret
        exact ⟨tel_no (HNo.out (fun h => by have := HD.out.1 h; omega)), HWe.out⟩
      by_cases g2 : 1048576 < x
      · go_wp2
        go_ret
        exact ⟨tel_no (HNo.out (fun h => by have := HD.out.1 h; omega)), HWe.out⟩
      by_cases g3 : y < 0
      · go_wp2
        go_ret
        exact ⟨tel_no (HNo.out (fun h => by have := HD.out.1 h; omega)), HWe.out⟩
      by_cases g4 : 4294967296 < y
      · go_wp2
        go_ret
        exact ⟨tel_no (HNo.out (fun h => by have := HD.out.1 h; omega)), HWe.out⟩
      go_upto_region 9 with fail
      clear c0 c1 x2 e1 e0
      have f2 := HQe.out.c2
      have hbD : Below we.heap.size we we.drew := (Below.refl _ _).drew
      have HW2 : Hid (Below w.heap.size w we.drew) := bchain HWe.out hbD
      have HQ2 : Hid (Q3 w.heap.size (.int .i64 B) (.int .i64 W) (.slice (some ⟨b, o, none⟩) n cap) we.drew) := HQe.out.later hbD
      rcases Nat.eq_zero_or_pos j with hj0 | hj0
      · subst hj0
        have HG : Hid (okD at' fa 0) := HD.out.2 ⟨by omega, fun h => by omega⟩
        refine wp_region_held_drew (S := fun w' => w'.cell? ⟨wr.heap.size, 0, none⟩ = some (.int .i64 x)) (by kernel_rfl) (cell_drew d0.out) (fun HS => ?_)
        clear hbD HWe HQe d0 HP f2
        generalize we.drew = wd at *
        refine wpAnyH_take (i := 0) (v := ?v1) rfl (by kernel_rfl) (by kernel_rfl) (by kernel_rfl) (fun _ _ _ h => h) (Or.inl ⟨by kernel_rfl, ?h1⟩) HS ?r1
        case h1 => (rintro w s0; go_simp) <;> with_reducible rfl
        try simp only [Act.put, List.getElem_toArray, List.getElem_cons_succ, List.getElem_cons_zero, List.setIfInBounds_toArray, List.set_cons_zero, List.set_cons_succ]
        refine wpAnyH_take (i := 1) (v := ?v2) rfl (by kernel_rfl) (by kernel_rfl) (by kernel_rfl) (fun _ _ _ h => h) (Or.inl ⟨by kernel_rfl, ?h2⟩) HS ?r2
        case h2 => (rintro w s0; go_simp) <;> with_reducible rfl
        try simp only [Act.put, List.getElem_toArray, List.getElem_cons_succ, List.getElem_cons_zero, List.setIfInBounds_toArray, List.set_cons_zero, List.set_cons_succ]
        refine wpAnyH_take (i := 2) (v := ?v3) rfl (by kernel_rfl) (by kernel_rfl) (by kernel_rfl) (fun _ _ _ h => h) (Or.inl ⟨by kernel_rfl, ?h3⟩) HS ?r3
        case h3 => (rintro w s0; go_simp) <;> with_reducible rfl
        try simp only [Act.put, List.getElem_toArray, List.getElem_cons_succ, List.getElem_cons_zero, List.setIfInBounds_toArray, List.set_cons_zero, List.set_cons_succ]
        refine wpAnyH_take (i := 3) (v := undef) rfl (by kernel_rfl) (by kernel_rfl) (by kernel_rfl) (fun _ _ _ h => h) (Or.inr ⟨by kernel_rfl, rfl⟩) HS ?_
        try simp only [Act.put, List.getElem_toArray, List.getElem_cons_succ, List.getElem_cons_zero, List.setIfInBounds_toArray, List.set_cons_zero, List.set_cons_succ]
        refine wpAnyH_take (i := 4) (v := undef) rfl (by kernel_rfl) (by kernel_rfl) (by kernel_rfl) (fun _ _ _ h => h) (Or.inr ⟨by kernel_rfl, rfl⟩) HS ?_
        try simp only [Act.put, List.getElem_toArray, List.getElem_cons_succ, List.getElem_cons_zero, List.setIfInBounds_toArray, List.set_cons_zero, List.set_cons_succ]
        refine wpAnyH_take (i := 5) (v := undef) rfl (by kernel_rfl) (by kernel_rfl) (by kernel_rfl) (fun _ _ _ h => h) (Or.inr ⟨by kernel_rfl, rfl⟩) HS ?_
        try simp only [Act.put, List.getElem_toArray, List.getElem_cons_succ, List.getElem_cons_zero, List.setIfInBounds_toArray, List.set_cons_zero, List.set_cons_succ]
        refine wpAnyH_take (i := 6) (v := undef) rfl (by kernel_rfl) (by kernel_rfl) (by kernel_rfl) (fun _ _ _ h => h) (Or.inr ⟨by kernel_rfl, rfl⟩) HS ?_
        try simp only [Act.put, List.getElem_toArray, List.getElem_cons_succ, List.getElem_cons_zero, List.setIfInBounds_toArray, List.set_cons_zero, List.set_cons_succ]
        refine wpAnyH_take (i := 7) (v := undef) rfl (by kernel_rfl) (by kernel_rfl) (by kernel_rfl) (fun _ _ _ h => h) (Or.inr ⟨by kernel_rfl, rfl⟩) HS ?_
        try simp only [Act.put, List.getElem_toArray, List.getElem_cons_succ, List.getElem_cons_zero, List.setIfInBounds_toArray, List.set_cons_zero, List.set_cons_succ]
        refine wpAnyH_take (i := 8) (v := undef) rfl (by kernel_rfl) (by kernel_rfl) (by kernel_rfl) (fun _ _ _ h => h) (Or.inr ⟨by kernel_rfl, rfl⟩) HS ?_
        try simp only [Act.put, List.getElem_toArray, List.getElem_cons_succ, List.getElem_cons_zero, List.setIfInBounds_toArray, List.set_cons_zero, List.set_cons_succ]
        refine wpAnyH_take (i := 9) (v := undef) rfl (by kernel_rfl) (by kernel_rfl) (by kernel_rfl) (fun _ _ _ h => h) (Or.inr ⟨by kernel_rfl, rfl⟩) HS ?_
        try simp only [Act.put, List.getElem_toArray, List.getElem_cons_succ, List.getElem_cons_zero, List.setIfInBounds_toArray, List.set_cons_zero, List.set_cons_succ]
        refine wpAnyH_take (i := 10) (v := undef) rfl (by kernel_rfl) (by kernel_rfl) (by kernel_rfl) (fun _ _ _ h => h) (Or.inr ⟨by kernel_rfl, rfl⟩) HS ?_
        try simp only [Act.put, List.getElem_toArray, List.getElem_cons_succ, List.getElem_cons_zero, List.setIfInBounds_toArray, List.set_cons_zero, List.set_cons_succ]
        refine wpAnyH_take (i := 11) (v := undef) rfl (by kernel_rfl) (by kernel_rfl) (by kernel_rfl) (fun _ _ _ h => h) (Or.inr ⟨by kernel_rfl, rfl⟩) HS ?_
        try simp only [Act.put, List.getElem_toArray, List.getElem_cons_succ, List.getElem_cons_zero, List.setIfInBounds_toArray, List.set_cons_zero, List.set_cons_succ]
        refine wpAnyH_take (i := 12) (v := undef) rfl (by kernel_rfl) (by kernel_rfl) (by kernel_rfl) (fun _ _ _ h => h) (Or.inr ⟨by kernel_rfl, rfl⟩) HS ?_
        try simp only [Act.put, List.getElem_toArray, List.getElem_cons_succ, List.getElem_cons_zero, List.setIfInBounds_toArray, List.set_cons_zero, List.set_cons_succ]
        refine wpAnyH_take (i := 13) (v := ?v4) rfl (by kernel_rfl) (by kernel_rfl) (by kernel_rfl) (fun _ _ _ h => h) (Or.inl ⟨by kernel_rfl, ?h4⟩) HS ?r4
        case h4 => (rintro w s0; go_simp) <;> with_reducible rfl
        try simp only [Act.put, List.getElem_toArray, List.getElem_cons_succ, List.getElem_cons_zero, List.setIfInBounds_toArray, List.set_cons_zero, List.set_cons_succ]
        refine wpAnyH_done (by kernel_rfl) ?_ _
        clear HS
        go_wp2
        go_roundw
        case rel => exact ⟨0 + 1, by omega, by go_num, HO2.out HG.out, HQ2, HW2⟩
        case measure => simp [intOf]; omega
      · obtain ⟨J, rfl⟩ : ∃ J, j = J + 1 := ⟨j - 1, by omega⟩
        have cp := HP.out (by omega)
        rw [Nat.add_sub_cancel] at cp
        have ws : IntKind.i64.wrap (((J + 1 : Nat) : Int) - 1) = (J : Int) := by rw [IntKind.wrap_i64]; omega
        have ws2 : IntKind.i64.wrap (J : Int) = (J : Int) := by rw [IntKind.wrap_i64]; omega
        have hJ1 : (J : Int) < (n : Int) := by omega
        have hJ0 : (0 : Int) < ((J + 1 : Nat) : Int) := by omega
        refine wp_region_held_drew (S := fun w' => w'.cell? ⟨wr.heap.size, 0, none⟩ = some (.int .i64 x) ∧ w'.cell? ⟨w.heap.size, 2, none⟩ = some (.slice (some ⟨b, o, none⟩) n cap) ∧ w'.cell? ⟨b, o + J * 2, none⟩ = some (.int .i64 pa)) (by kernel_rfl) ⟨cell_drew d0.out, cell_drew f2, cell_drew cp⟩ (fun HS => ?_)
        clear hbD HWe HQe d0 HP f2 cp
        generalize we.drew = wd at *
        refine wpAnyH_take (i := 0) (v := ?v5) rfl (by kernel_rfl) (by kernel_rfl) (by kernel_rfl) (fun _ _ _ h => h) (Or.inl ⟨by kernel_rfl, ?h5⟩) HS ?r5
        case h5 => (rintro w ⟨s0, s1, s2⟩; go_simp) <;> with_reducible rfl
        try simp only [Act.put, List.getElem_toArray, List.getElem_cons_succ, List.getElem_cons_zero, List.setIfInBounds_toArray, List.set_cons_zero, List.set_cons_succ]
        refine wpAnyH_take (i := 1) (v := ?v6) rfl (by kernel_rfl) (by kernel_rfl) (by kernel_rfl) (fun _ _ _ h => h) (Or.inl ⟨by kernel_rfl, ?h6⟩) HS ?r6
        case h6 => (rintro w ⟨s0, s1, s2⟩; go_simp) <;> with_reducible rfl
        try simp only [Act.put, List.getElem_toArray, List.getElem_cons_succ, List.getElem_cons_zero, List.setIfInBounds_toArray, List.set_cons_zero, List.set_cons_succ]
        refine wpAnyH_take (i := 2) (v := ?v7) rfl (by kernel_rfl) (by kernel_rfl) (by kernel_rfl) (fun _ _ _ h => h) (Or.inl ⟨by kernel_rfl, ?h7⟩) HS ?r7
        case h7 => (rintro w ⟨s0, s1, s2⟩; go_simp) <;> with_reducible rfl
        try simp only [Act.put, List.getElem_toArray, List.getElem_cons_succ, List.getElem_cons_zero, List.setIfInBounds_toArray, List.set_cons_zero, List.set_cons_succ]
        refine wpAnyH_take (i := 3) (v := ?v8) rfl (by kernel_rfl) (by kernel_rfl) (by kernel_rfl) (fun _ _ _ h => h) (Or.inl ⟨by kernel_rfl, ?h8⟩) HS ?r8
        case h8 => (rintro w ⟨s0, s1, s2⟩; go_simp) <;> with_reducible rfl
        try simp only [Act.put, List.getElem_toArray, List.getElem_cons_succ, List.getElem_cons_zero, List.setIfInBounds_toArray, List.set_cons_zero, List.set_cons_succ]
        refine wpAnyH_take (i := 4) (v := ?v9) rfl (by kernel_rfl) (by kernel_rfl) (by kernel_rfl) (fun _ _ _ h => h) (Or.inl ⟨by kernel_rfl, ?h9⟩) HS ?r9
        case h9 => (rintro w ⟨s0, s1, s2⟩; go_simp) <;> with_reducible rfl
        try simp only [Act.put, List.getElem_toArray, List.getElem_cons_succ, List.getElem_cons_zero, List.setIfInBounds_toArray, List.set_cons_zero, List.set_cons_succ]
        refine wpAnyH_take (i := 5) (v := ?v10) rfl (by kernel_rfl) (by kernel_rfl) (by kernel_rfl) (fun _ _ _ h => h) (Or.inl ⟨by kernel_rfl, ?h10⟩) HS ?r10
        case h10 => (rintro w ⟨s0, s1, s2⟩; go_simp) <;> with_reducible rfl
        try simp only [Act.put, List.getElem_toArray, List.getElem_cons_succ, List.getElem_cons_zero, List.setIfInBounds_toArray, List.set_cons_zero, List.set_cons_succ]
        refine wpAnyH_take (i := 6) (v := ?v11) rfl (by kernel_rfl) (by kernel_rfl) (by kernel_rfl) (fun _ _ _ h => h) (Or.inl ⟨by kernel_rfl, ?h11⟩) HS ?r11
        case h11 => (rintro w ⟨s0, s1, s2⟩; go_simp) <;> with_reducible rfl
        try simp only [Act.put, List.getElem_toArray, List.getElem_cons_succ, List.getElem_cons_zero, List.setIfInBounds_toArray, List.set_cons_zero, List.set_cons_succ]
        refine wpAnyH_take (i := 7) (v := ?v12) rfl (by kernel_rfl) (by kernel_rfl) (by kernel_rfl) (fun _ _ _ h => h) (Or.inl ⟨by kernel_rfl, ?h12⟩) HS ?r12
        case h12 => (rintro w ⟨s0, s1, s2⟩; go_simp) <;> with_reducible rfl
        try simp only [Act.put, List.getElem_toArray, List.getElem_cons_succ, List.getElem_cons_zero, List.setIfInBounds_toArray, List.set_cons_zero, List.set_cons_succ]
        refine wpAnyH_take (i := 8) (v := ?v13) rfl (by kernel_rfl) (by kernel_rfl) (by kernel_rfl) (fun _ _ _ h => h) (Or.inl ⟨by kernel_rfl, ?h13⟩) HS ?r13
        case h13 => (rintro w ⟨s0, s1, s2⟩; go_simp) <;> with_reducible rfl
        try simp only [Act.put, List.getElem_toArray, List.getElem_cons_succ, List.getElem_cons_zero, List.setIfInBounds_toArray, List.set_cons_zero, List.set_cons_succ]
        refine wpAnyH_take (i := 9) (v := ?v14) rfl (by kernel_rfl) (by kernel_rfl) (by kernel_rfl) (fun _ _ _ h => h) (Or.inl ⟨by kernel_rfl, ?h14⟩) HS ?r14
        case h14 => (rintro w ⟨s0, s1, s2⟩; go_simp) <;> with_reducible rfl
        try simp only [Act.put, List.getElem_toArray, List.getElem_cons_succ, List.getElem_cons_zero, List.setIfInBounds_toArray, List.set_cons_zero, List.set_cons_succ]
        refine wpAnyH_take (i := 10) (v := ?v15) rfl (by kernel_rfl) (by kernel_rfl) (by kernel_rfl) (fun _ _ _ h => h) (Or.inl ⟨by kernel_rfl, ?h15⟩) HS ?r15
        case h15 => (rintro w ⟨s0, s1, s2⟩; go_simp) <;> with_reducible rfl
        try simp only [Act.put, List.getElem_toArray, List.getElem_cons_succ, List.getElem_cons_zero, List.setIfInBounds_toArray, List.set_cons_zero, List.set_cons_succ]
        refine wpAnyH_take (i := 11) (v := ?v16) rfl (by kernel_rfl) (by kernel_rfl) (by kernel_rfl) (fun _ _ _ h => h) (Or.inl ⟨by kernel_rfl, ?h16⟩) HS ?r16
        case h16 => (rintro w ⟨s0, s1, s2⟩; go_simp) <;> with_reducible rfl
        try simp only [Act.put, List.getElem_toArray, List.getElem_cons_succ, List.getElem_cons_zero, List.setIfInBounds_toArray, List.set_cons_zero, List.set_cons_succ]
        refine wpAnyH_take (i := 12) (v := ?v17) rfl (by kernel_rfl) (by kernel_rfl) (by kernel_rfl) (fun _ _ _ h => h) (Or.inl ⟨by kernel_rfl, ?h17⟩) HS ?r17
        case h17 => (rintro w ⟨s0, s1, s2⟩; go_simp) <;> with_reducible rfl
        try simp only [Act.put, List.getElem_toArray, List.getElem_cons_succ, List.getElem_cons_zero, List.setIfInBounds_toArray, List.set_cons_zero, List.set_cons_succ]
        refine wpAnyH_take (i := 13) (v := ?v18) rfl (by kernel_rfl) (by kernel_rfl) (by kernel_rfl) (fun _ _ _ h => h) (Or.inl ⟨by kernel_rfl, ?h18⟩) HS ?r18
        case h18 => (rintro w ⟨s0, s1, s2⟩; go_simp) <;> with_reducible rfl
        try simp only [Act.put, List.getElem_toArray, List.getElem_cons_succ, List.getElem_cons_zero, List.setIfInBounds_toArray, List.set_cons_zero, List.set_cons_succ]
        refine wpAnyH_done (by kernel_rfl) ?_ _
        clear HS
        by_cases g5 : x ≤ pa
        · have HF : Hid (¬ RO B W n at' fa) := HNo.out (fun h => by have := (HD.out.1 h).2 (by omega); omega)
          go_wp2
          go_ret
          exact ⟨tel_no HF.out, HW2.out⟩
        · have HG : Hid (okD at' fa (J + 1)) := HD.out.2 ⟨by omega, fun h => by omega⟩
          go_wp2
          go_roundw
          case rel => exact ⟨J + 1 + 1, by omega, by go_num, HO2.out HG.out, HQ2, HW2⟩
          case measure => simp [intOf]; omega
    · obtain rfl : j = n := by omega
      have hjI : ¬ (j : Int) < (j : Int) := by omega
      have HF : Hid (RO B W j at' fa) := ⟨HR.out.1, HR.out.2.1, HR.out.2.2.1, HR.out.2.2.2, HO.out⟩
      clear HO
      go_wp2
      go_ret
      exact ⟨tel_yes HF.out, HW.out⟩
end Go.Proofs.YtcdehbhdloaieaaGreatDoor
