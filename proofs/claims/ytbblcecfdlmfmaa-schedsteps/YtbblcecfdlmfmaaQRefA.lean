/-
  The document's answers of layer 8: powers, rates, paces (regattaref08).
-/
import Derived.Test.YtbblcecfdlmfmaaQWalkD
import Derived.Test.YtbblcecfdlmfmaaBG
import Derived.Test.YtbblcecfdlmfmaaBI
set_option linter.unusedVariables false
set_option linter.unusedSimpArgs false
namespace Go.Proofs.Ytbblcecfdlmfmaa
open Go.RowKit

set_option maxRecDepth 100000 in
set_option maxHeartbeats 4000000 in
theorem refPower_any (b : Int) (T : Nat) (w : World) (b0 : 0 ≤ b) (b1 : b < 4294967296) (hT : T ≤ 1048576) :
    Calls Try.prog 17 #[.int .i64 b, .int .i64 (T : Int)] w fun e w' => e = .returned (.int .i64 (pwN b T)) ∧ Below w.heap.size w w' := by
  have HP : Hid (∀ j, 0 ≤ pwN b j ∧ pwN b j ≤ 4294967296) := pwN_in b b0 b1
  go_enter Try.func17, Try.ntmps17
  go_wp2
  go_loopw [5, 6] (fun s5 si wr => ∃ (j : Nat) (y : Int), j ≤ T ∧ si = .int .i64 (j : Int) ∧ s5 = .int .i64 y ∧ Hid (y = pwN b j) ∧ Hid (Below w.heap.size w wr)) (fun _ si _ => T - (intOf si).toNat)
  case atStart => exact ⟨0, _, by omega, rfl, rfl, rfl, Below.refl _ _⟩
  case round =>
    obtain ⟨j, y, hj, rfl, rfl, HY, HW⟩ := hrel
    by_cases hlt : j < T
    · have hjI : (j : Int) < (T : Int) := by omega
      have hy := HP.out j
      rw [← HY.out] at hy
      have CM : Hid (∀ W' : World, Calls Try.prog 32 #[.int .i64 y, .int .i64 b] W' fun e w' => e = .returned (.tuple #[.int .i64 (fmV y b), .bool (ovv (rnd (y * b) 32))]) ∧ Below W'.heap.size W' w') := fun W' => rfmul_any y b (by omega) (by omega) (by omega) (by omega) W'
      have HE : Hid (fmV y b = pwN b (j + 1)) := by show fmV y b = fmV (pwN b j) b; rw [HY.out]
      clear HY hy
      generalize fmV y b = z at *
      generalize ovv (rnd (y * b) 32) = ob at *
      go_wp2_with (go_at_call 32; refine (CM.out _).mono ?_; rintro e wz ⟨rfl, hb⟩; have HB3 : Hid (Below w.heap.size w wz) := bchain HW.out hb; clear hb)
      go_roundw
      case rel => exact ⟨j + 1, z, by omega, by go_num, rfl, HE, HB3⟩
      case measure => simp [intOf]; omega
    · obtain rfl : j = T := by omega
      have hjI : ¬ (j : Int) < (j : Int) := by omega
      have HE : Hid (pwN b j = y) := HY.out.symm
      clear HY
      go_wp2
      go_ret
      exact ⟨by rw [HE.out]; rfl, HW.out⟩
set_option maxRecDepth 100000 in
set_option maxHeartbeats 4000000 in
theorem refPace_any (l m f g : Int) (w : World) :
    Calls Try.prog 20 #[.agg #[.int .i64 l, .int .i64 m, .int .i64 f, .int .i64 g]] w fun e w' => Tel e (PO l m f g) ∧ Below w.heap.size w w' := by
  obtain ⟨w1, hw1⟩ : ∃ w1, w1 = w.alloc (.cells #[.int .i64 l, .int .i64 m, .int .i64 f, .int .i64 g] 42) := ⟨_, rfl⟩
  have HB1 : Hid (Below w.heap.size w w1) := by rw [hw1]; exact bel1 _ _
  have HQ := Q4.new w (.int .i64 l) (.int .i64 m) (.int .i64 f) (.int .i64 g) 42
  rw [← hw1] at HQ
  have HP : Hid (PO l m f g ↔ 1 ≤ l ∧ l ≤ f ∧ f ≤ m ∧ m ≤ 64 ∧ 0 ≤ g ∧ g ≤ 64) := Iff.rfl
  go_enter Try.func20, Try.ntmps20
  go_upto_region 1 with fail
  rw [← hw1]
  clear hw1
  have y0 := HQ.c0
  have y1 := HQ.c1
  have y2 := HQ.c2
  have y3 := HQ.c3
  by_cases q1 : 1 ≤ l
  · by_cases q2 : l ≤ f
    · by_cases q3 : f ≤ m
      · by_cases q4 : m ≤ 64
        · by_cases q5 : 0 ≤ g
          · by_cases q6 : g ≤ 64
            · have HR : Hid (PO l m f g) := ⟨q1, q2, q3, q4, q5, q6⟩
              go_wp2
              go_ret
              exact ⟨tel_yes HR.out, HB1.out⟩
            · go_wp2
              go_ret
              exact ⟨tel_no (fun h => by have := HP.out.1 h; omega), HB1.out⟩
          · go_wp2
            go_ret
            exact ⟨tel_no (fun h => by have := HP.out.1 h; omega), HB1.out⟩
        · go_wp2
          go_ret
          exact ⟨tel_no (fun h => by have := HP.out.1 h; omega), HB1.out⟩
      · go_wp2
        go_ret
        exact ⟨tel_no (fun h => by have := HP.out.1 h; omega), HB1.out⟩
    · go_wp2
      go_ret
      exact ⟨tel_no (fun h => by have := HP.out.1 h; omega), HB1.out⟩
  · go_wp2
    go_ret
    exact ⟨tel_no (fun h => by have := HP.out.1 h; omega), HB1.out⟩
set_option maxRecDepth 100000 in
set_option maxHeartbeats 4000000 in
theorem refNext_any (l m f g x z : Int) (w : World) (h : PO l m f g) (x0 : l ≤ x) (x1 : x ≤ m) :
    Calls Try.prog 22 #[.agg #[.int .i64 l, .int .i64 m, .int .i64 f, .int .i64 g], .int .i64 x, .int .i64 z] w fun e w' => e = .returned (.int .i64 (nxV l m g x z)) ∧ Below w.heap.size w w' := by
  obtain ⟨p1, p2, p3, p4, p5, p6⟩ := h
  unfold nxV
  obtain ⟨w1, hw1⟩ : ∃ w1, w1 = w.alloc (.cells #[.int .i64 l, .int .i64 m, .int .i64 f, .int .i64 g] 42) := ⟨_, rfl⟩
  have HB1 : Hid (Below w.heap.size w w1) := by rw [hw1]; exact bel1 _ _
  have HQ := Q4.new w (.int .i64 l) (.int .i64 m) (.int .i64 f) (.int .i64 g) 42
  rw [← hw1] at HQ
  have y0 := HQ.c0
  have y1 := HQ.c1
  have y3 := HQ.c3
  have ww : IntKind.i64.wrap (x + g) = x + g := by rw [IntKind.wrap_i64]; omega
  have hd : x.tdiv 2 = x / 2 := Int.tdiv_eq_ediv_of_nonneg (by omega)
  have wd : IntKind.i64.wrap (x / 2) = x / 2 := by rw [IntKind.wrap_i64]; omega
  by_cases hz : z = 0
  · subst hz
    rw [if_pos rfl]
    by_cases hm : m < x + g
    · rw [if_pos hm]
      go_enter Try.func22, Try.ntmps22
      go_upto_region 1 with fail
      rw [← hw1]
      clear hw1 HQ
      go_wp2
      go_ret
      exact ⟨rfl, HB1.out⟩
    · rw [if_neg hm]
      go_enter Try.func22, Try.ntmps22
      go_upto_region 1 with fail
      rw [← hw1]
      clear hw1 HQ
      go_wp2
      go_ret
      exact ⟨rfl, HB1.out⟩
  · rw [if_neg hz]
    by_cases hm : x / 2 < l
    · rw [if_pos hm]
      go_enter Try.func22, Try.ntmps22
      go_upto_region 1 with fail
      rw [← hw1]
      clear hw1 HQ
      go_wp2
      go_ret
      exact ⟨rfl, HB1.out⟩
    · rw [if_neg hm]
      go_enter Try.func22, Try.ntmps22
      go_upto_region 1 with fail
      rw [← hw1]
      clear hw1 HQ
      go_wp2
      go_ret
      exact ⟨rfl, HB1.out⟩
set_option maxRecDepth 100000 in
set_option maxHeartbeats 4000000 in
theorem refSteps_any (l m f g : Int) (v : Value) (n : Nat) (ms : Nat → Int) (w : World) (hn : n ≤ 1000) (h : PO l m f g) (hA : Ar w v n ms) :
    Calls Try.prog 24 #[.agg #[.int .i64 l, .int .i64 m, .int .i64 f, .int .i64 g], v] w fun e w' => e = .returned (.int .i64 (stV l m f g ms n)) ∧ Below w.heap.size w w' := by
  obtain ⟨adr, cap, b, o, rfl, k1, k2, k3, k4⟩ := hA
  unfold maxLen at k2
  have HC : Hid (∀ k, k < n → w.cell? ⟨b, o + k, none⟩ = some (.int .i64 (ms k))) := fun k hk => (k4 k hk).1
  have HK : Hid (0 < n → adr = some ⟨b, o, none⟩) := k3
  have HPO : Hid (PO l m f g) := h
  have HV : Hid (∀ k, l ≤ stV l m f g ms k ∧ stV l m f g ms k ≤ m) := fun k => stV_in h _ k
  obtain ⟨w1, hw1⟩ : ∃ w1, w1 = w.alloc (.cells #[.int .i64 l, .int .i64 m, .int .i64 f, .int .i64 g] 42) := ⟨_, rfl⟩
  have HB1 : Hid (Below w.heap.size w w1) := by rw [hw1]; exact bel1 _ _
  have HQ := Q4.new w (.int .i64 l) (.int .i64 m) (.int .i64 f) (.int .i64 g) 42
  rw [← hw1] at HQ
  clear k3 k4 h
  go_enter Try.func24, Try.ntmps24
  go_upto_region 1 with fail
  rw [← hw1]
  clear hw1
  have HQ1 : Hid (Q4 w.heap.size (.int .i64 l) (.int .i64 m) (.int .i64 f) (.int .i64 g) w1) := HQ
  have y2 := HQ.c2
  clear HQ
  go_upto_region 3 with fail
  go_loopw [5, 6] (fun s5 si wr => ∃ (j : Nat) (x : Int), j ≤ n ∧ si = .int .i64 (j : Int) ∧ s5 = .int .i64 x ∧ Hid (x = stV l m f g ms j) ∧ Hid (Q4 w.heap.size (.int .i64 l) (.int .i64 m) (.int .i64 f) (.int .i64 g) wr) ∧ Hid (Below w.heap.size w wr)) (fun _ si _ => n - (intOf si).toNat)
  case atStart => exact ⟨0, f, by omega, rfl, rfl, rfl, HQ1, HB1⟩
  case round =>
    obtain ⟨j, x, hj, rfl, rfl, HX, HQr, HW⟩ := hrel
    by_cases hlt : j < n
    · have hjI : (j : Int) < (n : Int) := by omega
      have ea := HK.out (by omega)
      subst ea
      have c0 := cell_later HW.out (HC.out j hlt)
      have hx := HV.out j
      rw [← HX.out] at hx
      have CN : Hid (∀ W' : World, Calls Try.prog 22 #[.agg #[.int .i64 l, .int .i64 m, .int .i64 f, .int .i64 g], .int .i64 x, .int .i64 (ms j)] W' fun e w' => e = .returned (.int .i64 (nxV l m g x (ms j))) ∧ Below W'.heap.size W' w') := fun W' => refNext_any l m f g x (ms j) W' HPO.out hx.1 hx.2
      have HX2 : Hid (nxV l m g x (ms j) = stV l m f g ms (j + 1)) := by show _ = nxV l m g (stV l m f g ms j) (ms j); rw [← HX.out]
      clear HX hx y2
      generalize nxV l m g x (ms j) = R at *
      generalize ms j = mj at *
      go_upto_region 5 with fail
      have hbD : Below wr.heap.size wr wr.drew := (Below.refl _ _).drew
      have HW2 : Hid (Below w.heap.size w wr.drew) := bchain HW.out hbD
      have HQ2 : Hid (Q4 w.heap.size (.int .i64 l) (.int .i64 m) (.int .i64 f) (.int .i64 g) wr.drew) := HQr.out.later hbD
      refine wp_region_held_drew (S := fun w' => w'.cell? ⟨w.heap.size, 0, none⟩ = some (.int .i64 l) ∧ w'.cell? ⟨w.heap.size, 1, none⟩ = some (.int .i64 m) ∧ w'.cell? ⟨w.heap.size, 2, none⟩ = some (.int .i64 f) ∧ w'.cell? ⟨w.heap.size, 3, none⟩ = some (.int .i64 g) ∧ w'.cell? ⟨b, o + j, none⟩ = some (.int .i64 mj)) (by kernel_rfl) ⟨HQ2.out.c0, HQ2.out.c1, HQ2.out.c2, HQ2.out.c3, cell_drew c0⟩ (fun HS => ?_)
      clear hbD HQr HW c0
      generalize wr.drew = wd at *
      refine wpAnyH_take (i := 0) (v := ?v1) rfl (by kernel_rfl) (by kernel_rfl) (by kernel_rfl) (fun _ _ _ h => h) (Or.inl ⟨by kernel_rfl, ?h1⟩) HS ?r1
      case h1 => (rintro w ⟨s0, s1, s2, s3, s4⟩; go_simp) <;> with_reducible rfl
      try simp only [Act.put, List.getElem_toArray, List.getElem_cons_succ, List.getElem_cons_zero, List.setIfInBounds_toArray, List.set_cons_zero, List.set_cons_succ]
      refine wpAnyH_take (i := 1) (v := ?v2) rfl (by kernel_rfl) (by kernel_rfl) (by kernel_rfl) (fun _ _ _ h => h) (Or.inl ⟨by kernel_rfl, ?h2⟩) HS ?r2
      case h2 => (rintro w ⟨s0, s1, s2, s3, s4⟩; go_simp) <;> with_reducible rfl
      try simp only [Act.put, List.getElem_toArray, List.getElem_cons_succ, List.getElem_cons_zero, List.setIfInBounds_toArray, List.set_cons_zero, List.set_cons_succ]
      refine wpAnyH_take (i := 2) (v := ?v3) rfl (by kernel_rfl) (by kernel_rfl) (by kernel_rfl) (fun _ _ _ h => h) (Or.inl ⟨by kernel_rfl, ?h3⟩) HS ?r3
      case h3 => (rintro w ⟨s0, s1, s2, s3, s4⟩; go_simp) <;> with_reducible rfl
      try simp only [Act.put, List.getElem_toArray, List.getElem_cons_succ, List.getElem_cons_zero, List.setIfInBounds_toArray, List.set_cons_zero, List.set_cons_succ]
      refine wpAnyH_take (i := 3) (v := ?v4) rfl (by kernel_rfl) (by kernel_rfl) (by kernel_rfl) (fun _ _ _ h => h) (Or.inl ⟨by kernel_rfl, ?h4⟩) HS ?r4
      case h4 => (rintro w ⟨s0, s1, s2, s3, s4⟩; go_simp) <;> with_reducible rfl
      try simp only [Act.put, List.getElem_toArray, List.getElem_cons_succ, List.getElem_cons_zero, List.setIfInBounds_toArray, List.set_cons_zero, List.set_cons_succ]
      refine wpAnyH_take (i := 4) (v := ?v5) rfl (by kernel_rfl) (by kernel_rfl) (by kernel_rfl) (fun _ _ _ h => h) (Or.inl ⟨by kernel_rfl, ?h5⟩) HS ?r5
      case h5 => (rintro w ⟨s0, s1, s2, s3, s4⟩; go_simp) <;> with_reducible rfl
      try simp only [Act.put, List.getElem_toArray, List.getElem_cons_succ, List.getElem_cons_zero, List.setIfInBounds_toArray, List.set_cons_zero, List.set_cons_succ]
      refine wpAnyH_take (i := 5) (v := ?v6) rfl (by kernel_rfl) (by kernel_rfl) (by kernel_rfl) (fun _ _ _ h => h) (Or.inl ⟨by kernel_rfl, ?h6⟩) HS ?r6
      case h6 => (rintro w ⟨s0, s1, s2, s3, s4⟩; go_simp) <;> with_reducible rfl
      try simp only [Act.put, List.getElem_toArray, List.getElem_cons_succ, List.getElem_cons_zero, List.setIfInBounds_toArray, List.set_cons_zero, List.set_cons_succ]
      refine wpAnyH_ready (rs := [6]) (by kernel_rfl) (by simp) ?_
      refine AllReadyH.cons rfl (fun K hK => ?_) AllReadyH.nil
      go_simp
      refine (CN.out _).mono ?_
      rintro e w3 ⟨rfl, hb⟩
      refine hK.out _ _ ⟨cell_later hb HS.1, cell_later hb HS.2.1, cell_later hb HS.2.2.1, cell_later hb HS.2.2.2.1, cell_later hb HS.2.2.2.2⟩ (fun HS => ?_)
      clear hK K
      have HW3 : Hid (Below w.heap.size w w3) := bchain HW2.out hb
      have HQ3 : Hid (Q4 w.heap.size (.int .i64 l) (.int .i64 m) (.int .i64 f) (.int .i64 g) w3) := HQ2.out.later hb
      clear hb HW2 HQ2
      refine wpAnyH_take (i := 7) (v := ?v7) rfl (by kernel_rfl) (by kernel_rfl) (by kernel_rfl) (fun _ _ _ h => h) (Or.inl ⟨by kernel_rfl, ?h7⟩) HS ?r7
      case h7 => (rintro w ⟨s0, s1, s2, s3, s4⟩; go_simp) <;> with_reducible rfl
      try simp only [Act.put, List.getElem_toArray, List.getElem_cons_succ, List.getElem_cons_zero, List.setIfInBounds_toArray, List.set_cons_zero, List.set_cons_succ]
      refine wpAnyH_done (by kernel_rfl) ?_ _
      clear HS
      go_wp2
      go_roundw
      case rel => exact ⟨j + 1, R, by omega, by go_num, rfl, HX2, HQ3, HW3⟩
      case measure => simp [intOf]; omega
    · obtain rfl : j = n := by omega
      have hjI : ¬ (j : Int) < (j : Int) := by omega
      have HE : Hid (stV l m f g ms j = x) := HX.out.symm
      clear HX
      go_wp2
      go_ret
      exact ⟨by rw [HE.out]; rfl, HW.out⟩
end Go.Proofs.Ytbblcecfdlmfmaa
