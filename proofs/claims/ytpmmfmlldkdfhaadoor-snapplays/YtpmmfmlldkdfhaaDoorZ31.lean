/-
  The program's snap: is a slot's head right.
-/
import Derived.Test.YtpmmfmlldkdfhaaDoorZ29

set_option linter.unusedVariables false
set_option linter.unusedSimpArgs false
namespace Go.Proofs.YtpmmfmlldkdfhaaDoor
open Go.RowKit

theorem slC_row (g which a room : Nat) (h : List Nat) : ∀ j v, (b8 h)[j]? = some v → (slC g which a room h)[4 + j]? = some v := by
  intro j v hv
  have e : 4 + j = j + 1 + 1 + 1 + 1 := by omega
  rw [e]
  exact hv
/-- A slot in memory, and what is kept. -/
structure Sv16 (w : World) (B g which a room : Nat) (h : List Nat) (X : World) : Prop where
  v : Vb X B 110 (slC g which a room h)
  k : Below w.heap.size w X
  t : TbAt X
theorem Sv16.later {w : World} {B g which a room : Nat} {h : List Nat} {X X' : World} (H : Sv16 w B g which a room h X) (k : Below X.heap.size X X') : Sv16 w B g which a room h X' := ⟨H.v.later k, bchain H.k k, H.t.later k⟩
theorem Sv16.row {w : World} {B g which a room : Nat} {h : List Nat} {X : World} (H : Sv16 w B g which a room h X) : X.rangeAt B 4 (b8 h) := H.v.range 4 (b8 h) (slC_row g which a room h)
theorem gt64 {h : List Nat} (hh : okb h) (p : Nat) : gt h p 8 < 18446744073709551616 := by
  have := gt_lt hh.2 p 8
  have e : (2 : Nat) ^ (8 * 8) = 18446744073709551616 := by decide
  omega
set_option maxRecDepth 100000 in
set_option maxHeartbeats 8000000 in
theorem right16 (w : World) (g which a room : Nat) (h : List Nat) (hh : okb h) (hT : TbAt w) (hw : which < 2) (hr : room ≤ 20000) :
    Calls Tryd.prog 56 #[.agg (slC g which a room h).toArray] w fun e w' => e = .returned (.bool (decide (whl h which room))) ∧ Below w.heap.size w w' := by
  obtain ⟨b, hb⟩ : ∃ b, decide (whl h which room) = b := ⟨_, rfl⟩
  have HD : Hid ((whl h which room → b = true) ∧ (¬ whl h which room → b = false)) := by rw [← hb]; exact ⟨fun q => decide_eq_true q, fun q => decide_eq_false q⟩
  rw [hb]
  obtain ⟨w1, hw1⟩ : ∃ w1, w1 = w.alloc (.cells (slC g which a room h).toArray 110) := ⟨_, rfl⟩
  obtain ⟨B, hB⟩ : ∃ B, w.heap.size = B := ⟨_, rfl⟩
  have HV : Hid (Sv16 w B g which a room h w1) := by rw [hw1, ← hB]; exact ⟨Vb.new _ _ _, bel1 _ _, hT.later (bel1 _ _)⟩
  have HH : Hid (okb h) := hh
  have HWh : Hid (∀ N Z L, gt h 0 8 = N → gt h 8 8 = Z → gt h 120 8 = L → (whl h which room ↔ N = L ∧ 1 ≤ N ∧ N ≤ 4611686018427387904 ∧ N % 2 = which ∧ Z ≤ room * 128 ∧ gt h 20 4 = sm (h.take 20))) := fun N Z L q1 q2 q3 => by subst q1 q2 q3; exact Iff.rfl
  obtain ⟨N, hN⟩ : ∃ N, gt h 0 8 = N := ⟨_, rfl⟩
  obtain ⟨Z, hZ⟩ : ∃ Z, gt h 8 8 = Z := ⟨_, rfl⟩
  obtain ⟨L, hL⟩ : ∃ L, gt h 120 8 = L := ⟨_, rfl⟩
  have HW : Hid (whl h which room ↔ N = L ∧ 1 ≤ N ∧ N ≤ 4611686018427387904 ∧ N % 2 = which ∧ Z ≤ room * 128 ∧ gt h 20 4 = sm (h.take 20)) := HWh.out N Z L hN hZ hL
  have C1 := fun W => number16 h hh 0 8 (by omega) (by omega) W
  have C2 := fun W => number16 h hh 120 8 (by omega) (by omega) W
  have C3 := fun W => number16 h hh 8 8 (by omega) (by omega) W
  have hN64 := gt64 hh 0
  have hZ64 := gt64 hh 8
  rw [hN] at C1 hN64
  rw [hL] at C2
  rw [hZ] at C3 hZ64
  have HC1 : Hid (∀ W : World, Calls Tryd.prog 58 #[bkV h, .int .i64 ((0 : Nat) : Int), .int .i64 ((8 : Nat) : Int)] W fun e w' => e = .returned (.int .u64 (N : Int)) ∧ Below W.heap.size W w') := C1
  have HC2 : Hid (∀ W : World, Calls Tryd.prog 58 #[bkV h, .int .i64 ((120 : Nat) : Int), .int .i64 ((8 : Nat) : Int)] W fun e w' => e = .returned (.int .u64 (L : Int)) ∧ Below W.heap.size W w') := C2
  have HC3 : Hid (∀ W : World, Calls Tryd.prog 58 #[bkV h, .int .i64 ((8 : Nat) : Int), .int .i64 ((8 : Nat) : Int)] W fun e w' => e = .returned (.int .u64 (Z : Int)) ∧ Below W.heap.size W w') := C3
  clear hN hZ hL HWh C1 C2 C3 hh hT hb
  go_enter Tryd.func56, Tryd.ntmps56
  go_upto_region 1 with fail
  rw [← hw1]
  rw [hB] at *
  clear hw1 hB
  go_wp2_with (refine ldH rfl _ rfl B 4 h rfl HV.out.row HH.out.1 ?_)
  refine (HC1.out w1).mono ?_
  rintro e w2 ⟨rfl, hB2⟩
  have HV2 : Hid (Sv16 w B g which a room h w2) := HV.out.later hB2
  clear hB2 HV HC1
  go_wp2_with (refine ldH rfl _ rfl B 4 h rfl HV2.out.row HH.out.1 ?_)
  refine (HC2.out w2).mono ?_
  rintro e w3 ⟨rfl, hB3⟩
  have HV3 : Hid (Sv16 w B g which a room h w3) := HV2.out.later hB3
  clear hB3 HV2 HC2
  by_cases c1 : N = L
  · subst c1
    by_cases c2 : 1 ≤ N
    · have c2I : ¬ (N : Int) < 1 := by omega
      have c2B : decide ((N : Int) < 1) = false := decide_eq_false c2I
      by_cases c3 : N ≤ 4611686018427387904
      · have c3I : ¬ (4611686018427387904 : Int) < (N : Int) := by omega
        have c3B : decide ((4611686018427387904 : Int) < (N : Int)) = false := decide_eq_false c3I
        obtain ⟨r, hr⟩ : ∃ r, N % 2 = r := ⟨_, rfl⟩
        have t0 : IntKind.i64.wrap (N : Int) = (N : Int) := by rw [IntKind.wrap_i64]; omega
        have t1 : (N : Int).tmod 2 = (r : Int) := by rw [Int.tmod_eq_emod_of_nonneg (by omega)]; omega
        have t3 : IntKind.i64.wrap (r : Int) = (r : Int) := by rw [IntKind.wrap_i64]; omega
        have x1 : w3.cell? ⟨B, 1, none⟩ = some (.int .i64 (which : Int)) := HV3.out.v.cell 1 _ rfl
        by_cases c4 : r = which
        · subst c4
          obtain ⟨M, hM⟩ : ∃ M, room * 128 = M := ⟨_, rfl⟩
          have m1 : (room : Int) * 128 = (M : Int) := by omega
          have m2 : IntKind.i64.wrap (M : Int) = (M : Int) := by rw [IntKind.wrap_i64]; omega
          have m3 : IntKind.u64.wrap (M : Int) = (M : Int) := by rw [IntKind.wrap_u64]; omega
          go_upto_region 6 with fail
          have HV4 : Hid (Sv16 w B g r a room h w3.drew) := HV3.out.later (Below.refl _ _).drew
          refine wp_region_held_drew (S := fun W => W.cell? ⟨B, 3, none⟩ = some (.int .i64 (room : Int)) ∧ Vb W B 110 (slC g r a room h)) (by kernel_rfl) ⟨HV3.out.v.cell 3 _ rfl, HV3.out.v⟩ (fun HS => ?_)
          clear HV3 x1 t0 t1 t3
          generalize w3.drew = q0 at *
          refine wpAnyH_take (i := 0) (v := ?v1) rfl (by kernel_rfl) (by kernel_rfl) (by kernel_rfl) (fun _ _ _ h => h) (Or.inl ⟨by kernel_rfl, ?h1⟩) HS ?r1
          case h1 => (rintro w ⟨n0, n1⟩; go_simp) <;> with_reducible rfl
          try simp only [Act.put, List.getElem_toArray, List.getElem_cons_succ, List.getElem_cons_zero, List.setIfInBounds_toArray, List.set_cons_zero, List.set_cons_succ]
          refine wpAnyH_take (i := 1) (v := bkV h) rfl (by kernel_rfl) (by kernel_rfl) (by kernel_rfl) (fun _ _ _ h => h) (yieldsIf_load_mid (by kernel_rfl) 107 _ rfl B 4 rfl (b8 h) _ (fun W hW => Vb.range hW.2 4 (b8 h) (slC_row g r a room h)) und_hd16 rfl (by rw [b8_len, HH.out.1]; exact sz_hd16)) HS ?_
          try simp only [Act.put, List.getElem_toArray, List.getElem_cons_succ, List.getElem_cons_zero, List.setIfInBounds_toArray, List.set_cons_zero, List.set_cons_succ]
          refine wpAnyH_take (i := 3) (v := ?v2) rfl (by kernel_rfl) (by kernel_rfl) (by kernel_rfl) (fun _ _ _ h => h) (Or.inl ⟨by kernel_rfl, ?h2⟩) HS ?r2
          case h2 => (rintro w ⟨n0, n1⟩; go_simp) <;> with_reducible rfl
          try simp only [Act.put, List.getElem_toArray, List.getElem_cons_succ, List.getElem_cons_zero, List.setIfInBounds_toArray, List.set_cons_zero, List.set_cons_succ]
          refine wpAnyH_take (i := 4) (v := ?v3) rfl (by kernel_rfl) (by kernel_rfl) (by kernel_rfl) (fun _ _ _ h => h) (Or.inl ⟨by kernel_rfl, ?h3⟩) HS ?r3
          case h3 => (rintro w ⟨n0, n1⟩; go_simp) <;> with_reducible rfl
          try simp only [Act.put, List.getElem_toArray, List.getElem_cons_succ, List.getElem_cons_zero, List.setIfInBounds_toArray, List.set_cons_zero, List.set_cons_succ]
          refine wpAnyH_take (i := 5) (v := ?v4) rfl (by kernel_rfl) (by kernel_rfl) (by kernel_rfl) (fun _ _ _ h => h) (Or.inl ⟨by kernel_rfl, ?h4⟩) HS ?r4
          case h4 => (rintro w ⟨n0, n1⟩; go_simp) <;> with_reducible rfl
          try simp only [Act.put, List.getElem_toArray, List.getElem_cons_succ, List.getElem_cons_zero, List.setIfInBounds_toArray, List.set_cons_zero, List.set_cons_succ]
          refine wpAnyH_take (i := 6) (v := ?v5) rfl (by kernel_rfl) (by kernel_rfl) (by kernel_rfl) (fun _ _ _ h => h) (Or.inl ⟨by kernel_rfl, ?h5⟩) HS ?r5
          case h5 => (rintro w ⟨n0, n1⟩; go_simp) <;> with_reducible rfl
          try simp only [Act.put, List.getElem_toArray, List.getElem_cons_succ, List.getElem_cons_zero, List.setIfInBounds_toArray, List.set_cons_zero, List.set_cons_succ]
          refine wpAnyH_take (i := 7) (v := ?v6) rfl (by kernel_rfl) (by kernel_rfl) (by kernel_rfl) (fun _ _ _ h => h) (Or.inl ⟨by kernel_rfl, ?h6⟩) HS ?r6
          case h6 => (rintro w ⟨n0, n1⟩; go_simp) <;> with_reducible rfl
          try simp only [Act.put, List.getElem_toArray, List.getElem_cons_succ, List.getElem_cons_zero, List.setIfInBounds_toArray, List.set_cons_zero, List.set_cons_succ]
          refine wpAnyH_ready (rs := [2]) (by kernel_rfl) (by simp) ?_
          refine AllReadyH.cons rfl (fun K hK => ?_) AllReadyH.nil
          go_simp
          refine (HC3.out q0).mono ?_
          rintro e q1 ⟨rfl, hB1⟩
          have HV5 : Hid (Sv16 w B g r a room h q1) := HV4.out.later hB1
          refine hK.out _ _ ⟨HV5.out.v.cell 3 _ rfl, HV5.out.v⟩ (fun HS => ?_)
          clear hK K hB1 HV4 HC3
          try simp only [Act.put, List.getElem_toArray, List.getElem_cons_succ, List.getElem_cons_zero, List.setIfInBounds_toArray, List.set_cons_zero, List.set_cons_succ]
          by_cases c5 : Z ≤ M
          · have c5I : ¬ (M : Int) < (Z : Int) := by omega
            have c5B : decide ((M : Int) < (Z : Int)) = false := decide_eq_false c5I
            refine wpAnyH_take (i := 8) (v := ?v7) rfl (by kernel_rfl) (by kernel_rfl) (by kernel_rfl) (fun _ _ _ h => h) (Or.inl ⟨by kernel_rfl, ?h7⟩) HS ?r7
            case h7 => (rintro w ⟨n0, n1⟩; go_simp) <;> with_reducible rfl
            try simp only [Act.put, List.getElem_toArray, List.getElem_cons_succ, List.getElem_cons_zero, List.setIfInBounds_toArray, List.set_cons_zero, List.set_cons_succ]
            refine wpAnyH_take (i := 9) (v := ?v8) rfl (by kernel_rfl) (by kernel_rfl) (by kernel_rfl) (fun _ _ _ h => h) (Or.inl ⟨by kernel_rfl, ?h8⟩) HS ?r8
            case h8 => (rintro w ⟨n0, n1⟩; go_simp) <;> with_reducible rfl
            try simp only [Act.put, List.getElem_toArray, List.getElem_cons_succ, List.getElem_cons_zero, List.setIfInBounds_toArray, List.set_cons_zero, List.set_cons_succ]
            refine wpAnyH_done (by kernel_rfl) ?_ _
            clear HS
            obtain ⟨U, hU⟩ : ∃ U, gt h 20 4 = U := ⟨_, rfl⟩
            obtain ⟨S2, hS2⟩ : ∃ S2, sm (h.take 20) = S2 := ⟨_, rfl⟩
            have HE : Hid (whl h r room ↔ U = S2) := by
              refine ⟨fun q => ?_, fun q => ?_⟩
              · have := (HW.out.1 q).2.2.2.2.2
                rw [hU, hS2] at this
                exact this
              · refine HW.out.2 ⟨by first | rfl | trivial, c2, c3, hr, by omega, ?_⟩
                rw [hU, hS2]
                exact q
            have C4 := fun W => number16 h HH.out 20 4 (by omega) (by omega) W
            rw [hU] at C4
            have C5 := fun W hT => sum16 h HH.out W hT
            rw [hS2] at C5
            have HC4 : Hid (∀ W : World, Calls Tryd.prog 58 #[bkV h, .int .i64 ((20 : Nat) : Int), .int .i64 ((4 : Nat) : Int)] W fun e w' => e = .returned (.int .u64 (U : Int)) ∧ Below W.heap.size W w') := C4
            have HC5 : Hid (∀ (W : World), TbAt W → Calls Tryd.prog 62 #[bkV h] W fun e w' => e = .returned (.int .u64 (S2 : Int)) ∧ Below W.heap.size W w') := C5
            clear C4 C5 hU hS2
            go_upto_region 8 with fail
            have HV6 : Hid (Sv16 w B g r a room h q1.drew) := HV5.out.later (Below.refl _ _).drew
            refine wp_region_held_drew (S := fun W => Vb W B 110 (slC g r a room h)) (by kernel_rfl) HV5.out.v (fun HS => ?_)
            clear HV5
            generalize q1.drew = q2 at *
            refine wpAnyH_take (i := 0) (v := ?v9) rfl (by kernel_rfl) (by kernel_rfl) (by kernel_rfl) (fun _ _ _ h => h) (Or.inl ⟨by kernel_rfl, ?h9⟩) HS ?r9
            case h9 => (rintro w n0; go_simp) <;> with_reducible rfl
            try simp only [Act.put, List.getElem_toArray, List.getElem_cons_succ, List.getElem_cons_zero, List.setIfInBounds_toArray, List.set_cons_zero, List.set_cons_succ]
            refine wpAnyH_take (i := 1) (v := bkV h) rfl (by kernel_rfl) (by kernel_rfl) (by kernel_rfl) (fun _ _ _ h => h) (yieldsIf_load_mid (by kernel_rfl) 107 _ rfl B 4 rfl (b8 h) _ (fun W hW => Vb.range hW 4 (b8 h) (slC_row g r a room h)) und_hd16 rfl (by rw [b8_len, HH.out.1]; exact sz_hd16)) HS ?_
            try simp only [Act.put, List.getElem_toArray, List.getElem_cons_succ, List.getElem_cons_zero, List.setIfInBounds_toArray, List.set_cons_zero, List.set_cons_succ]
            refine wpAnyH_take (i := 3) (v := ?v10) rfl (by kernel_rfl) (by kernel_rfl) (by kernel_rfl) (fun _ _ _ h => h) (Or.inl ⟨by kernel_rfl, ?h10⟩) HS ?r10
            case h10 => (rintro w n0; go_simp) <;> with_reducible rfl
            try simp only [Act.put, List.getElem_toArray, List.getElem_cons_succ, List.getElem_cons_zero, List.setIfInBounds_toArray, List.set_cons_zero, List.set_cons_succ]
            refine wpAnyH_take (i := 4) (v := bkV h) rfl (by kernel_rfl) (by kernel_rfl) (by kernel_rfl) (fun _ _ _ h => h) (yieldsIf_load_mid (by kernel_rfl) 107 _ rfl B 4 rfl (b8 h) _ (fun W hW => Vb.range hW 4 (b8 h) (slC_row g r a room h)) und_hd16 rfl (by rw [b8_len, HH.out.1]; exact sz_hd16)) HS ?_
            try simp only [Act.put, List.getElem_toArray, List.getElem_cons_succ, List.getElem_cons_zero, List.setIfInBounds_toArray, List.set_cons_zero, List.set_cons_succ]
            refine wpAnyH_ready (rs := [2]) (by kernel_rfl) (by simp) ?_
            refine AllReadyH.cons rfl (fun K hK => ?_) AllReadyH.nil
            go_simp
            refine (HC4.out q2).mono ?_
            rintro e q3 ⟨rfl, hB3⟩
            have HV7 : Hid (Sv16 w B g r a room h q3) := HV6.out.later hB3
            refine hK.out _ _ HV7.out.v (fun HS => ?_)
            clear hK K hB3 HV6 HC4
            try simp only [Act.put, List.getElem_toArray, List.getElem_cons_succ, List.getElem_cons_zero, List.setIfInBounds_toArray, List.set_cons_zero, List.set_cons_succ]
            refine wpAnyH_ready (rs := [5]) (by kernel_rfl) (by simp) ?_
            refine AllReadyH.cons rfl (fun K hK => ?_) AllReadyH.nil
            go_simp
            refine (HC5.out q3 HV7.out.t).mono ?_
            rintro e q4 ⟨rfl, hB4⟩
            have HV8 : Hid (Sv16 w B g r a room h q4) := HV7.out.later hB4
            refine hK.out _ _ HV8.out.v (fun HS => ?_)
            clear hK K hB4 HV7 HC5
            try simp only [Act.put, List.getElem_toArray, List.getElem_cons_succ, List.getElem_cons_zero, List.setIfInBounds_toArray, List.set_cons_zero, List.set_cons_succ]
            by_cases c6 : U = S2
            · subst c6
              have hbt : b = true := HD.out.1 (HE.out.2 rfl)
              subst hbt
              refine wpAnyH_take (i := 6) (v := ?v11) rfl (by kernel_rfl) (by kernel_rfl) (by kernel_rfl) (fun _ _ _ h => h) (Or.inl ⟨by kernel_rfl, ?h11⟩) HS ?r11
              case h11 => (rintro w n0; go_simp) <;> with_reducible rfl
              try simp only [Act.put, List.getElem_toArray, List.getElem_cons_succ, List.getElem_cons_zero, List.setIfInBounds_toArray, List.set_cons_zero, List.set_cons_succ]
              refine wpAnyH_take (i := 7) (v := ?v12) rfl (by kernel_rfl) (by kernel_rfl) (by kernel_rfl) (fun _ _ _ h => h) (Or.inl ⟨by kernel_rfl, ?h12⟩) HS ?r12
              case h12 => (rintro w n0; go_simp) <;> with_reducible rfl
              try simp only [Act.put, List.getElem_toArray, List.getElem_cons_succ, List.getElem_cons_zero, List.setIfInBounds_toArray, List.set_cons_zero, List.set_cons_succ]
              refine wpAnyH_done (by kernel_rfl) ?_ _
              clear HS
              go_wp2_with fail
              go_ret
              exact ⟨by first | rfl | trivial | simp, HV8.out.k⟩
            · have c6I : ¬ (U : Int) = (S2 : Int) := by omega
              have c6B : ((U : Int) == (S2 : Int)) = false := by rw [beq_eq_false_iff_ne]; exact c6I
              have hbt : b = false := HD.out.2 (fun q => c6 (HE.out.1 q))
              subst hbt
              refine wpAnyH_take (i := 6) (v := ?v13) rfl (by kernel_rfl) (by kernel_rfl) (by kernel_rfl) (fun _ _ _ h => h) (Or.inl ⟨by kernel_rfl, ?h13⟩) HS ?r13
              case h13 => (rintro w n0; go_simp) <;> with_reducible rfl
              try simp only [Act.put, List.getElem_toArray, List.getElem_cons_succ, List.getElem_cons_zero, List.setIfInBounds_toArray, List.set_cons_zero, List.set_cons_succ]
              refine wpAnyH_take (i := 7) (v := ?v14) rfl (by kernel_rfl) (by kernel_rfl) (by kernel_rfl) (fun _ _ _ h => h) (Or.inl ⟨by kernel_rfl, ?h14⟩) HS ?r14
              case h14 => (rintro w n0; go_simp) <;> with_reducible rfl
              try simp only [Act.put, List.getElem_toArray, List.getElem_cons_succ, List.getElem_cons_zero, List.setIfInBounds_toArray, List.set_cons_zero, List.set_cons_succ]
              refine wpAnyH_done (by kernel_rfl) ?_ _
              clear HS
              go_wp2_with fail
              go_ret
              exact ⟨by first | rfl | trivial | simp, HV8.out.k⟩
          · have c5I : (M : Int) < (Z : Int) := by omega
            have hbt : b = false := HD.out.2 (fun q => by have := (HW.out.1 q).2.2.2.2.1; omega)
            subst hbt
            refine wpAnyH_take (i := 8) (v := ?v15) rfl (by kernel_rfl) (by kernel_rfl) (by kernel_rfl) (fun _ _ _ h => h) (Or.inl ⟨by kernel_rfl, ?h15⟩) HS ?r15
            case h15 => (rintro w ⟨n0, n1⟩; go_simp) <;> with_reducible rfl
            try simp only [Act.put, List.getElem_toArray, List.getElem_cons_succ, List.getElem_cons_zero, List.setIfInBounds_toArray, List.set_cons_zero, List.set_cons_succ]
            refine wpAnyH_take (i := 9) (v := ?v16) rfl (by kernel_rfl) (by kernel_rfl) (by kernel_rfl) (fun _ _ _ h => h) (Or.inl ⟨by kernel_rfl, ?h16⟩) HS ?r16
            case h16 => (rintro w ⟨n0, n1⟩; go_simp) <;> with_reducible rfl
            try simp only [Act.put, List.getElem_toArray, List.getElem_cons_succ, List.getElem_cons_zero, List.setIfInBounds_toArray, List.set_cons_zero, List.set_cons_succ]
            refine wpAnyH_done (by kernel_rfl) ?_ _
            clear HS
            go_wp2_with fail
            go_ret
            exact ⟨by first | rfl | trivial, HV5.out.k⟩
        · have c4I : ¬ (r : Int) = (which : Int) := by omega
          have c4B : ((r : Int) == (which : Int)) = false := by rw [beq_eq_false_iff_ne]; exact c4I
          have c4C : ((r : Int) != (which : Int)) = true := by rw [bne_iff_ne]; exact c4I
          have hbt : b = false := HD.out.2 (fun q => by have := (HW.out.1 q).2.2.2.1; omega)
          subst hbt
          go_wp2_with fail
          go_ret
          exact ⟨rfl, HV3.out.k⟩
      · have c3I : (4611686018427387904 : Int) < (N : Int) := by omega
        have hbt : b = false := HD.out.2 (fun q => c3 (HW.out.1 q).2.2.1)
        subst hbt
        go_wp2_with fail
        go_ret
        exact ⟨rfl, HV3.out.k⟩
    · have c2I : (N : Int) < 1 := by omega
      have hbt : b = false := HD.out.2 (fun q => c2 (HW.out.1 q).2.1)
      subst hbt
      go_wp2_with fail
      go_ret
      exact ⟨rfl, HV3.out.k⟩
  · have c1I : ¬ (N : Int) = (L : Int) := by omega
    have c1B : ((N : Int) == (L : Int)) = false := by rw [beq_eq_false_iff_ne]; exact c1I
    have c1C : ((N : Int) != (L : Int)) = true := by rw [bne_iff_ne]; exact c1I
    have hbt : b = false := HD.out.2 (fun q => c1 (HW.out.1 q).1)
    subst hbt
    go_wp2_with fail
    go_ret
    exact ⟨rfl, HV3.out.k⟩
end Go.Proofs.YtpmmfmlldkdfhaaDoor
