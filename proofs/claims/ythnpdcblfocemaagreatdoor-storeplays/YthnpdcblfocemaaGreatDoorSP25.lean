/-
  Texts of this proof, joined: SqI DqC PkOwn.
-/
import Derived.Test.YthnpdcblfocemaaGreatDoorSP00
import Derived.Test.YthnpdcblfocemaaGreatDoorSP20
import Derived.Test.YthnpdcblfocemaaGreatDoorSP23
import Derived.Laws.OwnMore
import Derived.Maps.AppendAt
set_option linter.unusedVariables false
set_option linter.unusedSimpArgs false
namespace Go.Proofs.YthnpdcblfocemaaGreatDoor
open Go.RowKit

theorem slC_row (g which a room : Nat) (h : List Nat) : ∀ j v, (b8 h)[j]? = some v → (slC g which a room h)[4 + j]? = some v := by
  intro j v hv
  have e : 4 + j = j + 1 + 1 + 1 + 1 := by omega
  rw [e]
  exact hv
structure Sv16 (w : World) (B g which a room : Nat) (h : List Nat) (X : World) : Prop where
  v : Vb X B 153 (slC g which a room h)
  k : Below w.heap.size w X
  t : TbAt X
theorem Sv16.later {w : World} {B g which a room : Nat} {h : List Nat} {X X' : World} (H : Sv16 w B g which a room h X) (k : Below X.heap.size X X') : Sv16 w B g which a room h X' := ⟨H.v.later k, bchain H.k k, H.t.later k⟩
theorem Sv16.row {w : World} {B g which a room : Nat} {h : List Nat} {X : World} (H : Sv16 w B g which a room h X) : X.rangeAt B 4 (b8 h) := H.v.range 4 (b8 h) (slC_row g which a room h)
theorem gt64 {h : List Nat} (hh : okb h) (p : Nat) : gt h p 8 < 18446744073709551616 := by
  have := gt_lt hh.2 p 8
  have e : (2 : Nat) ^ (8 * 8) = 18446744073709551616 := by decide
  omega
set_option maxRecDepth 100000 in
set_option maxHeartbeats 8000000 in
theorem right16 (w : World) (g which a room : Nat) (h : List Nat) (hh : okb h) (hT : TbAt w) (hw : which < 2) (hr : room ≤ 20000) :
    Calls Tryz.prog 92 #[.agg (slC g which a room h).toArray] w fun e w' => e = .returned (.bool (decide (whl h which room))) ∧ Below w.heap.size w w' := by
  obtain ⟨b, hb⟩ : ∃ b, decide (whl h which room) = b := ⟨_, rfl⟩
  have HD : Hid ((whl h which room → b = true) ∧ (¬ whl h which room → b = false)) := by rw [← hb]; exact ⟨fun q => decide_eq_true q, fun q => decide_eq_false q⟩
  rw [hb]
  obtain ⟨w1, hw1⟩ : ∃ w1, w1 = w.alloc (.cells (slC g which a room h).toArray 153) := ⟨_, rfl⟩
  obtain ⟨B, hB⟩ : ∃ B, w.heap.size = B := ⟨_, rfl⟩
  have HV : Hid (Sv16 w B g which a room h w1) := by rw [hw1, ← hB]; exact ⟨Vb.new _ _ _, bel1 _ _, hT.later (bel1 _ _)⟩
  have HH : Hid (okb h) := hh
  have HWh : Hid (∀ N Z L, gt h 0 8 = N → gt h 8 8 = Z → gt h 120 8 = L → (whl h which room ↔ N = L ∧ 1 ≤ N ∧ N ≤ 4611686018427387904 ∧ N % 2 = which ∧ Z ≤ room * 128 ∧ gt h 20 4 = sm (h.take 20))) := fun N Z L q1 q2 q3 => by subst q1 q2 q3; exact Iff.rfl
  obtain ⟨N, hN⟩ : ∃ N, gt h 0 8 = N := ⟨_, rfl⟩
  obtain ⟨Z, hZ⟩ : ∃ Z, gt h 8 8 = Z := ⟨_, rfl⟩
  obtain ⟨L, hL⟩ : ∃ L, gt h 120 8 = L := ⟨_, rfl⟩
  have HW : Hid (whl h which room ↔ N = L ∧ 1 ≤ N ∧ N ≤ 4611686018427387904 ∧ N % 2 = which ∧ Z ≤ room * 128 ∧ gt h 20 4 = sm (h.take 20)) := HWh.out N Z L hN hZ hL
  have C1 := fun W => number16 h hh 0 8 (by omega) (by omega) W
  have C2 := fun W => number16 h hh 120 8 (by omega) (by omega) W
  have C3 := fun W => number16 h hh 8 8 (by omega) (by omega) W
  have hN64 := gt64 hh 0
  have hZ64 := gt64 hh 8
  rw [hN] at C1 hN64
  rw [hL] at C2
  rw [hZ] at C3 hZ64
  have HC1 : Hid (∀ W : World, Calls Tryz.prog 94 #[bkV h, .int .i64 ((0 : Nat) : Int), .int .i64 ((8 : Nat) : Int)] W fun e w' => e = .returned (.int .u64 (N : Int)) ∧ Below W.heap.size W w') := C1
  have HC2 : Hid (∀ W : World, Calls Tryz.prog 94 #[bkV h, .int .i64 ((120 : Nat) : Int), .int .i64 ((8 : Nat) : Int)] W fun e w' => e = .returned (.int .u64 (L : Int)) ∧ Below W.heap.size W w') := C2
  have HC3 : Hid (∀ W : World, Calls Tryz.prog 94 #[bkV h, .int .i64 ((8 : Nat) : Int), .int .i64 ((8 : Nat) : Int)] W fun e w' => e = .returned (.int .u64 (Z : Int)) ∧ Below W.heap.size W w') := C3
  clear hN hZ hL HWh C1 C2 C3 hh hT hb
  go_enter Tryz.func92, Tryz.ntmps92
  go_upto_region 1 with fail
  rw [← hw1]
  rw [hB] at *
  clear hw1 hB
  go_wp2_with (refine ldH rfl _ rfl B 4 h rfl HV.out.row HH.out.1 ?_)
  refine (HC1.out w1).mono ?_
  rintro e w2 ⟨rfl, hB2⟩
  have HV2 : Hid (Sv16 w B g which a room h w2) := HV.out.later hB2
  clear hB2 HV HC1
  go_wp2_with (refine ldH rfl _ rfl B 4 h rfl HV2.out.row HH.out.1 ?_)
  refine (HC2.out w2).mono ?_
  rintro e w3 ⟨rfl, hB3⟩
  have HV3 : Hid (Sv16 w B g which a room h w3) := HV2.out.later hB3
  clear hB3 HV2 HC2
  by_cases c1 : N = L
  · subst c1
    by_cases c2 : 1 ≤ N
    · have c2I : ¬ (N : Int) < 1 := by omega
      have c2B : decide ((N : Int) < 1) = false := decide_eq_false c2I
      by_cases c3 : N ≤ 4611686018427387904
      · have c3I : ¬ (4611686018427387904 : Int) < (N : Int) := by omega
        have c3B : decide ((4611686018427387904 : Int) < (N : Int)) = false := decide_eq_false c3I
        obtain ⟨r, hr⟩ : ∃ r, N % 2 = r := ⟨_, rfl⟩
        have t0 : IntKind.i64.wrap (N : Int) = (N : Int) := by rw [IntKind.wrap_i64]; omega
        have t1 : (N : Int).tmod 2 = (r : Int) := by rw [Int.tmod_eq_emod_of_nonneg (by omega)]; omega
        have t3 : IntKind.i64.wrap (r : Int) = (r : Int) := by rw [IntKind.wrap_i64]; omega
        have x1 : w3.cell? ⟨B, 1, none⟩ = some (.int .i64 (which : Int)) := HV3.out.v.cell 1 _ rfl
        by_cases c4 : r = which
        · subst c4
          obtain ⟨M, hM⟩ : ∃ M, room * 128 = M := ⟨_, rfl⟩
          have m1 : (room : Int) * 128 = (M : Int) := by omega
          have m2 : IntKind.i64.wrap (M : Int) = (M : Int) := by rw [IntKind.wrap_i64]; omega
          have m3 : IntKind.u64.wrap (M : Int) = (M : Int) := by rw [IntKind.wrap_u64]; omega
          go_upto_region 6 with fail
          have HV4 : Hid (Sv16 w B g r a room h w3.drew) := HV3.out.later (Below.refl _ _).drew
          refine wp_region_held_drew (S := fun W => W.cell? ⟨B, 3, none⟩ = some (.int .i64 (room : Int)) ∧ Vb W B 153 (slC g r a room h)) (by kernel_rfl) ⟨HV3.out.v.cell 3 _ rfl, HV3.out.v⟩ (fun HS => ?_)
          clear HV3 x1 t0 t1 t3
          generalize w3.drew = q0 at *
          refine wpAnyH_take (i := 0) (v := ?v1) rfl (by kernel_rfl) (by kernel_rfl) (by kernel_rfl) (fun _ _ _ h => h) (Or.inl ⟨by kernel_rfl, ?h1⟩) HS ?r1
          case h1 => (rintro w ⟨n0, n1⟩; go_simp) <;> with_reducible rfl
          try simp only [Act.put, List.getElem_toArray, List.getElem_cons_succ, List.getElem_cons_zero, List.setIfInBounds_toArray, List.set_cons_zero, List.set_cons_succ]
          refine wpAnyH_take (i := 1) (v := bkV h) rfl (by kernel_rfl) (by kernel_rfl) (by kernel_rfl) (fun _ _ _ h => h) (yieldsIf_load_mid (by kernel_rfl) 150 _ rfl B 4 rfl (b8 h) _ (fun W hW => Vb.range hW.2 4 (b8 h) (slC_row g r a room h)) und_hd16 rfl (by rw [b8_len, HH.out.1]; exact sz_hd16)) HS ?_
          try simp only [Act.put, List.getElem_toArray, List.getElem_cons_succ, List.getElem_cons_zero, List.setIfInBounds_toArray, List.set_cons_zero, List.set_cons_succ]
          refine wpAnyH_take (i := 3) (v := ?v2) rfl (by kernel_rfl) (by kernel_rfl) (by kernel_rfl) (fun _ _ _ h => h) (Or.inl ⟨by kernel_rfl, ?h2⟩) HS ?r2
          case h2 => (rintro w ⟨n0, n1⟩; go_simp) <;> with_reducible rfl
          try simp only [Act.put, List.getElem_toArray, List.getElem_cons_succ, List.getElem_cons_zero, List.setIfInBounds_toArray, List.set_cons_zero, List.set_cons_succ]
          refine wpAnyH_take (i := 4) (v := ?v3) rfl (by kernel_rfl) (by kernel_rfl) (by kernel_rfl) (fun _ _ _ h => h) (Or.inl ⟨by kernel_rfl, ?h3⟩) HS ?r3
          case h3 => (rintro w ⟨n0, n1⟩; go_simp) <;> with_reducible rfl
          try simp only [Act.put, List.getElem_toArray, List.getElem_cons_succ, List.getElem_cons_zero, List.setIfInBounds_toArray, List.set_cons_zero, List.set_cons_succ]
          refine wpAnyH_take (i := 5) (v := ?v4) rfl (by kernel_rfl) (by kernel_rfl) (by kernel_rfl) (fun _ _ _ h => h) (Or.inl ⟨by kernel_rfl, ?h4⟩) HS ?r4
          case h4 => (rintro w ⟨n0, n1⟩; go_simp) <;> with_reducible rfl
          try simp only [Act.put, List.getElem_toArray, List.getElem_cons_succ, List.getElem_cons_zero, List.setIfInBounds_toArray, List.set_cons_zero, List.set_cons_succ]
          refine wpAnyH_take (i := 6) (v := ?v5) rfl (by kernel_rfl) (by kernel_rfl) (by kernel_rfl) (fun _ _ _ h => h) (Or.inl ⟨by kernel_rfl, ?h5⟩) HS ?r5
          case h5 => (rintro w ⟨n0, n1⟩; go_simp) <;> with_reducible rfl
          try simp only [Act.put, List.getElem_toArray, List.getElem_cons_succ, List.getElem_cons_zero, List.setIfInBounds_toArray, List.set_cons_zero, List.set_cons_succ]
          refine wpAnyH_take (i := 7) (v := ?v6) rfl (by kernel_rfl) (by kernel_rfl) (by kernel_rfl) (fun _ _ _ h => h) (Or.inl ⟨by kernel_rfl, ?h6⟩) HS ?r6
          case h6 => (rintro w ⟨n0, n1⟩; go_simp) <;> with_reducible rfl
          try simp only [Act.put, List.getElem_toArray, List.getElem_cons_succ, List.getElem_cons_zero, List.setIfInBounds_toArray, List.set_cons_zero, List.set_cons_succ]
          refine wpAnyH_ready (rs := [2]) (by kernel_rfl) (by simp) ?_
          refine AllReadyH.cons rfl (fun K hK => ?_) AllReadyH.nil
          go_simp
          refine (HC3.out q0).mono ?_
          rintro e q1 ⟨rfl, hB1⟩
          have HV5 : Hid (Sv16 w B g r a room h q1) := HV4.out.later hB1
          refine hK.out _ _ ⟨HV5.out.v.cell 3 _ rfl, HV5.out.v⟩ (fun HS => ?_)
          clear hK K hB1 HV4 HC3
          try simp only [Act.put, List.getElem_toArray, List.getElem_cons_succ, List.getElem_cons_zero, List.setIfInBounds_toArray, List.set_cons_zero, List.set_cons_succ]
          by_cases c5 : Z ≤ M
          · have c5I : ¬ (M : Int) < (Z : Int) := by omega
            have c5B : decide ((M : Int) < (Z : Int)) = false := decide_eq_false c5I
            refine wpAnyH_take (i := 8) (v := ?v7) rfl (by kernel_rfl) (by kernel_rfl) (by kernel_rfl) (fun _ _ _ h => h) (Or.inl ⟨by kernel_rfl, ?h7⟩) HS ?r7
            case h7 => (rintro w ⟨n0, n1⟩; go_simp) <;> with_reducible rfl
            try simp only [Act.put, List.getElem_toArray, List.getElem_cons_succ, List.getElem_cons_zero, List.setIfInBounds_toArray, List.set_cons_zero, List.set_cons_succ]
            refine wpAnyH_take (i := 9) (v := ?v8) rfl (by kernel_rfl) (by kernel_rfl) (by kernel_rfl) (fun _ _ _ h => h) (Or.inl ⟨by kernel_rfl, ?h8⟩) HS ?r8
            case h8 => (rintro w ⟨n0, n1⟩; go_simp) <;> with_reducible rfl
            try simp only [Act.put, List.getElem_toArray, List.getElem_cons_succ, List.getElem_cons_zero, List.setIfInBounds_toArray, List.set_cons_zero, List.set_cons_succ]
            refine wpAnyH_done (by kernel_rfl) ?_ _
            clear HS
            obtain ⟨U, hU⟩ : ∃ U, gt h 20 4 = U := ⟨_, rfl⟩
            obtain ⟨S2, hS2⟩ : ∃ S2, sm (h.take 20) = S2 := ⟨_, rfl⟩
            have HE : Hid (whl h r room ↔ U = S2) := by
              refine ⟨fun q => ?_, fun q => ?_⟩
              · have := (HW.out.1 q).2.2.2.2.2
                rw [hU, hS2] at this
                exact this
              · refine HW.out.2 ⟨by first | rfl | trivial, c2, c3, hr, by omega, ?_⟩
                rw [hU, hS2]
                exact q
            have C4 := fun W => number16 h HH.out 20 4 (by omega) (by omega) W
            rw [hU] at C4
            have C5 := fun W hT => sum16 h HH.out W hT
            rw [hS2] at C5
            have HC4 : Hid (∀ W : World, Calls Tryz.prog 94 #[bkV h, .int .i64 ((20 : Nat) : Int), .int .i64 ((4 : Nat) : Int)] W fun e w' => e = .returned (.int .u64 (U : Int)) ∧ Below W.heap.size W w') := C4
            have HC5 : Hid (∀ (W : World), TbAt W → Calls Tryz.prog 98 #[bkV h] W fun e w' => e = .returned (.int .u64 (S2 : Int)) ∧ Below W.heap.size W w') := C5
            clear C4 C5 hU hS2
            go_upto_region 8 with fail
            have HV6 : Hid (Sv16 w B g r a room h q1.drew) := HV5.out.later (Below.refl _ _).drew
            refine wp_region_held_drew (S := fun W => Vb W B 153 (slC g r a room h)) (by kernel_rfl) HV5.out.v (fun HS => ?_)
            clear HV5
            generalize q1.drew = q2 at *
            refine wpAnyH_take (i := 0) (v := ?v9) rfl (by kernel_rfl) (by kernel_rfl) (by kernel_rfl) (fun _ _ _ h => h) (Or.inl ⟨by kernel_rfl, ?h9⟩) HS ?r9
            case h9 => (rintro w n0; go_simp) <;> with_reducible rfl
            try simp only [Act.put, List.getElem_toArray, List.getElem_cons_succ, List.getElem_cons_zero, List.setIfInBounds_toArray, List.set_cons_zero, List.set_cons_succ]
            refine wpAnyH_take (i := 1) (v := bkV h) rfl (by kernel_rfl) (by kernel_rfl) (by kernel_rfl) (fun _ _ _ h => h) (yieldsIf_load_mid (by kernel_rfl) 150 _ rfl B 4 rfl (b8 h) _ (fun W hW => Vb.range hW 4 (b8 h) (slC_row g r a room h)) und_hd16 rfl (by rw [b8_len, HH.out.1]; exact sz_hd16)) HS ?_
            try simp only [Act.put, List.getElem_toArray, List.getElem_cons_succ, List.getElem_cons_zero, List.setIfInBounds_toArray, List.set_cons_zero, List.set_cons_succ]
            refine wpAnyH_take (i := 3) (v := ?v10) rfl (by kernel_rfl) (by kernel_rfl) (by kernel_rfl) (fun _ _ _ h => h) (Or.inl ⟨by kernel_rfl, ?h10⟩) HS ?r10
            case h10 => (rintro w n0; go_simp) <;> with_reducible rfl
            try simp only [Act.put, List.getElem_toArray, List.getElem_cons_succ, List.getElem_cons_zero, List.setIfInBounds_toArray, List.set_cons_zero, List.set_cons_succ]
            refine wpAnyH_take (i := 4) (v := bkV h) rfl (by kernel_rfl) (by kernel_rfl) (by kernel_rfl) (fun _ _ _ h => h) (yieldsIf_load_mid (by kernel_rfl) 150 _ rfl B 4 rfl (b8 h) _ (fun W hW => Vb.range hW 4 (b8 h) (slC_row g r a room h)) und_hd16 rfl (by rw [b8_len, HH.out.1]; exact sz_hd16)) HS ?_
            try simp only [Act.put, List.getElem_toArray, List.getElem_cons_succ, List.getElem_cons_zero, List.setIfInBounds_toArray, List.set_cons_zero, List.set_cons_succ]
            refine wpAnyH_ready (rs := [2]) (by kernel_rfl) (by simp) ?_
            refine AllReadyH.cons rfl (fun K hK => ?_) AllReadyH.nil
            go_simp
            refine (HC4.out q2).mono ?_
            rintro e q3 ⟨rfl, hB3⟩
            have HV7 : Hid (Sv16 w B g r a room h q3) := HV6.out.later hB3
            refine hK.out _ _ HV7.out.v (fun HS => ?_)
            clear hK K hB3 HV6 HC4
            try simp only [Act.put, List.getElem_toArray, List.getElem_cons_succ, List.getElem_cons_zero, List.setIfInBounds_toArray, List.set_cons_zero, List.set_cons_succ]
            refine wpAnyH_ready (rs := [5]) (by kernel_rfl) (by simp) ?_
            refine AllReadyH.cons rfl (fun K hK => ?_) AllReadyH.nil
            go_simp
            refine (HC5.out q3 HV7.out.t).mono ?_
            rintro e q4 ⟨rfl, hB4⟩
            have HV8 : Hid (Sv16 w B g r a room h q4) := HV7.out.later hB4
            refine hK.out _ _ HV8.out.v (fun HS => ?_)
            clear hK K hB4 HV7 HC5
            try simp only [Act.put, List.getElem_toArray, List.getElem_cons_succ, List.getElem_cons_zero, List.setIfInBounds_toArray, List.set_cons_zero, List.set_cons_succ]
            by_cases c6 : U = S2
            · subst c6
              have hbt : b = true := HD.out.1 (HE.out.2 rfl)
              subst hbt
              refine wpAnyH_take (i := 6) (v := ?v11) rfl (by kernel_rfl) (by kernel_rfl) (by kernel_rfl) (fun _ _ _ h => h) (Or.inl ⟨by kernel_rfl, ?h11⟩) HS ?r11
              case h11 => (rintro w n0; go_simp) <;> with_reducible rfl
              try simp only [Act.put, List.getElem_toArray, List.getElem_cons_succ, List.getElem_cons_zero, List.setIfInBounds_toArray, List.set_cons_zero, List.set_cons_succ]
              refine wpAnyH_take (i := 7) (v := ?v12) rfl (by kernel_rfl) (by kernel_rfl) (by kernel_rfl) (fun _ _ _ h => h) (Or.inl ⟨by kernel_rfl, ?h12⟩) HS ?r12
              case h12 => (rintro w n0; go_simp) <;> with_reducible rfl
              try simp only [Act.put, List.getElem_toArray, List.getElem_cons_succ, List.getElem_cons_zero, List.setIfInBounds_toArray, List.set_cons_zero, List.set_cons_succ]
              refine wpAnyH_done (by kernel_rfl) ?_ _
              clear HS
              go_wp2_with fail
              go_ret
              exact ⟨by first | rfl | trivial | simp, HV8.out.k⟩
            · have c6I : ¬ (U : Int) = (S2 : Int) := by omega
              have c6B : ((U : Int) == (S2 : Int)) = false := by rw [beq_eq_false_iff_ne]; exact c6I
              have hbt : b = false := HD.out.2 (fun q => c6 (HE.out.1 q))
              subst hbt
              refine wpAnyH_take (i := 6) (v := ?v13) rfl (by kernel_rfl) (by kernel_rfl) (by kernel_rfl) (fun _ _ _ h => h) (Or.inl ⟨by kernel_rfl, ?h13⟩) HS ?r13
              case h13 => (rintro w n0; go_simp) <;> with_reducible rfl
              try simp only [Act.put, List.getElem_toArray, List.getElem_cons_succ, List.getElem_cons_zero, List.setIfInBounds_toArray, List.set_cons_zero, List.set_cons_succ]
              refine wpAnyH_take (i := 7) (v := ?v14) rfl (by kernel_rfl) (by kernel_rfl) (by kernel_rfl) (fun _ _ _ h => h) (Or.inl ⟨by kernel_rfl, ?h14⟩) HS ?r14
              case h14 => (rintro w n0; go_simp) <;> with_reducible rfl
              try simp only [Act.put, List.getElem_toArray, List.getElem_cons_succ, List.getElem_cons_zero, List.setIfInBounds_toArray, List.set_cons_zero, List.set_cons_succ]
              refine wpAnyH_done (by kernel_rfl) ?_ _
              clear HS
              go_wp2_with fail
              go_ret
              exact ⟨by first | rfl | trivial | simp, HV8.out.k⟩
          · have c5I : (M : Int) < (Z : Int) := by omega
            have hbt : b = false := HD.out.2 (fun q => by have := (HW.out.1 q).2.2.2.2.1; omega)
            subst hbt
            refine wpAnyH_take (i := 8) (v := ?v15) rfl (by kernel_rfl) (by kernel_rfl) (by kernel_rfl) (fun _ _ _ h => h) (Or.inl ⟨by kernel_rfl, ?h15⟩) HS ?r15
            case h15 => (rintro w ⟨n0, n1⟩; go_simp) <;> with_reducible rfl
            try simp only [Act.put, List.getElem_toArray, List.getElem_cons_succ, List.getElem_cons_zero, List.setIfInBounds_toArray, List.set_cons_zero, List.set_cons_succ]
            refine wpAnyH_take (i := 9) (v := ?v16) rfl (by kernel_rfl) (by kernel_rfl) (by kernel_rfl) (fun _ _ _ h => h) (Or.inl ⟨by kernel_rfl, ?h16⟩) HS ?r16
            case h16 => (rintro w ⟨n0, n1⟩; go_simp) <;> with_reducible rfl
            try simp only [Act.put, List.getElem_toArray, List.getElem_cons_succ, List.getElem_cons_zero, List.setIfInBounds_toArray, List.set_cons_zero, List.set_cons_succ]
            refine wpAnyH_done (by kernel_rfl) ?_ _
            clear HS
            go_wp2_with fail
            go_ret
            exact ⟨by first | rfl | trivial, HV5.out.k⟩
        · have c4I : ¬ (r : Int) = (which : Int) := by omega
          have c4B : ((r : Int) == (which : Int)) = false := by rw [beq_eq_false_iff_ne]; exact c4I
          have c4C : ((r : Int) != (which : Int)) = true := by rw [bne_iff_ne]; exact c4I
          have hbt : b = false := HD.out.2 (fun q => by have := (HW.out.1 q).2.2.2.1; omega)
          subst hbt
          go_wp2_with fail
          go_ret
          exact ⟨rfl, HV3.out.k⟩
      · have c3I : (4611686018427387904 : Int) < (N : Int) := by omega
        have hbt : b = false := HD.out.2 (fun q => c3 (HW.out.1 q).2.2.1)
        subst hbt
        go_wp2_with fail
        go_ret
        exact ⟨rfl, HV3.out.k⟩
    · have c2I : (N : Int) < 1 := by omega
      have hbt : b = false := HD.out.2 (fun q => c2 (HW.out.1 q).2.1)
      subst hbt
      go_wp2_with fail
      go_ret
      exact ⟨rfl, HV3.out.k⟩
  · have c1I : ¬ (N : Int) = (L : Int) := by omega
    have c1B : ((N : Int) == (L : Int)) = false := by rw [beq_eq_false_iff_ne]; exact c1I
    have c1C : ((N : Int) != (L : Int)) = true := by rw [bne_iff_ne]; exact c1I
    have hbt : b = false := HD.out.2 (fun q => c1 (HW.out.1 q).1)
    subst hbt
    go_wp2_with fail
    go_ret
    exact ⟨rfl, HV3.out.k⟩
end Go.Proofs.YthnpdcblfocemaaGreatDoor
set_option linter.unusedVariables false
set_option linter.unusedSimpArgs false
namespace Go.Proofs.YthnpdcblfocemaaGreatDoor
open Go.RowKit

def wr15 (u : Nat × List Nat) : List Value := .int .i64 ((u.1 : Nat) : Int) :: b8 u.2
def wcs (un : List (Nat × List Nat)) : List Value := un.flatMap wr15
theorem wcs_app (a b : List (Nat × List Nat)) : wcs (a ++ b) = wcs a ++ wcs b := by unfold wcs; rw [List.flatMap_append]
theorem wr15_len {u : Nat × List Nat} (h : u.2.length = 128) : (wr15 u).length = 129 := by unfold wr15; rw [List.length_cons, b8_len, h]
theorem wr15_one (u : Nat × List Nat) : ∀ v ∈ wr15 u, v.oneCell' = true := by
  intro v hv
  rcases List.mem_cons.1 hv with rfl | q
  · rfl
  · exact b8_one _ v q
theorem wcs_get : ∀ (un : List (Nat × List Nat)), (∀ u ∈ un, u.2.length = 128) → ∀ k j, k < un.length → j < 129 → (wcs un)[k * 129 + j]? = (wr15 (un.getD k (0, [])))[j]? := by
  intro un
  induction un with
  | nil => intro _ k j hk; simp at hk
  | cons u un ih =>
    intro h k j hk hj
    have hl := wr15_len (h u (by simp))
    have e : wcs (u :: un) = wr15 u ++ wcs un := rfl
    rw [e]
    cases k with
    | zero =>
      rw [List.getElem?_append_left (by omega)]
      simp
    | succ k =>
      rw [List.getElem?_append_right (by omega), hl, show (k + 1) * 129 + j - 129 = k * 129 + j by omega, ih (fun x hx => h x (by simp [hx])) k j (by simpa using hk) hj]
      simp
structure Pd (w : World) (d M : Nat) (vU : Value) (L : Int) (F : Nat → Prop) (s : Dsk) : Prop where
  ok : OkD s
  lt : ∀ k, F k → k < w.heap.size
  fd : F d
  fM : F M
  gU : ∀ g, vU.ownBlock = some g → F g ∧ g ≠ d ∧ g ≠ M
  dM : d ≠ M
  n1 : 1 ≤ s.bl.length
  n2 : s.bl.length ≤ 16384
  c0 : w.cell? ⟨d, 0, none⟩ = some (.int .i64 ((s.bl.length : Nat) : Int))
  c1 : w.cell? ⟨d, 1, none⟩ = some (.map (some M))
  c2 : w.cell? ⟨d, 2, none⟩ = some vU
  c3 : w.cell? ⟨d, 3, none⟩ = some (.int .i64 L)
  c4 : w.cell? ⟨d, 4, none⟩ = some (.bool s.dn)
  f0 : ∀ k, k < 5 → w.frozen? ⟨d, k, none⟩ = false
  rU : w.ownsRow 0 94 129 vU s.un.length (wcs s.un)
  mz : Mz w M s.bl
  ar : s.ar = decide (0 ≤ L)
  lf : s.ar = true → L = s.lf
  b64 : Bd64 L
def PD (w : World) (p : Value) (F : Nat → Prop) (s : Dsk) : Prop := ∃ (d M : Nat) (vU : Value) (L : Int), p = .pointer (some ⟨d, 0, none⟩) ∧ Pd w d M vU L F s
theorem Pd.kept {w w' : World} {d M : Nat} {vU : Value} {L : Int} {F : Nat → Prop} {s : Dsk} (h : Pd w d M vU L F s) (k : ∀ k, F k → w'.heap[k]? = w.heap[k]?) (hs : w.heap.size ≤ w'.heap.size) : Pd w' d M vU L F s :=
  ⟨h.ok, fun i hi => Nat.lt_of_lt_of_le (h.lt i hi) hs, h.fd, h.fM, h.gU, h.dM, h.n1, h.n2, cell_blk5 (k d h.fd) h.c0, cell_blk5 (k d h.fd) h.c1, cell_blk5 (k d h.fd) h.c2, cell_blk5 (k d h.fd) h.c3, cell_blk5 (k d h.fd) h.c4, fun i hi => frz_blk5 (k d h.fd) (h.f0 i hi), own_block16 h.rU (fun g hg => k g (h.gU g hg).1), h.mz.kept (k M h.fM), h.ar, h.lf, h.b64⟩
theorem Pd.later {w w' : World} {d M : Nat} {vU : Value} {L : Int} {F : Nat → Prop} {s : Dsk} (h : Pd w d M vU L F s) (k : Below w.heap.size w w') : Pd w' d M vU L F s := h.kept (fun i hi => k.block i (h.lt i hi)) k.size
theorem Pd.sU {w : World} {d M : Nat} {vU : Value} {L : Int} {F : Nat → Prop} {s : Dsk} (h : Pd w d M vU L F s) : ∃ ad cap, vU = .slice ad s.un.length cap := own_sl h.rU
theorem Pd.box {w : World} {d M : Nat} {vU : Value} {L : Int} {F : Nat → Prop} {s : Dsk} (h : Pd w d M vU L F s) (j : Nat) (u : Value) : Mz (w.setCell ⟨d, j, none⟩ u) M s.bl ∧ (w.setCell ⟨d, j, none⟩ u).ownsRow 0 94 129 vU s.un.length (wcs s.un) ∧ (∀ k, k < 5 → (w.setCell ⟨d, j, none⟩ u).frozen? ⟨d, k, none⟩ = false) ∧ (∀ k, F k → k < (w.setCell ⟨d, j, none⟩ u).heap.size) :=
  ⟨h.mz.kept (out5 h.dM.symm), own_block16 h.rU (fun g hg => out5 (h.gU g hg).2.1), fun k hk => by rw [World.frozen?_setCell]; exact h.f0 k hk, fun k hk => by rw [World.size_setCell]; exact h.lt k hk⟩
theorem Pd.left {w : World} {d M : Nat} {vU : Value} {L : Int} {F : Nat → Prop} {s : Dsk} (h : Pd w d M vU L F s) (x y : Int) (hx : Bd64 x) (hy : 0 ≤ x → x = y) : Pd (w.setCell ⟨d, 3, none⟩ (.int .i64 x)) d M vU x F { s with ar := decide (0 ≤ x), lf := y } := by
  obtain ⟨b1, b2, b3, b4⟩ := h.box 3 (.int .i64 x)
  exact ⟨⟨h.ok.bl, h.ok.un⟩, b4, h.fd, h.fM, h.gU, h.dM, h.n1, h.n2, far5 h.c0 (by omega), far5 h.c1 (by omega), far5 h.c2 (by omega), same5 h.c3, far5 h.c4 (by omega), b3, b2, b1, rfl, fun q => hy (by simpa using q), hx⟩
theorem Pd.dn {w : World} {d M : Nat} {vU : Value} {L : Int} {F : Nat → Prop} {s : Dsk} (h : Pd w d M vU L F s) (x : Bool) : Pd (w.setCell ⟨d, 4, none⟩ (.bool x)) d M vU L F { s with dn := x } := by
  obtain ⟨b1, b2, b3, b4⟩ := h.box 4 (.bool x)
  exact ⟨⟨h.ok.bl, h.ok.un⟩, b4, h.fd, h.fM, h.gU, h.dM, h.n1, h.n2, far5 h.c0 (by omega), far5 h.c1 (by omega), far5 h.c2 (by omega), far5 h.c3 (by omega), same5 h.c4, b3, b2, b1, h.ar, h.lf, h.b64⟩
theorem Pd.nil {w : World} {d M : Nat} {vU : Value} {L : Int} {F : Nat → Prop} {s : Dsk} (h : Pd w d M vU L F s) : Pd (w.setCell ⟨d, 2, none⟩ (.slice none 0 0)) d M (.slice none 0 0) L F { s with un := [] } := by
  obtain ⟨b1, b2, b3, b4⟩ := h.box 2 (.slice none 0 0)
  exact ⟨⟨h.ok.bl, fun u hu => by cases hu⟩, b4, h.fd, h.fM, fun g hg => (by cases hg), h.dM, h.n1, h.n2, far5 h.c0 (by omega), far5 h.c1 (by omega), same5 h.c2, far5 h.c3 (by omega), far5 h.c4 (by omega), b3, World.ownsRow_nil _ _ _ _, b1, h.ar, h.lf, h.b64⟩
theorem Pd.map {w w' : World} {d M : Nat} {vU : Value} {L : Int} {F : Nat → Prop} {s : Dsk} (h : Pd w d M vU L F s) {bl : List (List Nat)} (hm : Mz w' M bl) (hk : Kp (fun k => k = M) w w') (hl : bl.length = s.bl.length) (ho : ∀ b ∈ bl, okb b) : Pd w' d M vU L F { s with bl := bl } := by
  have hb : ∀ k, F k → k ≠ M → w'.heap[k]? = w.heap[k]? := fun k hF hn => hk.block k (h.lt k hF) hn
  have hd := hb d h.fd h.dM
  refine ⟨⟨ho, fun u hu => ?_⟩, fun i hi => Nat.lt_of_lt_of_le (h.lt i hi) hk.size, h.fd, h.fM, h.gU, h.dM, ?_, ?_, ?_, cell_blk5 hd h.c1, cell_blk5 hd h.c2, cell_blk5 hd h.c3, cell_blk5 hd h.c4, fun i hi => frz_blk5 hd (h.f0 i hi), own_block16 h.rU (fun g hg => hb g (h.gU g hg).1 (h.gU g hg).2.2), hm, h.ar, h.lf, h.b64⟩
  · show u.1 < bl.length ∧ okb u.2
    rw [hl]; exact h.ok.un u hu
  · show 1 ≤ bl.length
    rw [hl]; exact h.n1
  · show bl.length ≤ _
    rw [hl]; exact h.n2
  · show _ = some (Value.int .i64 ((bl.length : Nat) : Int))
    rw [hl]; exact cell_blk5 hd h.c0
theorem Pd.add {w w1 w2 : World} {d M : Nat} {vU vU' : Value} {L : Int} {F : Nat → Prop} {s : Dsk} (h : Pd w d M vU L F s) (k1 : Below w.heap.size w w1) (i : Nat) (t : List Nat) (hi : i < s.bl.length) (ht : okb t)
    (hown : w2.ownsRow 0 94 129 vU' (s.un.length + 1) (wcs s.un ++ wr15 (i, t))) (hg : w1.grownBy w2 vU.ownBlock) (hat : ∀ k, vU'.ownBlock = some k → vU.ownBlock = some k ∨ w1.heap.size ≤ k) :
    Pd (w2.setCell ⟨d, 2, none⟩ vU') d M vU' L (fun k => F k ∨ (w.heap.size ≤ k ∧ k < w2.heap.size)) { s with un := s.un ++ [(i, t)] } ∧ Kp F w (w2.setCell ⟨d, 2, none⟩ vU') := by
  have hs1 := k1.size
  have hs2 := hg.size
  have hold : ∀ g, vU.ownBlock = some g → g < w.heap.size := fun g q => (h.rU.lt g q).2
  have hnl : ∀ g, vU'.ownBlock = some g → g < w2.heap.size := fun g q => (hown.lt g q).2
  have k3 : ∀ k, k < w.heap.size → vU.ownBlock ≠ some k → w2.heap[k]? = w.heap[k]? := fun k hk hn => (hg.block k (by omega) (fun e => hn e.symm)).trans (k1.block k hk)
  have hud : vU.ownBlock ≠ some d := fun e => (h.gU d e).2.1 rfl
  have huM : vU.ownBlock ≠ some M := fun e => (h.gU M e).2.2 rfl
  have hbd := h.lt d h.fd
  have hbM := h.lt M h.fM
  have hdd := k3 d hbd hud
  have hud' : vU'.ownBlock ≠ some d := fun e => by
    rcases hat d e with q | q
    · exact hud q
    · omega
  refine ⟨⟨⟨h.ok.bl, fun u hu => ?_⟩, fun k hk => ?_, Or.inl h.fd, Or.inl h.fM, fun g hg' => ?_, h.dM, h.n1, h.n2, far5 (cell_blk5 (a := ⟨d, 0, none⟩) hdd h.c0) (by omega), far5 (cell_blk5 (a := ⟨d, 1, none⟩) hdd h.c1) (by omega), same5 (cell_blk5 (a := ⟨d, 2, none⟩) hdd h.c2), far5 (cell_blk5 (a := ⟨d, 3, none⟩) hdd h.c3) (by omega), far5 (cell_blk5 (a := ⟨d, 4, none⟩) hdd h.c4) (by omega), fun j hj => ?_, ?_, h.mz.kept ((out5 h.dM.symm).trans (k3 M hbM huM)), h.ar, h.lf, h.b64⟩, ?_⟩
  · rcases List.mem_append.1 hu with q | q
    · exact h.ok.un u q
    · obtain rfl : u = (i, t) := by simpa using q
      exact ⟨hi, ht⟩
  · rw [World.size_setCell]
    rcases hk with q | q
    · have := h.lt k q; omega
    · exact q.2
  · rcases hat g hg' with q | q
    · exact ⟨Or.inl (h.gU g q).1, (h.gU g q).2⟩
    · have := hnl g hg'
      exact ⟨Or.inr ⟨by omega, this⟩, by omega, by omega⟩
  · rw [World.frozen?_setCell]
    exact frz_blk5 (a := ⟨d, j, none⟩) hdd (h.f0 j hj)
  · show World.ownsRow _ _ _ _ _ (s.un ++ [(i, t)]).length (wcs (s.un ++ [(i, t)]))
    rw [List.length_append, wcs_app]
    have e : wcs [(i, t)] = wr15 (i, t) := by unfold wcs; simp
    rw [e]
    exact own_block16 hown (fun g hg' => out5 (fun e => hud' (by rw [← e]; exact hg')))
  · refine ⟨hg.os.trans k1.os, hg.tape.trans k1.tape, hg.output.trans k1.output, by rw [World.size_setCell]; omega, fun k hk hn => ?_⟩
    exact (out5 (fun e => hn (by rw [e]; exact h.fd))).trans (k3 k hk (fun e => hn (h.gU k e).1))
theorem PD.kept {w w' : World} {p : Value} {F : Nat → Prop} {s : Dsk} (h : PD w p F s) (k : ∀ k, F k → w'.heap[k]? = w.heap[k]?) (hs : w.heap.size ≤ w'.heap.size) : PD w' p F s := by
  obtain ⟨d, M, vU, L, e, h⟩ := h
  exact ⟨d, M, vU, L, e, h.kept k hs⟩
theorem PD.lt {w : World} {p : Value} {F : Nat → Prop} {s : Dsk} (h : PD w p F s) : ∀ k, F k → k < w.heap.size := by
  obtain ⟨d, M, vU, L, e, h⟩ := h
  exact h.lt
theorem PD.ok {w : World} {p : Value} {F : Nat → Prop} {s : Dsk} (h : PD w p F s) : OkD s := by
  obtain ⟨d, M, vU, L, e, h⟩ := h
  exact h.ok
set_option maxRecDepth 100000 in
set_option maxHeartbeats 4000000 in
theorem made_yes {w : World} {d M : Nat} {vU : Value} {L : Int} {F : Nat → Prop} {s : Dsk} (h : Pd w d M vU L F s) : Calls Tryz.prog 41 #[.pointer (some ⟨d, 0, none⟩)] w fun e w' => e = .returned (.bool true) ∧ w' = w := by
  have c0 := h.c0
  have n1 : 0 < s.bl.length := by have := h.n1; omega
  clear h
  generalize s.bl.length = n at *
  go_enter Tryz.func41, Tryz.ntmps41
  go_wp2
  go_ret
  exact ⟨rfl, rfl⟩
set_option maxRecDepth 100000 in
set_option maxHeartbeats 4000000 in
theorem has_any {w : World} {d M : Nat} {vU : Value} {L : Int} {F : Nat → Prop} {s : Dsk} (h : Pd w d M vU L F s) (i : Int) : Calls Tryz.prog 45 #[.pointer (some ⟨d, 0, none⟩), .int .i64 i] w fun e w' => e = .returned (.bool (decide (0 ≤ i ∧ i < (s.bl.length : Int)))) ∧ w' = w := by
  have c0 := h.c0
  clear h
  generalize s.bl.length = n at *
  by_cases q : 0 ≤ i
  · by_cases q2 : i < (n : Int)
    · have e : decide (0 ≤ i ∧ i < (n : Int)) = true := by simp [q, q2]
      rw [e]
      clear e
      go_enter Tryz.func45, Tryz.ntmps45
      go_wp2
      go_ret
      exact ⟨rfl, rfl⟩
    · have e : decide (0 ≤ i ∧ i < (n : Int)) = false := by simp [q2]
      rw [e]
      clear e
      go_enter Tryz.func45, Tryz.ntmps45
      go_wp2
      go_ret
      exact ⟨rfl, rfl⟩
  · have e : decide (0 ≤ i ∧ i < (n : Int)) = false := by simp [q]
    rw [e]
    clear e
    have q2 : i < 0 := by omega
    clear q
    go_enter Tryz.func45, Tryz.ntmps45
    go_wp2
    go_ret
    exact ⟨rfl, rfl⟩
set_option maxRecDepth 100000 in
set_option maxHeartbeats 4000000 in
theorem runs_yes {w : World} {d M : Nat} {vU : Value} {L : Int} {F : Nat → Prop} {s : Dsk} (h : Pd w d M vU L F s) : Calls Tryz.prog 90 #[.pointer (some ⟨d, 0, none⟩)] w fun e w' => e = .returned (.int .i64 ((if s.dn = true then 150 else 0 : Nat) : Int)) ∧ w' = w := by
  have hm := made_yes h
  have c4 := h.c4
  clear h
  generalize s.dn = dn at *
  cases dn with
  | true =>
    go_enter Tryz.func90, Tryz.ntmps90
    go_wp2_with (go_at_call 41; refine hm.mono ?_; rintro e w' ⟨rfl, rfl⟩; clear hm)
    go_ret
    exact ⟨rfl, rfl⟩
  | false =>
    go_enter Tryz.func90, Tryz.ntmps90
    go_wp2_with (go_at_call 41; refine hm.mono ?_; rintro e w' ⟨rfl, rfl⟩; clear hm)
    go_ret
    exact ⟨rfl, rfl⟩
def Bxd (d M : Nat) (vU : Value) (F : Nat → Prop) (s : Dsk) (w w' : World) : Prop := ∃ L, Pd w' d M vU L F s ∧ Kp (fun k => k = d) w w'
def spE (s : Dsk) : Nat := if dGo s = true then 0 else 150
set_option maxRecDepth 100000 in
set_option maxHeartbeats 4000000 in
theorem spend_any {w : World} {d M : Nat} {vU : Value} {L : Int} {F : Nat → Prop} {s : Dsk} (h : Pd w d M vU L F s) : Calls Tryz.prog 91 #[.pointer (some ⟨d, 0, none⟩)] w fun e w' => e = .returned (.int .i64 ((spE s : Nat) : Int)) ∧ Bxd d M vU F (dGone s) w w' := by
  have c3 := h.c3
  have c4 := h.c4
  have f3 := h.f0 3 (by omega)
  have f4 := h.f0 4 (by omega)
  have HP : Hid (Pd w d M vU L F s) := h
  have hb := h.b64
  unfold Bd64 at hb
  by_cases q : L < 0
  · have ha : s.ar = false := by rw [h.ar]; simp; omega
    have HS : Hid (spE s = 0 ∧ dGone s = s) := by
      refine ⟨?_, ?_⟩
      · unfold spE dGo; rw [ha]; rfl
      · unfold dGone; rw [ha]; rfl
    have q1 : ¬ L = 0 := by omega
    have q2 : ¬ 0 < L := by omega
    clear h hb ha q
    go_enter Tryz.func91, Tryz.ntmps91
    go_wp2
    go_ret
    exact ⟨by rw [HS.out.1]; rfl, L, by rw [HS.out.2]; exact HP.out, Kp.refl _ _⟩
  · have ha : s.ar = true := by rw [h.ar]; simp; omega
    have hl := h.lf ha
    by_cases q0 : L = 0
    · subst q0
      have HS : Hid (spE s = 150 ∧ dGone s = { s with dn := true }) := by
        refine ⟨?_, ?_⟩
        · unfold spE dGo; rw [ha, ← hl]; rfl
        · unfold dGone; rw [if_pos ha, if_pos hl.symm]
      have HP2 := hid5 (HP.out.dn true)
      clear h hb ha q hl
      go_enter Tryz.func91, Tryz.ntmps91
      go_wp2
      go_ret
      exact ⟨by rw [HS.out.1]; rfl, 0, by rw [HS.out.2]; exact HP2.out, (Kp.refl (fun k => k = d) _).set (p := ⟨d, 4, none⟩) (Or.inl rfl) _⟩
    · have HS : Hid (spE s = 0 ∧ dGone s = { s with ar := decide (0 ≤ L - 1), lf := L - 1 }) := by
        refine ⟨?_, ?_⟩
        · unfold spE dGo; rw [ha, ← hl]; simp [q0]
        · unfold dGone
          rw [if_pos ha, if_neg (by omega), ← hl]
          have e : decide (0 ≤ L - 1) = s.ar := by rw [ha]; simp; omega
          rw [e]
      have hw : IntKind.i64.wrap (L - 1) = L - 1 := by rw [IntKind.wrap_i64]; omega
      have HP2 := hid5 (HP.out.left (L - 1) (L - 1) ⟨by omega, by omega⟩ (fun _ => rfl))
      have q2 : 0 < L := by omega
      clear h hb ha q hl
      go_enter Tryz.func91, Tryz.ntmps91
      go_wp2
      go_ret
      exact ⟨by rw [HS.out.1]; rfl, L - 1, by rw [HS.out.2]; exact HP2.out, (Kp.refl (fun k => k = d) _).set (p := ⟨d, 3, none⟩) (Or.inl rfl) _⟩
end Go.Proofs.YthnpdcblfocemaaGreatDoor
set_option linter.unusedVariables false
set_option linter.unusedSimpArgs false
namespace Go.Proofs.YthnpdcblfocemaaGreatDoor
open Go.RowKit
set_option maxRecDepth 100000 in
set_option maxHeartbeats 1000000 in
theorem clone_any (w : World) (v : Value) (l : List Nat) (h : Bs w v l) (hl : l.length ≤ 10000000) :
    Calls Tryz.prog 46 #[v] w fun e w' => ∃ v', e = .returned v' ∧ Ob w.heap.size w' v' l ∧ Below w.heap.size w w' := by
  obtain ⟨ad, cap, rfl, k1, k2⟩ := h.len
  have HL : Hid (Bs w (.slice ad l.length cap) l) := h
  have hnil : ∀ (a : Option Addr) (n c : Nat), (binOp .eql 30 (.slice a n c) (.slice none 0 0)).run Tryz.prog w = .ok (.bool a.isNone) w := fun a n c => Lib.run_eql_slice_nil w 30 5 a n c 0 0 Tryz.underlying30
  cases ad with
  | none =>
    obtain ⟨e0, e1⟩ := Ls.nil h
    obtain rfl : l = [] := List.eq_nil_of_length_eq_zero e0
    subst e1
    clear h
    go_enter Tryz.func46, Tryz.ntmps46
    go_wp2
    go_ret
    exact ⟨_, rfl, ob_nil _ _, Below.refl _ _⟩
  | some a =>
    clear h
    obtain ⟨n, hN⟩ : ∃ n, l.length = n := ⟨_, rfl⟩
    have HN : Hid (l.length = n) := hN
    rw [hN] at HL hl k1 ⊢
    clear hN
    have HO0 : Hid (Ob w.heap.size (w.alloc (.cells #[] 5)) (.slice (some ⟨w.heap.size, 0, none⟩) 0 0) []) := World.ownsRow_made w #[] 0 (Nat.le_refl _) (by unfold maxLen; omega) rfl
    go_enter Tryz.func46, Tryz.ntmps46
    go_wp2_with (at_builtin; refine apB rfl _ _ rfl w.heap.size _ [] rfl HO0.out _ l rfl (HL.out.later (bel1 _ _)) (by have := HN.out; simp; omega) (by simp) ?_; intro v2 w2 hO2 hg2; rw [List.nil_append] at hO2; obtain ⟨ad5, cap5, rfl⟩ := hO2.sl)
    go_ret
    exact ⟨_, rfl, hO2, hg2.1 _ (bel1 _ _)⟩
end Go.Proofs.YthnpdcblfocemaaGreatDoor
