/-
  Texts of this proof, joined: SnRefC.
-/
import Derived.Test.YthnpdcblfocemaaGreatDoorSP02
import Derived.Test.YthnpdcblfocemaaGreatDoorSP03
import Derived.Test.YthnpdcblfocemaaGreatDoorSP06
set_option linter.unusedVariables false
set_option linter.unusedSimpArgs false
namespace Go.Proofs.YthnpdcblfocemaaGreatDoor
open Go.RowKit

theorem okD_rb {s : Dsk} (h : OkD s) (hd : s.dn = false) (i : Nat) (hi : i < s.bl.length) : dAsk s (i : Int) = 0 ∧ okb (rb s i) := by
  have ha : dAsk s (i : Int) = 0 := by unfold dAsk; rw [hd, if_neg (by simp), if_neg (by omega)]
  refine ⟨ha, ?_⟩
  unfold rb rdB
  rw [if_neg (by omega)]
  have e : ((i : Int)).toNat = i := rfl
  rw [e]
  have key : ∀ (un : List (Nat × List Nat)) (d : List Nat), okb d → (∀ u ∈ un, okb u.2) → okb (lastU un i d) := by
    intro un
    induction un with
    | nil => intro d h _; exact h
    | cons u un ih =>
      intro d h1 h2
      unfold lastU
      rw [List.foldl_cons]
      refine ih _ ?_ (fun x hx => h2 x (by simp [hx]))
      split
      · exact h2 u (by simp)
      · exact h1
  exact key _ _ (getD_ok h.bl hi) (fun u hu => (h.un u hu).2)
theorem bs_cut {w : World} {b o n cap : Nat} {l : List Nat} (h : Bs w (.slice (some ⟨b, o, none⟩) n cap) l) (p q : Nat) (h1 : p ≤ q) (h2 : q ≤ l.length) : Bs w (.slice (some ⟨b, o + p, none⟩) (q - p) (cap - p)) ((l.drop p).take (q - p)) := by
  obtain ⟨adr, c, b', o', e, h3, h4, h5, h6⟩ := h
  injection e with e1 e2 e3
  subst e1 e3
  have hl : ((l.drop p).take (q - p)).length = q - p := by rw [List.length_take, List.length_drop]; omega
  refine ⟨_, cap - p, b, o + p, by rw [hl], by omega, ⟨by omega, fun e => by cases e⟩, fun _ => rfl, fun k hk => ?_⟩
  rw [hl] at hk
  have e5 := h5 (by omega)
  cases e5
  have := h6 (p + k) (by omega)
  rw [Nat.add_assoc, this]
  unfold b8f
  congr 3
  simp [List.getD, List.getElem?_take, List.getElem?_drop, hk]
theorem bs_takeS {w : World} {ad : Option Addr} {n cap : Nat} {l : List Nat} (h : Bs w (.slice ad n cap) l) (q : Nat) (hq : q ≤ l.length) : Bs w (.slice ad q cap) (l.take q) := by
  obtain ⟨adr, c, b, o, e, h3, h4, h5, h6⟩ := h
  injection e with e1 e2 e3
  subst e1 e3
  have hl : (l.take q).length = q := by rw [List.length_take]; omega
  refine ⟨_, cap, b, o, by rw [hl], by omega, h4, fun hp => h5 (by omega), fun k hk => ?_⟩
  rw [hl] at hk
  rw [h6 k (by omega)]
  unfold b8f
  congr 3
  simp [List.getD, List.getElem?_take, hk]
theorem bs_nilS (w : World) : Bs w (.slice none 0 0) [] := (ob_nil w.heap.size w).bs.1
theorem ow_nilS (B : Nat) : Ow B (.slice none 0 0) := fun a n cap e hn => by cases e
theorem sl_hS (w : World) (ad : Option Addr) (n cap q : Nat) (h2 : q ≤ cap) :
    (Instr.slice 30 (.slice ad n cap) none (some (.int .u64 (q : Int))) none).run Tryz.prog w = .ok (sv ad 0 q cap) w := by
  have ht : Tryz.prog.underlying 30 = some (.slice (Tryz.prog.elem 30)) := by kernel_rfl
  have hs : (sizeOf (Tryz.prog.elem 30)).run Tryz.prog w = .ok 1 w := by
    obtain ⟨i0, hti, hi0, hi1, hi2⟩ := byteInfo
    have e : Tryz.prog.elem 30 = 5 := by kernel_rfl
    rw [e]
    simp [sizeOf, typeInfo, hti, hi1]
  rw [run_slice_h w 30 ad n cap ht .u64 (q : Int) (by omega) (by omega), hs]
  simp [Result.andThen, sliced, sv]
theorem sv_owS {B : Nat} {ad : Option Addr} {n cap : Nat} (p q : Nat) (hq : q ≤ n) (h : Ow B (.slice ad n cap)) : Ow B (sv ad p q cap) := by
  intro a m c e hm
  unfold sv at e
  cases ad with
  | none => split at e <;> cases e
  | some d =>
    have hd := h d n cap rfl
    split at e
    · injection e with e1 e2 e3
      injection e1 with e1
      subst e1
      exact hd (by omega)
    · injection e with e1 e2 e3
      injection e1 with e1
      have hb : a.block = d.block := by
        rw [← e1]
        show (d.add p).block = d.block
        unfold Addr.add
        split <;> rfl
      rw [hb]
      exact hd (by omega)
theorem sdat_len {g : Nat → List Nat} {a j : Nat} (h : ∀ i, i < j → (g (a + 1 + i)).length = 128) : ((List.range j).flatMap fun i => g (a + 1 + i)).length = j * 128 := by
  induction j with
  | zero => rfl
  | succ j ih =>
    rw [List.range_succ, List.flatMap_append, List.length_append, ih (fun i hi => h i (by omega))]
    simp [h j (by omega)]
    omega
set_option maxRecDepth 100000 in
set_option maxHeartbeats 4000000 in
theorem refSlot {w : World} {p : Value} {F : Nat → Prop} {s : Dsk} (h : RD w p F s) (at_ room which : Nat) (hr : at_ + 2 * (room + 1) ≤ s.bl.length) (hbl : s.bl.length ≤ 1000) (hw : which < 2) (hu : s.un.length ≤ 100000) (hd : s.dn = false) :
    Calls Tryz.prog 52 #[.agg #[p, .int .i64 (at_ : Int), .int .i64 (room : Int)], .int .i64 (which : Int)] w fun e w' => ∃ v, e = .returned (.tuple #[v, .int .i64 (((slt (rb s) at_ room which).2 : Nat) : Int)]) ∧ Bs w' v (slt (rb s) at_ room which).1 ∧ Ow w.heap.size v ∧ Below w.heap.size w w' := by
  have HD : Hid (RD w p F s) := h
  have hp : ∃ b, p = .pointer (some ⟨b, 0, none⟩) := by obtain ⟨b, _, _, _, _, rfl, _⟩ := h; exact ⟨b, rfl⟩
  obtain ⟨b, rfl⟩ := hp
  have HU : Hid (s.un.length ≤ 100000 ∧ s.dn = false ∧ OkD s) := ⟨hu, hd, h.ok⟩
  obtain ⟨a, hA⟩ : ∃ a, slA at_ room which = a := ⟨_, rfl⟩
  have HA : Hid (slA at_ room which = a ∧ a + 1 + room ≤ s.bl.length) := ⟨hA, by have := slA_lt (i := room) hw hr (Nat.le_refl _); omega⟩
  have HRm : Hid (room * 128 ≤ 70000) := by show _ ≤ _; omega
  obtain ⟨R1, hR1⟩ : ∃ R1, room + 1 = R1 := ⟨_, rfl⟩
  obtain ⟨Y, hY⟩ : ∃ Y, which * R1 = Y := ⟨_, rfl⟩
  have hYle : Y ≤ R1 := by rw [← hY]; have : which = 0 ∨ which = 1 := by omega
                           rcases this with q | q <;> subst q <;> omega
  have hAe : at_ + Y = a := by rw [← hY, ← hR1]; exact hA
  have r1 : (room : Int) + 1 = (R1 : Int) := by omega
  have r2 : IntKind.i64.wrap (R1 : Int) = (R1 : Int) := by rw [IntKind.wrap_i64]; omega
  have r3 : (which : Int) * (R1 : Int) = (Y : Int) := by rw [← hY]; exact (Int.natCast_mul _ _).symm
  have r4 : IntKind.i64.wrap (Y : Int) = (Y : Int) := by rw [IntKind.wrap_i64]; omega
  have r5 : (at_ : Int) + (Y : Int) = (a : Int) := by omega
  have r6 : IntKind.i64.wrap (a : Int) = (a : Int) := by rw [IntKind.wrap_i64]; omega
  obtain ⟨wA, hwA⟩ : ∃ wA, wA = w.alloc (.cells #[.pointer (some ⟨b, 0, none⟩), .int .i64 (at_ : Int), .int .i64 (room : Int)] 57) := ⟨_, rfl⟩
  have HB : Hid (wA.cell? ⟨w.heap.size, 0, none⟩ = some (.pointer (some ⟨b, 0, none⟩)) ∧ wA.cell? ⟨w.heap.size, 1, none⟩ = some (.int .i64 (at_ : Int)) ∧ wA.cell? ⟨w.heap.size, 2, none⟩ = some (.int .i64 (room : Int)) ∧ Below w.heap.size w wA ∧ RD wA (.pointer (some ⟨b, 0, none⟩)) F s) := by
    rw [hwA]
    exact ⟨by simp [go_sem], by simp [go_sem], by simp [go_sem], bel1 _ _, h.later (bel1 _ _)⟩
  have x0 := HB.out.1
  have x1 := HB.out.2.1
  have x2 := HB.out.2.2.1
  clear h hu hd hA hR1 hY
  go_enter Tryz.func52, Tryz.ntmps52
  go_upto_region 1 with fail
  rw [← hwA]
  clear hwA
  go_wp2_with fail
  refine (refRead HB.out.2.2.2.2 (a : Int) HU.out.1).mono ?_
  rintro e wx ⟨v7, rfl, hL, hw7⟩
  have hw7 := hw7.symm
  subst hw7
  have HO : Hid (dAsk s (a : Int) = 0 ∧ okb (rb s a)) := okD_rb HU.out.2.2 HU.out.2.1 a (by have := HA.out.2; omega)
  rw [HO.out.1]
  have hL2 : Bs wA v7 (rb s a) := hL
  obtain ⟨h, hh⟩ : ∃ h, rb s a = h := ⟨_, rfl⟩
  have HH : Hid (rb s a = h ∧ h.length = 128 ∧ (∀ c ∈ h, c < 256)) := ⟨hh, by rw [← hh]; exact HO.out.2.1, by rw [← hh]; exact HO.out.2.2⟩
  rw [hh] at hL2
  obtain ⟨ad7, cap7, e7, l1, l2⟩ := hL2.len
  rw [HH.out.2.1] at e7 l1
  subst e7
  obtain ⟨b7, o7, rfl, -⟩ := hL2.cel 0 (by have := HH.out.2.1; omega)
  have HL : Hid (Bs wA (.slice (some ⟨b7, o7, none⟩) 128 cap7) h) := hL2
  have l1I : (128 : Int) ≤ (cap7 : Int) := by omega
  have l24 : (24 : Int) ≤ (cap7 : Int) := by omega
  have l20 : (20 : Int) ≤ (cap7 : Int) := by omega
  have g20 : ¬ cap7 = 20 := by omega
  have g16 : ¬ cap7 = 16 := by omega
  unfold maxLen at l2
  clear hL hL2 hh
  go_wp2_with fail
  have HB8 : Hid (Bs wA (.slice (some ⟨b7, o7, none⟩) 8 cap7) (h.take 8)) := bs_takeS HL.out 8 (by have := HH.out.2.1; omega)
  have e1 : deN (h.take 8) = gt h 0 8 := by unfold gt; rw [List.drop_zero]
  refine (refGet _ (h.take 8) (fun c hc => HH.out.2.2 c (List.mem_of_mem_take hc)) (by rw [List.length_take]; omega) wA HB8.out).mono ?_
  rintro e wx ⟨rfl, hwx⟩
  have hwx := hwx.symm
  subst hwx
  rw [e1]
  go_wp2_with fail
  have e2 : deN ((h.drop 8).take 8) = gt h 8 8 := rfl
  refine (refGet _ ((h.drop 8).take 8) (fun c hc => HH.out.2.2 c (List.mem_of_mem_drop (List.mem_of_mem_take hc))) (by rw [List.length_take]; omega) wA (bs_cut HL.out 8 16 (by omega) (by have := HH.out.2.1; omega))).mono ?_
  rintro e wx ⟨rfl, hwx⟩
  have hwx := hwx.symm
  subst hwx
  rw [e2]
  go_wp2_with fail
  have e3 : deN (h.drop 120) = gt h 120 8 := by unfold gt; rw [List.take_of_length_le (by rw [List.length_drop]; have := HH.out.2.1; omega)]
  have HB120 : Hid (Bs wA (.slice (some ⟨b7, o7 + 120, none⟩) 8 (cap7 - 120)) (h.drop 120)) := by
    have := bs_cut HL.out 120 128 (by omega) (by have := HH.out.2.1; omega)
    rw [List.take_of_length_le (by rw [List.length_drop]; have := HH.out.2.1; omega)] at this
    exact this
  refine (refGet _ (h.drop 120) (fun c hc => HH.out.2.2 c (List.mem_of_mem_drop hc)) (by rw [List.length_drop]; have := HH.out.2.1; omega) wA HB120.out).mono ?_
  rintro e wx ⟨rfl, hwx⟩
  have hwx := hwx.symm
  subst hwx
  rw [e3]
  clear e1 e2 e3 HB8 HB120
  have hgt : ∀ p, gt h p 8 < 18446744073709551616 := fun p => by
    unfold gt
    have h1 := deN_lt ((h.drop p).take 8) (fun c hc => HH.out.2.2 c (List.mem_of_mem_drop (List.mem_of_mem_take hc)))
    have h2 : (256 : Nat) ^ ((h.drop p).take 8).length ≤ 256 ^ 8 := Nat.pow_le_pow_right (by omega) (by rw [List.length_take]; omega)
    have h3 : (256 : Nat) ^ 8 = 18446744073709551616 := by decide
    omega
  have hN64 := hgt 0
  have hZ64 := hgt 8
  clear hgt
  have HWh : Hid (∀ N Z L, gt h 0 8 = N → gt h 8 8 = Z → gt h 120 8 = L → (whl h which room ↔ N = L ∧ 1 ≤ N ∧ N ≤ 4611686018427387904 ∧ N % 2 = which ∧ Z ≤ room * 128 ∧ gt h 20 4 = sm (h.take 20))) := fun N Z L q1 q2 q3 => by subst q1 q2 q3; exact Iff.rfl
  obtain ⟨N, hN⟩ : ∃ N, gt h 0 8 = N := ⟨_, rfl⟩
  obtain ⟨Z, hZ⟩ : ∃ Z, gt h 8 8 = Z := ⟨_, rfl⟩
  obtain ⟨L, hL⟩ : ∃ L, gt h 120 8 = L := ⟨_, rfl⟩
  have HW : Hid (whl h which room ↔ N = L ∧ 1 ≤ N ∧ N ≤ 4611686018427387904 ∧ N % 2 = which ∧ Z ≤ room * 128 ∧ gt h 20 4 = sm (h.take 20)) := HWh.out N Z L hN hZ hL
  have HNZ : Hid (gt h 0 8 = N ∧ gt h 8 8 = Z) := ⟨hN, hZ⟩
  rw [hN, hZ, hL]
  rw [hN] at hN64
  rw [hZ] at hZ64
  clear hN hZ hL HWh
  by_cases c1 : N = L
  · subst c1
    have HW0 : Hid (whl h which room ↔ 1 ≤ N ∧ N ≤ 4611686018427387904 ∧ N % 2 = which ∧ Z ≤ room * 128 ∧ gt h 20 4 = sm (h.take 20)) := ⟨fun q => (HW.out.1 q).2, fun q => HW.out.2 ⟨rfl, q⟩⟩
    clear HW
    have HW := HW0
    clear HW0
    by_cases c2 : 1 ≤ N
    · have c2I : ¬ (N : Int) < 1 := by omega
      by_cases c3 : N ≤ 4611686018427387904
      · have c3I : ¬ (4611686018427387904 : Int) < (N : Int) := by omega
        obtain ⟨r, hr⟩ : ∃ r, N % 2 = r := ⟨_, rfl⟩
        have t1 : (N : Int).tmod 2 = (r : Int) := by rw [Int.tmod_eq_emod_of_nonneg (by omega)]; omega
        have t2 : IntKind.u64.wrap (r : Int) = (r : Int) := by rw [IntKind.wrap_u64]; omega
        have t3 : IntKind.i64.wrap (r : Int) = (r : Int) := by rw [IntKind.wrap_i64]; omega
        by_cases c4 : r = which
        · subst c4
          have HWr : Hid (slA at_ room r = a) := HA.out.1
          obtain ⟨M, hM⟩ : ∃ M, room * 128 = M := ⟨_, rfl⟩
          have m1 : (room : Int) * 128 = (M : Int) := by omega
          have m2 : IntKind.i64.wrap (M : Int) = (M : Int) := by rw [IntKind.wrap_i64]; omega
          have m3 : IntKind.u64.wrap (M : Int) = (M : Int) := by rw [IntKind.wrap_u64]; omega
          go_upto_region 7 with fail
          have HBd : Hid (wA.drew.cell? ⟨w.heap.size, 0, none⟩ = some (.pointer (some ⟨b, 0, none⟩)) ∧ wA.drew.cell? ⟨w.heap.size, 2, none⟩ = some (.int .i64 (room : Int)) ∧ Below w.heap.size w wA.drew ∧ RD wA.drew (.pointer (some ⟨b, 0, none⟩)) F s ∧ Bs wA.drew (.slice (some ⟨b7, o7, none⟩) 128 cap7) h) := ⟨x0, x2, HB.out.2.2.2.1.drew, HB.out.2.2.2.2.later (Below.refl _ _).drew, HL.out.later (Below.refl _ _).drew⟩
          refine wp_region_held_drew (S := fun W => W.cell? ⟨w.heap.size, 2, none⟩ = some (.int .i64 (room : Int))) (by kernel_rfl) x2 (fun HS => ?_)
          clear HB HL x0 x1 x2 t1 t2 t3 r1 r2 r3 r4 r5 r6
          generalize wA.drew = q0 at *
          by_cases c5 : Z ≤ M
          · have c5I : ¬ (M : Int) < (Z : Int) := by omega
            refine wpAnyH_take (i := 0) (v := ?v1) rfl (by kernel_rfl) (by kernel_rfl) (by kernel_rfl) (fun _ _ _ h => h) (Or.inl ⟨by kernel_rfl, ?h1⟩) HS ?r1
            case h1 => (rintro w n0; go_simp) <;> with_reducible rfl
            try simp only [Act.put, List.getElem_toArray, List.getElem_cons_succ, List.getElem_cons_zero, List.setIfInBounds_toArray, List.set_cons_zero, List.set_cons_succ]
            refine wpAnyH_take (i := 1) (v := ?v2) rfl (by kernel_rfl) (by kernel_rfl) (by kernel_rfl) (fun _ _ _ h => h) (Or.inl ⟨by kernel_rfl, ?h2⟩) HS ?r2
            case h2 => (rintro w n0; go_simp) <;> with_reducible rfl
            try simp only [Act.put, List.getElem_toArray, List.getElem_cons_succ, List.getElem_cons_zero, List.setIfInBounds_toArray, List.set_cons_zero, List.set_cons_succ]
            refine wpAnyH_take (i := 2) (v := ?v3) rfl (by kernel_rfl) (by kernel_rfl) (by kernel_rfl) (fun _ _ _ h => h) (Or.inl ⟨by kernel_rfl, ?h3⟩) HS ?r3
            case h3 => (rintro w n0; go_simp) <;> with_reducible rfl
            try simp only [Act.put, List.getElem_toArray, List.getElem_cons_succ, List.getElem_cons_zero, List.setIfInBounds_toArray, List.set_cons_zero, List.set_cons_succ]
            refine wpAnyH_take (i := 3) (v := ?v4) rfl (by kernel_rfl) (by kernel_rfl) (by kernel_rfl) (fun _ _ _ h => h) (Or.inl ⟨by kernel_rfl, ?h4⟩) HS ?r4
            case h4 => (rintro w n0; go_simp) <;> with_reducible rfl
            try simp only [Act.put, List.getElem_toArray, List.getElem_cons_succ, List.getElem_cons_zero, List.setIfInBounds_toArray, List.set_cons_zero, List.set_cons_succ]
            refine wpAnyH_take (i := 4) (v := ?v5) rfl (by kernel_rfl) (by kernel_rfl) (by kernel_rfl) (fun _ _ _ h => h) (Or.inl ⟨by kernel_rfl, ?h5⟩) HS ?r5
            case h5 => (rintro w n0; go_simp) <;> with_reducible rfl
            try simp only [Act.put, List.getElem_toArray, List.getElem_cons_succ, List.getElem_cons_zero, List.setIfInBounds_toArray, List.set_cons_zero, List.set_cons_succ]
            refine wpAnyH_take (i := 5) (v := ?v6) rfl (by kernel_rfl) (by kernel_rfl) (by kernel_rfl) (fun _ _ _ h => h) (Or.inl ⟨by kernel_rfl, ?h6⟩) HS ?r6
            case h6 => (rintro w n0; go_simp) <;> with_reducible rfl
            try simp only [Act.put, List.getElem_toArray, List.getElem_cons_succ, List.getElem_cons_zero, List.setIfInBounds_toArray, List.set_cons_zero, List.set_cons_succ]
            refine wpAnyH_take (i := 6) (v := ?v7) rfl (by kernel_rfl) (by kernel_rfl) (by kernel_rfl) (fun _ _ _ h => h) (Or.inl ⟨by kernel_rfl, ?h7⟩) HS ?r7
            case h7 => (rintro w n0; go_simp) <;> with_reducible rfl
            try simp only [Act.put, List.getElem_toArray, List.getElem_cons_succ, List.getElem_cons_zero, List.setIfInBounds_toArray, List.set_cons_zero, List.set_cons_succ]
            refine wpAnyH_take (i := 7) (v := ?v8) rfl (by kernel_rfl) (by kernel_rfl) (by kernel_rfl) (fun _ _ _ h => h) (Or.inl ⟨by kernel_rfl, ?h8⟩) HS ?r8
            case h8 => (rintro w n0; go_simp) <;> with_reducible rfl
            try simp only [Act.put, List.getElem_toArray, List.getElem_cons_succ, List.getElem_cons_zero, List.setIfInBounds_toArray, List.set_cons_zero, List.set_cons_succ]
            refine wpAnyH_take (i := 8) (v := ?v9) rfl (by kernel_rfl) (by kernel_rfl) (by kernel_rfl) (fun _ _ _ h => h) (Or.inl ⟨by kernel_rfl, ?h9⟩) HS ?r9
            case h9 => (rintro w n0; go_simp) <;> with_reducible rfl
            try simp only [Act.put, List.getElem_toArray, List.getElem_cons_succ, List.getElem_cons_zero, List.setIfInBounds_toArray, List.set_cons_zero, List.set_cons_succ]
            refine wpAnyH_take (i := 10) (v := ?v10) rfl (by kernel_rfl) (by kernel_rfl) (by kernel_rfl) (fun _ _ _ h => h) (Or.inl ⟨by kernel_rfl, ?h10⟩) HS ?r10
            case h10 => (rintro w n0; go_simp) <;> with_reducible rfl
            try simp only [Act.put, List.getElem_toArray, List.getElem_cons_succ, List.getElem_cons_zero, List.setIfInBounds_toArray, List.set_cons_zero, List.set_cons_succ]
            refine wpAnyH_take (i := 11) (v := ?v11) rfl (by kernel_rfl) (by kernel_rfl) (by kernel_rfl) (fun _ _ _ h => h) (Or.inl ⟨by kernel_rfl, ?h11⟩) HS ?r11
            case h11 => (rintro w n0; go_simp) <;> with_reducible rfl
            try simp only [Act.put, List.getElem_toArray, List.getElem_cons_succ, List.getElem_cons_zero, List.setIfInBounds_toArray, List.set_cons_zero, List.set_cons_succ]
            refine wpAnyH_ready (rs := [9]) (by kernel_rfl) (by simp) ?_
            refine AllReadyH.cons rfl (fun K hK => ?_) AllReadyH.nil
            go_simp
            refine (refGet _ ((h.drop 20).take 4) (fun c hc => HH.out.2.2 c (List.mem_of_mem_drop (List.mem_of_mem_take hc))) (by rw [List.length_take]; omega) q0 (bs_cut HBd.out.2.2.2.2 20 24 (by omega) (by have := HH.out.2.1; omega))).mono ?_
            rintro e wx ⟨rfl, hwx⟩
            have hwx := hwx.symm
            subst hwx
            refine hK.out _ _ HS (fun HS => ?_)
            clear hK K
            try simp only [Act.put, List.getElem_toArray, List.getElem_cons_succ, List.getElem_cons_zero, List.setIfInBounds_toArray, List.set_cons_zero, List.set_cons_succ]
            refine wpAnyH_ready (rs := [12]) (by kernel_rfl) (by simp) ?_
            refine AllReadyH.cons rfl (fun K hK => ?_) AllReadyH.nil
            go_simp
            refine (refSum16 (h.take 20) (fun c hc => HH.out.2.2 c (List.mem_of_mem_take hc)) (by rw [List.length_take]; omega) _ q0 (bs_takeS HBd.out.2.2.2.2 20 (by have := HH.out.2.1; omega))).mono ?_
            rintro e q1 ⟨rfl, hb1⟩
            have HBe : Hid (q1.cell? ⟨w.heap.size, 0, none⟩ = some (.pointer (some ⟨b, 0, none⟩)) ∧ q1.cell? ⟨w.heap.size, 2, none⟩ = some (.int .i64 (room : Int)) ∧ Below w.heap.size w q1 ∧ RD q1 (.pointer (some ⟨b, 0, none⟩)) F s ∧ Bs q1 (.slice (some ⟨b7, o7, none⟩) 128 cap7) h) := ⟨cell_later hb1 HBd.out.1, cell_later hb1 HBd.out.2.1, bchain HBd.out.2.2.1 hb1, HBd.out.2.2.2.1.later hb1, HBd.out.2.2.2.2.later hb1⟩
            refine hK.out _ _ HBe.out.2.1 (fun HS => ?_)
            clear hK K hb1 HBd
            try simp only [Act.put, List.getElem_toArray, List.getElem_cons_succ, List.getElem_cons_zero, List.setIfInBounds_toArray, List.set_cons_zero, List.set_cons_succ]
            have e4 : deN ((h.drop 20).take 4) = gt h 20 4 := rfl
            rw [e4]
            have HW2 : Hid (∀ u v, gt h 20 4 = u → sm (h.take 20) = v → (whl h r room ↔ 1 ≤ N ∧ N ≤ 4611686018427387904 ∧ N % 2 = r ∧ Z ≤ room * 128 ∧ u = v)) := fun u v q1 q2 => by rw [← q1, ← q2]; exact HW.out
            obtain ⟨u, hu⟩ : ∃ u, gt h 20 4 = u := ⟨_, rfl⟩
            obtain ⟨v, hv⟩ : ∃ v, sm (h.take 20) = v := ⟨_, rfl⟩
            have HW3 := hid5 (HW2.out u v hu hv)
            rw [hu, hv]
            clear hu hv e4 HW2 HW
            by_cases c6 : u = v
            · subst c6
              refine wpAnyH_take (i := 13) (v := ?v12) rfl (by kernel_rfl) (by kernel_rfl) (by kernel_rfl) (fun _ _ _ h => h) (Or.inl ⟨by kernel_rfl, ?h12⟩) HS ?r12
              case h12 => (rintro w n0; go_simp) <;> with_reducible rfl
              try simp only [Act.put, List.getElem_toArray, List.getElem_cons_succ, List.getElem_cons_zero, List.setIfInBounds_toArray, List.set_cons_zero, List.set_cons_succ]
              refine wpAnyH_take (i := 14) (v := ?v13) rfl (by kernel_rfl) (by kernel_rfl) (by kernel_rfl) (fun _ _ _ h => h) (Or.inl ⟨by kernel_rfl, ?h13⟩) HS ?r13
              case h13 => (rintro w n0; go_simp) <;> with_reducible rfl
              try simp only [Act.put, List.getElem_toArray, List.getElem_cons_succ, List.getElem_cons_zero, List.setIfInBounds_toArray, List.set_cons_zero, List.set_cons_succ]
              refine wpAnyH_done (by kernel_rfl) ?_ _
              clear HS
              have HWy : Hid (whl h r room) := HW3.out.2 ⟨c2, c3, hr, by omega, rfl⟩
              clear HW3
              obtain ⟨HB, HBz⟩ : Hid (Below q1.heap.size q1 q1) ∧ True := ⟨Below.refl _ _, trivial⟩
              have HSz : Hid (w.heap.size < q1.heap.size) := World.block_lt_of_cell? _ _ HBe.out.1
              go_upto_region 11 with fail
              go_loopw [11, 12] (fun s11 s12 wr => ∃ j : Nat, j ≤ room ∧ s12 = .int .i64 (j : Int) ∧ Hid (Ob q1.heap.size wr s11 ((List.range j).flatMap fun i => rb s (a + 1 + i)) ∧ Below q1.heap.size q1 wr)) (fun _ s12 _ => room - (intOf s12).toNat)
              case atStart => exact ⟨0, by omega, rfl, ob_nil _ _, Below.refl _ _⟩
              case round =>
                obtain ⟨j, hj, rfl, HO⟩ := hrel
                obtain ⟨a5, c5', rfl⟩ := HO.out.1.sl
                have x0 := cell_later HO.out.2 HBe.out.1
                have x2 := cell_later HO.out.2 HBe.out.2.1
                have HLen : Hid (((List.range j).flatMap fun i => rb s (a + 1 + i)).length = j * 128) := sdat_len (fun i hi => (okD_rb HU.out.2.2 HU.out.2.1 _ (by have := HA.out.2; omega)).2.1)
                by_cases hlt : j < room
                · have hjI : (j : Int) < (room : Int) := by omega
                  have HOk : Hid (dAsk s ((a + 1 + j : Nat) : Int) = 0 ∧ okb (rb s (a + 1 + j))) := okD_rb HU.out.2.2 HU.out.2.1 _ (by have := HA.out.2; omega)
                  obtain ⟨A1, hA1⟩ : ∃ A1, a + 1 = A1 := ⟨_, rfl⟩
                  have hAb : a + 1 + room ≤ 1000 := by have := HA.out.2; omega
                  obtain ⟨A2, hA2⟩ : ∃ A2, A1 + j = A2 := ⟨_, rfl⟩
                  have q1' : (a : Int) + 1 = (A1 : Int) := by omega
                  have q2' : IntKind.i64.wrap (A1 : Int) = (A1 : Int) := by rw [IntKind.wrap_i64]; omega
                  have q3' : (A1 : Int) + (j : Int) = (A2 : Int) := by omega
                  have q4' : IntKind.i64.wrap (A2 : Int) = (A2 : Int) := by rw [IntKind.wrap_i64]; omega
                  have HA2 : Hid (a + 1 + j = A2) := by show _ = _; omega
                  rw [HA2.out] at HOk
                  have HN2 : Hid (((List.range (j + 1)).flatMap fun i => rb s (a + 1 + i)) = ((List.range j).flatMap fun i => rb s (a + 1 + i)) ++ rb s A2) := by
                    show _ = _
                    rw [List.range_succ, List.flatMap_append]
                    simp [HA2.out]
                  clear hA1 hA2 hAb
                  go_wp2_with fail
                  refine (refRead (HBe.out.2.2.2.1.later HO.out.2) (A2 : Int) HU.out.1).mono ?_
                  rintro e wx ⟨vb, rfl, hLb, hwx⟩
                  have hwx := hwx.symm
                  subst hwx
                  rw [HOk.out.1]
                  have HLb : Hid (Bs wr vb (rb s A2)) := hLb
                  obtain ⟨ab, cb, rfl, -, -⟩ := hLb.len
                  have hLn := HOk.out.2.1
                  generalize hln : (rb s A2).length = ln at *
                  generalize ((List.range j).flatMap fun i => rb s (a + 1 + i)) = D at *
                  clear hLb
                  have HLn : Hid (D.length = j * 128 ∧ (rb s A2).length = 128) := ⟨HLen.out, by omega⟩
                  clear hLn hln
                  generalize hDl : D.length = dl at *
                  go_wp2_with (at_builtin; refine apB rfl _ _ rfl q1.heap.size _ D rfl HO.out.1 _ (rb s A2) rfl HLb.out (by have := HLn.out; omega) HO.out.2.size ?_; intro v6 w6 hO6 hg6; have HO6 : Hid (Ob q1.heap.size w6 v6 (((List.range (j + 1)).flatMap fun i => rb s (a + 1 + i))) ∧ Below q1.heap.size q1 w6) := ⟨by rw [HN2.out]; exact hO6, hg6.1 _ HO.out.2⟩; clear hO6 hg6)
                  go_roundw
                  case rel => exact ⟨j + 1, by omega, by go_num, HO6⟩
                  case measure => simp [intOf]; omega
                · obtain rfl : j = room := by omega
                  have hjI : ¬ (j : Int) < (j : Int) := by omega
                  have hLe := HLen.out
                  have HDe : Hid (((List.range j).flatMap fun i => rb s (a + 1 + i)) = sdat (rb s) a j) := rfl
                  rw [HDe.out] at HO hLe ⊢
                  clear HDe HLen
                  obtain ⟨D, hD⟩ : ∃ D, sdat (rb s) a j = D := ⟨_, rfl⟩
                  rw [hD] at HO hLe ⊢
                  have HDd : Hid (sdat (rb s) a j = D) := hD
                  have HYt : Hid (∀ c ∈ D, c < 256) := by
                    show ∀ c ∈ D, c < 256
                    rw [← hD]
                    intro c hc
                    unfold sdat at hc
                    obtain ⟨i, hi, hc⟩ := List.mem_flatMap.1 hc
                    exact (okD_rb HU.out.2.2 HU.out.2.1 _ (by have := List.mem_range.1 hi; have := HA.out.2; omega)).2.2 c hc
                  clear hD
                  have hs1 := sl_hS wr a5 D.length c5' Z
                  have hD1 := HO.out.1.bs
                  obtain ⟨-, capD, eD, lD1, lD2⟩ : True ∧ ∃ cap, c5' = cap ∧ D.length ≤ cap ∧ cap ≤ maxLen := by
                    obtain ⟨ad', cap', e, h1, h2⟩ := hD1.1.len
                    cases e
                    exact ⟨trivial, _, rfl, h1, h2⟩
                  subst eD
                  have hs2 := hs1 (by omega)
                  have HP : Hid (Bs wr (sv a5 0 Z c5') (D.take Z) ∧ Ow q1.heap.size (sv a5 0 Z c5')) := by
                    have h1 := sv_bs hD1.1 0 Z (Nat.zero_le _) (by omega)
                    rw [List.drop_zero, Nat.sub_zero] at h1
                    exact ⟨h1, sv_owS 0 Z (by omega) hD1.2⟩
                  obtain ⟨aS, nS, cS, hsv⟩ : ∃ aS nS cS, sv a5 0 Z c5' = .slice aS nS cS := ⟨_, _, _, rfl⟩
                  rw [hsv] at hs2 HP
                  clear hs1 hD1 lD1 lD2 hsv
                  have hTl : (D.take Z).length ≤ 100000 := by rw [List.length_take]; have := HRm.out; omega
                  generalize hDl : D.length = dl at *
                  clear hDl hLe
                  go_upto_region 16 with fail
                  have HBf : Hid (Below w.heap.size w wr.drew ∧ Bs wr.drew (.slice (some ⟨b7, o7, none⟩) 128 cap7) h ∧ Bs wr.drew (.slice aS nS cS) (D.take Z)) := ⟨(HBe.out.2.2.1.trans (HO.out.2.mono (Nat.le_of_lt HSz.out))).drew, (HBe.out.2.2.2.2.later HO.out.2).later (Below.refl _ _).drew, HP.out.1.later (Below.refl _ _).drew⟩
                  refine wp_region_held_drew (S := fun _ => True) (by kernel_rfl) trivial (fun HS => ?_)
                  clear hs2 x0 x2
                  generalize wr.drew = q2 at *
                  refine wpAnyH_take (i := 0) (v := ?v14) rfl (by kernel_rfl) (by kernel_rfl) (by kernel_rfl) (fun _ _ _ h => h) (Or.inl ⟨by kernel_rfl, ?h14⟩) HS ?r14
                  case h14 => (rintro w n0; go_simp) <;> with_reducible rfl
                  try simp only [Act.put, List.getElem_toArray, List.getElem_cons_succ, List.getElem_cons_zero, List.setIfInBounds_toArray, List.set_cons_zero, List.set_cons_succ]
                  refine wpAnyH_take (i := 2) (v := ?v15) rfl (by kernel_rfl) (by kernel_rfl) (by kernel_rfl) (fun _ _ _ h => h) (Or.inl ⟨by kernel_rfl, ?h15⟩) HS ?r15
                  case h15 => (rintro w n0; go_simp) <;> with_reducible rfl
                  try simp only [Act.put, List.getElem_toArray, List.getElem_cons_succ, List.getElem_cons_zero, List.setIfInBounds_toArray, List.set_cons_zero, List.set_cons_succ]
                  refine wpAnyH_take (i := 3) (v := ?v16) rfl (by kernel_rfl) (by kernel_rfl) (by kernel_rfl) (fun _ _ _ h => h) (Or.inl ⟨by kernel_rfl, ?h16⟩) HS ?r16
                  case h16 => (rintro w n0; go_simp) <;> with_reducible rfl
                  try simp only [Act.put, List.getElem_toArray, List.getElem_cons_succ, List.getElem_cons_zero, List.setIfInBounds_toArray, List.set_cons_zero, List.set_cons_succ]
                  refine wpAnyH_ready (rs := [1]) (by kernel_rfl) (by simp) ?_
                  refine AllReadyH.cons rfl (fun K hK => ?_) AllReadyH.nil
                  go_simp
                  refine (refSum16 (D.take Z) (fun c hc => HYt.out c (List.mem_of_mem_take hc)) (by omega) _ q2 HBf.out.2.2).mono ?_
                  rintro e q3 ⟨rfl, hb3⟩
                  have HBg : Hid (Below w.heap.size w q3 ∧ Bs q3 (.slice (some ⟨b7, o7, none⟩) 128 cap7) h ∧ Bs q3 (.slice aS nS cS) (D.take Z)) := ⟨bchain HBf.out.1 hb3, HBf.out.2.1.later hb3, HBf.out.2.2.later hb3⟩
                  refine hK.out _ _ trivial (fun HS => ?_)
                  clear hK K hb3 HBf
                  try simp only [Act.put, List.getElem_toArray, List.getElem_cons_succ, List.getElem_cons_zero, List.setIfInBounds_toArray, List.set_cons_zero, List.set_cons_succ]
                  refine wpAnyH_ready (rs := [4]) (by kernel_rfl) (by simp) ?_
                  refine AllReadyH.cons rfl (fun K hK => ?_) AllReadyH.nil
                  go_simp
                  refine (refGet _ ((h.drop 16).take 4) (fun c hc => HH.out.2.2 c (List.mem_of_mem_drop (List.mem_of_mem_take hc))) (by rw [List.length_take]; omega) q3 (bs_cut HBg.out.2.1 16 20 (by omega) (by have := HH.out.2.1; omega))).mono ?_
                  rintro e wx ⟨rfl, hwx⟩
                  have hwx := hwx.symm
                  subst hwx
                  refine hK.out _ _ trivial (fun HS => ?_)
                  clear hK K
                  try simp only [Act.put, List.getElem_toArray, List.getElem_cons_succ, List.getElem_cons_zero, List.setIfInBounds_toArray, List.set_cons_zero, List.set_cons_succ]
                  have e5 : deN ((h.drop 16).take 4) = gt h 16 4 := rfl
                  rw [e5]
                  have HV2 : Hid (∀ u v, sm (D.take Z) = u → gt h 16 4 = v → slt (rb s) at_ j r = if u = v then (D.take Z, N) else ([], 0)) := fun u v q1 q2 => by
                    unfold slt
                    rw [HWr.out, HH.out.1, if_pos HWy.out, HNZ.out.1, HNZ.out.2, HDd.out, q1, q2]
                  obtain ⟨u2, hu2⟩ : ∃ u, sm (D.take Z) = u := ⟨_, rfl⟩
                  obtain ⟨v2, hv2⟩ : ∃ v, gt h 16 4 = v := ⟨_, rfl⟩
                  have HV3 := hid5 (HV2.out u2 v2 hu2 hv2)
                  rw [hu2, hv2]
                  clear hu2 hv2 e5 HV2
                  have k1 : IntKind.i64.wrap (N : Int) = (N : Int) := by rw [IntKind.wrap_i64]; omega
                  by_cases c7 : u2 = v2
                  · subst c7
                    have HV4 : Hid (slt (rb s) at_ j r = (D.take Z, N)) := by have := HV3.out; rw [if_pos rfl] at this; exact this
                    clear HV3
                    refine wpAnyH_take (i := 5) (v := ?v17) rfl (by kernel_rfl) (by kernel_rfl) (by kernel_rfl) (fun _ _ _ h => h) (Or.inl ⟨by kernel_rfl, ?h17⟩) HS ?r17
                    case h17 => (rintro w n0; go_simp) <;> with_reducible rfl
                    try simp only [Act.put, List.getElem_toArray, List.getElem_cons_succ, List.getElem_cons_zero, List.setIfInBounds_toArray, List.set_cons_zero, List.set_cons_succ]
                    refine wpAnyH_done (by kernel_rfl) ?_ _
                    clear HS
                    go_wp2
                    go_ret2
                    rw [HV4.out]
                    exact ⟨_, rfl, HBg.out.2.2, HP.out.2.low (Nat.le_of_lt HSz.out), HBg.out.1⟩
                  · have HV4 : Hid (slt (rb s) at_ j r = ([], 0)) := by have := HV3.out; rw [if_neg c7] at this; exact this
                    have c7I : ¬ (u2 : Int) = (v2 : Int) := by omega
                    clear HV3
                    refine wpAnyH_take (i := 5) (v := ?v18) rfl (by kernel_rfl) (by kernel_rfl) (by kernel_rfl) (fun _ _ _ h => h) (Or.inl ⟨by kernel_rfl, ?h18⟩) HS ?r18
                    case h18 => (rintro w n0; go_simp) <;> with_reducible rfl
                    try simp only [Act.put, List.getElem_toArray, List.getElem_cons_succ, List.getElem_cons_zero, List.setIfInBounds_toArray, List.set_cons_zero, List.set_cons_succ]
                    refine wpAnyH_done (by kernel_rfl) ?_ _
                    clear HS
                    go_wp2
                    go_ret2
                    rw [HV4.out]
                    exact ⟨.slice none 0 0, rfl, bs_nilS _, ow_nilS _, HBg.out.1⟩
            · have c6I : ¬ (u : Int) = (v : Int) := by omega
              refine wpAnyH_take (i := 13) (v := ?v19) rfl (by kernel_rfl) (by kernel_rfl) (by kernel_rfl) (fun _ _ _ h => h) (Or.inl ⟨by kernel_rfl, ?h19⟩) HS ?r19
              case h19 => (rintro w n0; go_simp) <;> with_reducible rfl
              try simp only [Act.put, List.getElem_toArray, List.getElem_cons_succ, List.getElem_cons_zero, List.setIfInBounds_toArray, List.set_cons_zero, List.set_cons_succ]
              refine wpAnyH_take (i := 14) (v := ?v20) rfl (by kernel_rfl) (by kernel_rfl) (by kernel_rfl) (fun _ _ _ h => h) (Or.inl ⟨by kernel_rfl, ?h20⟩) HS ?r20
              case h20 => (rintro w n0; go_simp) <;> with_reducible rfl
              try simp only [Act.put, List.getElem_toArray, List.getElem_cons_succ, List.getElem_cons_zero, List.setIfInBounds_toArray, List.set_cons_zero, List.set_cons_succ]
              refine wpAnyH_done (by kernel_rfl) ?_ _
              clear HS
              have HV : Hid (slt (rb s) at_ room r = ([], 0)) := by
                show _ = _
                unfold slt
                rw [HWr.out, HH.out.1, if_neg (fun q : whl h r room => c6 (HW3.out.1 q).2.2.2.2)]
              go_wp2
              go_ret2
              rw [HV.out]
              exact ⟨.slice none 0 0, rfl, bs_nilS _, ow_nilS _, HBe.out.2.2.1⟩
          · have c5I : (M : Int) < (Z : Int) := by omega
            refine wpAnyH_take (i := 0) (v := ?v21) rfl (by kernel_rfl) (by kernel_rfl) (by kernel_rfl) (fun _ _ _ h => h) (Or.inl ⟨by kernel_rfl, ?h21⟩) HS ?r21
            case h21 => (rintro w n0; go_simp) <;> with_reducible rfl
            try simp only [Act.put, List.getElem_toArray, List.getElem_cons_succ, List.getElem_cons_zero, List.setIfInBounds_toArray, List.set_cons_zero, List.set_cons_succ]
            refine wpAnyH_take (i := 1) (v := ?v22) rfl (by kernel_rfl) (by kernel_rfl) (by kernel_rfl) (fun _ _ _ h => h) (Or.inl ⟨by kernel_rfl, ?h22⟩) HS ?r22
            case h22 => (rintro w n0; go_simp) <;> with_reducible rfl
            try simp only [Act.put, List.getElem_toArray, List.getElem_cons_succ, List.getElem_cons_zero, List.setIfInBounds_toArray, List.set_cons_zero, List.set_cons_succ]
            refine wpAnyH_take (i := 2) (v := ?v23) rfl (by kernel_rfl) (by kernel_rfl) (by kernel_rfl) (fun _ _ _ h => h) (Or.inl ⟨by kernel_rfl, ?h23⟩) HS ?r23
            case h23 => (rintro w n0; go_simp) <;> with_reducible rfl
            try simp only [Act.put, List.getElem_toArray, List.getElem_cons_succ, List.getElem_cons_zero, List.setIfInBounds_toArray, List.set_cons_zero, List.set_cons_succ]
            refine wpAnyH_take (i := 3) (v := ?v24) rfl (by kernel_rfl) (by kernel_rfl) (by kernel_rfl) (fun _ _ _ h => h) (Or.inl ⟨by kernel_rfl, ?h24⟩) HS ?r24
            case h24 => (rintro w n0; go_simp) <;> with_reducible rfl
            try simp only [Act.put, List.getElem_toArray, List.getElem_cons_succ, List.getElem_cons_zero, List.setIfInBounds_toArray, List.set_cons_zero, List.set_cons_succ]
            refine wpAnyH_take (i := 4) (v := ?v25) rfl (by kernel_rfl) (by kernel_rfl) (by kernel_rfl) (fun _ _ _ h => h) (Or.inl ⟨by kernel_rfl, ?h25⟩) HS ?r25
            case h25 => (rintro w n0; go_simp) <;> with_reducible rfl
            try simp only [Act.put, List.getElem_toArray, List.getElem_cons_succ, List.getElem_cons_zero, List.setIfInBounds_toArray, List.set_cons_zero, List.set_cons_succ]
            refine wpAnyH_take (i := 5) (v := ?v26) rfl (by kernel_rfl) (by kernel_rfl) (by kernel_rfl) (fun _ _ _ h => h) (Or.inl ⟨by kernel_rfl, ?h26⟩) HS ?r26
            case h26 => (rintro w n0; go_simp) <;> with_reducible rfl
            try simp only [Act.put, List.getElem_toArray, List.getElem_cons_succ, List.getElem_cons_zero, List.setIfInBounds_toArray, List.set_cons_zero, List.set_cons_succ]
            refine wpAnyH_take (i := 6) (v := ?v27) rfl (by kernel_rfl) (by kernel_rfl) (by kernel_rfl) (fun _ _ _ h => h) (Or.inl ⟨by kernel_rfl, ?h27⟩) HS ?r27
            case h27 => (rintro w n0; go_simp) <;> with_reducible rfl
            try simp only [Act.put, List.getElem_toArray, List.getElem_cons_succ, List.getElem_cons_zero, List.setIfInBounds_toArray, List.set_cons_zero, List.set_cons_succ]
            refine wpAnyH_take (i := 7) (v := undef) rfl (by kernel_rfl) (by kernel_rfl) (by kernel_rfl) (fun _ _ _ h => h) (Or.inr ⟨by kernel_rfl, rfl⟩) HS ?_
            try simp only [Act.put, List.getElem_toArray, List.getElem_cons_succ, List.getElem_cons_zero, List.setIfInBounds_toArray, List.set_cons_zero, List.set_cons_succ]
            refine wpAnyH_take (i := 8) (v := undef) rfl (by kernel_rfl) (by kernel_rfl) (by kernel_rfl) (fun _ _ _ h => h) (Or.inr ⟨by kernel_rfl, rfl⟩) HS ?_
            try simp only [Act.put, List.getElem_toArray, List.getElem_cons_succ, List.getElem_cons_zero, List.setIfInBounds_toArray, List.set_cons_zero, List.set_cons_succ]
            refine wpAnyH_take (i := 9) (v := undef) rfl (by kernel_rfl) (by kernel_rfl) (by kernel_rfl) (fun _ _ _ h => h) (Or.inr ⟨by kernel_rfl, rfl⟩) HS ?_
            try simp only [Act.put, List.getElem_toArray, List.getElem_cons_succ, List.getElem_cons_zero, List.setIfInBounds_toArray, List.set_cons_zero, List.set_cons_succ]
            refine wpAnyH_take (i := 10) (v := undef) rfl (by kernel_rfl) (by kernel_rfl) (by kernel_rfl) (fun _ _ _ h => h) (Or.inr ⟨by kernel_rfl, rfl⟩) HS ?_
            try simp only [Act.put, List.getElem_toArray, List.getElem_cons_succ, List.getElem_cons_zero, List.setIfInBounds_toArray, List.set_cons_zero, List.set_cons_succ]
            refine wpAnyH_take (i := 11) (v := undef) rfl (by kernel_rfl) (by kernel_rfl) (by kernel_rfl) (fun _ _ _ h => h) (Or.inr ⟨by kernel_rfl, rfl⟩) HS ?_
            try simp only [Act.put, List.getElem_toArray, List.getElem_cons_succ, List.getElem_cons_zero, List.setIfInBounds_toArray, List.set_cons_zero, List.set_cons_succ]
            refine wpAnyH_take (i := 12) (v := undef) rfl (by kernel_rfl) (by kernel_rfl) (by kernel_rfl) (fun _ _ _ h => h) (Or.inr ⟨by kernel_rfl, rfl⟩) HS ?_
            try simp only [Act.put, List.getElem_toArray, List.getElem_cons_succ, List.getElem_cons_zero, List.setIfInBounds_toArray, List.set_cons_zero, List.set_cons_succ]
            refine wpAnyH_take (i := 13) (v := undef) rfl (by kernel_rfl) (by kernel_rfl) (by kernel_rfl) (fun _ _ _ h => h) (Or.inr ⟨by kernel_rfl, rfl⟩) HS ?_
            try simp only [Act.put, List.getElem_toArray, List.getElem_cons_succ, List.getElem_cons_zero, List.setIfInBounds_toArray, List.set_cons_zero, List.set_cons_succ]
            refine wpAnyH_take (i := 14) (v := ?v28) rfl (by kernel_rfl) (by kernel_rfl) (by kernel_rfl) (fun _ _ _ h => h) (Or.inl ⟨by kernel_rfl, ?h28⟩) HS ?r28
            case h28 => (rintro w n0; go_simp) <;> with_reducible rfl
            try simp only [Act.put, List.getElem_toArray, List.getElem_cons_succ, List.getElem_cons_zero, List.setIfInBounds_toArray, List.set_cons_zero, List.set_cons_succ]
            refine wpAnyH_done (by kernel_rfl) ?_ _
            clear HS
            have HV : Hid (slt (rb s) at_ room r = ([], 0)) := by
              show _ = _
              unfold slt
              rw [HWr.out, HH.out.1, if_neg (fun q : whl h r room => by have := (HW.out.1 q).2.2.2.1; omega)]
            go_wp2
            go_ret2
            rw [HV.out]
            exact ⟨.slice none 0 0, rfl, bs_nilS _, ow_nilS _, HBd.out.2.2.1⟩
        · have c4I : ¬ (r : Int) = (which : Int) := by omega
          have c4B : ((r : Int) == (which : Int)) = false := by rw [beq_eq_false_iff_ne]; exact c4I
          have c4C : ((r : Int) != (which : Int)) = true := by rw [bne_iff_ne]; exact c4I
          have HV : Hid (slt (rb s) at_ room which = ([], 0)) := by
            show _ = _
            unfold slt
            rw [HA.out.1, HH.out.1, if_neg (fun q : whl h which room => by have := (HW.out.1 q).2.2.1; omega)]
          have HBl : Hid (Below w.heap.size w wA) := HB.out.2.2.2.1
          go_wp2
          go_ret2
          rw [HV.out]
          exact ⟨.slice none 0 0, rfl, bs_nilS _, ow_nilS _, HBl.out⟩
      · have c3I : (4611686018427387904 : Int) < (N : Int) := by omega
        have HV : Hid (slt (rb s) at_ room which = ([], 0)) := by
          show _ = _
          unfold slt
          rw [HA.out.1, HH.out.1, if_neg (fun q : whl h which room => c3 (HW.out.1 q).2.1)]
        have HBl : Hid (Below w.heap.size w wA) := HB.out.2.2.2.1
        go_wp2
        go_ret2
        rw [HV.out]
        exact ⟨.slice none 0 0, rfl, bs_nilS _, ow_nilS _, HBl.out⟩
    · have c2I : (N : Int) < 1 := by omega
      have HV : Hid (slt (rb s) at_ room which = ([], 0)) := by
        show _ = _
        unfold slt
        rw [HA.out.1, HH.out.1, if_neg (fun q : whl h which room => c2 (HW.out.1 q).1)]
      have HBl : Hid (Below w.heap.size w wA) := HB.out.2.2.2.1
      go_wp2
      go_ret2
      rw [HV.out]
      exact ⟨.slice none 0 0, rfl, bs_nilS _, ow_nilS _, HBl.out⟩
  · have c1I : ¬ (N : Int) = (L : Int) := by omega
    have HV : Hid (slt (rb s) at_ room which = ([], 0)) := by
      show _ = _
      unfold slt
      rw [HA.out.1, HH.out.1, if_neg (fun q : whl h which room => c1 (HW.out.1 q).1)]
    have HBl : Hid (Below w.heap.size w wA) := HB.out.2.2.2.1
    go_wp2
    go_ret2
    rw [HV.out]
    exact ⟨.slice none 0 0, rfl, bs_nilS _, ow_nilS _, HBl.out⟩
end Go.Proofs.YthnpdcblfocemaaGreatDoor
