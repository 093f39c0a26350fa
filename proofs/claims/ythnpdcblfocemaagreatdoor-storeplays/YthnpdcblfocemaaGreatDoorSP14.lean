/-
  Texts of this proof, joined: SnRefE CDefs.
-/
import Derived.Test.YthnpdcblfocemaaGreatDoorSP02
import Derived.Test.YthnpdcblfocemaaGreatDoorSP08
set_option linter.unusedVariables false
set_option linter.unusedSimpArgs false
namespace Go.Proofs.YthnpdcblfocemaaGreatDoor
open Go.RowKit

theorem slt_max (B : Nat → List Nat) (at_ room which : Nat) : (slt B at_ room which).2 ≤ 4611686018427387904 := by
  unfold slt
  split
  · rename_i h
    split
    · exact h.2.2.1
    · exact Nat.zero_le _
  · exact Nat.zero_le _
theorem ldV_max (B : Nat → List Nat) (at_ room : Nat) : (ldV B at_ room).2.1 ≤ 4611686018427387904 ∧ (ldV B at_ room).2.2 ≠ 150 := by
  have h0 := slt_max B at_ room 0
  have h1 := slt_max B at_ room 1
  unfold ldV
  split
  · exact ⟨Nat.zero_le _, by simp⟩
  · split
    · exact ⟨h0, by simp⟩
    · exact ⟨h1, by simp⟩
theorem wrS_unS (s : Dsk) (i : Int) (b : List Nat) : (wrS s i b).un.length ≤ s.un.length + 1 ∧ (wrS s i b).bl.length = s.bl.length := by
  unfold wrS
  split
  · exact ⟨by omega, rfl⟩
  · rw [(dGone_bl _).1, (dGone_bl _).2]
    exact ⟨by simp, rfl⟩
theorem flS_unS (s : Dsk) : (flS s).un.length ≤ s.un.length := by
  unfold flS
  split
  · exact Nat.le_refl _
  · split
    · exact Nat.zero_le _
    · rw [(dGone_bl _).2]; exact Nat.le_refl _
theorem ck_part (d : List Nat) (j hi : Nat) (h : (hi = j * 128 + 128 ∧ hi ≤ d.length) ∨ (hi = d.length ∧ d.length < j * 128 + 128)) : (d.drop (j * 128)).take (hi - j * 128) = ck d j := by
  unfold ck
  rcases h with ⟨rfl, h⟩ | ⟨rfl, h⟩
  · rw [show j * 128 + 128 - j * 128 = 128 by omega]
  · rw [List.take_of_length_le (by rw [List.length_drop]; omega), List.take_of_length_le (by rw [List.length_drop]; omega)]
theorem ad_of {T : World → Value → (Nat → Prop) → Dsk → Prop} {p : Value} {F : Nat → Prop} {s : Dsk} {w w2 w' : World} (h : Ad T p F s w2 w') (k : Below w.heap.size w w2) : Ad T p F s w w' := ad_tr (fun _ h => Or.inl h) (Kp.of k) h
set_option maxRecDepth 100000 in
set_option maxHeartbeats 8000000 in
theorem refSave {w : World} {p : Value} {F : Nat → Prop} {s : Dsk} (h : RD w p F s) (at_ room : Nat) (hr : at_ + 2 * (room + 1) ≤ s.bl.length) (hbl : s.bl.length ≤ 1000) (v : Value) (d : List Nat) (hv : Bs w v d) (hn : Nf F v) (hb : ∀ c ∈ d, c < 256) (hdl : d.length ≤ 100000) (hu : s.un.length ≤ 400) :
    Calls Tryz.prog 39 #[.agg #[p, .int .i64 (at_ : Int), .int .i64 (room : Int)], v] w fun e w' => e = .returned (.tuple #[.int .i64 (((svR s at_ room d).1 : Nat) : Int), .int .i64 (((svR s at_ room d).2.1 : Nat) : Int)]) ∧ Ad RD p F (svR s at_ room d).2.2 w w' := by
  have HD : Hid (RD w p F s ∧ Bs w v d ∧ Nf F v ∧ (∀ c ∈ d, c < 256)) := ⟨h, hv, hn, hb⟩
  have hlt := h.lt
  obtain ⟨b, vB, vU, cs, ds, rfl, h5, -⟩ := h
  obtain ⟨ad, cap, rfl, l1, l2⟩ := hv.len
  unfold maxLen at l2
  have HDl : Hid (∃ u, d = u ∧ u.length ≤ 100000) := ⟨_, rfl, hdl⟩
  clear h5 hv hn hb
  obtain ⟨M, hM⟩ : ∃ M, room * 128 = M := ⟨_, rfl⟩
  have m1 : (room : Int) * 128 = (M : Int) := by omega
  have m2 : IntKind.i64.wrap (M : Int) = (M : Int) := by rw [IntKind.wrap_i64]; omega
  obtain ⟨wA, hwA⟩ : ∃ wA, wA = w.alloc (.cells #[.pointer (some ⟨b, 0, none⟩), .int .i64 (at_ : Int), .int .i64 (room : Int)] 57) := ⟨_, rfl⟩
  have HB : Hid (wA.cell? ⟨w.heap.size, 0, none⟩ = some (.pointer (some ⟨b, 0, none⟩)) ∧ wA.cell? ⟨w.heap.size, 1, none⟩ = some (.int .i64 (at_ : Int)) ∧ wA.cell? ⟨w.heap.size, 2, none⟩ = some (.int .i64 (room : Int)) ∧ Below w.heap.size w wA ∧ RD wA (.pointer (some ⟨b, 0, none⟩)) F s) := by
    rw [hwA]
    exact ⟨by simp [go_sem], by simp [go_sem], by simp [go_sem], bel1 _ _, HD.out.1.later (bel1 _ _)⟩
  have HNF : Hid (¬ F w.heap.size) := fun q => by have := hlt _ q; omega
  clear hlt
  have x0 := HB.out.1
  have x1 := HB.out.2.1
  have x2 := HB.out.2.2.1
  obtain ⟨len, hlen⟩ : ∃ len, d.length = len := ⟨_, rfl⟩
  have HLen : Hid (d.length = len) := hlen
  rw [hlen] at l1 hdl HD ⊢
  clear hlen
  by_cases g1 : M < len
  · have g1I : (M : Int) < (len : Int) := by omega
    have HV : Hid (svR s at_ room d = (0, 161, s)) := by show _ = _; unfold svR; rw [if_pos (by have := HLen.out; omega)]
    go_enter Tryz.func39, Tryz.ntmps39
    go_upto_region 1 with fail
    rw [← hwA]
    clear hwA
    go_wp2
    go_ret2
    rw [HV.out]
    exact ⟨rfl, ad_of (ad_same HB.out.2.2.2.2) HB.out.2.2.2.1⟩
  have g1I : ¬ (M : Int) < (len : Int) := by omega
  have C1 : Hid (Calls Tryz.prog 29 #[.agg #[.pointer (some ⟨b, 0, none⟩), .int .i64 (at_ : Int), .int .i64 (room : Int)]] wA fun e w' => ∃ v, e = .returned (.tuple #[v, .int .i64 (((ldW s at_ room).2.1 : Nat) : Int), .int .i64 (((ldW s at_ room).2.2 : Nat) : Int)]) ∧ Bs w' v (ldW s at_ room).1 ∧ Ow wA.heap.size v ∧ Below wA.heap.size wA w') := refLoad HB.out.2.2.2.2 at_ room hr hbl (by omega)
  go_enter Tryz.func39, Tryz.ntmps39
  go_upto_region 1 with fail
  rw [← hwA]
  clear hwA
  go_wp2_with fail
  refine C1.out.mono ?_
  rintro e w2 ⟨vl, rfl, hBl, -, hb2⟩
  obtain ⟨al, cl, rfl, -, -⟩ := hBl.len
  generalize (ldW s at_ room).1.length = ll at *
  have HB2 : Hid (Below w.heap.size w w2 ∧ RD w2 (.pointer (some ⟨b, 0, none⟩)) F s ∧ Bs w2 (.slice ad len cap) d) := ⟨bchain HB.out.2.2.2.1 hb2, HB.out.2.2.2.2.later hb2, HD.out.2.1.later (bchain HB.out.2.2.2.1 hb2)⟩
  replace x0 := cell_later hb2 x0
  replace x1 := cell_later hb2 x1
  replace x2 := cell_later hb2 x2
  clear hBl hb2 HB C1
  by_cases hdn : s.dn = true
  · have HV : Hid (svR s at_ room d = (0, 150, s)) := by show _ = _; unfold svR; rw [if_neg (by have := HLen.out; omega), if_pos hdn]
    have HW : Hid (ldW s at_ room = ([], 0, 150)) := by show _ = _; unfold ldW; rw [if_pos hdn]
    rw [HW.out]
    dsimp only
    go_wp2
    go_ret2
    rw [HV.out]
    exact ⟨rfl, ad_of (ad_same HB2.out.2.1) HB2.out.1⟩
  have HVn : Hid (svR s at_ room d = svN s at_ room ((ldV (rb s) at_ room).2.1 + 1) d) := by show _ = _; unfold svR; rw [if_neg (by have := HLen.out; omega), if_neg hdn]
  have HW : Hid (ldW s at_ room = ldV (rb s) at_ room) := by show _ = _; unfold ldW; rw [if_neg hdn]
  rw [HW.out]
  obtain ⟨n, hn⟩ : ∃ n, (ldV (rb s) at_ room).2.1 = n := ⟨_, rfl⟩
  obtain ⟨e0, he0⟩ : ∃ e0, (ldV (rb s) at_ room).2.2 = e0 := ⟨_, rfl⟩
  have hmx := ldV_max (rb s) at_ room
  rw [hn, he0] at hmx
  rw [hn] at HVn
  rw [hn, he0]
  obtain ⟨hmx1, hmx2⟩ := hmx
  have e0I : ¬ (e0 : Int) = 150 := by omega
  have e0B : ((e0 : Int) == 150) = false := by rw [beq_eq_false_iff_ne]; exact e0I
  obtain ⟨n1, hn1⟩ : ∃ n1, n + 1 = n1 := ⟨_, rfl⟩
  rw [hn1] at HVn
  have k1 : (n : Int) + 1 = (n1 : Int) := by omega
  have k2 : IntKind.i64.wrap (n1 : Int) = (n1 : Int) := by rw [IntKind.wrap_i64]; omega
  clear hn he0 HW hdn hmx2
  by_cases g2 : 4611686018427387904 < n1
  · have g2I : (4611686018427387904 : Int) < (n1 : Int) := by omega
    have HV : Hid (svR s at_ room d = (0, 3, s)) := by show _ = _; rw [HVn.out]; unfold svN; rw [if_pos g2]
    go_wp2
    go_ret2
    rw [HV.out]
    exact ⟨rfl, ad_of (ad_same HB2.out.2.1) HB2.out.1⟩
  have g2I : ¬ (4611686018427387904 : Int) < (n1 : Int) := by omega
  obtain ⟨r, hrr⟩ : ∃ r, n1 % 2 = r := ⟨_, rfl⟩
  obtain ⟨a, hA⟩ : ∃ a, slA at_ room r = a := ⟨_, rfl⟩
  obtain ⟨cnt, hcnt⟩ : ∃ cnt, (len + 127) / 128 = cnt := ⟨_, rfl⟩
  have HV : Hid (svR s at_ room d = svF a n1 d (svW a d cnt 0 s)) := by
    show _ = _
    rw [HVn.out]
    unfold svN
    rw [if_neg g2, hrr, HLen.out, hcnt, hA]
  have hr2 : r < 2 := by omega
  have hAb : a + 1 + room ≤ s.bl.length := by have := slA_lt (i := room) hr2 hr (Nat.le_refl _); omega
  obtain ⟨R1, hR1⟩ : ∃ R1, room + 1 = R1 := ⟨_, rfl⟩
  obtain ⟨Y, hY⟩ : ∃ Y, r * R1 = Y := ⟨_, rfl⟩
  have hYle : Y ≤ R1 := by rw [← hY]; have : r = 0 ∨ r = 1 := by omega
                           rcases this with q | q <;> rw [q] <;> omega
  have hAe : at_ + Y = a := by rw [← hY, ← hR1]; exact hA
  have r0 : (n1 : Int).tmod 2 = (r : Int) := by rw [Int.tmod_eq_emod_of_nonneg (by omega)]; omega
  have r0' : IntKind.i64.wrap (r : Int) = (r : Int) := by rw [IntKind.wrap_i64]; omega
  have r1 : (room : Int) + 1 = (R1 : Int) := by omega
  have r2 : IntKind.i64.wrap (R1 : Int) = (R1 : Int) := by rw [IntKind.wrap_i64]; omega
  have r3 : (r : Int) * (R1 : Int) = (Y : Int) := by rw [← hY]; exact (Int.natCast_mul _ _).symm
  have r4 : IntKind.i64.wrap (Y : Int) = (Y : Int) := by rw [IntKind.wrap_i64]; omega
  have r5 : (at_ : Int) + (Y : Int) = (a : Int) := by omega
  have r6 : IntKind.i64.wrap (a : Int) = (a : Int) := by rw [IntKind.wrap_i64]; omega
  have hcr : cnt ≤ room := by omega
  have HC : Hid (∀ W s', Ad RD (.pointer (some ⟨b, 0, none⟩)) F s' w2 W → W.cell? ⟨w.heap.size, 0, none⟩ = some (.pointer (some ⟨b, 0, none⟩)) ∧ W.cell? ⟨w.heap.size, 1, none⟩ = some (.int .i64 (at_ : Int)) ∧ W.cell? ⟨w.heap.size, 2, none⟩ = some (.int .i64 (room : Int)) ∧ Bs W (.slice ad len cap) d) := fun W s' q => by
    obtain ⟨F', -, -, k⟩ := q
    exact ⟨k.cell (a := ⟨w.heap.size, 0, none⟩) HNF.out x0, k.cell (a := ⟨w.heap.size, 1, none⟩) HNF.out x1, k.cell (a := ⟨w.heap.size, 2, none⟩) HNF.out x2, k.bs HB2.out.2.2 HD.out.2.2.1⟩
  go_upto_region 11 with fail
  clear x0 x1 x2 hA hY hrr HVn r0 r0' r1 r2 r3 r4 r5 k1 k2 g1I g2I e0I m1 m2
  go_loopw [10] (fun s10 wr => ∃ j : Nat, j ≤ cnt ∧ s10 = .int .i64 (j : Int) ∧ Hid (∃ s' : Dsk, (svW a d cnt 0 s = svW a d (cnt - j) j s' ∧ s'.un.length ≤ s.un.length + j) ∧ Ad RD (.pointer (some ⟨b, 0, none⟩)) F s' w2 wr)) (fun s10 _ => cnt - (intOf s10).toNat)
  case atStart => exact ⟨0, by omega, rfl, s, ⟨by rw [Nat.sub_zero], by omega⟩, ad_same HB2.out.2.1⟩
  case round =>
    obtain ⟨j, hj, rfl, HJ⟩ := hrel
    obtain ⟨s', hS, hA⟩ := HJ.out
    have HS : Hid (svW a d cnt 0 s = svW a d (cnt - j) j s' ∧ s'.un.length ≤ s.un.length + j) := hS
    have HA : Hid (Ad RD (.pointer (some ⟨b, 0, none⟩)) F s' w2 wr) := hA
    clear hS hA HJ
    obtain ⟨x0, x1, x2, hbv⟩ := HC.out _ _ HA.out
    have HBv : Hid (Bs wr (.slice ad len cap) d) := hbv
    clear hbv
    obtain ⟨lo, hlo⟩ : ∃ lo, j * 128 = lo := ⟨_, rfl⟩
    have j1 : (j : Int) * 128 = (lo : Int) := by omega
    have j2 : IntKind.i64.wrap (lo : Int) = (lo : Int) := by rw [IntKind.wrap_i64]; omega
    by_cases hlt : j < cnt
    · have HSv : Hid (svW a d cnt 0 s = svW a d (cnt - j) j s' ∧ s'.un.length ≤ s.un.length + j) := HS
      have hloI : (lo : Int) < (len : Int) := by omega
      obtain ⟨A1, hA1⟩ : ∃ A1, a + 1 = A1 := ⟨_, rfl⟩
      obtain ⟨A2, hA2'⟩ : ∃ A2, A1 + j = A2 := ⟨_, rfl⟩
      have hA2 : a + 1 + j = A2 := by omega
      have q1' : (a : Int) + 1 = (A1 : Int) := by omega
      have q2' : IntKind.i64.wrap (A1 : Int) = (A1 : Int) := by rw [IntKind.wrap_i64]; omega
      have q3' : (A1 : Int) + (j : Int) = (A2 : Int) := by omega
      have q4' : IntKind.i64.wrap (A2 : Int) = (A2 : Int) := by rw [IntKind.wrap_i64]; omega
      obtain ⟨hi, hhi⟩ : ∃ hi, lo + 128 = hi := ⟨_, rfl⟩
      have j3 : (lo : Int) + 128 = (hi : Int) := by omega
      have j4 : IntKind.i64.wrap (hi : Int) = (hi : Int) := by rw [IntKind.wrap_i64]; omega
      by_cases hge : len < hi
      · have hgeI : (len : Int) < (hi : Int) := by omega
        have hzz : True := trivial
        have HCk : Hid ((d.drop lo).take (len - lo) = ck d j) := by
          show _ = _
          rw [← hlo]
          exact ck_part d j len (Or.inr ⟨HLen.out.symm, by have := HLen.out; omega⟩)
        have HSl : Hid (Bs wr (sv ad lo len cap) (ck d j)) := by
          have := sv_bs HBv.out lo len (by omega) (by have := HLen.out; omega)
          rw [HCk.out] at this
          exact this
        have hs1 : ∀ W : World, (Instr.slice 30 (.slice ad len cap) (some (.int .i64 (lo : Int))) (some (.int .i64 (len : Int))) none).run Tryz.prog W = .ok (sv ad lo len cap) W := fun W => slice_run W ad len cap lo len (by omega) (by omega)
        obtain ⟨aS, nS, cS, hsv⟩ : ∃ aS nS cS, sv ad lo len cap = .slice aS nS cS := ⟨_, _, _, rfl⟩
        rw [hsv] at HSl
        simp only [hsv] at hs1
        clear hsv HCk
        have HYc : Hid ((∀ c ∈ ck d j, c < 256)) := ck_byte HD.out.2.2.2 j
        have HSt : Hid (svW a d (cnt - j) j s' = if wrE s' ((a + 1 + j : Nat) : Int) (ck d j) ≠ 0 then (wrE s' ((a + 1 + j : Nat) : Int) (ck d j), wrS s' ((a + 1 + j : Nat) : Int) (ck d j)) else svW a d (cnt - (j + 1)) (j + 1) (wrS s' ((a + 1 + j : Nat) : Int) (ck d j))) := by
          show _ = _
          rw [show cnt - j = cnt - (j + 1) + 1 by omega]
          rfl
        have HUn : Hid ((wrS s' ((a + 1 + j : Nat) : Int) (ck d j)).un.length ≤ s.un.length + (j + 1)) := by
          have h1 := (wrS_unS s' ((a + 1 + j : Nat) : Int) (ck d j)).1
          have h2 := HS.out.2
          show _ ≤ _
          omega
        have HUn2 : Hid (s'.un.length ≤ 1000) := by have := HS.out.2; show _ ≤ _; omega
        have HA2 : Hid (a + 1 + j = A2) := hA2
        rw [HA2.out] at HSt HUn
        go_upto_region 16 with fail
        have HAd : Hid (Ad RD (.pointer (some ⟨b, 0, none⟩)) F s' w2 wr.drew ∧ Bs wr.drew (.slice aS nS cS) (ck d j)) := by
          obtain ⟨F', t1, t2, t3⟩ := HA.out
          exact ⟨⟨F', t1.later (Below.refl _ _).drew, t2, t3.drew⟩, HSl.out.later (Below.refl _ _).drew⟩
        refine wp_region_held_drew (S := fun W => W.cell? ⟨w.heap.size, 0, none⟩ = some (.pointer (some ⟨b, 0, none⟩))) (by kernel_rfl) x0 (fun HS0 => ?_)
        have HS := HS0
        clear x0 x1 x2 HA HSl HBv
        generalize wr.drew = q0 at *
        refine wpAnyH_take (i := 0) (v := ?v1) rfl (by kernel_rfl) (by kernel_rfl) (by kernel_rfl) (fun _ _ _ h => h) (Or.inl ⟨by kernel_rfl, ?h1⟩) HS ?r1
        case h1 => (rintro w n0; go_simp) <;> with_reducible rfl
        try simp only [Act.put, List.getElem_toArray, List.getElem_cons_succ, List.getElem_cons_zero, List.setIfInBounds_toArray, List.set_cons_zero, List.set_cons_succ]
        refine wpAnyH_take (i := 1) (v := ?v2) rfl (by kernel_rfl) (by kernel_rfl) (by kernel_rfl) (fun _ _ _ h => h) (Or.inl ⟨by kernel_rfl, ?h2⟩) HS ?r2
        case h2 => (rintro w n0; go_simp) <;> with_reducible rfl
        try simp only [Act.put, List.getElem_toArray, List.getElem_cons_succ, List.getElem_cons_zero, List.setIfInBounds_toArray, List.set_cons_zero, List.set_cons_succ]
        refine wpAnyH_take (i := 2) (v := ?v3) rfl (by kernel_rfl) (by kernel_rfl) (by kernel_rfl) (fun _ _ _ h => h) (Or.inl ⟨by kernel_rfl, ?h3⟩) HS ?r3
        case h3 => (rintro w n0; go_simp) <;> with_reducible rfl
        try simp only [Act.put, List.getElem_toArray, List.getElem_cons_succ, List.getElem_cons_zero, List.setIfInBounds_toArray, List.set_cons_zero, List.set_cons_succ]
        refine wpAnyH_take (i := 3) (v := ?v4) rfl (by kernel_rfl) (by kernel_rfl) (by kernel_rfl) (fun _ _ _ h => h) (Or.inl ⟨by kernel_rfl, ?h4⟩) HS ?r4
        case h4 => (rintro w n0; go_simp) <;> with_reducible rfl
        try simp only [Act.put, List.getElem_toArray, List.getElem_cons_succ, List.getElem_cons_zero, List.setIfInBounds_toArray, List.set_cons_zero, List.set_cons_succ]
        refine wpAnyH_take (i := 4) (v := ?v5) rfl (by kernel_rfl) (by kernel_rfl) (by kernel_rfl) (fun _ _ _ h => h) (Or.inl ⟨by kernel_rfl, ?h5⟩) HS ?r5
        case h5 => (rintro w n0; go_simp) <;> with_reducible rfl
        try simp only [Act.put, List.getElem_toArray, List.getElem_cons_succ, List.getElem_cons_zero, List.setIfInBounds_toArray, List.set_cons_zero, List.set_cons_succ]
        refine wpAnyH_take (i := 5) (v := ?v6) rfl (by kernel_rfl) (by kernel_rfl) (by kernel_rfl) (fun _ _ _ h => h) (Or.inl ⟨by kernel_rfl, ?h6⟩) HS ?r6
        case h6 => (rintro w n0; go_simp) <;> with_reducible rfl
        try simp only [Act.put, List.getElem_toArray, List.getElem_cons_succ, List.getElem_cons_zero, List.setIfInBounds_toArray, List.set_cons_zero, List.set_cons_succ]
        refine wpAnyH_take (i := 6) (v := ?v7) rfl (by kernel_rfl) (by kernel_rfl) (by kernel_rfl) (fun _ _ _ h => h) (Or.inl ⟨by kernel_rfl, ?h7⟩) HS ?r7
        case h7 => (rintro w n0; go_simp) <;> with_reducible rfl
        try simp only [Act.put, List.getElem_toArray, List.getElem_cons_succ, List.getElem_cons_zero, List.setIfInBounds_toArray, List.set_cons_zero, List.set_cons_succ]
        refine wpAnyH_take (i := 7) (v := ?v8) rfl (by kernel_rfl) (by kernel_rfl) (by kernel_rfl) (fun _ _ _ h => h) (Or.inl ⟨by kernel_rfl, ?h8⟩) HS ?r8
        case h8 => (rintro w n0; go_simp) <;> with_reducible rfl
        try simp only [Act.put, List.getElem_toArray, List.getElem_cons_succ, List.getElem_cons_zero, List.setIfInBounds_toArray, List.set_cons_zero, List.set_cons_succ]
        refine wpAnyH_take (i := 8) (v := ?v9) rfl (by kernel_rfl) (by kernel_rfl) (by kernel_rfl) (fun _ _ _ h => h) (Or.inl ⟨by kernel_rfl, ?h9⟩) HS ?r9
        case h9 => (rintro w n0; go_simp) <;> with_reducible rfl
        try simp only [Act.put, List.getElem_toArray, List.getElem_cons_succ, List.getElem_cons_zero, List.setIfInBounds_toArray, List.set_cons_zero, List.set_cons_succ]
        refine wpAnyH_take (i := 9) (v := ?v10) rfl (by kernel_rfl) (by kernel_rfl) (by kernel_rfl) (fun _ _ _ h => h) (Or.inl ⟨by kernel_rfl, ?h10⟩) HS ?r10
        case h10 => (rintro w n0; go_simp) <;> with_reducible rfl
        try simp only [Act.put, List.getElem_toArray, List.getElem_cons_succ, List.getElem_cons_zero, List.setIfInBounds_toArray, List.set_cons_zero, List.set_cons_succ]
        refine wpAnyH_take (i := 10) (v := ?v11) rfl (by kernel_rfl) (by kernel_rfl) (by kernel_rfl) (fun _ _ _ h => h) (Or.inl ⟨by kernel_rfl, ?h11⟩) HS ?r11
        case h11 => (rintro w n0; go_simp) <;> with_reducible rfl
        try simp only [Act.put, List.getElem_toArray, List.getElem_cons_succ, List.getElem_cons_zero, List.setIfInBounds_toArray, List.set_cons_zero, List.set_cons_succ]
        refine wpAnyH_ready (rs := [11]) (by kernel_rfl) (by simp) ?_
        refine AllReadyH.cons rfl (fun K hK => ?_) AllReadyH.nil
        go_simp
        obtain ⟨F', t1, t2, t3⟩ := HAd.out.1
        refine (refWrite t1 (A2 : Int) _ (ck d j) HAd.out.2 HYc.out HUn2.out).mono ?_
        rintro e q1 ⟨rfl, hAd⟩
        have HA3 : Hid (Ad RD (.pointer (some ⟨b, 0, none⟩)) F (wrS s' (A2 : Int) (ck d j)) w2 q1) := ad_tr t2 t3 hAd
        refine hK.out _ _ (HC.out _ _ HA3.out).1 (fun HS => ?_)
        clear hK K hAd t1 t2 t3 HAd
        try simp only [Act.put, List.getElem_toArray, List.getElem_cons_succ, List.getElem_cons_zero, List.setIfInBounds_toArray, List.set_cons_zero, List.set_cons_succ]
        generalize hwe : wrE s' (A2 : Int) (ck d j) = we at *
        have HWe : Hid (wrE s' (A2 : Int) (ck d j) = we) := hwe
        clear hwe
        refine wpAnyH_take (i := 12) (v := ?v12) rfl (by kernel_rfl) (by kernel_rfl) (by kernel_rfl) (fun _ _ _ h => h) (Or.inl ⟨by kernel_rfl, ?h12⟩) HS ?r12
        case h12 => (rintro w n0; go_simp) <;> with_reducible rfl
        try simp only [Act.put, List.getElem_toArray, List.getElem_cons_succ, List.getElem_cons_zero, List.setIfInBounds_toArray, List.set_cons_zero, List.set_cons_succ]
        refine wpAnyH_done (by kernel_rfl) ?_ _
        clear HS HS0
        go_upto_region 17 with fail
        by_cases hwz : we = 0
        · subst hwz
          rw [show ((0 : Nat) : Int) = (0 : Int) from rfl]
          have HW2 : Hid (svW a d cnt 0 s = svW a d (cnt - (j + 1)) (j + 1) (wrS s' (A2 : Int) (ck d j))) := by
            show _ = _
            rw [HSv.out.1, HSt.out, if_neg (by rintro q; exact q rfl)]
          go_wp2
          go_roundw
          case rel => exact ⟨j + 1, by omega, by go_num, _, ⟨HW2.out, HUn.out⟩, HA3.out⟩
          case measure => simp [intOf]; omega
        · have hwI : ¬ (we : Int) = 0 := by omega
          have HV2 : Hid (svR s at_ room d = (0, we, wrS s' (A2 : Int) (ck d j))) := by
            show _ = _
            rw [HV.out, HSv.out.1, HSt.out, if_pos hwz]
            unfold svF
            rw [if_pos hwz]
          go_wp2
          go_ret2
          rw [HV2.out]
          exact ⟨rfl, ad_of HA3.out HB2.out.1⟩
      · have hgeI : ¬ (len : Int) < (hi : Int) := by omega
        have hzz : True := trivial
        have HCk : Hid ((d.drop lo).take (hi - lo) = ck d j) := by
          show _ = _
          rw [← hlo]
          exact ck_part d j hi (Or.inl ⟨by omega, by have := HLen.out; omega⟩)
        have HSl : Hid (Bs wr (sv ad lo hi cap) (ck d j)) := by
          have := sv_bs HBv.out lo hi (by omega) (by have := HLen.out; omega)
          rw [HCk.out] at this
          exact this
        have hs1 : ∀ W : World, (Instr.slice 30 (.slice ad len cap) (some (.int .i64 (lo : Int))) (some (.int .i64 (hi : Int))) none).run Tryz.prog W = .ok (sv ad lo hi cap) W := fun W => slice_run W ad len cap lo hi (by omega) (by omega)
        obtain ⟨aS, nS, cS, hsv⟩ : ∃ aS nS cS, sv ad lo hi cap = .slice aS nS cS := ⟨_, _, _, rfl⟩
        rw [hsv] at HSl
        simp only [hsv] at hs1
        clear hsv HCk
        have HYc : Hid ((∀ c ∈ ck d j, c < 256)) := ck_byte HD.out.2.2.2 j
        have HSt : Hid (svW a d (cnt - j) j s' = if wrE s' ((a + 1 + j : Nat) : Int) (ck d j) ≠ 0 then (wrE s' ((a + 1 + j : Nat) : Int) (ck d j), wrS s' ((a + 1 + j : Nat) : Int) (ck d j)) else svW a d (cnt - (j + 1)) (j + 1) (wrS s' ((a + 1 + j : Nat) : Int) (ck d j))) := by
          show _ = _
          rw [show cnt - j = cnt - (j + 1) + 1 by omega]
          rfl
        have HUn : Hid ((wrS s' ((a + 1 + j : Nat) : Int) (ck d j)).un.length ≤ s.un.length + (j + 1)) := by
          have h1 := (wrS_unS s' ((a + 1 + j : Nat) : Int) (ck d j)).1
          have h2 := HS.out.2
          show _ ≤ _
          omega
        have HUn2 : Hid (s'.un.length ≤ 1000) := by have := HS.out.2; show _ ≤ _; omega
        have HA2 : Hid (a + 1 + j = A2) := hA2
        rw [HA2.out] at HSt HUn
        go_upto_region 16 with fail
        have HAd : Hid (Ad RD (.pointer (some ⟨b, 0, none⟩)) F s' w2 wr.drew ∧ Bs wr.drew (.slice aS nS cS) (ck d j)) := by
          obtain ⟨F', t1, t2, t3⟩ := HA.out
          exact ⟨⟨F', t1.later (Below.refl _ _).drew, t2, t3.drew⟩, HSl.out.later (Below.refl _ _).drew⟩
        refine wp_region_held_drew (S := fun W => W.cell? ⟨w.heap.size, 0, none⟩ = some (.pointer (some ⟨b, 0, none⟩))) (by kernel_rfl) x0 (fun HS0 => ?_)
        have HS := HS0
        clear x0 x1 x2 HA HSl HBv
        generalize wr.drew = q0 at *
        refine wpAnyH_take (i := 0) (v := ?v13) rfl (by kernel_rfl) (by kernel_rfl) (by kernel_rfl) (fun _ _ _ h => h) (Or.inl ⟨by kernel_rfl, ?h13⟩) HS ?r13
        case h13 => (rintro w n0; go_simp) <;> with_reducible rfl
        try simp only [Act.put, List.getElem_toArray, List.getElem_cons_succ, List.getElem_cons_zero, List.setIfInBounds_toArray, List.set_cons_zero, List.set_cons_succ]
        refine wpAnyH_take (i := 1) (v := ?v14) rfl (by kernel_rfl) (by kernel_rfl) (by kernel_rfl) (fun _ _ _ h => h) (Or.inl ⟨by kernel_rfl, ?h14⟩) HS ?r14
        case h14 => (rintro w n0; go_simp) <;> with_reducible rfl
        try simp only [Act.put, List.getElem_toArray, List.getElem_cons_succ, List.getElem_cons_zero, List.setIfInBounds_toArray, List.set_cons_zero, List.set_cons_succ]
        refine wpAnyH_take (i := 2) (v := ?v15) rfl (by kernel_rfl) (by kernel_rfl) (by kernel_rfl) (fun _ _ _ h => h) (Or.inl ⟨by kernel_rfl, ?h15⟩) HS ?r15
        case h15 => (rintro w n0; go_simp) <;> with_reducible rfl
        try simp only [Act.put, List.getElem_toArray, List.getElem_cons_succ, List.getElem_cons_zero, List.setIfInBounds_toArray, List.set_cons_zero, List.set_cons_succ]
        refine wpAnyH_take (i := 3) (v := ?v16) rfl (by kernel_rfl) (by kernel_rfl) (by kernel_rfl) (fun _ _ _ h => h) (Or.inl ⟨by kernel_rfl, ?h16⟩) HS ?r16
        case h16 => (rintro w n0; go_simp) <;> with_reducible rfl
        try simp only [Act.put, List.getElem_toArray, List.getElem_cons_succ, List.getElem_cons_zero, List.setIfInBounds_toArray, List.set_cons_zero, List.set_cons_succ]
        refine wpAnyH_take (i := 4) (v := ?v17) rfl (by kernel_rfl) (by kernel_rfl) (by kernel_rfl) (fun _ _ _ h => h) (Or.inl ⟨by kernel_rfl, ?h17⟩) HS ?r17
        case h17 => (rintro w n0; go_simp) <;> with_reducible rfl
        try simp only [Act.put, List.getElem_toArray, List.getElem_cons_succ, List.getElem_cons_zero, List.setIfInBounds_toArray, List.set_cons_zero, List.set_cons_succ]
        refine wpAnyH_take (i := 5) (v := ?v18) rfl (by kernel_rfl) (by kernel_rfl) (by kernel_rfl) (fun _ _ _ h => h) (Or.inl ⟨by kernel_rfl, ?h18⟩) HS ?r18
        case h18 => (rintro w n0; go_simp) <;> with_reducible rfl
        try simp only [Act.put, List.getElem_toArray, List.getElem_cons_succ, List.getElem_cons_zero, List.setIfInBounds_toArray, List.set_cons_zero, List.set_cons_succ]
        refine wpAnyH_take (i := 6) (v := ?v19) rfl (by kernel_rfl) (by kernel_rfl) (by kernel_rfl) (fun _ _ _ h => h) (Or.inl ⟨by kernel_rfl, ?h19⟩) HS ?r19
        case h19 => (rintro w n0; go_simp) <;> with_reducible rfl
        try simp only [Act.put, List.getElem_toArray, List.getElem_cons_succ, List.getElem_cons_zero, List.setIfInBounds_toArray, List.set_cons_zero, List.set_cons_succ]
        refine wpAnyH_take (i := 7) (v := ?v20) rfl (by kernel_rfl) (by kernel_rfl) (by kernel_rfl) (fun _ _ _ h => h) (Or.inl ⟨by kernel_rfl, ?h20⟩) HS ?r20
        case h20 => (rintro w n0; go_simp) <;> with_reducible rfl
        try simp only [Act.put, List.getElem_toArray, List.getElem_cons_succ, List.getElem_cons_zero, List.setIfInBounds_toArray, List.set_cons_zero, List.set_cons_succ]
        refine wpAnyH_take (i := 8) (v := ?v21) rfl (by kernel_rfl) (by kernel_rfl) (by kernel_rfl) (fun _ _ _ h => h) (Or.inl ⟨by kernel_rfl, ?h21⟩) HS ?r21
        case h21 => (rintro w n0; go_simp) <;> with_reducible rfl
        try simp only [Act.put, List.getElem_toArray, List.getElem_cons_succ, List.getElem_cons_zero, List.setIfInBounds_toArray, List.set_cons_zero, List.set_cons_succ]
        refine wpAnyH_take (i := 9) (v := ?v22) rfl (by kernel_rfl) (by kernel_rfl) (by kernel_rfl) (fun _ _ _ h => h) (Or.inl ⟨by kernel_rfl, ?h22⟩) HS ?r22
        case h22 => (rintro w n0; go_simp) <;> with_reducible rfl
        try simp only [Act.put, List.getElem_toArray, List.getElem_cons_succ, List.getElem_cons_zero, List.setIfInBounds_toArray, List.set_cons_zero, List.set_cons_succ]
        refine wpAnyH_take (i := 10) (v := ?v23) rfl (by kernel_rfl) (by kernel_rfl) (by kernel_rfl) (fun _ _ _ h => h) (Or.inl ⟨by kernel_rfl, ?h23⟩) HS ?r23
        case h23 => (rintro w n0; go_simp) <;> with_reducible rfl
        try simp only [Act.put, List.getElem_toArray, List.getElem_cons_succ, List.getElem_cons_zero, List.setIfInBounds_toArray, List.set_cons_zero, List.set_cons_succ]
        refine wpAnyH_ready (rs := [11]) (by kernel_rfl) (by simp) ?_
        refine AllReadyH.cons rfl (fun K hK => ?_) AllReadyH.nil
        go_simp
        obtain ⟨F', t1, t2, t3⟩ := HAd.out.1
        refine (refWrite t1 (A2 : Int) _ (ck d j) HAd.out.2 HYc.out HUn2.out).mono ?_
        rintro e q1 ⟨rfl, hAd⟩
        have HA3 : Hid (Ad RD (.pointer (some ⟨b, 0, none⟩)) F (wrS s' (A2 : Int) (ck d j)) w2 q1) := ad_tr t2 t3 hAd
        refine hK.out _ _ (HC.out _ _ HA3.out).1 (fun HS => ?_)
        clear hK K hAd t1 t2 t3 HAd
        try simp only [Act.put, List.getElem_toArray, List.getElem_cons_succ, List.getElem_cons_zero, List.setIfInBounds_toArray, List.set_cons_zero, List.set_cons_succ]
        generalize hwe : wrE s' (A2 : Int) (ck d j) = we at *
        have HWe : Hid (wrE s' (A2 : Int) (ck d j) = we) := hwe
        clear hwe
        refine wpAnyH_take (i := 12) (v := ?v24) rfl (by kernel_rfl) (by kernel_rfl) (by kernel_rfl) (fun _ _ _ h => h) (Or.inl ⟨by kernel_rfl, ?h24⟩) HS ?r24
        case h24 => (rintro w n0; go_simp) <;> with_reducible rfl
        try simp only [Act.put, List.getElem_toArray, List.getElem_cons_succ, List.getElem_cons_zero, List.setIfInBounds_toArray, List.set_cons_zero, List.set_cons_succ]
        refine wpAnyH_done (by kernel_rfl) ?_ _
        clear HS HS0
        go_upto_region 17 with fail
        by_cases hwz : we = 0
        · subst hwz
          rw [show ((0 : Nat) : Int) = (0 : Int) from rfl]
          have HW2 : Hid (svW a d cnt 0 s = svW a d (cnt - (j + 1)) (j + 1) (wrS s' (A2 : Int) (ck d j))) := by
            show _ = _
            rw [HSv.out.1, HSt.out, if_neg (by rintro q; exact q rfl)]
          go_wp2
          go_roundw
          case rel => exact ⟨j + 1, by omega, by go_num, _, ⟨HW2.out, HUn.out⟩, HA3.out⟩
          case measure => simp [intOf]; omega
        · have hwI : ¬ (we : Int) = 0 := by omega
          have HV2 : Hid (svR s at_ room d = (0, we, wrS s' (A2 : Int) (ck d j))) := by
            show _ = _
            rw [HV.out, HSv.out.1, HSt.out, if_pos hwz]
            unfold svF
            rw [if_pos hwz]
          go_wp2
          go_ret2
          rw [HV2.out]
          exact ⟨rfl, ad_of HA3.out HB2.out.1⟩
    · obtain rfl : j = cnt := by omega
      have hloI : ¬ (lo : Int) < (len : Int) := by omega
      have HSv : Hid (svW a d j 0 s = (0, s') ∧ s'.un.length ≤ 1000) := by
        have h1 := HS.out.1
        have h2 := HS.out.2
        rw [Nat.sub_self] at h1
        exact ⟨h1, by omega⟩
      have HVf : Hid (svR s at_ room d = if flE s' ≠ 0 then (0, flE s', flS s') else svH a n1 d (flS s')) := by
        show _ = _
        rw [HV.out, HSv.out.1]
        rfl
      clear HS HV
      go_wp2_with fail
      obtain ⟨F', t1, t2, t3⟩ := HA.out
      refine (refFlush t1 (by have := HSv.out.2; omega)).mono ?_
      rintro e w3 ⟨rfl, hAd⟩
      have HA3 : Hid (Ad RD (.pointer (some ⟨b, 0, none⟩)) F (flS s') w2 w3) := ad_tr t2 t3 hAd
      have HUn : Hid ((flS s').un.length ≤ 1000) := by have := flS_unS s'; have := HSv.out.2; show _ ≤ _; omega
      clear t1 t2 t3 hAd HA HBv x0 x1 x2 HSv
      obtain ⟨x0, x1, x2, hbv⟩ := HC.out _ _ HA3.out
      have HBv : Hid (Bs w3 (.slice ad len cap) d) := hbv
      clear hbv
      generalize flE s' = fe at *
      generalize flS s' = s3 at *
      by_cases hfz : fe = 0
      · subst hfz
        have HV3 : Hid (svR s at_ room d = svH a n1 d s3) := by have := HVf.out; rw [if_neg (by rintro q; exact q rfl)] at this; exact this
        clear HVf
        go_upto_region 22 with fail
        have HAd : Hid (Ad RD (.pointer (some ⟨b, 0, none⟩)) F s3 w2 w3.drew ∧ Bs w3.drew (.slice ad len cap) d) := by
          obtain ⟨F', t1, t2, t3⟩ := HA3.out
          exact ⟨⟨F', t1.later (Below.refl _ _).drew, t2, t3.drew⟩, HBv.out.later (Below.refl _ _).drew⟩
        refine wp_region_held_drew (S := fun W => W.cell? ⟨w.heap.size, 0, none⟩ = some (.pointer (some ⟨b, 0, none⟩))) (by kernel_rfl) x0 (fun HS => ?_)
        clear x0 x1 x2 HA3 HBv
        generalize w3.drew = q0 at *
        refine wpAnyH_take (i := 0) (v := ?v25) rfl (by kernel_rfl) (by kernel_rfl) (by kernel_rfl) (fun _ _ _ h => h) (Or.inl ⟨by kernel_rfl, ?h25⟩) HS ?r25
        case h25 => (rintro w n0; go_simp) <;> with_reducible rfl
        try simp only [Act.put, List.getElem_toArray, List.getElem_cons_succ, List.getElem_cons_zero, List.setIfInBounds_toArray, List.set_cons_zero, List.set_cons_succ]
        refine wpAnyH_take (i := 1) (v := ?v26) rfl (by kernel_rfl) (by kernel_rfl) (by kernel_rfl) (fun _ _ _ h => h) (Or.inl ⟨by kernel_rfl, ?h26⟩) HS ?r26
        case h26 => (rintro w n0; go_simp) <;> with_reducible rfl
        try simp only [Act.put, List.getElem_toArray, List.getElem_cons_succ, List.getElem_cons_zero, List.setIfInBounds_toArray, List.set_cons_zero, List.set_cons_succ]
        refine wpAnyH_take (i := 2) (v := ?v27) rfl (by kernel_rfl) (by kernel_rfl) (by kernel_rfl) (fun _ _ _ h => h) (Or.inl ⟨by kernel_rfl, ?h27⟩) HS ?r27
        case h27 => (rintro w n0; go_simp) <;> with_reducible rfl
        try simp only [Act.put, List.getElem_toArray, List.getElem_cons_succ, List.getElem_cons_zero, List.setIfInBounds_toArray, List.set_cons_zero, List.set_cons_succ]
        refine wpAnyH_take (i := 3) (v := ?v28) rfl (by kernel_rfl) (by kernel_rfl) (by kernel_rfl) (fun _ _ _ h => h) (Or.inl ⟨by kernel_rfl, ?h28⟩) HS ?r28
        case h28 => (rintro w n0; go_simp) <;> with_reducible rfl
        try simp only [Act.put, List.getElem_toArray, List.getElem_cons_succ, List.getElem_cons_zero, List.setIfInBounds_toArray, List.set_cons_zero, List.set_cons_succ]
        refine wpAnyH_take (i := 4) (v := ?v29) rfl (by kernel_rfl) (by kernel_rfl) (by kernel_rfl) (fun _ _ _ h => h) (Or.inl ⟨by kernel_rfl, ?h29⟩) HS ?r29
        case h29 => (rintro w n0; go_simp) <;> with_reducible rfl
        try simp only [Act.put, List.getElem_toArray, List.getElem_cons_succ, List.getElem_cons_zero, List.setIfInBounds_toArray, List.set_cons_zero, List.set_cons_succ]
        refine wpAnyH_ready (rs := [5]) (by kernel_rfl) (by simp) ?_
        refine AllReadyH.cons rfl (fun K hK => ?_) AllReadyH.nil
        go_simp
        refine (refHead n1 (by omega) _ d HD.out.2.2.2 (by obtain ⟨u, e, hu⟩ := HDl.out; rw [e]; exact hu) q0 HAd.out.2).mono ?_
        rintro e q1 ⟨vh, rfl, hBh, hOh, hbh⟩
        have HA4 : Hid (Ad RD (.pointer (some ⟨b, 0, none⟩)) F s3 w2 q1 ∧ Bs q1 vh (hdB n1 d)) := by
          obtain ⟨F', t1, t2, t3⟩ := HAd.out.1
          exact ⟨⟨F', t1.later hbh, t2, t3.trans (Kp.of (F := fun _ => False) hbh) (fun i hi => absurd hi id)⟩, hBh⟩
        obtain ⟨ah, ch, rfl, -, -⟩ := hBh.len
        have HHl := hid5 (hdB_len n1 d)
        rw [HHl.out] at HA4 ⊢
        refine hK.out _ _ (HC.out _ _ HA4.out.1).1 (fun HS => ?_)
        clear hK K hBh hOh hbh HAd
        try simp only [Act.put, List.getElem_toArray, List.getElem_cons_succ, List.getElem_cons_zero, List.setIfInBounds_toArray, List.set_cons_zero, List.set_cons_succ]
        refine wpAnyH_ready (rs := [6]) (by kernel_rfl) (by simp) ?_
        refine AllReadyH.cons rfl (fun K hK => ?_) AllReadyH.nil
        go_simp
        obtain ⟨F', t1, t2, t3⟩ := HA4.out.1
        refine (refWrite t1 (a : Int) _ (hdB n1 d) HA4.out.2 (hdB_ok n1 d).2 HUn.out).mono ?_
        rintro e q2 ⟨rfl, hAd⟩
        have HA5 : Hid (Ad RD (.pointer (some ⟨b, 0, none⟩)) F (wrS s3 (a : Int) (hdB n1 d)) w2 q2) := ad_tr t2 t3 hAd
        have HUn5 : Hid ((wrS s3 (a : Int) (hdB n1 d)).un.length ≤ 1001) := by have := (wrS_unS s3 (a : Int) (hdB n1 d)).1; have := HUn.out; show _ ≤ _; omega
        have HV5 : Hid (svR s at_ room d = if wrE s3 (a : Int) (hdB n1 d) ≠ 0 then (0, wrE s3 (a : Int) (hdB n1 d), wrS s3 (a : Int) (hdB n1 d)) else if flE (wrS s3 (a : Int) (hdB n1 d)) ≠ 0 then (0, flE (wrS s3 (a : Int) (hdB n1 d)), flS (wrS s3 (a : Int) (hdB n1 d))) else (n1, 0, flS (wrS s3 (a : Int) (hdB n1 d)))) := HV3.out
        refine hK.out _ _ (HC.out _ _ HA5.out).1 (fun HS => ?_)
        clear hK K hAd t1 t2 t3 HA4 HV3
        try simp only [Act.put, List.getElem_toArray, List.getElem_cons_succ, List.getElem_cons_zero, List.setIfInBounds_toArray, List.set_cons_zero, List.set_cons_succ]
        generalize wrE s3 (a : Int) (hdB n1 d) = we at *
        generalize wrS s3 (a : Int) (hdB n1 d) = s5 at *
        refine wpAnyH_take (i := 7) (v := ?v30) rfl (by kernel_rfl) (by kernel_rfl) (by kernel_rfl) (fun _ _ _ h => h) (Or.inl ⟨by kernel_rfl, ?h30⟩) HS ?r30
        case h30 => (rintro w n0; go_simp) <;> with_reducible rfl
        try simp only [Act.put, List.getElem_toArray, List.getElem_cons_succ, List.getElem_cons_zero, List.setIfInBounds_toArray, List.set_cons_zero, List.set_cons_succ]
        refine wpAnyH_done (by kernel_rfl) ?_ _
        have x0 := HS
        clear HS
        go_upto_region 23 with fail
        by_cases hwz : we = 0
        · subst hwz
          go_wp2_with fail
          obtain ⟨F', t1, t2, t3⟩ := HA5.out
          refine (refFlush t1 (by have := HUn5.out; omega)).mono ?_
          rintro e w6 ⟨rfl, hAd⟩
          have HA6 : Hid (Ad RD (.pointer (some ⟨b, 0, none⟩)) F (flS s5) w2 w6) := ad_tr t2 t3 hAd
          clear t1 t2 t3 hAd HA5 x0
          generalize flE s5 = fe at *
          generalize flS s5 = s6 at *
          by_cases hfz2 : fe = 0
          · subst hfz2
            have HV6 : Hid (svR s at_ room d = (n1, 0, s6)) := by have := HV5.out; rw [if_neg (by rintro q; exact q rfl), if_neg (by rintro q; exact q rfl)] at this; exact this
            clear HV5
            go_wp2
            go_ret2
            rw [HV6.out]
            exact ⟨rfl, ad_of HA6.out HB2.out.1⟩
          · have hfI : ¬ (fe : Int) = 0 := by omega
            have HV6 : Hid (svR s at_ room d = (0, fe, s6)) := by have := HV5.out; rw [if_neg (by rintro q; exact q rfl), if_pos hfz2] at this; exact this
            clear HV5
            go_wp2
            go_ret2
            rw [HV6.out]
            exact ⟨rfl, ad_of HA6.out HB2.out.1⟩
        · have hwI : ¬ (we : Int) = 0 := by omega
          have HV6 : Hid (svR s at_ room d = (0, we, s5)) := by have := HV5.out; rw [if_pos hwz] at this; exact this
          clear HV5
          go_wp2
          go_ret2
          rw [HV6.out]
          exact ⟨rfl, ad_of HA5.out HB2.out.1⟩
      · have hfI : ¬ (fe : Int) = 0 := by omega
        have HV3 : Hid (svR s at_ room d = (0, fe, s3)) := by have := HVf.out; rw [if_pos hfz] at this; exact this
        clear HVf
        go_wp2
        go_ret2
        rw [HV3.out]
        exact ⟨rfl, ad_of HA3.out HB2.out.1⟩
end Go.Proofs.YthnpdcblfocemaaGreatDoor
set_option linter.unusedVariables false
set_option linter.unusedSimpArgs false
namespace Go.Proofs.YthnpdcblfocemaaGreatDoor
open Go.RowKit

def Lb (w : World) (v : Value) (K : Nat) (ns : Nat → Nat) (fs : Nat → Nat → Nat) : Prop := ∃ (adr : Option Addr) (cap b o : Nat), v = .slice adr K cap ∧ K ≤ cap ∧ cap ≤ maxLen ∧ (0 < K → adr = some ⟨b, o, none⟩) ∧ ∀ j, j < K → ∃ (ad : Option Addr) (ca : Nat), w.cell? ⟨b, o + j, none⟩ = some (.slice ad (ns j) ca) ∧ Ls w (.slice ad (ns j) ca) (ns j) (by8 (fs j))
theorem Lb.len {w : World} {v : Value} {K : Nat} {ns : Nat → Nat} {fs : Nat → Nat → Nat} (h : Lb w v K ns fs) : ∃ (ad : Option Addr) (cap : Nat), v = .slice ad K cap ∧ K ≤ cap ∧ cap ≤ maxLen := by
  obtain ⟨adr, cap, b, o, h1, h2, h3, -⟩ := h
  exact ⟨adr, cap, h1, h2, h3⟩
theorem Lb.spot {w : World} {v : Value} {K : Nat} {ns : Nat → Nat} {fs : Nat → Nat → Nat} (h : Lb w v K ns fs) (j : Nat) (hj : j < K) : ∃ (b o cap : Nat) (ad : Option Addr) (ca : Nat), v = .slice (some ⟨b, o, none⟩) K cap ∧ w.cell? ⟨b, o + j, none⟩ = some (.slice ad (ns j) ca) ∧ Ls w (.slice ad (ns j) ca) (ns j) (by8 (fs j)) := by
  obtain ⟨adr, cap, b, o, h1, h2, h3, h4, h5⟩ := h
  have e := h4 (by omega)
  subst e
  obtain ⟨ad, ca, q1, q2⟩ := h5 j hj
  exact ⟨b, o, cap, ad, ca, h1, q1, q2⟩
theorem lb_one (w : World) (ad : Option Addr) (n ca : Nat) (f : Nat → Nat) (t : TypeId) (l : Ls w (.slice ad n ca) n (by8 f)) : Lb (w.alloc (.cells #[.slice ad n ca] t)) (.slice (some ⟨w.heap.size, 0, none⟩) 1 1) 1 (fun _ => n) (fun _ => f) :=
  ⟨_, 1, w.heap.size, 0, rfl, Nat.le_refl _, by unfold maxLen; omega, fun _ => rfl, fun j hj => by
    obtain rfl : j = 0 := by omega
    exact ⟨ad, ca, by simp [go_sem], l.later (bel1 _ _)⟩⟩
def two {α : Type} (a b : α) : Nat → α := fun j => if j = 0 then a else b
def TbAt (w : World) : Prop := ∀ i, i < 16 → w.cell? ⟨1, i, none⟩ = some (.int .u32 ((cZs 4 i : Nat) : Int))
theorem TbAt.later {w w' : World} (h : TbAt w) (hb : Below w.heap.size w w') : TbAt w' := fun m hm => cell_later hb (h m hm)
end Go.Proofs.YthnpdcblfocemaaGreatDoor
