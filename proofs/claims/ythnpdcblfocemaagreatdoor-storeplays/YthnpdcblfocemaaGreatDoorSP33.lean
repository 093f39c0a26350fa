/-
  Texts of this proof, joined: SqO SqP TqA.
-/
import Derived.Test.YthnpdcblfocemaaGreatDoorSP15
import Derived.Test.YthnpdcblfocemaaGreatDoorSP32
import Derived.Defers
set_option linter.unusedVariables false
set_option linter.unusedSimpArgs false
namespace Go.Proofs.YthnpdcblfocemaaGreatDoor
open Go.RowKit

theorem lsW_dn (s : Dsk) (at_ room : Nat) : (lsW s at_ room).2.2 = if s.dn = true then 150 else 0 := by
  unfold lsW
  split <;> rfl
theorem ldV_ls {s : Dsk} (hd : ¬ s.dn = true) (at_ room : Nat) : (ldV (rb s) at_ room).2.1 = (lsW s at_ room).2.1 := by
  have h := ldW_ls s at_ room
  have h2 := lsW_dn s at_ room
  rw [if_neg hd] at h2
  unfold ldW at h
  rw [if_neg hd, h2, if_neg (by simp)] at h
  rw [h]
  split
  · rename_i q; exact q.symm
  · rfl
set_option maxRecDepth 100000 in
set_option maxHeartbeats 8000000 in
theorem save16 (V : Disk1) (w : World) (c g : Nat) (F : Nat → Prop) (s : Dsk) (at_ room : Nat) (v : Value) (d : List Nat) (hS : Ps w c g at_ room) (hD : V.Dt w (.pointer (some ⟨g, 0, none⟩)) F s) (hc : ¬ F c) (hT : TbAt w) (hFT : ∀ k, F k → k ≠ 1) (hr : at_ + 2 * (room + 1) ≤ s.bl.length) (hbl : s.bl.length ≤ 1000) (hu : s.un.length ≤ 400) (hv : Bs w v d) (hnf : Nf F v) (hb : ∀ x ∈ d, x < 256) (hl : d.length ≤ 100000) :
    Calls Tryz.prog 37 #[.pointer (some ⟨c, 0, none⟩), v] w fun e w' => e = .returned (.tuple #[.int .i64 (((svR s at_ room d).1 : Nat) : Int), .int .i64 (((svR s at_ room d).2.1 : Nat) : Int)]) ∧ Ad V.Dt (.pointer (some ⟨g, 0, none⟩)) F (svR s at_ room d).2.2 w w' := by
  have hz := zero_tx16
  have hm := made16 hS
  have C := last16 V w c g F s at_ room hS hD hT hr hbl
  have c2 := hS.c2
  obtain ⟨ad, cap, rfl, -, -⟩ := hv.len
  obtain ⟨M, hM⟩ : ∃ M, room * 128 = M := ⟨_, rfl⟩
  have m1 : (room : Int) * 128 = (M : Int) := by omega
  have m2 : IntKind.i64.wrap (M : Int) = (M : Int) := by rw [IntKind.wrap_i64]; omega
  obtain ⟨len, hlen⟩ : ∃ len, d.length = len := ⟨_, rfl⟩
  rw [hlen] at hv hnf ⊢
  have HW : Hid (Ps w c g at_ room ∧ V.Dt w (.pointer (some ⟨g, 0, none⟩)) F s ∧ TbAt w ∧ Bs w (.slice ad len cap) d ∧ Nf F (.slice ad len cap) ∧ (∀ x ∈ d, x < 256) ∧ d.length = len) := ⟨hS, hD, hT, hv, hnf, hb, hlen⟩
  have HF : Hid (¬ F c ∧ ∀ k, F k → k ≠ 1) := ⟨hc, hFT⟩
  have HN : Hid (at_ + 2 * (room + 1) ≤ s.bl.length ∧ s.bl.length ≤ 1000 ∧ s.un.length ≤ 400 ∧ len ≤ 100000 ∧ room * 128 = M) := ⟨hr, hbl, hu, by omega, hM⟩
  have hq : svR s at_ room d = if M < len then (0, 161, s) else if s.dn = true then (0, 150, s) else svN s at_ room ((ldV (rb s) at_ room).2.1 + 1) d := by unfold svR; rw [hlen, hM]
  obtain ⟨Y, hY⟩ : ∃ Y, svR s at_ room d = Y := ⟨_, rfl⟩
  rw [hY] at hq ⊢
  have HY : Hid (Y = if M < len then (0, 161, s) else if s.dn = true then (0, 150, s) else svN s at_ room ((ldV (rb s) at_ room).2.1 + 1) d) := hq
  have hdn := lsW_dn s at_ room
  have hmx : ¬ s.dn = true → (lsW s at_ room).2.1 ≤ 4611686018427387904 := fun q => by rw [← ldV_ls q]; exact (ldV_max _ _ _).1
  have hld : ¬ s.dn = true → (ldV (rb s) at_ room).2.1 = (lsW s at_ room).2.1 := fun q => ldV_ls q at_ room
  obtain ⟨X, hX⟩ : ∃ X, lsW s at_ room = X := ⟨_, rfl⟩
  rw [hX] at C hdn hmx hld
  obtain ⟨l, n, er⟩ := X
  dsimp only at C hdn hmx hld
  clear hS hD hT hr hbl hu hv hnf hb hl hM hlen hq hY hX hc hFT
  go_enter Tryz.func37, Tryz.ntmps37
  by_cases hbig : M < len
  · have hI : (M : Int) < (len : Int) := by omega
    have HY2 : Hid (Y = (0, 161, s)) := by have := HY.out; rw [if_pos hbig] at this; exact this
    clear HY C hdn hmx hld
    go_wp2_with (go_at_call 63; refine hm.mono ?_; rintro e w' ⟨rfl, hw⟩; replace hw := hw.symm; subst hw; clear hm)
    go_ret2
    rw [HY2.out]
    exact ⟨rfl, F, HW.out.2.1, fun k hk => Or.inl hk, Kp.refl _ _⟩
  have hI : ¬ (M : Int) < (len : Int) := by omega
  have HY1 : Hid (Y = if s.dn = true then (0, 150, s) else svN s at_ room ((ldV (rb s) at_ room).2.1 + 1) d) := by have := HY.out; rw [if_neg hbig] at this; exact this
  clear HY
  go_upto_region 5 with (go_at_call 63; refine hm.mono ?_; rintro e w' ⟨rfl, hw⟩; replace hw := hw.symm; subst hw; clear hm)
  clear c2 m1 m2
  go_wp2_with fail
  refine C.mono ?_
  rintro e w1 ⟨q0, q1, q2, q3, v, rfl, hLv, hOv, hB1⟩
  obtain ⟨adl, cpl, rfl, -, -⟩ := hLv.len
  obtain ⟨m, hm⟩ : ∃ m, l.length = m := ⟨_, rfl⟩
  rw [hm]
  have H1 : Hid (Below w.heap.size w w1) := hB1
  clear hLv hOv hB1 C hm
  by_cases hd : s.dn = true
  · rw [if_pos hd] at hdn
    subst hdn
    have HY2 : Hid (Y = (0, 150, s)) := by have := HY1.out; rw [if_pos hd] at this; exact this
    clear HY1 hmx hld hd
    go_upto_region 6 with (first
      | (refine alV rfl 128 tz16 hz rfl ?_; intro w7 hV7 hB7 hS7)
      | (refine stV rfl 128 _ _ rfl w1.heap.size tz16 (txC q0 q1 q2 q3 (n : Int) (.slice adl m cpl)) rfl rfl hV7 rfl sz_tx16 (txC_one _ _ _ _ _ _ _ _) ?_; intro w8 hV8 hK8 hS8))
    have hb8 : Below w1.heap.size w1 w8 := hK8.next hB7 (fun i hi => by omega) hB7.size
    have H8 : Hid (Below w.heap.size w w8) := bchain H1.out hb8
    clear hV7 hB7 hS7 hV8 hK8 hS8 hb8 H1 hz
    go_wp2_with fail
    go_ret2
    rw [HY2.out]
    exact ⟨rfl, F, V.dtK HW.out.2.1 (fun i hi => H8.out.block i (V.dtB HW.out.2.1 i hi)) H8.out.size, fun k hk => Or.inl hk, Kp.of H8.out⟩
  rw [if_neg hd] at hdn
  subst hdn
  have hn62 := hmx hd
  have HY2 : Hid (Y = svN s at_ room (n + 1) d) := by have := HY1.out; rw [if_neg hd, hld hd] at this; exact this
  clear HY1 hmx hld hd
  go_upto_region 6 with (first
    | (refine alV rfl 128 tz16 hz rfl ?_; intro w7 hV7 hB7 hS7)
    | (refine stV rfl 128 _ _ rfl w1.heap.size tz16 (txC q0 q1 q2 q3 (n : Int) (.slice adl m cpl)) rfl rfl hV7 rfl sz_tx16 (txC_one _ _ _ _ _ _ _ _) ?_; intro w8 hV8 hK8 hS8))
  have hb8 : Below w1.heap.size w1 w8 := hK8.next hB7 (fun i hi => by omega) hB7.size
  have H8 : Hid (Below w.heap.size w w8) := bchain H1.out hb8
  have z4 := hV8.cell 4 _ rfl
  clear hV7 hB7 hS7 hV8 hK8 hS8 hb8 H1 hz
  by_cases hn : n = 4611686018427387904
  · have hnI : (n : Int) = 4611686018427387904 := by omega
    have hnB : ((n : Int) == 4611686018427387904) = true := by rw [beq_iff_eq]; exact hnI
    have HY3 : Hid (Y = (0, 3, s)) := by have := HY2.out; unfold svN at this; rw [if_pos (by omega)] at this; exact this
    have HnB : Hid (n = 4611686018427387904) := hn
    clear HY2 hn hnI
    go_wp2_with fail
    go_ret2
    rw [HY3.out]
    exact ⟨rfl, F, V.dtK HW.out.2.1 (fun i hi => H8.out.block i (V.dtB HW.out.2.1 i hi)) H8.out.size, fun k hk => Or.inl hk, Kp.of H8.out⟩
  · have hnI : ¬ (n : Int) = 4611686018427387904 := by omega
    have hnB : ((n : Int) == 4611686018427387904) = false := by rw [beq_eq_false_iff_ne]; exact hnI
    obtain ⟨n1, hn1⟩ : ∃ n1, n + 1 = n1 := ⟨_, rfl⟩
    have hw1 : IntKind.i64.wrap ((n : Int) + 1) = (n1 : Int) := by rw [IntKind.wrap_i64]; omega
    have hn1b : n1 ≤ 4611686018427387904 := by omega
    rw [hn1] at HY2
    have HY3 : Hid (Y = (if kpE (slA at_ room (n1 % 2)) n1 d s = 0 then n1 else 0, kpE (slA at_ room (n1 % 2)) n1 d s, kpS (slA at_ room (n1 % 2)) n1 d s)) := by
      have := HY2.out
      unfold svN at this
      rw [if_neg (by omega), svF_kp] at this
      exact this
    have C2 := place16 w8 c g at_ room n1 (HW.out.1.later H8.out) hn1b (by have := HN.out; omega) (by have := HN.out; omega)
    have hsl : slA at_ room (n1 % 2) ≤ 100000 := by have := slA_lt (which := n1 % 2) (i := 0) (by omega) HN.out.1 (Nat.zero_le _); have := HN.out; omega
    clear HY2 hn
    go_wp2_with fail
    refine C2.mono ?_
    rintro e w9 ⟨rfl, hB9⟩
    have H9 : Hid (Below w.heap.size w w9) := bchain H8.out hB9
    clear hB9 H8 C2
    obtain ⟨a, hA⟩ : ∃ a, slA at_ room (n1 % 2) = a := ⟨_, rfl⟩
    rw [hA] at HY3 hsl ⊢
    obtain ⟨r, hr⟩ : ∃ r, n1 % 2 = r := ⟨_, rfl⟩
    rw [hr]
    have C3 := keep16 V w9 g F s r a room n1 (.slice ad len cap) d (V.dtK HW.out.2.1 (fun i hi => H9.out.block i (V.dtB HW.out.2.1 i hi)) H9.out.size) (HW.out.2.2.2.1.later H9.out) HW.out.2.2.2.2.1 HW.out.2.2.2.2.2.1 (by rw [HW.out.2.2.2.2.2.2]; have := HN.out; omega) hn1b HN.out.2.2.1 hsl (HW.out.2.2.1.later H9.out) HF.out.2
    obtain ⟨E, hE⟩ : ∃ E, kpE a n1 d s = E := ⟨_, rfl⟩
    rw [hE] at C3 HY3
    have HY4 : Hid (Y = (if E = 0 then n1 else 0, E, kpS a n1 d s)) := HY3.out
    clear hE HY3 hA hr hnI hw1
    go_wp2_with fail
    refine C3.mono ?_
    rintro e w10 ⟨rfl, hA10⟩
    have HA : Hid (Ad V.Dt (.pointer (some ⟨g, 0, none⟩)) F (kpS a n1 d s) w w10) := ad_tr (fun k hk => Or.inl hk) (Kp.of H9.out) hA10
    clear hA10 C3 H9
    by_cases hE0 : E = 0
    · subst hE0
      have HY5 : Hid (Y = (n1, 0, kpS a n1 d s)) := by have := HY4.out; rw [if_pos rfl] at this; exact this
      go_wp2_with fail
      go_ret2
      rw [HY5.out]
      exact ⟨rfl, HA.out⟩
    · have hEI : ¬ (E : Int) = 0 := by omega
      have hEB : ((E : Int) == 0) = false := by rw [beq_eq_false_iff_ne]; exact hEI
      have hEC : ((E : Int) != 0) = true := by rw [bne_iff_ne]; exact hEI
      have HY5 : Hid (Y = (0, E, kpS a n1 d s)) := by have := HY4.out; rw [if_neg hE0] at this; exact this
      go_wp2_with fail
      go_ret2
      rw [HY5.out]
      exact ⟨rfl, HA.out⟩
end Go.Proofs.YthnpdcblfocemaaGreatDoor
set_option linter.unusedVariables false
set_option linter.unusedSimpArgs false
namespace Go.Proofs.YthnpdcblfocemaaGreatDoor
open Go.RowKit

set_option maxRecDepth 100000 in
set_option maxHeartbeats 8000000 in
theorem newY16 (w : World) (g : Nat) (F : Nat → Prop) (s : Dsk) (at_ room : Nat) (hD : PD w (.pointer (some ⟨g, 0, none⟩)) F s) (h1 : 1 ≤ room) (h2 : room ≤ 16384) (hr : at_ + 2 * (room + 1) ≤ s.bl.length) :
    Calls Tryz.prog 47 #[.pointer (some ⟨g, 0, none⟩), .int .i64 (at_ : Int), .int .i64 (room : Int)] w fun e w' => ∃ c, e = .returned (.tuple #[.pointer (some ⟨c, 0, none⟩), .int .i64 0]) ∧ Ps w' c g at_ room ∧ w.heap.size ≤ c ∧ Below w.heap.size w w' := by
  have hB := blocks15 w _ F s hD
  have hn : s.bl.length ≤ 16384 := by
    obtain ⟨_, _, _, _, _, h⟩ := hD
    exact h.n2
  obtain ⟨n, hn0⟩ : ∃ n, s.bl.length = n := ⟨_, rfl⟩
  rw [hn0] at hB hn hr
  have b1 : ¬ (n : Int) = 0 := by omega
  have b1B : ((n : Int) == 0) = false := by rw [beq_eq_false_iff_ne]; exact b1
  have b2 : ¬ (room : Int) < 1 := by omega
  have b2B : decide ((room : Int) < 1) = false := decide_eq_false b2
  have b3 : ¬ (16384 : Int) < (room : Int) := by omega
  have b3B : decide ((16384 : Int) < (room : Int)) = false := decide_eq_false b3
  have b4 : ¬ (at_ : Int) < 0 := by omega
  have b4B : decide ((at_ : Int) < 0) = false := decide_eq_false b4
  obtain ⟨R1, hR1⟩ : ∃ R1, 1 + room = R1 := ⟨_, rfl⟩
  obtain ⟨R2, hR2⟩ : ∃ R2, 2 * R1 = R2 := ⟨_, rfl⟩
  obtain ⟨L, hL⟩ : ∃ L, n - R2 = L := ⟨_, rfl⟩
  have y1 : IntKind.i64.wrap (1 + (room : Int)) = (R1 : Int) := by rw [IntKind.wrap_i64]; omega
  have y2 : IntKind.i64.wrap (2 * (R1 : Int)) = (R2 : Int) := by rw [IntKind.wrap_i64]; omega
  have y3 : IntKind.i64.wrap ((n : Int) - (R2 : Int)) = (L : Int) := by rw [IntKind.wrap_i64]; omega
  have b5 : ¬ (L : Int) < (at_ : Int) := by omega
  have b5B : decide ((L : Int) < (at_ : Int)) = false := decide_eq_false b5
  clear hD hn hn0 h1 h2 hr hR1 hR2 hL
  go_enter Tryz.func47, Tryz.ntmps47
  go_upto_region 2 with (go_at_call 49; refine hB.mono ?_; rintro e w1 ⟨rfl, hBw⟩; clear hB)
  have HB : Hid (Below w.heap.size w w1) := hBw
  clear hBw
  go_wp2_with fail
  go_ret2
  exact ⟨_, rfl, ⟨by simp [go_sem], by simp [go_sem], by simp [go_sem]⟩, HB.out.size, bchain HB.out (bel1 _ _)⟩
set_option maxRecDepth 100000 in
set_option maxHeartbeats 8000000 in
theorem newN16 (w : World) (p : Value) (F : Nat → Prop) (s : Dsk) (at_ room : Int) (hD : PD w p F s) (ha : Bd64 at_) (hm : Bd64 room) (hno : ¬ (1 ≤ room ∧ room ≤ 16384 ∧ 0 ≤ at_ ∧ at_ + 2 * (room + 1) ≤ (s.bl.length : Int))) :
    Calls Tryz.prog 47 #[p, .int .i64 at_, .int .i64 room] w fun e w' => e = .returned (.tuple #[.pointer none, .int .i64 2]) ∧ Below w.heap.size w w' := by
  have hB := blocks15 w _ F s hD
  have hn : s.bl.length ≤ 16384 ∧ 1 ≤ s.bl.length := by
    obtain ⟨_, _, _, _, _, h⟩ := hD
    exact ⟨h.n2, h.n1⟩
  obtain ⟨g, rfl⟩ : ∃ g, p = .pointer (some ⟨g, 0, none⟩) := by obtain ⟨g, _, _, _, e, _⟩ := hD; exact ⟨g, e⟩
  obtain ⟨n, hn0⟩ : ∃ n, s.bl.length = n := ⟨_, rfl⟩
  rw [hn0] at hB hn hno
  have b1 : ¬ (n : Int) = 0 := by omega
  have b1B : ((n : Int) == 0) = false := by rw [beq_eq_false_iff_ne]; exact b1
  unfold Bd64 at ha hm
  have hn1 := hn.1
  have hn2 := hn.2
  clear hD hn hn0
  by_cases c1 : room < 1
  · have c1B : decide (room < 1) = true := decide_eq_true c1
    clear hno
    go_enter Tryz.func47, Tryz.ntmps47
    go_upto_region 2 with (go_at_call 49; refine hB.mono ?_; rintro e w1 ⟨rfl, hBw⟩; clear hB)
    have HB : Hid (Below w.heap.size w w1) := hBw
    clear hBw
    go_wp2_with fail
    go_ret2
    exact ⟨rfl, HB.out⟩
  have c1B : decide (room < 1) = false := decide_eq_false c1
  by_cases c2 : 16384 < room
  · have c2B : decide (16384 < room) = true := decide_eq_true c2
    clear hno
    go_enter Tryz.func47, Tryz.ntmps47
    go_upto_region 2 with (go_at_call 49; refine hB.mono ?_; rintro e w1 ⟨rfl, hBw⟩; clear hB)
    have HB : Hid (Below w.heap.size w w1) := hBw
    clear hBw
    go_wp2_with fail
    go_ret2
    exact ⟨rfl, HB.out⟩
  have c2B : decide (16384 < room) = false := decide_eq_false c2
  by_cases c3 : at_ < 0
  · have c3B : decide (at_ < 0) = true := decide_eq_true c3
    clear hno
    go_enter Tryz.func47, Tryz.ntmps47
    go_upto_region 2 with (go_at_call 49; refine hB.mono ?_; rintro e w1 ⟨rfl, hBw⟩; clear hB)
    have HB : Hid (Below w.heap.size w w1) := hBw
    clear hBw
    go_wp2_with fail
    go_ret2
    exact ⟨rfl, HB.out⟩
  have c3B : decide (at_ < 0) = false := decide_eq_false c3
  obtain ⟨R1, hR1⟩ : ∃ R1, 1 + room = R1 := ⟨_, rfl⟩
  obtain ⟨R2, hR2⟩ : ∃ R2, 2 * R1 = R2 := ⟨_, rfl⟩
  obtain ⟨L, hL⟩ : ∃ L, (n : Int) - R2 = L := ⟨_, rfl⟩
  have y1 : IntKind.i64.wrap R1 = R1 := by rw [IntKind.wrap_i64]; omega
  have y2 : IntKind.i64.wrap R2 = R2 := by rw [IntKind.wrap_i64]; omega
  have y3 : IntKind.i64.wrap L = L := by rw [IntKind.wrap_i64]; omega
  have b5 : L < at_ := by omega
  have b5B : decide (L < at_) = true := decide_eq_true b5
  clear hno ha hm hn1 hn2
  go_enter Tryz.func47, Tryz.ntmps47
  go_upto_region 2 with (go_at_call 49; refine hB.mono ?_; rintro e w1 ⟨rfl, hBw⟩; clear hB)
  have HB : Hid (Below w.heap.size w w1) := hBw
  clear hBw
  go_wp2_with fail
  go_ret2
  exact ⟨rfl, HB.out⟩
def snap1 : Snap1 disk1 where
  St := fun w q p at_ room G => ∃ c g, q = .pointer (some ⟨c, 0, none⟩) ∧ p = .pointer (some ⟨g, 0, none⟩) ∧ Ps w c g at_ room ∧ ∀ k, G k ↔ k = c
  stK := fun h k => by
    obtain ⟨c, g, e1, e2, h1, h2⟩ := h
    exact ⟨c, g, e1, e2, h1.kept (k c ((h2 c).2 rfl)), h2⟩
  stB := fun h k hk => by
    obtain ⟨c, g, e1, e2, h1, h2⟩ := h
    obtain rfl := (h2 k).1 hk
    exact h1.lt
  newY := fun w p F s at_ room hD h1 h2 hr => by
    obtain ⟨g, rfl⟩ : ∃ g, p = .pointer (some ⟨g, 0, none⟩) := by obtain ⟨g, _, _, _, e, _⟩ := hD; exact ⟨g, e⟩
    exact (newY16 w g F s at_ room hD h1 h2 hr).mono fun e w' ⟨c, q1, q2, q3, q4⟩ => ⟨⟨c, 0, none⟩, fun k => k = c, q1, ⟨c, g, rfl, rfl, q2, fun _ => Iff.rfl⟩, fun k hk => by subst hk; exact q3, q4⟩
  newN := fun w p F s at_ room hD ha hm hno => newN16 w p F s at_ room hD ha hm hno
  load := fun w q p F G s at_ room h hD hT h1 hr hbl hu => by
    obtain ⟨c, g, rfl, rfl, h1, h2⟩ := h
    exact load16 disk1 w c g F s at_ room h1 hD hT hr hbl
  save := fun w q p F G s at_ room v d h hD hd hT hFT h1 hr hbl hu hv hnf hb hl => by
    obtain ⟨c, g, rfl, rfl, h1, h2⟩ := h
    exact save16 disk1 w c g F s at_ room v d h1 hD (fun hf => hd c hf ((h2 c).2 rfl)) hT hFT hr hbl hu hv hnf hb hl
end Go.Proofs.YthnpdcblfocemaaGreatDoor
set_option linter.unusedVariables false
set_option linter.unusedSimpArgs false
namespace Go.Proofs.YthnpdcblfocemaaGreatDoor
open Go.RowKit

structure Pst (w : World) (c : Nat) (a b : Addr) (bg : Bool) : Prop where
  c0 : w.cell? ⟨c, 0, none⟩ = some (.pointer (some a))
  c1 : w.cell? ⟨c, 1, none⟩ = some (.pointer (some b))
  c2 : w.cell? ⟨c, 2, none⟩ = some (.bool bg)
  f2 : w.frozen? ⟨c, 2, none⟩ = false
theorem Pst.lt {w : World} {c : Nat} {a b : Addr} {bg : Bool} (h : Pst w c a b bg) : c < w.heap.size := World.block_lt_of_cell? _ _ h.c0
theorem Pst.kept {w w' : World} {c : Nat} {a b : Addr} {bg : Bool} (h : Pst w c a b bg) (k : w'.heap[c]? = w.heap[c]?) : Pst w' c a b bg :=
  ⟨cell_blk5 (a := ⟨c, 0, none⟩) k h.c0, cell_blk5 (a := ⟨c, 1, none⟩) k h.c1, cell_blk5 (a := ⟨c, 2, none⟩) k h.c2, frz_blk5 (a := ⟨c, 2, none⟩) k h.f2⟩
theorem Pst.later {w w' : World} {c : Nat} {a b : Addr} {bg : Bool} (h : Pst w c a b bg) (k : Below w.heap.size w w') : Pst w' c a b bg := h.kept (k.block _ h.lt)
theorem Pst.set {w : World} {c : Nat} {a b : Addr} {bg : Bool} (h : Pst w c a b bg) (v : Bool) : Pst (w.setCell ⟨c, 2, none⟩ (.bool v)) c a b v :=
  ⟨far5 h.c0 (by decide), far5 h.c1 (by decide), same5 h.c2, (World.frozen?_setCell _ _ _ _).trans h.f2⟩
theorem made18 {w : World} {c : Nat} {a b : Addr} {bg : Bool} (h : Pst w c a b bg) : Calls Tryz.prog 31 #[.pointer (some ⟨c, 0, none⟩)] w fun e w' => e = .returned (.bool true) ∧ w' = w := by
  have c0 := h.c0
  clear h
  go_enter Tryz.func31, Tryz.ntmps31
  go_wp2
  go_ret
  exact ⟨rfl, rfl⟩
theorem begun18 {w : World} {c : Nat} {a b : Addr} {bg : Bool} (h : Pst w c a b bg) : Calls Tryz.prog 24 #[.pointer (some ⟨c, 0, none⟩)] w fun e w' => e = .returned (.bool bg) ∧ w' = w := by
  have hm := made18 h
  have c2 := h.c2
  clear h
  go_enter Tryz.func24, Tryz.ntmps24
  go_wp2_with (go_at_call 31; refine hm.mono ?_; rintro e w' ⟨rfl, hw⟩; replace hw := hw.symm; subst hw; clear hm)
  go_ret
  exact ⟨rfl, rfl⟩
def unh (k : Int) : Bool := decide (k = 0 ∨ k = 3 ∨ k = 170)
theorem unharmed18 (w : World) (k : Int) : Calls Tryz.prog 33 #[.int .i64 k] w fun e w' => e = .returned (.bool (unh k)) ∧ w' = w := by
  by_cases h0 : k = 0
  · subst h0
    go_enter Tryz.func33, Tryz.ntmps33
    go_wp2
    go_ret
    exact ⟨rfl, rfl⟩
  by_cases h3 : k = 3
  · subst h3
    go_enter Tryz.func33, Tryz.ntmps33
    go_wp2
    go_ret
    exact ⟨rfl, rfl⟩
  by_cases h7 : k = 170
  · subst h7
    go_enter Tryz.func33, Tryz.ntmps33
    go_wp2
    go_ret
    exact ⟨rfl, rfl⟩
  have e : unh k = false := by unfold unh; exact decide_eq_false (by omega)
  have b0 : (k == 0) = false := by rw [beq_eq_false_iff_ne]; exact h0
  have b3 : (k == 3) = false := by rw [beq_eq_false_iff_ne]; exact h3
  have b7 : (k == 170) = false := by rw [beq_eq_false_iff_ne]; exact h7
  rw [e]
  go_enter Tryz.func33, Tryz.ntmps33
  go_wp2
  go_ret
  exact ⟨rfl, rfl⟩
theorem savedef18 (w : World) (be bx c : Nat) (a b : Addr) (bg v : Bool) (k : Int) (u : FrameMode) (h : Pst w c a b bg) (x0 : w.cell? ⟨be, 0, none⟩ = some (.pointer (some ⟨c, 0, none⟩))) (x1 : w.cell? ⟨bx, 0, none⟩ = some (.int .i64 k)) (hv : (k == 0) = v) :
    CallsD Tryz.prog 36 #[.pointer (some ⟨bx, 0, none⟩), .pointer (some ⟨be, 0, none⟩)] u w fun e u' w' => u' = u ∧ e = .returned (.tuple #[]) ∧ w' = w.setCell ⟨c, 2, none⟩ (.bool v) := by
  have c2 := h.c2
  have f2 := h.f2
  clear h
  go_enter_d Tryz.func36, Tryz.ntmps36
  go_wp2
  go_end0
  exact ⟨rfl, rfl⟩
theorem appdef18 (w : World) (be bx c : Nat) (a b : Addr) (bg : Bool) (k : Int) (u : FrameMode) (h : Pst w c a b bg) (x0 : w.cell? ⟨be, 0, none⟩ = some (.pointer (some ⟨c, 0, none⟩))) (x1 : w.cell? ⟨bx, 0, none⟩ = some (.int .i64 k)) :
    CallsD Tryz.prog 32 #[.pointer (some ⟨bx, 0, none⟩), .pointer (some ⟨be, 0, none⟩)] u w fun e u' w' => u' = u ∧ e = .returned (.tuple #[]) ∧ ∃ W, Below w.heap.size w W ∧ W.heap = w.heap ∧ w' = W.setCell ⟨c, 2, none⟩ (.bool (unh k)) := by
  have c2 := h.c2
  have f2 := h.f2
  have hu := fun W => unharmed18 W k
  clear h
  go_enter_d Tryz.func32, Tryz.ntmps32
  go_region_with (go_at_call 33; refine (hu _).mono ?_; rintro e w' ⟨rfl, hw⟩; replace hw := hw.symm; subst hw)
  all_goals (try go_wp2)
  all_goals go_end0
  all_goals
  exact ⟨rfl, _, (Below.refl _ _).drew, rfl, rfl⟩
end Go.Proofs.YthnpdcblfocemaaGreatDoor
