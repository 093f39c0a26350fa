/-
  The document's reader (regattaref12.R): Uint.
-/
import Derived.Test.YtfcbgkcclganmaaDoorPkRefB
set_option linter.unusedVariables false
set_option linter.unusedSimpArgs false
namespace Go.Proofs.YtfcbgkcclganmaaDoor
open Go.RowKit

theorem pow7 {k : Nat} (h : k ≤ 9) : 2 ^ (7 * k) ≤ 9223372036854775808 := by
  have : 2 ^ (7 * k) ≤ 2 ^ 63 := Nat.pow_le_pow_right (by omega) (by omega)
  exact this
theorem pow7s (k : Nat) : 2 ^ (7 * (k + 1)) = 128 * 2 ^ (7 * k) := by
  rw [show 7 * (k + 1) = 7 + 7 * k by omega, Nat.pow_add]
/-- The numbers of a round. -/
theorem sum7 {k a x c : Nat} (hk : k ≤ 9) (ha : a < 2 ^ (7 * k)) (hx : x < 128) (hc : c % 128 = x) (h9 : ¬ (k = 9 ∧ 1 < c)) : a + x * 2 ^ (7 * k) < 18446744073709551616 ∧ x * 2 ^ (7 * k) < 18446744073709551616 := by
  have hp := pow7 hk
  by_cases e : k = 9
  · subst e
    have : x ≤ 1 := by omega
    have h2 : x * 2 ^ (7 * 9) ≤ 1 * 2 ^ (7 * 9) := Nat.mul_le_mul_right _ this
    omega
  · have hp2 : 2 ^ (7 * k) ≤ 72057594037927936 := by
      have : 2 ^ (7 * k) ≤ 2 ^ 56 := Nat.pow_le_pow_right (by omega) (by omega)
      exact this
    have h2 : x * 2 ^ (7 * k) ≤ 127 * 2 ^ (7 * k) := Nat.mul_le_mul_right _ (by omega)
    omega
theorem next7 {k a x : Nat} (ha : a < 2 ^ (7 * k)) (hx : x < 128) : a + x * 2 ^ (7 * k) < 2 ^ (7 * (k + 1)) := by
  rw [pow7s]
  have h2 : x * 2 ^ (7 * k) ≤ 127 * 2 ^ (7 * k) := Nat.mul_le_mul_right _ (by omega)
  omega
set_option maxRecDepth 100000 in
set_option maxHeartbeats 8000000 in
theorem refRUint0 (b : Nat) (l : List Nat) (v : Value) (p0 : Nat) (w : World) (hb : ∀ c ∈ l, c < 256) (hl : l.length ≤ 1000000) (h : R0 b l v p0 0 w) :
    Calls Tryd.prog 51 #[.pointer (some ⟨b, 0, none⟩)] w fun e w' => e = .returned (.int .u64 ((pv rU 0 (.ok (l.drop p0)) : Nat) : Int)) ∧ Rr b l v (pn rU (.ok (l.drop p0))) w' ∧ Kp (· = b) w w' := by
  have HR : Hid (R0 b l v p0 0 w) := h
  obtain ⟨ad, cap, rfl, k1, k2⟩ := h.bs.len
  unfold maxLen at k2
  obtain ⟨n, hN⟩ : ∃ n, l.length = n := ⟨_, rfl⟩
  have HN : Hid (l.length = n) := hN
  rw [hN] at k1 hl HR ⊢
  clear h hN
  go_enter Tryd.func51, Tryd.ntmps51
  go_upto_region 3 with fail
  go_loopw [3, 4] (fun s3 s4 wr => ∃ k a p : Nat, k ≤ 9 ∧ s3 = .int .u64 (a : Int) ∧ s4 = .int .i64 (k : Int) ∧ Hid (a < 2 ^ (7 * k)) ∧ Hid (R0 b l (.slice ad n cap) p 0 wr) ∧ Hid (rdU (l.drop p) k a = rU (l.drop p0)) ∧ Hid (Kp (· = b) w wr)) (fun _ s4 _ => 10 - (intOf s4).toNat)
  case atStart => exact ⟨0, 0, p0, by omega, rfl, rfl, by show (0 : Nat) < 1; omega, HR, rfl, Kp.refl _ _⟩
  case round =>
    obtain ⟨k, a, p, hk, rfl, rfl, HA, HR1, HE, HK⟩ := hrel
    have c0 := HR1.out.c0
    have c1 := HR1.out.c1
    have c2 := HR1.out.c2
    have hple : p ≤ n := by have := HR1.out.le; have := HN.out; omega
    by_cases hlt : p < n
    · have hltI : ¬ (n : Int) ≤ (p : Int) := by omega
      have hpI : (p : Int) < (n : Int) := by omega
      have hpp : IntKind.i64.wrap ((p : Int) + 1) = ((p + 1 : Nat) : Int) := by rw [IntKind.wrap_i64]; omega
      go_upto_region 4 with fail
      go_quiet (fail)
      have HR2 : Hid (R0 b l (.slice ad n cap) p 0 (wr.drewN nq)) := HR1.out.drew nq
      have HK2 : Hid (Kp (· = b) w (wr.drewN nq)) := HK.out.drewN nq
      clear HR1 HK c0 c1 c2
      generalize wr.drewN nq = wa at *
      have hN := HN.out
      obtain ⟨g, o, rfl, ca⟩ := HR2.out.bs.cel p (by omega)
      have HD : Hid (l.drop p = l.getD p 0 :: l.drop (p + 1)) := drop_cons (by omega)
      have hc := getD_byte hb p
      generalize l.getD p 0 = c at *
      have c0 := HR2.out.c0
      have c1 := HR2.out.c1
      clear hN
      go_upto_region 7 with fail
      go_quiet (fail)
      have HR3 : Hid (R0 b l (.slice (some ⟨g, o, none⟩) n cap) p 0 (wa.drewN nq)) := HR2.out.drew nq
      have HK3 : Hid (Kp (· = b) w (wa.drewN nq)) := HK2.out.drewN nq
      clear HR2 HK2 c0 c1 ca
      generalize wa.drewN nq = wb at *
      have c1 := HR3.out.c1
      have f1 := HR3.out.f1
      have HR4 : Hid (R0 b l (.slice (some ⟨g, o, none⟩) n cap) (p + 1) 0 (wb.setCell ⟨b, 1, none⟩ (.int .i64 ((p + 1 : Nat) : Int)))) := HR3.out.setAt (p + 1) (by have := HN.out; omega)
      clear HR
      by_cases h9 : k = 9
      · by_cases hc1 : 1 < c
        · have h9I : (k : Int) = 9 := by omega
          have hc1I : (1 : Int) < (c : Int) := by omega
          have HX : Hid (rU (l.drop p0) = .error 121) := by
            show _ = _
            rw [← HE.out, HD.out]
            exact rd_form ⟨h9, hc1⟩
          have HV : Hid (pv rU 0 (.ok (l.drop p0)) = 0) := pv_no HX.out
          have HP : Hid (pn rU (.ok (l.drop p0)) = .error 121) := pn_no HX.out
          clear HX HE HD
          clear h9
          go_wp2_with fail
          refine (refFail b 121 _ (HR4.out.c2) (HR4.out.f2)).mono ?_
          rintro e w4 ⟨rfl, rfl⟩
          go_wp2
          go_ret
          exact ⟨by rw [HV.out]; rfl, ⟨p + 1, 121, HR4.out.setE 121, by rw [HP.out]; exact ⟨rfl, by omega, by omega⟩⟩, kset (kset HK3.out _) _⟩
        · have h9I : (k : Int) = 9 := by omega
          have hc1I : ¬ (1 : Int) < (c : Int) := by omega
          have hc2I : (c : Int) < 128 := by omega
          obtain ⟨x, hx⟩ : ∃ x, c % 128 = x := ⟨_, rfl⟩
          have hx2 : x < 128 := by omega
          obtain ⟨s1, s2⟩ := sum7 hk HA.out hx2 hx (by omega)
          obtain ⟨y, hy⟩ : ∃ y, x * 2 ^ (7 * k) = y := ⟨_, rfl⟩
          obtain ⟨s, hs⟩ : ∃ s, a + c % 128 * 2 ^ (7 * k) = s := ⟨_, rfl⟩
          have HS : Hid (a + y = s) := by
            show _ = _
            rw [← hs, hx, hy]
          have hmul : IntKind.i64.wrap (7 * (k : Int)) = ((7 * k : Nat) : Int) := by rw [IntKind.wrap_i64]; omega
          have hrem : (c : Int).tmod 128 = (x : Int) := by rw [Int.tmod_eq_emod_of_nonneg (by omega)]; omega
          have hw1 : IntKind.u8.wrap (x : Int) = (x : Int) := by rw [IntKind.wrap_u8]; omega
          have hw2 : IntKind.u64.wrap (x : Int) = (x : Int) := by rw [IntKind.wrap_u64]; omega
          have hyI : (x : Int) * 2 ^ (7 * k) = (y : Int) := by rw [← hy, Int.natCast_mul, Int.natCast_pow]; rfl
          rw [hy] at s1 s2
          have hw3 : IntKind.u64.wrap (y : Int) = (y : Int) := by rw [IntKind.wrap_u64]; omega
          have hw4 : IntKind.u64.wrap ((a : Int) + (y : Int)) = (s : Int) := by have := HS.out; rw [IntKind.wrap_u64]; omega
          have h7 : (7 * k : Nat) < 64 := by omega
          have h70 : ¬ (((7 * k : Nat) : Int) < 0) := by omega
          have hw5 : IntKind.u64.wrap ((a : Int) + (x : Int) * 9223372036854775808) = (s : Int) := by
            have e : y = x * 9223372036854775808 := by rw [← hy, h9]
            have := HS.out
            rw [IntKind.wrap_u64]
            omega
          by_cases hz : c = 0
          · have hzI : (c : Int) = 0 := by omega
            have hkI : (0 : Int) < (k : Int) := by omega
            have HX : Hid (rU (l.drop p0) = .error 121) := by
              show _ = _
              rw [← HE.out, HD.out]
              exact rd_long (by omega) (by omega) (by omega)
            have HV : Hid (pv rU 0 (.ok (l.drop p0)) = 0) := pv_no HX.out
            have HP : Hid (pn rU (.ok (l.drop p0)) = .error 121) := pn_no HX.out
            clear HX HE HD
            clear h9 hs HS hz
            go_wp2_with fail
            refine (refFail b 121 _ (HR4.out.c2) (HR4.out.f2)).mono ?_
            rintro e w4 ⟨rfl, rfl⟩
            go_wp2
            go_ret
            exact ⟨by rw [HV.out]; rfl, ⟨p + 1, 121, HR4.out.setE 121, by rw [HP.out]; exact ⟨rfl, by omega, by omega⟩⟩, kset (kset HK3.out _) _⟩
          · have hzI : ¬ (c : Int) = 0 := by omega
            have HX : Hid (rU (l.drop p0) = .ok (a + c % 128 * 2 ^ (7 * k), l.drop (p + 1))) := by
              show _ = _
              rw [← HE.out, HD.out]
              exact rd_last (by omega) (by omega) (by omega)
            have HV : Hid (pv rU 0 (.ok (l.drop p0)) = s) := by
              show _ = _
              rw [pv_ok HX.out, hs]
            have HP : Hid (pn rU (.ok (l.drop p0)) = .ok (l.drop (p + 1))) := pn_ok HX.out
            clear HX HE HD HS hs
            go_wp2
            go_ret
            exact ⟨by rw [HV.out]; rfl, ⟨p + 1, 0, HR4.out, by rw [HP.out]; exact ⟨rfl, rfl⟩⟩, kset HK3.out _⟩
      · have h9I : ¬ (k : Int) = 9 := by omega
        obtain ⟨x, hx⟩ : ∃ x, c % 128 = x := ⟨_, rfl⟩
        have hx2 : x < 128 := by omega
        obtain ⟨s1, s2⟩ := sum7 hk HA.out hx2 hx (by omega)
        obtain ⟨y, hy⟩ : ∃ y, x * 2 ^ (7 * k) = y := ⟨_, rfl⟩
        obtain ⟨s, hs⟩ : ∃ s, a + c % 128 * 2 ^ (7 * k) = s := ⟨_, rfl⟩
        have HS : Hid (a + y = s) := by
          show _ = _
          rw [← hs, hx, hy]
        have hmul : IntKind.i64.wrap (7 * (k : Int)) = ((7 * k : Nat) : Int) := by rw [IntKind.wrap_i64]; omega
        have hrem : (c : Int).tmod 128 = (x : Int) := by rw [Int.tmod_eq_emod_of_nonneg (by omega)]; omega
        have hw1 : IntKind.u8.wrap (x : Int) = (x : Int) := by rw [IntKind.wrap_u8]; omega
        have hw2 : IntKind.u64.wrap (x : Int) = (x : Int) := by rw [IntKind.wrap_u64]; omega
        have hyI : (x : Int) * 2 ^ (7 * k) = (y : Int) := by rw [← hy, Int.natCast_mul, Int.natCast_pow]; rfl
        rw [hy] at s1 s2
        have hw3 : IntKind.u64.wrap (y : Int) = (y : Int) := by rw [IntKind.wrap_u64]; omega
        have hw4 : IntKind.u64.wrap ((a : Int) + (y : Int)) = (s : Int) := by have := HS.out; rw [IntKind.wrap_u64]; omega
        have h7 : (7 * k : Nat) < 64 := by omega
        have h70 : ¬ (((7 * k : Nat) : Int) < 0) := by omega
        by_cases hc2 : c < 128
        · have hc2I : (c : Int) < 128 := by omega
          by_cases hz : c = 0
          · have hzI : (c : Int) = 0 := by omega
            by_cases hk0 : 0 < k
            · have hkI : (0 : Int) < (k : Int) := by omega
              have HX : Hid (rU (l.drop p0) = .error 121) := by
                show _ = _
                rw [← HE.out, HD.out]
                exact rd_long (by omega) (by omega) (by omega)
              have HV : Hid (pv rU 0 (.ok (l.drop p0)) = 0) := pv_no HX.out
              have HP : Hid (pn rU (.ok (l.drop p0)) = .error 121) := pn_no HX.out
              clear HX HE HD
              clear hs HS hz
              go_wp2_with fail
              refine (refFail b 121 _ (HR4.out.c2) (HR4.out.f2)).mono ?_
              rintro e w4 ⟨rfl, rfl⟩
              go_wp2
              go_ret
              exact ⟨by rw [HV.out]; rfl, ⟨p + 1, 121, HR4.out.setE 121, by rw [HP.out]; exact ⟨rfl, by omega, by omega⟩⟩, kset (kset HK3.out _) _⟩
            · have hkI : ¬ (0 : Int) < (k : Int) := by omega
              have HSA : Hid (s = a) := by
                show _ = _
                have e : y = 0 := by rw [← hy, ← hx, hz]; simp
                have := HS.out
                omega
              have HX : Hid (rU (l.drop p0) = .ok (a + c % 128 * 2 ^ (7 * k), l.drop (p + 1))) := by
                show _ = _
                rw [← HE.out, HD.out]
                exact rd_last (by omega) (by omega) (by omega)
              have HV : Hid (pv rU 0 (.ok (l.drop p0)) = s) := by
                show _ = _
                rw [pv_ok HX.out, hs]
              have HP : Hid (pn rU (.ok (l.drop p0)) = .ok (l.drop (p + 1))) := pn_ok HX.out
              clear HX HE HD HS hs
              go_wp2
              go_ret
              exact ⟨by rw [HV.out, HSA.out]; rfl, ⟨p + 1, 0, HR4.out, by rw [HP.out]; exact ⟨rfl, rfl⟩⟩, kset HK3.out _⟩
          · have hzI : ¬ (c : Int) = 0 := by omega
            have HX : Hid (rU (l.drop p0) = .ok (a + c % 128 * 2 ^ (7 * k), l.drop (p + 1))) := by
              show _ = _
              rw [← HE.out, HD.out]
              exact rd_last (by omega) (by omega) (by omega)
            have HV : Hid (pv rU 0 (.ok (l.drop p0)) = s) := by
              show _ = _
              rw [pv_ok HX.out, hs]
            have HP : Hid (pn rU (.ok (l.drop p0)) = .ok (l.drop (p + 1))) := pn_ok HX.out
            clear HX HE HD HS hs
            go_wp2
            go_ret
            exact ⟨by rw [HV.out]; rfl, ⟨p + 1, 0, HR4.out, by rw [HP.out]; exact ⟨rfl, rfl⟩⟩, kset HK3.out _⟩
        · have hc2I : ¬ (c : Int) < 128 := by omega
          have HE2 : Hid (rdU (l.drop (p + 1)) (k + 1) s = rU (l.drop p0)) := by
            show _ = _
            rw [← HE.out, HD.out, rd_more (by omega) (by omega), hs]
          have HA2 : Hid (s < 2 ^ (7 * (k + 1))) := by
            show _ < _
            rw [← hs, hx]
            exact next7 HA.out hx2
          clear HE HD HS hs hx hy
          go_wp2
          go_roundw
          case rel => exact ⟨k + 1, s, p + 1, by omega, rfl, by go_num, HA2, HR4, HE2, kset HK3.out _⟩
          case measure => simp [intOf]; omega
    · obtain rfl : p = n := by omega
      have hltI : (p : Int) ≤ (p : Int) := by omega
      have HX : Hid (rU (l.drop p0) = .error 120) := by
        show _ = _
        rw [← HE.out, List.drop_eq_nil_of_le (by have := HN.out; omega)]
        rfl
      have HV : Hid (pv rU 0 (.ok (l.drop p0)) = 0) := pv_no HX.out
      have HP : Hid (pn rU (.ok (l.drop p0)) = .error 120) := pn_no HX.out
      clear HX HE HR
      go_upto_region 4 with fail
      go_quiet (fail)
      have HR2 : Hid (R0 b l (.slice ad p cap) p 0 (wr.drewN nq)) := HR1.out.drew nq
      have HK2 : Hid (Kp (· = b) w (wr.drewN nq)) := HK.out.drewN nq
      clear HR1 HK c0 c1 c2
      generalize wr.drewN nq = wa at *
      go_wp2_with fail
      refine (refFail b 120 _ (HR2.out.c2) (HR2.out.f2)).mono ?_
      rintro e w4 ⟨rfl, rfl⟩
      go_wp2
      go_ret
      exact ⟨by rw [HV.out]; rfl, ⟨p, 120, HR2.out.setE 120, by rw [HP.out]; exact ⟨rfl, by omega, by omega⟩⟩, kset HK2.out _⟩
end Go.Proofs.YtfcbgkcclganmaaDoor
