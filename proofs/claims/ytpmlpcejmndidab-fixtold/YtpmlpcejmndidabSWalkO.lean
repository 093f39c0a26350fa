/-
  The contract of regattaref02's Float, walked.
-/
import Derived.Test.YtpmlpcejmndidabSWalkN
set_option linter.unusedVariables false
set_option linter.unusedSimpArgs false
namespace Go.Proofs.Ytpmlpcejmndidab
open Go.RowKit

theorem fb_rung (a : Int) (ha : a ≠ 0) : ((fb a : Nat) : Int) = (((a.natAbs.log2 : Int) + 990) * 4503599627370496 + (kp a.natAbs : Int)) + (if a < 0 then 9223372036854775808 else 0) := by
  rw [fb_int a ha]
  split <;> omega
set_option maxHeartbeats 4000000 in
theorem sfloat_any (a : Int) (a0 : -9223372036854775808 ≤ a) (a1 : a ≤ 9223372036854775807) (w : World) :
    Calls Try.prog 15 #[.int .i64 a] w fun e w' => e = .returned (.int .u64 (fb a : Nat)) ∧ Below w.heap.size w w' := by
  by_cases hz : a = 0
  · subst hz
    have h0 : fb 0 = 0 := rfl
    rw [h0]
    go_enter Try.func15, Try.ntmps15
    go_wp2
    go_ret
    exact ⟨rfl, Below.refl _ _⟩
  · have hfb := fb_rung a hz
    have hm : a.natAbs ≠ 0 := by omega
    have hm1 : a.natAbs ≤ 9223372036854775808 := by omega
    have hab : ab a = (a.natAbs : Int) := by unfold ab; split <;> omega
    have SZ : Hid (∀ W : World, Calls Try.prog 31 #[.int .i64 a] W fun e w' => e = .returned (.int .u64 (a.natAbs : Int)) ∧ w' = W) := by
      intro W
      rw [← hab]
      exact ssize_any a a0 a1 W
    have TT := fun j t Z P h0 h1 hZ t0 t1 => told_tail a.natAbs j t Z P hm hm1 h0 h1 hZ t0 t1
    have HF : Hid (((fb a : Nat) : Int) = (((a.natAbs.log2 : Int) + 990) * 4503599627370496 + (kp a.natAbs : Int)) + (if a < 0 then 9223372036854775808 else 0)) := hfb
    have HR : 0 ≤ (((a.natAbs.log2 : Int) + 990) * 4503599627370496 + (kp a.natAbs : Int)) ∧ (((a.natAbs.log2 : Int) + 990) * 4503599627370496 + (kp a.natAbs : Int)) < 9223372036854775808 := by
      have hl := log2_le63 _ hm hm1
      have := kp_rng _ hm hm1
      omega
    clear hfb hab
    have M0 : 0 ≤ (a.natAbs : Int) := by omega
    have M2 : 1 ≤ (a.natAbs : Int) := by omega
    have M1 : (a.natAbs : Int) ≤ 9223372036854775808 := by omega
    generalize ((a.natAbs.log2 : Int) + 990) * 4503599627370496 + (kp a.natAbs : Int) = R at *
    generalize (a.natAbs : Int) = M at *
    clear hm hm1
    go_enter Try.func15, Try.ntmps15
    go_wp2_with fail
    refine (SZ.out _).mono ?_
    rintro e w1 ⟨rfl, hw⟩
    subst hw
    clear SZ
    go_wp2
    go_loopw [3, 4, 5, 6] (fun m p l r wr => ∃ j : Nat, j ≤ 63 ∧ m = .int .u64 (M / 2 ^ j) ∧ p = .int .i64 (1043 + (j : Int)) ∧ l = .int .u64 (lastB M j) ∧ r = .int .u64 (restB M j) ∧ (j = 0 ∨ 9007199254740992 ≤ M / 2 ^ (j - 1)) ∧ Below w1.heap.size w1 wr) (fun m _ _ _ _ => (intOf m).toNat)
    case atStart => exact ⟨0, by omega, by rw [Int.pow_zero, Int.ediv_one], rfl, rfl, by unfold restB; rw [if_pos (by omega)], .inl rfl, Below.refl _ _⟩
    case round =>
      obtain ⟨j, hj, rfl, rfl, rfl, rfl, hJ, hW⟩ := hrel
      have hp := pow_pos' j
      have m0 : 0 ≤ M / 2 ^ j := Int.ediv_nonneg M0 (by omega)
      have m1 : M / 2 ^ j ≤ M := Int.ediv_le_self _ M0
      by_cases hge : 9007199254740992 ≤ M / 2 ^ j
      · have hor := rest_step M j
        have hj62 : j ≤ 62 := by
          by_cases h : j ≤ 62
          · exact h
          · exfalso
            obtain rfl : j = 63 := by omega
            have : M / 2 ^ 63 ≤ 1 := by
              have e : (2 : Int) ^ 63 = 9223372036854775808 := rfl
              rw [e]; omega
            omega
        have HL : Hid (M / 2 ^ j % 2 = lastB M (j + 1)) := by show _ = _; unfold lastB; rw [if_neg (by omega), show j + 1 - 1 = j by omega]
        have HD : Hid (M / 2 ^ j / 2 = M / 2 ^ (j + 1)) := by show _ = _; rw [Int.ediv_ediv_of_nonneg (by omega), Int.pow_succ]
        have t1 := Int.tmod_eq_emod_of_nonneg (b := 2) m0
        have t2 := Int.tdiv_eq_ediv_of_nonneg (b := 2) m0
        have t3 := wrap_small (M / 2 ^ j % 2) (by omega) (by omega)
        have t4 := wrap_small (M / 2 ^ j / 2) (by omega) (by omega)
        clear hp
        go_wp2
        go_roundw
        case rel => exact ⟨j + 1, by omega, by rw [HD.out], by rw [show ((j + 1 : Nat) : Int) = (j : Int) + 1 by omega, Int.add_assoc], by rw [HL.out], rfl, .inr (by rw [show j + 1 - 1 = j by omega]; exact hge), hW⟩
        case measure => simp [intOf]; omega
      · have hU := up_iff M j M0
        have L01 := lastB_01 M j
        have R01 := restB_01 M j
        have P01 : M / 2 ^ j % 2 = 0 ∨ M / 2 ^ j % 2 = 1 := by omega
        have t1 := Int.tmod_eq_emod_of_nonneg (b := 2) m0
        have t2 := wrap_small (M / 2 ^ j % 2) (by omega) (by omega)
        have hcase : (lastB M j = 0 ∧ rr M j = M / 2 ^ j) ∨ (lastB M j = 1 ∧ restB M j = 0 ∧ M / 2 ^ j % 2 = 0 ∧ rr M j = M / 2 ^ j) ∨ (lastB M j = 1 ∧ restB M j = 1 ∧ rr M j = M / 2 ^ j + 1) ∨ (lastB M j = 1 ∧ restB M j = 0 ∧ M / 2 ^ j % 2 = 1 ∧ rr M j = M / 2 ^ j + 1) := by
          rcases L01 with h1 | h1
          · exact .inl ⟨h1, by rw [hU, if_neg (by omega)]⟩
          · rcases R01 with h2 | h2
            · rcases P01 with h3 | h3
              · exact .inr (.inl ⟨h1, h2, h3, by rw [hU, if_neg (by omega)]⟩)
              · exact .inr (.inr (.inr ⟨h1, h2, h3, by rw [hU, if_pos (by omega)]⟩))
            · exact .inr (.inr (.inl ⟨h1, h2, by rw [hU, if_pos (by omega)]⟩))
        clear hU L01 R01 P01 hp
        have hX1 : rr M j = M / 2 ^ j → 1 ≤ M / 2 ^ j := by
          intro h
          by_cases hx : 1 ≤ M / 2 ^ j
          · exact hx
          · exfalso
            by_cases hj0 : j = 0
            · subst hj0
              rw [Int.pow_zero, Int.ediv_one] at hx
              omega
            · have e : M / 2 ^ j = M / 2 ^ (j - 1) / 2 := by rw [Int.ediv_ediv_of_nonneg (by have := pow_pos' (j - 1); omega), ← Int.pow_succ, show (j - 1).succ = j by omega]
              rcases hJ with h' | h'
              · exact hj0 h'
              · omega
        generalize lastB M j = l at *
        generalize restB M j = r at *
        generalize hXX : M / 2 ^ j = X at *
        rcases hcase with ⟨rfl, hZ⟩ | ⟨rfl, rfl, hb0, hZ⟩ | ⟨rfl, rfl, hZ⟩ | ⟨rfl, rfl, hb1, hZ⟩
        · have hX := hX1 hZ
          have h53 : ¬ X = 9007199254740992 := by omega
          clear hX1
          go_wp2
          go_loopw [3, 4] (fun m p wr => ∃ t : Nat, t ≤ 60 ∧ m = .int .u64 (X * 2 ^ t) ∧ p = .int .i64 (1043 + (j : Int) - (t : Int)) ∧ (t = 0 ∨ X * 2 ^ (t - 1) < 4503599627370496) ∧ Below w1.heap.size w1 wr) (fun m _ _ => (9007199254740992 - intOf m).toNat)
          case atStart => exact ⟨0, by omega, by rw [Int.pow_zero, Int.mul_one], by simp, .inl rfl, hW⟩
          case round =>
            clear hW
            obtain ⟨t, ht, rfl, rfl, hT, hW⟩ := hrel
            have hp := pow_pos' t
            have hle : X * 1 ≤ X * 2 ^ t := Int.mul_le_mul_of_nonneg_left hp (show (0 : Int) ≤ X by omega)
            rw [Int.mul_one] at hle
            by_cases hlt : X * 2 ^ t < 4503599627370496
            · have ht52 : t ≤ 52 := by
                by_cases h : t ≤ 52
                · exact h
                · exfalso
                  have h1 : (2 : Nat) ^ 53 ≤ 2 ^ t := Nat.pow_le_pow_right (by omega) (by omega)
                  have h2 : ((2 ^ 53 : Nat) : Int) ≤ ((2 ^ t : Nat) : Int) := Int.ofNat_le.2 h1
                  have h3 : ((2 ^ 53 : Nat) : Int) = 9007199254740992 := by decide
                  rw [h3, Int.natCast_pow] at h2
                  have h4 : (9007199254740992 : Int) ≤ 2 ^ t := h2
                  have h5 := Int.mul_le_mul_of_nonneg_right (show (1 : Int) ≤ X by omega) (show (0 : Int) ≤ 2 ^ t by omega)
                  rw [Int.one_mul] at h5
                  omega
              have HN : Hid (2 * (X * 2 ^ t) = X * 2 ^ (t + 1)) := by show _ = _; rw [Int.pow_succ, Int.mul_comm 2, Int.mul_assoc]
              clear hp
              go_wp2
              go_roundw
              case rel => exact ⟨t + 1, by omega, by rw [HN.out], by rw [show ((t + 1 : Nat) : Int) = (t : Int) + 1 by omega, Int.sub_sub], .inr (by rw [show t + 1 - 1 = t by omega]; exact hlt), hW⟩
              case measure => simp [intOf]; omega
            · obtain ⟨q0, q1, q2, q3⟩ := TT j t (X) (1043 + (j : Int)) hJ (by omega) (.inl ⟨hZ.symm, rfl, h53⟩) hT (by omega)
              clear TT hT hp
              generalize X * 2 ^ t = Y at *
              generalize 1043 + (j : Int) - (t : Int) = Q at *
              have y1 := wrap_small Q (by omega) (by omega)
              have y2 := wrap_small (Q * 4503599627370496) (by omega) (by omega)
              by_cases hn : a < 0
              · have HF2 : Hid (((fb a : Nat) : Int) = R + 9223372036854775808) := by
                  have h := HF.out
                  rw [if_pos hn] at h
                  exact h
                clear HF
                have q4 : Q * 4503599627370496 + Y - 4503599627370496 + 9223372036854775808 = R + 9223372036854775808 := by omega
                go_wp2
                go_ret
                refine ⟨?_, hW⟩
                rw [HF2.out, ← q4]
                rfl
              · have HF2 : Hid (((fb a : Nat) : Int) = R) := by
                  have h := HF.out
                  rw [if_neg hn, Int.add_zero] at h
                  exact h
                clear HF
                go_wp2
                go_ret
                refine ⟨?_, hW⟩
                rw [HF2.out, ← q0]
                rfl
        · have hX := hX1 hZ
          have h53 : ¬ X = 9007199254740992 := by omega
          clear hX1
          go_wp2
          go_loopw [3, 4] (fun m p wr => ∃ t : Nat, t ≤ 60 ∧ m = .int .u64 (X * 2 ^ t) ∧ p = .int .i64 (1043 + (j : Int) - (t : Int)) ∧ (t = 0 ∨ X * 2 ^ (t - 1) < 4503599627370496) ∧ Below w1.heap.size w1 wr) (fun m _ _ => (9007199254740992 - intOf m).toNat)
          case atStart => exact ⟨0, by omega, by rw [Int.pow_zero, Int.mul_one], by simp, .inl rfl, hW⟩
          case round =>
            clear hW
            obtain ⟨t, ht, rfl, rfl, hT, hW⟩ := hrel
            have hp := pow_pos' t
            have hle : X * 1 ≤ X * 2 ^ t := Int.mul_le_mul_of_nonneg_left hp (show (0 : Int) ≤ X by omega)
            rw [Int.mul_one] at hle
            by_cases hlt : X * 2 ^ t < 4503599627370496
            · have ht52 : t ≤ 52 := by
                by_cases h : t ≤ 52
                · exact h
                · exfalso
                  have h1 : (2 : Nat) ^ 53 ≤ 2 ^ t := Nat.pow_le_pow_right (by omega) (by omega)
                  have h2 : ((2 ^ 53 : Nat) : Int) ≤ ((2 ^ t : Nat) : Int) := Int.ofNat_le.2 h1
                  have h3 : ((2 ^ 53 : Nat) : Int) = 9007199254740992 := by decide
                  rw [h3, Int.natCast_pow] at h2
                  have h4 : (9007199254740992 : Int) ≤ 2 ^ t := h2
                  have h5 := Int.mul_le_mul_of_nonneg_right (show (1 : Int) ≤ X by omega) (show (0 : Int) ≤ 2 ^ t by omega)
                  rw [Int.one_mul] at h5
                  omega
              have HN : Hid (2 * (X * 2 ^ t) = X * 2 ^ (t + 1)) := by show _ = _; rw [Int.pow_succ, Int.mul_comm 2, Int.mul_assoc]
              clear hp
              go_wp2
              go_roundw
              case rel => exact ⟨t + 1, by omega, by rw [HN.out], by rw [show ((t + 1 : Nat) : Int) = (t : Int) + 1 by omega, Int.sub_sub], .inr (by rw [show t + 1 - 1 = t by omega]; exact hlt), hW⟩
              case measure => simp [intOf]; omega
            · obtain ⟨q0, q1, q2, q3⟩ := TT j t (X) (1043 + (j : Int)) hJ (by omega) (.inl ⟨hZ.symm, rfl, h53⟩) hT (by omega)
              clear TT hT hp
              generalize X * 2 ^ t = Y at *
              generalize 1043 + (j : Int) - (t : Int) = Q at *
              have y1 := wrap_small Q (by omega) (by omega)
              have y2 := wrap_small (Q * 4503599627370496) (by omega) (by omega)
              by_cases hn : a < 0
              · have HF2 : Hid (((fb a : Nat) : Int) = R + 9223372036854775808) := by
                  have h := HF.out
                  rw [if_pos hn] at h
                  exact h
                clear HF
                have q4 : Q * 4503599627370496 + Y - 4503599627370496 + 9223372036854775808 = R + 9223372036854775808 := by omega
                go_wp2
                go_ret
                refine ⟨?_, hW⟩
                rw [HF2.out, ← q4]
                rfl
              · have HF2 : Hid (((fb a : Nat) : Int) = R) := by
                  have h := HF.out
                  rw [if_neg hn, Int.add_zero] at h
                  exact h
                clear HF
                go_wp2
                go_ret
                refine ⟨?_, hW⟩
                rw [HF2.out, ← q0]
                rfl
        all_goals
          clear hX1
          by_cases h53 : X + 1 = 9007199254740992
          · go_wp2
            go_loopw [3, 4] (fun m p wr => ∃ t : Nat, t ≤ 60 ∧ m = .int .u64 ((4503599627370496 : Int) * 2 ^ t) ∧ p = .int .i64 (1043 + (j : Int) + 1 - (t : Int)) ∧ (t = 0 ∨ (4503599627370496 : Int) * 2 ^ (t - 1) < 4503599627370496) ∧ Below w1.heap.size w1 wr) (fun m _ _ => (9007199254740992 - intOf m).toNat)
            case atStart => exact ⟨0, by omega, by rw [Int.pow_zero, Int.mul_one], by simp, .inl rfl, hW⟩
            case round =>
              clear hW
              obtain ⟨t, ht, rfl, rfl, hT, hW⟩ := hrel
              have hp := pow_pos' t
              have hle : (4503599627370496 : Int) * 1 ≤ (4503599627370496 : Int) * 2 ^ t := Int.mul_le_mul_of_nonneg_left hp (show (0 : Int) ≤ 4503599627370496 by omega)
              rw [Int.mul_one] at hle
              by_cases hlt : (4503599627370496 : Int) * 2 ^ t < 4503599627370496
              · have ht52 : t ≤ 52 := by
                  by_cases h : t ≤ 52
                  · exact h
                  · exfalso
                    have h1 : (2 : Nat) ^ 53 ≤ 2 ^ t := Nat.pow_le_pow_right (by omega) (by omega)
                    have h2 : ((2 ^ 53 : Nat) : Int) ≤ ((2 ^ t : Nat) : Int) := Int.ofNat_le.2 h1
                    have h3 : ((2 ^ 53 : Nat) : Int) = 9007199254740992 := by decide
                    rw [h3, Int.natCast_pow] at h2
                    have h4 : (9007199254740992 : Int) ≤ 2 ^ t := h2
                    have h5 := Int.mul_le_mul_of_nonneg_right (show (1 : Int) ≤ 4503599627370496 by omega) (show (0 : Int) ≤ 2 ^ t by omega)
                    rw [Int.one_mul] at h5
                    omega
                have HN : Hid (2 * ((4503599627370496 : Int) * 2 ^ t) = (4503599627370496 : Int) * 2 ^ (t + 1)) := by show _ = _; rw [Int.pow_succ, Int.mul_comm 2, Int.mul_assoc]
                clear hp
                go_wp2
                go_roundw
                case rel => exact ⟨t + 1, by omega, by rw [HN.out], by rw [show ((t + 1 : Nat) : Int) = (t : Int) + 1 by omega, Int.sub_sub], .inr (by rw [show t + 1 - 1 = t by omega]; exact hlt), hW⟩
                case measure => simp [intOf]; omega
              · obtain ⟨q0, q1, q2, q3⟩ := TT j t (4503599627370496) (1043 + (j : Int) + 1) hJ (by omega) (.inr ⟨by omega, rfl, by omega⟩) hT (by omega)
                clear TT hT hp
                generalize (4503599627370496 : Int) * 2 ^ t = Y at *
                generalize 1043 + (j : Int) + 1 - (t : Int) = Q at *
                have y1 := wrap_small Q (by omega) (by omega)
                have y2 := wrap_small (Q * 4503599627370496) (by omega) (by omega)
                by_cases hn : a < 0
                · have HF2 : Hid (((fb a : Nat) : Int) = R + 9223372036854775808) := by
                    have h := HF.out
                    rw [if_pos hn] at h
                    exact h
                  clear HF
                  have q4 : Q * 4503599627370496 + Y - 4503599627370496 + 9223372036854775808 = R + 9223372036854775808 := by omega
                  go_wp2
                  go_ret
                  refine ⟨?_, hW⟩
                  rw [HF2.out, ← q4]
                  rfl
                · have HF2 : Hid (((fb a : Nat) : Int) = R) := by
                    have h := HF.out
                    rw [if_neg hn, Int.add_zero] at h
                    exact h
                  clear HF
                  go_wp2
                  go_ret
                  refine ⟨?_, hW⟩
                  rw [HF2.out, ← q0]
                  rfl
          · go_wp2
            go_loopw [3, 4] (fun m p wr => ∃ t : Nat, t ≤ 60 ∧ m = .int .u64 ((X + 1) * 2 ^ t) ∧ p = .int .i64 (1043 + (j : Int) - (t : Int)) ∧ (t = 0 ∨ (X + 1) * 2 ^ (t - 1) < 4503599627370496) ∧ Below w1.heap.size w1 wr) (fun m _ _ => (9007199254740992 - intOf m).toNat)
            case atStart => exact ⟨0, by omega, by rw [Int.pow_zero, Int.mul_one], by simp, .inl rfl, hW⟩
            case round =>
              clear hW
              obtain ⟨t, ht, rfl, rfl, hT, hW⟩ := hrel
              have hp := pow_pos' t
              have hle : (X + 1) * 1 ≤ (X + 1) * 2 ^ t := Int.mul_le_mul_of_nonneg_left hp (show (0 : Int) ≤ (X + 1) by omega)
              rw [Int.mul_one] at hle
              by_cases hlt : (X + 1) * 2 ^ t < 4503599627370496
              · have ht52 : t ≤ 52 := by
                  by_cases h : t ≤ 52
                  · exact h
                  · exfalso
                    have h1 : (2 : Nat) ^ 53 ≤ 2 ^ t := Nat.pow_le_pow_right (by omega) (by omega)
                    have h2 : ((2 ^ 53 : Nat) : Int) ≤ ((2 ^ t : Nat) : Int) := Int.ofNat_le.2 h1
                    have h3 : ((2 ^ 53 : Nat) : Int) = 9007199254740992 := by decide
                    rw [h3, Int.natCast_pow] at h2
                    have h4 : (9007199254740992 : Int) ≤ 2 ^ t := h2
                    have h5 := Int.mul_le_mul_of_nonneg_right (show (1 : Int) ≤ (X + 1) by omega) (show (0 : Int) ≤ 2 ^ t by omega)
                    rw [Int.one_mul] at h5
                    omega
                have HN : Hid (2 * ((X + 1) * 2 ^ t) = (X + 1) * 2 ^ (t + 1)) := by show _ = _; rw [Int.pow_succ, Int.mul_comm 2, Int.mul_assoc]
                clear hp
                go_wp2
                go_roundw
                case rel => exact ⟨t + 1, by omega, by rw [HN.out], by rw [show ((t + 1 : Nat) : Int) = (t : Int) + 1 by omega, Int.sub_sub], .inr (by rw [show t + 1 - 1 = t by omega]; exact hlt), hW⟩
                case measure => simp [intOf]; omega
              · obtain ⟨q0, q1, q2, q3⟩ := TT j t ((X + 1)) (1043 + (j : Int)) hJ (by omega) (.inl ⟨hZ.symm, rfl, h53⟩) hT (by omega)
                clear TT hT hp
                generalize (X + 1) * 2 ^ t = Y at *
                generalize 1043 + (j : Int) - (t : Int) = Q at *
                have y1 := wrap_small Q (by omega) (by omega)
                have y2 := wrap_small (Q * 4503599627370496) (by omega) (by omega)
                by_cases hn : a < 0
                · have HF2 : Hid (((fb a : Nat) : Int) = R + 9223372036854775808) := by
                    have h := HF.out
                    rw [if_pos hn] at h
                    exact h
                  clear HF
                  have q4 : Q * 4503599627370496 + Y - 4503599627370496 + 9223372036854775808 = R + 9223372036854775808 := by omega
                  go_wp2
                  go_ret
                  refine ⟨?_, hW⟩
                  rw [HF2.out, ← q4]
                  rfl
                · have HF2 : Hid (((fb a : Nat) : Int) = R) := by
                    have h := HF.out
                    rw [if_neg hn, Int.add_zero] at h
                    exact h
                  clear HF
                  go_wp2
                  go_ret
                  refine ⟨?_, hW⟩
                  rw [HF2.out, ← q0]
                  rfl
end Go.Proofs.Ytpmlpcejmndidab
