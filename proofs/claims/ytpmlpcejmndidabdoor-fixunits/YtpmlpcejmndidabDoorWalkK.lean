/-
  The contract of math/bits.Div64 where the high word is not nought: the walk, over the names of its words.
-/
import Derived.Test.YtpmlpcejmndidabDoorWalkJ
import Derived.Test.YtpmlpcejmndidabDoorMath5
import Derived.Deep.CutBlock
import Derived.Deep.DeepCutAuto
set_option linter.unusedVariables false
set_option linter.unusedSimpArgs false
namespace Go.Proofs.YtpmlpcejmndidabDoor
open Go.RowKit

theorem wrap_dec (q : Int) (q0 : 1 ≤ q) (q1 : q ≤ 18446744073709551615) : IntKind.u64.wrap (q - 1) = q - 1 := by rw [IntKind.wrap_u64]; omega

set_option maxHeartbeats 2000000 in
theorem div64_core (h l y : Int) (s : Nat) (V Y1 Y0 U T T1 T0 : Int) (h0 : 1 ≤ h) (hy : h < y) (hs1 : s ≤ 63)
    (r1 : IntKind.u64.wrap (y * 2 ^ s) = V) (r2 : V / 4294967296 = Y1) (r3 : bits .and .u64 V 4294967295 = Y0)
    (r4 : bits .or .u64 (IntKind.u64.wrap (h * 2 ^ s)) (l / 2 ^ (64 - s)) = U)
    (r5 : IntKind.u64.wrap (l * 2 ^ s) = T) (r6 : T / 4294967296 = T1) (r7 : bits .and .u64 T 4294967295 = T0)
    (g : KG V Y1 Y0 U T1) (z0 : 0 ≤ T0) (z1 : T0 ≤ 4294967295)
    (L : ∀ W : World, Calls Tryd.prog 90 #[.int .u64 y] W fun e w' => e = .returned (.int .i64 (s : Int)) ∧ w' = W) (w : World) :
    Calls Tryd.prog 88 #[.int .u64 h, .int .u64 l, .int .u64 y] w fun e w' => e = .returned (.tuple #[.int .u64 ((U * 4294967296 + T1) / V * 4294967296 + ((U * 4294967296 + T1) % V * 4294967296 + T0) / V), .int .u64 (((U * 4294967296 + T1) % V * 4294967296 + T0) % V / 2 ^ s)]) ∧ Below w.heap.size w w' := by
  have t1 : (y == 0) = false := beq_eq_false_iff_ne.2 (by omega)
  have t2 : (h == 0) = false := beq_eq_false_iff_ne.2 (by omega)
  have t3 : ¬ y ≤ h := by omega
  have k1 : min s 64 = s := by omega
  have k2 : min (64 - (s : Int)).toNat 64 = 64 - s := by omega
  have y10 := g.half.1
  have y11 := g.half.2
  have u0 := g.u0
  have u1 : U ≤ 18446744073709551615 := by have := g.u1; have := g.v1; omega
  have tt0 := g.t0
  have tt1 := g.t1
  have w0 := g.y0
  have w1 := g.y1
  have S := KI.start g
  have m0 : IntKind.u64.wrap (U / Y1 * Y1) = U / Y1 * Y1 := by
    rw [IntKind.wrap_u64]; have := S.r0; have := S.e; have := Int.mul_nonneg S.q0 (show 0 ≤ Y1 by omega); omega
  have m1 : IntKind.u64.wrap (U - U / Y1 * Y1) = U - U / Y1 * Y1 := by
    rw [IntKind.wrap_u64]; have := S.r0; have := S.r1; omega
  have SH : Hid (KI V Y1 Y0 U T1 (U / Y1) (U - U / Y1 * Y1)) := S
  clear S
  go_enter Tryd.func88, Tryd.ntmps88
  go_wp2_with fail
  refine (L _).mono ?_
  rintro e w9 ⟨rfl, hw⟩
  subst hw
  clear L
  go_upto_block 0 with fail
  go_cut [15, 16] (fun a b wc => a = .int .u64 ((U * 4294967296 + T1) / V) ∧ wc = w9)
  case first =>
    have tl : ∀ x : Int, Hid (x = x) := fun x => rfl
    clear r1 r2 r3 r4 r5 r6 r7 m0 m1 k1 k2 t1 t2 t3 tl
    go_wp2_with fail
    go_loop [15, 16] (fun a b => ∃ q r : Int, a = .int .u64 q ∧ b = .int .u64 r ∧ Hid (KI V Y1 Y0 U T1 q r)) (fun a _ => (intOf a).toNat)
    case atStart => exact ⟨_, _, rfl, rfl, SH⟩
    case round =>
      obtain ⟨q, r, rfl, rfl, HK⟩ := hrel
      have q0 := HK.out.q0
      have q1 := HK.out.q1
      have r0 := HK.out.r0
      have r1 := HK.out.r1
      have ql := g.qlt
      by_cases c1 : 4294967296 ≤ q
      · clear ql
        by_cases c3 : 4294967296 ≤ r + Y1
        · go_wp2
          go_meet
          exact ⟨congrArg (Value.int .u64) (KI.break g HK.out (Or.inl c1) c3), rfl⟩
        · have HN : Hid (KI V Y1 Y0 U T1 (q - 1) (r + Y1)) := KI.next g HK.out (Or.inl c1) (by omega)
          go_wp2
          go_round
          case rel => exact ⟨q - 1, r + Y1, rfl, rfl, HN⟩
          case measure => simp [intOf]; omega
      · obtain ⟨P, hP⟩ : ∃ P, q * Y0 = P := ⟨_, rfl⟩
        have P0 : 0 ≤ P := by rw [← hP]; exact Int.mul_nonneg q0 w0
        have P1 : P ≤ 18446744073709551615 := by
          have := Int.mul_le_mul (show q ≤ 4294967295 by omega) w1 w0 (show (0 : Int) ≤ 4294967295 by omega)
          omega
        have HP : Hid (q * Y0 = P) := hP
        have hw : IntKind.u64.wrap (q * Y0) = P := by rw [hP, IntKind.wrap_u64]; omega
        clear hP ql
        by_cases c2 : 4294967296 * r + T1 < P
        · have q2 : 1 ≤ q := by
            have := g.qlt
            have := KI.less g HK.out (Or.inr (by rw [HP.out]; exact c2))
            omega
          by_cases c3 : 4294967296 ≤ r + Y1
          · go_wp2
            go_meet
            exact ⟨congrArg (Value.int .u64) (KI.break g HK.out (Or.inr (by rw [HP.out]; exact c2)) c3), rfl⟩
          · have HN : Hid (KI V Y1 Y0 U T1 (q - 1) (r + Y1)) := KI.next g HK.out (Or.inr (by rw [HP.out]; exact c2)) (by omega)
            go_wp2
            go_round
            case rel => exact ⟨q - 1, r + Y1, rfl, rfl, HN⟩
            case measure => simp [intOf]; omega
        · go_wp2
          go_meet
          exact ⟨congrArg (Value.int .u64) (KI.stop g HK.out (by rw [HP.out]; omega)), rfl⟩

  case rest =>
    obtain ⟨rfl, rfl⟩ := hcut
    obtain ⟨q10, q11⟩ := g.qlt
    obtain ⟨hl1, hl2, hl3⟩ := g.left rfl
    obtain ⟨Q1, hQ1⟩ : ∃ Q1, (U * 4294967296 + T1) / V = Q1 := ⟨_, rfl⟩
    obtain ⟨U2, hU2⟩ : ∃ U2, (U * 4294967296 + T1) % V = U2 := ⟨_, rfl⟩
    rw [hQ1] at q10 q11 hl1
    rw [hU2] at hl1 hl2 hl3
    rw [hQ1]
    have HQ1 : Hid ((U * 4294967296 + T1) / V = Q1) := hQ1
    have HU2 : Hid ((U * 4294967296 + T1) % V = U2) := hU2
    have HL : Hid (U * 4294967296 + T1 - Q1 * V = U2) := hl1
    clear hQ1 hU2 hl1 m0 m1 SH
    have vv1 := g.v1
    have vv0 := g.v0
    have e21 : IntKind.u64.wrap (IntKind.u64.wrap (IntKind.u64.wrap (U * 4294967296) + T1) - IntKind.u64.wrap (Q1 * V)) = U2 := by
      have := wrap_left (U * 4294967296 + T1) (Q1 * V) U2 HL.out hl2 (by omega)
      simp only [IntKind.wrap_u64]
      rw [← this]
      omega
    have g2 : KG V Y1 Y0 U2 T0 := ⟨g.v0, g.v1, g.vv, g.y0, g.y1, hl2, hl3, z0, z1⟩
    have S := KI.start g2
    have m0 : IntKind.u64.wrap (U2 / Y1 * Y1) = U2 / Y1 * Y1 := by
      rw [IntKind.wrap_u64]; have := S.r0; have := S.e; have := Int.mul_nonneg S.q0 (show 0 ≤ Y1 by omega); omega
    have m1 : IntKind.u64.wrap (U2 - U2 / Y1 * Y1) = U2 - U2 / Y1 * Y1 := by
      rw [IntKind.wrap_u64]; have := S.r0; have := S.r1; omega
    have SH : Hid (KI V Y1 Y0 U2 T0 (U2 / Y1) (U2 - U2 / Y1 * Y1)) := S
    clear S
    go_upto_block 2 with fail
    go_cut [18, 16] (fun a b wd => a = .int .u64 ((U2 * 4294967296 + T0) / V) ∧ wd = wc)
    case first =>
      clear r1 r2 r3 r4 r5 r6 r7 m0 m1 k1 k2 t1 t2 t3 e21 u0 u1
      go_wp2_with fail
      go_loop [18, 16] (fun a b => ∃ q r : Int, a = .int .u64 q ∧ b = .int .u64 r ∧ Hid (KI V Y1 Y0 U2 T0 q r)) (fun a _ => (intOf a).toNat)
      case atStart => exact ⟨_, _, rfl, rfl, SH⟩
      case round =>
        obtain ⟨q, r, rfl, rfl, HK⟩ := hrel
        have q0 := HK.out.q0
        have q1 := HK.out.q1
        have r0 := HK.out.r0
        have r1 := HK.out.r1
        have ql := g2.qlt
        by_cases c1 : 4294967296 ≤ q
        · clear ql
          by_cases c3 : 4294967296 ≤ r + Y1
          · go_wp2
            go_meet
            exact ⟨congrArg (Value.int .u64) (KI.break g2 HK.out (Or.inl c1) c3), rfl⟩
          · have HN : Hid (KI V Y1 Y0 U2 T0 (q - 1) (r + Y1)) := KI.next g2 HK.out (Or.inl c1) (by omega)
            go_wp2
            go_round
            case rel => exact ⟨q - 1, r + Y1, rfl, rfl, HN⟩
            case measure => simp [intOf]; omega
        · obtain ⟨P, hP⟩ : ∃ P, q * Y0 = P := ⟨_, rfl⟩
          have P0 : 0 ≤ P := by rw [← hP]; exact Int.mul_nonneg q0 w0
          have P1 : P ≤ 18446744073709551615 := by
            have := Int.mul_le_mul (show q ≤ 4294967295 by omega) w1 w0 (show (0 : Int) ≤ 4294967295 by omega)
            omega
          have HP : Hid (q * Y0 = P) := hP
          have hw : IntKind.u64.wrap (q * Y0) = P := by rw [hP, IntKind.wrap_u64]; omega
          clear hP ql
          by_cases c2 : 4294967296 * r + T0 < P
          · have q2 : 1 ≤ q := by
              have := g2.qlt
              have := KI.less g2 HK.out (Or.inr (by rw [HP.out]; exact c2))
              omega
            by_cases c3 : 4294967296 ≤ r + Y1
            · go_wp2
              go_meet
              exact ⟨congrArg (Value.int .u64) (KI.break g2 HK.out (Or.inr (by rw [HP.out]; exact c2)) c3), rfl⟩
            · have HN : Hid (KI V Y1 Y0 U2 T0 (q - 1) (r + Y1)) := KI.next g2 HK.out (Or.inr (by rw [HP.out]; exact c2)) (by omega)
              go_wp2
              go_round
              case rel => exact ⟨q - 1, r + Y1, rfl, rfl, HN⟩
              case measure => simp [intOf]; omega
          · go_wp2
            go_meet
            exact ⟨congrArg (Value.int .u64) (KI.stop g2 HK.out (by rw [HP.out]; omega)), rfl⟩


    case rest =>
      obtain ⟨rfl, rfl⟩ := hcut
      obtain ⟨q20, q21⟩ := g2.qlt
      obtain ⟨hm1, hm2, hm3⟩ := g2.left rfl
      obtain ⟨Q0, hQ0⟩ : ∃ Q0, (U2 * 4294967296 + T0) / V = Q0 := ⟨_, rfl⟩
      obtain ⟨R, hR⟩ : ∃ R, (U2 * 4294967296 + T0) % V = R := ⟨_, rfl⟩
      rw [hQ0] at q20 q21 hm1
      rw [hR] at hm1 hm2 hm3
      rw [hQ0]
      have e22 : IntKind.u64.wrap (IntKind.u64.wrap (IntKind.u64.wrap (U2 * 4294967296) + T0) - IntKind.u64.wrap (Q0 * V)) = R := by
        have := wrap_left (U2 * 4294967296 + T0) (Q0 * V) R hm1 hm2 (by omega)
        simp only [IntKind.wrap_u64]
        rw [← this]
        omega
      have HF : Hid ((U * 4294967296 + T1) / V * 4294967296 + ((U * 4294967296 + T1) % V * 4294967296 + T0) / V = Q1 * 4294967296 + Q0 ∧ ((U * 4294967296 + T1) % V * 4294967296 + T0) % V / 2 ^ s = R / 2 ^ s) := by
        show _ ∧ _
        rw [HQ1.out, HU2.out, hQ0, hR]
        exact ⟨rfl, rfl⟩
      clear hQ0 hR hm1 m0 m1 SH e21 r2 r3 r4 r5 r6 r7 r1 k2 t1 t2 t3
      go_wp2
      go_ret2
      exact ⟨by rw [HF.out.1, HF.out.2]; rfl, Below.refl _ _⟩
end Go.Proofs.YtpmlpcejmndidabDoor
