/-
  WalkJ, WalkK, WalkL.
-/
import Derived.Test.YtcdehbhdloaieaaGreatDoorBC
import Derived.Laws.MathBits
import Derived.Test.YtcdehbhdloaieaaGreatDoorBA
import Derived.Deep.CutBlock
import Derived.Deep.DeepCutAuto
/-
  Contracts of math/bits.Len64 and LeadingZeros64: how many bits a word needs.
-/
set_option linter.unusedVariables false
set_option linter.unusedSimpArgs false
namespace Go.Proofs.YtcdehbhdloaieaaGreatDoor
open Go.RowKit

theorem len_fin0 (y : Int) (y1 : y < 256) : wrap64 ((bitLen y.toNat : Nat) : Int) = ((bitLen y.toNat : Nat) : Int) := by
  have h := bitLen_le8 y.toNat (by omega)
  rw [w64, sg_id _ (by omega) (by omega)]
theorem len_fin (K : Nat) (x y : Int) (hK : K ≤ 56) (x0 : 0 ≤ x) (hy : x.toNat / 2 ^ K = y.toNat) (y0 : 1 ≤ y) (y1 : y < 256) : wrap64 ((K : Int) + wrap64 ((bitLen y.toNat : Nat) : Int)) = ((bitLen x.toNat : Nat) : Int) := by
  have h := bitLen_le8 y.toNat (by omega)
  have s := bitLen_shift x.toNat K (by omega)
  rw [hy] at s
  rw [len_fin0 y y1, w64, sg_id _ (by omega) (by omega), s]
  omega

set_option maxHeartbeats 1000000 in
set_option maxRecDepth 1000000 in
theorem len64_0 (x : Int) (h0 : 0 ≤ x) (h1 : x < 256) (w : World) :
    Calls Tryz.prog 136 #[.int .u64 x] w fun e w' => e = .returned (.int .i64 ((bitLen x.toNat : Nat) : Int)) ∧ w' = w := by
  have F : Hid (wrap64 ((bitLen (x).toNat : Nat) : Int) = ((bitLen x.toNat : Nat) : Int)) := len_fin0 x h1
  go_enter Tryz.func136, Tryz.ntmps136
  go_wp2
  simp only [len8tab_get]
  rw [F.out, F.out]
  go_ret
  exact ⟨rfl, rfl⟩
set_option maxHeartbeats 1000000 in
set_option maxRecDepth 1000000 in
theorem len64_8 (x : Int) (h0 : 256 ≤ x) (h1 : x < 65536) (w : World) :
    Calls Tryz.prog 136 #[.int .u64 x] w fun e w' => e = .returned (.int .i64 ((bitLen x.toNat : Nat) : Int)) ∧ w' = w := by
  have F : Hid (wrap64 ((8 : Int) + wrap64 ((bitLen (x / 256).toNat : Nat) : Int)) = ((bitLen x.toNat : Nat) : Int)) := len_fin 8 x (x / 256) (by omega) (by omega) (by omega) (by omega) (by omega)
  go_enter Tryz.func136, Tryz.ntmps136
  go_wp2
  simp only [len8tab_get]
  rw [F.out]
  go_ret
  exact ⟨rfl, rfl⟩
set_option maxHeartbeats 1000000 in
set_option maxRecDepth 1000000 in
theorem len64_16 (x : Int) (h0 : 65536 ≤ x) (h1 : x < 16777216) (w : World) :
    Calls Tryz.prog 136 #[.int .u64 x] w fun e w' => e = .returned (.int .i64 ((bitLen x.toNat : Nat) : Int)) ∧ w' = w := by
  have F : Hid (wrap64 ((16 : Int) + wrap64 ((bitLen (x / 65536).toNat : Nat) : Int)) = ((bitLen x.toNat : Nat) : Int)) := len_fin 16 x (x / 65536) (by omega) (by omega) (by omega) (by omega) (by omega)
  go_enter Tryz.func136, Tryz.ntmps136
  go_wp2
  simp only [len8tab_get]
  rw [F.out]
  go_ret
  exact ⟨rfl, rfl⟩
set_option maxHeartbeats 1000000 in
set_option maxRecDepth 1000000 in
theorem len64_24 (x : Int) (h0 : 16777216 ≤ x) (h1 : x < 4294967296) (w : World) :
    Calls Tryz.prog 136 #[.int .u64 x] w fun e w' => e = .returned (.int .i64 ((bitLen x.toNat : Nat) : Int)) ∧ w' = w := by
  have F : Hid (wrap64 ((24 : Int) + wrap64 ((bitLen (x / 65536 / 256).toNat : Nat) : Int)) = ((bitLen x.toNat : Nat) : Int)) := len_fin 24 x (x / 65536 / 256) (by omega) (by omega) (by omega) (by omega) (by omega)
  go_enter Tryz.func136, Tryz.ntmps136
  go_wp2
  simp only [len8tab_get]
  rw [F.out]
  go_ret
  exact ⟨rfl, rfl⟩
set_option maxHeartbeats 1000000 in
set_option maxRecDepth 1000000 in
theorem len64_32 (x : Int) (h0 : 4294967296 ≤ x) (h1 : x < 1099511627776) (w : World) :
    Calls Tryz.prog 136 #[.int .u64 x] w fun e w' => e = .returned (.int .i64 ((bitLen x.toNat : Nat) : Int)) ∧ w' = w := by
  have F : Hid (wrap64 ((32 : Int) + wrap64 ((bitLen (x / 4294967296).toNat : Nat) : Int)) = ((bitLen x.toNat : Nat) : Int)) := len_fin 32 x (x / 4294967296) (by omega) (by omega) (by omega) (by omega) (by omega)
  go_enter Tryz.func136, Tryz.ntmps136
  go_wp2
  simp only [len8tab_get]
  rw [F.out]
  go_ret
  exact ⟨rfl, rfl⟩
set_option maxHeartbeats 1000000 in
set_option maxRecDepth 1000000 in
theorem len64_40 (x : Int) (h0 : 1099511627776 ≤ x) (h1 : x < 281474976710656) (w : World) :
    Calls Tryz.prog 136 #[.int .u64 x] w fun e w' => e = .returned (.int .i64 ((bitLen x.toNat : Nat) : Int)) ∧ w' = w := by
  have F : Hid (wrap64 ((40 : Int) + wrap64 ((bitLen (x / 4294967296 / 256).toNat : Nat) : Int)) = ((bitLen x.toNat : Nat) : Int)) := len_fin 40 x (x / 4294967296 / 256) (by omega) (by omega) (by omega) (by omega) (by omega)
  go_enter Tryz.func136, Tryz.ntmps136
  go_wp2
  simp only [len8tab_get]
  rw [F.out]
  go_ret
  exact ⟨rfl, rfl⟩
set_option maxHeartbeats 1000000 in
set_option maxRecDepth 1000000 in
theorem len64_48 (x : Int) (h0 : 281474976710656 ≤ x) (h1 : x < 72057594037927936) (w : World) :
    Calls Tryz.prog 136 #[.int .u64 x] w fun e w' => e = .returned (.int .i64 ((bitLen x.toNat : Nat) : Int)) ∧ w' = w := by
  have F : Hid (wrap64 ((48 : Int) + wrap64 ((bitLen (x / 4294967296 / 65536).toNat : Nat) : Int)) = ((bitLen x.toNat : Nat) : Int)) := len_fin 48 x (x / 4294967296 / 65536) (by omega) (by omega) (by omega) (by omega) (by omega)
  go_enter Tryz.func136, Tryz.ntmps136
  go_wp2
  simp only [len8tab_get]
  rw [F.out]
  go_ret
  exact ⟨rfl, rfl⟩
set_option maxHeartbeats 1000000 in
set_option maxRecDepth 1000000 in
theorem len64_56 (x : Int) (h0 : 72057594037927936 ≤ x) (h1 : x < 18446744073709551616) (w : World) :
    Calls Tryz.prog 136 #[.int .u64 x] w fun e w' => e = .returned (.int .i64 ((bitLen x.toNat : Nat) : Int)) ∧ w' = w := by
  have F : Hid (wrap64 ((56 : Int) + wrap64 ((bitLen (x / 4294967296 / 65536 / 256).toNat : Nat) : Int)) = ((bitLen x.toNat : Nat) : Int)) := len_fin 56 x (x / 4294967296 / 65536 / 256) (by omega) (by omega) (by omega) (by omega) (by omega)
  go_enter Tryz.func136, Tryz.ntmps136
  go_wp2
  simp only [len8tab_get]
  rw [F.out]
  go_ret
  exact ⟨rfl, rfl⟩
theorem len64_any (x : Int) (h0 : 0 ≤ x) (h1 : x ≤ 18446744073709551615) (w : World) :
    Calls Tryz.prog 136 #[.int .u64 x] w fun e w' => e = .returned (.int .i64 ((bitLen x.toNat : Nat) : Int)) ∧ w' = w := by
  by_cases c0 : x < 256
  · exact len64_0 x (by omega) c0 w
  by_cases c8 : x < 65536
  · exact len64_8 x (by omega) c8 w
  by_cases c16 : x < 16777216
  · exact len64_16 x (by omega) c16 w
  by_cases c24 : x < 4294967296
  · exact len64_24 x (by omega) c24 w
  by_cases c32 : x < 1099511627776
  · exact len64_32 x (by omega) c32 w
  by_cases c40 : x < 281474976710656
  · exact len64_40 x (by omega) c40 w
  by_cases c48 : x < 72057594037927936
  · exact len64_48 x (by omega) c48 w
  exact len64_56 x (by omega) (by omega) w

theorem bitLen_rng (x : Int) (h0 : 1 ≤ x) (h1 : x ≤ 18446744073709551615) : 1 ≤ bitLen x.toNat ∧ bitLen x.toNat ≤ 64 := by
  obtain ⟨a, b⟩ := bitLen_spec x.toNat
  have b := b (by omega)
  constructor
  · rcases Nat.eq_zero_or_pos (bitLen x.toNat) with h | h
    · rw [h] at a; omega
    · exact h
  · rcases Nat.lt_or_ge 64 (bitLen x.toNat) with h | h
    · have : 2 ^ 64 ≤ 2 ^ (bitLen x.toNat - 1) := Nat.pow_le_pow_right (by omega) (by omega)
      omega
    · exact h

set_option maxHeartbeats 400000 in
theorem lz64_any (x : Int) (h0 : 1 ≤ x) (h1 : x ≤ 18446744073709551615) (w : World) :
    Calls Tryz.prog 132 #[.int .u64 x] w fun e w' => e = .returned (.int .i64 (64 - ((bitLen x.toNat : Nat) : Int))) ∧ w' = w := by
  obtain ⟨r0, r1⟩ := bitLen_rng x h0 h1
  have q1 : ((bitLen x.toNat : Nat) : Int) ≤ 64 := by omega
  have L := fun W => len64_any x (by omega) h1 W
  generalize bitLen x.toNat = b at *
  go_enter Tryz.func132, Tryz.ntmps132
  go_wp2_with fail
  refine (L _).mono ?_
  rintro e w1 ⟨rfl, hw⟩
  subst hw
  clear L
  go_wp2
  go_ret
  exact ⟨rfl, rfl⟩

/-- y brought up to its highest bit. -/
theorem norm_rng (y : Int) (h0 : 1 ≤ y) (h1 : y ≤ 18446744073709551615) : 9223372036854775808 ≤ y * 2 ^ (64 - bitLen y.toNat) ∧ y * 2 ^ (64 - bitLen y.toNat) ≤ 18446744073709551615 := by
  obtain ⟨r0, r1⟩ := bitLen_rng y h0 h1
  obtain ⟨a, b⟩ := bitLen_spec y.toNat
  have b := b (by omega)
  obtain ⟨Y, rfl⟩ := Int.eq_ofNat_of_zero_le (show 0 ≤ y by omega)
  rw [Int.toNat_natCast] at *
  generalize bitLen Y = n at *
  have e1 : 2 ^ (n - 1) * 2 ^ (64 - n) = 2 ^ 63 := by rw [← Nat.pow_add]; congr 1; omega
  have e2 : 2 ^ n * 2 ^ (64 - n) = 2 ^ 64 := by rw [← Nat.pow_add]; congr 1; omega
  have g1 := Nat.mul_le_mul_right (2 ^ (64 - n)) b
  have g2 := Nat.mul_lt_mul_of_pos_right a (show 0 < 2 ^ (64 - n) from Nat.two_pow_pos _)
  have e3 : (Y : Int) * 2 ^ (64 - n) = ((Y * 2 ^ (64 - n) : Nat) : Int) := by rw [Int.natCast_mul, Int.natCast_pow]; rfl
  rw [e3]
  omega

end Go.Proofs.YtcdehbhdloaieaaGreatDoor
/-
  The contract of math/bits.Div64 where the high word is not nought: the walk, over the names of its words.
-/
set_option linter.unusedVariables false
set_option linter.unusedSimpArgs false
namespace Go.Proofs.YtcdehbhdloaieaaGreatDoor
open Go.RowKit

theorem wrap_dec (q : Int) (q0 : 1 ≤ q) (q1 : q ≤ 18446744073709551615) : IntKind.u64.wrap (q - 1) = q - 1 := by rw [IntKind.wrap_u64]; omega

set_option maxHeartbeats 2000000 in
theorem div64_core (h l y : Int) (s : Nat) (V Y1 Y0 U T T1 T0 : Int) (h0 : 1 ≤ h) (hy : h < y) (hs1 : s ≤ 63)
    (r1 : IntKind.u64.wrap (y * 2 ^ s) = V) (r2 : V / 4294967296 = Y1) (r3 : bits .and .u64 V 4294967295 = Y0)
    (r4 : bits .or .u64 (IntKind.u64.wrap (h * 2 ^ s)) (l / 2 ^ (64 - s)) = U)
    (r5 : IntKind.u64.wrap (l * 2 ^ s) = T) (r6 : T / 4294967296 = T1) (r7 : bits .and .u64 T 4294967295 = T0)
    (g : KG V Y1 Y0 U T1) (z0 : 0 ≤ T0) (z1 : T0 ≤ 4294967295)
    (L : ∀ W : World, Calls Tryz.prog 132 #[.int .u64 y] W fun e w' => e = .returned (.int .i64 (s : Int)) ∧ w' = W) (w : World) :
    Calls Tryz.prog 127 #[.int .u64 h, .int .u64 l, .int .u64 y] w fun e w' => e = .returned (.tuple #[.int .u64 ((U * 4294967296 + T1) / V * 4294967296 + ((U * 4294967296 + T1) % V * 4294967296 + T0) / V), .int .u64 (((U * 4294967296 + T1) % V * 4294967296 + T0) % V / 2 ^ s)]) ∧ Below w.heap.size w w' := by
  have t1 : (y == 0) = false := beq_eq_false_iff_ne.2 (by omega)
  have t2 : (h == 0) = false := beq_eq_false_iff_ne.2 (by omega)
  have t3 : ¬ y ≤ h := by omega
  have k1 : min s 64 = s := by omega
  have k2 : min (64 - (s : Int)).toNat 64 = 64 - s := by omega
  have y10 := g.half.1
  have y11 := g.half.2
  have u0 := g.u0
  have u1 : U ≤ 18446744073709551615 := by have := g.u1; have := g.v1; omega
  have tt0 := g.t0
  have tt1 := g.t1
  have w0 := g.y0
  have w1 := g.y1
  have S := KI.start g
  have m0 : IntKind.u64.wrap (U / Y1 * Y1) = U / Y1 * Y1 := by
    rw [IntKind.wrap_u64]; have := S.r0; have := S.e; have := Int.mul_nonneg S.q0 (show 0 ≤ Y1 by omega); omega
  have m1 : IntKind.u64.wrap (U - U / Y1 * Y1) = U - U / Y1 * Y1 := by
    rw [IntKind.wrap_u64]; have := S.r0; have := S.r1; omega
  have SH : Hid (KI V Y1 Y0 U T1 (U / Y1) (U - U / Y1 * Y1)) := S
  clear S
  go_enter Tryz.func127, Tryz.ntmps127
  go_wp2_with fail
  refine (L _).mono ?_
  rintro e w9 ⟨rfl, hw⟩
  subst hw
  clear L
  go_upto_block 0 with fail
  go_cut [15, 16] (fun a b wc => a = .int .u64 ((U * 4294967296 + T1) / V) ∧ wc = w9)
  case first =>
    have tl : ∀ x : Int, Hid (x = x) := fun x => rfl
    clear r1 r2 r3 r4 r5 r6 r7 m0 m1 k1 k2 t1 t2 t3 tl
    go_wp2_with fail
    go_loop [15, 16] (fun a b => ∃ q r : Int, a = .int .u64 q ∧ b = .int .u64 r ∧ Hid (KI V Y1 Y0 U T1 q r)) (fun a _ => (intOf a).toNat)
    case atStart => exact ⟨_, _, rfl, rfl, SH⟩
    case round =>
      obtain ⟨q, r, rfl, rfl, HK⟩ := hrel
      have q0 := HK.out.q0
      have q1 := HK.out.q1
      have r0 := HK.out.r0
      have r1 := HK.out.r1
      have ql := g.qlt
      by_cases c1 : 4294967296 ≤ q
      · clear ql
        by_cases c3 : 4294967296 ≤ r + Y1
        · go_wp2
          go_meet
          exact ⟨congrArg (Value.int .u64) (KI.break g HK.out (Or.inl c1) c3), rfl⟩
        · have HN : Hid (KI V Y1 Y0 U T1 (q - 1) (r + Y1)) := KI.next g HK.out (Or.inl c1) (by omega)
          go_wp2
          go_round
          case rel => exact ⟨q - 1, r + Y1, rfl, rfl, HN⟩
          case measure => simp [intOf]; omega
      · obtain ⟨P, hP⟩ : ∃ P, q * Y0 = P := ⟨_, rfl⟩
        have P0 : 0 ≤ P := by rw [← hP]; exact Int.mul_nonneg q0 w0
        have P1 : P ≤ 18446744073709551615 := by
          have := Int.mul_le_mul (show q ≤ 4294967295 by omega) w1 w0 (show (0 : Int) ≤ 4294967295 by omega)
          omega
        have HP : Hid (q * Y0 = P) := hP
        have hw : IntKind.u64.wrap (q * Y0) = P := by rw [hP, IntKind.wrap_u64]; omega
        clear hP ql
        by_cases c2 : 4294967296 * r + T1 < P
        · have q2 : 1 ≤ q := by
            have := g.qlt
            have := KI.less g HK.out (Or.inr (by rw [HP.out]; exact c2))
            omega
          by_cases c3 : 4294967296 ≤ r + Y1
          · go_wp2
            go_meet
            exact ⟨congrArg (Value.int .u64) (KI.break g HK.out (Or.inr (by rw [HP.out]; exact c2)) c3), rfl⟩
          · have HN : Hid (KI V Y1 Y0 U T1 (q - 1) (r + Y1)) := KI.next g HK.out (Or.inr (by rw [HP.out]; exact c2)) (by omega)
            go_wp2
            go_round
            case rel => exact ⟨q - 1, r + Y1, rfl, rfl, HN⟩
            case measure => simp [intOf]; omega
        · go_wp2
          go_meet
          exact ⟨congrArg (Value.int .u64) (KI.stop g HK.out (by rw [HP.out]; omega)), rfl⟩

  case rest =>
    obtain ⟨rfl, rfl⟩ := hcut
    obtain ⟨q10, q11⟩ := g.qlt
    obtain ⟨hl1, hl2, hl3⟩ := g.left rfl
    obtain ⟨Q1, hQ1⟩ : ∃ Q1, (U * 4294967296 + T1) / V = Q1 := ⟨_, rfl⟩
    obtain ⟨U2, hU2⟩ : ∃ U2, (U * 4294967296 + T1) % V = U2 := ⟨_, rfl⟩
    rw [hQ1] at q10 q11 hl1
    rw [hU2] at hl1 hl2 hl3
    rw [hQ1]
    have HQ1 : Hid ((U * 4294967296 + T1) / V = Q1) := hQ1
    have HU2 : Hid ((U * 4294967296 + T1) % V = U2) := hU2
    have HL : Hid (U * 4294967296 + T1 - Q1 * V = U2) := hl1
    clear hQ1 hU2 hl1 m0 m1 SH
    have vv1 := g.v1
    have vv0 := g.v0
    have e21 : IntKind.u64.wrap (IntKind.u64.wrap (IntKind.u64.wrap (U * 4294967296) + T1) - IntKind.u64.wrap (Q1 * V)) = U2 := by
      have := wrap_left (U * 4294967296 + T1) (Q1 * V) U2 HL.out hl2 (by omega)
      simp only [IntKind.wrap_u64]
      rw [← this]
      omega
    have g2 : KG V Y1 Y0 U2 T0 := ⟨g.v0, g.v1, g.vv, g.y0, g.y1, hl2, hl3, z0, z1⟩
    have S := KI.start g2
    have m0 : IntKind.u64.wrap (U2 / Y1 * Y1) = U2 / Y1 * Y1 := by
      rw [IntKind.wrap_u64]; have := S.r0; have := S.e; have := Int.mul_nonneg S.q0 (show 0 ≤ Y1 by omega); omega
    have m1 : IntKind.u64.wrap (U2 - U2 / Y1 * Y1) = U2 - U2 / Y1 * Y1 := by
      rw [IntKind.wrap_u64]; have := S.r0; have := S.r1; omega
    have SH : Hid (KI V Y1 Y0 U2 T0 (U2 / Y1) (U2 - U2 / Y1 * Y1)) := S
    clear S
    go_upto_block 2 with fail
    go_cut [18, 16] (fun a b wd => a = .int .u64 ((U2 * 4294967296 + T0) / V) ∧ wd = wc)
    case first =>
      clear r1 r2 r3 r4 r5 r6 r7 m0 m1 k1 k2 t1 t2 t3 e21 u0 u1
      go_wp2_with fail
      go_loop [18, 16] (fun a b => ∃ q r : Int, a = .int .u64 q ∧ b = .int .u64 r ∧ Hid (KI V Y1 Y0 U2 T0 q r)) (fun a _ => (intOf a).toNat)
      case atStart => exact ⟨_, _, rfl, rfl, SH⟩
      case round =>
        obtain ⟨q, r, rfl, rfl, HK⟩ := hrel
        have q0 := HK.out.q0
        have q1 := HK.out.q1
        have r0 := HK.out.r0
        have r1 := HK.out.r1
        have ql := g2.qlt
        by_cases c1 : 4294967296 ≤ q
        · clear ql
          by_cases c3 : 4294967296 ≤ r + Y1
          · go_wp2
            go_meet
            exact ⟨congrArg (Value.int .u64) (KI.break g2 HK.out (Or.inl c1) c3), rfl⟩
          · have HN : Hid (KI V Y1 Y0 U2 T0 (q - 1) (r + Y1)) := KI.next g2 HK.out (Or.inl c1) (by omega)
            go_wp2
            go_round
            case rel => exact ⟨q - 1, r + Y1, rfl, rfl, HN⟩
            case measure => simp [intOf]; omega
        · obtain ⟨P, hP⟩ : ∃ P, q * Y0 = P := ⟨_, rfl⟩
          have P0 : 0 ≤ P := by rw [← hP]; exact Int.mul_nonneg q0 w0
          have P1 : P ≤ 18446744073709551615 := by
            have := Int.mul_le_mul (show q ≤ 4294967295 by omega) w1 w0 (show (0 : Int) ≤ 4294967295 by omega)
            omega
          have HP : Hid (q * Y0 = P) := hP
          have hw : IntKind.u64.wrap (q * Y0) = P := by rw [hP, IntKind.wrap_u64]; omega
          clear hP ql
          by_cases c2 : 4294967296 * r + T0 < P
          · have q2 : 1 ≤ q := by
              have := g2.qlt
              have := KI.less g2 HK.out (Or.inr (by rw [HP.out]; exact c2))
              omega
            by_cases c3 : 4294967296 ≤ r + Y1
            · go_wp2
              go_meet
              exact ⟨congrArg (Value.int .u64) (KI.break g2 HK.out (Or.inr (by rw [HP.out]; exact c2)) c3), rfl⟩
            · have HN : Hid (KI V Y1 Y0 U2 T0 (q - 1) (r + Y1)) := KI.next g2 HK.out (Or.inr (by rw [HP.out]; exact c2)) (by omega)
              go_wp2
              go_round
              case rel => exact ⟨q - 1, r + Y1, rfl, rfl, HN⟩
              case measure => simp [intOf]; omega
          · go_wp2
            go_meet
            exact ⟨congrArg (Value.int .u64) (KI.stop g2 HK.out (by rw [HP.out]; omega)), rfl⟩


    case rest =>
      obtain ⟨rfl, rfl⟩ := hcut
      obtain ⟨q20, q21⟩ := g2.qlt
      obtain ⟨hm1, hm2, hm3⟩ := g2.left rfl
      obtain ⟨Q0, hQ0⟩ : ∃ Q0, (U2 * 4294967296 + T0) / V = Q0 := ⟨_, rfl⟩
      obtain ⟨R, hR⟩ : ∃ R, (U2 * 4294967296 + T0) % V = R := ⟨_, rfl⟩
      rw [hQ0] at q20 q21 hm1
      rw [hR] at hm1 hm2 hm3
      rw [hQ0]
      have e22 : IntKind.u64.wrap (IntKind.u64.wrap (IntKind.u64.wrap (U2 * 4294967296) + T0) - IntKind.u64.wrap (Q0 * V)) = R := by
        have := wrap_left (U2 * 4294967296 + T0) (Q0 * V) R hm1 hm2 (by omega)
        simp only [IntKind.wrap_u64]
        rw [← this]
        omega
      have HF : Hid ((U * 4294967296 + T1) / V * 4294967296 + ((U * 4294967296 + T1) % V * 4294967296 + T0) / V = Q1 * 4294967296 + Q0 ∧ ((U * 4294967296 + T1) % V * 4294967296 + T0) % V / 2 ^ s = R / 2 ^ s) := by
        show _ ∧ _
        rw [HQ1.out, HU2.out, hQ0, hR]
        exact ⟨rfl, rfl⟩
      clear hQ0 hR hm1 m0 m1 SH e21 r2 r3 r4 r5 r6 r7 r1 k2 t1 t2 t3
      go_wp2
      go_ret2
      exact ⟨by rw [HF.out.1, HF.out.2]; rfl, Below.refl _ _⟩
end Go.Proofs.YtcdehbhdloaieaaGreatDoor
/-
  The contracts of math/bits.Div64 and of regatta/wide's Quo, at every number.
-/
set_option linter.unusedVariables false
set_option linter.unusedSimpArgs false
namespace Go.Proofs.YtcdehbhdloaieaaGreatDoor
open Go.RowKit

theorem or_u64' (X Y : Int) (n : Nat) (hn : n ≤ 64) (hX : X % 2 ^ n = 0) (x0 : 0 ≤ X) (x1 : X < 18446744073709551616) (h0 : 0 ≤ Y) (h1 : Y < 2 ^ n) (hs : X + Y < 18446744073709551616) : bits .or .u64 X Y = X + Y := by
  have hc : bits .or .u64 X Y = bits .or .u64 Y X := by simp only [bits, BitVec.or_comm]
  rw [hc, or_u64 X Y n hn hX x0 x1 h0 h1 hs, Int.add_comm]

theorem div64_any (h l y : Int) (h0 : 0 ≤ h) (hy : h < y) (l0 : 0 ≤ l) (l1 : l ≤ 18446744073709551615) (y1 : y ≤ 18446744073709551615) : DivAt h l y := by
  by_cases hz : h = 0
  · subst hz
    exact div64_zero l y l0 l1 (by omega) y1
  · intro w
    obtain ⟨b0, b1⟩ := bitLen_rng y (by omega) y1
    obtain ⟨v0, v1⟩ := norm_rng y (by omega) y1
    have L := fun W => lz64_any y (by omega) y1 W
    obtain ⟨s, hs⟩ : ∃ s : Nat, 64 - bitLen y.toNat = s := ⟨_, rfl⟩
    rw [hs] at v0 v1
    have hs1 : s ≤ 63 := by omega
    have L' : ∀ W : World, Calls Tryz.prog 132 #[.int .u64 y] W fun e w' => e = .returned (.int .i64 (s : Int)) ∧ w' = W := by
      intro W
      have := L W
      rw [show (64 : Int) - ((bitLen y.toNat : Nat) : Int) = (s : Int) by omega] at this
      exact this
    clear L
    have hB := pow_split s (by omega)
    have hp := pow_pos' s
    have hq := pow_pos' (64 - s)
    obtain ⟨ub, ub2⟩ := up_below h l y _ _ hB hp hq hy h0 l0 l1
    obtain ⟨eN, d0, d1⟩ := up_words h l _ _ hB hp hq h0 l0 l1 (by omega)
    have hh0 : 0 ≤ h * 2 ^ s := Int.mul_nonneg h0 (by omega)
    have r1 : IntKind.u64.wrap (y * 2 ^ s) = y * 2 ^ s := by rw [IntKind.wrap_u64]; omega
    have r3 : bits .and .u64 (y * 2 ^ s) 4294967295 = y * 2 ^ s % 4294967296 := and_low32 _ (by omega) (by omega)
    have r4 : bits .or .u64 (IntKind.u64.wrap (h * 2 ^ s)) (l / 2 ^ (64 - s)) = h * 2 ^ s + l / 2 ^ (64 - s) := by
      rw [IntKind.wrap_u64, show h * 2 ^ s % 18446744073709551616 = h * 2 ^ s by omega]
      exact or_u64' _ _ s (by omega) (Int.mul_emod_left _ _) hh0 (by omega) d0 d1 (by omega)
    have r5 : IntKind.u64.wrap (l * 2 ^ s) = l * 2 ^ s % 18446744073709551616 := IntKind.wrap_u64 _
    have r7 : bits .and .u64 (l * 2 ^ s % 18446744073709551616) 4294967295 = l * 2 ^ s % 18446744073709551616 % 4294967296 := and_low32 _ (by omega) (by omega)
    have g : KG (y * 2 ^ s) (y * 2 ^ s / 4294967296) (y * 2 ^ s % 4294967296) (h * 2 ^ s + l / 2 ^ (64 - s)) (l * 2 ^ s % 18446744073709551616 / 4294967296) :=
      ⟨v0, v1, by omega, by omega, by omega, by omega, ub, by omega, by omega⟩
    have C := div64_core h l y s _ _ _ _ _ _ _ (by omega) hy hs1 r1 rfl r3 r4 r5 rfl r7 g (by omega) (by omega) L' w
    obtain ⟨f1, f2⟩ := two_steps (h * 18446744073709551616 + l) y (2 ^ s) (y * 2 ^ s) (h * 2 ^ s + l / 2 ^ (64 - s)) (l * 2 ^ s % 18446744073709551616) (l * 2 ^ s % 18446744073709551616 / 4294967296) (l * 2 ^ s % 18446744073709551616 % 4294967296) hp (by omega) rfl eN (by omega)
    rw [← f1, ← f2, Int.mul_ediv_cancel _ (by omega)] at C
    exact C

theorem quo_any (v d : Int) (v0 : -170141183460469231731687303715884105728 ≤ v) (v1 : v ≤ 170141183460469231731687303715884105727) (d0 : -9223372036854775808 ≤ d) (d1 : d ≤ 9223372036854775807) (hd : d ≠ 0) (w : World) :
    Calls Tryz.prog 92 #[.agg #[.int .i64 (hi v), .int .u64 (lo v)], .int .i64 d] w fun e w' => e = .returned (.tuple #[.agg #[.int .i64 (hi (quo v d)), .int .u64 (lo (quo v d))], .bool true]) ∧ Below w.heap.size w w' := by
  obtain ⟨b0, b1⟩ := ab_d d d0 d1 hd
  have a0 := ab_ge v
  have a1 := ab_le v v0 v1
  have m0 := Int.emod_nonneg (ab v / 18446744073709551616) (show ab d ≠ 0 by omega)
  have m1 := Int.emod_lt_of_pos (ab v / 18446744073709551616) (show 0 < ab d by omega)
  exact quo_of v d v0 v1 d0 d1 hd (div64_any _ _ _ (by omega) (by omega) (by omega) (by omega) (by omega)) (div64_any _ _ _ m0 m1 (lo_ge _) (lo_le _) (by omega)) w

end Go.Proofs.YtcdehbhdloaieaaGreatDoor
