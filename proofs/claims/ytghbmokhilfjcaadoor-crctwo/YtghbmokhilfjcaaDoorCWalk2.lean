/-
  The program's contracts: up, times, further, Join.
-/
import Derived.Test.YtghbmokhilfjcaaDoorCWalk
import Derived.Test.YtghbmokhilfjcaaDoorCMath6
set_option linter.unusedVariables false
set_option linter.unusedSimpArgs false
namespace Go.Proofs.YtghbmokhilfjcaaDoor
open Go.RowKit

theorem and1_i64 (m y : Nat) (hy : m % 2 = y) (hm : m < 9223372036854775808) : bits BinOp.and IntKind.i64 (m : Int) 1 = (y : Int) := by
  have h1 : (BitVec.ofInt 64 (m : Int)).toNat = m := by
    rw [BitVec.ofInt_natCast, BitVec.toNat_ofNat]; exact Nat.mod_eq_of_lt (by omega)
  have h2 : (BitVec.ofInt 64 1).toNat = 1 := by decide
  show IntKind.i64.wrap ((BitVec.ofInt 64 (m : Int) &&& BitVec.ofInt 64 1).toNat : Int) = _
  rw [BitVec.toNat_and, h1, h2, Nat.and_one_is_mod, hy, IntKind.wrap_i64]
  omega
set_option maxRecDepth 100000 in
set_option maxHeartbeats 4000000 in
theorem up11 (a : Nat) (ha : a < 4294967296) (w : World) :
    Calls Tryd.prog 22 #[.int .u32 (a : Int)] w fun e w' => e = .returned (.int .u32 ((cZ a : Nat) : Int)) ∧ w' = w := by
  obtain ⟨u, hu⟩ : ∃ u : Nat, a % 2 = u := ⟨_, rfl⟩
  obtain ⟨d, hd⟩ : ∃ d : Nat, a / 2 = d := ⟨_, rfl⟩
  have hdI : (a : Int) / 2 = (d : Int) := by omega
  have hlow : bits BinOp.and IntKind.u32 (a : Int) 1 = (u : Int) := by
    rw [show (1 : Int) = ((1 : Nat) : Int) from rfl, and32 a 1 ha (by omega), Nat.and_one_is_mod, hu]
  have hx1 : bits .xor .u32 (d : Int) 3988292384 = ((d ^^^ 3988292384 : Nat) : Int) := xor32 d 3988292384 (by omega) (by omega)
  have HZ : Hid (cZ a = if u = 1 then d ^^^ 3988292384 else d) := by
    show _ = _
    unfold cZ cP
    rw [hu, hd]
  have hu3 : u = 0 ∨ u = 1 := by omega
  generalize cZ a = z at *
  clear hu hd
  rcases hu3 with rfl | rfl
  · obtain rfl : z = d := HZ.out.trans (if_neg (by decide))
    go_enter Tryd.func22, Tryd.ntmps22
    go_wp2
    go_ret
    exact ⟨rfl, rfl⟩
  · obtain rfl : z = d ^^^ 3988292384 := HZ.out.trans (if_pos rfl)
    generalize d ^^^ 3988292384 = z at *
    go_enter Tryd.func22, Tryd.ntmps22
    go_wp2
    go_ret
    exact ⟨rfl, rfl⟩
set_option maxRecDepth 100000 in
set_option maxHeartbeats 4000000 in
theorem times11 (a b : Nat) (ha : a < 4294967296) (hb : b < 4294967296) (w : World) :
    Calls Tryd.prog 21 #[.int .u32 (a : Int), .int .u32 (b : Int)] w fun e w' => e = .returned (.int .u32 ((cH a b 32 : Nat) : Int)) ∧ w' = w := by
  have h1 := cH_lt a b hb
  have CU : Hid (∀ x : Nat, x < 4294967296 → Calls Tryd.prog 22 #[.int .u32 (x : Int)] w fun e w' => e = .returned (.int .u32 ((cZ x : Nat) : Int)) ∧ w' = w) := fun x hx => up11 x hx w
  have HM : Hid (∀ k, cH a b (k + 1) = cZ (cH a b k) ^^^ (if a.testBit k = true then b else 0)) := fun k => cH_succ a b k
  go_enter Tryd.func21, Tryd.ntmps21
  go_upto_region 3 with fail
  go_loopw [5, 7] (fun s5 s7 wr => ∃ i : Nat, i ≤ 32 ∧ s7 = .int .i64 (i : Int) ∧ s5 = .int .u32 ((cH a b i : Nat) : Int) ∧ wr = w) (fun _ s7 _ => 32 - (intOf s7).toNat)
  case atStart => exact ⟨0, by omega, rfl, rfl, rfl⟩
  case round =>
    obtain ⟨i, hi, rfl, rfl, rfl⟩ := hrel
    by_cases hlt : i < 32
    · have hiI : (i : Int) < 32 := by omega
      have HM1 : Hid (cH a b (i + 1) = cZ (cH a b i) ^^^ (if a.testBit i = true then b else 0)) := HM.out i
      have q1 := h1 i
      have q2 := cZ_lt32 _ q1
      have C1 := CU.out _ q1
      clear h1 HM CU
      generalize cH a b i = p at *
      generalize cZ p = z at *
      obtain ⟨y, hy⟩ : ∃ y : Nat, a / 2 ^ i % 2 = y := ⟨_, rfl⟩
      have hy2 : y < 2 := by rw [← hy]; exact Nat.mod_lt _ (by omega)
      have hbit : bits BinOp.and IntKind.u32 ((a : Int) / 2 ^ i) 1 = (y : Int) := by
        have h1 : ((a : Int) / 2 ^ i) = ((a / 2 ^ i : Nat) : Int) := by rw [Int.natCast_ediv, Int.natCast_pow]; rfl
        rw [h1, show (1 : Int) = ((1 : Nat) : Int) from rfl, and32 _ _ (Nat.lt_of_le_of_lt (Nat.div_le_self _ _) ha) (by omega), Nat.and_one_is_mod, hy]
      have htb : a.testBit i = decide (y = 1) := by rw [Nat.testBit_eq_decide_div_mod_eq, hy]
      have HM2 : Hid (cH a b (i + 1) = z ^^^ (if decide (y = 1) = true then b else 0)) := by
        show _ = _
        rw [HM1.out, htb]
      have hpz := xor32 z b q2 hb
      have hy3 : y = 0 ∨ y = 1 := by omega
      clear htb hy HM1 hy2
      go_wp2_with fail
      refine C1.mono ?_
      rintro e w1 ⟨rfl, rfl⟩
      clear C1
      rcases hy3 with rfl | rfl
      · have HM3 : Hid (cH a b (i + 1) = z) := by
          show _ = _
          rw [HM2.out, if_neg (by decide), Nat.xor_zero]
        clear HM2
        go_wp2
        go_roundw
        case rel => exact ⟨i + 1, by omega, by go_num, by rw [HM3.out], trivial⟩
        case measure => simp [intOf]; omega
      · have HM3 : Hid (cH a b (i + 1) = z ^^^ b) := by
          show _ = _
          rw [HM2.out, if_pos (by decide)]
        clear HM2
        generalize z ^^^ b = z1 at *
        go_wp2
        go_roundw
        case rel => exact ⟨i + 1, by omega, by go_num, by rw [HM3.out], trivial⟩
        case measure => simp [intOf]; omega
    · obtain rfl : i = 32 := by omega
      go_wp2
      go_ret
      exact ⟨rfl, rfl⟩
set_option maxRecDepth 100000 in
set_option maxHeartbeats 4000000 in
theorem further11 (a n : Nat) (w : World) (ha : a < 4294967296) (hn : n < 2147483648) :
    Calls Tryd.prog 20 #[.int .u32 (a : Int), .int .i64 (n : Int)] w fun e w' => e = .returned (.int .u32 ((cZs (8 * n) a : Nat) : Int)) ∧ w' = w := by
  have CT : Hid (∀ x y : Nat, x < 4294967296 → y < 4294967296 → Calls Tryd.prog 21 #[.int .u32 (x : Int), .int .u32 (y : Int)] w fun e w' => e = .returned (.int .u32 ((cH x y 32 : Nat) : Int)) ∧ w' = w) := fun x y h1 h2 => times11 x y h1 h2 w
  go_enter Tryd.func20, Tryd.ntmps20
  go_upto_region 2 with fail
  go_loopw [0, 1, 5] (fun s0 s1 s5 wr => ∃ m E A B : Nat, m ≤ n ∧ s1 = .int .i64 (m : Int) ∧ s0 = .int .u32 (A : Int) ∧ s5 = .int .u32 (B : Int) ∧ A < 4294967296 ∧ B < 4294967296 ∧ Hid (B = cZs E 2147483648 ∧ cZs (E * m) A = cZs (8 * n) a) ∧ wr = w) (fun _ s1 _ _ => (intOf s1).toNat)
  case atStart => exact ⟨n, 8, a, 8388608, by omega, rfl, rfl, rfl, ha, by omega, ⟨by decide +kernel, rfl⟩, rfl⟩
  case round =>
    obtain ⟨m, E, A, B, hm, rfl, rfl, rfl, hA, hB, HI, rfl⟩ := hrel
    by_cases hp : 0 < m
    · have hpI : (0 : Int) < (m : Int) := by omega
      have C1 := CT.out A B hA hB
      have C2 := CT.out B B hB hB
      have HA1 : Hid (cH A B 32 = cZs E A ∧ cH B B 32 = cZs (2 * E) 2147483648) := by
        rw [HI.out.1]
        exact ⟨cH_zs E A hA, cH_powers E⟩
      have q1 := cH_lt A B hB 32
      have q2 := cH_lt B B hB 32
      generalize cH A B 32 = A1 at *
      generalize cH B B 32 = B1 at *
      obtain ⟨m2, hm2⟩ : ∃ m2, m / 2 = m2 := ⟨_, rfl⟩
      have hquo : (m : Int) / 2 = (m2 : Int) := by omega
      have hwq : IntKind.i64.wrap (m2 : Int) = (m2 : Int) := by rw [IntKind.wrap_i64]; omega
      obtain ⟨y, hy⟩ : ∃ y : Nat, m % 2 = y := ⟨_, rfl⟩
      have hrem : bits BinOp.and IntKind.i64 (m : Int) 1 = (y : Int) := and1_i64 m y hy (by omega)
      have HM2 : Hid (m / 2 = m2 ∧ m % 2 = y) := ⟨hm2, hy⟩
      have hm3 : m2 < m := by omega
      have hy3 : y = 0 ∨ y = 1 := by omega
      clear hm2 hy
      rcases hy3 with rfl | rfl
      · have HI1 : Hid (B1 = cZs (2 * E) 2147483648 ∧ cZs (2 * E * m2) A = cZs (8 * n) a) := by
          have hm2 := HM2.out
          refine ⟨HA1.out.2, ?_⟩
          rw [← HI.out.2]
          congr 1
          rw [show m = 2 * m2 by omega, Nat.mul_comm 2 E, Nat.mul_assoc]
        clear HI HA1 CT C1
        go_wp2_with fail
        refine C2.mono ?_
        rintro e w2 ⟨rfl, rfl⟩
        go_wp2
        go_roundw
        case rel => exact ⟨m2, 2 * E, A, B1, by omega, rfl, rfl, rfl, hA, q2, HI1, trivial⟩
        case measure => simp only [intOf]; omega
      · have HI1 : Hid (B1 = cZs (2 * E) 2147483648 ∧ cZs (2 * E * m2) A1 = cZs (8 * n) a) := by
          have hm2 := HM2.out
          refine ⟨HA1.out.2, ?_⟩
          rw [HA1.out.1, ← HI.out.2, ← cZs_add]
          congr 1
          rw [show m = 2 * m2 + 1 by omega, Nat.mul_add, Nat.mul_comm 2 E, Nat.mul_assoc]
          omega
        clear HI HA1 CT
        go_wp2_with fail
        refine C1.mono ?_
        rintro e w1 ⟨rfl, rfl⟩
        go_wp2_with fail
        refine C2.mono ?_
        rintro e w2 ⟨rfl, rfl⟩
        go_wp2
        go_roundw
        case rel => exact ⟨m2, 2 * E, A1, B1, by omega, rfl, rfl, rfl, q1, q2, HI1, trivial⟩
        case measure => simp only [intOf]; omega
    · obtain rfl : m = 0 := by omega
      obtain rfl : A = cZs (8 * n) a := HI.out.2
      go_wp2
      go_ret
      exact ⟨rfl, rfl⟩
set_option maxRecDepth 100000 in
set_option maxHeartbeats 4000000 in
theorem join11 (a b n : Nat) (w : World) (ha : a < 4294967296) (hb : b < 4294967296) (hn : n < 2147483648) (hT : TbAt w) :
    Calls Tryd.prog 14 #[.int .u32 (a : Int), .int .u32 (b : Int), .int .i64 (n : Int)] w fun e w' => e = .returned (.tuple #[.int .u32 ((cZs (8 * n) a ^^^ b : Nat) : Int), .int .i64 0]) ∧ Below w.heap.size w w' := by
  have C1 := further11 a n w ha hn
  have n1 : ¬ (n : Int) < 0 := by omega
  have n2 : ¬ (2147483647 : Int) < (n : Int) := by omega
  have n3 : (n : Int) ≤ 2147483647 := by omega
  have hx := xor32 (cZs (8 * n) a) b (cZs_lt _ _ ha) hb
  clear hT
  generalize cZs (8 * n) a = z at *
  go_enter Tryd.func14, Tryd.ntmps14
  go_wp2_with fail
  refine C1.mono ?_
  rintro e w1 ⟨rfl, rfl⟩
  go_wp2
  go_ret2
  exact ⟨by first | rfl | rw [← hx], Below.refl _ _⟩
theorem joinE11 (a b n : Int) (w : World) (hn : n < 0 ∨ 2147483648 ≤ n) (hT : TbAt w) :
    Calls Tryd.prog 14 #[.int .u32 a, .int .u32 b, .int .i64 n] w fun e w' => e = .returned (.tuple #[.int .u32 0, .int .i64 2]) ∧ Below w.heap.size w w' := by
  clear hT
  by_cases h : n < 0
  · go_enter Tryd.func14, Tryd.ntmps14
    go_wp2
    go_ret2
    exact ⟨rfl, Below.refl _ _⟩
  · have h2 : 2147483647 < n := by omega
    go_enter Tryd.func14, Tryd.ntmps14
    go_wp2
    go_ret2
    exact ⟨rfl, Below.refl _ _⟩
theorem crc1 : Crc1 := ⟨fun s v n f w h1 h2 h3 h4 h5 => more11 s v n f w h1 h2 h3 h4 h5, fun v K ns fs w h1 h2 h3 h4 h5 => of11 v K ns fs w h1 h2 h3 h4 h5, fun a b n w h1 h2 h3 h4 => join11 a b n w h1 h2 h3 h4, fun a b n w h1 h2 => joinE11 a b n w h1 h2⟩
end Go.Proofs.YtghbmokhilfjcaaDoor
