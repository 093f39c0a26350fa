/-
  SWalkG, SWalkH, SWalkI, SWalkK, SWalkJ, SWalkL.
-/
import Derived.Test.YtcdehbhdloaieaaGreatDoorBF
import Derived.Test.YtcdehbhdloaieaaGreatDoorBA
import Derived.Test.YtcdehbhdloaieaaGreatDoorBH
/-
  The contract of regattaref02's Product.
-/
set_option linter.unusedVariables false
set_option linter.unusedSimpArgs false
namespace Go.Proofs.YtcdehbhdloaieaaGreatDoor
open Go.RowKit

theorem sone_0 (x : Int) (x0 : 0 ≤ x) (x1 : x ≤ 18446744073709551615) (w : World) : Calls Tryz.prog 86 #[.int .u64 x, .int .i64 0] w fun e w' => e = .returned (.agg #[.int .u64 (dg (x) 0), .int .u64 (dg (x) 1), .int .u64 (dg (x) 2), .int .u64 (dg (x) 3), .int .u64 (dg (x) 4), .int .u64 (dg (x) 5)]) ∧ Below w.heap.size w w' := by
  have h := sone_any x 0 (by omega) x0 x1 w
  rw [show x * 2 ^ (32 * 0) = x by rw [Nat.mul_zero, Int.pow_zero, Int.mul_one]] at h
  exact h
theorem sone_1 (x : Int) (x0 : 0 ≤ x) (x1 : x ≤ 18446744073709551615) (w : World) : Calls Tryz.prog 86 #[.int .u64 x, .int .i64 1] w fun e w' => e = .returned (.agg #[.int .u64 (dg (x * 4294967296) 0), .int .u64 (dg (x * 4294967296) 1), .int .u64 (dg (x * 4294967296) 2), .int .u64 (dg (x * 4294967296) 3), .int .u64 (dg (x * 4294967296) 4), .int .u64 (dg (x * 4294967296) 5)]) ∧ Below w.heap.size w w' := by
  have h := sone_any x 1 (by omega) x0 x1 w
  rw [show (2 : Int) ^ (32 * 1) = 4294967296 from rfl] at h
  exact h
theorem sone_2 (x : Int) (x0 : 0 ≤ x) (x1 : x ≤ 18446744073709551615) (w : World) : Calls Tryz.prog 86 #[.int .u64 x, .int .i64 2] w fun e w' => e = .returned (.agg #[.int .u64 (dg (x * 18446744073709551616) 0), .int .u64 (dg (x * 18446744073709551616) 1), .int .u64 (dg (x * 18446744073709551616) 2), .int .u64 (dg (x * 18446744073709551616) 3), .int .u64 (dg (x * 18446744073709551616) 4), .int .u64 (dg (x * 18446744073709551616) 5)]) ∧ Below w.heap.size w w' := by
  have h := sone_any x 2 (by omega) x0 x1 w
  rw [show (2 : Int) ^ (32 * 2) = 18446744073709551616 from rfl] at h
  exact h
theorem B6.farA {b d : Nat} {x : Nat → Int} {w : World} (h : B6 b x w) (hd : d ≠ b) (z : Nat → Int) : B6 b x ((((((w.setCell ⟨d, 0, none⟩ (.int .u64 (z 0))).setCell ⟨d, 1, none⟩ (.int .u64 (z 1))).setCell ⟨d, 2, none⟩ (.int .u64 (z 2))).setCell ⟨d, 3, none⟩ (.int .u64 (z 3))).setCell ⟨d, 4, none⟩ (.int .u64 (z 4))).setCell ⟨d, 5, none⟩ (.int .u64 (z 5))) :=
  (((((h.far _ hd).far _ hd).far _ hd).far _ hd).far _ hd).far _ hd
theorem small_mul (x y : Int) (x0 : 0 ≤ x) (x1 : x ≤ 4294967295) (y0 : 0 ≤ y) (y1 : y ≤ 4294967295) : 0 ≤ x * y ∧ x * y ≤ 18446744073709551615 := by
  have h1 := Int.mul_nonneg x0 y0
  have h2 := Int.mul_le_mul x1 y1 y0 (by omega)
  omega
theorem prod_split (a b : Int) : a % 4294967296 * (b % 4294967296) + a / 4294967296 * (b % 4294967296) * 4294967296 + a % 4294967296 * (b / 4294967296) * 4294967296 + a / 4294967296 * (b / 4294967296) * 18446744073709551616 = a * b := by
  have ea : a = a / 4294967296 * 4294967296 + a % 4294967296 := by omega
  have eb : b = b / 4294967296 * 4294967296 + b % 4294967296 := by omega
  generalize a % 4294967296 = l at *
  generalize a / 4294967296 = h at *
  generalize b % 4294967296 = m at *
  generalize b / 4294967296 = k at *
  subst ea eb
  rw [Int.add_mul, Int.mul_add, Int.mul_add]
  rw [show h * 4294967296 * (k * 4294967296) = h * k * 18446744073709551616 by rw [Int.mul_assoc, Int.mul_left_comm 4294967296 k, ← Int.mul_assoc]; rfl]
  rw [show h * 4294967296 * m = h * m * 4294967296 by rw [Int.mul_right_comm], show l * (k * 4294967296) = l * k * 4294967296 by rw [Int.mul_assoc]]
  omega

set_option maxHeartbeats 2000000 in
theorem sproduct_any (a b : Int) (a0 : 0 ≤ a) (a1 : a ≤ 18446744073709551615) (b0 : 0 ≤ b) (b1 : b ≤ 18446744073709551615) (w : World) :
    Calls Tryz.prog 82 #[.int .u64 a, .int .u64 b] w fun e w' => e = .returned (.agg #[.int .u64 (dg (a * b) 0), .int .u64 (dg (a * b) 1), .int .u64 (dg (a * b) 2), .int .u64 (dg (a * b) 3), .int .u64 (dg (a * b) 4), .int .u64 (dg (a * b) 5)]) ∧ Below w.heap.size w w' := by
  have HP : Hid (a % 4294967296 * (b % 4294967296) + a / 4294967296 * (b % 4294967296) * 4294967296 + a % 4294967296 * (b / 4294967296) * 4294967296 + a / 4294967296 * (b / 4294967296) * 18446744073709551616 = a * b) := prod_split a b
  have t1 := Int.tmod_eq_emod_of_nonneg (b := 4294967296) a0
  have t2 := Int.tdiv_eq_ediv_of_nonneg (b := 4294967296) a0
  have t3' := Int.tmod_eq_emod_of_nonneg (b := 4294967296) b0
  have t4 := Int.tdiv_eq_ediv_of_nonneg (b := 4294967296) b0
  have l0 : 0 ≤ a % 4294967296 := by omega
  have l1 : a % 4294967296 ≤ 4294967295 := by omega
  have h0 : 0 ≤ a / 4294967296 := by omega
  have h1 : a / 4294967296 ≤ 4294967295 := by omega
  have m0 : 0 ≤ b % 4294967296 := by omega
  have m1 : b % 4294967296 ≤ 4294967295 := by omega
  have k0 : 0 ≤ b / 4294967296 := by omega
  have k1 : b / 4294967296 ≤ 4294967295 := by omega
  generalize a % 4294967296 = l at *
  generalize a / 4294967296 = h at *
  generalize b % 4294967296 = m at *
  generalize b / 4294967296 = k at *
  obtain ⟨p1, p2⟩ := small_mul l m l0 l1 m0 m1
  obtain ⟨p3, p4⟩ := small_mul h m h0 h1 m0 m1
  obtain ⟨p5, p6⟩ := small_mul l k l0 l1 k0 k1
  obtain ⟨p7, p8⟩ := small_mul h k h0 h1 k0 k1
  have w1' := wrap_small l l0 (by omega)
  have w2' := wrap_small h h0 (by omega)
  have w3' := wrap_small m m0 (by omega)
  have w4' := wrap_small k k0 (by omega)
  have w5' := wrap_small (l * m) p1 p2
  have w6' := wrap_small (h * m) p3 p4
  have w7' := wrap_small (l * k) p5 p6
  have w8' := wrap_small (h * k) p7 p8
  have R0 := B6.new w (fun _ => 0) 106
  have W0 := bel1 w (.cells #[.int .u64 0, .int .u64 0, .int .u64 0, .int .u64 0, .int .u64 0, .int .u64 0] 106)
  go_enter Tryz.func82, Tryz.ntmps82
  go_wp2_with fail
  refine (sone_0 (l * m) p1 p2 _).mono ?_
  rintro e w1 ⟨rfl, hb⟩
  have R1 := R0.later hb
  have W1 := bchain W0 hb
  clear hb R0 W0
  go_wp2_with fail
  refine (sone_1 (h * m) p3 p4 _).mono ?_
  rintro e w2 ⟨rfl, hb⟩
  have R2 := R1.later hb
  have W2 := bchain W1 hb
  clear hb R1 W1
  go_wp2_with fail
  refine (splus_any (l * m) (h * m * 4294967296) _).mono ?_
  rintro e w3 ⟨rfl, hb⟩
  have R3 := R2.later hb
  have W3 := bchain W2 hb
  clear hb R2 W2
  generalize l * m + h * m * 4294967296 = X at *
  have hsz := R3.lt
  have D4 := B6.new w3 (dg X) 106
  have R4 := R3.later (bel1 w3 (.cells #[.int .u64 (dg (X) 0), .int .u64 (dg (X) 1), .int .u64 (dg (X) 2), .int .u64 (dg (X) 3), .int .u64 (dg (X) 4), .int .u64 (dg (X) 5)] 106))
  have W4 := bchain W3 (bel1 w3 (.cells #[.int .u64 (dg (X) 0), .int .u64 (dg (X) 1), .int .u64 (dg (X) 2), .int .u64 (dg (X) 3), .int .u64 (dg (X) 4), .int .u64 (dg (X) 5)] 106))
  clear R3 W3
  go_upto_region 4 with fail
  generalize w3.alloc (.cells #[.int .u64 (dg (X) 0), .int .u64 (dg (X) 1), .int .u64 (dg (X) 2), .int .u64 (dg (X) 3), .int .u64 (dg (X) 4), .int .u64 (dg (X) 5)] 106) = w4 at *
  generalize w3.heap.size = d at *
  have hd1 : Below w4.heap.size w4 w4.drew := (Below.refl _ _).drew
  have CD := D4.later hd1
  have CR := R4.later hd1
  have CW : Hid (Below w.heap.size w w4.drew) := W4.drew
  clear hd1 D4 R4 W4
  have x0 := CD.c 0 (by omega); have x1 := CD.c 1 (by omega); have x2 := CD.c 2 (by omega); have x3 := CD.c 3 (by omega); have x4 := CD.c 4 (by omega); have x5 := CD.c 5 (by omega); have xf0 := CD.f 0 (by omega); have xf1 := CD.f 1 (by omega); have xf2 := CD.f 2 (by omega); have xf3 := CD.f 3 (by omega); have xf4 := CD.f 4 (by omega); have xf5 := CD.f 5 (by omega)
  go_region_with (first
    | (go_at_call 86; refine (sone_1 (l * k) p5 p6 _).mono ?_; rintro e wz ⟨rfl, hb⟩; clear x0 x1 x2 x3 x4 x5 xf0 xf1 xf2 xf3 xf4 xf5; replace CD := CD.later hb; replace CR := CR.later hb; replace CW := hidD' CW hb; clear hb; have x0 := CD.c 0 (by omega); have x1 := CD.c 1 (by omega); have x2 := CD.c 2 (by omega); have x3 := CD.c 3 (by omega); have x4 := CD.c 4 (by omega); have x5 := CD.c 5 (by omega); have xf0 := CD.f 0 (by omega); have xf1 := CD.f 1 (by omega); have xf2 := CD.f 2 (by omega); have xf3 := CD.f 3 (by omega); have xf4 := CD.f 4 (by omega); have xf5 := CD.f 5 (by omega))
    | (go_at_call 84; refine (splus_any X (l * k * 4294967296) _).mono ?_; rintro e wz ⟨rfl, hb⟩; clear x0 x1 x2 x3 x4 x5 xf0 xf1 xf2 xf3 xf4 xf5; replace CD := CD.later hb; replace CR := CR.later hb; replace CW := hidD' CW hb; clear hb; have x0 := CD.c 0 (by omega); have x1 := CD.c 1 (by omega); have x2 := CD.c 2 (by omega); have x3 := CD.c 3 (by omega); have x4 := CD.c 4 (by omega); have x5 := CD.c 5 (by omega); have xf0 := CD.f 0 (by omega); have xf1 := CD.f 1 (by omega); have xf2 := CD.f 2 (by omega); have xf3 := CD.f 3 (by omega); have xf4 := CD.f 4 (by omega); have xf5 := CD.f 5 (by omega)))
  all_goals
    have D5 := CD.all (dg (X + l * k * 4294967296))
    have R5 := CR.farA (d := d) (by omega) (dg (X + l * k * 4294967296))
    have W5 := bel6 CW.out (b := d) (by omega) (dg (X + l * k * 4294967296))
    clear x0 x1 x2 x3 x4 x5 xf0 xf1 xf2 xf3 xf4 xf5
    clear CD CR CW
    generalize ((((((wz.setCell ⟨d, 0, none⟩ (.int .u64 (dg (X + l * k * 4294967296) 0))).setCell ⟨d, 1, none⟩ (.int .u64 (dg (X + l * k * 4294967296) 1))).setCell ⟨d, 2, none⟩ (.int .u64 (dg (X + l * k * 4294967296) 2))).setCell ⟨d, 3, none⟩ (.int .u64 (dg (X + l * k * 4294967296) 3))).setCell ⟨d, 4, none⟩ (.int .u64 (dg (X + l * k * 4294967296) 4))).setCell ⟨d, 5, none⟩ (.int .u64 (dg (X + l * k * 4294967296) 5))) = w5 at *
    generalize X + l * k * 4294967296 = Y at *
    go_upto_region 5 with fail
    have hd1 : Below w5.heap.size w5 w5.drew := (Below.refl _ _).drew
    have CD := D5.later hd1
    have CR := R5.later hd1
    have CW : Hid (Below w.heap.size w w5.drew) := W5.drew
    clear hd1 D5 R5 W5
    have x0 := CD.c 0 (by omega); have x1 := CD.c 1 (by omega); have x2 := CD.c 2 (by omega); have x3 := CD.c 3 (by omega); have x4 := CD.c 4 (by omega); have x5 := CD.c 5 (by omega); have xf0 := CD.f 0 (by omega); have xf1 := CD.f 1 (by omega); have xf2 := CD.f 2 (by omega); have xf3 := CD.f 3 (by omega); have xf4 := CD.f 4 (by omega); have xf5 := CD.f 5 (by omega)
    have r0 := CR.c 0 (by omega); have r1 := CR.c 1 (by omega); have r2 := CR.c 2 (by omega); have r3 := CR.c 3 (by omega); have r4 := CR.c 4 (by omega); have r5 := CR.c 5 (by omega); have rf0 := CR.f 0 (by omega); have rf1 := CR.f 1 (by omega); have rf2 := CR.f 2 (by omega); have rf3 := CR.f 3 (by omega); have rf4 := CR.f 4 (by omega); have rf5 := CR.f 5 (by omega)
    go_region_with (first
      | (go_at_call 86; refine (sone_2 (h * k) p7 p8 _).mono ?_; rintro e wy ⟨rfl, hb⟩; clear x0 x1 x2 x3 x4 x5 xf0 xf1 xf2 xf3 xf4 xf5; clear r0 r1 r2 r3 r4 r5 rf0 rf1 rf2 rf3 rf4 rf5; replace CD := CD.later hb; replace CR := CR.later hb; replace CW := hidD' CW hb; clear hb; have x0 := CD.c 0 (by omega); have x1 := CD.c 1 (by omega); have x2 := CD.c 2 (by omega); have x3 := CD.c 3 (by omega); have x4 := CD.c 4 (by omega); have x5 := CD.c 5 (by omega); have xf0 := CD.f 0 (by omega); have xf1 := CD.f 1 (by omega); have xf2 := CD.f 2 (by omega); have xf3 := CD.f 3 (by omega); have xf4 := CD.f 4 (by omega); have xf5 := CD.f 5 (by omega); have r0 := CR.c 0 (by omega); have r1 := CR.c 1 (by omega); have r2 := CR.c 2 (by omega); have r3 := CR.c 3 (by omega); have r4 := CR.c 4 (by omega); have r5 := CR.c 5 (by omega); have rf0 := CR.f 0 (by omega); have rf1 := CR.f 1 (by omega); have rf2 := CR.f 2 (by omega); have rf3 := CR.f 3 (by omega); have rf4 := CR.f 4 (by omega); have rf5 := CR.f 5 (by omega))
      | (go_at_call 84; refine (splus_any Y (h * k * 18446744073709551616) _).mono ?_; rintro e wy ⟨rfl, hb⟩; clear x0 x1 x2 x3 x4 x5 xf0 xf1 xf2 xf3 xf4 xf5; clear r0 r1 r2 r3 r4 r5 rf0 rf1 rf2 rf3 rf4 rf5; replace CD := CD.later hb; replace CR := CR.later hb; replace CW := hidD' CW hb; clear hb; have x0 := CD.c 0 (by omega); have x1 := CD.c 1 (by omega); have x2 := CD.c 2 (by omega); have x3 := CD.c 3 (by omega); have x4 := CD.c 4 (by omega); have x5 := CD.c 5 (by omega); have xf0 := CD.f 0 (by omega); have xf1 := CD.f 1 (by omega); have xf2 := CD.f 2 (by omega); have xf3 := CD.f 3 (by omega); have xf4 := CD.f 4 (by omega); have xf5 := CD.f 5 (by omega); have r0 := CR.c 0 (by omega); have r1 := CR.c 1 (by omega); have r2 := CR.c 2 (by omega); have r3 := CR.c 3 (by omega); have r4 := CR.c 4 (by omega); have r5 := CR.c 5 (by omega); have rf0 := CR.f 0 (by omega); have rf1 := CR.f 1 (by omega); have rf2 := CR.f 2 (by omega); have rf3 := CR.f 3 (by omega); have rf4 := CR.f 4 (by omega); have rf5 := CR.f 5 (by omega)))
    all_goals
      have W6 := bel6 CW.out (b := w.heap.size) (Nat.le_refl _) (dg (Y + h * k * 18446744073709551616))
      have S6 := CR.all (dg (Y + h * k * 18446744073709551616))
      clear x0 x1 x2 x3 x4 x5 xf0 xf1 xf2 xf3 xf4 xf5
      clear r0 r1 r2 r3 r4 r5 rf0 rf1 rf2 rf3 rf4 rf5
      clear CD CR CW
      generalize ((((((wy.setCell ⟨w.heap.size, 0, none⟩ (.int .u64 (dg (Y + h * k * 18446744073709551616) 0))).setCell ⟨w.heap.size, 1, none⟩ (.int .u64 (dg (Y + h * k * 18446744073709551616) 1))).setCell ⟨w.heap.size, 2, none⟩ (.int .u64 (dg (Y + h * k * 18446744073709551616) 2))).setCell ⟨w.heap.size, 3, none⟩ (.int .u64 (dg (Y + h * k * 18446744073709551616) 3))).setCell ⟨w.heap.size, 4, none⟩ (.int .u64 (dg (Y + h * k * 18446744073709551616) 4))).setCell ⟨w.heap.size, 5, none⟩ (.int .u64 (dg (Y + h * k * 18446744073709551616) 5))) = w6 at *
      rw [HP.out] at S6
      have r0 := S6.c 0 (by omega); have r1 := S6.c 1 (by omega); have r2 := S6.c 2 (by omega); have r3 := S6.c 3 (by omega); have r4 := S6.c 4 (by omega); have r5 := S6.c 5 (by omega); have rf0 := S6.f 0 (by omega); have rf1 := S6.f 1 (by omega); have rf2 := S6.f 2 (by omega); have rf3 := S6.f 3 (by omega); have rf4 := S6.f 4 (by omega); have rf5 := S6.f 5 (by omega)
      clear S6
      go_wp2
      exact bodyPost_ret (v := .agg #[.int .u64 (dg (a * b) 0), .int .u64 (dg (a * b) 1), .int .u64 (dg (a * b) 2), .int .u64 (dg (a * b) 3), .int .u64 (dg (a * b) 4), .int .u64 (dg (a * b) 5)]) (by simp [results, Tryz.results82, go_sem, r0, r1, r2, r3, r4, r5]) rfl ⟨rfl, W6⟩
end Go.Proofs.YtcdehbhdloaieaaGreatDoor
/-
  The contracts of regattaref02's sums' Mul, and of its Add, Sub, Mul.
-/
set_option linter.unusedVariables false
set_option linter.unusedSimpArgs false
namespace Go.Proofs.YtcdehbhdloaieaaGreatDoor
open Go.RowKit

/-- What a sum stands for, and how great its sides are. -/
structure Sm (p q : Int) (V B : Int) : Prop where
  p0 : 0 ≤ p
  q0 : 0 ≤ q
  p1 : p ≤ B
  q1 : q ≤ B
  v : p - q = V

theorem sadd_any (p q V B a : Int) (k : Nat) (hk : k ≤ 4) (hS : Sm p q V B) (a0 : -9223372036854775808 ≤ a) (a1 : a ≤ 9223372036854775807) (w : World) :
    Calls Tryz.prog 56 #[.agg #[.int .u64 (dg (p) 0), .int .u64 (dg (p) 1), .int .u64 (dg (p) 2), .int .u64 (dg (p) 3), .int .u64 (dg (p) 4), .int .u64 (dg (p) 5), .int .u64 (dg (q) 0), .int .u64 (dg (q) 1), .int .u64 (dg (q) 2), .int .u64 (dg (q) 3), .int .u64 (dg (q) 4), .int .u64 (dg (q) 5)], .int .i64 a, .int .i64 (k : Int)] w fun e w' => ∃ p' q', e = .returned (.agg #[.int .u64 (dg (p') 0), .int .u64 (dg (p') 1), .int .u64 (dg (p') 2), .int .u64 (dg (p') 3), .int .u64 (dg (p') 4), .int .u64 (dg (p') 5), .int .u64 (dg (q') 0), .int .u64 (dg (q') 1), .int .u64 (dg (q') 2), .int .u64 (dg (q') 3), .int .u64 (dg (q') 4), .int .u64 (dg (q') 5)]) ∧ Sm p' q' (V + a * 2 ^ (32 * k)) (B + 9223372036854775808 * 2 ^ (32 * k)) ∧ Below w.heap.size w w' := by
  have hp := pow_pos' (32 * k)
  obtain ⟨s0, s1⟩ := ab_rng' a a0 a1
  have g0 := Int.mul_nonneg s0 (show (0 : Int) ≤ 2 ^ (32 * k) by omega)
  have g1 := Int.mul_le_mul_of_nonneg_right s1 (show (0 : Int) ≤ 2 ^ (32 * k) by omega)
  obtain ⟨h1, h2, h3, h4, h5⟩ := hS
  by_cases hn : a < 0
  · refine (sadd_neg p q a k hk a0 hn w).mono ?_
    rintro e w' ⟨rfl, hb⟩
    have e1 : ab a = -a := by unfold ab; rw [if_pos hn]
    refine ⟨_, _, rfl, ⟨h1, by omega, by omega, by omega, ?_⟩, hb⟩
    rw [e1, Int.neg_mul]
    omega
  · refine (sadd_pos p q a k hk (by omega) a1 w).mono ?_
    rintro e w' ⟨rfl, hb⟩
    have e1 : ab a = a := by unfold ab; rw [if_neg hn]
    refine ⟨_, _, rfl, ⟨by omega, h2, by omega, by omega, ?_⟩, hb⟩
    rw [e1]
    omega
theorem dg_zero (k : Nat) : dg 0 k = 0 := by unfold dg; rw [Int.zero_ediv]; rfl
theorem sadd_zero (a : Int) (k : Nat) (hk : k ≤ 4) (a0 : -9223372036854775808 ≤ a) (a1 : a ≤ 9223372036854775807) (w : World) :
    Calls Tryz.prog 56 #[.agg #[.int .u64 0, .int .u64 0, .int .u64 0, .int .u64 0, .int .u64 0, .int .u64 0, .int .u64 0, .int .u64 0, .int .u64 0, .int .u64 0, .int .u64 0, .int .u64 0], .int .i64 a, .int .i64 (k : Int)] w fun e w' => ∃ p' q', e = .returned (.agg #[.int .u64 (dg (p') 0), .int .u64 (dg (p') 1), .int .u64 (dg (p') 2), .int .u64 (dg (p') 3), .int .u64 (dg (p') 4), .int .u64 (dg (p') 5), .int .u64 (dg (q') 0), .int .u64 (dg (q') 1), .int .u64 (dg (q') 2), .int .u64 (dg (q') 3), .int .u64 (dg (q') 4), .int .u64 (dg (q') 5)]) ∧ Sm p' q' (a * 2 ^ (32 * k)) (9223372036854775808 * 2 ^ (32 * k)) ∧ Below w.heap.size w w' := by
  have h := sadd_any 0 0 0 0 a k hk ⟨by omega, by omega, by omega, by omega, by omega⟩ a0 a1 w
  rw [Int.zero_add, Int.zero_add] at h
  simp only [dg_zero] at h
  exact h

set_option maxHeartbeats 2000000 in
theorem smul_neg (p q a b : Int) (a0 : -9223372036854775808 ≤ a) (a1 : a ≤ 9223372036854775807) (b0 : -9223372036854775808 ≤ b) (b1 : b ≤ 9223372036854775807) (hs : (decide (a < 0) == decide (b < 0)) = false) (w : World) :
    Calls Tryz.prog 49 #[.agg #[.int .u64 (dg (p) 0), .int .u64 (dg (p) 1), .int .u64 (dg (p) 2), .int .u64 (dg (p) 3), .int .u64 (dg (p) 4), .int .u64 (dg (p) 5), .int .u64 (dg (q) 0), .int .u64 (dg (q) 1), .int .u64 (dg (q) 2), .int .u64 (dg (q) 3), .int .u64 (dg (q) 4), .int .u64 (dg (q) 5)], .int .i64 a, .int .i64 b] w fun e w' => e = .returned (.agg #[.int .u64 (dg (p) 0), .int .u64 (dg (p) 1), .int .u64 (dg (p) 2), .int .u64 (dg (p) 3), .int .u64 (dg (p) 4), .int .u64 (dg (p) 5), .int .u64 (dg (q + ab a * ab b) 0), .int .u64 (dg (q + ab a * ab b) 1), .int .u64 (dg (q + ab a * ab b) 2), .int .u64 (dg (q + ab a * ab b) 3), .int .u64 (dg (q + ab a * ab b) 4), .int .u64 (dg (q + ab a * ab b) 5)]) ∧ Below w.heap.size w w' := by
  have A0 := (B12.new w (dg p) (dg q) 108).later (bel1 _ (.cells #[.int .u64 0, .int .u64 0, .int .u64 0, .int .u64 0, .int .u64 0, .int .u64 0, .int .u64 0, .int .u64 0, .int .u64 0, .int .u64 0, .int .u64 0, .int .u64 0] 108))
  have R0 := B12.new (w.alloc (.cells #[.int .u64 (dg (p) 0), .int .u64 (dg (p) 1), .int .u64 (dg (p) 2), .int .u64 (dg (p) 3), .int .u64 (dg (p) 4), .int .u64 (dg (p) 5), .int .u64 (dg (q) 0), .int .u64 (dg (q) 1), .int .u64 (dg (q) 2), .int .u64 (dg (q) 3), .int .u64 (dg (q) 4), .int .u64 (dg (q) 5)] 108)) (fun _ => 0) (fun _ => 0) 108
  have W0 := bel2 w (.cells #[.int .u64 (dg (p) 0), .int .u64 (dg (p) 1), .int .u64 (dg (p) 2), .int .u64 (dg (p) 3), .int .u64 (dg (p) 4), .int .u64 (dg (p) 5), .int .u64 (dg (q) 0), .int .u64 (dg (q) 1), .int .u64 (dg (q) 2), .int .u64 (dg (q) 3), .int .u64 (dg (q) 4), .int .u64 (dg (q) 5)] 108) (.cells #[.int .u64 0, .int .u64 0, .int .u64 0, .int .u64 0, .int .u64 0, .int .u64 0, .int .u64 0, .int .u64 0, .int .u64 0, .int .u64 0, .int .u64 0, .int .u64 0] 108)
  simp only [World.size_alloc] at R0
  obtain ⟨s0, s1⟩ := ab_rng' a a0 a1
  obtain ⟨s2, s3⟩ := ab_rng' b b0 b1
  have SA : Hid (∀ W : World, Calls Tryz.prog 83 #[.int .i64 a] W fun e w' => e = .returned (.int .u64 (ab a)) ∧ w' = W) := fun W => ssize_any a a0 a1 W
  have SB : Hid (∀ W : World, Calls Tryz.prog 83 #[.int .i64 b] W fun e w' => e = .returned (.int .u64 (ab b)) ∧ w' = W) := fun W => ssize_any b b0 b1 W
  go_enter Tryz.func49, Tryz.ntmps49
  go_wp2_with fail
  refine (SA.out _).mono ?_
  rintro e w0 ⟨rfl, hw⟩
  subst hw
  go_wp2_with fail
  refine (SB.out _).mono ?_
  rintro e w0 ⟨rfl, hw⟩
  subst hw
  generalize (w.alloc (.cells #[.int .u64 (dg (p) 0), .int .u64 (dg (p) 1), .int .u64 (dg (p) 2), .int .u64 (dg (p) 3), .int .u64 (dg (p) 4), .int .u64 (dg (p) 5), .int .u64 (dg (q) 0), .int .u64 (dg (q) 1), .int .u64 (dg (q) 2), .int .u64 (dg (q) 3), .int .u64 (dg (q) 4), .int .u64 (dg (q) 5)] 108)).alloc (.cells #[.int .u64 0, .int .u64 0, .int .u64 0, .int .u64 0, .int .u64 0, .int .u64 0, .int .u64 0, .int .u64 0, .int .u64 0, .int .u64 0, .int .u64 0, .int .u64 0] 108) = w1 at *
  go_wp2_with fail
  refine (sproduct_any (ab a) (ab b) s0 (by omega) s2 (by omega) _).mono ?_
  rintro e w2 ⟨rfl, hb⟩
  have A2 := A0.later hb
  have R2 := R0.later hb
  have W2 := bchain W0 hb
  clear hb A0 R0 W0 SA SB
  have A3 := A2.later (bel1 w2 (.cells #[.int .u64 (dg (ab a * ab b) 0), .int .u64 (dg (ab a * ab b) 1), .int .u64 (dg (ab a * ab b) 2), .int .u64 (dg (ab a * ab b) 3), .int .u64 (dg (ab a * ab b) 4), .int .u64 (dg (ab a * ab b) 5)] 106))
  have R3 := R2.later (bel1 w2 (.cells #[.int .u64 (dg (ab a * ab b) 0), .int .u64 (dg (ab a * ab b) 1), .int .u64 (dg (ab a * ab b) 2), .int .u64 (dg (ab a * ab b) 3), .int .u64 (dg (ab a * ab b) 4), .int .u64 (dg (ab a * ab b) 5)] 106))
  have D3 := B6.new w2 (dg (ab a * ab b)) 106
  have W3 := bchain W2 (bel1 w2 (.cells #[.int .u64 (dg (ab a * ab b) 0), .int .u64 (dg (ab a * ab b) 1), .int .u64 (dg (ab a * ab b) 2), .int .u64 (dg (ab a * ab b) 3), .int .u64 (dg (ab a * ab b) 4), .int .u64 (dg (ab a * ab b) 5)] 106))
  clear A2 R2 W2
  go_upto_region 2 with fail
  generalize w2.alloc (.cells #[.int .u64 (dg (ab a * ab b) 0), .int .u64 (dg (ab a * ab b) 1), .int .u64 (dg (ab a * ab b) 2), .int .u64 (dg (ab a * ab b) 3), .int .u64 (dg (ab a * ab b) 4), .int .u64 (dg (ab a * ab b) 5)] 106) = w3 at *
  generalize w2.heap.size = d at *
  have x6 : w3.cell? ⟨w.heap.size, 6, none⟩ = some (.int .u64 (dg q 0)) := A3.d 0 (by omega); have x7 : w3.cell? ⟨w.heap.size, 7, none⟩ = some (.int .u64 (dg q 1)) := A3.d 1 (by omega); have x8 : w3.cell? ⟨w.heap.size, 8, none⟩ = some (.int .u64 (dg q 2)) := A3.d 2 (by omega); have x9 : w3.cell? ⟨w.heap.size, 9, none⟩ = some (.int .u64 (dg q 3)) := A3.d 3 (by omega); have x10 : w3.cell? ⟨w.heap.size, 10, none⟩ = some (.int .u64 (dg q 4)) := A3.d 4 (by omega); have x11 : w3.cell? ⟨w.heap.size, 11, none⟩ = some (.int .u64 (dg q 5)) := A3.d 5 (by omega); have xf6 : w3.frozen? ⟨w.heap.size, 6, none⟩ = false := A3.g 0 (by omega); have xf7 : w3.frozen? ⟨w.heap.size, 7, none⟩ = false := A3.g 1 (by omega); have xf8 : w3.frozen? ⟨w.heap.size, 8, none⟩ = false := A3.g 2 (by omega); have xf9 : w3.frozen? ⟨w.heap.size, 9, none⟩ = false := A3.g 3 (by omega); have xf10 : w3.frozen? ⟨w.heap.size, 10, none⟩ = false := A3.g 4 (by omega); have xf11 : w3.frozen? ⟨w.heap.size, 11, none⟩ = false := A3.g 5 (by omega)
  have y0 := D3.c 0 (by omega); have y1 := D3.c 1 (by omega); have y2 := D3.c 2 (by omega); have y3 := D3.c 3 (by omega); have y4 := D3.c 4 (by omega); have y5 := D3.c 5 (by omega); have yf0 := D3.f 0 (by omega); have yf1 := D3.f 1 (by omega); have yf2 := D3.f 2 (by omega); have yf3 := D3.f 3 (by omega); have yf4 := D3.f 4 (by omega); have yf5 := D3.f 5 (by omega)
  go_wp2_with fail
  refine (splus_any q (ab a * ab b) _).mono ?_
  rintro e w4 ⟨rfl, hb⟩
  have A4 := A3.later hb
  have R4 := R3.later hb
  have W4 := bchain W3 hb
  clear x6 x7 x8 x9 x10 x11 xf6 xf7 xf8 xf9 xf10 xf11
  clear y0 y1 y2 y3 y4 y5 yf0 yf1 yf2 yf3 yf4 yf5
  clear hb A3 R3 D3 W3
  have x6 : w4.cell? ⟨w.heap.size, 6, none⟩ = some (.int .u64 (dg q 0)) := A4.d 0 (by omega); have x7 : w4.cell? ⟨w.heap.size, 7, none⟩ = some (.int .u64 (dg q 1)) := A4.d 1 (by omega); have x8 : w4.cell? ⟨w.heap.size, 8, none⟩ = some (.int .u64 (dg q 2)) := A4.d 2 (by omega); have x9 : w4.cell? ⟨w.heap.size, 9, none⟩ = some (.int .u64 (dg q 3)) := A4.d 3 (by omega); have x10 : w4.cell? ⟨w.heap.size, 10, none⟩ = some (.int .u64 (dg q 4)) := A4.d 4 (by omega); have x11 : w4.cell? ⟨w.heap.size, 11, none⟩ = some (.int .u64 (dg q 5)) := A4.d 5 (by omega); have xf6 : w4.frozen? ⟨w.heap.size, 6, none⟩ = false := A4.g 0 (by omega); have xf7 : w4.frozen? ⟨w.heap.size, 7, none⟩ = false := A4.g 1 (by omega); have xf8 : w4.frozen? ⟨w.heap.size, 8, none⟩ = false := A4.g 2 (by omega); have xf9 : w4.frozen? ⟨w.heap.size, 9, none⟩ = false := A4.g 3 (by omega); have xf10 : w4.frozen? ⟨w.heap.size, 10, none⟩ = false := A4.g 4 (by omega); have xf11 : w4.frozen? ⟨w.heap.size, 11, none⟩ = false := A4.g 5 (by omega)
  go_upto_region 5 with fail
  have A5 := A4.allN (dg (q + ab a * ab b))
  have R5 := R4.farN (d := w.heap.size) (by omega) (dg (q + ab a * ab b))
  have W5 := bel6N W4 (b := w.heap.size) (Nat.le_refl _) (dg (q + ab a * ab b))
  clear x6 x7 x8 x9 x10 x11 xf6 xf7 xf8 xf9 xf10 xf11
  clear A4 R4 W4
  generalize ((((((w4.setCell ⟨w.heap.size, 6, none⟩ (.int .u64 (dg (q + ab a * ab b) 0))).setCell ⟨w.heap.size, 7, none⟩ (.int .u64 (dg (q + ab a * ab b) 1))).setCell ⟨w.heap.size, 8, none⟩ (.int .u64 (dg (q + ab a * ab b) 2))).setCell ⟨w.heap.size, 9, none⟩ (.int .u64 (dg (q + ab a * ab b) 3))).setCell ⟨w.heap.size, 10, none⟩ (.int .u64 (dg (q + ab a * ab b) 4))).setCell ⟨w.heap.size, 11, none⟩ (.int .u64 (dg (q + ab a * ab b) 5))) = w5 at *
  have x0 : w5.cell? ⟨w.heap.size, 0, none⟩ = some (.int .u64 (dg p 0)) := A5.c 0 (by omega); have x1 : w5.cell? ⟨w.heap.size, 1, none⟩ = some (.int .u64 (dg p 1)) := A5.c 1 (by omega); have x2 : w5.cell? ⟨w.heap.size, 2, none⟩ = some (.int .u64 (dg p 2)) := A5.c 2 (by omega); have x3 : w5.cell? ⟨w.heap.size, 3, none⟩ = some (.int .u64 (dg p 3)) := A5.c 3 (by omega); have x4 : w5.cell? ⟨w.heap.size, 4, none⟩ = some (.int .u64 (dg p 4)) := A5.c 4 (by omega); have x5 : w5.cell? ⟨w.heap.size, 5, none⟩ = some (.int .u64 (dg p 5)) := A5.c 5 (by omega); have x6 : w5.cell? ⟨w.heap.size, 6, none⟩ = some (.int .u64 (dg (q + ab a * ab b) 0)) := A5.d 0 (by omega); have x7 : w5.cell? ⟨w.heap.size, 7, none⟩ = some (.int .u64 (dg (q + ab a * ab b) 1)) := A5.d 1 (by omega); have x8 : w5.cell? ⟨w.heap.size, 8, none⟩ = some (.int .u64 (dg (q + ab a * ab b) 2)) := A5.d 2 (by omega); have x9 : w5.cell? ⟨w.heap.size, 9, none⟩ = some (.int .u64 (dg (q + ab a * ab b) 3)) := A5.d 3 (by omega); have x10 : w5.cell? ⟨w.heap.size, 10, none⟩ = some (.int .u64 (dg (q + ab a * ab b) 4)) := A5.d 4 (by omega); have x11 : w5.cell? ⟨w.heap.size, 11, none⟩ = some (.int .u64 (dg (q + ab a * ab b) 5)) := A5.d 5 (by omega); have xf0 : w5.frozen? ⟨w.heap.size, 0, none⟩ = false := A5.f 0 (by omega); have xf1 : w5.frozen? ⟨w.heap.size, 1, none⟩ = false := A5.f 1 (by omega); have xf2 : w5.frozen? ⟨w.heap.size, 2, none⟩ = false := A5.f 2 (by omega); have xf3 : w5.frozen? ⟨w.heap.size, 3, none⟩ = false := A5.f 3 (by omega); have xf4 : w5.frozen? ⟨w.heap.size, 4, none⟩ = false := A5.f 4 (by omega); have xf5 : w5.frozen? ⟨w.heap.size, 5, none⟩ = false := A5.f 5 (by omega); have xf6 : w5.frozen? ⟨w.heap.size, 6, none⟩ = false := A5.g 0 (by omega); have xf7 : w5.frozen? ⟨w.heap.size, 7, none⟩ = false := A5.g 1 (by omega); have xf8 : w5.frozen? ⟨w.heap.size, 8, none⟩ = false := A5.g 2 (by omega); have xf9 : w5.frozen? ⟨w.heap.size, 9, none⟩ = false := A5.g 3 (by omega); have xf10 : w5.frozen? ⟨w.heap.size, 10, none⟩ = false := A5.g 4 (by omega); have xf11 : w5.frozen? ⟨w.heap.size, 11, none⟩ = false := A5.g 5 (by omega)
  have r0 : w5.cell? ⟨w.heap.size + 1, 0, none⟩ = some (.int .u64 ((fun _ => 0) 0)) := R5.c 0 (by omega); have r1 : w5.cell? ⟨w.heap.size + 1, 1, none⟩ = some (.int .u64 ((fun _ => 0) 1)) := R5.c 1 (by omega); have r2 : w5.cell? ⟨w.heap.size + 1, 2, none⟩ = some (.int .u64 ((fun _ => 0) 2)) := R5.c 2 (by omega); have r3 : w5.cell? ⟨w.heap.size + 1, 3, none⟩ = some (.int .u64 ((fun _ => 0) 3)) := R5.c 3 (by omega); have r4 : w5.cell? ⟨w.heap.size + 1, 4, none⟩ = some (.int .u64 ((fun _ => 0) 4)) := R5.c 4 (by omega); have r5 : w5.cell? ⟨w.heap.size + 1, 5, none⟩ = some (.int .u64 ((fun _ => 0) 5)) := R5.c 5 (by omega); have r6 : w5.cell? ⟨w.heap.size + 1, 6, none⟩ = some (.int .u64 ((fun _ => 0) 0)) := R5.d 0 (by omega); have r7 : w5.cell? ⟨w.heap.size + 1, 7, none⟩ = some (.int .u64 ((fun _ => 0) 1)) := R5.d 1 (by omega); have r8 : w5.cell? ⟨w.heap.size + 1, 8, none⟩ = some (.int .u64 ((fun _ => 0) 2)) := R5.d 2 (by omega); have r9 : w5.cell? ⟨w.heap.size + 1, 9, none⟩ = some (.int .u64 ((fun _ => 0) 3)) := R5.d 3 (by omega); have r10 : w5.cell? ⟨w.heap.size + 1, 10, none⟩ = some (.int .u64 ((fun _ => 0) 4)) := R5.d 4 (by omega); have r11 : w5.cell? ⟨w.heap.size + 1, 11, none⟩ = some (.int .u64 ((fun _ => 0) 5)) := R5.d 5 (by omega); have rf0 : w5.frozen? ⟨w.heap.size + 1, 0, none⟩ = false := R5.f 0 (by omega); have rf1 : w5.frozen? ⟨w.heap.size + 1, 1, none⟩ = false := R5.f 1 (by omega); have rf2 : w5.frozen? ⟨w.heap.size + 1, 2, none⟩ = false := R5.f 2 (by omega); have rf3 : w5.frozen? ⟨w.heap.size + 1, 3, none⟩ = false := R5.f 3 (by omega); have rf4 : w5.frozen? ⟨w.heap.size + 1, 4, none⟩ = false := R5.f 4 (by omega); have rf5 : w5.frozen? ⟨w.heap.size + 1, 5, none⟩ = false := R5.f 5 (by omega); have rf6 : w5.frozen? ⟨w.heap.size + 1, 6, none⟩ = false := R5.g 0 (by omega); have rf7 : w5.frozen? ⟨w.heap.size + 1, 7, none⟩ = false := R5.g 1 (by omega); have rf8 : w5.frozen? ⟨w.heap.size + 1, 8, none⟩ = false := R5.g 2 (by omega); have rf9 : w5.frozen? ⟨w.heap.size + 1, 9, none⟩ = false := R5.g 3 (by omega); have rf10 : w5.frozen? ⟨w.heap.size + 1, 10, none⟩ = false := R5.g 4 (by omega); have rf11 : w5.frozen? ⟨w.heap.size + 1, 11, none⟩ = false := R5.g 5 (by omega)
  clear A5 R5
  go_wp2
  exact bodyPost_ret (v := .agg #[.int .u64 (dg (p) 0), .int .u64 (dg (p) 1), .int .u64 (dg (p) 2), .int .u64 (dg (p) 3), .int .u64 (dg (p) 4), .int .u64 (dg (p) 5), .int .u64 (dg (q + ab a * ab b) 0), .int .u64 (dg (q + ab a * ab b) 1), .int .u64 (dg (q + ab a * ab b) 2), .int .u64 (dg (q + ab a * ab b) 3), .int .u64 (dg (q + ab a * ab b) 4), .int .u64 (dg (q + ab a * ab b) 5)]) (by simp [results, Tryz.results49, go_sem, r0, r1, r2, r3, r4, r5, r6, r7, r8, r9, r10, r11]) rfl ⟨rfl, ((((((((((((W5).setCell (by dsimp only; omega) _).setCell (by dsimp only; omega) _).setCell (by dsimp only; omega) _).setCell (by dsimp only; omega) _).setCell (by dsimp only; omega) _).setCell (by dsimp only; omega) _).setCell (by dsimp only; omega) _).setCell (by dsimp only; omega) _).setCell (by dsimp only; omega) _).setCell (by dsimp only; omega) _).setCell (by dsimp only; omega) _).setCell (by dsimp only; omega) _⟩
set_option maxHeartbeats 2000000 in
theorem smul_pos (p q a b : Int) (a0 : -9223372036854775808 ≤ a) (a1 : a ≤ 9223372036854775807) (b0 : -9223372036854775808 ≤ b) (b1 : b ≤ 9223372036854775807) (hs : (decide (a < 0) == decide (b < 0)) = true) (w : World) :
    Calls Tryz.prog 49 #[.agg #[.int .u64 (dg (p) 0), .int .u64 (dg (p) 1), .int .u64 (dg (p) 2), .int .u64 (dg (p) 3), .int .u64 (dg (p) 4), .int .u64 (dg (p) 5), .int .u64 (dg (q) 0), .int .u64 (dg (q) 1), .int .u64 (dg (q) 2), .int .u64 (dg (q) 3), .int .u64 (dg (q) 4), .int .u64 (dg (q) 5)], .int .i64 a, .int .i64 b] w fun e w' => e = .returned (.agg #[.int .u64 (dg (p + ab a * ab b) 0), .int .u64 (dg (p + ab a * ab b) 1), .int .u64 (dg (p + ab a * ab b) 2), .int .u64 (dg (p + ab a * ab b) 3), .int .u64 (dg (p + ab a * ab b) 4), .int .u64 (dg (p + ab a * ab b) 5), .int .u64 (dg (q) 0), .int .u64 (dg (q) 1), .int .u64 (dg (q) 2), .int .u64 (dg (q) 3), .int .u64 (dg (q) 4), .int .u64 (dg (q) 5)]) ∧ Below w.heap.size w w' := by
  have A0 := (B12.new w (dg p) (dg q) 108).later (bel1 _ (.cells #[.int .u64 0, .int .u64 0, .int .u64 0, .int .u64 0, .int .u64 0, .int .u64 0, .int .u64 0, .int .u64 0, .int .u64 0, .int .u64 0, .int .u64 0, .int .u64 0] 108))
  have R0 := B12.new (w.alloc (.cells #[.int .u64 (dg (p) 0), .int .u64 (dg (p) 1), .int .u64 (dg (p) 2), .int .u64 (dg (p) 3), .int .u64 (dg (p) 4), .int .u64 (dg (p) 5), .int .u64 (dg (q) 0), .int .u64 (dg (q) 1), .int .u64 (dg (q) 2), .int .u64 (dg (q) 3), .int .u64 (dg (q) 4), .int .u64 (dg (q) 5)] 108)) (fun _ => 0) (fun _ => 0) 108
  have W0 := bel2 w (.cells #[.int .u64 (dg (p) 0), .int .u64 (dg (p) 1), .int .u64 (dg (p) 2), .int .u64 (dg (p) 3), .int .u64 (dg (p) 4), .int .u64 (dg (p) 5), .int .u64 (dg (q) 0), .int .u64 (dg (q) 1), .int .u64 (dg (q) 2), .int .u64 (dg (q) 3), .int .u64 (dg (q) 4), .int .u64 (dg (q) 5)] 108) (.cells #[.int .u64 0, .int .u64 0, .int .u64 0, .int .u64 0, .int .u64 0, .int .u64 0, .int .u64 0, .int .u64 0, .int .u64 0, .int .u64 0, .int .u64 0, .int .u64 0] 108)
  simp only [World.size_alloc] at R0
  obtain ⟨s0, s1⟩ := ab_rng' a a0 a1
  obtain ⟨s2, s3⟩ := ab_rng' b b0 b1
  have SA : Hid (∀ W : World, Calls Tryz.prog 83 #[.int .i64 a] W fun e w' => e = .returned (.int .u64 (ab a)) ∧ w' = W) := fun W => ssize_any a a0 a1 W
  have SB : Hid (∀ W : World, Calls Tryz.prog 83 #[.int .i64 b] W fun e w' => e = .returned (.int .u64 (ab b)) ∧ w' = W) := fun W => ssize_any b b0 b1 W
  go_enter Tryz.func49, Tryz.ntmps49
  go_wp2_with fail
  refine (SA.out _).mono ?_
  rintro e w0 ⟨rfl, hw⟩
  subst hw
  go_wp2_with fail
  refine (SB.out _).mono ?_
  rintro e w0 ⟨rfl, hw⟩
  subst hw
  generalize (w.alloc (.cells #[.int .u64 (dg (p) 0), .int .u64 (dg (p) 1), .int .u64 (dg (p) 2), .int .u64 (dg (p) 3), .int .u64 (dg (p) 4), .int .u64 (dg (p) 5), .int .u64 (dg (q) 0), .int .u64 (dg (q) 1), .int .u64 (dg (q) 2), .int .u64 (dg (q) 3), .int .u64 (dg (q) 4), .int .u64 (dg (q) 5)] 108)).alloc (.cells #[.int .u64 0, .int .u64 0, .int .u64 0, .int .u64 0, .int .u64 0, .int .u64 0, .int .u64 0, .int .u64 0, .int .u64 0, .int .u64 0, .int .u64 0, .int .u64 0] 108) = w1 at *
  go_wp2_with fail
  refine (sproduct_any (ab a) (ab b) s0 (by omega) s2 (by omega) _).mono ?_
  rintro e w2 ⟨rfl, hb⟩
  have A2 := A0.later hb
  have R2 := R0.later hb
  have W2 := bchain W0 hb
  clear hb A0 R0 W0 SA SB
  have A3 := A2.later (bel1 w2 (.cells #[.int .u64 (dg (ab a * ab b) 0), .int .u64 (dg (ab a * ab b) 1), .int .u64 (dg (ab a * ab b) 2), .int .u64 (dg (ab a * ab b) 3), .int .u64 (dg (ab a * ab b) 4), .int .u64 (dg (ab a * ab b) 5)] 106))
  have R3 := R2.later (bel1 w2 (.cells #[.int .u64 (dg (ab a * ab b) 0), .int .u64 (dg (ab a * ab b) 1), .int .u64 (dg (ab a * ab b) 2), .int .u64 (dg (ab a * ab b) 3), .int .u64 (dg (ab a * ab b) 4), .int .u64 (dg (ab a * ab b) 5)] 106))
  have D3 := B6.new w2 (dg (ab a * ab b)) 106
  have W3 := bchain W2 (bel1 w2 (.cells #[.int .u64 (dg (ab a * ab b) 0), .int .u64 (dg (ab a * ab b) 1), .int .u64 (dg (ab a * ab b) 2), .int .u64 (dg (ab a * ab b) 3), .int .u64 (dg (ab a * ab b) 4), .int .u64 (dg (ab a * ab b) 5)] 106))
  clear A2 R2 W2
  go_upto_region 2 with fail
  generalize w2.alloc (.cells #[.int .u64 (dg (ab a * ab b) 0), .int .u64 (dg (ab a * ab b) 1), .int .u64 (dg (ab a * ab b) 2), .int .u64 (dg (ab a * ab b) 3), .int .u64 (dg (ab a * ab b) 4), .int .u64 (dg (ab a * ab b) 5)] 106) = w3 at *
  generalize w2.heap.size = d at *
  have x0 : w3.cell? ⟨w.heap.size, 0, none⟩ = some (.int .u64 (dg p 0)) := A3.c 0 (by omega); have x1 : w3.cell? ⟨w.heap.size, 1, none⟩ = some (.int .u64 (dg p 1)) := A3.c 1 (by omega); have x2 : w3.cell? ⟨w.heap.size, 2, none⟩ = some (.int .u64 (dg p 2)) := A3.c 2 (by omega); have x3 : w3.cell? ⟨w.heap.size, 3, none⟩ = some (.int .u64 (dg p 3)) := A3.c 3 (by omega); have x4 : w3.cell? ⟨w.heap.size, 4, none⟩ = some (.int .u64 (dg p 4)) := A3.c 4 (by omega); have x5 : w3.cell? ⟨w.heap.size, 5, none⟩ = some (.int .u64 (dg p 5)) := A3.c 5 (by omega); have xf0 : w3.frozen? ⟨w.heap.size, 0, none⟩ = false := A3.f 0 (by omega); have xf1 : w3.frozen? ⟨w.heap.size, 1, none⟩ = false := A3.f 1 (by omega); have xf2 : w3.frozen? ⟨w.heap.size, 2, none⟩ = false := A3.f 2 (by omega); have xf3 : w3.frozen? ⟨w.heap.size, 3, none⟩ = false := A3.f 3 (by omega); have xf4 : w3.frozen? ⟨w.heap.size, 4, none⟩ = false := A3.f 4 (by omega); have xf5 : w3.frozen? ⟨w.heap.size, 5, none⟩ = false := A3.f 5 (by omega)
  have y0 := D3.c 0 (by omega); have y1 := D3.c 1 (by omega); have y2 := D3.c 2 (by omega); have y3 := D3.c 3 (by omega); have y4 := D3.c 4 (by omega); have y5 := D3.c 5 (by omega); have yf0 := D3.f 0 (by omega); have yf1 := D3.f 1 (by omega); have yf2 := D3.f 2 (by omega); have yf3 := D3.f 3 (by omega); have yf4 := D3.f 4 (by omega); have yf5 := D3.f 5 (by omega)
  go_wp2_with fail
  refine (splus_any p (ab a * ab b) _).mono ?_
  rintro e w4 ⟨rfl, hb⟩
  have A4 := A3.later hb
  have R4 := R3.later hb
  have W4 := bchain W3 hb
  clear x0 x1 x2 x3 x4 x5 xf0 xf1 xf2 xf3 xf4 xf5
  clear y0 y1 y2 y3 y4 y5 yf0 yf1 yf2 yf3 yf4 yf5
  clear hb A3 R3 D3 W3
  have x0 : w4.cell? ⟨w.heap.size, 0, none⟩ = some (.int .u64 (dg p 0)) := A4.c 0 (by omega); have x1 : w4.cell? ⟨w.heap.size, 1, none⟩ = some (.int .u64 (dg p 1)) := A4.c 1 (by omega); have x2 : w4.cell? ⟨w.heap.size, 2, none⟩ = some (.int .u64 (dg p 2)) := A4.c 2 (by omega); have x3 : w4.cell? ⟨w.heap.size, 3, none⟩ = some (.int .u64 (dg p 3)) := A4.c 3 (by omega); have x4 : w4.cell? ⟨w.heap.size, 4, none⟩ = some (.int .u64 (dg p 4)) := A4.c 4 (by omega); have x5 : w4.cell? ⟨w.heap.size, 5, none⟩ = some (.int .u64 (dg p 5)) := A4.c 5 (by omega); have xf0 : w4.frozen? ⟨w.heap.size, 0, none⟩ = false := A4.f 0 (by omega); have xf1 : w4.frozen? ⟨w.heap.size, 1, none⟩ = false := A4.f 1 (by omega); have xf2 : w4.frozen? ⟨w.heap.size, 2, none⟩ = false := A4.f 2 (by omega); have xf3 : w4.frozen? ⟨w.heap.size, 3, none⟩ = false := A4.f 3 (by omega); have xf4 : w4.frozen? ⟨w.heap.size, 4, none⟩ = false := A4.f 4 (by omega); have xf5 : w4.frozen? ⟨w.heap.size, 5, none⟩ = false := A4.f 5 (by omega)
  go_upto_region 5 with fail
  have A5 := A4.allP (dg (p + ab a * ab b))
  have R5 := R4.farP (d := w.heap.size) (by omega) (dg (p + ab a * ab b))
  have W5 := bel6 W4 (b := w.heap.size) (Nat.le_refl _) (dg (p + ab a * ab b))
  clear x0 x1 x2 x3 x4 x5 xf0 xf1 xf2 xf3 xf4 xf5
  clear A4 R4 W4
  generalize ((((((w4.setCell ⟨w.heap.size, 0, none⟩ (.int .u64 (dg (p + ab a * ab b) 0))).setCell ⟨w.heap.size, 1, none⟩ (.int .u64 (dg (p + ab a * ab b) 1))).setCell ⟨w.heap.size, 2, none⟩ (.int .u64 (dg (p + ab a * ab b) 2))).setCell ⟨w.heap.size, 3, none⟩ (.int .u64 (dg (p + ab a * ab b) 3))).setCell ⟨w.heap.size, 4, none⟩ (.int .u64 (dg (p + ab a * ab b) 4))).setCell ⟨w.heap.size, 5, none⟩ (.int .u64 (dg (p + ab a * ab b) 5))) = w5 at *
  have x0 : w5.cell? ⟨w.heap.size, 0, none⟩ = some (.int .u64 (dg (p + ab a * ab b) 0)) := A5.c 0 (by omega); have x1 : w5.cell? ⟨w.heap.size, 1, none⟩ = some (.int .u64 (dg (p + ab a * ab b) 1)) := A5.c 1 (by omega); have x2 : w5.cell? ⟨w.heap.size, 2, none⟩ = some (.int .u64 (dg (p + ab a * ab b) 2)) := A5.c 2 (by omega); have x3 : w5.cell? ⟨w.heap.size, 3, none⟩ = some (.int .u64 (dg (p + ab a * ab b) 3)) := A5.c 3 (by omega); have x4 : w5.cell? ⟨w.heap.size, 4, none⟩ = some (.int .u64 (dg (p + ab a * ab b) 4)) := A5.c 4 (by omega); have x5 : w5.cell? ⟨w.heap.size, 5, none⟩ = some (.int .u64 (dg (p + ab a * ab b) 5)) := A5.c 5 (by omega); have x6 : w5.cell? ⟨w.heap.size, 6, none⟩ = some (.int .u64 (dg q 0)) := A5.d 0 (by omega); have x7 : w5.cell? ⟨w.heap.size, 7, none⟩ = some (.int .u64 (dg q 1)) := A5.d 1 (by omega); have x8 : w5.cell? ⟨w.heap.size, 8, none⟩ = some (.int .u64 (dg q 2)) := A5.d 2 (by omega); have x9 : w5.cell? ⟨w.heap.size, 9, none⟩ = some (.int .u64 (dg q 3)) := A5.d 3 (by omega); have x10 : w5.cell? ⟨w.heap.size, 10, none⟩ = some (.int .u64 (dg q 4)) := A5.d 4 (by omega); have x11 : w5.cell? ⟨w.heap.size, 11, none⟩ = some (.int .u64 (dg q 5)) := A5.d 5 (by omega); have xf0 : w5.frozen? ⟨w.heap.size, 0, none⟩ = false := A5.f 0 (by omega); have xf1 : w5.frozen? ⟨w.heap.size, 1, none⟩ = false := A5.f 1 (by omega); have xf2 : w5.frozen? ⟨w.heap.size, 2, none⟩ = false := A5.f 2 (by omega); have xf3 : w5.frozen? ⟨w.heap.size, 3, none⟩ = false := A5.f 3 (by omega); have xf4 : w5.frozen? ⟨w.heap.size, 4, none⟩ = false := A5.f 4 (by omega); have xf5 : w5.frozen? ⟨w.heap.size, 5, none⟩ = false := A5.f 5 (by omega); have xf6 : w5.frozen? ⟨w.heap.size, 6, none⟩ = false := A5.g 0 (by omega); have xf7 : w5.frozen? ⟨w.heap.size, 7, none⟩ = false := A5.g 1 (by omega); have xf8 : w5.frozen? ⟨w.heap.size, 8, none⟩ = false := A5.g 2 (by omega); have xf9 : w5.frozen? ⟨w.heap.size, 9, none⟩ = false := A5.g 3 (by omega); have xf10 : w5.frozen? ⟨w.heap.size, 10, none⟩ = false := A5.g 4 (by omega); have xf11 : w5.frozen? ⟨w.heap.size, 11, none⟩ = false := A5.g 5 (by omega)
  have r0 : w5.cell? ⟨w.heap.size + 1, 0, none⟩ = some (.int .u64 ((fun _ => 0) 0)) := R5.c 0 (by omega); have r1 : w5.cell? ⟨w.heap.size + 1, 1, none⟩ = some (.int .u64 ((fun _ => 0) 1)) := R5.c 1 (by omega); have r2 : w5.cell? ⟨w.heap.size + 1, 2, none⟩ = some (.int .u64 ((fun _ => 0) 2)) := R5.c 2 (by omega); have r3 : w5.cell? ⟨w.heap.size + 1, 3, none⟩ = some (.int .u64 ((fun _ => 0) 3)) := R5.c 3 (by omega); have r4 : w5.cell? ⟨w.heap.size + 1, 4, none⟩ = some (.int .u64 ((fun _ => 0) 4)) := R5.c 4 (by omega); have r5 : w5.cell? ⟨w.heap.size + 1, 5, none⟩ = some (.int .u64 ((fun _ => 0) 5)) := R5.c 5 (by omega); have r6 : w5.cell? ⟨w.heap.size + 1, 6, none⟩ = some (.int .u64 ((fun _ => 0) 0)) := R5.d 0 (by omega); have r7 : w5.cell? ⟨w.heap.size + 1, 7, none⟩ = some (.int .u64 ((fun _ => 0) 1)) := R5.d 1 (by omega); have r8 : w5.cell? ⟨w.heap.size + 1, 8, none⟩ = some (.int .u64 ((fun _ => 0) 2)) := R5.d 2 (by omega); have r9 : w5.cell? ⟨w.heap.size + 1, 9, none⟩ = some (.int .u64 ((fun _ => 0) 3)) := R5.d 3 (by omega); have r10 : w5.cell? ⟨w.heap.size + 1, 10, none⟩ = some (.int .u64 ((fun _ => 0) 4)) := R5.d 4 (by omega); have r11 : w5.cell? ⟨w.heap.size + 1, 11, none⟩ = some (.int .u64 ((fun _ => 0) 5)) := R5.d 5 (by omega); have rf0 : w5.frozen? ⟨w.heap.size + 1, 0, none⟩ = false := R5.f 0 (by omega); have rf1 : w5.frozen? ⟨w.heap.size + 1, 1, none⟩ = false := R5.f 1 (by omega); have rf2 : w5.frozen? ⟨w.heap.size + 1, 2, none⟩ = false := R5.f 2 (by omega); have rf3 : w5.frozen? ⟨w.heap.size + 1, 3, none⟩ = false := R5.f 3 (by omega); have rf4 : w5.frozen? ⟨w.heap.size + 1, 4, none⟩ = false := R5.f 4 (by omega); have rf5 : w5.frozen? ⟨w.heap.size + 1, 5, none⟩ = false := R5.f 5 (by omega); have rf6 : w5.frozen? ⟨w.heap.size + 1, 6, none⟩ = false := R5.g 0 (by omega); have rf7 : w5.frozen? ⟨w.heap.size + 1, 7, none⟩ = false := R5.g 1 (by omega); have rf8 : w5.frozen? ⟨w.heap.size + 1, 8, none⟩ = false := R5.g 2 (by omega); have rf9 : w5.frozen? ⟨w.heap.size + 1, 9, none⟩ = false := R5.g 3 (by omega); have rf10 : w5.frozen? ⟨w.heap.size + 1, 10, none⟩ = false := R5.g 4 (by omega); have rf11 : w5.frozen? ⟨w.heap.size + 1, 11, none⟩ = false := R5.g 5 (by omega)
  clear A5 R5
  go_wp2
  exact bodyPost_ret (v := .agg #[.int .u64 (dg (p + ab a * ab b) 0), .int .u64 (dg (p + ab a * ab b) 1), .int .u64 (dg (p + ab a * ab b) 2), .int .u64 (dg (p + ab a * ab b) 3), .int .u64 (dg (p + ab a * ab b) 4), .int .u64 (dg (p + ab a * ab b) 5), .int .u64 (dg (q) 0), .int .u64 (dg (q) 1), .int .u64 (dg (q) 2), .int .u64 (dg (q) 3), .int .u64 (dg (q) 4), .int .u64 (dg (q) 5)]) (by simp [results, Tryz.results49, go_sem, r0, r1, r2, r3, r4, r5, r6, r7, r8, r9, r10, r11]) rfl ⟨rfl, ((((((((((((W5).setCell (by dsimp only; omega) _).setCell (by dsimp only; omega) _).setCell (by dsimp only; omega) _).setCell (by dsimp only; omega) _).setCell (by dsimp only; omega) _).setCell (by dsimp only; omega) _).setCell (by dsimp only; omega) _).setCell (by dsimp only; omega) _).setCell (by dsimp only; omega) _).setCell (by dsimp only; omega) _).setCell (by dsimp only; omega) _).setCell (by dsimp only; omega) _⟩

theorem ab_mul_le (a b : Int) (a0 : -9223372036854775808 ≤ a) (a1 : a ≤ 9223372036854775807) (b0 : -9223372036854775808 ≤ b) (b1 : b ≤ 9223372036854775807) : 0 ≤ ab a * ab b ∧ ab a * ab b ≤ 85070591730234615865843651857942052864 := by
  obtain ⟨s0, s1⟩ := ab_rng' a a0 a1
  obtain ⟨s2, s3⟩ := ab_rng' b b0 b1
  have h1 := Int.mul_nonneg s0 s2
  have h2 := Int.mul_le_mul s1 s3 s2 (by omega)
  omega
theorem smul_any (p q V B a b : Int) (hS : Sm p q V B) (a0 : -9223372036854775808 ≤ a) (a1 : a ≤ 9223372036854775807) (b0 : -9223372036854775808 ≤ b) (b1 : b ≤ 9223372036854775807) (w : World) :
    Calls Tryz.prog 49 #[.agg #[.int .u64 (dg (p) 0), .int .u64 (dg (p) 1), .int .u64 (dg (p) 2), .int .u64 (dg (p) 3), .int .u64 (dg (p) 4), .int .u64 (dg (p) 5), .int .u64 (dg (q) 0), .int .u64 (dg (q) 1), .int .u64 (dg (q) 2), .int .u64 (dg (q) 3), .int .u64 (dg (q) 4), .int .u64 (dg (q) 5)], .int .i64 a, .int .i64 b] w fun e w' => ∃ p' q', e = .returned (.agg #[.int .u64 (dg (p') 0), .int .u64 (dg (p') 1), .int .u64 (dg (p') 2), .int .u64 (dg (p') 3), .int .u64 (dg (p') 4), .int .u64 (dg (p') 5), .int .u64 (dg (q') 0), .int .u64 (dg (q') 1), .int .u64 (dg (q') 2), .int .u64 (dg (q') 3), .int .u64 (dg (q') 4), .int .u64 (dg (q') 5)]) ∧ Sm p' q' (V + a * b) (B + 85070591730234615865843651857942052864) ∧ Below w.heap.size w w' := by
  obtain ⟨g0, g1⟩ := ab_mul_le a b a0 a1 b0 b1
  obtain ⟨h1, h2, h3, h4, h5⟩ := hS
  cases hs : (decide (a < 0) == decide (b < 0))
  · refine (smul_neg p q a b a0 a1 b0 b1 hs w).mono ?_
    rintro e w' ⟨rfl, hb⟩
    refine ⟨_, _, rfl, ⟨h1, by omega, by omega, by omega, ?_⟩, hb⟩
    have e1 : ab a * ab b = -(a * b) := by
      unfold ab
      by_cases ha : a < 0
      · by_cases hb' : b < 0
        · simp [ha, hb'] at hs
        · rw [if_pos ha, if_neg hb', Int.neg_mul]
      · by_cases hb' : b < 0
        · rw [if_neg ha, if_pos hb', Int.mul_neg]
        · simp [ha, hb'] at hs
    omega
  · refine (smul_pos p q a b a0 a1 b0 b1 hs w).mono ?_
    rintro e w' ⟨rfl, hb⟩
    refine ⟨_, _, rfl, ⟨by omega, h2, by omega, by omega, ?_⟩, hb⟩
    have e1 : ab a * ab b = a * b := by
      unfold ab
      by_cases ha : a < 0
      · by_cases hb' : b < 0
        · rw [if_pos ha, if_pos hb', Int.neg_mul_neg]
        · simp [ha, hb'] at hs
      · by_cases hb' : b < 0
        · simp [ha, hb'] at hs
        · rw [if_neg ha, if_neg hb']
    omega
theorem smul_zero (a b : Int) (a0 : -9223372036854775808 ≤ a) (a1 : a ≤ 9223372036854775807) (b0 : -9223372036854775808 ≤ b) (b1 : b ≤ 9223372036854775807) (w : World) :
    Calls Tryz.prog 49 #[.agg #[.int .u64 0, .int .u64 0, .int .u64 0, .int .u64 0, .int .u64 0, .int .u64 0, .int .u64 0, .int .u64 0, .int .u64 0, .int .u64 0, .int .u64 0, .int .u64 0], .int .i64 a, .int .i64 b] w fun e w' => ∃ p' q', e = .returned (.agg #[.int .u64 (dg (p') 0), .int .u64 (dg (p') 1), .int .u64 (dg (p') 2), .int .u64 (dg (p') 3), .int .u64 (dg (p') 4), .int .u64 (dg (p') 5), .int .u64 (dg (q') 0), .int .u64 (dg (q') 1), .int .u64 (dg (q') 2), .int .u64 (dg (q') 3), .int .u64 (dg (q') 4), .int .u64 (dg (q') 5)]) ∧ Sm p' q' (a * b) 85070591730234615865843651857942052864 ∧ Below w.heap.size w w' := by
  have h := smul_any 0 0 0 0 a b ⟨by omega, by omega, by omega, by omega, by omega⟩ a0 a1 b0 b1 w
  rw [Int.zero_add, Int.zero_add] at h
  simp only [dg_zero] at h
  exact h
theorem sround_of (p q V B : Int) (n : Nat) (hn : n ≤ 1000) (hS : Sm p q V B) (hB : B < 3138550867693340381917894711603833208051177722232017256448) (w : World) :
    Calls Tryz.prog 55 #[.agg #[.int .u64 (dg (p) 0), .int .u64 (dg (p) 1), .int .u64 (dg (p) 2), .int .u64 (dg (p) 3), .int .u64 (dg (p) 4), .int .u64 (dg (p) 5), .int .u64 (dg (q) 0), .int .u64 (dg (q) 1), .int .u64 (dg (q) 2), .int .u64 (dg (q) 3), .int .u64 (dg (q) 4), .int .u64 (dg (q) 5)], .int .i64 (n : Int)] w fun e w' => e = .returned (.tuple #[.int .i64 (clv (rr V n)), .bool (ovv (rr V n))]) ∧ Below w.heap.size w w' := by
  obtain ⟨h1, h2, h3, h4, h5⟩ := hS
  rw [← h5]
  exact sround_any p q n hn h1 (by omega) h2 (by omega) w

set_option maxHeartbeats 1000000 in
theorem rfmul_any (a b : Int) (a0 : -9223372036854775808 ≤ a) (a1 : a ≤ 9223372036854775807) (b0 : -9223372036854775808 ≤ b) (b1 : b ≤ 9223372036854775807) (w : World) :
    Calls Tryz.prog 51 #[.int .i64 a, .int .i64 b] w fun e w' => e = .returned (.tuple #[.int .i64 (clv (rnd (a * b) 32)), .bool (ovv (rnd (a * b) 32))]) ∧ Below w.heap.size w w' := by
  go_enter Tryz.func51, Tryz.ntmps51
  go_wp2_with fail
  refine (smul_zero a b a0 a1 b0 b1 _).mono ?_
  rintro e w1 ⟨p', q', rfl, hS, W1⟩
  go_wp2_with fail
  refine (sround_of p' q' _ _ 32 (by omega) hS (by omega) _).mono ?_
  rintro e w2 ⟨rfl, hb⟩
  have W2 := bchain W1 hb
  clear hb W1 hS
  go_wp2
  go_ret2
  exact ⟨rfl, W2⟩
set_option maxHeartbeats 1000000 in
theorem rfadd_any (a b : Int) (a0 : -9223372036854775808 ≤ a) (a1 : a ≤ 9223372036854775807) (b0 : -9223372036854775808 ≤ b) (b1 : b ≤ 9223372036854775807) (w : World) :
    Calls Tryz.prog 58 #[.int .i64 a, .int .i64 b] w fun e w' => e = .returned (.tuple #[.int .i64 (clv (a + b)), .bool (ovv (a + b))]) ∧ Below w.heap.size w w' := by
  go_enter Tryz.func58, Tryz.ntmps58
  go_wp2_with fail
  refine (sadd_zero a 0 (by omega) a0 a1 _).mono ?_
  rintro e w1 ⟨p', q', rfl, hS, W1⟩
  go_wp2_with fail
  refine (sadd_any p' q' _ _ b 0 (by omega) hS b0 b1 _).mono ?_
  rintro e w2 ⟨p2, q2, rfl, hS2, hb⟩
  have W2 := bchain W1 hb
  clear hb W1 hS
  rw [Nat.mul_zero, Int.pow_zero, Int.mul_one, Int.mul_one, Int.mul_one] at hS2
  go_wp2_with fail
  refine (sround_of p2 q2 _ _ 0 (by omega) hS2 (by omega) _).mono ?_
  rintro e w3 ⟨rfl, hb⟩
  have W3 := bchain W2 hb
  clear hb W2 hS2
  go_wp2
  go_ret2
  exact ⟨rfl, W3⟩
end Go.Proofs.YtcdehbhdloaieaaGreatDoor
/-
  The contract of regattaref02's Sub.
-/
set_option linter.unusedVariables false
set_option linter.unusedSimpArgs false
namespace Go.Proofs.YtcdehbhdloaieaaGreatDoor
open Go.RowKit

theorem Sm.turn {p q V B : Int} (h : Sm p q V B) : Sm q p (-V) B := by
  obtain ⟨h1, h2, h3, h4, h5⟩ := h
  exact ⟨h2, h1, h4, h3, by omega⟩

set_option maxHeartbeats 1000000 in
theorem rfsub_any (a b : Int) (a0 : -9223372036854775808 ≤ a) (a1 : a ≤ 9223372036854775807) (b0 : -9223372036854775808 ≤ b) (b1 : b ≤ 9223372036854775807) (w : World) :
    Calls Tryz.prog 33 #[.int .i64 a, .int .i64 b] w fun e w' => e = .returned (.tuple #[.int .i64 (clv (a - b)), .bool (ovv (a - b))]) ∧ Below w.heap.size w w' := by
  go_enter Tryz.func33, Tryz.ntmps33
  go_wp2_with fail
  refine (sadd_zero b 0 (by omega) b0 b1 _).mono ?_
  rintro e w1 ⟨p', q', rfl, hS, W1⟩
  have hT := hS.turn
  rw [Nat.mul_zero, Int.pow_zero, Int.mul_one, Int.mul_one] at hT
  clear hS
  have W2 := bchain W1 (bel1 w1 (.cells #[.int .u64 (dg (q') 0), .int .u64 (dg (q') 1), .int .u64 (dg (q') 2), .int .u64 (dg (q') 3), .int .u64 (dg (q') 4), .int .u64 (dg (q') 5), .int .u64 (dg (p') 0), .int .u64 (dg (p') 1), .int .u64 (dg (p') 2), .int .u64 (dg (p') 3), .int .u64 (dg (p') 4), .int .u64 (dg (p') 5)] 108))
  clear W1
  go_wp2_with fail
  refine (sadd_any q' p' _ _ a 0 (by omega) hT a0 a1 _).mono ?_
  rintro e w2 ⟨p2, q2, rfl, hS2, hb⟩
  have W3 := bchain W2 hb
  clear hb W2 hT
  rw [Nat.mul_zero, Int.pow_zero, Int.mul_one, Int.mul_one, show -b + a = a - b by omega] at hS2
  go_wp2_with fail
  refine (sround_of p2 q2 _ _ 0 (by omega) hS2 (by omega) _).mono ?_
  rintro e w3 ⟨rfl, hb⟩
  have W4 := bchain W3 hb
  clear hb W3 hS2
  go_wp2
  go_ret2
  exact ⟨rfl, W4⟩
end Go.Proofs.YtcdehbhdloaieaaGreatDoor
/-
  The contract of regattaref02's Quo.
-/
set_option linter.unusedVariables false
set_option linter.unusedSimpArgs false
namespace Go.Proofs.YtcdehbhdloaieaaGreatDoor
open Go.RowKit

set_option maxHeartbeats 4000000 in
theorem squo_any (p q V B d : Int) (hS : Sm p q V B) (hB : B < 3138550867693340381917894711603833208051177722232017256448) (d0 : -9223372036854775808 ≤ d) (d1 : d ≤ 9223372036854775807) (hd : d ≠ 0) (w : World) :
    Calls Tryz.prog 50 #[.agg #[.int .u64 (dg (p) 0), .int .u64 (dg (p) 1), .int .u64 (dg (p) 2), .int .u64 (dg (p) 3), .int .u64 (dg (p) 4), .int .u64 (dg (p) 5), .int .u64 (dg (q) 0), .int .u64 (dg (q) 1), .int .u64 (dg (q) 2), .int .u64 (dg (q) 3), .int .u64 (dg (q) 4), .int .u64 (dg (q) 5)], .int .i64 d] w fun e w' => e = .returned (.tuple #[.int .i64 (clv (quo V d)), .bool (ovv (quo V d))]) ∧ Below w.heap.size w w' := by
  obtain ⟨p0, q0, p1, q1, hv⟩ := hS
  have W0 := bel1 w (.cells #[.int .u64 (dg (p) 0), .int .u64 (dg (p) 1), .int .u64 (dg (p) 2), .int .u64 (dg (p) 3), .int .u64 (dg (p) 4), .int .u64 (dg (p) 5), .int .u64 (dg (q) 0), .int .u64 (dg (q) 1), .int .u64 (dg (q) 2), .int .u64 (dg (q) 3), .int .u64 (dg (q) 4), .int .u64 (dg (q) 5)] 108)
  have M1 : ab V < 3138550867693340381917894711603833208051177722232017256448 := by unfold ab; split <;> omega
  have M0 := ab_ge' V
  have SWH : Hid (∀ W : World, Calls Tryz.prog 85 #[.agg #[.int .u64 (dg (p) 0), .int .u64 (dg (p) 1), .int .u64 (dg (p) 2), .int .u64 (dg (p) 3), .int .u64 (dg (p) 4), .int .u64 (dg (p) 5), .int .u64 (dg (q) 0), .int .u64 (dg (q) 1), .int .u64 (dg (q) 2), .int .u64 (dg (q) 3), .int .u64 (dg (q) 4), .int .u64 (dg (q) 5)]] W fun e w' => e = .returned (.tuple #[.agg #[.int .u64 (dg (ab V) 0), .int .u64 (dg (ab V) 1), .int .u64 (dg (ab V) 2), .int .u64 (dg (ab V) 3), .int .u64 (dg (ab V) 4), .int .u64 (dg (ab V) 5)], .bool (decide (V < 0))]) ∧ Below W.heap.size W w') := by
    intro W
    rw [← hv]
    exact swhole_any p q p0 (by omega) q0 (by omega) W
  have SZH : Hid (∀ W : World, Calls Tryz.prog 83 #[.int .i64 d] W fun e w' => e = .returned (.int .u64 (ab d)) ∧ w' = W) := fun W => ssize_any d d0 d1 W
  have D0 : 1 ≤ ab d := by unfold ab; split <;> omega
  have D1 := (ab_rng' d d0 d1).2
  have HQ : Hid (quo V d = if (decide (V < 0) != decide (d < 0)) = true then -(if gu (c3 (2 * (ab V % ab d)) (ab d)) (lo (ab V / ab d)) = true then ab V / ab d + 1 else ab V / ab d) else (if gu (c3 (2 * (ab V % ab d)) (ab d)) (lo (ab V / ab d)) = true then ab V / ab d + 1 else ab V / ab d)) := rfl
  clear p0 q0 p1 q1 hv
  generalize ab V = M at *
  generalize ab d = D at *
  generalize decide (V < 0) = bel at *
  go_enter Tryz.func50, Tryz.ntmps50
  go_wp2_with fail
  refine (SWH.out _).mono ?_
  rintro e w1 ⟨rfl, hb⟩
  have A1 := B6.new w1 (dg M) 106
  have W1 := bchain (bchain W0 hb) (bel1 w1 (.cells #[.int .u64 (dg (M) 0), .int .u64 (dg (M) 1), .int .u64 (dg (M) 2), .int .u64 (dg (M) 3), .int .u64 (dg (M) 4), .int .u64 (dg (M) 5)] 106))
  have hs1 := (bchain W0 hb).size
  clear hb W0 SWH
  go_wp2_with fail
  refine (SZH.out _).mono ?_
  rintro e w1' ⟨rfl, hw⟩
  subst hw
  generalize w1.alloc (.cells #[.int .u64 (dg (M) 0), .int .u64 (dg (M) 1), .int .u64 (dg (M) 2), .int .u64 (dg (M) 3), .int .u64 (dg (M) 4), .int .u64 (dg (M) 5)] 106) = w2 at *
  generalize w1.heap.size = x at *
  have A2 := A1.later (bel1 w2 (.cells #[.int .u64 0, .int .u64 0, .int .u64 0, .int .u64 0, .int .u64 0, .int .u64 0] 106))
  have Q2 := B6.new w2 (fun _ => 0) 106
  have W2 := bchain W1 (bel1 w2 (.cells #[.int .u64 0, .int .u64 0, .int .u64 0, .int .u64 0, .int .u64 0, .int .u64 0] 106))
  have hxy := A1.lt
  have hy : w.heap.size ≤ w2.heap.size := W1.size
  clear A1 W1 SZH
  go_wp2
  generalize w2.alloc (.cells #[.int .u64 0, .int .u64 0, .int .u64 0, .int .u64 0, .int .u64 0, .int .u64 0] 106) = w3 at *
  generalize w2.heap.size = y at *
  go_loopw [10, 11] (fun r i wr => B6 x (dg M) wr ∧ Below w.heap.size w wr ∧ ((∃ j : Nat, j < 6 ∧ i = .int .i64 (j : Int) ∧ r = .int .u64 (M / 2 ^ (32 * j + 32) % D) ∧ B6 y (fun k => if j < k then dg (M / D) k else 0) wr) ∨ (i = .int .i64 (-1) ∧ r = .int .u64 (M % D) ∧ B6 y (dg (M / D)) wr))) (fun _ i _ => (intOf i + 1).toNat)
  case atStart =>
    refine ⟨A2, W2, .inl ⟨5, by omega, rfl, ?_, Q2.cong fun k hk => ?_⟩⟩
    · rw [show M / 2 ^ (32 * 5 + 32) = 0 from top_none M M0 (by omega)]
      rfl
    · rw [if_neg (by omega)]
  case round =>
    clear A2 W2 Q2
    obtain ⟨hA, hW, hrel⟩ := hrel
    rcases hrel with ⟨j, hj, rfl, rfl, hQ⟩ | ⟨rfl, rfl, hQ⟩
    · have hj0 : (0 : Int) ≤ (j : Int) := by omega
      have hj6 : (j : Int) < 6 := by omega
      go_wp2
      go_loopw [10, 12] (fun r k wr => B6 x (dg M) wr ∧ Below w.heap.size w wr ∧ ((∃ t : Nat, t < 32 ∧ k = .int .i64 (t : Int) ∧ r = .int .u64 (M / 2 ^ (32 * j + t + 1) % D) ∧ B6 y (fun k => if j < k then dg (M / D) k else if k = j then pq (M / D) j (t + 1) else 0) wr) ∨ (k = .int .i64 (-1) ∧ r = .int .u64 (M / 2 ^ (32 * j) % D) ∧ B6 y (fun k => if j ≤ k then dg (M / D) k else 0) wr))) (fun _ k _ => (intOf k + 1).toNat)
      case atStart =>
        refine ⟨hA, hW, .inl ⟨31, by omega, rfl, rfl, hQ.cong fun k hk => ?_⟩⟩
        by_cases h1 : j < k
        · rw [if_pos h1, if_pos h1]
        · rw [if_neg h1, if_neg h1]
          by_cases h2 : k = j
          · rw [if_pos h2, pq_top]
          · rw [if_neg h2]
      case round =>
        clear hA hW hQ
        obtain ⟨hA, hW, hrel⟩ := hrel
        rcases hrel with ⟨t, ht, rfl, rfl, hQ⟩ | ⟨rfl, rfl, hQ⟩
        · have a0 := hA.c j hj
          have b0 := hQ.c j hj
          have f0 := hQ.f j hj
          rw [if_neg (Nat.lt_irrefl j), if_pos rfl] at b0
          obtain ⟨r0, r1⟩ := pq_rng (M / D) j (t + 1)
          have m0 := Int.emod_nonneg (M / 2 ^ (32 * j + t + 1)) (show D ≠ 0 by omega)
          have m1 := Int.emod_lt_of_pos (M / 2 ^ (32 * j + t + 1)) (show 0 < D by omega)
          have hz := dg_bit M j t ht
          have HB := quo_bit M D j t D0 ht
          have z01 : M / 2 ^ (32 * j + t) % 2 = 0 ∨ M / 2 ^ (32 * j + t) % 2 = 1 := by omega
          obtain ⟨g0, g1⟩ := dg_rng M j
          have hp := pow_pos' t
          have gd0 : 0 ≤ dg M j / 2 ^ t := Int.ediv_nonneg g0 (by omega)
          have tm := Int.tmod_eq_emod_of_nonneg (b := 2) gd0
          rw [hz] at tm
          have HB' : Hid ((D ≤ 2 * (M / 2 ^ (32 * j + t + 1) % D) + M / 2 ^ (32 * j + t) % 2 → M / 2 ^ (32 * j + t) % D = 2 * (M / 2 ^ (32 * j + t + 1) % D) + M / 2 ^ (32 * j + t) % 2 - D ∧ pq (M / D) j t = 2 * pq (M / D) j (t + 1) + 1) ∧ (2 * (M / 2 ^ (32 * j + t + 1) % D) + M / 2 ^ (32 * j + t) % 2 < D → M / 2 ^ (32 * j + t) % D = 2 * (M / 2 ^ (32 * j + t + 1) % D) + M / 2 ^ (32 * j + t) % 2 ∧ pq (M / D) j t = 2 * pq (M / D) j (t + 1))) := HB
          clear HB hz hp gd0
          generalize M / 2 ^ (32 * j + t + 1) % D = r at *
          generalize M / 2 ^ (32 * j + t) % 2 = z at *
          generalize hpq : pq (M / D) j (t + 1) = c at *
          have ht0 : (0 : Int) ≤ (t : Int) := by omega
          have k1 := wrap_small (2 * r) (by omega) (by omega)
          have k2 := wrap_small (2 * r + z) (by omega) (by omega)
          have k3 := wrap_small (2 * c) (by omega) (by omega)
          have k4 := wrap_small (2 * c + 1) (by omega) (by omega)
          have k5 := wrap_small z (by omega) (by omega)
          clear hpq
          by_cases hge : D ≤ 2 * r + z
          · have k6 := wrap_small (2 * r + z - D) (by omega) (by omega)
            have N := (hQ.set j hj (2 * c)).set j hj (2 * c + 1)
            have NA := (hA.far (p := ⟨y, j, none⟩) (.int .u64 (2 * c)) (by dsimp only; omega)).far (p := ⟨y, j, none⟩) (.int .u64 (2 * c + 1)) (by dsimp only; omega)
            have NW := (hW.setCell (p := ⟨y, j, none⟩) (by dsimp only; omega) (.int .u64 (2 * c))).setCell (p := ⟨y, j, none⟩) (by dsimp only; omega) (.int .u64 (2 * c + 1))
            clear hA hW hQ
            go_wp2
            go_roundw
            case rel =>
              obtain ⟨u1, u2⟩ := HB'.out.1 hge
              refine ⟨NA, NW, ?_⟩
              by_cases ht1 : t = 0
              · subst ht1
                refine .inr ⟨rfl, by rw [← u1]; rfl, N.cong fun k hk => ?_⟩
                by_cases hkj : k = j
                · subst hkj
                  rw [if_pos rfl, if_pos (Nat.le_refl _), ← pq_end, u2]
                · rw [if_neg hkj, if_neg hkj]
                  by_cases hl : j < k
                  · rw [if_pos hl, if_pos (by omega)]
                  · rw [if_neg hl, if_neg hkj, if_neg (by omega)]
              · obtain ⟨t', rfl⟩ : ∃ t', t = t' + 1 := ⟨t - 1, by omega⟩
                refine .inl ⟨t', by omega, by rw [show ((t' + 1 : Nat) : Int) - 1 = (t' : Int) by omega], by rw [← u1]; rfl, N.cong fun k hk => ?_⟩
                by_cases hkj : k = j
                · subst hkj
                  rw [if_pos rfl, if_neg (Nat.lt_irrefl _), if_pos rfl, u2]
                · rw [if_neg hkj, if_neg hkj]
                  by_cases hl : j < k
                  · rw [if_pos hl, if_pos hl]
                  · rw [if_neg hl, if_neg hl, if_neg hkj, if_neg hkj]
            case measure => first | (simp [intOf]; done) | (simp [intOf]; omega)
          · have N := hQ.set j hj (2 * c)
            have NA := hA.far (p := ⟨y, j, none⟩) (.int .u64 (2 * c)) (by dsimp only; omega)
            have NW := hW.setCell (p := ⟨y, j, none⟩) (by dsimp only; omega) (.int .u64 (2 * c))
            clear hA hW hQ
            go_wp2
            go_roundw
            case rel =>
              obtain ⟨u1, u2⟩ := HB'.out.2 (by omega)
              refine ⟨NA, NW, ?_⟩
              by_cases ht1 : t = 0
              · subst ht1
                refine .inr ⟨rfl, by rw [← u1]; rfl, N.cong fun k hk => ?_⟩
                by_cases hkj : k = j
                · subst hkj
                  rw [if_pos rfl, if_pos (Nat.le_refl _), ← pq_end, u2]
                · rw [if_neg hkj]
                  by_cases hl : j < k
                  · rw [if_pos hl, if_pos (by omega)]
                  · rw [if_neg hl, if_neg hkj, if_neg (by omega)]
              · obtain ⟨t', rfl⟩ : ∃ t', t = t' + 1 := ⟨t - 1, by omega⟩
                refine .inl ⟨t', by omega, by rw [show ((t' + 1 : Nat) : Int) - 1 = (t' : Int) by omega], by rw [← u1]; rfl, N.cong fun k hk => ?_⟩
                by_cases hkj : k = j
                · subst hkj
                  rw [if_pos rfl, if_neg (Nat.lt_irrefl _), if_pos rfl, u2]
                · rw [if_neg hkj]
                  by_cases hl : j < k
                  · rw [if_pos hl, if_pos hl]
                  · rw [if_neg hl, if_neg hl, if_neg hkj, if_neg hkj]
            case measure => first | (simp [intOf]; done) | (simp [intOf]; omega)
        · go_wp2
          go_roundw
          case rel =>
            refine ⟨hA, hW, ?_⟩
            by_cases hj1 : j = 0
            · subst hj1
              refine .inr ⟨rfl, by rw [Nat.mul_zero, Int.pow_zero, Int.ediv_one], hQ.cong fun k hk => by rw [if_pos (Nat.zero_le _)]⟩
            · obtain ⟨j', rfl⟩ : ∃ j', j = j' + 1 := ⟨j - 1, by omega⟩
              refine .inl ⟨j', by omega, by rw [show ((j' + 1 : Nat) : Int) - 1 = (j' : Int) by omega], by rw [show 32 * (j' + 1) = 32 * j' + 32 by omega], hQ.cong fun k hk => ?_⟩
              by_cases hl : j' < k
              · rw [if_pos hl, if_pos (by omega)]
              · rw [if_neg hl, if_neg (by omega)]
          case measure => first | (simp [intOf]; done) | (simp [intOf]; omega)
    · have m0 := Int.emod_nonneg M (show D ≠ 0 by omega)
      have m1 := Int.emod_lt_of_pos M (show 0 < D by omega)
      have X0 : 0 ≤ M / D := Int.ediv_nonneg M0 (by omega)
      have X1 : M / D ≤ M := Int.ediv_le_self _ M0
      have hpar := dg0_par (M / D)
      obtain ⟨z0, z1⟩ := dg_rng (M / D) 0
      have t1 := Int.tmod_eq_emod_of_nonneg (b := 2) z0
      have t2 := wrap_small (dg (M / D) 0 % 2) (by omega) (by omega)
      have k1 := wrap_small (D - M % D) (by omega) (by omega)
      have HG : gu (c3 (2 * (M % D)) D) (lo (M / D)) = true ↔ D < 2 * (M % D) ∨ (2 * (M % D) = D ∧ M / D % 2 = 1) := by
        rcases (show 2 * (M % D) < D ∨ 2 * (M % D) = D ∨ D < 2 * (M % D) by omega) with h | h | h
        · rw [c3_lt _ _ h]
          constructor
          · intro g; unfold gu at g; simp at g
          · intro g; omega
        · rw [h, c3_self]
          unfold gu
          rw [lo_par]
          simp
        · rw [c3_gt _ _ h]
          unfold gu
          simp
          omega
      have hcase : (D - M % D < M % D ∧ gu (c3 (2 * (M % D)) D) (lo (M / D)) = true) ∨ (M % D = D - M % D ∧ dg (M / D) 0 % 2 = 1 ∧ gu (c3 (2 * (M % D)) D) (lo (M / D)) = true) ∨ (M % D = D - M % D ∧ dg (M / D) 0 % 2 = 0 ∧ ¬ gu (c3 (2 * (M % D)) D) (lo (M / D)) = true) ∨ (M % D < D - M % D ∧ ¬ gu (c3 (2 * (M % D)) D) (lo (M / D)) = true) := by
        rw [HG]
        omega
      clear HG hpar
      generalize gu (c3 (2 * (M % D)) D) (lo (M / D)) = G at *
      generalize M / D = X at *
      generalize M % D = r at *
      have hcase2 : (G = true ∧ (D - r < r ∨ (D - r = r ∧ dg X 0 % 2 = 1))) ∨ (¬ G = true ∧ (r < D - r ∨ (D - r = r ∧ dg X 0 % 2 = 0))) := by
        rcases hcase with ⟨h, hG⟩ | ⟨h, h', hG⟩ | ⟨h, h', hG⟩ | ⟨h, hG⟩
        · exact .inl ⟨hG, .inl h⟩
        · exact .inl ⟨hG, .inr ⟨h.symm, h'⟩⟩
        · exact .inr ⟨hG, .inr ⟨h.symm, h'⟩⟩
        · exact .inr ⟨hG, .inl h⟩
      clear hcase
      clear hA
      rcases hcase2 with ⟨hG, h⟩ | ⟨hG, h⟩
      · have HF : Hid ((if (!(bel == decide (d < 0))) = true then -(X + 1) else X + 1) = quo V d) := by show _ = _; rw [HQ.out, if_pos hG]; rfl
        clear HQ hG
        have CD := hQ.later ((Below.refl _ _).drew : Below wr.heap.size wr wr.drew)
        have CV : Hid (Below w.heap.size w wr.drew) := hW.drew
        have u0 := hQ.c 0 (by omega)
        rcases h with h | ⟨h, h'⟩
        all_goals
          go_upto_region 17 with fail
          clear u0 hQ hW
          have x0 := CD.c 0 (by omega); have x1 := CD.c 1 (by omega); have x2 := CD.c 2 (by omega); have x3 := CD.c 3 (by omega); have x4 := CD.c 4 (by omega); have x5 := CD.c 5 (by omega); have xf0 := CD.f 0 (by omega); have xf1 := CD.f 1 (by omega); have xf2 := CD.f 2 (by omega); have xf3 := CD.f 3 (by omega); have xf4 := CD.f 4 (by omega); have xf5 := CD.f 5 (by omega)
          go_region_with (first
            | (go_at_call 86; refine (sone_10 _).mono ?_; rintro e wz ⟨rfl, hb⟩; clear x0 x1 x2 x3 x4 x5 xf0 xf1 xf2 xf3 xf4 xf5; replace CD := CD.later hb; replace CV := hidD' CV hb; clear hb; have x0 := CD.c 0 (by omega); have x1 := CD.c 1 (by omega); have x2 := CD.c 2 (by omega); have x3 := CD.c 3 (by omega); have x4 := CD.c 4 (by omega); have x5 := CD.c 5 (by omega); have xf0 := CD.f 0 (by omega); have xf1 := CD.f 1 (by omega); have xf2 := CD.f 2 (by omega); have xf3 := CD.f 3 (by omega); have xf4 := CD.f 4 (by omega); have xf5 := CD.f 5 (by omega))
            | (go_at_call 84; refine (splus_any X 1 _).mono ?_; rintro e wz ⟨rfl, hb⟩; clear x0 x1 x2 x3 x4 x5 xf0 xf1 xf2 xf3 xf4 xf5; replace CD := CD.later hb; replace CV := hidD' CV hb; clear hb; have x0 := CD.c 0 (by omega); have x1 := CD.c 1 (by omega); have x2 := CD.c 2 (by omega); have x3 := CD.c 3 (by omega); have x4 := CD.c 4 (by omega); have x5 := CD.c 5 (by omega); have xf0 := CD.f 0 (by omega); have xf1 := CD.f 1 (by omega); have xf2 := CD.f 2 (by omega); have xf3 := CD.f 3 (by omega); have xf4 := CD.f 4 (by omega); have xf5 := CD.f 5 (by omega)))
          all_goals
            have D5 := CD.all (dg (X + 1))
            have W5 := bel6 CV.out hy (dg (X + 1))
            clear x0 x1 x2 x3 x4 x5 xf0 xf1 xf2 xf3 xf4 xf5
            clear CD CV
            generalize ((((((wz.setCell ⟨y, 0, none⟩ (.int .u64 (dg (X + 1) 0))).setCell ⟨y, 1, none⟩ (.int .u64 (dg (X + 1) 1))).setCell ⟨y, 2, none⟩ (.int .u64 (dg (X + 1) 2))).setCell ⟨y, 3, none⟩ (.int .u64 (dg (X + 1) 3))).setCell ⟨y, 4, none⟩ (.int .u64 (dg (X + 1) 4))).setCell ⟨y, 5, none⟩ (.int .u64 (dg (X + 1) 5))) = w10 at *
            have x0 := D5.c 0 (by omega)
            have x1 := D5.c 1 (by omega)
            have x2 := D5.c 2 (by omega)
            have x3 := D5.c 3 (by omega)
            have x4 := D5.c 4 (by omega)
            have x5 := D5.c 5 (by omega)
            clear D5
            go_wp2_with fail
            refine (sclamp_to (X + 1) (!(bel == decide (d < 0))) _ HF.out (by omega) (by omega) _).mono ?_
            rintro e w4 ⟨rfl, hb⟩
            have W4 := bchain W5 hb
            clear hb W5 x0 x1 x2 x3 x4 x5
            go_wp2
            go_ret2
            exact ⟨rfl, W4⟩
      · have HF : Hid ((if (!(bel == decide (d < 0))) = true then -X else X) = quo V d) := by show _ = _; rw [HQ.out, if_neg hG]; rfl
        clear HQ hG
        have x0 := hQ.c 0 (by omega)
        have x1 := hQ.c 1 (by omega)
        have x2 := hQ.c 2 (by omega)
        have x3 := hQ.c 3 (by omega)
        have x4 := hQ.c 4 (by omega)
        have x5 := hQ.c 5 (by omega)
        clear hQ
        rcases h with h | ⟨h, h'⟩
        · have hlt : decide (D - r < r) = false := decide_eq_false (by omega)
          have hne : ¬ r = D - r := by omega
          go_wp2_with fail
          refine (sclamp_to X (!(bel == decide (d < 0))) _ HF.out X0 (by omega) _).mono ?_
          rintro e w4 ⟨rfl, hb⟩
          have W4 := bchain hW hb
          clear hb hW x0 x1 x2 x3 x4 x5
          go_wp2
          go_ret2
          exact ⟨rfl, W4⟩
        · clear k1
          have k1 : IntKind.u64.wrap r = r := wrap_small r m0 (by omega)
          go_wp2_with fail
          refine (sclamp_to X (!(bel == decide (d < 0))) _ HF.out X0 (by omega) _).mono ?_
          rintro e w4 ⟨rfl, hb⟩
          have W4 := bchain hW hb
          clear hb hW x0 x1 x2 x3 x4 x5
          go_wp2
          go_ret2
          exact ⟨rfl, W4⟩
end Go.Proofs.YtcdehbhdloaieaaGreatDoor
/-
  The contract of regattaref02's Root.
-/
set_option linter.unusedVariables false
set_option linter.unusedSimpArgs false
namespace Go.Proofs.YtcdehbhdloaieaaGreatDoor
open Go.RowKit

theorem root_digits (m : Int) (m0 : 0 ≤ m) (m1 : m < 6277101735386680763835789423207666416102355444464034512896) :
    (m < 85070591730234615865843651857942052864 → dg m 4 = 0 ∧ dg m 5 = 0 ∧ dg m 3 < 1073741824) ∧ (85070591730234615865843651857942052864 ≤ m → ¬ dg m 4 = 0 ∨ (dg m 4 = 0 ∧ ¬ dg m 5 = 0) ∨ (dg m 4 = 0 ∧ dg m 5 = 0 ∧ 1073741824 ≤ dg m 3)) := by
  have e3 : dg m 3 = m / 79228162514264337593543950336 % 4294967296 := rfl
  have e4 : dg m 4 = m / 340282366920938463463374607431768211456 % 4294967296 := rfl
  have e5 : dg m 5 = m / 1461501637330902918203684832716283019655932542976 % 4294967296 := rfl
  rw [e3, e4, e5]
  have x1 : m / 340282366920938463463374607431768211456 = m / 79228162514264337593543950336 / 4294967296 := by omega
  have x2 : m / 1461501637330902918203684832716283019655932542976 = m / 79228162514264337593543950336 / 4294967296 / 4294967296 := by omega
  rw [x1, x2]
  have y0 : 0 ≤ m / 79228162514264337593543950336 := by omega
  have y1 : m / 79228162514264337593543950336 < 79228162514264337593543950336 := by omega
  have y2 : m < 85070591730234615865843651857942052864 → m / 79228162514264337593543950336 < 1073741824 := by omega
  have y3 : 85070591730234615865843651857942052864 ≤ m → 1073741824 ≤ m / 79228162514264337593543950336 := by omega
  generalize m / 79228162514264337593543950336 = z at *
  constructor
  · intro h
    have := y2 h
    omega
  · intro h
    have := y3 h
    omega

set_option maxHeartbeats 2000000 in
theorem sroot_any (p q V B : Int) (hS : Sm p q V B) (hB : B < 3138550867693340381917894711603833208051177722232017256448) (w : World) :
    Calls Tryz.prog 57 #[.agg #[.int .u64 (dg (p) 0), .int .u64 (dg (p) 1), .int .u64 (dg (p) 2), .int .u64 (dg (p) 3), .int .u64 (dg (p) 4), .int .u64 (dg (p) 5), .int .u64 (dg (q) 0), .int .u64 (dg (q) 1), .int .u64 (dg (q) 2), .int .u64 (dg (q) 3), .int .u64 (dg (q) 4), .int .u64 (dg (q) 5)]] w fun e w' => e = .returned (.tuple #[.int .i64 (if V < 0 then 0 else if 85070591730234615865843651857942052864 ≤ V then 9223372036854775807 else rt V), .bool (if V < 0 then true else if 85070591730234615865843651857942052864 ≤ V then true else false)]) ∧ Below w.heap.size w w' := by
  obtain ⟨p0, q0, p1, q1, hv⟩ := hS
  have W0 := bel1 w (.cells #[.int .u64 (dg (p) 0), .int .u64 (dg (p) 1), .int .u64 (dg (p) 2), .int .u64 (dg (p) 3), .int .u64 (dg (p) 4), .int .u64 (dg (p) 5), .int .u64 (dg (q) 0), .int .u64 (dg (q) 1), .int .u64 (dg (q) 2), .int .u64 (dg (q) 3), .int .u64 (dg (q) 4), .int .u64 (dg (q) 5)] 108)
  have hM : ab V < 3138550867693340381917894711603833208051177722232017256448 := by unfold ab; split <;> omega
  have hM0 := ab_ge' V
  have SWH : Hid (∀ W : World, Calls Tryz.prog 85 #[.agg #[.int .u64 (dg (p) 0), .int .u64 (dg (p) 1), .int .u64 (dg (p) 2), .int .u64 (dg (p) 3), .int .u64 (dg (p) 4), .int .u64 (dg (p) 5), .int .u64 (dg (q) 0), .int .u64 (dg (q) 1), .int .u64 (dg (q) 2), .int .u64 (dg (q) 3), .int .u64 (dg (q) 4), .int .u64 (dg (q) 5)]] W fun e w' => e = .returned (.tuple #[.agg #[.int .u64 (dg (ab V) 0), .int .u64 (dg (ab V) 1), .int .u64 (dg (ab V) 2), .int .u64 (dg (ab V) 3), .int .u64 (dg (ab V) 4), .int .u64 (dg (ab V) 5)], .bool (decide (V < 0))]) ∧ Below W.heap.size W w') := by
    intro W
    rw [← hv]
    exact swhole_any p q p0 (by omega) q0 (by omega) W
  clear p0 q0 p1 q1 hv
  by_cases hn : V < 0
  · rw [if_pos hn, if_pos hn]
    rw [decide_eq_true hn] at SWH
    go_enter Tryz.func57, Tryz.ntmps57
    go_wp2_with fail
    refine (SWH.out _).mono ?_
    rintro e w1 ⟨rfl, hb⟩
    have W1 := bchain (bchain W0 hb) (bel1 w1 (.cells #[.int .u64 (dg (ab V) 0), .int .u64 (dg (ab V) 1), .int .u64 (dg (ab V) 2), .int .u64 (dg (ab V) 3), .int .u64 (dg (ab V) 4), .int .u64 (dg (ab V) 5)] 106))
    clear hb W0 SWH
    go_wp2
    go_ret2
    exact ⟨rfl, W1⟩
  · rw [if_neg hn, if_neg hn]
    have eV : ab V = V := by unfold ab; rw [if_neg hn]
    rw [decide_eq_false hn, eV] at SWH
    rw [eV] at hM hM0
    clear eV hn
    have v2 : V < 6277101735386680763835789423207666416102355444464034512896 := by omega
    obtain ⟨z0, z1⟩ := dg_rng V 3
    go_enter Tryz.func57, Tryz.ntmps57
    go_wp2_with fail
    refine (SWH.out _).mono ?_
    rintro e w1 ⟨rfl, hb⟩
    have D1 := B6.new w1 (dg V) 106
    have W1 := bchain (bchain W0 hb) (bel1 w1 (.cells #[.int .u64 (dg (V) 0), .int .u64 (dg (V) 1), .int .u64 (dg (V) 2), .int .u64 (dg (V) 3), .int .u64 (dg (V) 4), .int .u64 (dg (V) 5)] 106))
    clear hb W0 SWH
    go_upto_region 2 with fail
    generalize w1.alloc (.cells #[.int .u64 (dg (V) 0), .int .u64 (dg (V) 1), .int .u64 (dg (V) 2), .int .u64 (dg (V) 3), .int .u64 (dg (V) 4), .int .u64 (dg (V) 5)] 106) = w2 at *
    generalize w1.heap.size = d at *
    have hd := root_digits V hM0 v2
    have x3 := D1.c 3 (by omega)
    have x4 := D1.c 4 (by omega)
    have x5 := D1.c 5 (by omega)
    by_cases hbig : 85070591730234615865843651857942052864 ≤ V
    · have HV : Hid ((if 85070591730234615865843651857942052864 ≤ V then 9223372036854775807 else rt V) = 9223372036854775807 ∧ (if 85070591730234615865843651857942052864 ≤ V then true else false) = true) := ⟨if_pos hbig, if_pos hbig⟩
      rcases hd.2 hbig with g | ⟨g4, g⟩ | ⟨g4, g5, g⟩
      all_goals
        clear hd D1
        go_wp2
        go_ret2
        exact ⟨by first | rfl | (rw [HV.out.1, HV.out.2]; rfl), W1⟩
    · have HV : Hid ((if 85070591730234615865843651857942052864 ≤ V then 9223372036854775807 else rt V) = rt V ∧ (if 85070591730234615865843651857942052864 ≤ V then true else false) = false) := ⟨if_neg hbig, if_neg hbig⟩
      obtain ⟨g4, g5, g3⟩ := hd.1 (by omega)
      have v1 : V < 85070591730234615865843651857942052864 := by omega
      clear hd
      go_wp2
      clear x3 x4 x5 g4 g5 g3 hbig
      go_loopw [6, 7] (fun r i wr => ∃ x : Int, r = .int .u64 x ∧ B6 d (dg V) wr ∧ Below w.heap.size w wr ∧ ((∃ k : Nat, k < 63 ∧ i = .int .i64 (k : Int) ∧ Hid (rt V = rtA V (k + 1) x) ∧ RtI V (k + 1) x) ∨ (i = .int .i64 (-1) ∧ Hid (rt V = x) ∧ 0 ≤ x ∧ x ≤ 9223372036854775807))) (fun _ i _ => (intOf i + 1).toNat)
      case atStart => exact ⟨0, rfl, D1, W1, .inl ⟨62, by omega, rfl, rfl, RtI.start V hM0 v1⟩⟩
      case round =>
        clear D1 W1
        obtain ⟨x, rfl, hD, hW, hrel⟩ := hrel
        rcases hrel with ⟨k, hk, rfl, hrt, hI⟩ | ⟨rfl, hrt, x0, x1⟩
        · have hp := pow_pos' k
          have hp2 := pow_two k
          have hx1 := hI.top
          have hx0 := hI.low
          have hk0 : (0 : Int) ≤ (k : Int) := by omega
          obtain ⟨n, hn⟩ : ∃ n, x + 2 ^ k = n := ⟨_, rfl⟩
          have HN : Hid (x + 2 ^ k = n) := hn
          have n0 : 0 ≤ n := by omega
          have n1 : n ≤ 9223372036854775807 := by omega
          have kw := wrap_small (2 ^ k) (by omega) (by omega)
          have kn : IntKind.u64.wrap (x + 2 ^ k) = n := by rw [wrap_small _ (by omega) (by omega)]; exact hn
          obtain ⟨s0, s1⟩ := sq_rng n n0 (by omega)
          clear hp hp2 hx1 hx0 hn
          go_upto_region 11 with fail
          have z0' := fun a b => cell_regrown (hD.c 0 (by omega)) a b
          have z1' := fun a b => cell_regrown (hD.c 1 (by omega)) a b
          have z2' := fun a b => cell_regrown (hD.c 2 (by omega)) a b
          have z3' := fun a b => cell_regrown (hD.c 3 (by omega)) a b
          have z4' := fun a b => cell_regrown (hD.c 4 (by omega)) a b
          have z5' := fun a b => cell_regrown (hD.c 5 (by omega)) a b
          by_cases hle : n * n ≤ V
          · have hlt : decide (V < n * n) = false := decide_eq_false (by omega)
            refine wp_region_quiet_below (by kernel_rfl) (by kernel_rfl) ?_
            repeat (quiet_step (first | (go_at_call 82; exact Calls.regrown_of (sproduct_any n n n0 (by omega) n0 (by omega) _)) | (go_at_call 90; exact Calls.regrown_of (sless_any V (n * n) hM0 v2 s0 (by omega) _))))
            refine wpQuiet_nil ?_
            intro wd hw'
            have hB2 : Below wr.heap.size wr wd := by obtain ⟨⟨dq, osq⟩, rfl⟩ := hw'; exact below_regrown wr dq osq
            have D2 := hD.later hB2
            have W2 := bchain hW hB2
            clear hw' hB2 hD hW z0' z1' z2' z3' z4' z5' kw kn
            try rw [hlt]
            go_wp2
            go_roundw
            case rel =>
              have hI' := hI.step
              rw [HN.out, if_pos hle] at hI'
              have hrt' : rt V = rtA V k n := by
                rw [hrt.out]
                show rtA V k (if (x + 2 ^ k) * (x + 2 ^ k) ≤ V then x + 2 ^ k else x) = _
                rw [HN.out, if_pos hle]
              refine ⟨n, rfl, D2, W2, ?_⟩
              by_cases hk0 : k = 0
              · subst hk0
                exact .inr ⟨rfl, hrt', n0, n1⟩
              · obtain ⟨k', rfl⟩ : ∃ k', k = k' + 1 := ⟨k - 1, by omega⟩
                exact .inl ⟨k', by omega, by rw [show ((k' + 1 : Nat) : Int) - 1 = (k' : Int) by omega], hrt', hI'⟩
            case measure => first | (simp [intOf]; done) | (simp [intOf]; omega)
          · have hlt : decide (V < n * n) = true := decide_eq_true (by omega)
            refine wp_region_quiet_below (by kernel_rfl) (by kernel_rfl) ?_
            repeat (quiet_step (first | (go_at_call 82; exact Calls.regrown_of (sproduct_any n n n0 (by omega) n0 (by omega) _)) | (go_at_call 90; exact Calls.regrown_of (sless_any V (n * n) hM0 v2 s0 (by omega) _))))
            refine wpQuiet_nil ?_
            intro wd hw'
            have hB2 : Below wr.heap.size wr wd := by obtain ⟨⟨dq, osq⟩, rfl⟩ := hw'; exact below_regrown wr dq osq
            have D2 := hD.later hB2
            have W2 := bchain hW hB2
            have xl := hI.low
            have xt := hI.top
            have xp := pow_pos' (k + 1)
            clear hw' hB2 hD hW z0' z1' z2' z3' z4' z5' kw kn
            try rw [hlt]
            go_wp2
            go_roundw
            case rel =>
              have hI' := hI.step
              rw [HN.out, if_neg hle] at hI'
              have hrt' : rt V = rtA V k x := by
                rw [hrt.out]
                show rtA V k (if (x + 2 ^ k) * (x + 2 ^ k) ≤ V then x + 2 ^ k else x) = _
                rw [HN.out, if_neg hle]
              refine ⟨x, rfl, D2, W2, ?_⟩
              by_cases hk0 : k = 0
              · subst hk0
                exact .inr ⟨rfl, hrt', xl, by omega⟩
              · obtain ⟨k', rfl⟩ : ∃ k', k = k' + 1 := ⟨k - 1, by omega⟩
                exact .inl ⟨k', by omega, by rw [show ((k' + 1 : Nat) : Int) - 1 = (k' : Int) by omega], hrt', hI'⟩
            case measure => first | (simp [intOf]; done) | (simp [intOf]; omega)
        · have k1 : IntKind.i64.wrap x = x := by rw [IntKind.wrap_i64]; omega
          clear hD
          go_wp2
          go_ret2
          exact ⟨by first | (rw [HV.out.1, HV.out.2, hrt.out]; rfl) | (rw [hrt.out]; rfl), hW⟩
end Go.Proofs.YtcdehbhdloaieaaGreatDoor
/-
  The contracts of regattaref02's Zero, Ratio, Div, Sqrt.
-/
set_option linter.unusedVariables false
set_option linter.unusedSimpArgs false
namespace Go.Proofs.YtcdehbhdloaieaaGreatDoor
open Go.RowKit

set_option maxHeartbeats 1000000 in
theorem szero_any (a : Int) (w : World) :
    Calls Tryz.prog 110 #[.int .i64 a] w fun e w' => e = .returned (.tuple #[.int .i64 (zv a), .bool true]) ∧ Below w.heap.size w w' := by
  unfold zv
  rcases (show 0 < a ∨ a = 0 ∨ a < 0 by omega) with h | h | h
  · rw [if_pos h]
    go_enter Tryz.func110, Tryz.ntmps110
    go_wp2
    go_ret2
    exact ⟨rfl, Below.refl _ _⟩
  · subst h
    rw [if_neg (by omega), if_neg (by omega)]
    go_enter Tryz.func110, Tryz.ntmps110
    go_wp2
    go_ret2
    exact ⟨rfl, Below.refl _ _⟩
  · have h' : ¬ 0 < a := by omega
    rw [if_neg (by omega), if_pos h]
    go_enter Tryz.func110, Tryz.ntmps110
    go_wp2
    go_ret2
    exact ⟨rfl, Below.refl _ _⟩

set_option maxHeartbeats 1000000 in
theorem sratio_any (a b : Int) (k : Nat) (hk : k ≤ 1) (a0 : -9223372036854775808 ≤ a) (a1 : a ≤ 9223372036854775807) (b0 : -9223372036854775808 ≤ b) (b1 : b ≤ 9223372036854775807) (w : World) :
    Calls Tryz.prog 88 #[.int .i64 a, .int .i64 (k : Int), .int .i64 b] w fun e w' => e = .returned (.tuple #[.int .i64 (qv (a * 2 ^ (32 * k)) b), .bool (qo (a * 2 ^ (32 * k)) b)]) ∧ Below w.heap.size w w' := by
  unfold qv qo
  by_cases hb : b = 0
  · rw [if_pos hb, if_pos hb, zv_pos]
    subst hb
    go_enter Tryz.func88, Tryz.ntmps88
    go_wp2_with fail
    refine (szero_any a _).mono ?_
    rintro e w1 ⟨rfl, W1⟩
    go_wp2
    go_ret2
    exact ⟨rfl, W1⟩
  · rw [if_neg hb, if_neg hb]
    go_enter Tryz.func88, Tryz.ntmps88
    go_wp2_with fail
    refine (sadd_zero a k (by omega) a0 a1 _).mono ?_
    rintro e w1 ⟨p', q', rfl, hS, W1⟩
    go_wp2_with fail
    refine (squo_any p' q' _ _ b hS ?_ b0 b1 hb _).mono ?_
    · rcases (show k = 0 ∨ k = 1 by omega) with h | h <;> subst h <;> decide
    rintro e w2 ⟨rfl, hb'⟩
    have W2 := bchain W1 hb'
    clear hb' W1 hS
    go_wp2
    go_ret2
    exact ⟨rfl, W2⟩
set_option maxHeartbeats 1000000 in
theorem rfdiv_any (a b : Int) (a0 : -9223372036854775808 ≤ a) (a1 : a ≤ 9223372036854775807) (b0 : -9223372036854775808 ≤ b) (b1 : b ≤ 9223372036854775807) (w : World) :
    Calls Tryz.prog 53 #[.int .i64 a, .int .i64 b] w fun e w' => e = .returned (.tuple #[.int .i64 (qv (a * 4294967296) b), .bool (qo (a * 4294967296) b)]) ∧ Below w.heap.size w w' := by
  go_enter Tryz.func53, Tryz.ntmps53
  go_wp2_with fail
  refine (sratio_any a b 1 (by omega) a0 a1 b0 b1 _).mono ?_
  rintro e w1 ⟨rfl, W1⟩
  go_wp2
  go_ret2
  exact ⟨rfl, W1⟩
set_option maxHeartbeats 1000000 in
theorem rfsqrt_any (a : Int) (a0 : -9223372036854775808 ≤ a) (a1 : a ≤ 9223372036854775807) (w : World) :
    Calls Tryz.prog 30 #[.int .i64 a] w fun e w' => e = .returned (.tuple #[.int .i64 (sv a), .bool (decide (a < 0))]) ∧ Below w.heap.size w w' := by
  have SR : Hid (∀ p q B : Int, Sm p q (a * 2 ^ (32 * 1)) B → B < 3138550867693340381917894711603833208051177722232017256448 → ∀ W : World, Calls Tryz.prog 57 #[.agg #[.int .u64 (dg (p) 0), .int .u64 (dg (p) 1), .int .u64 (dg (p) 2), .int .u64 (dg (p) 3), .int .u64 (dg (p) 4), .int .u64 (dg (p) 5), .int .u64 (dg (q) 0), .int .u64 (dg (q) 1), .int .u64 (dg (q) 2), .int .u64 (dg (q) 3), .int .u64 (dg (q) 4), .int .u64 (dg (q) 5)]] W fun e w' => e = .returned (.tuple #[.int .i64 (sv a), .bool (decide (a < 0))]) ∧ Below W.heap.size W w') := by
    intro p q B hS hB W
    have h := sroot_any p q _ B hS hB W
    have e1 : a * 2 ^ (32 * 1) = a * 4294967296 := rfl
    rw [e1] at h
    unfold sv
    by_cases hn : a < 0
    · rw [if_pos (by omega), if_pos (by omega)] at h
      rw [if_pos hn, decide_eq_true hn]
      exact h
    · rw [if_neg (by omega), if_neg (by omega), if_neg (by omega), if_neg (by omega)] at h
      rw [if_neg hn, decide_eq_false hn]
      exact h
  go_enter Tryz.func30, Tryz.ntmps30
  go_wp2_with fail
  refine (sadd_zero a 1 (by omega) a0 a1 _).mono ?_
  rintro e w1 ⟨p', q', rfl, hS, W1⟩
  go_wp2_with fail
  refine (SR.out p' q' _ hS (by decide) _).mono ?_
  rintro e w2 ⟨rfl, hb'⟩
  have W2 := bchain W1 hb'
  clear hb' W1 hS SR
  go_wp2
  go_ret2
  exact ⟨rfl, W2⟩
end Go.Proofs.YtcdehbhdloaieaaGreatDoor
