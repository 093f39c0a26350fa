/-
  SWalkG, SWalkH, SWalkI, SWalkK, SWalkJ, SWalkL.
-/
import Derived.Test.YtfcneciknldohaaBF
import Derived.Test.YtfcneciknldohaaBA
import Derived.Test.YtfcneciknldohaaBH
/-
  The contract of regattaref02's Product.
-/
set_option linter.unusedVariables false
set_option linter.unusedSimpArgs false
namespace Go.Proofs.Ytfcneciknldohaa
open Go.RowKit

theorem sone_0 (x : Int) (x0 : 0 ≤ x) (x1 : x ≤ 18446744073709551615) (w : World) : Calls Try.prog 42 #[.int .u64 x, .int .i64 0] w fun e w' => e = .returned (.agg #[.int .u64 (dg (x) 0), .int .u64 (dg (x) 1), .int .u64 (dg (x) 2), .int .u64 (dg (x) 3), .int .u64 (dg (x) 4), .int .u64 (dg (x) 5)]) ∧ Below w.heap.size w w' := by
  have h := sone_any x 0 (by omega) x0 x1 w
  rw [show x * 2 ^ (32 * 0) = x by rw [Nat.mul_zero, Int.pow_zero, Int.mul_one]] at h
  exact h
theorem sone_1 (x : Int) (x0 : 0 ≤ x) (x1 : x ≤ 18446744073709551615) (w : World) : Calls Try.prog 42 #[.int .u64 x, .int .i64 1] w fun e w' => e = .returned (.agg #[.int .u64 (dg (x * 4294967296) 0), .int .u64 (dg (x * 4294967296) 1), .int .u64 (dg (x * 4294967296) 2), .int .u64 (dg (x * 4294967296) 3), .int .u64 (dg (x * 4294967296) 4), .int .u64 (dg (x * 4294967296) 5)]) ∧ Below w.heap.size w w' := by
  have h := sone_any x 1 (by omega) x0 x1 w
  rw [show (2 : Int) ^ (32 * 1) = 4294967296 from rfl] at h
  exact h
theorem sone_2 (x : Int) (x0 : 0 ≤ x) (x1 : x ≤ 18446744073709551615) (w : World) : Calls Try.prog 42 #[.int .u64 x, .int .i64 2] w fun e w' => e = .returned (.agg #[.int .u64 (dg (x * 18446744073709551616) 0), .int .u64 (dg (x * 18446744073709551616) 1), .int .u64 (dg (x * 18446744073709551616) 2), .int .u64 (dg (x * 18446744073709551616) 3), .int .u64 (dg (x * 18446744073709551616) 4), .int .u64 (dg (x * 18446744073709551616) 5)]) ∧ Below w.heap.size w w' := by
  have h := sone_any x 2 (by omega) x0 x1 w
  rw [show (2 : Int) ^ (32 * 2) = 18446744073709551616 from rfl] at h
  exact h
theorem B6.farA {b d : Nat} {x : Nat → Int} {w : World} (h : B6 b x w) (hd : d ≠ b) (z : Nat → Int) : B6 b x ((((((w.setCell ⟨d, 0, none⟩ (.int .u64 (z 0))).setCell ⟨d, 1, none⟩ (.int .u64 (z 1))).setCell ⟨d, 2, none⟩ (.int .u64 (z 2))).setCell ⟨d, 3, none⟩ (.int .u64 (z 3))).setCell ⟨d, 4, none⟩ (.int .u64 (z 4))).setCell ⟨d, 5, none⟩ (.int .u64 (z 5))) :=
  (((((h.far _ hd).far _ hd).far _ hd).far _ hd).far _ hd).far _ hd
theorem small_mul (x y : Int) (x0 : 0 ≤ x) (x1 : x ≤ 4294967295) (y0 : 0 ≤ y) (y1 : y ≤ 4294967295) : 0 ≤ x * y ∧ x * y ≤ 18446744073709551615 := by
  have h1 := Int.mul_nonneg x0 y0
  have h2 := Int.mul_le_mul x1 y1 y0 (by omega)
  omega
theorem prod_split (a b : Int) : a % 4294967296 * (b % 4294967296) + a / 4294967296 * (b % 4294967296) * 4294967296 + a % 4294967296 * (b / 4294967296) * 4294967296 + a / 4294967296 * (b / 4294967296) * 18446744073709551616 = a * b := by
  have ea : a = a / 4294967296 * 4294967296 + a % 4294967296 := by omega
  have eb : b = b / 4294967296 * 4294967296 + b % 4294967296 := by omega
  generalize a % 4294967296 = l at *
  generalize a / 4294967296 = h at *
  generalize b % 4294967296 = m at *
  generalize b / 4294967296 = k at *
  subst ea eb
  rw [Int.add_mul, Int.mul_add, Int.mul_add]
  rw [show h * 4294967296 * (k * 4294967296) = h * k * 18446744073709551616 by rw [Int.mul_assoc, Int.mul_left_comm 4294967296 k, ← Int.mul_assoc]; rfl]
  rw [show h * 4294967296 * m = h * m * 4294967296 by rw [Int.mul_right_comm], show l * (k * 4294967296) = l * k * 4294967296 by rw [Int.mul_assoc]]
  omega

set_option maxHeartbeats 2000000 in
theorem sproduct_any (a b : Int) (a0 : 0 ≤ a) (a1 : a ≤ 18446744073709551615) (b0 : 0 ≤ b) (b1 : b ≤ 18446744073709551615) (w : World) :
    Calls Try.prog 39 #[.int .u64 a, .int .u64 b] w fun e w' => e = .returned (.agg #[.int .u64 (dg (a * b) 0), .int .u64 (dg (a * b) 1), .int .u64 (dg (a * b) 2), .int .u64 (dg (a * b) 3), .int .u64 (dg (a * b) 4), .int .u64 (dg (a * b) 5)]) ∧ Below w.heap.size w w' := by
  have HP : Hid (a % 4294967296 * (b % 4294967296) + a / 4294967296 * (b % 4294967296) * 4294967296 + a % 4294967296 * (b / 4294967296) * 4294967296 + a / 4294967296 * (b / 4294967296) * 18446744073709551616 = a * b) := prod_split a b
  have t1 := Int.tmod_eq_emod_of_nonneg (b := 4294967296) a0
  have t2 := Int.tdiv_eq_ediv_of_nonneg (b := 4294967296) a0
  have t3' := Int.tmod_eq_emod_of_nonneg (b := 4294967296) b0
  have t4 := Int.tdiv_eq_ediv_of_nonneg (b := 4294967296) b0
  have l0 : 0 ≤ a % 4294967296 := by omega
  have l1 : a % 4294967296 ≤ 4294967295 := by omega
  have h0 : 0 ≤ a / 4294967296 := by omega
  have h1 : a / 4294967296 ≤ 4294967295 := by omega
  have m0 : 0 ≤ b % 4294967296 := by omega
  have m1 : b % 4294967296 ≤ 4294967295 := by omega
  have k0 : 0 ≤ b / 4294967296 := by omega
  have k1 : b / 4294967296 ≤ 4294967295 := by omega
  generalize a % 4294967296 = l at *
  generalize a / 4294967296 = h at *
  generalize b % 4294967296 = m at *
  generalize b / 4294967296 = k at *
  obtain ⟨p1, p2⟩ := small_mul l m l0 l1 m0 m1
  obtain ⟨p3, p4⟩ := small_mul h m h0 h1 m0 m1
  obtain ⟨p5, p6⟩ := small_mul l k l0 l1 k0 k1
  obtain ⟨p7, p8⟩ := small_mul h k h0 h1 k0 k1
  have w1' := wrap_small l l0 (by omega)
  have w2' := wrap_small h h0 (by omega)
  have w3' := wrap_small m m0 (by omega)
  have w4' := wrap_small k k0 (by omega)
  have w5' := wrap_small (l * m) p1 p2
  have w6' := wrap_small (h * m) p3 p4
  have w7' := wrap_small (l * k) p5 p6
  have w8' := wrap_small (h * k) p7 p8
  have R0 := B6.new w (fun _ => 0) 66
  have W0 := bel1 w (.cells #[.int .u64 0, .int .u64 0, .int .u64 0, .int .u64 0, .int .u64 0, .int .u64 0] 66)
  go_enter Try.func39, Try.ntmps39
  go_wp2_with fail
  refine (sone_0 (l * m) p1 p2 _).mono ?_
  rintro e w1 ⟨rfl, hb⟩
  have R1 := R0.later hb
  have W1 := bchain W0 hb
  clear hb R0 W0
  go_wp2_with fail
  refine (sone_1 (h * m) p3 p4 _).mono ?_
  rintro e w2 ⟨rfl, hb⟩
  have R2 := R1.later hb
  have W2 := bchain W1 hb
  clear hb R1 W1
  go_wp2_with fail
  refine (splus_any (l * m) (h * m * 4294967296) _).mono ?_
  rintro e w3 ⟨rfl, hb⟩
  have R3 := R2.later hb
  have W3 := bchain W2 hb
  clear hb R2 W2
  generalize l * m + h * m * 4294967296 = X at *
  have hsz := R3.lt
  have D4 := B6.new w3 (dg X) 66
  have R4 := R3.later (bel1 w3 (.cells #[.int .u64 (dg (X) 0), .int .u64 (dg (X) 1), .int .u64 (dg (X) 2), .int .u64 (dg (X) 3), .int .u64 (dg (X) 4), .int .u64 (dg (X) 5)] 66))
  have W4 := bchain W3 (bel1 w3 (.cells #[.int .u64 (dg (X) 0), .int .u64 (dg (X) 1), .int .u64 (dg (X) 2), .int .u64 (dg (X) 3), .int .u64 (dg (X) 4), .int .u64 (dg (X) 5)] 66))
  clear R3 W3
  go_upto_region 4 with fail
  generalize w3.alloc (.cells #[.int .u64 (dg (X) 0), .int .u64 (dg (X) 1), .int .u64 (dg (X) 2), .int .u64 (dg (X) 3), .int .u64 (dg (X) 4), .int .u64 (dg (X) 5)] 66) = w4 at *
  generalize w3.heap.size = d at *
  have hd1 : Below w4.heap.size w4 w4.drew := (Below.refl _ _).drew
  have CD := D4.later hd1
  have CR := R4.later hd1
  have CW : Hid (Below w.heap.size w w4.drew) := W4.drew
  clear hd1 D4 R4 W4
  have x0 := CD.c 0 (by omega); have x1 := CD.c 1 (by omega); have x2 := CD.c 2 (by omega); have x3 := CD.c 3 (by omega); have x4 := CD.c 4 (by omega); have x5 := CD.c 5 (by omega); have xf0 := CD.f 0 (by omega); have xf1 := CD.f 1 (by omega); have xf2 := CD.f 2 (by omega); have xf3 := CD.f 3 (by omega); have xf4 := CD.f 4 (by omega); have xf5 := CD.f 5 (by omega)
  go_region_with (first
    | (go_at_call 42; refine (sone_1 (l * k) p5 p6 _).mono ?_; rintro e wz ⟨rfl, hb⟩; clear x0 x1 x2 x3 x4 x5 xf0 xf1 xf2 xf3 xf4 xf5; replace CD := CD.later hb; replace CR := CR.later hb; replace CW := hidD' CW hb; clear hb; have x0 := CD.c 0 (by omega); have x1 := CD.c 1 (by omega); have x2 := CD.c 2 (by omega); have x3 := CD.c 3 (by omega); have x4 := CD.c 4 (by omega); have x5 := CD.c 5 (by omega); have xf0 := CD.f 0 (by omega); have xf1 := CD.f 1 (by omega); have xf2 := CD.f 2 (by omega); have xf3 := CD.f 3 (by omega); have xf4 := CD.f 4 (by omega); have xf5 := CD.f 5 (by omega))
    | (go_at_call 41; refine (splus_any X (l * k * 4294967296) _).mono ?_; rintro e wz ⟨rfl, hb⟩; clear x0 x1 x2 x3 x4 x5 xf0 xf1 xf2 xf3 xf4 xf5; replace CD := CD.later hb; replace CR := CR.later hb; replace CW := hidD' CW hb; clear hb; have x0 := CD.c 0 (by omega); have x1 := CD.c 1 (by omega); have x2 := CD.c 2 (by omega); have x3 := CD.c 3 (by omega); have x4 := CD.c 4 (by omega); have x5 := CD.c 5 (by omega); have xf0 := CD.f 0 (by omega); have xf1 := CD.f 1 (by omega); have xf2 := CD.f 2 (by omega); have xf3 := CD.f 3 (by omega); have xf4 := CD.f 4 (by omega); have xf5 := CD.f 5 (by omega)))
  all_goals
    have D5 := CD.all (dg (X + l * k * 4294967296))
    have R5 := CR.farA (d := d) (by omega) (dg (X + l * k * 4294967296))
    have W5 := bel6 CW.out (b := d) (by omega) (dg (X + l * k * 4294967296))
    clear x0 x1 x2 x3 x4 x5 xf0 xf1 xf2 xf3 xf4 xf5
    clear CD CR CW
    generalize ((((((wz.setCell ⟨d, 0, none⟩ (.int .u64 (dg (X + l * k * 4294967296) 0))).setCell ⟨d, 1, none⟩ (.int .u64 (dg (X + l * k * 4294967296) 1))).setCell ⟨d, 2, none⟩ (.int .u64 (dg (X + l * k * 4294967296) 2))).setCell ⟨d, 3, none⟩ (.int .u64 (dg (X + l * k * 4294967296) 3))).setCell ⟨d, 4, none⟩ (.int .u64 (dg (X + l * k * 4294967296) 4))).setCell ⟨d, 5, none⟩ (.int .u64 (dg (X + l * k * 4294967296) 5))) = w5 at *
    generalize X + l * k * 4294967296 = Y at *
    go_upto_region 5 with fail
    have hd1 : Below w5.heap.size w5 w5.drew := (Below.refl _ _).drew
    have CD := D5.later hd1
    have CR := R5.later hd1
    have CW : Hid (Below w.heap.size w w5.drew) := W5.drew
    clear hd1 D5 R5 W5
    have x0 := CD.c 0 (by omega); have x1 := CD.c 1 (by omega); have x2 := CD.c 2 (by omega); have x3 := CD.c 3 (by omega); have x4 := CD.c 4 (by omega); have x5 := CD.c 5 (by omega); have xf0 := CD.f 0 (by omega); have xf1 := CD.f 1 (by omega); have xf2 := CD.f 2 (by omega); have xf3 := CD.f 3 (by omega); have xf4 := CD.f 4 (by omega); have xf5 := CD.f 5 (by omega)
    have r0 := CR.c 0 (by omega); have r1 := CR.c 1 (by omega); have r2 := CR.c 2 (by omega); have r3 := CR.c 3 (by omega); have r4 := CR.c 4 (by omega); have r5 := CR.c 5 (by omega); have rf0 := CR.f 0 (by omega); have rf1 := CR.f 1 (by omega); have rf2 := CR.f 2 (by omega); have rf3 := CR.f 3 (by omega); have rf4 := CR.f 4 (by omega); have rf5 := CR.f 5 (by omega)
    go_region_with (first
      | (go_at_call 42; refine (sone_2 (h * k) p7 p8 _).mono ?_; rintro e wy ⟨rfl, hb⟩; clear x0 x1 x2 x3 x4 x5 xf0 xf1 xf2 xf3 xf4 xf5; clear r0 r1 r2 r3 r4 r5 rf0 rf1 rf2 rf3 rf4 rf5; replace CD := CD.later hb; replace CR := CR.later hb; replace CW := hidD' CW hb; clear hb; have x0 := CD.c 0 (by omega); have x1 := CD.c 1 (by omega); have x2 := CD.c 2 (by omega); have x3 := CD.c 3 (by omega); have x4 := CD.c 4 (by omega); have x5 := CD.c 5 (by omega); have xf0 := CD.f 0 (by omega); have xf1 := CD.f 1 (by omega); have xf2 := CD.f 2 (by omega); have xf3 := CD.f 3 (by omega); have xf4 := CD.f 4 (by omega); have xf5 := CD.f 5 (by omega); have r0 := CR.c 0 (by omega); have r1 := CR.c 1 (by omega); have r2 := CR.c 2 (by omega); have r3 := CR.c 3 (by omega); have r4 := CR.c 4 (by omega); have r5 := CR.c 5 (by omega); have rf0 := CR.f 0 (by omega); have rf1 := CR.f 1 (by omega); have rf2 := CR.f 2 (by omega); have rf3 := CR.f 3 (by omega); have rf4 := CR.f 4 (by omega); have rf5 := CR.f 5 (by omega))
      | (go_at_call 41; refine (splus_any Y (h * k * 18446744073709551616) _).mono ?_; rintro e wy ⟨rfl, hb⟩; clear x0 x1 x2 x3 x4 x5 xf0 xf1 xf2 xf3 xf4 xf5; clear r0 r1 r2 r3 r4 r5 rf0 rf1 rf2 rf3 rf4 rf5; replace CD := CD.later hb; replace CR := CR.later hb; replace CW := hidD' CW hb; clear hb; have x0 := CD.c 0 (by omega); have x1 := CD.c 1 (by omega); have x2 := CD.c 2 (by omega); have x3 := CD.c 3 (by omega); have x4 := CD.c 4 (by omega); have x5 := CD.c 5 (by omega); have xf0 := CD.f 0 (by omega); have xf1 := CD.f 1 (by omega); have xf2 := CD.f 2 (by omega); have xf3 := CD.f 3 (by omega); have xf4 := CD.f 4 (by omega); have xf5 := CD.f 5 (by omega); have r0 := CR.c 0 (by omega); have r1 := CR.c 1 (by omega); have r2 := CR.c 2 (by omega); have r3 := CR.c 3 (by omega); have r4 := CR.c 4 (by omega); have r5 := CR.c 5 (by omega); have rf0 := CR.f 0 (by omega); have rf1 := CR.f 1 (by omega); have rf2 := CR.f 2 (by omega); have rf3 := CR.f 3 (by omega); have rf4 := CR.f 4 (by omega); have rf5 := CR.f 5 (by omega)))
    all_goals
      have W6 := bel6 CW.out (b := w.heap.size) (Nat.le_refl _) (dg (Y + h * k * 18446744073709551616))
      have S6 := CR.all (dg (Y + h * k * 18446744073709551616))
      clear x0 x1 x2 x3 x4 x5 xf0 xf1 xf2 xf3 xf4 xf5
      clear r0 r1 r2 r3 r4 r5 rf0 rf1 rf2 rf3 rf4 rf5
      clear CD CR CW
      generalize ((((((wy.setCell ⟨w.heap.size, 0, none⟩ (.int .u64 (dg (Y + h * k * 18446744073709551616) 0))).setCell ⟨w.heap.size, 1, none⟩ (.int .u64 (dg (Y + h * k * 18446744073709551616) 1))).setCell ⟨w.heap.size, 2, none⟩ (.int .u64 (dg (Y + h * k * 18446744073709551616) 2))).setCell ⟨w.heap.size, 3, none⟩ (.int .u64 (dg (Y + h * k * 18446744073709551616) 3))).setCell ⟨w.heap.size, 4, none⟩ (.int .u64 (dg (Y + h * k * 18446744073709551616) 4))).setCell ⟨w.heap.size, 5, none⟩ (.int .u64 (dg (Y + h * k * 18446744073709551616) 5))) = w6 at *
      rw [HP.out] at S6
      have r0 := S6.c 0 (by omega); have r1 := S6.c 1 (by omega); have r2 := S6.c 2 (by omega); have r3 := S6.c 3 (by omega); have r4 := S6.c 4 (by omega); have r5 := S6.c 5 (by omega); have rf0 := S6.f 0 (by omega); have rf1 := S6.f 1 (by omega); have rf2 := S6.f 2 (by omega); have rf3 := S6.f 3 (by omega); have rf4 := S6.f 4 (by omega); have rf5 := S6.f 5 (by omega)
      clear S6
      go_wp2
      exact bodyPost_ret (v := .agg #[.int .u64 (dg (a * b) 0), .int .u64 (dg (a * b) 1), .int .u64 (dg (a * b) 2), .int .u64 (dg (a * b) 3), .int .u64 (dg (a * b) 4), .int .u64 (dg (a * b) 5)]) (by simp [results, Try.results39, go_sem, r0, r1, r2, r3, r4, r5]) rfl ⟨rfl, W6⟩
end Go.Proofs.Ytfcneciknldohaa
/-
  The contracts of regattaref02's sums' Mul, and of its Add, Sub, Mul.
-/
set_option linter.unusedVariables false
set_option linter.unusedSimpArgs false
namespace Go.Proofs.Ytfcneciknldohaa
open Go.RowKit

/-- What a sum stands for, and how great its sides are. -/
structure Sm (p q : Int) (V B : Int) : Prop where
  p0 : 0 ≤ p
  q0 : 0 ≤ q
  p1 : p ≤ B
  q1 : q ≤ B
  v : p - q = V

theorem sadd_any (p q V B a : Int) (k : Nat) (hk : k ≤ 4) (hS : Sm p q V B) (a0 : -9223372036854775808 ≤ a) (a1 : a ≤ 9223372036854775807) (w : World) :
    Calls Try.prog 25 #[.agg #[.int .u64 (dg (p) 0), .int .u64 (dg (p) 1), .int .u64 (dg (p) 2), .int .u64 (dg (p) 3), .int .u64 (dg (p) 4), .int .u64 (dg (p) 5), .int .u64 (dg (q) 0), .int .u64 (dg (q) 1), .int .u64 (dg (q) 2), .int .u64 (dg (q) 3), .int .u64 (dg (q) 4), .int .u64 (dg (q) 5)], .int .i64 a, .int .i64 (k : Int)] w fun e w' => ∃ p' q', e = .returned (.agg #[.int .u64 (dg (p') 0), .int .u64 (dg (p') 1), .int .u64 (dg (p') 2), .int .u64 (dg (p') 3), .int .u64 (dg (p') 4), .int .u64 (dg (p') 5), .int .u64 (dg (q') 0), .int .u64 (dg (q') 1), .int .u64 (dg (q') 2), .int .u64 (dg (q') 3), .int .u64 (dg (q') 4), .int .u64 (dg (q') 5)]) ∧ Sm p' q' (V + a * 2 ^ (32 * k)) (B + 9223372036854775808 * 2 ^ (32 * k)) ∧ Below w.heap.size w w' := by
  have hp := pow_pos' (32 * k)
  obtain ⟨s0, s1⟩ := ab_rng' a a0 a1
  have g0 := Int.mul_nonneg s0 (show (0 : Int) ≤ 2 ^ (32 * k) by omega)
  have g1 := Int.mul_le_mul_of_nonneg_right s1 (show (0 : Int) ≤ 2 ^ (32 * k) by omega)
  obtain ⟨h1, h2, h3, h4, h5⟩ := hS
  by_cases hn : a < 0
  · refine (sadd_neg p q a k hk a0 hn w).mono ?_
    rintro e w' ⟨rfl, hb⟩
    have e1 : ab a = -a := by unfold ab; rw [if_pos hn]
    refine ⟨_, _, rfl, ⟨h1, by omega, by omega, by omega, ?_⟩, hb⟩
    rw [e1, Int.neg_mul]
    omega
  · refine (sadd_pos p q a k hk (by omega) a1 w).mono ?_
    rintro e w' ⟨rfl, hb⟩
    have e1 : ab a = a := by unfold ab; rw [if_neg hn]
    refine ⟨_, _, rfl, ⟨by omega, h2, by omega, by omega, ?_⟩, hb⟩
    rw [e1]
    omega
theorem dg_zero (k : Nat) : dg 0 k = 0 := by unfold dg; rw [Int.zero_ediv]; rfl
theorem sadd_zero (a : Int) (k : Nat) (hk : k ≤ 4) (a0 : -9223372036854775808 ≤ a) (a1 : a ≤ 9223372036854775807) (w : World) :
    Calls Try.prog 25 #[.agg #[.int .u64 0, .int .u64 0, .int .u64 0, .int .u64 0, .int .u64 0, .int .u64 0, .int .u64 0, .int .u64 0, .int .u64 0, .int .u64 0, .int .u64 0, .int .u64 0], .int .i64 a, .int .i64 (k : Int)] w fun e w' => ∃ p' q', e = .returned (.agg #[.int .u64 (dg (p') 0), .int .u64 (dg (p') 1), .int .u64 (dg (p') 2), .int .u64 (dg (p') 3), .int .u64 (dg (p') 4), .int .u64 (dg (p') 5), .int .u64 (dg (q') 0), .int .u64 (dg (q') 1), .int .u64 (dg (q') 2), .int .u64 (dg (q') 3), .int .u64 (dg (q') 4), .int .u64 (dg (q') 5)]) ∧ Sm p' q' (a * 2 ^ (32 * k)) (9223372036854775808 * 2 ^ (32 * k)) ∧ Below w.heap.size w w' := by
  have h := sadd_any 0 0 0 0 a k hk ⟨by omega, by omega, by omega, by omega, by omega⟩ a0 a1 w
  rw [Int.zero_add, Int.zero_add] at h
  simp only [dg_zero] at h
  exact h

set_option maxHeartbeats 2000000 in
theorem smul_neg (p q a b : Int) (a0 : -9223372036854775808 ≤ a) (a1 : a ≤ 9223372036854775807) (b0 : -9223372036854775808 ≤ b) (b1 : b ≤ 9223372036854775807) (hs : (decide (a < 0) == decide (b < 0)) = false) (w : World) :
    Calls Try.prog 24 #[.agg #[.int .u64 (dg (p) 0), .int .u64 (dg (p) 1), .int .u64 (dg (p) 2), .int .u64 (dg (p) 3), .int .u64 (dg (p) 4), .int .u64 (dg (p) 5), .int .u64 (dg (q) 0), .int .u64 (dg (q) 1), .int .u64 (dg (q) 2), .int .u64 (dg (q) 3), .int .u64 (dg (q) 4), .int .u64 (dg (q) 5)], .int .i64 a, .int .i64 b] w fun e w' => e = .returned (.agg #[.int .u64 (dg (p) 0), .int .u64 (dg (p) 1), .int .u64 (dg (p) 2), .int .u64 (dg (p) 3), .int .u64 (dg (p) 4), .int .u64 (dg (p) 5), .int .u64 (dg (q + ab a * ab b) 0), .int .u64 (dg (q + ab a * ab b) 1), .int .u64 (dg (q + ab a * ab b) 2), .int .u64 (dg (q + ab a * ab b) 3), .int .u64 (dg (q + ab a * ab b) 4), .int .u64 (dg (q + ab a * ab b) 5)]) ∧ Below w.heap.size w w' := by
  have A0 := (B12.new w (dg p) (dg q) 68).later (bel1 _ (.cells #[.int .u64 0, .int .u64 0, .int .u64 0, .int .u64 0, .int .u64 0, .int .u64 0, .int .u64 0, .int .u64 0, .int .u64 0, .int .u64 0, .int .u64 0, .int .u64 0] 68))
  have R0 := B12.new (w.alloc (.cells #[.int .u64 (dg (p) 0), .int .u64 (dg (p) 1), .int .u64 (dg (p) 2), .int .u64 (dg (p) 3), .int .u64 (dg (p) 4), .int .u64 (dg (p) 5), .int .u64 (dg (q) 0), .int .u64 (dg (q) 1), .int .u64 (dg (q) 2), .int .u64 (dg (q) 3), .int .u64 (dg (q) 4), .int .u64 (dg (q) 5)] 68)) (fun _ => 0) (fun _ => 0) 68
  have W0 := bel2 w (.cells #[.int .u64 (dg (p) 0), .int .u64 (dg (p) 1), .int .u64 (dg (p) 2), .int .u64 (dg (p) 3), .int .u64 (dg (p) 4), .int .u64 (dg (p) 5), .int .u64 (dg (q) 0), .int .u64 (dg (q) 1), .int .u64 (dg (q) 2), .int .u64 (dg (q) 3), .int .u64 (dg (q) 4), .int .u64 (dg (q) 5)] 68) (.cells #[.int .u64 0, .int .u64 0, .int .u64 0, .int .u64 0, .int .u64 0, .int .u64 0, .int .u64 0, .int .u64 0, .int .u64 0, .int .u64 0, .int .u64 0, .int .u64 0] 68)
  simp only [World.size_alloc] at R0
  obtain ⟨s0, s1⟩ := ab_rng' a a0 a1
  obtain ⟨s2, s3⟩ := ab_rng' b b0 b1
  have SA : Hid (∀ W : World, Calls Try.prog 40 #[.int .i64 a] W fun e w' => e = .returned (.int .u64 (ab a)) ∧ w' = W) := fun W => ssize_any a a0 a1 W
  have SB : Hid (∀ W : World, Calls Try.prog 40 #[.int .i64 b] W fun e w' => e = .returned (.int .u64 (ab b)) ∧ w' = W) := fun W => ssize_any b b0 b1 W
  go_enter Try.func24, Try.ntmps24
  go_wp2_with fail
  refine (SA.out _).mono ?_
  rintro e w0 ⟨rfl, hw⟩
  subst hw
  go_wp2_with fail
  refine (SB.out _).mono ?_
  rintro e w0 ⟨rfl, hw⟩
  subst hw
  generalize (w.alloc (.cells #[.int .u64 (dg (p) 0), .int .u64 (dg (p) 1), .int .u64 (dg (p) 2), .int .u64 (dg (p) 3), .int .u64 (dg (p) 4), .int .u64 (dg (p) 5), .int .u64 (dg (q) 0), .int .u64 (dg (q) 1), .int .u64 (dg (q) 2), .int .u64 (dg (q) 3), .int .u64 (dg (q) 4), .int .u64 (dg (q) 5)] 68)).alloc (.cells #[.int .u64 0, .int .u64 0, .int .u64 0, .int .u64 0, .int .u64 0, .int .u64 0, .int .u64 0, .int .u64 0, .int .u64 0, .int .u64 0, .int .u64 0, .int .u64 0] 68) = w1 at *
  go_wp2_with fail
  refine (sproduct_any (ab a) (ab b) s0 (by omega) s2 (by omega) _).mono ?_
  rintro e w2 ⟨rfl, hb⟩
  have A2 := A0.later hb
  have R2 := R0.later hb
  have W2 := bchain W0 hb
  clear hb A0 R0 W0 SA SB
  have A3 := A2.later (bel1 w2 (.cells #[.int .u64 (dg (ab a * ab b) 0), .int .u64 (dg (ab a * ab b) 1), .int .u64 (dg (ab a * ab b) 2), .int .u64 (dg (ab a * ab b) 3), .int .u64 (dg (ab a * ab b) 4), .int .u64 (dg (ab a * ab b) 5)] 66))
  have R3 := R2.later (bel1 w2 (.cells #[.int .u64 (dg (ab a * ab b) 0), .int .u64 (dg (ab a * ab b) 1), .int .u64 (dg (ab a * ab b) 2), .int .u64 (dg (ab a * ab b) 3), .int .u64 (dg (ab a * ab b) 4), .int .u64 (dg (ab a * ab b) 5)] 66))
  have D3 := B6.new w2 (dg (ab a * ab b)) 66
  have W3 := bchain W2 (bel1 w2 (.cells #[.int .u64 (dg (ab a * ab b) 0), .int .u64 (dg (ab a * ab b) 1), .int .u64 (dg (ab a * ab b) 2), .int .u64 (dg (ab a * ab b) 3), .int .u64 (dg (ab a * ab b) 4), .int .u64 (dg (ab a * ab b) 5)] 66))
  clear A2 R2 W2
  go_upto_region 2 with fail
  generalize w2.alloc (.cells #[.int .u64 (dg (ab a * ab b) 0), .int .u64 (dg (ab a * ab b) 1), .int .u64 (dg (ab a * ab b) 2), .int .u64 (dg (ab a * ab b) 3), .int .u64 (dg (ab a * ab b) 4), .int .u64 (dg (ab a * ab b) 5)] 66) = w3 at *
  generalize w2.heap.size = d at *
  have x6 : w3.cell? ⟨w.heap.size, 6, none⟩ = some (.int .u64 (dg q 0)) := A3.d 0 (by omega); have x7 : w3.cell? ⟨w.heap.size, 7, none⟩ = some (.int .u64 (dg q 1)) := A3.d 1 (by omega); have x8 : w3.cell? ⟨w.heap.size, 8, none⟩ = some (.int .u64 (dg q 2)) := A3.d 2 (by omega); have x9 : w3.cell? ⟨w.heap.size, 9, none⟩ = some (.int .u64 (dg q 3)) := A3.d 3 (by omega); have x10 : w3.cell? ⟨w.heap.size, 10, none⟩ = some (.int .u64 (dg q 4)) := A3.d 4 (by omega); have x11 : w3.cell? ⟨w.heap.size, 11, none⟩ = some (.int .u64 (dg q 5)) := A3.d 5 (by omega); have xf6 : w3.frozen? ⟨w.heap.size, 6, none⟩ = false := A3.g 0 (by omega); have xf7 : w3.frozen? ⟨w.heap.size, 7, none⟩ = false := A3.g 1 (by omega); have xf8 : w3.frozen? ⟨w.heap.size, 8, none⟩ = false := A3.g 2 (by omega); have xf9 : w3.frozen? ⟨w.heap.size, 9, none⟩ = false := A3.g 3 (by omega); have xf10 : w3.frozen? ⟨w.heap.size, 10, none⟩ = false := A3.g 4 (by omega); have xf11 : w3.frozen? ⟨w.heap.size, 11, none⟩ = false := A3.g 5 (by omega)
  have y0 := D3.c 0 (by omega); have y1 := D3.c 1 (by omega); have y2 := D3.c 2 (by omega); have y3 := D3.c 3 (by omega); have y4 := D3.c 4 (by omega); have y5 := D3.c 5 (by omega); have yf0 := D3.f 0 (by omega); have yf1 := D3.f 1 (by omega); have yf2 := D3.f 2 (by omega); have yf3 := D3.f 3 (by omega); have yf4 := D3.f 4 (by omega); have yf5 := D3.f 5 (by omega)
  go_wp2_with fail
  refine (splus_any q (ab a * ab b) _).mono ?_
  rintro e w4 ⟨rfl, hb⟩
  have A4 := A3.later hb
  have R4 := R3.later hb
  have W4 := bchain W3 hb
  clear x6 x7 x8 x9 x10 x11 xf6 xf7 xf8 xf9 xf10 xf11
  clear y0 y1 y2 y3 y4 y5 yf0 yf1 yf2 yf3 yf4 yf5
  clear hb A3 R3 D3 W3
  have x6 : w4.cell? ⟨w.heap.size, 6, none⟩ = some (.int .u64 (dg q 0)) := A4.d 0 (by omega); have x7 : w4.cell? ⟨w.heap.size, 7, none⟩ = some (.int .u64 (dg q 1)) := A4.d 1 (by omega); have x8 : w4.cell? ⟨w.heap.size, 8, none⟩ = some (.int .u64 (dg q 2)) := A4.d 2 (by omega); have x9 : w4.cell? ⟨w.heap.size, 9, none⟩ = some (.int .u64 (dg q 3)) := A4.d 3 (by omega); have x10 : w4.cell? ⟨w.heap.size, 10, none⟩ = some (.int .u64 (dg q 4)) := A4.d 4 (by omega); have x11 : w4.cell? ⟨w.heap.size, 11, none⟩ = some (.int .u64 (dg q 5)) := A4.d 5 (by omega); have xf6 : w4.frozen? ⟨w.heap.size, 6, none⟩ = false := A4.g 0 (by omega); have xf7 : w4.frozen? ⟨w.heap.size, 7, none⟩ = false := A4.g 1 (by omega); have xf8 : w4.frozen? ⟨w.heap.size, 8, none⟩ = false := A4.g 2 (by omega); have xf9 : w4.frozen? ⟨w.heap.size, 9, none⟩ = false := A4.g 3 (by omega); have xf10 : w4.frozen? ⟨w.heap.size, 10, none⟩ = false := A4.g 4 (by omega); have xf11 : w4.frozen? ⟨w.heap.size, 11, none⟩ = false := A4.g 5 (by omega)
  go_upto_region 5 with fail
  have A5 := A4.allN (dg (q + ab a * ab b))
  have R5 := R4.farN (d := w.heap.size) (by omega) (dg (q + ab a * ab b))
  have W5 := bel6N W4 (b := w.heap.size) (Nat.le_refl _) (dg (q + ab a * ab b))
  clear x6 x7 x8 x9 x10 x11 xf6 xf7 xf8 xf9 xf10 xf11
  clear A4 R4 W4
  generalize ((((((w4.setCell ⟨w.heap.size, 6, none⟩ (.int .u64 (dg (q + ab a * ab b) 0))).setCell ⟨w.heap.size, 7, none⟩ (.int .u64 (dg (q + ab a * ab b) 1))).setCell ⟨w.heap.size, 8, none⟩ (.int .u64 (dg (q + ab a * ab b) 2))).setCell ⟨w.heap.size, 9, none⟩ (.int .u64 (dg (q + ab a * ab b) 3))).setCell ⟨w.heap.size, 10, none⟩ (.int .u64 (dg (q + ab a * ab b) 4))).setCell ⟨w.heap.size, 11, none⟩ (.int .u64 (dg (q + ab a * ab b) 5))) = w5 at *
  have x0 : w5.cell? ⟨w.heap.size, 0, none⟩ = some (.int .u64 (dg p 0)) := A5.c 0 (by omega); have x1 : w5.cell? ⟨w.heap.size, 1, none⟩ = some (.int .u64 (dg p 1)) := A5.c 1 (by omega); have x2 : w5.cell? ⟨w.heap.size, 2, none⟩ = some (.int .u64 (dg p 2)) := A5.c 2 (by omega); have x3 : w5.cell? ⟨w.heap.size, 3, none⟩ = some (.int .u64 (dg p 3)) := A5.c 3 (by omega); have x4 : w5.cell? ⟨w.heap.size, 4, none⟩ = some (.int .u64 (dg p 4)) := A5.c 4 (by omega); have x5 : w5.cell? ⟨w.heap.size, 5, none⟩ = some (.int .u64 (dg p 5)) := A5.c 5 (by omega); have x6 : w5.cell? ⟨w.heap.size, 6, none⟩ = some (.int .u64 (dg (q + ab a * ab b) 0)) := A5.d 0 (by omega); have x7 : w5.cell? ⟨w.heap.size, 7, none⟩ = some (.int .u64 (dg (q + ab a * ab b) 1)) := A5.d 1 (by omega); have x8 : w5.cell? ⟨w.heap.size, 8, none⟩ = some (.int .u64 (dg (q + ab a * ab b) 2)) := A5.d 2 (by omega); have x9 : w5.cell? ⟨w.heap.size, 9, none⟩ = some (.int .u64 (dg (q + ab a * ab b) 3)) := A5.d 3 (by omega); have x10 : w5.cell? ⟨w.heap.size, 10, none⟩ = some (.int .u64 (dg (q + ab a * ab b) 4)) := A5.d 4 (by omega); have x11 : w5.cell? ⟨w.heap.size, 11, none⟩ = some (.int .u64 (dg (q + ab a * ab b) 5)) := A5.d 5 (by omega); have xf0 : w5.frozen? ⟨w.heap.size, 0, none⟩ = false := A5.f 0 (by omega); have xf1 : w5.frozen? ⟨w.heap.size, 1, none⟩ = false := A5.f 1 (by omega); have xf2 : w5.frozen? ⟨w.heap.size, 2, none⟩ = false := A5.f 2 (by omega); have xf3 : w5.frozen? ⟨w.heap.size, 3, none⟩ = false := A5.f 3 (by omega); have xf4 : w5.frozen? ⟨w.heap.size, 4, none⟩ = false := A5.f 4 (by omega); have xf5 : w5.frozen? ⟨w.heap.size, 5, none⟩ = false := A5.f 5 (by omega); have xf6 : w5.frozen? ⟨w.heap.size, 6, none⟩ = false := A5.g 0 (by omega); have xf7 : w5.frozen? ⟨w.heap.size, 7, none⟩ = false := A5.g 1 (by omega); have xf8 : w5.frozen? ⟨w.heap.size, 8, none⟩ = false := A5.g 2 (by omega); have xf9 : w5.frozen? ⟨w.heap.size, 9, none⟩ = false := A5.g 3 (by omega); have xf10 : w5.frozen? ⟨w.heap.size, 10, none⟩ = false := A5.g 4 (by omega); have xf11 : w5.frozen? ⟨w.heap.size, 11, none⟩ = false := A5.g 5 (by omega)
  have r0 : w5.cell? ⟨w.heap.size + 1, 0, none⟩ = some (.int .u64 ((fun _ => 0) 0)) := R5.c 0 (by omega); have r1 : w5.cell? ⟨w.heap.size + 1, 1, none⟩ = some (.int .u64 ((fun _ => 0) 1)) := R5.c 1 (by omega); have r2 : w5.cell? ⟨w.heap.size + 1, 2, none⟩ = some (.int .u64 ((fun _ => 0) 2)) := R5.c 2 (by omega); have r3 : w5.cell? ⟨w.heap.size + 1, 3, none⟩ = some (.int .u64 ((fun _ => 0) 3)) := R5.c 3 (by omega); have r4 : w5.cell? ⟨w.heap.size + 1, 4, none⟩ = some (.int .u64 ((fun _ => 0) 4)) := R5.c 4 (by omega); have r5 : w5.cell? ⟨w.heap.size + 1, 5, none⟩ = some (.int .u64 ((fun _ => 0) 5)) := R5.c 5 (by omega); have r6 : w5.cell? ⟨w.heap.size + 1, 6, none⟩ = some (.int .u64 ((fun _ => 0) 0)) := R5.d 0 (by omega); have r7 : w5.cell? ⟨w.heap.size + 1, 7, none⟩ = some (.int .u64 ((fun _ => 0) 1)) := R5.d 1 (by omega); have r8 : w5.cell? ⟨w.heap.size + 1, 8, none⟩ = some (.int .u64 ((fun _ => 0) 2)) := R5.d 2 (by omega); have r9 : w5.cell? ⟨w.heap.size + 1, 9, none⟩ = some (.int .u64 ((fun _ => 0) 3)) := R5.d 3 (by omega); have r10 : w5.cell? ⟨w.heap.size + 1, 10, none⟩ = some (.int .u64 ((fun _ => 0) 4)) := R5.d 4 (by omega); have r11 : w5.cell? ⟨w.heap.size + 1, 11, none⟩ = some (.int .u64 ((fun _ => 0) 5)) := R5.d 5 (by omega); have rf0 : w5.frozen? ⟨w.heap.size + 1, 0, none⟩ = false := R5.f 0 (by omega); have rf1 : w5.frozen? ⟨w.heap.size + 1, 1, none⟩ = false := R5.f 1 (by omega); have rf2 : w5.frozen? ⟨w.heap.size + 1, 2, none⟩ = false := R5.f 2 (by omega); have rf3 : w5.frozen? ⟨w.heap.size + 1, 3, none⟩ = false := R5.f 3 (by omega); have rf4 : w5.frozen? ⟨w.heap.size + 1, 4, none⟩ = false := R5.f 4 (by omega); have rf5 : w5.frozen? ⟨w.heap.size + 1, 5, none⟩ = false := R5.f 5 (by omega); have rf6 : w5.frozen? ⟨w.heap.size + 1, 6, none⟩ = false := R5.g 0 (by omega); have rf7 : w5.frozen? ⟨w.heap.size + 1, 7, none⟩ = false := R5.g 1 (by omega); have rf8 : w5.frozen? ⟨w.heap.size + 1, 8, none⟩ = false := R5.g 2 (by omega); have rf9 : w5.frozen? ⟨w.heap.size + 1, 9, none⟩ = false := R5.g 3 (by omega); have rf10 : w5.frozen? ⟨w.heap.size + 1, 10, none⟩ = false := R5.g 4 (by omega); have rf11 : w5.frozen? ⟨w.heap.size + 1, 11, none⟩ = false := R5.g 5 (by omega)
  clear A5 R5
  go_wp2
  exact bodyPost_ret (v := .agg #[.int .u64 (dg (p) 0), .int .u64 (dg (p) 1), .int .u64 (dg (p) 2), .int .u64 (dg (p) 3), .int .u64 (dg (p) 4), .int .u64 (dg (p) 5), .int .u64 (dg (q + ab a * ab b) 0), .int .u64 (dg (q + ab a * ab b) 1), .int .u64 (dg (q + ab a * ab b) 2), .int .u64 (dg (q + ab a * ab b) 3), .int .u64 (dg (q + ab a * ab b) 4), .int .u64 (dg (q + ab a * ab b) 5)]) (by simp [results, Try.results24, go_sem, r0, r1, r2, r3, r4, r5, r6, r7, r8, r9, r10, r11]) rfl ⟨rfl, ((((((((((((W5).setCell (by dsimp only; omega) _).setCell (by dsimp only; omega) _).setCell (by dsimp only; omega) _).setCell (by dsimp only; omega) _).setCell (by dsimp only; omega) _).setCell (by dsimp only; omega) _).setCell (by dsimp only; omega) _).setCell (by dsimp only; omega) _).setCell (by dsimp only; omega) _).setCell (by dsimp only; omega) _).setCell (by dsimp only; omega) _).setCell (by dsimp only; omega) _⟩
set_option maxHeartbeats 2000000 in
theorem smul_pos (p q a b : Int) (a0 : -9223372036854775808 ≤ a) (a1 : a ≤ 9223372036854775807) (b0 : -9223372036854775808 ≤ b) (b1 : b ≤ 9223372036854775807) (hs : (decide (a < 0) == decide (b < 0)) = true) (w : World) :
    Calls Try.prog 24 #[.agg #[.int .u64 (dg (p) 0), .int .u64 (dg (p) 1), .int .u64 (dg (p) 2), .int .u64 (dg (p) 3), .int .u64 (dg (p) 4), .int .u64 (dg (p) 5), .int .u64 (dg (q) 0), .int .u64 (dg (q) 1), .int .u64 (dg (q) 2), .int .u64 (dg (q) 3), .int .u64 (dg (q) 4), .int .u64 (dg (q) 5)], .int .i64 a, .int .i64 b] w fun e w' => e = .returned (.agg #[.int .u64 (dg (p + ab a * ab b) 0), .int .u64 (dg (p + ab a * ab b) 1), .int .u64 (dg (p + ab a * ab b) 2), .int .u64 (dg (p + ab a * ab b) 3), .int .u64 (dg (p + ab a * ab b) 4), .int .u64 (dg (p + ab a * ab b) 5), .int .u64 (dg (q) 0), .int .u64 (dg (q) 1), .int .u64 (dg (q) 2), .int .u64 (dg (q) 3), .int .u64 (dg (q) 4), .int .u64 (dg (q) 5)]) ∧ Below w.heap.size w w' := by
  have A0 := (B12.new w (dg p) (dg q) 68).later (bel1 _ (.cells #[.int .u64 0, .int .u64 0, .int .u64 0, .int .u64 0, .int .u64 0, .int .u64 0, .int .u64 0, .int .u64 0, .int .u64 0, .int .u64 0, .int .u64 0, .int .u64 0] 68))
  have R0 := B12.new (w.alloc (.cells #[.int .u64 (dg (p) 0), .int .u64 (dg (p) 1), .int .u64 (dg (p) 2), .int .u64 (dg (p) 3), .int .u64 (dg (p) 4), .int .u64 (dg (p) 5), .int .u64 (dg (q) 0), .int .u64 (dg (q) 1), .int .u64 (dg (q) 2), .int .u64 (dg (q) 3), .int .u64 (dg (q) 4), .int .u64 (dg (q) 5)] 68)) (fun _ => 0) (fun _ => 0) 68
  have W0 := bel2 w (.cells #[.int .u64 (dg (p) 0), .int .u64 (dg (p) 1), .int .u64 (dg (p) 2), .int .u64 (dg (p) 3), .int .u64 (dg (p) 4), .int .u64 (dg (p) 5), .int .u64 (dg (q) 0), .int .u64 (dg (q) 1), .int .u64 (dg (q) 2), .int .u64 (dg (q) 3), .int .u64 (dg (q) 4), .int .u64 (dg (q) 5)] 68) (.cells #[.int .u64 0, .int .u64 0, .int .u64 0, .int .u64 0, .int .u64 0, .int .u64 0, .int .u64 0, .int .u64 0, .int .u64 0, .int .u64 0, .int .u64 0, .int .u64 0] 68)
  simp only [World.size_alloc] at R0
  obtain ⟨s0, s1⟩ := ab_rng' a a0 a1
  obtain ⟨s2, s3⟩ := ab_rng' b b0 b1
  have SA : Hid (∀ W : World, Calls Try.prog 40 #[.int .i64 a] W fun e w' => e = .returned (.int .u64 (ab a)) ∧ w' = W) := fun W => ssize_any a a0 a1 W
  have SB : Hid (∀ W : World, Calls Try.prog 40 #[.int .i64 b] W fun e w' => e = .returned (.int .u64 (ab b)) ∧ w' = W) := fun W => ssize_any b b0 b1 W
  go_enter Try.func24, Try.ntmps24
  go_wp2_with fail
  refine (SA.out _).mono ?_
  rintro e w0 ⟨rfl, hw⟩
  subst hw
  go_wp2_with fail
  refine (SB.out _).mono ?_
  rintro e w0 ⟨rfl, hw⟩
  subst hw
  generalize (w.alloc (.cells #[.int .u64 (dg (p) 0), .int .u64 (dg (p) 1), .int .u64 (dg (p) 2), .int .u64 (dg (p) 3), .int .u64 (dg (p) 4), .int .u64 (dg (p) 5), .int .u64 (dg (q) 0), .int .u64 (dg (q) 1), .int .u64 (dg (q) 2), .int .u64 (dg (q) 3), .int .u64 (dg (q) 4), .int .u64 (dg (q) 5)] 68)).alloc (.cells #[.int .u64 0, .int .u64 0, .int .u64 0, .int .u64 0, .int .u64 0, .int .u64 0, .int .u64 0, .int .u64 0, .int .u64 0, .int .u64 0, .int .u64 0, .int .u64 0] 68) = w1 at *
  go_wp2_with fail
  refine (sproduct_any (ab a) (ab b) s0 (by omega) s2 (by omega) _).mono ?_
  rintro e w2 ⟨rfl, hb⟩
  have A2 := A0.later hb
  have R2 := R0.later hb
  have W2 := bchain W0 hb
  clear hb A0 R0 W0 SA SB
  have A3 := A2.later (bel1 w2 (.cells #[.int .u64 (dg (ab a * ab b) 0), .int .u64 (dg (ab a * ab b) 1), .int .u64 (dg (ab a * ab b) 2), .int .u64 (dg (ab a * ab b) 3), .int .u64 (dg (ab a * ab b) 4), .int .u64 (dg (ab a * ab b) 5)] 66))
  have R3 := R2.later (bel1 w2 (.cells #[.int .u64 (dg (ab a * ab b) 0), .int .u64 (dg (ab a * ab b) 1), .int .u64 (dg (ab a * ab b) 2), .int .u64 (dg (ab a * ab b) 3), .int .u64 (dg (ab a * ab b) 4), .int .u64 (dg (ab a * ab b) 5)] 66))
  have D3 := B6.new w2 (dg (ab a * ab b)) 66
  have W3 := bchain W2 (bel1 w2 (.cells #[.int .u64 (dg (ab a * ab b) 0), .int .u64 (dg (ab a * ab b) 1), .int .u64 (dg (ab a * ab b) 2), .int .u64 (dg (ab a * ab b) 3), .int .u64 (dg (ab a * ab b) 4), .int .u64 (dg (ab a * ab b) 5)] 66))
  clear A2 R2 W2
  go_upto_region 2 with fail
  generalize w2.alloc (.cells #[.int .u64 (dg (ab a * ab b) 0), .int .u64 (dg (ab a * ab b) 1), .int .u64 (dg (ab a * ab b) 2), .int .u64 (dg (ab a * ab b) 3), .int .u64 (dg (ab a * ab b) 4), .int .u64 (dg (ab a * ab b) 5)] 66) = w3 at *
  generalize w2.heap.size = d at *
  have x0 : w3.cell? ⟨w.heap.size, 0, none⟩ = some (.int .u64 (dg p 0)) := A3.c 0 (by omega); have x1 : w3.cell? ⟨w.heap.size, 1, none⟩ = some (.int .u64 (dg p 1)) := A3.c 1 (by omega); have x2 : w3.cell? ⟨w.heap.size, 2, none⟩ = some (.int .u64 (dg p 2)) := A3.c 2 (by omega); have x3 : w3.cell? ⟨w.heap.size, 3, none⟩ = some (.int .u64 (dg p 3)) := A3.c 3 (by omega); have x4 : w3.cell? ⟨w.heap.size, 4, none⟩ = some (.int .u64 (dg p 4)) := A3.c 4 (by omega); have x5 : w3.cell? ⟨w.heap.size, 5, none⟩ = some (.int .u64 (dg p 5)) := A3.c 5 (by omega); have xf0 : w3.frozen? ⟨w.heap.size, 0, none⟩ = false := A3.f 0 (by omega); have xf1 : w3.frozen? ⟨w.heap.size, 1, none⟩ = false := A3.f 1 (by omega); have xf2 : w3.frozen? ⟨w.heap.size, 2, none⟩ = false := A3.f 2 (by omega); have xf3 : w3.frozen? ⟨w.heap.size, 3, none⟩ = false := A3.f 3 (by omega); have xf4 : w3.frozen? ⟨w.heap.size, 4, none⟩ = false := A3.f 4 (by omega); have xf5 : w3.frozen? ⟨w.heap.size, 5, none⟩ = false := A3.f 5 (by omega)
  have y0 := D3.c 0 (by omega); have y1 := D3.c 1 (by omega); have y2 := D3.c 2 (by omega); have y3 := D3.c 3 (by omega); have y4 := D3.c 4 (by omega); have y5 := D3.c 5 (by omega); have yf0 := D3.f 0 (by omega); have yf1 := D3.f 1 (by omega); have yf2 := D3.f 2 (by omega); have yf3 := D3.f 3 (by omega); have yf4 := D3.f 4 (by omega); have yf5 := D3.f 5 (by omega)
  go_wp2_with fail
  refine (splus_any p (ab a * ab b) _).mono ?_
  rintro e w4 ⟨rfl, hb⟩
  have A4 := A3.later hb
  have R4 := R3.later hb
  have W4 := bchain W3 hb
  clear x0 x1 x2 x3 x4 x5 xf0 xf1 xf2 xf3 xf4 xf5
  clear y0 y1 y2 y3 y4 y5 yf0 yf1 yf2 yf3 yf4 yf5
  clear hb A3 R3 D3 W3
  have x0 : w4.cell? ⟨w.heap.size, 0, none⟩ = some (.int .u64 (dg p 0)) := A4.c 0 (by omega); have x1 : w4.cell? ⟨w.heap.size, 1, none⟩ = some (.int .u64 (dg p 1)) := A4.c 1 (by omega); have x2 : w4.cell? ⟨w.heap.size, 2, none⟩ = some (.int .u64 (dg p 2)) := A4.c 2 (by omega); have x3 : w4.cell? ⟨w.heap.size, 3, none⟩ = some (.int .u64 (dg p 3)) := A4.c 3 (by omega); have x4 : w4.cell? ⟨w.heap.size, 4, none⟩ = some (.int .u64 (dg p 4)) := A4.c 4 (by omega); have x5 : w4.cell? ⟨w.heap.size, 5, none⟩ = some (.int .u64 (dg p 5)) := A4.c 5 (by omega); have xf0 : w4.frozen? ⟨w.heap.size, 0, none⟩ = false := A4.f 0 (by omega); have xf1 : w4.frozen? ⟨w.heap.size, 1, none⟩ = false := A4.f 1 (by omega); have xf2 : w4.frozen? ⟨w.heap.size, 2, none⟩ = false := A4.f 2 (by omega); have xf3 : w4.frozen? ⟨w.heap.size, 3, none⟩ = false := A4.f 3 (by omega); have xf4 : w4.frozen? ⟨w.heap.size, 4, none⟩ = false := A4.f 4 (by omega); have xf5 : w4.frozen? ⟨w.heap.size, 5, none⟩ = false := A4.f 5 (by omega)
  go_upto_region 5 with fail
  have A5 := A4.allP (dg (p + ab a * ab b))
  have R5 := R4.farP (d := w.heap.size) (by omega) (dg (p + ab a * ab b))
  have W5 := bel6 W4 (b := w.heap.size) (Nat.le_refl _) (dg (p + ab a * ab b))
  clear x0 x1 x2 x3 x4 x5 xf0 xf1 xf2 xf3 xf4 xf5
  clear A4 R4 W4
  generalize ((((((w4.setCell ⟨w.heap.size, 0, none⟩ (.int .u64 (dg (p + ab a * ab b) 0))).setCell ⟨w.heap.size, 1, none⟩ (.int .u64 (dg (p + ab a * ab b) 1))).setCell ⟨w.heap.size, 2, none⟩ (.int .u64 (dg (p + ab a * ab b) 2))).setCell ⟨w.heap.size, 3, none⟩ (.int .u64 (dg (p + ab a * ab b) 3))).setCell ⟨w.heap.size, 4, none⟩ (.int .u64 (dg (p + ab a * ab b) 4))).setCell ⟨w.heap.size, 5, none⟩ (.int .u64 (dg (p + ab a * ab b) 5))) = w5 at *
  have x0 : w5.cell? ⟨w.heap.size, 0, none⟩ = some (.int .u64 (dg (p + ab a * ab b) 0)) := A5.c 0 (by omega); have x1 : w5.cell? ⟨w.heap.size, 1, none⟩ = some (.int .u64 (dg (p + ab a * ab b) 1)) := A5.c 1 (by omega); have x2 : w5.cell? ⟨w.heap.size, 2, none⟩ = some (.int .u64 (dg (p + ab a * ab b) 2)) := A5.c 2 (by omega); have x3 : w5.cell? ⟨w.heap.size, 3, none⟩ = some (.int .u64 (dg (p + ab a * ab b) 3)) := A5.c 3 (by omega); have x4 : w5.cell? ⟨w.heap.size, 4, none⟩ = some (.int .u64 (dg (p + ab a * ab b) 4)) := A5.c 4 (by omega); have x5 : w5.cell? ⟨w.heap.size, 5, none⟩ = some (.int .u64 (dg (p + ab a * ab b) 5)) := A5.c 5 (by omega); have x6 : w5.cell? ⟨w.heap.size, 6, none⟩ = some (.int .u64 (dg q 0)) := A5.d 0 (by omega); have x7 : w5.cell? ⟨w.heap.size, 7, none⟩ = some (.int .u64 (dg q 1)) := A5.d 1 (by omega); have x8 : w5.cell? ⟨w.heap.size, 8, none⟩ = some (.int .u64 (dg q 2)) := A5.d 2 (by omega); have x9 : w5.cell? ⟨w.heap.size, 9, none⟩ = some (.int .u64 (dg q 3)) := A5.d 3 (by omega); have x10 : w5.cell? ⟨w.heap.size, 10, none⟩ = some (.int .u64 (dg q 4)) := A5.d 4 (by omega); have x11 : w5.cell? ⟨w.heap.size, 11, none⟩ = some (.int .u64 (dg q 5)) := A5.d 5 (by omega); have xf0 : w5.frozen? ⟨w.heap.size, 0, none⟩ = false := A5.f 0 (by omega); have xf1 : w5.frozen? ⟨w.heap.size, 1, none⟩ = false := A5.f 1 (by omega); have xf2 : w5.frozen? ⟨w.heap.size, 2, none⟩ = false := A5.f 2 (by omega); have xf3 : w5.frozen? ⟨w.heap.size, 3, none⟩ = false := A5.f 3 (by omega); have xf4 : w5.frozen? ⟨w.heap.size, 4, none⟩ = false := A5.f 4 (by omega); have xf5 : w5.frozen? ⟨w.heap.size, 5, none⟩ = false := A5.f 5 (by omega); have xf6 : w5.frozen? ⟨w.heap.size, 6, none⟩ = false := A5.g 0 (by omega); have xf7 : w5.frozen? ⟨w.heap.size, 7, none⟩ = false := A5.g 1 (by omega); have xf8 : w5.frozen? ⟨w.heap.size, 8, none⟩ = false := A5.g 2 (by omega); have xf9 : w5.frozen? ⟨w.heap.size, 9, none⟩ = false := A5.g 3 (by omega); have xf10 : w5.frozen? ⟨w.heap.size, 10, none⟩ = false := A5.g 4 (by omega); have xf11 : w5.frozen? ⟨w.heap.size, 11, none⟩ = false := A5.g 5 (by omega)
  have r0 : w5.cell? ⟨w.heap.size + 1, 0, none⟩ = some (.int .u64 ((fun _ => 0) 0)) := R5.c 0 (by omega); have r1 : w5.cell? ⟨w.heap.size + 1, 1, none⟩ = some (.int .u64 ((fun _ => 0) 1)) := R5.c 1 (by omega); have r2 : w5.cell? ⟨w.heap.size + 1, 2, none⟩ = some (.int .u64 ((fun _ => 0) 2)) := R5.c 2 (by omega); have r3 : w5.cell? ⟨w.heap.size + 1, 3, none⟩ = some (.int .u64 ((fun _ => 0) 3)) := R5.c 3 (by omega); have r4 : w5.cell? ⟨w.heap.size + 1, 4, none⟩ = some (.int .u64 ((fun _ => 0) 4)) := R5.c 4 (by omega); have r5 : w5.cell? ⟨w.heap.size + 1, 5, none⟩ = some (.int .u64 ((fun _ => 0) 5)) := R5.c 5 (by omega); have r6 : w5.cell? ⟨w.heap.size + 1, 6, none⟩ = some (.int .u64 ((fun _ => 0) 0)) := R5.d 0 (by omega); have r7 : w5.cell? ⟨w.heap.size + 1, 7, none⟩ = some (.int .u64 ((fun _ => 0) 1)) := R5.d 1 (by omega); have r8 : w5.cell? ⟨w.heap.size + 1, 8, none⟩ = some (.int .u64 ((fun _ => 0) 2)) := R5.d 2 (by omega); have r9 : w5.cell? ⟨w.heap.size + 1, 9, none⟩ = some (.int .u64 ((fun _ => 0) 3)) := R5.d 3 (by omega); have r10 : w5.cell? ⟨w.heap.size + 1, 10, none⟩ = some (.int .u64 ((fun _ => 0) 4)) := R5.d 4 (by omega); have r11 : w5.cell? ⟨w.heap.size + 1, 11, none⟩ = some (.int .u64 ((fun _ => 0) 5)) := R5.d 5 (by omega); have rf0 : w5.frozen? ⟨w.heap.size + 1, 0, none⟩ = false := R5.f 0 (by omega); have rf1 : w5.frozen? ⟨w.heap.size + 1, 1, none⟩ = false := R5.f 1 (by omega); have rf2 : w5.frozen? ⟨w.heap.size + 1, 2, none⟩ = false := R5.f 2 (by omega); have rf3 : w5.frozen? ⟨w.heap.size + 1, 3, none⟩ = false := R5.f 3 (by omega); have rf4 : w5.frozen? ⟨w.heap.size + 1, 4, none⟩ = false := R5.f 4 (by omega); have rf5 : w5.frozen? ⟨w.heap.size + 1, 5, none⟩ = false := R5.f 5 (by omega); have rf6 : w5.frozen? ⟨w.heap.size + 1, 6, none⟩ = false := R5.g 0 (by omega); have rf7 : w5.frozen? ⟨w.heap.size + 1, 7, none⟩ = false := R5.g 1 (by omega); have rf8 : w5.frozen? ⟨w.heap.size + 1, 8, none⟩ = false := R5.g 2 (by omega); have rf9 : w5.frozen? ⟨w.heap.size + 1, 9, none⟩ = false := R5.g 3 (by omega); have rf10 : w5.frozen? ⟨w.heap.size + 1, 10, none⟩ = false := R5.g 4 (by omega); have rf11 : w5.frozen? ⟨w.heap.size + 1, 11, none⟩ = false := R5.g 5 (by omega)
  clear A5 R5
  go_wp2
  exact bodyPost_ret (v := .agg #[.int .u64 (dg (p + ab a * ab b) 0), .int .u64 (dg (p + ab a * ab b) 1), .int .u64 (dg (p + ab a * ab b) 2), .int .u64 (dg (p + ab a * ab b) 3), .int .u64 (dg (p + ab a * ab b) 4), .int .u64 (dg (p + ab a * ab b) 5), .int .u64 (dg (q) 0), .int .u64 (dg (q) 1), .int .u64 (dg (q) 2), .int .u64 (dg (q) 3), .int .u64 (dg (q) 4), .int .u64 (dg (q) 5)]) (by simp [results, Try.results24, go_sem, r0, r1, r2, r3, r4, r5, r6, r7, r8, r9, r10, r11]) rfl ⟨rfl, ((((((((((((W5).setCell (by dsimp only; omega) _).setCell (by dsimp only; omega) _).setCell (by dsimp only; omega) _).setCell (by dsimp only; omega) _).setCell (by dsimp only; omega) _).setCell (by dsimp only; omega) _).setCell (by dsimp only; omega) _).setCell (by dsimp only; omega) _).setCell (by dsimp only; omega) _).setCell (by dsimp only; omega) _).setCell (by dsimp only; omega) _).setCell (by dsimp only; omega) _⟩

theorem ab_mul_le (a b : Int) (a0 : -9223372036854775808 ≤ a) (a1 : a ≤ 9223372036854775807) (b0 : -9223372036854775808 ≤ b) (b1 : b ≤ 9223372036854775807) : 0 ≤ ab a * ab b ∧ ab a * ab b ≤ 85070591730234615865843651857942052864 := by
  obtain ⟨s0, s1⟩ := ab_rng' a a0 a1
  obtain ⟨s2, s3⟩ := ab_rng' b b0 b1
  have h1 := Int.mul_nonneg s0 s2
  have h2 := Int.mul_le_mul s1 s3 s2 (by omega)
  omega
theorem smul_any (p q V B a b : Int) (hS : Sm p q V B) (a0 : -9223372036854775808 ≤ a) (a1 : a ≤ 9223372036854775807) (b0 : -9223372036854775808 ≤ b) (b1 : b ≤ 9223372036854775807) (w : World) :
    Calls Try.prog 24 #[.agg #[.int .u64 (dg (p) 0), .int .u64 (dg (p) 1), .int .u64 (dg (p) 2), .int .u64 (dg (p) 3), .int .u64 (dg (p) 4), .int .u64 (dg (p) 5), .int .u64 (dg (q) 0), .int .u64 (dg (q) 1), .int .u64 (dg (q) 2), .int .u64 (dg (q) 3), .int .u64 (dg (q) 4), .int .u64 (dg (q) 5)], .int .i64 a, .int .i64 b] w fun e w' => ∃ p' q', e = .returned (.agg #[.int .u64 (dg (p') 0), .int .u64 (dg (p') 1), .int .u64 (dg (p') 2), .int .u64 (dg (p') 3), .int .u64 (dg (p') 4), .int .u64 (dg (p') 5), .int .u64 (dg (q') 0), .int .u64 (dg (q') 1), .int .u64 (dg (q') 2), .int .u64 (dg (q') 3), .int .u64 (dg (q') 4), .int .u64 (dg (q') 5)]) ∧ Sm p' q' (V + a * b) (B + 85070591730234615865843651857942052864) ∧ Below w.heap.size w w' := by
  obtain ⟨g0, g1⟩ := ab_mul_le a b a0 a1 b0 b1
  obtain ⟨h1, h2, h3, h4, h5⟩ := hS
  cases hs : (decide (a < 0) == decide (b < 0))
  · refine (smul_neg p q a b a0 a1 b0 b1 hs w).mono ?_
    rintro e w' ⟨rfl, hb⟩
    refine ⟨_, _, rfl, ⟨h1, by omega, by omega, by omega, ?_⟩, hb⟩
    have e1 : ab a * ab b = -(a * b) := by
      unfold ab
      by_cases ha : a < 0
      · by_cases hb' : b < 0
        · simp [ha, hb'] at hs
        · rw [if_pos ha, if_neg hb', Int.neg_mul]
      · by_cases hb' : b < 0
        · rw [if_neg ha, if_pos hb', Int.mul_neg]
        · simp [ha, hb'] at hs
    omega
  · refine (smul_pos p q a b a0 a1 b0 b1 hs w).mono ?_
    rintro e w' ⟨rfl, hb⟩
    refine ⟨_, _, rfl, ⟨by omega, h2, by omega, by omega, ?_⟩, hb⟩
    have e1 : ab a * ab b = a * b := by
      unfold ab
      by_cases ha : a < 0
      · by_cases hb' : b < 0
        · rw [if_pos ha, if_pos hb', Int.neg_mul_neg]
        · simp [ha, hb'] at hs
      · by_cases hb' : b < 0
        · simp [ha, hb'] at hs
        · rw [if_neg ha, if_neg hb']
    omega
theorem smul_zero (a b : Int) (a0 : -9223372036854775808 ≤ a) (a1 : a ≤ 9223372036854775807) (b0 : -9223372036854775808 ≤ b) (b1 : b ≤ 9223372036854775807) (w : World) :
    Calls Try.prog 24 #[.agg #[.int .u64 0, .int .u64 0, .int .u64 0, .int .u64 0, .int .u64 0, .int .u64 0, .int .u64 0, .int .u64 0, .int .u64 0, .int .u64 0, .int .u64 0, .int .u64 0], .int .i64 a, .int .i64 b] w fun e w' => ∃ p' q', e = .returned (.agg #[.int .u64 (dg (p') 0), .int .u64 (dg (p') 1), .int .u64 (dg (p') 2), .int .u64 (dg (p') 3), .int .u64 (dg (p') 4), .int .u64 (dg (p') 5), .int .u64 (dg (q') 0), .int .u64 (dg (q') 1), .int .u64 (dg (q') 2), .int .u64 (dg (q') 3), .int .u64 (dg (q') 4), .int .u64 (dg (q') 5)]) ∧ Sm p' q' (a * b) 85070591730234615865843651857942052864 ∧ Below w.heap.size w w' := by
  have h := smul_any 0 0 0 0 a b ⟨by omega, by omega, by omega, by omega, by omega⟩ a0 a1 b0 b1 w
  rw [Int.zero_add, Int.zero_add] at h
  simp only [dg_zero] at h
  exact h
theorem sround_of (p q V B : Int) (n : Nat) (hn : n ≤ 1000) (hS : Sm p q V B) (hB : B < 3138550867693340381917894711603833208051177722232017256448) (w : World) :
    Calls Try.prog 26 #[.agg #[.int .u64 (dg (p) 0), .int .u64 (dg (p) 1), .int .u64 (dg (p) 2), .int .u64 (dg (p) 3), .int .u64 (dg (p) 4), .int .u64 (dg (p) 5), .int .u64 (dg (q) 0), .int .u64 (dg (q) 1), .int .u64 (dg (q) 2), .int .u64 (dg (q) 3), .int .u64 (dg (q) 4), .int .u64 (dg (q) 5)], .int .i64 (n : Int)] w fun e w' => e = .returned (.tuple #[.int .i64 (clv (rr V n)), .bool (ovv (rr V n))]) ∧ Below w.heap.size w w' := by
  obtain ⟨h1, h2, h3, h4, h5⟩ := hS
  rw [← h5]
  exact sround_any p q n hn h1 (by omega) h2 (by omega) w

end Go.Proofs.Ytfcneciknldohaa
/-
  The contract of regattaref02's Sub.
-/
set_option linter.unusedVariables false
set_option linter.unusedSimpArgs false
namespace Go.Proofs.Ytfcneciknldohaa
open Go.RowKit

theorem Sm.turn {p q V B : Int} (h : Sm p q V B) : Sm q p (-V) B := by
  obtain ⟨h1, h2, h3, h4, h5⟩ := h
  exact ⟨h2, h1, h4, h3, by omega⟩

set_option maxHeartbeats 1000000 in
theorem rfsub_any (a b : Int) (a0 : -9223372036854775808 ≤ a) (a1 : a ≤ 9223372036854775807) (b0 : -9223372036854775808 ≤ b) (b1 : b ≤ 9223372036854775807) (w : World) :
    Calls Try.prog 30 #[.int .i64 a, .int .i64 b] w fun e w' => e = .returned (.tuple #[.int .i64 (clv (a - b)), .bool (ovv (a - b))]) ∧ Below w.heap.size w w' := by
  go_enter Try.func30, Try.ntmps30
  go_wp2_with fail
  refine (sadd_zero b 0 (by omega) b0 b1 _).mono ?_
  rintro e w1 ⟨p', q', rfl, hS, W1⟩
  have hT := hS.turn
  rw [Nat.mul_zero, Int.pow_zero, Int.mul_one, Int.mul_one] at hT
  clear hS
  have W2 := bchain W1 (bel1 w1 (.cells #[.int .u64 (dg (q') 0), .int .u64 (dg (q') 1), .int .u64 (dg (q') 2), .int .u64 (dg (q') 3), .int .u64 (dg (q') 4), .int .u64 (dg (q') 5), .int .u64 (dg (p') 0), .int .u64 (dg (p') 1), .int .u64 (dg (p') 2), .int .u64 (dg (p') 3), .int .u64 (dg (p') 4), .int .u64 (dg (p') 5)] 68))
  clear W1
  go_wp2_with fail
  refine (sadd_any q' p' _ _ a 0 (by omega) hT a0 a1 _).mono ?_
  rintro e w2 ⟨p2, q2, rfl, hS2, hb⟩
  have W3 := bchain W2 hb
  clear hb W2 hT
  rw [Nat.mul_zero, Int.pow_zero, Int.mul_one, Int.mul_one, show -b + a = a - b by omega] at hS2
  go_wp2_with fail
  refine (sround_of p2 q2 _ _ 0 (by omega) hS2 (by omega) _).mono ?_
  rintro e w3 ⟨rfl, hb⟩
  have W4 := bchain W3 hb
  clear hb W3 hS2
  go_wp2
  go_ret2
  exact ⟨rfl, W4⟩
end Go.Proofs.Ytfcneciknldohaa
/-
  The contract of regattaref02's Quo.
-/
set_option linter.unusedVariables false
set_option linter.unusedSimpArgs false
namespace Go.Proofs.Ytfcneciknldohaa
open Go.RowKit

end Go.Proofs.Ytfcneciknldohaa
/-
  The contract of regattaref02's Root.
-/
set_option linter.unusedVariables false
set_option linter.unusedSimpArgs false
namespace Go.Proofs.Ytfcneciknldohaa
open Go.RowKit

theorem root_digits (m : Int) (m0 : 0 ≤ m) (m1 : m < 6277101735386680763835789423207666416102355444464034512896) :
    (m < 85070591730234615865843651857942052864 → dg m 4 = 0 ∧ dg m 5 = 0 ∧ dg m 3 < 1073741824) ∧ (85070591730234615865843651857942052864 ≤ m → ¬ dg m 4 = 0 ∨ (dg m 4 = 0 ∧ ¬ dg m 5 = 0) ∨ (dg m 4 = 0 ∧ dg m 5 = 0 ∧ 1073741824 ≤ dg m 3)) := by
  have e3 : dg m 3 = m / 79228162514264337593543950336 % 4294967296 := rfl
  have e4 : dg m 4 = m / 340282366920938463463374607431768211456 % 4294967296 := rfl
  have e5 : dg m 5 = m / 1461501637330902918203684832716283019655932542976 % 4294967296 := rfl
  rw [e3, e4, e5]
  have x1 : m / 340282366920938463463374607431768211456 = m / 79228162514264337593543950336 / 4294967296 := by omega
  have x2 : m / 1461501637330902918203684832716283019655932542976 = m / 79228162514264337593543950336 / 4294967296 / 4294967296 := by omega
  rw [x1, x2]
  have y0 : 0 ≤ m / 79228162514264337593543950336 := by omega
  have y1 : m / 79228162514264337593543950336 < 79228162514264337593543950336 := by omega
  have y2 : m < 85070591730234615865843651857942052864 → m / 79228162514264337593543950336 < 1073741824 := by omega
  have y3 : 85070591730234615865843651857942052864 ≤ m → 1073741824 ≤ m / 79228162514264337593543950336 := by omega
  generalize m / 79228162514264337593543950336 = z at *
  constructor
  · intro h
    have := y2 h
    omega
  · intro h
    have := y3 h
    omega

end Go.Proofs.Ytfcneciknldohaa
/-
  The contracts of regattaref02's Zero, Ratio, Div, Sqrt.
-/
set_option linter.unusedVariables false
set_option linter.unusedSimpArgs false
namespace Go.Proofs.Ytfcneciknldohaa
open Go.RowKit


end Go.Proofs.Ytfcneciknldohaa
