/-
  Plain arithmetic of a long division of two words by one, half a word at a time.
-/
import Derived.Test.YtpmlpcejmndidabDoorMath4
set_option linter.unusedVariables false
namespace Go.Proofs.YtpmlpcejmndidabDoor

/-- The divisor V in two halves, what is divided so far, U, below it, and the next half word u. -/
structure KG (V Y1 Y0 U u : Int) : Prop where
  v0 : 9223372036854775808 ≤ V
  v1 : V ≤ 18446744073709551615
  vv : V = Y1 * 4294967296 + Y0
  y0 : 0 ≤ Y0
  y1 : Y0 ≤ 4294967295
  u0 : 0 ≤ U
  u1 : U < V
  t0 : 0 ≤ u
  t1 : u ≤ 4294967295
/-- What holds at the head of the loop. -/
structure KI (V Y1 Y0 U u q r : Int) : Prop where
  e : q * Y1 + r = U
  q0 : 0 ≤ q
  q1 : q ≤ 4294967297
  r0 : 0 ≤ r
  r1 : r ≤ 4294967295
  lo : (U * 4294967296 + u) / V ≤ q

theorem KG.half {V Y1 Y0 U u : Int} (g : KG V Y1 Y0 U u) : 2147483648 ≤ Y1 ∧ Y1 ≤ 4294967295 := by
  obtain ⟨v0, v1, vv, y0, y1, u0, u1, t0, t1⟩ := g
  omega
theorem KG.qlt {V Y1 Y0 U u : Int} (g : KG V Y1 Y0 U u) : 0 ≤ (U * 4294967296 + u) / V ∧ (U * 4294967296 + u) / V ≤ 4294967295 := by
  obtain ⟨v0, v1, vv, y0, y1, u0, u1, t0, t1⟩ := g
  refine ⟨Int.ediv_nonneg (by omega) (by omega), ?_⟩
  have : (U * 4294967296 + u) / V < 4294967296 := Int.ediv_lt_of_lt_mul (by omega) (by omega)
  omega
theorem KG.mulV {V Y1 Y0 U u : Int} (g : KG V Y1 Y0 U u) (q : Int) : q * V = q * Y1 * 4294967296 + q * Y0 := by
  rw [g.vv, Int.mul_add, ← Int.mul_assoc]
theorem KG.le_of {V Y1 Y0 U u : Int} (g : KG V Y1 Y0 U u) (q : Int) (h : q * V ≤ U * 4294967296 + u) : q ≤ (U * 4294967296 + u) / V := by
  have := g.v0
  exact (Int.le_ediv_iff_mul_le (by omega)).2 h
theorem KG.lt_of {V Y1 Y0 U u : Int} (g : KG V Y1 Y0 U u) (q : Int) (h : U * 4294967296 + u < q * V) : (U * 4294967296 + u) / V < q := by
  have := g.v0
  exact Int.ediv_lt_of_lt_mul (by omega) h

theorem KI.start {V Y1 Y0 U u : Int} (g : KG V Y1 Y0 U u) : KI V Y1 Y0 U u (U / Y1) (U - U / Y1 * Y1) := by
  obtain ⟨h0, h1⟩ := g.half
  have hm := Int.mul_ediv_add_emod U Y1
  have m0 := Int.emod_nonneg U (show Y1 ≠ 0 by omega)
  have m1 := Int.emod_lt_of_pos U (show 0 < Y1 by omega)
  have em : U - U / Y1 * Y1 = U % Y1 := by rw [Int.mul_comm] at hm; omega
  rw [em]
  obtain ⟨v0, v1, vv, y0, y1, u0, u1, t0, t1⟩ := id g
  refine ⟨by rw [Int.mul_comm]; exact hm, Int.ediv_nonneg u0 (by omega), ?_, m0, by omega, ?_⟩
  · have : U / Y1 < 4294967298 := Int.ediv_lt_of_lt_mul (by omega) (by omega)
    omega
  · -- the guess is not below the true one
    have hq := g.mulV (U / Y1 + 1)
    have : (U * 4294967296 + u) / V < U / Y1 + 1 := by
      apply g.lt_of
      rw [hq, Int.add_mul (U / Y1) 1 Y1, Int.one_mul, Int.add_mul (U / Y1) 1 Y0, Int.one_mul]
      have e1 : U / Y1 * Y1 = U - U % Y1 := by omega
      have e2 : 0 ≤ U / Y1 * Y0 := Int.mul_nonneg (Int.ediv_nonneg u0 (by omega)) y0
      rw [e1]
      omega
    omega
/-- The test says no: it is the true one. -/
theorem KI.stop {V Y1 Y0 U u q r : Int} (g : KG V Y1 Y0 U u) (k : KI V Y1 Y0 U u q r) (h : q * Y0 ≤ 4294967296 * r + u) : q = (U * 4294967296 + u) / V := by
  have h1 := g.le_of q (by rw [g.mulV]; have := k.e; omega)
  have := k.lo
  omega
/-- The test says yes: one less. -/
theorem KI.less {V Y1 Y0 U u q r : Int} (g : KG V Y1 Y0 U u) (k : KI V Y1 Y0 U u q r) (h : 4294967296 ≤ q ∨ 4294967296 * r + u < q * Y0) : (U * 4294967296 + u) / V ≤ q - 1 := by
  rcases h with h | h
  · have := g.qlt; omega
  · have := g.lt_of q (by rw [g.mulV]; have := k.e; omega)
    omega
theorem KI.next {V Y1 Y0 U u q r : Int} (g : KG V Y1 Y0 U u) (k : KI V Y1 Y0 U u q r) (h : 4294967296 ≤ q ∨ 4294967296 * r + u < q * Y0) (hr : r + Y1 ≤ 4294967295) : KI V Y1 Y0 U u (q - 1) (r + Y1) := by
  have hl := k.less g h
  have := g.qlt
  have := g.half
  obtain ⟨e, q0, q1, r0, r1, lo⟩ := k
  exact ⟨by rw [Int.sub_mul, Int.one_mul]; omega, by omega, by omega, by omega, by omega, hl⟩
theorem KI.break {V Y1 Y0 U u q r : Int} (g : KG V Y1 Y0 U u) (k : KI V Y1 Y0 U u q r) (h : 4294967296 ≤ q ∨ 4294967296 * r + u < q * Y0) (hr : 4294967296 ≤ r + Y1) : q - 1 = (U * 4294967296 + u) / V := by
  have hl := k.less g h
  have hq := g.qlt
  have h1 : q - 1 ≤ (U * 4294967296 + u) / V := by
    apply g.le_of
    rw [g.mulV]
    have e1 : (q - 1) * Y1 = U - (r + Y1) := by rw [Int.sub_mul, Int.one_mul]; have := k.e; omega
    have e2 : (q - 1) * Y0 ≤ 4294967296 * 4294967295 := Int.mul_le_mul (by have := k.q1; omega) g.y1 g.y0 (by omega)
    rw [e1]
    have := g.t0
    omega
  omega
/-- What is left over. -/
theorem KG.left {V Y1 Y0 U u q : Int} (g : KG V Y1 Y0 U u) (hq : q = (U * 4294967296 + u) / V) : U * 4294967296 + u - q * V = (U * 4294967296 + u) % V ∧ 0 ≤ (U * 4294967296 + u) % V ∧ (U * 4294967296 + u) % V < V := by
  have := g.v0
  have hm := Int.mul_ediv_add_emod (U * 4294967296 + u) V
  rw [← hq, Int.mul_comm] at hm
  exact ⟨by omega, Int.emod_nonneg _ (by omega), Int.emod_lt_of_pos _ (by omega)⟩
theorem wrap_left (A M R : Int) (h : A - M = R) (r0 : 0 ≤ R) (r1 : R ≤ 18446744073709551615) : (A % 18446744073709551616 - M % 18446744073709551616) % 18446744073709551616 = R := by omega

/-- The whole: two steps make the quotient and what is left. -/
theorem two_steps (N y p V U T T1 T0 : Int) (hp : 1 ≤ p) (hy : 1 ≤ y) (hV : V = y * p) (hN : N * p = U * 18446744073709551616 + T) (hT : T = T1 * 4294967296 + T0) :
    N / y = (U * 4294967296 + T1) / V * 4294967296 + ((U * 4294967296 + T1) % V * 4294967296 + T0) / V ∧ N % y * p = ((U * 4294967296 + T1) % V * 4294967296 + T0) % V := by
  have hV0 : 0 < V := by rw [hV]; exact Int.mul_pos (by omega) (by omega)
  have h1 := Int.mul_ediv_add_emod (U * 4294967296 + T1) V
  have e0 : N * p = (U * 4294967296 + T1) * 4294967296 + T0 := by omega
  have e1 : N * p = V * ((U * 4294967296 + T1) / V * 4294967296) + ((U * 4294967296 + T1) % V * 4294967296 + T0) := by
    rw [e0, ← Int.mul_assoc]
    generalize V * ((U * 4294967296 + T1) / V) = A at *
    generalize (U * 4294967296 + T1) % V = B at *
    omega
  have d1 : N * p / V = N / y := by rw [hV]; exact Int.mul_ediv_mul_of_pos_left _ _ (by omega)
  have d2 : N * p % V = N % y * p := by rw [hV, Int.mul_comm N p, Int.mul_comm y p, Int.mul_emod_mul_of_pos _ _ (by omega), Int.mul_comm]
  constructor
  · rw [← d1, e1, Int.add_comm, Int.add_mul_ediv_left _ _ (by omega), Int.add_comm]
  · rw [← d2, e1, Int.add_comm, Int.add_mul_emod_self_left]

/-- The dividend brought up with the divisor: its two words. -/
theorem up_words (h l p q : Int) (hB : p * q = 18446744073709551616) (hp : 1 ≤ p) (hq : 1 ≤ q) (h0 : 0 ≤ h) (l0 : 0 ≤ l) (l1 : l ≤ 18446744073709551615) (hh : h * p ≤ 18446744073709551615) :
    (h * 18446744073709551616 + l) * p = (h * p + l / q) * 18446744073709551616 + l * p % 18446744073709551616 ∧ 0 ≤ l / q ∧ l / q < p := by
  have e := mul_split l p q _ hB
  obtain ⟨t0, t1⟩ := mod_mul_lt l p q hp hq
  rw [Int.mul_comm q p, hB] at t1
  obtain ⟨d0, d1⟩ := div_lt l p q _ hB hp hq l0 (by omega)
  refine ⟨?_, d0, d1⟩
  have e2 : (h * 18446744073709551616 + l) * p = h * p * 18446744073709551616 + l * p := by rw [Int.add_mul, Int.mul_right_comm]
  rw [e2]
  generalize h * p = X at *
  generalize l * p = Y at *
  generalize (l % q) * p = t at *
  generalize l / q = s at *
  omega
theorem up_below (h l y p q : Int) (hB : p * q = 18446744073709551616) (hp : 1 ≤ p) (hq : 1 ≤ q) (hy : h < y) (h0 : 0 ≤ h) (l0 : 0 ≤ l) (l1 : l ≤ 18446744073709551615) : h * p + l / q < y * p ∧ h * p ≤ y * p - p := by
  obtain ⟨d0, d1⟩ := div_lt l p q _ hB hp hq l0 (by omega)
  have := Int.mul_le_mul_of_nonneg_right (show h + 1 ≤ y by omega) (show 0 ≤ p by omega)
  rw [Int.add_mul, Int.one_mul] at this
  omega

end Go.Proofs.YtpmlpcejmndidabDoor
