/-
  Plain numbers of layer 10: one parameter's way in an outer step.
-/
import Derived.Test.YtfcneciknldohaaQMath
import Derived.Test.YtfcneciknldohaaBI
set_option linter.unusedVariables false
namespace Go.Proofs.Ytfcneciknldohaa

theorem clv_nought10 : clv 0 = 0 := (clv_in 0 (by omega) (by omega)).1
/-- The momentum, the step and the parameter, each exact, then rounded. -/
def obV (m B g : Int) : Int := rnd (m * B + g * 4294967296) 32
def oB (m B g : Int) : Int := clv (obV m B g)
def odV (m B g : Int) : Int := rnd (m * oB m B g + g * 4294967296) 32
def oD (m B g : Int) : Int := clv (odV m B g)
def opV (r m B P g : Int) : Int := rnd (P * 4294967296 - r * oD m B g) 32
def oP (r m B P g : Int) : Int := clv (opV r m B P g)
/-- How many results are held. -/
def oC (r m B P g : Int) : Int := bi (ovv (obV m B g)) + bi (ovv (odV m B g)) + bi (ovv (opV r m B P g))
theorem oC_rng (r m B P g : Int) : 0 ≤ oC r m B P g ∧ oC r m B P g ≤ 3 := by
  have h1 := bi_rng (ovv (obV m B g))
  have h2 := bi_rng (ovv (odV m B g))
  have h3 := bi_rng (ovv (opV r m B P g))
  unfold oC
  omega
/-- Of the first parameters together. -/
def oS (r m : Int) (B P g : Nat → Int) : Nat → Int
  | 0 => 0
  | n + 1 => oS r m B P g n + oC r m (B n) (P n) (g n)
theorem oS_rng (r m : Int) (B P g : Nat → Int) (n : Nat) : 0 ≤ oS r m B P g n ∧ oS r m B P g n ≤ 3 * (n : Int) := by
  induction n with
  | zero => exact ⟨by show (0 : Int) ≤ 0; omega, by show (0 : Int) ≤ 3 * ((0 : Nat) : Int); omega⟩
  | succ n ih =>
    have h := oC_rng r m (B n) (P n) (g n)
    show 0 ≤ oS r m B P g n + oC r m (B n) (P n) (g n) ∧ oS r m B P g n + oC r m (B n) (P n) (g n) ≤ 3 * ((n + 1 : Nat) : Int)
    omega
/-- Without a moment the momentum and the step are the delta. -/
theorem oB_plain (B g : Int) (g0 : -9223372036854775808 ≤ g) (g1 : g ≤ 9223372036854775807) : oB 0 B g = g := by
  unfold oB obV
  rw [Int.zero_mul, Int.zero_add, rnd_up8, (clv_in _ g0 g1).1]
theorem oD_plain (B g : Int) (g0 : -9223372036854775808 ≤ g) (g1 : g ≤ 9223372036854775807) : oD 0 B g = g := by
  unfold oD odV
  rw [Int.zero_mul, Int.zero_add, rnd_up8, (clv_in _ g0 g1).1]
theorem oP_one (B P g : Int) (g0 : -9223372036854775808 ≤ g) (g1 : g ≤ 9223372036854775807) : oP 4294967296 0 B P g = clv (P - g) := by
  unfold oP opV
  rw [oD_plain B g g0 g1, show P * 4294967296 - 4294967296 * g = (P - g) * 4294967296 by rw [Int.sub_mul, Int.mul_comm 4294967296 g], rnd_up8]
/-- What a worker came to: where its delta was not held. -/
theorem oP_back (B s e : Int) (e0 : -9223372036854775808 ≤ e) (e1 : e ≤ 9223372036854775807) (h : ovv (s - e) = false) : oP 4294967296 0 B s (clv (s - e)) = e := by
  have hr : -9223372036854775808 ≤ s - e ∧ s - e ≤ 9223372036854775807 := by
    unfold ovv at h
    simp at h
    omega
  have hc := (clv_in _ hr.1 hr.2).1
  rw [hc, oP_one B s (s - e) hr.1 hr.2, show s - (s - e) = e by omega, (clv_in _ e0 e1).1]
/-- A delta of nought, without momentum, moves nothing. -/
theorem oB_nought (m : Int) : oB m 0 0 = 0 := by
  unfold oB obV
  rw [Int.mul_zero, Int.zero_mul, Int.zero_add, show rnd 0 32 = 0 from rfl, clv_nought10]
theorem oD_nought (m : Int) : oD m 0 0 = 0 := by
  unfold oD odV
  rw [oB_nought, Int.mul_zero, Int.zero_mul, Int.zero_add, show rnd 0 32 = 0 from rfl, clv_nought10]
theorem oP_nought (r m P : Int) (p0 : -9223372036854775808 ≤ P) (p1 : P ≤ 9223372036854775807) : oP r m 0 P 0 = P := by
  unfold oP opV
  rw [oD_nought, Int.mul_zero, Int.sub_zero, rnd_up8, (clv_in _ p0 p1).1]
/-- With a rate of nought the parameters stay. -/
theorem oP_rest (m B P g : Int) (p0 : -9223372036854775808 ≤ P) (p1 : P ≤ 9223372036854775807) : oP 0 m B P g = P := by
  unfold oP opV
  rw [Int.zero_mul, Int.sub_zero, rnd_up8, (clv_in _ p0 p1).1]
/-- The chapter's example. -/
theorem out_vals : oB 2147483648 0 17179869184 = 17179869184 ∧ oP 4294967296 2147483648 0 42949672960 17179869184 = 17179869184 ∧ oB 2147483648 17179869184 17179869184 = 25769803776 ∧ oP 4294967296 2147483648 17179869184 17179869184 17179869184 = -12884901888 := by decide +kernel
/-- Row by row they are as many as part by part. -/
theorem oS_rows (r m : Int) (B P g : Nat → Int) (n : Nat) : cntV (fun i => ovv (obV m (B i) (g i))) n + cntV (fun i => ovv (odV m (B i) (g i))) n + cntV (fun i => ovv (opV r m (B i) (P i) (g i))) n = oS r m B P g n := by
  induction n with
  | zero => rfl
  | succ n ih =>
    show (cntV (fun i => ovv (obV m (B i) (g i))) n + bi (ovv (obV m (B n) (g n)))) + (cntV (fun i => ovv (odV m (B i) (g i))) n + bi (ovv (odV m (B n) (g n)))) + (cntV (fun i => ovv (opV r m (B i) (P i) (g i))) n + bi (ovv (opV r m (B n) (P n) (g n)))) = oS r m B P g n + (bi (ovv (obV m (B n) (g n))) + bi (ovv (odV m (B n) (g n))) + bi (ovv (opV r m (B n) (P n) (g n))))
    omega
theorem opV_row (r x y : Int) : -r * x + y * 4294967296 = y * 4294967296 - r * x := by rw [Int.neg_mul]; omega
/-- A rate and a moment that a step may be made with. -/
def ruO (r m : Int) : Prop := 0 ≤ r ∧ 0 ≤ m ∧ m < 4294967296
def lnO (a b c : Nat) : Prop := a ≤ 65536 ∧ b ≤ 65536 ∧ c ≤ 65536
def smO (a b c : Nat) : Prop := a = c ∧ b = c
/-- The first error of a step. -/
def ocE (r m : Int) (a b c : Nat) (E : Int) : Prop := (¬ ruO r m → E = 80) ∧ (ruO r m → ¬ lnO a b c → E = 3) ∧ (ruO r m → lnO a b c → ¬ smO a b c → E = 40) ∧ (ruO r m → lnO a b c → smO a b c → E = 0)
theorem ocE_ex (r m : Int) (a b c : Nat) : ∃ E, ocE r m a b c E := by
  by_cases h1 : ruO r m
  · by_cases h2 : lnO a b c
    · by_cases h3 : smO a b c
      · exact ⟨0, fun h => absurd h1 h, fun _ h => absurd h2 h, fun _ _ h => absurd h3 h, fun _ _ _ => rfl⟩
      · exact ⟨40, fun h => absurd h1 h, fun _ h => absurd h2 h, fun _ _ _ => rfl, fun _ _ h => absurd h h3⟩
    · exact ⟨3, fun h => absurd h1 h, fun _ _ => rfl, fun _ h => absurd h h2, fun _ h => absurd h h2⟩
  · exact ⟨80, fun _ => rfl, fun h => absurd h h1, fun h => absurd h h1, fun h => absurd h h1⟩
end Go.Proofs.Ytfcneciknldohaa
