/-
  What is clipped is no longer than it may be, but for a step a part: the arithmetic.
-/
import Derived.Test.YtldnnjcfihjkdabDoorBI
import Derived.Test.YtldnnjcfihjkdabDoorMath6
set_option linter.unusedVariables false
set_option linter.unusedSimpArgs false
namespace Go.Proofs.YtldnnjcfihjkdabDoor

theorem ilg (a b : Int) : a < b ∨ b ≤ a := by omega
theorem isq (a : Int) : 0 ≤ a * a := by
  rcases ilg a 0 with h | h
  · have := Int.mul_nonneg (show 0 ≤ -a by omega) (show 0 ≤ -a by omega)
    rw [Int.neg_mul_neg] at this
    exact this
  · exact Int.mul_nonneg h h
theorem rnd_near (M : Int) : M - 2147483648 ≤ rnd M 32 * 4294967296 ∧ rnd M 32 * 4294967296 ≤ M + 2147483648 := by
  have h1 := Int.mul_ediv_add_emod M (2 ^ 32)
  have h3 := Int.emod_nonneg M (show (2 : Int) ^ 32 ≠ 0 by omega)
  have h4 := Int.emod_lt_of_pos M (show (0 : Int) < 2 ^ 32 by omega)
  unfold rnd
  rw [Int.mul_comm] at h1
  have g1 : ∀ l, ¬ gu (-1) l = true := by intro l; unfold gu; simp
  have g2 : ∀ l, gu 1 l = true := by intro l; unfold gu; simp
  rcases (show M % 2 ^ 32 < 2 ^ (32 - 1) ∨ M % 2 ^ 32 = 2 ^ (32 - 1) ∨ 2 ^ (32 - 1) < M % 2 ^ 32 by omega) with h | h | h
  · rw [c3_lt _ _ h, if_neg (g1 _)]
    omega
  · split
    · rw [Int.add_mul, Int.one_mul]; omega
    · omega
  · rw [c3_gt _ _ h, if_pos (g2 _), Int.add_mul, Int.one_mul]
    omega
/-- A part that is scaled by at most one: its sign, and that it does not grow. -/
theorem sh_part (K f : Int) (k0 : 0 ≤ K) (k1 : K ≤ 4294967296) : (0 ≤ f → 0 ≤ rnd (K * f) 32 ∧ rnd (K * f) 32 ≤ f) ∧ (f ≤ 0 → f ≤ rnd (K * f) 32 ∧ rnd (K * f) 32 ≤ 0) ∧ 2 * (4294967296 * ab (rnd (K * f) 32)) ≤ 2 * (K * ab f) + 4294967296 := by
  obtain ⟨h0, h1⟩ := rnd_near (K * f)
  rcases ilg f 0 with hf | hf
  · have a0 : 0 ≤ K * -f := Int.mul_nonneg k0 (by omega)
    have a1 : K * -f ≤ 4294967296 * -f := Int.mul_le_mul_of_nonneg_right k1 (by omega)
    have e : ab f = -f := ab_neg f hf
    rw [e]
    rw [Int.mul_neg] at a0 a1 ⊢
    generalize rnd (K * f) 32 = x at *
    generalize K * f = P at *
    refine ⟨fun h => by omega, fun _ => by omega, ?_⟩
    unfold ab
    split <;> omega
  · have a0 : 0 ≤ K * f := Int.mul_nonneg k0 hf
    have a1 : K * f ≤ 4294967296 * f := Int.mul_le_mul_of_nonneg_right k1 hf
    have e : ab f = f := ab_pos f hf
    rw [e]
    generalize rnd (K * f) 32 = x at *
    generalize K * f = P at *
    refine ⟨fun _ => by omega, fun h => by omega, ?_⟩
    unfold ab
    split <;> omega
/-- By what it is scaled. -/
theorem sh_by (most N : Int) (m0 : 0 < most) (mN : most < N) : 0 ≤ quo (most * 4294967296) N ∧ quo (most * 4294967296) N ≤ 4294967296 ∧ 2 * (quo (most * 4294967296) N * N) ≤ 2 * (most * 4294967296) + N := by
  obtain ⟨h, -⟩ := quo_near (most * 4294967296) N (by omega)
  rw [ab_pos N (by omega)] at h
  generalize quo (most * 4294967296) N = K at *
  have h1 : 2 * (K * N) ≤ 2 * (most * 4294967296) + N ∧ 2 * (most * 4294967296) - N ≤ 2 * (K * N) := by
    generalize K * N = P at *
    unfold ab at h
    split at h <;> omega
  refine ⟨?_, ?_, h1.1⟩
  · rcases ilg K 0 with hk | hk
    · have : K * N ≤ -1 * N := Int.mul_le_mul_of_nonneg_right (by omega) (by omega)
      omega
    · exact hk
  · rcases ilg 4294967296 K with hk | hk
    · have : 4294967297 * N ≤ K * N := Int.mul_le_mul_of_nonneg_right (by omega) (by omega)
      omega
    · exact hk
theorem sh_one (N most K a y h : Int) (hN : 1 ≤ N) (m0 : 0 < most) (a0 : 0 ≤ a) (hy : 2 * (4294967296 * y) ≤ 2 * (K * a) + 4294967296) (hK : 2 * (K * N) ≤ 2 * (most * 4294967296) + N) (h0 : 0 ≤ h) (ha : a ≤ 4294967296 * h + 4294967296) : N * y ≤ most * a + N * (h + 1) := by
  have e1 : N * (2 * (4294967296 * y)) ≤ N * (2 * (K * a) + 4294967296) := Int.mul_le_mul_of_nonneg_left hy (by omega)
  have e2 : 2 * (K * N) * a ≤ (2 * (most * 4294967296) + N) * a := Int.mul_le_mul_of_nonneg_right hK a0
  have e3 : N * a ≤ N * (4294967296 * h + 4294967296) := Int.mul_le_mul_of_nonneg_left ha (by omega)
  have e4 : 0 ≤ N * h := Int.mul_nonneg (by omega) h0
  have r1 : N * (2 * (4294967296 * y)) = 8589934592 * (N * y) := by grind
  have r2 : N * (2 * (K * a) + 4294967296) = 2 * (K * N) * a + 4294967296 * N := by grind
  have r3 : (2 * (most * 4294967296) + N) * a = 8589934592 * (most * a) + N * a := by grind
  have r4 : N * (4294967296 * h + 4294967296) = 4294967296 * (N * h) + 4294967296 * N := by grind
  have r5 : N * (h + 1) = N * h + N := by grind
  rw [r1, r2] at e1
  rw [r3] at e2
  rw [r4] at e3
  rw [r5]
  generalize N * y = A at *
  generalize most * a = B at *
  generalize N * h = C at *
  generalize 2 * (K * N) * a = D at *
  omega
/-- What the slack holds, a part each. -/
def slV (f : Nat → Int) : Nat → Int
  | 0 => 0
  | n + 1 => slV f n + ab (f n) / 4294967296
theorem sl_ge (f : Nat → Int) (n : Nat) : 0 ≤ slV f n := by
  induction n with
  | zero => exact Int.le_refl _
  | succ n ih => show 0 ≤ slV f n + ab (f n) / 4294967296; have := ab_ge (f n); omega
theorem dot_ge (f : Nat → Int) (n : Nat) : 0 ≤ dotV f f n := by
  induction n with
  | zero => exact Int.le_refl _
  | succ n ih => show 0 ≤ dotV f f n + f n * f n; have := isq (f n); omega
theorem dot_part (f : Nat → Int) (n k : Nat) (hk : k < n) : f k * f k ≤ dotV f f n := by
  induction n with
  | zero => omega
  | succ n ih =>
    show f k * f k ≤ dotV f f n + f n * f n
    rcases Nat.lt_or_ge k n with h | h
    · have := ih h; have := isq (f n); omega
    · obtain rfl : k = n := by omega
      have := dot_ge f k
      omega
theorem ab_sq (v : Int) : ab v * ab v = v * v := by unfold ab; split <;> grind
theorem ab_le_of_sq (v N S : Int) (N0 : 0 ≤ N) (h : v * v ≤ S) (hS : S < (N + 1) * (N + 1)) : ab v ≤ N := by
  rcases ilg N (ab v) with h1 | h1
  · exfalso
    have h2 : (N + 1) * (N + 1) ≤ ab v * ab v := Int.mul_le_mul (by omega) (by omega) (by omega) (ab_ge v)
    rw [ab_sq] at h2
    omega
  · exact h1
/-- Squares, part by part. -/
theorem sh_sum (N most : Int) (f x : Nat → Int) (n : Nat) (hN : 1 ≤ N) (m0 : 0 < most) (ha : ∀ k, k < n → ab (f k) ≤ N) (hx : ∀ k, k < n → N * ab (x k) ≤ most * ab (f k) + N * (ab (f k) / 4294967296 + 1)) :
    N * N * dotV x x n ≤ most * most * dotV f f n + 2 * (most * (N * N)) * (slV f n + n) + N * N * ((slV f n + n) * (slV f n + n)) := by
  induction n with
  | zero => simp [dotV, slV]
  | succ n ih =>
    have ih := ih (fun k hk => ha k (by omega)) (fun k hk => hx k (by omega))
    have h1 := hx n (by omega)
    have h2 := ha n (by omega)
    have hs := sl_ge f n
    have ey : x n * x n = ab (x n) * ab (x n) := (ab_sq _).symm
    have ef : f n * f n = ab (f n) * ab (f n) := (ab_sq _).symm
    have hy0 := ab_ge (x n)
    have ha0 := ab_ge (f n)
    have hd0 : 0 ≤ ab (f n) / 4294967296 + 1 := by omega
    show N * N * (dotV x x n + x n * x n) ≤ most * most * (dotV f f n + f n * f n) + 2 * (most * (N * N)) * (slV f n + ab (f n) / 4294967296 + ((n + 1 : Nat) : Int)) + N * N * ((slV f n + ab (f n) / 4294967296 + ((n + 1 : Nat) : Int)) * (slV f n + ab (f n) / 4294967296 + ((n + 1 : Nat) : Int)))
    rw [ey, ef, show slV f n + ab (f n) / 4294967296 + ((n + 1 : Nat) : Int) = (slV f n + n) + (ab (f n) / 4294967296 + 1) by omega]
    have hD : 0 ≤ slV f n + (n : Int) := by omega
    generalize slV f n + (n : Int) = D at *
    generalize ab (f n) / 4294967296 + 1 = d at *
    generalize ab (x n) = y at *
    generalize ab (f n) = a at *
    generalize dotV x x n = X at *
    generalize dotV f f n = S at *
    have q1 : N * y * (N * y) ≤ (most * a + N * d) * (most * a + N * d) := Int.mul_le_mul h1 h1 (Int.mul_nonneg (by omega) hy0) (Int.add_nonneg (Int.mul_nonneg (by omega) ha0) (Int.mul_nonneg (by omega) hd0))
    have q2 : (most * N * d) * a ≤ (most * N * d) * N := Int.mul_le_mul_of_nonneg_left h2 (Int.mul_nonneg (Int.mul_nonneg (by omega) (by omega)) hd0)
    have q3 : 0 ≤ N * N * (D * d) := Int.mul_nonneg (Int.mul_nonneg (by omega) (by omega)) (Int.mul_nonneg hD hd0)
    have r1 : N * N * (X + y * y) = N * N * X + N * y * (N * y) := by grind
    have r2 : (most * a + N * d) * (most * a + N * d) = most * most * (a * a) + 2 * ((most * N * d) * a) + N * N * (d * d) := by grind
    have r3 : most * most * (S + a * a) = most * most * S + most * most * (a * a) := by grind
    have r4 : 2 * (most * (N * N)) * (D + d) = 2 * (most * (N * N)) * D + 2 * ((most * N * d) * N) := by grind
    have r5 : N * N * ((D + d) * (D + d)) = N * N * (D * D) + 2 * (N * N * (D * d)) + N * N * (d * d) := by grind
    rw [r1, r3, r4, r5]
    rw [r2] at q1
    generalize N * y * (N * y) = z1 at *
    generalize most * most * (a * a) = z2 at *
    generalize (most * N * d) * a = z3 at *
    generalize (most * N * d) * N = z4 at *
    generalize N * N * (d * d) = z5 at *
    generalize N * N * (D * d) = z6 at *
    omega
theorem sh_end (N most D X S : Int) (hN : 1 ≤ N) (m0 : 0 < most) (mN : most < N) (hD : 0 ≤ D) (hS : S < (N + 1) * (N + 1)) (h : N * N * X ≤ most * most * S + 2 * (most * (N * N)) * D + N * N * (D * D)) : X < (most + D + 2) * (most + D + 2) := by
  rcases ilg X ((most + D + 2) * (most + D + 2)) with h1 | h1
  · exact h1
  · exfalso
    have NN : 0 < N * N := Int.mul_pos (by omega) (by omega)
    have a1 : N * N * ((most + D + 2) * (most + D + 2)) ≤ N * N * X := Int.mul_le_mul_of_nonneg_left h1 (by omega)
    have e1 : (N + 1) * (N + 1) = N * N + 2 * N + 1 := by grind
    have a2 : most * most * S ≤ most * most * (N * N + 2 * N) := Int.mul_le_mul_of_nonneg_left (by omega) (isq _)
    have a3 : most * N * most ≤ most * N * N := Int.mul_le_mul_of_nonneg_left (by omega) (Int.mul_nonneg (by omega) (by omega))
    have r1 : N * N * ((most + D + 2) * (most + D + 2)) = N * N * (most * most) + N * N * (D * D) + 2 * (most * (N * N)) * D + 4 * (most * N * N) + 4 * (N * N * D) + 4 * (N * N) := by grind
    have r2 : most * most * (N * N + 2 * N) = N * N * (most * most) + 2 * (most * N * most) := by grind
    have a4 : 0 ≤ N * N * D := Int.mul_nonneg (by omega) hD
    have a5 : 0 ≤ most * N * N := Int.mul_nonneg (Int.mul_nonneg (by omega) (by omega)) (by omega)
    rw [r1] at a1
    rw [r2] at a2
    generalize N * N * X = z1 at *
    generalize most * most * S = z2 at *
    generalize N * N * (most * most) = z3 at *
    generalize N * N * (D * D) = z4 at *
    generalize 2 * (most * (N * N)) * D = z5 at *
    generalize most * N * N = z6 at *
    generalize most * N * most = z7 at *
    generalize N * N * D = z8 at *
    generalize N * N = z9 at *
    omega
theorem rt_lt (v Q : Int) (v0 : 0 ≤ v) (v1 : v < 85070591730234615865843651857942052864) (Q0 : 0 ≤ Q) (h : v < (Q + 1) * (Q + 1)) : rt v ≤ Q := by
  obtain ⟨a, b, c, d⟩ := rt_spec v v0 v1
  rcases ilg Q (rt v) with h1 | h1
  · exfalso
    have : (Q + 1) * (Q + 1) ≤ rt v * rt v := Int.mul_le_mul (by omega) (by omega) (by omega) a
    omega
  · exact h1
theorem dot_le (f x : Nat → Int) (n : Nat) (h : ∀ k, k < n → ab (x k) ≤ ab (f k)) : dotV x x n ≤ dotV f f n := by
  induction n with
  | zero => exact Int.le_refl _
  | succ n ih =>
    show dotV x x n + x n * x n ≤ dotV f f n + f n * f n
    have h1 := ih (fun k hk => h k (by omega))
    have h2 : ab (x n) * ab (x n) ≤ ab (f n) * ab (f n) := Int.mul_le_mul (h n (by omega)) (h n (by omega)) (ab_ge _) (ab_ge _)
    rw [ab_sq, ab_sq] at h2
    omega
/-- The whole: a vector that was clipped, nothing of it held, is no longer than it may be, but for the slack. -/
theorem sh_all (most : Int) (f x : Nat → Int) (n : Nat) (m0 : 0 < most) (hS : dotV f f n < 85070591730234615865843651857942052864) (mN : most < rt (dotV f f n)) (hx : ∀ k, k < n → x k = rnd (quo (most * 4294967296) (rt (dotV f f n)) * f k) 32) :
    rtX (dotV x x n) ≤ most + slV f n + n + 1 := by
  have hS0 := dot_ge f n
  obtain ⟨r0, r1, r2, r3⟩ := rt_spec _ hS0 hS
  generalize rt (dotV f f n) = N at *
  obtain ⟨k0, k1, k2⟩ := sh_by most N m0 mN
  generalize quo (most * 4294967296) N = K at *
  have hab : ∀ k, k < n → ab (x k) ≤ ab (f k) := fun k hk => by
    rw [hx k hk]
    obtain ⟨p, q, -⟩ := sh_part K (f k) k0 k1
    rcases ilg (f k) 0 with h | h
    · have := q (by omega)
      unfold ab
      repeat' split
      all_goals omega
    · have := p h
      unfold ab
      repeat' split
      all_goals omega
  have hX0 := dot_ge x n
  have hX1 := dot_le f x n hab
  have hsum := sh_sum N most f x n (by omega) m0 (fun k hk => ab_le_of_sq _ N _ (by omega) (dot_part f n k hk) r3) (fun k hk => by
    rw [hx k hk]
    refine sh_one N most K (ab (f k)) _ (ab (f k) / 4294967296) (by omega) m0 (ab_ge _) (sh_part K (f k) k0 k1).2.2 k2 ?_ ?_
    · have := ab_ge (f k); omega
    · omega)
  have hlt := sh_end N most (slV f n + n) _ _ (by omega) m0 mN (by have := sl_ge f n; omega) r3 hsum
  have hrt := rt_lt (dotV x x n) (most + slV f n + n + 1) hX0 (by omega) (by have := sl_ge f n; omega) (by rw [show most + slV f n + n + 1 + 1 = most + (slV f n + n) + 2 by omega]; exact hlt)
  unfold rtX
  rw [if_neg (by omega), if_neg (by omega)]
  exact hrt
end Go.Proofs.YtldnnjcfihjkdabDoor
