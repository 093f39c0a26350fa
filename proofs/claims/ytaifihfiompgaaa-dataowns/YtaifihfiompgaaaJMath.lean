/-
  Shares of examples, and batches: plain numbers.
-/
import Derived.Test.YtaifihfiompgaaaEMathB
set_option linter.unusedVariables false
set_option linter.unusedSimpArgs false
namespace Go.Proofs.Ytaifihfiompgaaa

/-- Where the share of the x-th of W workers begins, of n examples. -/
def dlo (W n x : Nat) : Nat := x * n / W
theorem dlo_zero (W n : Nat) : dlo W n 0 = 0 := by unfold dlo; rw [Nat.zero_mul, Nat.zero_div]
theorem dlo_all (W n : Nat) (h : 0 < W) : dlo W n W = n := by unfold dlo; rw [Nat.mul_comm]; exact Nat.mul_div_cancel n h
theorem dlo_step (W n x : Nat) (h : 0 < W) : dlo W n x + n / W ≤ dlo W n (x + 1) ∧ dlo W n (x + 1) ≤ dlo W n x + n / W + 1 := by
  unfold dlo
  rw [Nat.succ_mul]
  have a1 := Nat.div_add_mod (x * n) W
  have a2 := Nat.div_add_mod n W
  have b1 := Nat.mod_lt (x * n) h
  have b2 := Nat.mod_lt n h
  constructor
  · rw [Nat.le_div_iff_mul_le h, Nat.add_mul, Nat.mul_comm (x * n / W) W, Nat.mul_comm (n / W) W]
    omega
  · rw [← Nat.lt_succ_iff, Nat.div_lt_iff_lt_mul h]
    have e : (x * n / W + n / W + 1).succ * W = W * (x * n / W) + W * (n / W) + 2 * W := by rw [Nat.succ_mul, Nat.succ_mul, Nat.add_mul, Nat.mul_comm (x * n / W) W, Nat.mul_comm (n / W) W]; omega
    omega
theorem dlo_mono (W n : Nat) {x y : Nat} (h : x ≤ y) : dlo W n x ≤ dlo W n y := Nat.div_le_div_right (Nat.mul_le_mul_right n h)
theorem dlo_le (W n x : Nat) (h : 0 < W) (hx : x ≤ W) : dlo W n x ≤ n := by
  have := dlo_mono W n hx
  rw [dlo_all W n h] at this
  exact this
theorem dlo_lt (W n x : Nat) (h : 0 < W) (hn : W ≤ n) : dlo W n x < dlo W n (x + 1) := by
  have h1 := (dlo_step W n x h).1
  have h2 : 1 ≤ n / W := (Nat.le_div_iff_mul_le h).2 (by omega)
  omega
/-- Whose a place is. -/
theorem dlo_own (W n p : Nat) (h : 0 < W) (hp : p < n) : ∃ x, x < W ∧ dlo W n x ≤ p ∧ p < dlo W n (x + 1) := by
  have key : ∀ m, m ≤ W → p < dlo W n m → ∃ x, x < m ∧ dlo W n x ≤ p ∧ p < dlo W n (x + 1) := fun m => by
    induction m with
    | zero => intro _ hlt; rw [dlo_zero] at hlt; omega
    | succ m ih =>
      intro hm hlt
      rcases Nat.lt_or_ge p (dlo W n m) with h1 | h1
      · obtain ⟨x, a, b, c⟩ := ih (by omega) h1
        exact ⟨x, by omega, b, c⟩
      · exact ⟨m, by omega, h1, hlt⟩
  exact key W (Nat.le_refl _) (by rw [dlo_all W n h]; exact hp)
theorem dlo_one (W n p : Nat) {x y : Nat} (h1 : dlo W n x ≤ p) (h2 : p < dlo W n (x + 1)) (h3 : dlo W n y ≤ p) (h4 : p < dlo W n (y + 1)) : x = y := by
  rcases Nat.lt_trichotomy x y with h | h | h
  · have := dlo_mono W n (show x + 1 ≤ y from h); omega
  · exact h
  · have := dlo_mono W n (show y + 1 ≤ x from h); omega
/-- Each number goes somewhere, and each place is some number's. -/
theorem half_ex (n : Nat) (h : 1 ≤ n) : ∃ k, Hf n k := by
  have key : ∀ m : Nat, n ≤ 2 ^ (m + 1) * 2 ^ (m + 1) → ∃ k, Hf n k := fun m => by
    induction m with
    | zero => intro hm; exact ⟨1, by omega, hm, Or.inl rfl⟩
    | succ m ih =>
      intro hm
      rcases Nat.lt_or_ge (2 ^ (m + 1) * 2 ^ (m + 1)) n with h1 | h1
      · exact ⟨m + 2, by omega, hm, Or.inr h1⟩
      · exact ih h1
  refine key n ?_
  have h1 : n < 2 ^ n := Nat.lt_two_pow_self
  have h2 : 2 ^ n ≤ 2 ^ (n + 1) := Nat.pow_le_pow_right (by omega) (by omega)
  have h3 : 1 ≤ 2 ^ (n + 1) := Nat.two_pow_pos _
  have := Nat.mul_le_mul (show n ≤ 2 ^ (n + 1) by omega) h3
  omega
theorem goes_ex (s : Nat) (a b c : Int) (n i : Nat) (hi : i < n) : ∃ x, Goes s a b c n i x := by
  obtain ⟨k, hk⟩ := half_ex n (by omega)
  have hf : ∀ t r, rfN s a b c (2 ^ k) t r < 2 ^ k := fun t r => rfN_lt _ _ _ _ _ _ _ (Nat.two_pow_pos k)
  obtain ⟨m, m1, -, m3, m4⟩ := gets_all (trp (rfN s a b c (2 ^ k)) (2 ^ k)) (prt (rfN s a b c (2 ^ k)) (2 ^ k)) n (2 ^ k * 2 ^ k) i (fun x hx => trp_lt _ k hf x hx) (fun x hx => prt_trp _ k hf x hx) hk.2.1 hi
  exact ⟨_, k, hk, m, m1, rfl, m3, m4⟩
theorem comes_ex (s : Nat) (a b c : Int) (n j : Nat) (hj : j < n) : ∃ i, Comes s a b c n j i := by
  obtain ⟨k, hk⟩ := half_ex n (by omega)
  have hf : ∀ t r, rfN s a b c (2 ^ k) t r < 2 ^ k := fun t r => rfN_lt _ _ _ _ _ _ _ (Nat.two_pow_pos k)
  obtain ⟨m, m1, -, m3, m4⟩ := gets_all (prt (rfN s a b c (2 ^ k)) (2 ^ k)) (trp (rfN s a b c (2 ^ k)) (2 ^ k)) n (2 ^ k * 2 ^ k) j (fun x hx => prt_lt _ k hf x hx) (fun x hx => trp_prt _ k hf x hx) hk.2.1 hj
  exact ⟨_, k, hk, m, m1, rfl, m3, m4⟩
/-- Where each goes, and what comes to each place, as functions (of those below n). -/
theorem perm_fun (s : Nat) (a b c : Int) (n : Nat) : ∃ G C : Nat → Nat, (∀ i, i < n → Goes s a b c n i (G i)) ∧ (∀ j, j < n → Comes s a b c n j (C j)) := by
  classical
  refine ⟨fun i => if h : i < n then Classical.choose (goes_ex s a b c n i h) else 0, fun j => if h : j < n then Classical.choose (comes_ex s a b c n j h) else 0, fun i hi => ?_, fun j hj => ?_⟩
  · simp only [dif_pos hi]
    exact Classical.choose_spec (goes_ex s a b c n i hi)
  · simp only [dif_pos hj]
    exact Classical.choose_spec (comes_ex s a b c n j hj)
/-- A key's third number of a batch, and its pass and place. -/
def psN (m q : Nat) : Nat := q / m
end Go.Proofs.Ytaifihfiompgaaa
