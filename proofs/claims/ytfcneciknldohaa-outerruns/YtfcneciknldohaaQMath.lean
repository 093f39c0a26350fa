/-
  Plain arithmetic of layer 8: rates, powers and paces.
-/
import Derived.Test.YtfcneciknldohaaMath6
set_option linter.unusedVariables false
namespace Go.Proofs.Ytfcneciknldohaa

theorem gu_up8 (m n q : Int) (h : m ≤ n) (hm : gu (c3 m 2147483648) (lo q) = true) : gu (c3 n 2147483648) (lo q) = true := by
  rcases (show n < 2147483648 ∨ n = 2147483648 ∨ 2147483648 < n by omega) with c | c | c
  · rw [c3_lt m _ (by omega)] at hm
    unfold gu at hm
    simp at hm
  · rcases (show m < 2147483648 ∨ m = 2147483648 by omega) with d | d
    · rw [c3_lt m _ d] at hm
      unfold gu at hm
      simp at hm
    · rw [c, ← d]; rw [d] at hm ⊢; exact hm
  · rw [c3_gt _ _ c]
    unfold gu
    simp
theorem rnd_rise8 (u v : Int) (h : u ≤ v) : rnd u 32 ≤ rnd v 32 := by
  have e1 : (2 : Int) ^ 32 = 4294967296 := rfl
  have e2 : (2 : Int) ^ (32 - 1) = 2147483648 := rfl
  unfold rnd
  rw [e1, e2]
  rcases (show u / 4294967296 = v / 4294967296 ∨ u / 4294967296 + 1 ≤ v / 4294967296 by omega) with c | c
  · have hm : u % 4294967296 ≤ v % 4294967296 := by omega
    rw [c]
    by_cases g : gu (c3 (u % 4294967296) 2147483648) (lo (v / 4294967296)) = true
    · rw [if_pos g, if_pos (gu_up8 _ _ _ hm g)]
      omega
    · rw [if_neg g]
      split <;> omega
  · split <;> split <;> omega
theorem rnd_up8 (a : Int) : rnd (a * 4294967296) 32 = a := by
  have e1 : (2 : Int) ^ 32 = 4294967296 := rfl
  have e2 : (2 : Int) ^ (32 - 1) = 2147483648 := rfl
  unfold rnd
  rw [e1, e2, Int.mul_emod_left, Int.mul_ediv_cancel _ (by omega), c3_lt _ _ (by omega)]
  have : gu (-1) (lo a) = false := by unfold gu; simp
  rw [this]
  rfl
/-- A product of layer 2. -/
def fmV (a b : Int) : Int := clv (rnd (a * b) 32)
/-- With a factor from 0 to one nothing rises, and nothing falls below 0. -/
theorem fmV_in (x f : Int) (x0 : 0 ≤ x) (x1 : x ≤ 9223372036854775807) (f0 : 0 ≤ f) (f1 : f ≤ 4294967296) : 0 ≤ fmV x f ∧ fmV x f ≤ x := by
  have h1 : 0 ≤ rnd (x * f) 32 := by
    have h := rnd_rise8 0 (x * f) (Int.mul_nonneg x0 f0)
    have h0 := rnd_up8 0
    rw [Int.zero_mul] at h0
    omega
  have h2 : rnd (x * f) 32 ≤ x := by
    have h := rnd_rise8 (x * f) (x * 4294967296) (Int.mul_le_mul_of_nonneg_left f1 x0)
    rw [rnd_up8] at h
    exact h
  unfold fmV
  rw [(clv_in _ (by omega) (by omega)).1]
  exact ⟨h1, h2⟩
/-- The powers. -/
def pwN (b : Int) : Nat → Int
  | 0 => 4294967296
  | t + 1 => fmV (pwN b t) b
theorem pwN_in (b : Int) (b0 : 0 ≤ b) (b1 : b < 4294967296) (t : Nat) : 0 ≤ pwN b t ∧ pwN b t ≤ 4294967296 := by
  induction t with
  | zero => exact ⟨by show (0 : Int) ≤ 4294967296; omega, by show (4294967296 : Int) ≤ 4294967296; omega⟩
  | succ t ih =>
    have h := fmV_in (pwN b t) b ih.1 (by omega) b0 (by omega)
    show 0 ≤ fmV (pwN b t) b ∧ fmV (pwN b t) b ≤ 4294967296
    omega
theorem pwN_fall (b : Int) (b0 : 0 ≤ b) (b1 : b < 4294967296) (t : Nat) : pwN b (t + 1) ≤ pwN b t := by
  have h := pwN_in b b0 b1 t
  exact (fmV_in (pwN b t) b h.1 (by omega) b0 (by omega)).2
/-- A power that is like the one ahead is like all behind it. -/
theorem pwN_stay (b : Int) (k : Nat) (h : fmV (pwN b k) b = pwN b k) (j : Nat) : pwN b (k + j) = pwN b k := by
  induction j with
  | zero => rfl
  | succ j ih =>
    show fmV (pwN b (k + j)) b = pwN b k
    rw [ih, h]
theorem pwN_stay' (b : Int) (k t : Nat) (hk : k ≤ t) (h : fmV (pwN b k) b = pwN b k) : pwN b k = pwN b t := by
  have := pwN_stay b k h (t - k)
  rw [show k + (t - k) = t by omega] at this
  exact this.symm
/-- Quotients never fall. -/
theorem quo_rise (u v d : Int) (hd : 1 ≤ d) (h : u ≤ v) : quo u d ≤ quo v d := by
  rcases (show u = v ∨ u < v by omega) with e | e
  · rw [e]; omega
  · have n1 := (quo_near u d (by omega)).1
    have n2 := (quo_near v d (by omega)).1
    have hab : ab d = d := ab_pos d (by omega)
    rw [hab] at n1 n2
    have a1 : -(ab (u - quo u d * d)) ≤ u - quo u d * d := by unfold ab; split <;> omega
    have a2 : v - quo v d * d ≤ ab (v - quo v d * d) := by unfold ab; split <;> omega
    refine Int.not_lt.1 fun hc => ?_
    have h3 : (quo v d + 1) * d ≤ quo u d * d := Int.mul_le_mul_of_nonneg_right (by omega) (by omega)
    rw [Int.add_mul] at h3
    omega
/-- A warm step's rate. -/
def wmV (B W t : Int) : Int := quo (B * t) W
theorem wmV_in (B W t : Int) (B0 : 0 ≤ B) (t0 : 1 ≤ t) (tW : t ≤ W) : 0 ≤ wmV B W t ∧ wmV B W t ≤ B := by
  unfold wmV
  constructor
  · have h := quo_rise 0 (B * t) W (by omega) (Int.mul_nonneg B0 (by omega))
    have h0 := quo_mul 0 W (by omega)
    rw [Int.zero_mul] at h0
    omega
  · have h := quo_rise (B * t) (B * W) W (by omega) (Int.mul_le_mul_of_nonneg_left tW B0)
    rw [quo_mul _ _ (by omega)] at h
    exact h
theorem wmV_rise (B W t : Int) (B0 : 0 ≤ B) (t0 : 1 ≤ t) (tW : t ≤ W) : wmV B W t ≤ wmV B W (t + 1) := quo_rise _ _ _ (by omega) (Int.mul_le_mul_of_nonneg_left (by omega) B0)
theorem wmV_last (B W : Int) (hW : 1 ≤ W) : wmV B W W = B := quo_mul B W (by omega)
/-- Behind so many drops. -/
def drN (x : Int) (at' fa : Nat → Int) (t : Int) : Nat → Int
  | 0 => x
  | k + 1 => if at' k ≤ t then fmV (drN x at' fa t k) (fa k) else drN x at' fa t k
/-- Drops that are right. -/
def RD (n : Nat) (at' fa : Nat → Int) : Prop := n ≤ 16 ∧ ∀ k, k < n → (1 ≤ at' k ∧ at' k ≤ 1048576 ∧ 0 ≤ fa k ∧ fa k ≤ 4294967296) ∧ (0 < k → at' (k - 1) < at' k)
theorem RD.up {n : Nat} {at' fa : Nat → Int} (h : RD n at' fa) (i j : Nat) (hi : i ≤ j) (hj : j < n) : at' i ≤ at' j := by
  induction j with
  | zero => obtain rfl : i = 0 := by omega
            omega
  | succ j ih =>
    rcases (show i = j + 1 ∨ i ≤ j by omega) with e | e
    · rw [e]; omega
    · have h1 := ih e (by omega)
      have h2 := (h.2 (j + 1) hj).2 (by omega)
      rw [Nat.add_sub_cancel] at h2
      omega
theorem drN_in (x : Int) {n : Nat} {at' fa : Nat → Int} (t : Int) (h : RD n at' fa) (x0 : 0 ≤ x) (x1 : x ≤ 9223372036854775807) (k : Nat) (hk : k ≤ n) : 0 ≤ drN x at' fa t k ∧ drN x at' fa t k ≤ x := by
  induction k with
  | zero => exact ⟨x0, Int.le_refl x⟩
  | succ k ih =>
    have h1 := ih (by omega)
    show 0 ≤ (if at' k ≤ t then fmV (drN x at' fa t k) (fa k) else drN x at' fa t k) ∧ (if at' k ≤ t then fmV (drN x at' fa t k) (fa k) else drN x at' fa t k) ≤ x
    obtain ⟨⟨-, -, f0, f1⟩, -⟩ := h.2 k (by omega)
    have h2 := fmV_in (drN x at' fa t k) (fa k) h1.1 (by omega) f0 f1
    split <;> omega
/-- The drops behind the first that has not come have not come either. -/
theorem drN_stay (x : Int) {n : Nat} {at' fa : Nat → Int} (t : Int) (h : RD n at' fa) (j : Nat) (hj : j < n) (hc : t < at' j) (k : Nat) (hk : j + k ≤ n) : drN x at' fa t (j + k) = drN x at' fa t j := by
  induction k with
  | zero => rfl
  | succ k ih =>
    show (if at' (j + k) ≤ t then fmV (drN x at' fa t (j + k)) (fa (j + k)) else drN x at' fa t (j + k)) = _
    have := h.up j (j + k) (by omega) (by omega)
    rw [if_neg (by omega), ih (by omega)]
theorem drN_stay' (x : Int) {n : Nat} {at' fa : Nat → Int} (t : Int) (h : RD n at' fa) (j : Nat) (hj : j < n) (hc : t < at' j) : drN x at' fa t j = drN x at' fa t n := by
  have := drN_stay x t h j hj hc (n - j) (by omega)
  rw [show j + (n - j) = n by omega] at this
  exact this.symm
/-- Later no rate is greater. -/
theorem drN_fall (x : Int) {n : Nat} {at' fa : Nat → Int} (t : Int) (h : RD n at' fa) (x0 : 0 ≤ x) (x1 : x ≤ 9223372036854775807) (k : Nat) (hk : k ≤ n) : drN x at' fa (t + 1) k ≤ drN x at' fa t k := by
  -- as long as the drops have come at t both are the same; behind it the earlier one stays
  have key : ∀ k, k ≤ n → (∀ i, i < k → at' i ≤ t) → drN x at' fa (t + 1) k = drN x at' fa t k := by
    intro k
    induction k with
    | zero => intro _ _; rfl
    | succ k ih =>
      intro hk hi
      have e := ih (by omega) (fun i h => hi i (by omega))
      have := hi k (by omega)
      show (if at' k ≤ t + 1 then fmV (drN x at' fa (t + 1) k) (fa k) else drN x at' fa (t + 1) k) = (if at' k ≤ t then fmV (drN x at' fa t k) (fa k) else drN x at' fa t k)
      rw [if_pos (by omega), if_pos (by omega), e]
  induction k with
  | zero => exact Int.le_refl x
  | succ k ih =>
    have h1 := ih (by omega)
    by_cases hc : at' k ≤ t
    · rw [key (k + 1) hk (fun i hi => by have := h.up i k (by omega) (by omega); omega)]
      omega
    · show (if at' k ≤ t + 1 then fmV (drN x at' fa (t + 1) k) (fa k) else drN x at' fa (t + 1) k) ≤ (if at' k ≤ t then fmV (drN x at' fa t k) (fa k) else drN x at' fa t k)
      rw [if_neg hc]
      obtain ⟨⟨-, -, f0, f1⟩, -⟩ := h.2 k (by omega)
      have h3 := drN_in x (t + 1) h x0 x1 k (by omega)
      have h2 := fmV_in (drN x at' fa (t + 1) k) (fa k) h3.1 (by omega) f0 f1
      split <;> omega
/-- Rates that are right. -/
def RO (B W : Int) (n : Nat) (at' fa : Nat → Int) : Prop := 0 ≤ B ∧ 0 ≤ W ∧ W ≤ 1048576 ∧ RD n at' fa
/-- What the drops begin with. -/
def bsV (B W t : Int) : Int := if t ≤ W then wmV B W t else B
/-- The rate of a step. -/
def rtV (B W : Int) (n : Nat) (at' fa : Nat → Int) (t : Int) : Int := drN (bsV B W t) at' fa t n
theorem bsV_in (B W t : Int) (B0 : 0 ≤ B) (t0 : 1 ≤ t) : 0 ≤ bsV B W t ∧ bsV B W t ≤ B := by
  unfold bsV
  split
  · exact wmV_in B W t B0 t0 (by assumption)
  · exact ⟨B0, Int.le_refl B⟩
theorem rtV_in (B W : Int) {n : Nat} {at' fa : Nat → Int} (t : Int) (h : RO B W n at' fa) (B1 : B ≤ 9223372036854775807) (t0 : 1 ≤ t) : 0 ≤ rtV B W n at' fa t ∧ rtV B W n at' fa t ≤ B := by
  have h1 := bsV_in B W t h.1 t0
  have h2 := drN_in (bsV B W t) t h.2.2.2 h1.1 (by omega) n (Nat.le_refl n)
  unfold rtV
  omega
theorem rtV_fall (B W : Int) {n : Nat} {at' fa : Nat → Int} (t : Int) (h : RO B W n at' fa) (B1 : B ≤ 9223372036854775807) (t0 : 1 ≤ t) (tW : W ≤ t) : rtV B W n at' fa (t + 1) ≤ rtV B W n at' fa t := by
  have e1 : bsV B W (t + 1) = B := if_neg (by omega)
  have e2 : bsV B W t = B := by
    unfold bsV
    split
    · obtain rfl : W = t := by omega
      exact wmV_last B W (by omega)
    · rfl
  unfold rtV
  rw [e1, e2]
  exact drN_fall B t h.2.2.2 h.1 B1 n (Nat.le_refl n)
theorem rtV_rise (B W : Int) {at' fa : Nat → Int} (t : Int) (h : RO B W 0 at' fa) (t0 : 1 ≤ t) (tW : t < W) : rtV B W 0 at' fa t ≤ rtV B W 0 at' fa (t + 1) := by
  show bsV B W t ≤ bsV B W (t + 1)
  unfold bsV
  rw [if_pos (by omega), if_pos (by omega)]
  exact wmV_rise B W t h.1 t0 (by omega)
/-- Paces that are right: the least, the most, the first, the growth. -/
def PO (l m f g : Int) : Prop := 1 ≤ l ∧ l ≤ f ∧ f ≤ m ∧ m ≤ 64 ∧ 0 ≤ g ∧ g ≤ 64
/-- The next number of inner steps. -/
def nxV (l m g h z : Int) : Int := if z = 0 then (if m < h + g then m else h + g) else (if h / 2 < l then l else h / 2)
theorem nxV_in {l m f g : Int} (h : PO l m f g) (x z : Int) (x0 : l ≤ x) (x1 : x ≤ m) : l ≤ nxV l m g x z ∧ nxV l m g x z ≤ m := by
  obtain ⟨a, b, c, d, e, e'⟩ := h
  unfold nxV
  split <;> split <;> omega
/-- The inner steps behind so many entries. -/
def stV (l m f g : Int) (ms : Nat → Int) : Nat → Int
  | 0 => f
  | k + 1 => nxV l m g (stV l m f g ms k) (ms k)
theorem stV_in {l m f g : Int} (h : PO l m f g) (ms : Nat → Int) (k : Nat) : l ≤ stV l m f g ms k ∧ stV l m f g ms k ≤ m := by
  induction k with
  | zero => exact ⟨h.2.1, h.2.2.1⟩
  | succ k ih => exact nxV_in h _ _ ih.1 ih.2
end Go.Proofs.Ytfcneciknldohaa
