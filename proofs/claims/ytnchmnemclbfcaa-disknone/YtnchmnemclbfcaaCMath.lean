/-
  Plain numbers of layer 11: a register that goes on bit by bit, and what is left of a polynomial.
-/
set_option linter.unusedVariables false
namespace Go.Proofs.Ytnchmnemclbfcaa

theorem xm2 (a b : Nat) : (a ^^^ b) % 2 = (a + b) % 2 := by
  have h := @Nat.xor_mod_two_eq_one a b
  by_cases ha : a % 2 = 1
  · by_cases hb : b % 2 = 1
    · have : ¬ (a ^^^ b) % 2 = 1 := fun e => (h.1 e) ⟨fun _ => hb, fun _ => ha⟩
      omega
    · have : (a ^^^ b) % 2 = 1 := h.2 (fun e => hb (e.1 ha))
      omega
  · by_cases hb : b % 2 = 1
    · have : (a ^^^ b) % 2 = 1 := h.2 (fun e => ha (e.2 hb))
      omega
    · have : ¬ (a ^^^ b) % 2 = 1 := fun e => (h.1 e) ⟨fun x => absurd x ha, fun x => absurd x hb⟩
      omega
/-- The polynomial below its highest power. -/
def cP : Nat := 3988292384
/-- A register, a bit of nought further. -/
def cZ (r : Nat) : Nat := if r % 2 = 1 then (r / 2) ^^^ cP else r / 2
/-- And so many. -/
def cZs : Nat → Nat → Nat
  | 0, r => r
  | k + 1, r => cZs k (cZ r)
/-- A bit of a text. -/
def cB (r b : Nat) : Nat := cZ (r ^^^ b)
/-- The bits of a text, the first ones. -/
def cR (t : Nat → Nat) (r : Nat) : Nat → Nat
  | 0 => r
  | i + 1 => cB (cR t r i) (t i)
theorem cZ_xor (a b : Nat) : cZ (a ^^^ b) = cZ a ^^^ cZ b := by
  have h1 : (a ^^^ b) / 2 = a / 2 ^^^ b / 2 := Nat.xor_div_two
  have h2 : (a ^^^ b) % 2 = (a + b) % 2 := xm2 _ _
  unfold cZ
  rw [h1, h2]
  by_cases ha : a % 2 = 1
  · by_cases hb : b % 2 = 1
    · rw [if_neg (by omega), if_pos ha, if_pos hb]
      rw [Nat.xor_assoc, Nat.xor_comm cP, Nat.xor_assoc, Nat.xor_self, Nat.xor_zero]
    · rw [if_pos (by omega), if_pos ha, if_neg hb, Nat.xor_assoc, Nat.xor_comm (b / 2), ← Nat.xor_assoc]
  · by_cases hb : b % 2 = 1
    · rw [if_pos (by omega), if_neg ha, if_pos hb, Nat.xor_assoc]
    · rw [if_neg (by omega), if_neg ha, if_neg hb]
theorem cZ_zero : cZ 0 = 0 := rfl
theorem cZ_lt (r : Nat) (h : r < 4294967296) : cZ r < 4294967296 := by
  unfold cZ
  split
  · exact Nat.xor_lt_two_pow (n := 32) (by omega) (by unfold cP; omega)
  · omega
theorem cB_xor (a b x y : Nat) : cB (a ^^^ b) (x ^^^ y) = cB a x ^^^ cB b y := by
  unfold cB
  rw [← cZ_xor, Nat.xor_assoc, Nat.xor_assoc, ← Nat.xor_assoc b, Nat.xor_comm b x, Nat.xor_assoc x]
theorem cB_lt (r b : Nat) (h : r < 4294967296) (hb : b < 2) : cB r b < 4294967296 := cZ_lt _ (Nat.xor_lt_two_pow (n := 32) (by omega) (by omega))
theorem cR_lt (t : Nat → Nat) (r : Nat) (h : r < 4294967296) (ht : ∀ i, t i < 2) (i : Nat) : cR t r i < 4294967296 := by
  induction i with
  | zero => exact h
  | succ i ih => exact cB_lt _ _ ih (ht i)
/-- Two texts laid over one another. -/
theorem cR_xor (t u : Nat → Nat) (r s : Nat) (i : Nat) : cR (fun k => t k ^^^ u k) (r ^^^ s) i = cR t r i ^^^ cR u s i := by
  induction i with
  | zero => rfl
  | succ i ih =>
    show cB (cR (fun k => t k ^^^ u k) (r ^^^ s) i) (t i ^^^ u i) = cB (cR t r i) (t i) ^^^ cB (cR u s i) (u i)
    rw [ih, cB_xor]
/-- One text behind the other. -/
theorem cR_add (t : Nat → Nat) (r i j : Nat) : cR t r (i + j) = cR (fun k => t (i + k)) (cR t r i) j := by
  induction j with
  | zero => rfl
  | succ j ih =>
    show cB (cR t r (i + j)) (t (i + j)) = cB (cR (fun k => t (i + k)) (cR t r i) j) (t (i + j))
    rw [ih]
theorem cR_congr (t u : Nat → Nat) (r : Nat) (i : Nat) (h : ∀ k, k < i → t k = u k) : cR t r i = cR u r i := by
  induction i with
  | zero => rfl
  | succ i ih =>
    show cB (cR t r i) (t i) = cB (cR u r i) (u i)
    rw [ih (fun k hk => h k (by omega)), h i (by omega)]
/-- Noughts alone. -/
theorem cZs_succ (k r : Nat) : cZs (k + 1) r = cZ (cZs k r) := by
  induction k generalizing r with
  | zero => rfl
  | succ k ih => exact ih (cZ r)
theorem cR_none (r i : Nat) : cR (fun _ => 0) r i = cZs i r := by
  induction i with
  | zero => rfl
  | succ i ih =>
    show cZ (cR (fun _ => 0) r i ^^^ 0) = _
    rw [ih, Nat.xor_zero, cZs_succ]
theorem cZs_xor (k a b : Nat) : cZs k (a ^^^ b) = cZs k a ^^^ cZs k b := by
  induction k generalizing a b with
  | zero => rfl
  | succ k ih => show cZs k (cZ (a ^^^ b)) = cZs k (cZ a) ^^^ cZs k (cZ b); rw [cZ_xor, ih]
theorem cZs_lt (k r : Nat) (h : r < 4294967296) : cZs k r < 4294967296 := by
  induction k generalizing r with
  | zero => exact h
  | succ k ih => exact ih _ (cZ_lt r h)
theorem cZs_add (i j r : Nat) : cZs (i + j) r = cZs j (cZs i r) := by
  induction i generalizing r with
  | zero => rw [Nat.zero_add]; rfl
  | succ i ih => rw [Nat.succ_add]; exact ih (cZ r)
/-- What is not nought stays so. -/
theorem cZ_ne (r : Nat) (h : r < 4294967296) (h0 : r ≠ 0) : cZ r ≠ 0 := by
  unfold cZ
  split
  · intro e
    have e2 : r / 2 = cP := by
      have := congrArg (· ^^^ cP) e
      simp only [Nat.xor_assoc, Nat.xor_self, Nat.xor_zero, Nat.zero_xor] at this
      exact this
    unfold cP at e2
    omega
  · omega
theorem cZs_ne (k r : Nat) (h : r < 4294967296) (h0 : r ≠ 0) : cZs k r ≠ 0 := by
  induction k generalizing r with
  | zero => exact h0
  | succ k ih => exact ih _ (cZ_lt r h) (cZ_ne r h h0)
/-- So many bits from a place on, the first as the lowest. -/
def cN (t : Nat → Nat) : Nat → Nat → Nat
  | i, 0 => 0
  | i, k + 1 => t i + 2 * cN t (i + 1) k
theorem cN_lt (t : Nat → Nat) (ht : ∀ i, t i < 2) (i k : Nat) : cN t i k < 2 ^ k := by
  induction k generalizing i with
  | zero => exact Nat.one_pos
  | succ k ih =>
    have h1 := ih (i + 1)
    have h2 := ht i
    show t i + 2 * cN t (i + 1) k < 2 ^ (k + 1)
    rw [Nat.pow_succ]
    omega
theorem cN_last (t : Nat → Nat) (i k : Nat) : cN t i (k + 1) = cN t i k + t (i + k) * 2 ^ k := by
  induction k generalizing i with
  | zero => show t i + 2 * 0 = 0 + t (i + 0) * 2 ^ 0; simp
  | succ k ih =>
    show t i + 2 * cN t (i + 1) (k + 1) = (t i + 2 * cN t (i + 1) k) + t (i + (k + 1)) * 2 ^ (k + 1)
    rw [ih (i + 1), show i + 1 + k = i + (k + 1) by omega, Nat.pow_succ, Nat.mul_add, Nat.add_assoc, ← Nat.mul_assoc (t (i + (k + 1)))]
    congr 1
    rw [Nat.mul_comm 2 (t (i + (k + 1)) * 2 ^ k)]
theorem two_xor (m b : Nat) (hb : b < 2) : 2 * m + b = 2 * m ^^^ b := by
  have h1 : (2 * m ^^^ b) / 2 = m := by rw [Nat.xor_div_two]; rw [show 2 * m / 2 = m by omega, show b / 2 = 0 by omega, Nat.xor_zero]
  have h2 : (2 * m ^^^ b) % 2 = b := by rw [xm2]; omega
  omega
theorem top_xor (m b k : Nat) (hm : m < 2 ^ k) (hb : b < 2) : m + b * 2 ^ k = m ^^^ b * 2 ^ k := by
  induction k generalizing m with
  | zero =>
    obtain rfl : m = 0 := by simpa using hm
    rw [Nat.zero_xor, Nat.zero_add]
  | succ k ih =>
    rw [Nat.pow_succ] at hm
    have h := ih (m / 2) (by omega)
    have e : b * 2 ^ (k + 1) = 2 * (b * 2 ^ k) := by rw [Nat.pow_succ, ← Nat.mul_assoc, Nat.mul_comm]
    have d : (m ^^^ b * 2 ^ (k + 1)) / 2 = m / 2 ^^^ b * 2 ^ k := by rw [Nat.xor_div_two, e]; congr 1; omega
    have q : (m ^^^ b * 2 ^ (k + 1)) % 2 = m % 2 := by rw [xm2, e]; omega
    rw [← h] at d
    omega
theorem cZ_two (m : Nat) : cZ (2 * m) = m := by
  unfold cZ
  rw [if_neg (by omega)]
  omega
/-- What is left, and the register: the 32 bits ahead laid over it. -/
def cL (t : Nat → Nat) (r i : Nat) : Nat := cR t r i ^^^ cN t i 32
theorem cL_step (t : Nat → Nat) (ht : ∀ i, t i < 2) (r i : Nat) : cL t r (i + 1) = cZ (cL t r i) ^^^ t (i + 32) * 2 ^ 31 := by
  have h1 : cN t i 32 = 2 * cN t (i + 1) 31 ^^^ t i := by
    rw [← two_xor _ _ (ht i)]
    show t i + 2 * cN t (i + 1) 31 = _
    omega
  have h2 : cN t (i + 1) 32 = cN t (i + 1) 31 ^^^ t (i + 32) * 2 ^ 31 := by
    rw [cN_last, top_xor _ _ _ (cN_lt t ht _ _) (ht _), show i + 1 + 31 = i + 32 by omega]
  unfold cL
  rw [h1, h2, ← Nat.xor_assoc (cR t r (i + 1)), show cR t r i ^^^ (2 * cN t (i + 1) 31 ^^^ t i) = (cR t r i ^^^ t i) ^^^ 2 * cN t (i + 1) 31 by rw [Nat.xor_comm (2 * _), ← Nat.xor_assoc], cZ_xor, cZ_two]
  rfl
theorem cN_none (t : Nat → Nat) (i k : Nat) (h : ∀ j, j < k → t (i + j) = 0) : cN t i k = 0 := by
  induction k generalizing i with
  | zero => rfl
  | succ k ih =>
    show t i + 2 * cN t (i + 1) k = 0
    rw [ih (i + 1) (fun j hj => by rw [show i + 1 + j = i + (j + 1) by omega]; exact h (j + 1) (by omega)), show t i = 0 from h 0 (by omega)]
/-- A run of at most 32 turned bits is told. -/
theorem burst_ne (t : Nat → Nat) (ht : ∀ i, t i < 2) (at' n : Nat) (h0 : ∀ k, k < at' → t k = 0) (h1 : ∀ k, at' + 32 ≤ k → t k = 0) (h2 : ∀ k, n ≤ k → t k = 0) (hb : cN t at' 32 ≠ 0) (hn : at' ≤ n) : cR t 0 n ≠ 0 := by
  have e0 : cR t 0 at' = 0 := by
    rw [cR_congr t (fun _ => 0) 0 at' h0, cR_none]
    have : ∀ k, cZs k 0 = 0 := fun k => by
      induction k with
      | zero => rfl
      | succ k ih => exact ih
    exact this at'
  have hl : ∀ d, cL t 0 (at' + d) = cZs d (cN t at' 32) := fun d => by
    induction d with
    | zero => show cR t 0 at' ^^^ cN t at' 32 = _; rw [e0, Nat.zero_xor]; rfl
    | succ d ih =>
      show cL t 0 (at' + d + 1) = _
      rw [cL_step t ht, ih, h1 (at' + d + 32) (by omega), Nat.zero_mul, Nat.xor_zero, cZs_succ]
  have e1 := hl (n - at')
  rw [show at' + (n - at') = n by omega] at e1
  have e2 : cN t n 32 = 0 := cN_none t n 32 (fun j _ => h2 (n + j) (by omega))
  unfold cL at e1
  rw [e2, Nat.xor_zero] at e1
  rw [e1]
  exact cZs_ne _ _ (cN_lt t ht at' 32) hb
end Go.Proofs.Ytnchmnemclbfcaa
