/-
Plain numbers of layer 11: a register that goes on bit by bit, and what is left of a polynomial.
Plain numbers of layer 11: what is left of a polynomial, coefficient by coefficient.
-/

set_option linter.unusedVariables false
namespace Go.Proofs.YtpmmfmlldkdfhaaDoor

theorem xm2 (a b : Nat) : (a ^^^ b) % 2 = (a + b) % 2 := by
  have h := @Nat.xor_mod_two_eq_one a b
  by_cases ha : a % 2 = 1
  · by_cases hb : b % 2 = 1
    · have : ¬ (a ^^^ b) % 2 = 1 := fun e => (h.1 e) ⟨fun _ => hb, fun _ => ha⟩
      omega
    · have : (a ^^^ b) % 2 = 1 := h.2 (fun e => hb (e.1 ha))
      omega
  · by_cases hb : b % 2 = 1
    · have : (a ^^^ b) % 2 = 1 := h.2 (fun e => ha (e.2 hb))
      omega
    · have : ¬ (a ^^^ b) % 2 = 1 := fun e => (h.1 e) ⟨fun x => absurd x ha, fun x => absurd x hb⟩
      omega
/-- The polynomial below its highest power. -/
def cP : Nat := 3988292384
/-- A register, a bit of nought further. -/
def cZ (r : Nat) : Nat := if r % 2 = 1 then (r / 2) ^^^ cP else r / 2
/-- And so many. -/
def cZs : Nat → Nat → Nat
  | 0, r => r
  | k + 1, r => cZs k (cZ r)
/-- A bit of a text. -/
def cB (r b : Nat) : Nat := cZ (r ^^^ b)
/-- The bits of a text, the first ones. -/
def cR (t : Nat → Nat) (r : Nat) : Nat → Nat
  | 0 => r
  | i + 1 => cB (cR t r i) (t i)
theorem cZ_xor (a b : Nat) : cZ (a ^^^ b) = cZ a ^^^ cZ b := by
  have h1 : (a ^^^ b) / 2 = a / 2 ^^^ b / 2 := Nat.xor_div_two
  have h2 : (a ^^^ b) % 2 = (a + b) % 2 := xm2 _ _
  unfold cZ
  rw [h1, h2]
  by_cases ha : a % 2 = 1
  · by_cases hb : b % 2 = 1
    · rw [if_neg (by omega), if_pos ha, if_pos hb]
      rw [Nat.xor_assoc, Nat.xor_comm cP, Nat.xor_assoc, Nat.xor_self, Nat.xor_zero]
    · rw [if_pos (by omega), if_pos ha, if_neg hb, Nat.xor_assoc, Nat.xor_comm (b / 2), ← Nat.xor_assoc]
  · by_cases hb : b % 2 = 1
    · rw [if_pos (by omega), if_neg ha, if_pos hb, Nat.xor_assoc]
    · rw [if_neg (by omega), if_neg ha, if_neg hb]
theorem cZ_zero : cZ 0 = 0 := rfl
theorem cZ_lt (r : Nat) (h : r < 4294967296) : cZ r < 4294967296 := by
  unfold cZ
  split
  · exact Nat.xor_lt_two_pow (n := 32) (by omega) (by unfold cP; omega)
  · omega
theorem cB_xor (a b x y : Nat) : cB (a ^^^ b) (x ^^^ y) = cB a x ^^^ cB b y := by
  unfold cB
  rw [← cZ_xor, Nat.xor_assoc, Nat.xor_assoc, ← Nat.xor_assoc b, Nat.xor_comm b x, Nat.xor_assoc x]
theorem cB_lt (r b : Nat) (h : r < 4294967296) (hb : b < 2) : cB r b < 4294967296 := cZ_lt _ (Nat.xor_lt_two_pow (n := 32) (by omega) (by omega))
theorem cR_lt (t : Nat → Nat) (r : Nat) (h : r < 4294967296) (ht : ∀ i, t i < 2) (i : Nat) : cR t r i < 4294967296 := by
  induction i with
  | zero => exact h
  | succ i ih => exact cB_lt _ _ ih (ht i)
/-- Two texts laid over one another. -/
theorem cR_xor (t u : Nat → Nat) (r s : Nat) (i : Nat) : cR (fun k => t k ^^^ u k) (r ^^^ s) i = cR t r i ^^^ cR u s i := by
  induction i with
  | zero => rfl
  | succ i ih =>
    show cB (cR (fun k => t k ^^^ u k) (r ^^^ s) i) (t i ^^^ u i) = cB (cR t r i) (t i) ^^^ cB (cR u s i) (u i)
    rw [ih, cB_xor]
/-- One text behind the other. -/
theorem cR_add (t : Nat → Nat) (r i j : Nat) : cR t r (i + j) = cR (fun k => t (i + k)) (cR t r i) j := by
  induction j with
  | zero => rfl
  | succ j ih =>
    show cB (cR t r (i + j)) (t (i + j)) = cB (cR (fun k => t (i + k)) (cR t r i) j) (t (i + j))
    rw [ih]
theorem cR_congr (t u : Nat → Nat) (r : Nat) (i : Nat) (h : ∀ k, k < i → t k = u k) : cR t r i = cR u r i := by
  induction i with
  | zero => rfl
  | succ i ih =>
    show cB (cR t r i) (t i) = cB (cR u r i) (u i)
    rw [ih (fun k hk => h k (by omega)), h i (by omega)]
/-- Noughts alone. -/
theorem cZs_succ (k r : Nat) : cZs (k + 1) r = cZ (cZs k r) := by
  induction k generalizing r with
  | zero => rfl
  | succ k ih => exact ih (cZ r)
theorem cR_none (r i : Nat) : cR (fun _ => 0) r i = cZs i r := by
  induction i with
  | zero => rfl
  | succ i ih =>
    show cZ (cR (fun _ => 0) r i ^^^ 0) = _
    rw [ih, Nat.xor_zero, cZs_succ]
theorem cZs_xor (k a b : Nat) : cZs k (a ^^^ b) = cZs k a ^^^ cZs k b := by
  induction k generalizing a b with
  | zero => rfl
  | succ k ih => show cZs k (cZ (a ^^^ b)) = cZs k (cZ a) ^^^ cZs k (cZ b); rw [cZ_xor, ih]
theorem cZs_lt (k r : Nat) (h : r < 4294967296) : cZs k r < 4294967296 := by
  induction k generalizing r with
  | zero => exact h
  | succ k ih => exact ih _ (cZ_lt r h)
theorem cZs_add (i j r : Nat) : cZs (i + j) r = cZs j (cZs i r) := by
  induction i generalizing r with
  | zero => rw [Nat.zero_add]; rfl
  | succ i ih => rw [Nat.succ_add]; exact ih (cZ r)
/-- What is not nought stays so. -/
theorem cZ_ne (r : Nat) (h : r < 4294967296) (h0 : r ≠ 0) : cZ r ≠ 0 := by
  unfold cZ
  split
  · intro e
    have e2 : r / 2 = cP := by
      have := congrArg (· ^^^ cP) e
      simp only [Nat.xor_assoc, Nat.xor_self, Nat.xor_zero, Nat.zero_xor] at this
      exact this
    unfold cP at e2
    omega
  · omega
theorem cZs_ne (k r : Nat) (h : r < 4294967296) (h0 : r ≠ 0) : cZs k r ≠ 0 := by
  induction k generalizing r with
  | zero => exact h0
  | succ k ih => exact ih _ (cZ_lt r h) (cZ_ne r h h0)
/-- So many bits from a place on, the first as the lowest. -/
def cN (t : Nat → Nat) : Nat → Nat → Nat
  | i, 0 => 0
  | i, k + 1 => t i + 2 * cN t (i + 1) k
theorem cN_lt (t : Nat → Nat) (ht : ∀ i, t i < 2) (i k : Nat) : cN t i k < 2 ^ k := by
  induction k generalizing i with
  | zero => exact Nat.one_pos
  | succ k ih =>
    have h1 := ih (i + 1)
    have h2 := ht i
    show t i + 2 * cN t (i + 1) k < 2 ^ (k + 1)
    rw [Nat.pow_succ]
    omega
theorem cN_last (t : Nat → Nat) (i k : Nat) : cN t i (k + 1) = cN t i k + t (i + k) * 2 ^ k := by
  induction k generalizing i with
  | zero => show t i + 2 * 0 = 0 + t (i + 0) * 2 ^ 0; simp
  | succ k ih =>
    show t i + 2 * cN t (i + 1) (k + 1) = (t i + 2 * cN t (i + 1) k) + t (i + (k + 1)) * 2 ^ (k + 1)
    rw [ih (i + 1), show i + 1 + k = i + (k + 1) by omega, Nat.pow_succ, Nat.mul_add, Nat.add_assoc, ← Nat.mul_assoc (t (i + (k + 1)))]
    congr 1
    rw [Nat.mul_comm 2 (t (i + (k + 1)) * 2 ^ k)]
theorem two_xor (m b : Nat) (hb : b < 2) : 2 * m + b = 2 * m ^^^ b := by
  have h1 : (2 * m ^^^ b) / 2 = m := by rw [Nat.xor_div_two]; rw [show 2 * m / 2 = m by omega, show b / 2 = 0 by omega, Nat.xor_zero]
  have h2 : (2 * m ^^^ b) % 2 = b := by rw [xm2]; omega
  omega
theorem top_xor (m b k : Nat) (hm : m < 2 ^ k) (hb : b < 2) : m + b * 2 ^ k = m ^^^ b * 2 ^ k := by
  induction k generalizing m with
  | zero =>
    obtain rfl : m = 0 := by simpa using hm
    rw [Nat.zero_xor, Nat.zero_add]
  | succ k ih =>
    rw [Nat.pow_succ] at hm
    have h := ih (m / 2) (by omega)
    have e : b * 2 ^ (k + 1) = 2 * (b * 2 ^ k) := by rw [Nat.pow_succ, ← Nat.mul_assoc, Nat.mul_comm]
    have d : (m ^^^ b * 2 ^ (k + 1)) / 2 = m / 2 ^^^ b * 2 ^ k := by rw [Nat.xor_div_two, e]; congr 1; omega
    have q : (m ^^^ b * 2 ^ (k + 1)) % 2 = m % 2 := by rw [xm2, e]; omega
    rw [← h] at d
    omega
theorem cZ_two (m : Nat) : cZ (2 * m) = m := by
  unfold cZ
  rw [if_neg (by omega)]
  omega
/-- What is left, and the register: the 32 bits ahead laid over it. -/
def cL (t : Nat → Nat) (r i : Nat) : Nat := cR t r i ^^^ cN t i 32
theorem cL_step (t : Nat → Nat) (ht : ∀ i, t i < 2) (r i : Nat) : cL t r (i + 1) = cZ (cL t r i) ^^^ t (i + 32) * 2 ^ 31 := by
  have h1 : cN t i 32 = 2 * cN t (i + 1) 31 ^^^ t i := by
    rw [← two_xor _ _ (ht i)]
    show t i + 2 * cN t (i + 1) 31 = _
    omega
  have h2 : cN t (i + 1) 32 = cN t (i + 1) 31 ^^^ t (i + 32) * 2 ^ 31 := by
    rw [cN_last, top_xor _ _ _ (cN_lt t ht _ _) (ht _), show i + 1 + 31 = i + 32 by omega]
  unfold cL
  rw [h1, h2, ← Nat.xor_assoc (cR t r (i + 1)), show cR t r i ^^^ (2 * cN t (i + 1) 31 ^^^ t i) = (cR t r i ^^^ t i) ^^^ 2 * cN t (i + 1) 31 by rw [Nat.xor_comm (2 * _), ← Nat.xor_assoc], cZ_xor, cZ_two]
  rfl
theorem cN_none (t : Nat → Nat) (i k : Nat) (h : ∀ j, j < k → t (i + j) = 0) : cN t i k = 0 := by
  induction k generalizing i with
  | zero => rfl
  | succ k ih =>
    show t i + 2 * cN t (i + 1) k = 0
    rw [ih (i + 1) (fun j hj => by rw [show i + 1 + j = i + (j + 1) by omega]; exact h (j + 1) (by omega)), show t i = 0 from h 0 (by omega)]
/-- A run of at most 32 turned bits is told. -/
theorem burst_ne (t : Nat → Nat) (ht : ∀ i, t i < 2) (at' n : Nat) (h0 : ∀ k, k < at' → t k = 0) (h1 : ∀ k, at' + 32 ≤ k → t k = 0) (h2 : ∀ k, n ≤ k → t k = 0) (hb : cN t at' 32 ≠ 0) (hn : at' ≤ n) : cR t 0 n ≠ 0 := by
  have e0 : cR t 0 at' = 0 := by
    rw [cR_congr t (fun _ => 0) 0 at' h0, cR_none]
    have : ∀ k, cZs k 0 = 0 := fun k => by
      induction k with
      | zero => rfl
      | succ k ih => exact ih
    exact this at'
  have hl : ∀ d, cL t 0 (at' + d) = cZs d (cN t at' 32) := fun d => by
    induction d with
    | zero => show cR t 0 at' ^^^ cN t at' 32 = _; rw [e0, Nat.zero_xor]; rfl
    | succ d ih =>
      show cL t 0 (at' + d + 1) = _
      rw [cL_step t ht, ih, h1 (at' + d + 32) (by omega), Nat.zero_mul, Nat.xor_zero, cZs_succ]
  have e1 := hl (n - at')
  rw [show at' + (n - at') = n by omega] at e1
  have e2 : cN t n 32 = 0 := cN_none t n 32 (fun j _ => h2 (n + j) (by omega))
  unfold cL at e1
  rw [e2, Nat.xor_zero] at e1
  rw [e1]
  exact cZs_ne _ _ (cN_lt t ht at' 32) hb
end Go.Proofs.YtpmmfmlldkdfhaaDoor
set_option linter.unusedVariables false
namespace Go.Proofs.YtpmmfmlldkdfhaaDoor

theorem tb_zero (x : Nat) : x.testBit 0 = decide (x % 2 = 1) := by rw [Nat.testBit_eq_decide_div_mod_eq]; simp
theorem tb_succ (x k : Nat) : x.testBit (k + 1) = (x / 2).testBit k := by rw [Nat.testBit_succ]
/-- The register, beside the coefficients that are still to come. -/
def lR (f : Nat → Nat) : Nat → Nat
  | 0 => cN f 0 32
  | i + 1 => cZ (lR f i) ^^^ f (i + 32) * 2 ^ 31
theorem lR_lt (f : Nat → Nat) (hf : ∀ k, f k < 2) (i : Nat) : lR f i < 4294967296 := by
  induction i with
  | zero => exact cN_lt f hf 0 32
  | succ i ih =>
    have h := hf (i + 32)
    exact Nat.xor_lt_two_pow (n := 32) (cZ_lt _ ih) (by omega)
/-- The coefficients behind so many steps. -/
def lF (f : Nat → Nat) (i k : Nat) : Nat := if k < i then 0 else if k < i + 32 then ((lR f i).testBit (k - i)).toNat else f k
theorem lF_lt (f : Nat → Nat) (hf : ∀ k, f k < 2) (i k : Nat) : lF f i k < 2 := by
  unfold lF
  split
  · omega
  · split
    · exact Bool.toNat_lt _
    · exact hf k
theorem cN_bit (f : Nat → Nat) (hf : ∀ k, f k < 2) (m i k : Nat) (hk : k < m) : ((cN f i m).testBit k).toNat = f (i + k) := by
  induction m generalizing i k with
  | zero => omega
  | succ m ih =>
    have h0 := hf i
    show ((f i + 2 * cN f (i + 1) m).testBit k).toNat = _
    cases k with
    | zero =>
      rw [tb_zero, show (f i + 2 * cN f (i + 1) m) % 2 = f i by omega, Nat.add_zero]
      have : f i = 0 ∨ f i = 1 := by omega
      rcases this with h | h <;> rw [h] <;> rfl
    | succ k =>
      rw [tb_succ, show (f i + 2 * cN f (i + 1) m) / 2 = cN f (i + 1) m by omega, ih (i + 1) k (by omega), show i + 1 + k = i + (k + 1) by omega]
theorem lF_zero (f : Nat → Nat) (hf : ∀ k, f k < 2) (k : Nat) : lF f 0 k = f k := by
  unfold lF
  rw [if_neg (by omega)]
  split
  · show ((cN f 0 32).testBit (k - 0)).toNat = _
    rw [cN_bit f hf 32 0 (k - 0) (by omega), show 0 + (k - 0) = k by omega]
  · rfl
theorem cN_bits (m x : Nat) (hx : x < 2 ^ m) : cN (fun k => (x.testBit k).toNat) 0 m = x := by
  have h : ∀ (m i y : Nat), y < 2 ^ m → (∀ k, k < m → (x.testBit (i + k)) = y.testBit k) → cN (fun k => (x.testBit k).toNat) i m = y := by
    intro m
    induction m with
    | zero => intro i y hy _; obtain rfl : y = 0 := by simpa using hy
              rfl
    | succ m ih =>
      intro i y hy hb
      rw [Nat.pow_succ] at hy
      show (x.testBit i).toNat + 2 * cN _ (i + 1) m = y
      rw [ih (i + 1) (y / 2) (by omega) (fun k hk => by rw [← tb_succ, ← hb (k + 1) (by omega), show i + 1 + k = i + (k + 1) by omega])]
      have h0 := hb 0 (by omega)
      rw [Nat.add_zero] at h0
      rw [h0, tb_zero]
      by_cases e : y % 2 = 1
      · rw [decide_eq_true e]; show 1 + 2 * (y / 2) = y; omega
      · rw [decide_eq_false e]; show 0 + 2 * (y / 2) = y; omega
  exact h m 0 x hx (fun k _ => by rw [Nat.zero_add])
/-- The powers. -/
def pw (m : Nat) : Nat := [26, 23, 22, 16, 12, 11, 10, 8, 7, 5, 4, 2, 1, 0].getD m 0
theorem pw_le (m : Nat) (hm : m < 14) : pw m ≤ 26 := by
  have : ∀ m : Fin 14, pw m.1 ≤ 26 := by decide
  exact this ⟨m, hm⟩
/-- Which are turned by the first ones. -/
def tgB (m d : Nat) : Bool := (List.range m).any (fun q => d == 32 - pw q)
theorem tgB_succ (m d : Nat) : tgB (m + 1) d = (tgB m d || d == 32 - pw m) := by
  unfold tgB
  rw [List.range_succ, List.any_append]
  simp
theorem tgB_new (m : Nat) (hm : m < 14) : tgB m (32 - pw m) = false := by
  have : ∀ m : Fin 14, tgB m.1 (32 - pw m.1) = false := by decide
  exact this ⟨m, hm⟩
theorem tgB_low (m d : Nat) (hm : m ≤ 14) (hd : d < 6) : tgB m d = false := by
  have : ∀ m : Fin 15, ∀ d : Fin 6, tgB m.1 d.1 = false := by decide
  exact this ⟨m, by omega⟩ ⟨d, hd⟩
theorem tgB_all (d : Nat) (h1 : 1 ≤ d) (h2 : d ≤ 32) : tgB 14 d = (3988292384 : Nat).testBit (d - 1) := by
  have : ∀ d : Fin 32, tgB 14 (d.1 + 1) = (3988292384 : Nat).testBit d.1 := by decide
  have h := this ⟨d - 1, by omega⟩
  rw [show d - 1 + 1 = d by omega] at h
  exact h
theorem tgB_high (m d : Nat) (hm : m ≤ 14) (hd : 32 < d) : tgB m d = false := by
  unfold tgB
  rw [List.any_eq_false]
  intro q hq
  have : 32 - pw q ≤ 32 := Nat.sub_le _ _
  simp
  omega
/-- The coefficients, so many of them turned. -/
def gF (f : Nat → Nat) (i m k : Nat) : Nat := if tgB m (k - i) = true then 1 - (if k = i then 0 else lF f i k) else if k = i then 0 else lF f i k
theorem gF_lt (f : Nat → Nat) (hf : ∀ k, f k < 2) (i m k : Nat) : gF f i m k < 2 := by
  have h := lF_lt f hf i k
  unfold gF
  split <;> split <;> omega
theorem gF_zero (f : Nat → Nat) (i k : Nat) : gF f i 0 k = if k = i then 0 else lF f i k := by
  unfold gF
  rw [if_neg (by rw [show tgB 0 (k - i) = false from rfl]; decide)]
theorem gF_step (f : Nat → Nat) (i m k : Nat) (hm : m < 14) : gF f i (m + 1) k = if k = i + 32 - pw m then 1 - gF f i m (i + 32 - pw m) else gF f i m k := by
  have hp := pw_le m hm
  by_cases e : k = i + 32 - pw m
  · rw [if_pos e, e]
    unfold gF
    rw [show i + 32 - pw m - i = 32 - pw m by omega, tgB_succ, tgB_new m hm]
    simp
  · rw [if_neg e]
    unfold gF
    rw [tgB_succ]
    by_cases hk : k - i = 32 - pw m
    · exact absurd (by omega : k = i + 32 - pw m) e
    · rw [show (k - i == 32 - pw m) = false by simpa using hk, Bool.or_false]
theorem xorT (a b : Bool) : (a ^^ b).toNat = if b = true then 1 - a.toNat else a.toNat := by cases a <;> cases b <;> rfl
theorem top_bit (y b j : Nat) (hy : y < 2 ^ 31) (hb : b < 2) (hj : j < 32) : (y ^^^ b * 2 ^ 31).testBit j = if j = 31 then decide (b = 1) else y.testBit j := by
  rw [Nat.testBit_xor]
  by_cases e : j = 31
  · subst e
    rw [if_pos rfl, Nat.testBit_lt_two_pow hy]
    have : b = 0 ∨ b = 1 := by omega
    rcases this with rfl | rfl
    · rfl
    · decide
  · rw [if_neg e]
    have h : (b * 2 ^ 31).testBit j = false := by
      have : b = 0 ∨ b = 1 := by omega
      rcases this with rfl | rfl
      · rw [Nat.zero_mul, Nat.zero_testBit]
      · rw [Nat.one_mul, Nat.testBit_two_pow]; simp; omega
    rw [h, Bool.xor_false]
/-- A step where the highest coefficient is nought. -/
theorem lF_even (f : Nat → Nat) (hf : ∀ k, f k < 2) (i : Nat) (h0 : lF f i i = 0) (k : Nat) : lF f (i + 1) k = lF f i k := by
  have hlt := lR_lt f hf i
  have hev : ¬ lR f i % 2 = 1 := by
    intro e
    unfold lF at h0
    rw [if_neg (by omega), if_pos (by omega), Nat.sub_self, tb_zero, decide_eq_true e] at h0
    cases h0
  have hR : lR f (i + 1) = lR f i / 2 ^^^ f (i + 32) * 2 ^ 31 := by
    show cZ (lR f i) ^^^ _ = _
    unfold cZ
    rw [if_neg hev]
  unfold lF
  by_cases h1 : k < i
  · rw [if_pos (by omega), if_pos h1]
  by_cases h2 : k = i
  · subst h2
    rw [if_pos (by omega), if_neg (by omega), if_pos (by omega), Nat.sub_self, tb_zero, decide_eq_false hev]
    rfl
  rw [if_neg (by omega), if_neg h1]
  by_cases h3 : k < i + 32
  · rw [if_pos (by omega), if_pos h3, hR, top_bit _ _ _ (by omega) (hf _) (by omega), if_neg (by omega), show k - i = (k - (i + 1)) + 1 by omega, tb_succ]
  · by_cases h4 : k = i + 32
    · subst h4
      rw [if_pos (by omega), if_neg (by omega), hR, top_bit _ _ _ (by omega) (hf _) (by omega), if_pos (by omega)]
      have := hf (i + 32)
      have : f (i + 32) = 0 ∨ f (i + 32) = 1 := by omega
      rcases this with h | h <;> rw [h] <;> rfl
    · rw [if_neg (by omega), if_neg (by omega)]
/-- A step where it is one. -/
theorem lF_odd (f : Nat → Nat) (hf : ∀ k, f k < 2) (i : Nat) (h0 : lF f i i ≠ 0) (k : Nat) : lF f (i + 1) k = gF f i 14 k := by
  have hlt := lR_lt f hf i
  have hod : lR f i % 2 = 1 := by
    refine Classical.byContradiction fun e => h0 ?_
    unfold lF
    rw [if_neg (by omega), if_pos (by omega), Nat.sub_self, tb_zero, decide_eq_false e]
    rfl
  have hR : lR f (i + 1) = (lR f i / 2 ^^^ f (i + 32) * 2 ^ 31) ^^^ 3988292384 := by
    show cZ (lR f i) ^^^ _ = _
    unfold cZ cP
    rw [if_pos hod, Nat.xor_assoc, Nat.xor_comm 3988292384, ← Nat.xor_assoc]
  unfold gF lF
  by_cases h1 : k < i
  · rw [if_pos (by omega), show k - i = 0 by omega, tgB_low 14 0 (by omega) (by omega), if_neg (by decide), if_neg (by omega), if_pos h1]
  by_cases h2 : k = i
  · subst h2
    rw [if_pos (by omega), Nat.sub_self, tgB_low 14 0 (by omega) (by omega), if_neg (by decide), if_pos rfl]
  rw [if_neg (by omega), if_neg h2, if_neg h1]
  by_cases h5 : k < i + 1 + 32
  · rw [if_pos h5, hR, Nat.testBit_xor, xorT, tgB_all (k - i) (by omega) (by omega), show k - i - 1 = k - (i + 1) by omega, top_bit _ _ _ (by omega) (hf _) (by omega)]
    by_cases h3 : k < i + 32
    · rw [if_neg (by omega : ¬ k - (i + 1) = 31), if_pos h3, show k - i = (k - (i + 1)) + 1 by omega, tb_succ]
    · obtain rfl : k = i + 32 := by omega
      rw [if_pos (by omega : i + 32 - (i + 1) = 31), if_neg h3]
      have := hf (i + 32)
      have : f (i + 32) = 0 ∨ f (i + 32) = 1 := by omega
      rcases this with h | h <;> rw [h] <;> rfl
  · rw [if_neg h5, tgB_high 14 (k - i) (by omega) (by omega), if_neg (by decide), if_neg (by omega)]
/-- The document's register, bit by bit. -/
theorem cN_xor (t u : Nat → Nat) (ht : ∀ k, t k < 2) (hu : ∀ k, u k < 2) (i m : Nat) : cN (fun k => t k ^^^ u k) i m = cN t i m ^^^ cN u i m := by
  induction m generalizing i with
  | zero => show (0 : Nat) = 0 ^^^ 0; rfl
  | succ m ih =>
    have h1 := ht i
    have h2 := hu i
    have h3 : t i ^^^ u i < 2 := Nat.xor_lt_two_pow (n := 1) h1 h2
    show (t i ^^^ u i) + 2 * cN _ (i + 1) m = (t i + 2 * cN t (i + 1) m) ^^^ (u i + 2 * cN u (i + 1) m)
    rw [ih (i + 1)]
    have d : ((t i + 2 * cN t (i + 1) m) ^^^ (u i + 2 * cN u (i + 1) m)) / 2 = cN t (i + 1) m ^^^ cN u (i + 1) m := by rw [Nat.xor_div_two]; congr 1 <;> omega
    have q : ((t i + 2 * cN t (i + 1) m) ^^^ (u i + 2 * cN u (i + 1) m)) % 2 = (t i + u i) % 2 := by rw [xm2]; omega
    have q2 : (t i ^^^ u i) % 2 = (t i + u i) % 2 := xm2 _ _
    omega
/-- A text's bits, noughts behind them, the first 32 turned. -/
def oT (t : Nat → Nat) (n : Nat) : Nat → Nat := fun k => if k < n then t k else 0
def oF (t : Nat → Nat) (n : Nat) : Nat → Nat := fun k => if k < 32 then 1 - oT t n k else oT t n k
theorem oT_lt (t : Nat → Nat) (ht : ∀ k, t k < 2) (n k : Nat) : oT t n k < 2 := by
  unfold oT
  split
  · exact ht k
  · omega
theorem oF_lt (t : Nat → Nat) (ht : ∀ k, t k < 2) (n k : Nat) : oF t n k < 2 := by
  have := oT_lt t ht n k
  unfold oF
  split <;> omega
theorem lR_of (t : Nat → Nat) (ht : ∀ k, t k < 2) (n : Nat) : lR (oF t n) n = cR t 4294967295 n := by
  have hT := oT_lt t ht n
  have hl : ∀ i, lR (oF t n) i = cL (oT t n) 4294967295 i := fun i => by
    induction i with
    | zero =>
      show cN (oF t n) 0 32 = 4294967295 ^^^ cN (oT t n) 0 32
      have e : cN (oF t n) 0 32 = cN (fun k => (if k < 32 then 1 else 0) ^^^ oT t n k) 0 32 := by
        have : ∀ (m i : Nat), cN (oF t n) i m = cN (fun k => (if k < 32 then 1 else 0) ^^^ oT t n k) i m := by
          intro m
          induction m with
          | zero => intro i; rfl
          | succ m ih =>
            intro i
            show oF t n i + 2 * _ = ((if i < 32 then 1 else 0) ^^^ oT t n i) + 2 * _
            rw [ih (i + 1)]
            congr 1
            have h := hT i
            have : oT t n i = 0 ∨ oT t n i = 1 := by omega
            unfold oF
            by_cases hi : i < 32
            · rw [if_pos hi, if_pos hi]; rcases this with h | h <;> rw [h] <;> rfl
            · rw [if_neg hi, if_neg hi, Nat.zero_xor]
        exact this 32 0
      rw [e, cN_xor _ _ (fun k => by split <;> omega) hT]
      congr 1
    | succ i ih =>
      rw [cL_step _ hT, ← ih]
      show cZ (lR (oF t n) i) ^^^ oF t n (i + 32) * 2 ^ 31 = _
      rw [show oF t n (i + 32) = oT t n (i + 32) by unfold oF; rw [if_neg (by omega)]]
  rw [hl n]
  unfold cL
  rw [cN_none _ n 32 (fun j _ => by unfold oT; rw [if_neg (by omega)]), Nat.xor_zero]
  exact cR_congr _ _ _ _ (fun k hk => by unfold oT; rw [if_pos hk])
/-- A number's bits, noughts behind them. -/
def aF (a : Nat) : Nat → Nat := fun k => if k < 32 then (a.testBit k).toNat else 0
theorem aF_lt (a k : Nat) : aF a k < 2 := by
  unfold aF
  split
  · exact Bool.toNat_lt _
  · omega
theorem lR_over (a : Nat) (ha : a < 4294967296) (i : Nat) : lR (aF a) i = cZs i a := by
  induction i with
  | zero =>
    show cN (aF a) 0 32 = a
    have : ∀ (m i : Nat), i + m ≤ 32 → cN (aF a) i m = cN (fun k => (a.testBit k).toNat) i m := by
      intro m
      induction m with
      | zero => intro i _; rfl
      | succ m ih =>
        intro i h
        show aF a i + 2 * _ = (a.testBit i).toNat + 2 * _
        rw [ih (i + 1) (by omega)]
        unfold aF
        rw [if_pos (by omega)]
    rw [this 32 0 (by omega), cN_bits 32 a ha]
  | succ i ih =>
    show cZ (lR (aF a) i) ^^^ aF a (i + 32) * 2 ^ 31 = _
    rw [ih, cZs_succ, show aF a (i + 32) = 0 by unfold aF; rw [if_neg (by omega)], Nat.zero_mul, Nat.xor_zero]
end Go.Proofs.YtpmmfmlldkdfhaaDoor
