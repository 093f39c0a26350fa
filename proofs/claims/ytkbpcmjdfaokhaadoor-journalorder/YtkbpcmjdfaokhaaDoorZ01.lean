/-
Plain numbers of layer 11: what is left of a polynomial, coefficient by coefficient.
Plain numbers of layer 11: half bytes, bytes, texts one behind the other, texts laid over one another, runs of turned bits.
-/
import Derived.Test.YtkbpcmjdfaokhaaDoorZ00

set_option linter.unusedVariables false
namespace Go.Proofs.YtkbpcmjdfaokhaaDoor

theorem tb_zero (x : Nat) : x.testBit 0 = decide (x % 2 = 1) := by rw [Nat.testBit_eq_decide_div_mod_eq]; simp
theorem tb_succ (x k : Nat) : x.testBit (k + 1) = (x / 2).testBit k := by rw [Nat.testBit_succ]
/-- The register, beside the coefficients that are still to come. -/
def lR (f : Nat → Nat) : Nat → Nat
  | 0 => cN f 0 32
  | i + 1 => cZ (lR f i) ^^^ f (i + 32) * 2 ^ 31
theorem lR_lt (f : Nat → Nat) (hf : ∀ k, f k < 2) (i : Nat) : lR f i < 4294967296 := by
  induction i with
  | zero => exact cN_lt f hf 0 32
  | succ i ih =>
    have h := hf (i + 32)
    exact Nat.xor_lt_two_pow (n := 32) (cZ_lt _ ih) (by omega)
/-- The coefficients behind so many steps. -/
def lF (f : Nat → Nat) (i k : Nat) : Nat := if k < i then 0 else if k < i + 32 then ((lR f i).testBit (k - i)).toNat else f k
theorem lF_lt (f : Nat → Nat) (hf : ∀ k, f k < 2) (i k : Nat) : lF f i k < 2 := by
  unfold lF
  split
  · omega
  · split
    · exact Bool.toNat_lt _
    · exact hf k
theorem cN_bit (f : Nat → Nat) (hf : ∀ k, f k < 2) (m i k : Nat) (hk : k < m) : ((cN f i m).testBit k).toNat = f (i + k) := by
  induction m generalizing i k with
  | zero => omega
  | succ m ih =>
    have h0 := hf i
    show ((f i + 2 * cN f (i + 1) m).testBit k).toNat = _
    cases k with
    | zero =>
      rw [tb_zero, show (f i + 2 * cN f (i + 1) m) % 2 = f i by omega, Nat.add_zero]
      have : f i = 0 ∨ f i = 1 := by omega
      rcases this with h | h <;> rw [h] <;> rfl
    | succ k =>
      rw [tb_succ, show (f i + 2 * cN f (i + 1) m) / 2 = cN f (i + 1) m by omega, ih (i + 1) k (by omega), show i + 1 + k = i + (k + 1) by omega]
theorem lF_zero (f : Nat → Nat) (hf : ∀ k, f k < 2) (k : Nat) : lF f 0 k = f k := by
  unfold lF
  rw [if_neg (by omega)]
  split
  · show ((cN f 0 32).testBit (k - 0)).toNat = _
    rw [cN_bit f hf 32 0 (k - 0) (by omega), show 0 + (k - 0) = k by omega]
  · rfl
theorem cN_bits (m x : Nat) (hx : x < 2 ^ m) : cN (fun k => (x.testBit k).toNat) 0 m = x := by
  have h : ∀ (m i y : Nat), y < 2 ^ m → (∀ k, k < m → (x.testBit (i + k)) = y.testBit k) → cN (fun k => (x.testBit k).toNat) i m = y := by
    intro m
    induction m with
    | zero => intro i y hy _; obtain rfl : y = 0 := by simpa using hy
              rfl
    | succ m ih =>
      intro i y hy hb
      rw [Nat.pow_succ] at hy
      show (x.testBit i).toNat + 2 * cN _ (i + 1) m = y
      rw [ih (i + 1) (y / 2) (by omega) (fun k hk => by rw [← tb_succ, ← hb (k + 1) (by omega), show i + 1 + k = i + (k + 1) by omega])]
      have h0 := hb 0 (by omega)
      rw [Nat.add_zero] at h0
      rw [h0, tb_zero]
      by_cases e : y % 2 = 1
      · rw [decide_eq_true e]; show 1 + 2 * (y / 2) = y; omega
      · rw [decide_eq_false e]; show 0 + 2 * (y / 2) = y; omega
  exact h m 0 x hx (fun k _ => by rw [Nat.zero_add])
/-- The powers. -/
def pw (m : Nat) : Nat := [26, 23, 22, 16, 12, 11, 10, 8, 7, 5, 4, 2, 1, 0].getD m 0
theorem pw_le (m : Nat) (hm : m < 14) : pw m ≤ 26 := by
  have : ∀ m : Fin 14, pw m.1 ≤ 26 := by decide
  exact this ⟨m, hm⟩
/-- Which are turned by the first ones. -/
def tgB (m d : Nat) : Bool := (List.range m).any (fun q => d == 32 - pw q)
theorem tgB_succ (m d : Nat) : tgB (m + 1) d = (tgB m d || d == 32 - pw m) := by
  unfold tgB
  rw [List.range_succ, List.any_append]
  simp
theorem tgB_new (m : Nat) (hm : m < 14) : tgB m (32 - pw m) = false := by
  have : ∀ m : Fin 14, tgB m.1 (32 - pw m.1) = false := by decide
  exact this ⟨m, hm⟩
theorem tgB_low (m d : Nat) (hm : m ≤ 14) (hd : d < 6) : tgB m d = false := by
  have : ∀ m : Fin 15, ∀ d : Fin 6, tgB m.1 d.1 = false := by decide
  exact this ⟨m, by omega⟩ ⟨d, hd⟩
theorem tgB_all (d : Nat) (h1 : 1 ≤ d) (h2 : d ≤ 32) : tgB 14 d = (3988292384 : Nat).testBit (d - 1) := by
  have : ∀ d : Fin 32, tgB 14 (d.1 + 1) = (3988292384 : Nat).testBit d.1 := by decide
  have h := this ⟨d - 1, by omega⟩
  rw [show d - 1 + 1 = d by omega] at h
  exact h
theorem tgB_high (m d : Nat) (hm : m ≤ 14) (hd : 32 < d) : tgB m d = false := by
  unfold tgB
  rw [List.any_eq_false]
  intro q hq
  have : 32 - pw q ≤ 32 := Nat.sub_le _ _
  simp
  omega
/-- The coefficients, so many of them turned. -/
def gF (f : Nat → Nat) (i m k : Nat) : Nat := if tgB m (k - i) = true then 1 - (if k = i then 0 else lF f i k) else if k = i then 0 else lF f i k
theorem gF_lt (f : Nat → Nat) (hf : ∀ k, f k < 2) (i m k : Nat) : gF f i m k < 2 := by
  have h := lF_lt f hf i k
  unfold gF
  split <;> split <;> omega
theorem gF_zero (f : Nat → Nat) (i k : Nat) : gF f i 0 k = if k = i then 0 else lF f i k := by
  unfold gF
  rw [if_neg (by rw [show tgB 0 (k - i) = false from rfl]; decide)]
theorem gF_step (f : Nat → Nat) (i m k : Nat) (hm : m < 14) : gF f i (m + 1) k = if k = i + 32 - pw m then 1 - gF f i m (i + 32 - pw m) else gF f i m k := by
  have hp := pw_le m hm
  by_cases e : k = i + 32 - pw m
  · rw [if_pos e, e]
    unfold gF
    rw [show i + 32 - pw m - i = 32 - pw m by omega, tgB_succ, tgB_new m hm]
    simp
  · rw [if_neg e]
    unfold gF
    rw [tgB_succ]
    by_cases hk : k - i = 32 - pw m
    · exact absurd (by omega : k = i + 32 - pw m) e
    · rw [show (k - i == 32 - pw m) = false by simpa using hk, Bool.or_false]
theorem xorT (a b : Bool) : (a ^^ b).toNat = if b = true then 1 - a.toNat else a.toNat := by cases a <;> cases b <;> rfl
theorem top_bit (y b j : Nat) (hy : y < 2 ^ 31) (hb : b < 2) (hj : j < 32) : (y ^^^ b * 2 ^ 31).testBit j = if j = 31 then decide (b = 1) else y.testBit j := by
  rw [Nat.testBit_xor]
  by_cases e : j = 31
  · subst e
    rw [if_pos rfl, Nat.testBit_lt_two_pow hy]
    have : b = 0 ∨ b = 1 := by omega
    rcases this with rfl | rfl
    · rfl
    · decide
  · rw [if_neg e]
    have h : (b * 2 ^ 31).testBit j = false := by
      have : b = 0 ∨ b = 1 := by omega
      rcases this with rfl | rfl
      · rw [Nat.zero_mul, Nat.zero_testBit]
      · rw [Nat.one_mul, Nat.testBit_two_pow]; simp; omega
    rw [h, Bool.xor_false]
/-- A step where the highest coefficient is nought. -/
theorem lF_even (f : Nat → Nat) (hf : ∀ k, f k < 2) (i : Nat) (h0 : lF f i i = 0) (k : Nat) : lF f (i + 1) k = lF f i k := by
  have hlt := lR_lt f hf i
  have hev : ¬ lR f i % 2 = 1 := by
    intro e
    unfold lF at h0
    rw [if_neg (by omega), if_pos (by omega), Nat.sub_self, tb_zero, decide_eq_true e] at h0
    cases h0
  have hR : lR f (i + 1) = lR f i / 2 ^^^ f (i + 32) * 2 ^ 31 := by
    show cZ (lR f i) ^^^ _ = _
    unfold cZ
    rw [if_neg hev]
  unfold lF
  by_cases h1 : k < i
  · rw [if_pos (by omega), if_pos h1]
  by_cases h2 : k = i
  · subst h2
    rw [if_pos (by omega), if_neg (by omega), if_pos (by omega), Nat.sub_self, tb_zero, decide_eq_false hev]
    rfl
  rw [if_neg (by omega), if_neg h1]
  by_cases h3 : k < i + 32
  · rw [if_pos (by omega), if_pos h3, hR, top_bit _ _ _ (by omega) (hf _) (by omega), if_neg (by omega), show k - i = (k - (i + 1)) + 1 by omega, tb_succ]
  · by_cases h4 : k = i + 32
    · subst h4
      rw [if_pos (by omega), if_neg (by omega), hR, top_bit _ _ _ (by omega) (hf _) (by omega), if_pos (by omega)]
      have := hf (i + 32)
      have : f (i + 32) = 0 ∨ f (i + 32) = 1 := by omega
      rcases this with h | h <;> rw [h] <;> rfl
    · rw [if_neg (by omega), if_neg (by omega)]
/-- A step where it is one. -/
theorem lF_odd (f : Nat → Nat) (hf : ∀ k, f k < 2) (i : Nat) (h0 : lF f i i ≠ 0) (k : Nat) : lF f (i + 1) k = gF f i 14 k := by
  have hlt := lR_lt f hf i
  have hod : lR f i % 2 = 1 := by
    refine Classical.byContradiction fun e => h0 ?_
    unfold lF
    rw [if_neg (by omega), if_pos (by omega), Nat.sub_self, tb_zero, decide_eq_false e]
    rfl
  have hR : lR f (i + 1) = (lR f i / 2 ^^^ f (i + 32) * 2 ^ 31) ^^^ 3988292384 := by
    show cZ (lR f i) ^^^ _ = _
    unfold cZ cP
    rw [if_pos hod, Nat.xor_assoc, Nat.xor_comm 3988292384, ← Nat.xor_assoc]
  unfold gF lF
  by_cases h1 : k < i
  · rw [if_pos (by omega), show k - i = 0 by omega, tgB_low 14 0 (by omega) (by omega), if_neg (by decide), if_neg (by omega), if_pos h1]
  by_cases h2 : k = i
  · subst h2
    rw [if_pos (by omega), Nat.sub_self, tgB_low 14 0 (by omega) (by omega), if_neg (by decide), if_pos rfl]
  rw [if_neg (by omega), if_neg h2, if_neg h1]
  by_cases h5 : k < i + 1 + 32
  · rw [if_pos h5, hR, Nat.testBit_xor, xorT, tgB_all (k - i) (by omega) (by omega), show k - i - 1 = k - (i + 1) by omega, top_bit _ _ _ (by omega) (hf _) (by omega)]
    by_cases h3 : k < i + 32
    · rw [if_neg (by omega : ¬ k - (i + 1) = 31), if_pos h3, show k - i = (k - (i + 1)) + 1 by omega, tb_succ]
    · obtain rfl : k = i + 32 := by omega
      rw [if_pos (by omega : i + 32 - (i + 1) = 31), if_neg h3]
      have := hf (i + 32)
      have : f (i + 32) = 0 ∨ f (i + 32) = 1 := by omega
      rcases this with h | h <;> rw [h] <;> rfl
  · rw [if_neg h5, tgB_high 14 (k - i) (by omega) (by omega), if_neg (by decide), if_neg (by omega)]
/-- The document's register, bit by bit. -/
theorem cN_xor (t u : Nat → Nat) (ht : ∀ k, t k < 2) (hu : ∀ k, u k < 2) (i m : Nat) : cN (fun k => t k ^^^ u k) i m = cN t i m ^^^ cN u i m := by
  induction m generalizing i with
  | zero => show (0 : Nat) = 0 ^^^ 0; rfl
  | succ m ih =>
    have h1 := ht i
    have h2 := hu i
    have h3 : t i ^^^ u i < 2 := Nat.xor_lt_two_pow (n := 1) h1 h2
    show (t i ^^^ u i) + 2 * cN _ (i + 1) m = (t i + 2 * cN t (i + 1) m) ^^^ (u i + 2 * cN u (i + 1) m)
    rw [ih (i + 1)]
    have d : ((t i + 2 * cN t (i + 1) m) ^^^ (u i + 2 * cN u (i + 1) m)) / 2 = cN t (i + 1) m ^^^ cN u (i + 1) m := by rw [Nat.xor_div_two]; congr 1 <;> omega
    have q : ((t i + 2 * cN t (i + 1) m) ^^^ (u i + 2 * cN u (i + 1) m)) % 2 = (t i + u i) % 2 := by rw [xm2]; omega
    have q2 : (t i ^^^ u i) % 2 = (t i + u i) % 2 := xm2 _ _
    omega
/-- A text's bits, noughts behind them, the first 32 turned. -/
def oT (t : Nat → Nat) (n : Nat) : Nat → Nat := fun k => if k < n then t k else 0
def oF (t : Nat → Nat) (n : Nat) : Nat → Nat := fun k => if k < 32 then 1 - oT t n k else oT t n k
theorem oT_lt (t : Nat → Nat) (ht : ∀ k, t k < 2) (n k : Nat) : oT t n k < 2 := by
  unfold oT
  split
  · exact ht k
  · omega
theorem oF_lt (t : Nat → Nat) (ht : ∀ k, t k < 2) (n k : Nat) : oF t n k < 2 := by
  have := oT_lt t ht n k
  unfold oF
  split <;> omega
theorem lR_of (t : Nat → Nat) (ht : ∀ k, t k < 2) (n : Nat) : lR (oF t n) n = cR t 4294967295 n := by
  have hT := oT_lt t ht n
  have hl : ∀ i, lR (oF t n) i = cL (oT t n) 4294967295 i := fun i => by
    induction i with
    | zero =>
      show cN (oF t n) 0 32 = 4294967295 ^^^ cN (oT t n) 0 32
      have e : cN (oF t n) 0 32 = cN (fun k => (if k < 32 then 1 else 0) ^^^ oT t n k) 0 32 := by
        have : ∀ (m i : Nat), cN (oF t n) i m = cN (fun k => (if k < 32 then 1 else 0) ^^^ oT t n k) i m := by
          intro m
          induction m with
          | zero => intro i; rfl
          | succ m ih =>
            intro i
            show oF t n i + 2 * _ = ((if i < 32 then 1 else 0) ^^^ oT t n i) + 2 * _
            rw [ih (i + 1)]
            congr 1
            have h := hT i
            have : oT t n i = 0 ∨ oT t n i = 1 := by omega
            unfold oF
            by_cases hi : i < 32
            · rw [if_pos hi, if_pos hi]; rcases this with h | h <;> rw [h] <;> rfl
            · rw [if_neg hi, if_neg hi, Nat.zero_xor]
        exact this 32 0
      rw [e, cN_xor _ _ (fun k => by split <;> omega) hT]
      congr 1
    | succ i ih =>
      rw [cL_step _ hT, ← ih]
      show cZ (lR (oF t n) i) ^^^ oF t n (i + 32) * 2 ^ 31 = _
      rw [show oF t n (i + 32) = oT t n (i + 32) by unfold oF; rw [if_neg (by omega)]]
  rw [hl n]
  unfold cL
  rw [cN_none _ n 32 (fun j _ => by unfold oT; rw [if_neg (by omega)]), Nat.xor_zero]
  exact cR_congr _ _ _ _ (fun k hk => by unfold oT; rw [if_pos hk])
/-- A number's bits, noughts behind them. -/
def aF (a : Nat) : Nat → Nat := fun k => if k < 32 then (a.testBit k).toNat else 0
theorem aF_lt (a k : Nat) : aF a k < 2 := by
  unfold aF
  split
  · exact Bool.toNat_lt _
  · omega
theorem lR_over (a : Nat) (ha : a < 4294967296) (i : Nat) : lR (aF a) i = cZs i a := by
  induction i with
  | zero =>
    show cN (aF a) 0 32 = a
    have : ∀ (m i : Nat), i + m ≤ 32 → cN (aF a) i m = cN (fun k => (a.testBit k).toNat) i m := by
      intro m
      induction m with
      | zero => intro i _; rfl
      | succ m ih =>
        intro i h
        show aF a i + 2 * _ = (a.testBit i).toNat + 2 * _
        rw [ih (i + 1) (by omega)]
        unfold aF
        rw [if_pos (by omega)]
    rw [this 32 0 (by omega), cN_bits 32 a ha]
  | succ i ih =>
    show cZ (lR (aF a) i) ^^^ aF a (i + 32) * 2 ^ 31 = _
    rw [ih, cZs_succ, show aF a (i + 32) = 0 by unfold aF; rw [if_neg (by omega)], Nat.zero_mul, Nat.xor_zero]
end Go.Proofs.YtkbpcmjdfaokhaaDoor
set_option linter.unusedVariables false
namespace Go.Proofs.YtkbpcmjdfaokhaaDoor

theorem cZs_pow (k m : Nat) : cZs k (2 ^ k * m) = m := by
  induction k generalizing m with
  | zero => rw [Nat.pow_zero, Nat.one_mul]; rfl
  | succ k ih =>
    show cZs k (cZ (2 ^ (k + 1) * m)) = m
    rw [Nat.pow_succ, Nat.mul_comm (2 ^ k) 2, Nat.mul_assoc, cZ_two, ih]
theorem low_xor (k m b : Nat) (hb : b < 2 ^ k) : 2 ^ k * m + b = 2 ^ k * m ^^^ b := by
  induction k generalizing m b with
  | zero =>
    obtain rfl : b = 0 := by simpa using hb
    rw [Nat.xor_zero, Nat.add_zero]
  | succ k ih =>
    rw [Nat.pow_succ] at hb ⊢
    have h := ih m (b / 2) (by omega)
    have e : 2 ^ k * 2 * m = 2 * (2 ^ k * m) := by rw [Nat.mul_comm (2 ^ k) 2, Nat.mul_assoc]
    have d : (2 ^ k * 2 * m ^^^ b) / 2 = 2 ^ k * m ^^^ b / 2 := by rw [Nat.xor_div_two, e]; congr 1; omega
    have q : (2 ^ k * 2 * m ^^^ b) % 2 = b % 2 := by rw [xm2, e]; omega
    rw [← h] at d
    rw [e] at d q ⊢
    omega
/-- Half a byte further, by a table. -/
theorem half_eq (r : Nat) : cZs 4 r = r / 16 ^^^ cZs 4 (r % 16) := by
  have e : r = 2 ^ 4 * (r / 16) ^^^ r % 16 := by
    rw [← low_xor 4 (r / 16) (r % 16) (by omega)]
    omega
  have h : cZs 4 r = cZs 4 (2 ^ 4 * (r / 16) ^^^ r % 16) := by rw [← e]
  rw [h, cZs_xor, cZs_pow]
/-- The bits of a number, the lowest first. -/
theorem cR_number (m r x : Nat) (hx : x < 2 ^ m) : cR (fun k => x / 2 ^ k % 2) r m = cZs m (r ^^^ x) := by
  induction m generalizing r x with
  | zero =>
    obtain rfl : x = 0 := by simpa using hx
    show r = r ^^^ 0
    rw [Nat.xor_zero]
  | succ m ih =>
    rw [Nat.pow_succ] at hx
    rw [Nat.add_comm m 1, cR_add]
    have e1 : cR (fun k => x / 2 ^ k % 2) r 1 = cZ (r ^^^ x % 2) := by show cZ (r ^^^ x / 2 ^ 0 % 2) = _; rw [Nat.pow_zero, Nat.div_one]
    have e2 : (fun k => x / 2 ^ (1 + k) % 2) = (fun k => x / 2 / 2 ^ k % 2) := by
      funext k
      rw [Nat.div_div_eq_div_mul, Nat.add_comm 1 k, Nat.pow_succ, Nat.mul_comm 2]
    rw [e1, e2, ih _ (x / 2) (by omega), Nat.add_comm 1 m]
    show cZs m (cZ (r ^^^ x % 2) ^^^ x / 2) = cZs m (cZ (r ^^^ x))
    have e3 : r ^^^ x = (r ^^^ x % 2) ^^^ 2 * (x / 2) := by
      rw [Nat.xor_assoc, Nat.xor_comm (x % 2), ← two_xor _ _ (by omega), show 2 * (x / 2) + x % 2 = x by omega]
    rw [e3, cZ_xor (r ^^^ x % 2) (2 * (x / 2)), cZ_two]
/-- The bits of a text. -/
def cBt (f : Nat → Nat) : Nat → Nat := fun k => f (k / 8) / 2 ^ (k % 8) % 2
theorem cBt_lt (f : Nat → Nat) (k : Nat) : cBt f k < 2 := Nat.mod_lt _ (by omega)
theorem cR_byte (f : Nat → Nat) (r j : Nat) (hf : f j < 256) : cR (cBt f) r (8 * (j + 1)) = cZs 8 (cR (cBt f) r (8 * j) ^^^ f j) := by
  rw [show 8 * (j + 1) = 8 * j + 8 by omega, cR_add, ← cR_number 8 _ (f j) hf]
  refine cR_congr _ _ _ _ (fun k hk => ?_)
  unfold cBt
  rw [show (8 * j + k) / 8 = j by omega, show (8 * j + k) % 8 = k by omega]
/-- Several texts, one behind the other. -/
def cF (ns : Nat → Nat) (fs : Nat → Nat → Nat) (r : Nat) : Nat → Nat
  | 0 => r
  | j + 1 => cR (cBt (fs j)) (cF ns fs r j) (8 * ns j)
theorem cF_lt (ns : Nat → Nat) (fs : Nat → Nat → Nat) (r : Nat) (hr : r < 4294967296) (j : Nat) : cF ns fs r j < 4294967296 := by
  induction j with
  | zero => exact hr
  | succ j ih => exact cR_lt _ _ ih (cBt_lt _) _
/-- One text behind the other. -/
def jn (f g : Nat → Nat) (n : Nat) : Nat → Nat := fun k => if k < n then f k else g (k - n)
theorem jn_lt (f g : Nat → Nat) (n : Nat) (hf : ∀ k, f k < 256) (hg : ∀ k, g k < 256) (k : Nat) : jn f g n k < 256 := by
  unfold jn
  split
  · exact hf k
  · exact hg _
theorem cR_jn (f g : Nat → Nat) (n m r : Nat) : cR (cBt (jn f g n)) r (8 * (n + m)) = cR (cBt g) (cR (cBt f) r (8 * n)) (8 * m) := by
  rw [Nat.mul_add, cR_add]
  rw [cR_congr (cBt (jn f g n)) (cBt f) r (8 * n) (fun k hk => by unfold cBt jn; rw [if_pos (by omega)])]
  refine cR_congr _ _ _ _ (fun k hk => ?_)
  unfold cBt jn
  rw [if_neg (by omega), show (8 * n + k) / 8 - n = k / 8 by omega, show (8 * n + k) % 8 = k % 8 by omega]
/-- The parts that are read so far, as one text. -/
def cA (ns : Nat → Nat) (fs : Nat → Nat → Nat) : Nat → Nat × (Nat → Nat)
  | 0 => (0, fun _ => 0)
  | j + 1 => ((cA ns fs j).1 + ns j, jn (cA ns fs j).2 (fs j) (cA ns fs j).1)
theorem cA_lt (ns : Nat → Nat) (fs : Nat → Nat → Nat) (K : Nat) (hf : ∀ j k, fs j k < 256) (j : Nat) : ∀ k, (cA ns fs j).2 k < 256 := by
  induction j with
  | zero => intro k; exact Nat.zero_lt_succ _
  | succ j ih => exact jn_lt _ _ _ ih (hf j)
theorem cF_cA (ns : Nat → Nat) (fs : Nat → Nat → Nat) (r j : Nat) : cF ns fs r j = cR (cBt (cA ns fs j).2) r (8 * (cA ns fs j).1) := by
  induction j with
  | zero => rfl
  | succ j ih =>
    show cR (cBt (fs j)) (cF ns fs r j) (8 * ns j) = cR (cBt (jn (cA ns fs j).2 (fs j) (cA ns fs j).1)) r (8 * ((cA ns fs j).1 + ns j))
    rw [cR_jn, ih]
theorem ones_xor (b : Nat) (hb : b < 4294967296) : 4294967295 - b = 4294967295 ^^^ b := by
  have h : ∀ (k : Nat) (b : Nat), b < 2 ^ k → (2 ^ k - 1) ^^^ b = 2 ^ k - 1 - b := by
    intro k
    induction k with
    | zero => intro b hb; obtain rfl : b = 0 := by simpa using hb
              rfl
    | succ k ih =>
      intro b hb
      have hp : 0 < 2 ^ k := Nat.two_pow_pos k
      rw [Nat.pow_succ] at hb ⊢
      have h1 := ih (b / 2) (by omega)
      have d : ((2 ^ k * 2 - 1) ^^^ b) / 2 = (2 ^ k - 1) ^^^ (b / 2) := by rw [Nat.xor_div_two]; congr 1; omega
      have m : ((2 ^ k * 2 - 1) ^^^ b) % 2 = (2 ^ k * 2 - 1 + b) % 2 := xm2 _ _
      rw [h1] at d
      omega
  exact (h 32 b hb).symm
/-- A text's sum. -/
def cS (f : Nat → Nat) (n : Nat) : Nat := 4294967295 - cR (cBt f) 4294967295 (8 * n)
theorem cS_lt (f : Nat → Nat) (n : Nat) : cS f n < 4294967296 := by unfold cS; omega
theorem cS_xor (f : Nat → Nat) (n : Nat) : cS f n = 4294967295 ^^^ cR (cBt f) 4294967295 (8 * n) := ones_xor _ (cR_lt _ _ (by omega) (cBt_lt f) _)
theorem not_not32 (x : Nat) (h : x < 4294967296) : 4294967295 - (4294967295 - x) = x := by omega
/-- Two texts' sums, joined. -/
theorem two_join (f g : Nat → Nat) (n m : Nat) : cZs (8 * m) (cS f n) ^^^ cS g m = cS (jn f g n) (n + m) := by
  have hA := cR_lt (cBt f) 4294967295 (by omega) (cBt_lt f) (8 * n)
  rw [cS_xor f n, cS_xor g m, cS_xor (jn f g n) (n + m), cR_jn]
  generalize cR (cBt f) 4294967295 (8 * n) = R at *
  have h := cR_xor (cBt g) (fun _ => 0) 4294967295 (4294967295 ^^^ R) (8 * m)
  have e1 : (fun k => cBt g k ^^^ 0) = cBt g := by funext k; rw [Nat.xor_zero]
  rw [e1, ← Nat.xor_assoc, Nat.xor_self, Nat.zero_xor, cR_none] at h
  rw [h]
  generalize cZs (8 * m) (4294967295 ^^^ R) = Z
  generalize cR (cBt g) 4294967295 (8 * m) = Y
  rw [← Nat.xor_assoc Z, Nat.xor_comm Z 4294967295, Nat.xor_assoc, Nat.xor_comm Z Y]
/-- Three texts laid over one another. -/
theorem cBt_xor (f g : Nat → Nat) (k : Nat) : cBt (fun i => f i ^^^ g i) k = cBt f k ^^^ cBt g k := by
  unfold cBt
  have h : ∀ (j a b : Nat), (a ^^^ b) / 2 ^ j % 2 = (a / 2 ^ j % 2) ^^^ (b / 2 ^ j % 2) := by
    intro j
    induction j with
    | zero =>
      intro a b
      rw [Nat.pow_zero, Nat.div_one, Nat.div_one, Nat.div_one, xm2]
      have h1 : a % 2 = 0 ∨ a % 2 = 1 := by omega
      have h2 : b % 2 = 0 ∨ b % 2 = 1 := by omega
      rcases h1 with h1 | h1 <;> rcases h2 with h2 | h2 <;> rw [h1, h2] <;> simp <;> omega
    | succ j ih =>
      intro a b
      rw [Nat.pow_succ, Nat.mul_comm (2 ^ j) 2, ← Nat.div_div_eq_div_mul, ← Nat.div_div_eq_div_mul, ← Nat.div_div_eq_div_mul, Nat.xor_div_two, ih]
  exact h _ _ _
theorem three_laid (f g h : Nat → Nat) (n : Nat) : cS (fun i => f i ^^^ g i ^^^ h i) n = cS f n ^^^ cS g n ^^^ cS h n := by
  rw [cS_xor, cS_xor f, cS_xor g, cS_xor h]
  have e1 : cBt (fun i => f i ^^^ g i ^^^ h i) = fun k => (cBt f k ^^^ cBt g k) ^^^ cBt h k := by
    funext k
    rw [cBt_xor (fun i => f i ^^^ g i) h, cBt_xor f g]
  have e2 : (4294967295 : Nat) = (4294967295 ^^^ 4294967295) ^^^ 4294967295 := by rw [Nat.xor_self, Nat.zero_xor]
  have e3 : cR (cBt (fun i => f i ^^^ g i ^^^ h i)) 4294967295 (8 * n) = cR (cBt f) 4294967295 (8 * n) ^^^ cR (cBt g) 4294967295 (8 * n) ^^^ cR (cBt h) 4294967295 (8 * n) := by
    rw [e1]
    have a1 := cR_xor (fun k => cBt f k ^^^ cBt g k) (cBt h) (4294967295 ^^^ 4294967295) 4294967295 (8 * n)
    have a2 := cR_xor (cBt f) (cBt g) 4294967295 4294967295 (8 * n)
    rw [← e2] at a1
    rw [a1, a2]
  rw [e3]
  generalize cR (cBt f) 4294967295 (8 * n) = A
  generalize cR (cBt g) 4294967295 (8 * n) = B
  generalize cR (cBt h) 4294967295 (8 * n) = C
  have e4 : ∀ o : Nat, o ^^^ (A ^^^ B ^^^ C) = (o ^^^ A) ^^^ (o ^^^ B) ^^^ (o ^^^ C) := by
    intro o
    rw [Nat.xor_comm o A, Nat.xor_assoc A o, ← Nat.xor_assoc o o B, Nat.xor_self, Nat.zero_xor, Nat.xor_comm o (A ^^^ B ^^^ C), Nat.xor_assoc (A ^^^ B), Nat.xor_comm C o]
  exact e4 _
/-- A run of turned bits is told. -/
theorem burst_text (f c : Nat → Nat) (n at' x : Nat) (hx : x < 4294967296) (hx0 : x ≠ 0) (hat : at' < 8 * n) (hc : ∀ k, k < 8 * n → cBt c k = cBt f k ^^^ (if at' ≤ k ∧ k < at' + 32 then (x.testBit (k - at')).toNat else 0)) (hin : ∀ k, k < 32 → x.testBit k = true → at' + k < 8 * n) : cS f n ≠ cS c n := by
  intro e
  have hF := cR_lt (cBt f) 4294967295 (by omega) (cBt_lt f) (8 * n)
  have hC := cR_lt (cBt c) 4294967295 (by omega) (cBt_lt c) (8 * n)
  have e2 : cR (cBt f) 4294967295 (8 * n) = cR (cBt c) 4294967295 (8 * n) := by
    unfold cS at e
    omega
  let t : Nat → Nat := fun k => if k < 8 * n then (if at' ≤ k ∧ k < at' + 32 then (x.testBit (k - at')).toNat else 0) else 0
  have ht : ∀ k, t k < 2 := fun k => by
    show (if k < 8 * n then _ else 0) < 2
    split
    · split
      · exact Bool.toNat_lt _
      · omega
    · omega
  have h := cR_xor (cBt f) (cBt c) 4294967295 4294967295 (8 * n)
  rw [e2, Nat.xor_self, Nat.xor_self] at h
  have h2 : cR (fun k => cBt f k ^^^ cBt c k) 0 (8 * n) = cR t 0 (8 * n) := cR_congr _ _ _ _ (fun k hk => by
    show cBt f k ^^^ cBt c k = if k < 8 * n then _ else 0
    rw [if_pos hk, hc k hk, ← Nat.xor_assoc, Nat.xor_self, Nat.zero_xor])
  rw [h2] at h
  refine burst_ne t ht at' (8 * n) (fun k hk => ?_) (fun k hk => ?_) (fun k hk => ?_) ?_ (by omega) h
  · show (if k < 8 * n then (if at' ≤ k ∧ k < at' + 32 then _ else 0) else 0) = 0
    rw [if_neg (show ¬ (at' ≤ k ∧ k < at' + 32) by omega)]
    split <;> rfl
  · show (if k < 8 * n then (if at' ≤ k ∧ k < at' + 32 then _ else 0) else 0) = 0
    rw [if_neg (show ¬ (at' ≤ k ∧ k < at' + 32) by omega)]
    split <;> rfl
  · show (if k < 8 * n then _ else 0) = 0
    rw [if_neg (by omega)]
  · have e3 : cN t at' 32 = x := by
      have hg : ∀ (m i : Nat), i + m ≤ 32 → cN t (at' + i) m = cN (fun k => (x.testBit k).toNat) i m := by
        intro m
        induction m with
        | zero => intro i _; rfl
        | succ m ih =>
          intro i hi
          show t (at' + i) + 2 * cN t (at' + i + 1) m = (x.testBit i).toNat + 2 * cN _ (i + 1) m
          rw [show at' + i + 1 = at' + (i + 1) by omega, ih (i + 1) (by omega)]
          congr 1
          show (if at' + i < 8 * n then (if at' ≤ at' + i ∧ at' + i < at' + 32 then (x.testBit (at' + i - at')).toNat else 0) else 0) = _
          rw [if_pos (show at' ≤ at' + i ∧ at' + i < at' + 32 by omega), show at' + i - at' = i by omega]
          by_cases hb : x.testBit i = true
          · rw [if_pos (hin i (by omega) hb)]
          · rw [Bool.not_eq_true] at hb
            rw [hb]
            split <;> rfl
      have := hg 32 0 (by omega)
      rw [Nat.add_zero] at this
      rw [this, cN_bits 32 x hx]
    rw [e3]
    exact hx0
end Go.Proofs.YtkbpcmjdfaokhaaDoor
