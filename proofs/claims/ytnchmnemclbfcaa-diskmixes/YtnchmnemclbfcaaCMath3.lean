/-
  Plain numbers of layer 11: half bytes, bytes, texts one behind the other, texts laid over one another, runs of turned bits.
-/
import Derived.Test.YtnchmnemclbfcaaCMath2
set_option linter.unusedVariables false
namespace Go.Proofs.Ytnchmnemclbfcaa

theorem cZs_pow (k m : Nat) : cZs k (2 ^ k * m) = m := by
  induction k generalizing m with
  | zero => rw [Nat.pow_zero, Nat.one_mul]; rfl
  | succ k ih =>
    show cZs k (cZ (2 ^ (k + 1) * m)) = m
    rw [Nat.pow_succ, Nat.mul_comm (2 ^ k) 2, Nat.mul_assoc, cZ_two, ih]
theorem low_xor (k m b : Nat) (hb : b < 2 ^ k) : 2 ^ k * m + b = 2 ^ k * m ^^^ b := by
  induction k generalizing m b with
  | zero =>
    obtain rfl : b = 0 := by simpa using hb
    rw [Nat.xor_zero, Nat.add_zero]
  | succ k ih =>
    rw [Nat.pow_succ] at hb ⊢
    have h := ih m (b / 2) (by omega)
    have e : 2 ^ k * 2 * m = 2 * (2 ^ k * m) := by rw [Nat.mul_comm (2 ^ k) 2, Nat.mul_assoc]
    have d : (2 ^ k * 2 * m ^^^ b) / 2 = 2 ^ k * m ^^^ b / 2 := by rw [Nat.xor_div_two, e]; congr 1; omega
    have q : (2 ^ k * 2 * m ^^^ b) % 2 = b % 2 := by rw [xm2, e]; omega
    rw [← h] at d
    rw [e] at d q ⊢
    omega
/-- Half a byte further, by a table. -/
theorem half_eq (r : Nat) : cZs 4 r = r / 16 ^^^ cZs 4 (r % 16) := by
  have e : r = 2 ^ 4 * (r / 16) ^^^ r % 16 := by
    rw [← low_xor 4 (r / 16) (r % 16) (by omega)]
    omega
  have h : cZs 4 r = cZs 4 (2 ^ 4 * (r / 16) ^^^ r % 16) := by rw [← e]
  rw [h, cZs_xor, cZs_pow]
/-- The bits of a number, the lowest first. -/
theorem cR_number (m r x : Nat) (hx : x < 2 ^ m) : cR (fun k => x / 2 ^ k % 2) r m = cZs m (r ^^^ x) := by
  induction m generalizing r x with
  | zero =>
    obtain rfl : x = 0 := by simpa using hx
    show r = r ^^^ 0
    rw [Nat.xor_zero]
  | succ m ih =>
    rw [Nat.pow_succ] at hx
    rw [Nat.add_comm m 1, cR_add]
    have e1 : cR (fun k => x / 2 ^ k % 2) r 1 = cZ (r ^^^ x % 2) := by show cZ (r ^^^ x / 2 ^ 0 % 2) = _; rw [Nat.pow_zero, Nat.div_one]
    have e2 : (fun k => x / 2 ^ (1 + k) % 2) = (fun k => x / 2 / 2 ^ k % 2) := by
      funext k
      rw [Nat.div_div_eq_div_mul, Nat.add_comm 1 k, Nat.pow_succ, Nat.mul_comm 2]
    rw [e1, e2, ih _ (x / 2) (by omega), Nat.add_comm 1 m]
    show cZs m (cZ (r ^^^ x % 2) ^^^ x / 2) = cZs m (cZ (r ^^^ x))
    have e3 : r ^^^ x = (r ^^^ x % 2) ^^^ 2 * (x / 2) := by
      rw [Nat.xor_assoc, Nat.xor_comm (x % 2), ← two_xor _ _ (by omega), show 2 * (x / 2) + x % 2 = x by omega]
    rw [e3, cZ_xor (r ^^^ x % 2) (2 * (x / 2)), cZ_two]
/-- The bits of a text. -/
def cBt (f : Nat → Nat) : Nat → Nat := fun k => f (k / 8) / 2 ^ (k % 8) % 2
theorem cBt_lt (f : Nat → Nat) (k : Nat) : cBt f k < 2 := Nat.mod_lt _ (by omega)
theorem cR_byte (f : Nat → Nat) (r j : Nat) (hf : f j < 256) : cR (cBt f) r (8 * (j + 1)) = cZs 8 (cR (cBt f) r (8 * j) ^^^ f j) := by
  rw [show 8 * (j + 1) = 8 * j + 8 by omega, cR_add, ← cR_number 8 _ (f j) hf]
  refine cR_congr _ _ _ _ (fun k hk => ?_)
  unfold cBt
  rw [show (8 * j + k) / 8 = j by omega, show (8 * j + k) % 8 = k by omega]
/-- Several texts, one behind the other. -/
def cF (ns : Nat → Nat) (fs : Nat → Nat → Nat) (r : Nat) : Nat → Nat
  | 0 => r
  | j + 1 => cR (cBt (fs j)) (cF ns fs r j) (8 * ns j)
theorem cF_lt (ns : Nat → Nat) (fs : Nat → Nat → Nat) (r : Nat) (hr : r < 4294967296) (j : Nat) : cF ns fs r j < 4294967296 := by
  induction j with
  | zero => exact hr
  | succ j ih => exact cR_lt _ _ ih (cBt_lt _) _
/-- One text behind the other. -/
def jn (f g : Nat → Nat) (n : Nat) : Nat → Nat := fun k => if k < n then f k else g (k - n)
theorem jn_lt (f g : Nat → Nat) (n : Nat) (hf : ∀ k, f k < 256) (hg : ∀ k, g k < 256) (k : Nat) : jn f g n k < 256 := by
  unfold jn
  split
  · exact hf k
  · exact hg _
theorem cR_jn (f g : Nat → Nat) (n m r : Nat) : cR (cBt (jn f g n)) r (8 * (n + m)) = cR (cBt g) (cR (cBt f) r (8 * n)) (8 * m) := by
  rw [Nat.mul_add, cR_add]
  rw [cR_congr (cBt (jn f g n)) (cBt f) r (8 * n) (fun k hk => by unfold cBt jn; rw [if_pos (by omega)])]
  refine cR_congr _ _ _ _ (fun k hk => ?_)
  unfold cBt jn
  rw [if_neg (by omega), show (8 * n + k) / 8 - n = k / 8 by omega, show (8 * n + k) % 8 = k % 8 by omega]
/-- The parts that are read so far, as one text. -/
def cA (ns : Nat → Nat) (fs : Nat → Nat → Nat) : Nat → Nat × (Nat → Nat)
  | 0 => (0, fun _ => 0)
  | j + 1 => ((cA ns fs j).1 + ns j, jn (cA ns fs j).2 (fs j) (cA ns fs j).1)
theorem cA_lt (ns : Nat → Nat) (fs : Nat → Nat → Nat) (K : Nat) (hf : ∀ j k, fs j k < 256) (j : Nat) : ∀ k, (cA ns fs j).2 k < 256 := by
  induction j with
  | zero => intro k; exact Nat.zero_lt_succ _
  | succ j ih => exact jn_lt _ _ _ ih (hf j)
theorem cF_cA (ns : Nat → Nat) (fs : Nat → Nat → Nat) (r j : Nat) : cF ns fs r j = cR (cBt (cA ns fs j).2) r (8 * (cA ns fs j).1) := by
  induction j with
  | zero => rfl
  | succ j ih =>
    show cR (cBt (fs j)) (cF ns fs r j) (8 * ns j) = cR (cBt (jn (cA ns fs j).2 (fs j) (cA ns fs j).1)) r (8 * ((cA ns fs j).1 + ns j))
    rw [cR_jn, ih]
theorem ones_xor (b : Nat) (hb : b < 4294967296) : 4294967295 - b = 4294967295 ^^^ b := by
  have h : ∀ (k : Nat) (b : Nat), b < 2 ^ k → (2 ^ k - 1) ^^^ b = 2 ^ k - 1 - b := by
    intro k
    induction k with
    | zero => intro b hb; obtain rfl : b = 0 := by simpa using hb
              rfl
    | succ k ih =>
      intro b hb
      have hp : 0 < 2 ^ k := Nat.two_pow_pos k
      rw [Nat.pow_succ] at hb ⊢
      have h1 := ih (b / 2) (by omega)
      have d : ((2 ^ k * 2 - 1) ^^^ b) / 2 = (2 ^ k - 1) ^^^ (b / 2) := by rw [Nat.xor_div_two]; congr 1; omega
      have m : ((2 ^ k * 2 - 1) ^^^ b) % 2 = (2 ^ k * 2 - 1 + b) % 2 := xm2 _ _
      rw [h1] at d
      omega
  exact (h 32 b hb).symm
/-- A text's sum. -/
def cS (f : Nat → Nat) (n : Nat) : Nat := 4294967295 - cR (cBt f) 4294967295 (8 * n)
theorem cS_lt (f : Nat → Nat) (n : Nat) : cS f n < 4294967296 := by unfold cS; omega
theorem cS_xor (f : Nat → Nat) (n : Nat) : cS f n = 4294967295 ^^^ cR (cBt f) 4294967295 (8 * n) := ones_xor _ (cR_lt _ _ (by omega) (cBt_lt f) _)
theorem not_not32 (x : Nat) (h : x < 4294967296) : 4294967295 - (4294967295 - x) = x := by omega
/-- Two texts' sums, joined. -/
theorem two_join (f g : Nat → Nat) (n m : Nat) : cZs (8 * m) (cS f n) ^^^ cS g m = cS (jn f g n) (n + m) := by
  have hA := cR_lt (cBt f) 4294967295 (by omega) (cBt_lt f) (8 * n)
  rw [cS_xor f n, cS_xor g m, cS_xor (jn f g n) (n + m), cR_jn]
  generalize cR (cBt f) 4294967295 (8 * n) = R at *
  have h := cR_xor (cBt g) (fun _ => 0) 4294967295 (4294967295 ^^^ R) (8 * m)
  have e1 : (fun k => cBt g k ^^^ 0) = cBt g := by funext k; rw [Nat.xor_zero]
  rw [e1, ← Nat.xor_assoc, Nat.xor_self, Nat.zero_xor, cR_none] at h
  rw [h]
  generalize cZs (8 * m) (4294967295 ^^^ R) = Z
  generalize cR (cBt g) 4294967295 (8 * m) = Y
  rw [← Nat.xor_assoc Z, Nat.xor_comm Z 4294967295, Nat.xor_assoc, Nat.xor_comm Z Y]
/-- Three texts laid over one another. -/
theorem cBt_xor (f g : Nat → Nat) (k : Nat) : cBt (fun i => f i ^^^ g i) k = cBt f k ^^^ cBt g k := by
  unfold cBt
  have h : ∀ (j a b : Nat), (a ^^^ b) / 2 ^ j % 2 = (a / 2 ^ j % 2) ^^^ (b / 2 ^ j % 2) := by
    intro j
    induction j with
    | zero =>
      intro a b
      rw [Nat.pow_zero, Nat.div_one, Nat.div_one, Nat.div_one, xm2]
      have h1 : a % 2 = 0 ∨ a % 2 = 1 := by omega
      have h2 : b % 2 = 0 ∨ b % 2 = 1 := by omega
      rcases h1 with h1 | h1 <;> rcases h2 with h2 | h2 <;> rw [h1, h2] <;> simp <;> omega
    | succ j ih =>
      intro a b
      rw [Nat.pow_succ, Nat.mul_comm (2 ^ j) 2, ← Nat.div_div_eq_div_mul, ← Nat.div_div_eq_div_mul, ← Nat.div_div_eq_div_mul, Nat.xor_div_two, ih]
  exact h _ _ _
theorem three_laid (f g h : Nat → Nat) (n : Nat) : cS (fun i => f i ^^^ g i ^^^ h i) n = cS f n ^^^ cS g n ^^^ cS h n := by
  rw [cS_xor, cS_xor f, cS_xor g, cS_xor h]
  have e1 : cBt (fun i => f i ^^^ g i ^^^ h i) = fun k => (cBt f k ^^^ cBt g k) ^^^ cBt h k := by
    funext k
    rw [cBt_xor (fun i => f i ^^^ g i) h, cBt_xor f g]
  have e2 : (4294967295 : Nat) = (4294967295 ^^^ 4294967295) ^^^ 4294967295 := by rw [Nat.xor_self, Nat.zero_xor]
  have e3 : cR (cBt (fun i => f i ^^^ g i ^^^ h i)) 4294967295 (8 * n) = cR (cBt f) 4294967295 (8 * n) ^^^ cR (cBt g) 4294967295 (8 * n) ^^^ cR (cBt h) 4294967295 (8 * n) := by
    rw [e1]
    have a1 := cR_xor (fun k => cBt f k ^^^ cBt g k) (cBt h) (4294967295 ^^^ 4294967295) 4294967295 (8 * n)
    have a2 := cR_xor (cBt f) (cBt g) 4294967295 4294967295 (8 * n)
    rw [← e2] at a1
    rw [a1, a2]
  rw [e3]
  generalize cR (cBt f) 4294967295 (8 * n) = A
  generalize cR (cBt g) 4294967295 (8 * n) = B
  generalize cR (cBt h) 4294967295 (8 * n) = C
  have e4 : ∀ o : Nat, o ^^^ (A ^^^ B ^^^ C) = (o ^^^ A) ^^^ (o ^^^ B) ^^^ (o ^^^ C) := by
    intro o
    rw [Nat.xor_comm o A, Nat.xor_assoc A o, ← Nat.xor_assoc o o B, Nat.xor_self, Nat.zero_xor, Nat.xor_comm o (A ^^^ B ^^^ C), Nat.xor_assoc (A ^^^ B), Nat.xor_comm C o]
  exact e4 _
/-- A run of turned bits is told. -/
theorem burst_text (f c : Nat → Nat) (n at' x : Nat) (hx : x < 4294967296) (hx0 : x ≠ 0) (hat : at' < 8 * n) (hc : ∀ k, k < 8 * n → cBt c k = cBt f k ^^^ (if at' ≤ k ∧ k < at' + 32 then (x.testBit (k - at')).toNat else 0)) (hin : ∀ k, k < 32 → x.testBit k = true → at' + k < 8 * n) : cS f n ≠ cS c n := by
  intro e
  have hF := cR_lt (cBt f) 4294967295 (by omega) (cBt_lt f) (8 * n)
  have hC := cR_lt (cBt c) 4294967295 (by omega) (cBt_lt c) (8 * n)
  have e2 : cR (cBt f) 4294967295 (8 * n) = cR (cBt c) 4294967295 (8 * n) := by
    unfold cS at e
    omega
  let t : Nat → Nat := fun k => if k < 8 * n then (if at' ≤ k ∧ k < at' + 32 then (x.testBit (k - at')).toNat else 0) else 0
  have ht : ∀ k, t k < 2 := fun k => by
    show (if k < 8 * n then _ else 0) < 2
    split
    · split
      · exact Bool.toNat_lt _
      · omega
    · omega
  have h := cR_xor (cBt f) (cBt c) 4294967295 4294967295 (8 * n)
  rw [e2, Nat.xor_self, Nat.xor_self] at h
  have h2 : cR (fun k => cBt f k ^^^ cBt c k) 0 (8 * n) = cR t 0 (8 * n) := cR_congr _ _ _ _ (fun k hk => by
    show cBt f k ^^^ cBt c k = if k < 8 * n then _ else 0
    rw [if_pos hk, hc k hk, ← Nat.xor_assoc, Nat.xor_self, Nat.zero_xor])
  rw [h2] at h
  refine burst_ne t ht at' (8 * n) (fun k hk => ?_) (fun k hk => ?_) (fun k hk => ?_) ?_ (by omega) h
  · show (if k < 8 * n then (if at' ≤ k ∧ k < at' + 32 then _ else 0) else 0) = 0
    rw [if_neg (show ¬ (at' ≤ k ∧ k < at' + 32) by omega)]
    split <;> rfl
  · show (if k < 8 * n then (if at' ≤ k ∧ k < at' + 32 then _ else 0) else 0) = 0
    rw [if_neg (show ¬ (at' ≤ k ∧ k < at' + 32) by omega)]
    split <;> rfl
  · show (if k < 8 * n then _ else 0) = 0
    rw [if_neg (by omega)]
  · have e3 : cN t at' 32 = x := by
      have hg : ∀ (m i : Nat), i + m ≤ 32 → cN t (at' + i) m = cN (fun k => (x.testBit k).toNat) i m := by
        intro m
        induction m with
        | zero => intro i _; rfl
        | succ m ih =>
          intro i hi
          show t (at' + i) + 2 * cN t (at' + i + 1) m = (x.testBit i).toNat + 2 * cN _ (i + 1) m
          rw [show at' + i + 1 = at' + (i + 1) by omega, ih (i + 1) (by omega)]
          congr 1
          show (if at' + i < 8 * n then (if at' ≤ at' + i ∧ at' + i < at' + 32 then (x.testBit (at' + i - at')).toNat else 0) else 0) = _
          rw [if_pos (show at' ≤ at' + i ∧ at' + i < at' + 32 by omega), show at' + i - at' = i by omega]
          by_cases hb : x.testBit i = true
          · rw [if_pos (hin i (by omega) hb)]
          · rw [Bool.not_eq_true] at hb
            rw [hb]
            split <;> rfl
      have := hg 32 0 (by omega)
      rw [Nat.add_zero] at this
      rw [this, cN_bits 32 x hx]
    rw [e3]
    exact hx0
end Go.Proofs.Ytnchmnemclbfcaa
