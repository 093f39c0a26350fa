/-
  Layer 12's plain numbers: forms as lists of bytes; what is read of them, and what is left.
-/
import Derived.Test.YtpmmfmlldkdfhaaDoorProg

set_option linter.unusedVariables false
namespace Go.Proofs.YtpmmfmlldkdfhaaDoor

/-- A count's form. -/
def enU (n : Nat) : List Nat := if h : n < 128 then [n] else (n % 128 + 128) :: enU (n / 128)
termination_by n
decreasing_by omega
theorem enU_lt {n : Nat} (h : n < 128) : enU n = [n] := by rw [enU, dif_pos h]
theorem enU_ge {n : Nat} (h : 128 ≤ n) : enU n = (n % 128 + 128) :: enU (n / 128) := by rw [enU, dif_neg (by omega)]
/-- A whole number as a count, and back. -/
def ctI (n : Int) : Nat := if n < 0 then (2 * (-(n + 1)) + 1).toNat else (2 * n).toNat
def ofC (n : Nat) : Int := if n % 2 = 1 then -((n / 2 : Nat) : Int) - 1 else ((n / 2 : Nat) : Int)
theorem ofC_ct (n : Int) : ofC (ctI n) = n := by
  unfold ofC ctI
  by_cases h : n < 0
  · rw [if_pos h, if_pos (by omega)]; omega
  · rw [if_neg h, if_neg (by omega)]; omega
theorem ct_ofC (n : Nat) : ctI (ofC n) = n := by
  unfold ofC ctI
  by_cases h : n % 2 = 1
  · rw [if_pos h, if_pos (by omega)]; omega
  · rw [if_neg h, if_neg (by omega)]; omega
theorem ctI_lt {n : Int} (h1 : -9223372036854775808 ≤ n) (h2 : n ≤ 9223372036854775807) : ctI n < 18446744073709551616 := by
  unfold ctI
  split <;> omega
theorem ofC_bd {n : Nat} (h : n < 18446744073709551616) : -9223372036854775808 ≤ ofC n ∧ ofC n ≤ 9223372036854775807 := by
  unfold ofC
  split <;> omega
/-- So many bytes of a number, the lowest first, and back. -/
def enN (n : Nat) : Nat → List Nat
  | 0 => []
  | k + 1 => n % 256 :: enN (n / 256) k
def deN : List Nat → Nat
  | [] => 0
  | c :: t => c + 256 * deN t
theorem enN_len (n k : Nat) : (enN n k).length = k := by
  induction k generalizing n with
  | zero => rfl
  | succ k ih => simp [enN, ih]
theorem enN_byte (n k : Nat) : ∀ c ∈ enN n k, c < 256 := by
  induction k generalizing n with
  | zero => intro c hc; cases hc
  | succ k ih =>
    intro c hc
    simp only [enN, List.mem_cons] at hc
    rcases hc with rfl | hc
    · omega
    · exact ih _ c hc
theorem de_en (k : Nat) : ∀ n, n < 256 ^ k → deN (enN n k) = n := by
  induction k with
  | zero => intro n h; simp at h; simp [enN, deN, h]
  | succ k ih =>
    intro n h
    have h2 : n / 256 < 256 ^ k := Nat.div_lt_of_lt_mul (by rw [Nat.pow_succ] at h; omega)
    simp only [enN, deN, ih _ h2]
    omega
theorem en_de : ∀ l : List Nat, (∀ c ∈ l, c < 256) → enN (deN l) l.length = l := by
  intro l
  induction l with
  | nil => intro _; rfl
  | cons c t ih =>
    intro h
    have hc := h c (by simp)
    have ht := ih (fun x hx => h x (by simp [hx]))
    show enN (c + 256 * deN t) (t.length + 1) = c :: t
    simp only [enN]
    rw [show (c + 256 * deN t) % 256 = c by omega, show (c + 256 * deN t) / 256 = deN t by omega, ht]
theorem deN_lt : ∀ l : List Nat, (∀ c ∈ l, c < 256) → deN l < 256 ^ l.length := by
  intro l
  induction l with
  | nil => intro _; simp [deN]
  | cons c t ih =>
    intro h
    have hc := h c (by simp)
    have ht := ih (fun x hx => h x (by simp [hx]))
    show c + 256 * deN t < 256 ^ (t.length + 1)
    rw [Nat.pow_succ]
    omega
/-- A Fix as eight bytes: a number below 0 as 2^64 more. -/
def u64 (x : Int) : Nat := if x < 0 then (x + 18446744073709551616).toNat else x.toNat
def s64 (n : Nat) : Int := if n < 9223372036854775808 then (n : Int) else (n : Int) - 18446744073709551616
theorem s64_u {x : Int} (h1 : -9223372036854775808 ≤ x) (h2 : x ≤ 9223372036854775807) : s64 (u64 x) = x := by
  unfold s64 u64
  by_cases h : x < 0
  · rw [if_pos h, if_neg (by omega)]; omega
  · rw [if_neg h, if_pos (by omega)]; omega
theorem u64_s {n : Nat} (h : n < 18446744073709551616) : u64 (s64 n) = n := by
  unfold s64 u64
  by_cases h2 : n < 9223372036854775808
  · rw [if_pos h2, if_neg (by omega)]; omega
  · rw [if_neg h2, if_pos (by omega)]; omega
theorem u64_lt {x : Int} (h1 : -9223372036854775808 ≤ x) (h2 : x ≤ 9223372036854775807) : u64 x < 18446744073709551616 := by
  unfold u64; split <;> omega
theorem s64_bd {n : Nat} (h : n < 18446744073709551616) : -9223372036854775808 ≤ s64 n ∧ s64 n ≤ 9223372036854775807 := by
  unfold s64; split <;> omega
def enF (x : Int) : List Nat := enN (u64 x) 8
def enI (n : Int) : List Nat := enU (ctI n)
theorem enU_byte (n : Nat) : ∀ c ∈ enU n, c < 256 := by
  induction n using Nat.strongRecOn with
  | ind n ih =>
    by_cases h : n < 128
    · rw [enU_lt h]; intro c hc; simp at hc; omega
    · rw [enU_ge (by omega)]
      intro c hc
      simp only [List.mem_cons] at hc
      rcases hc with rfl | hc
      · omega
      · exact ih (n / 128) (by omega) c hc
theorem enU_pos (n : Nat) : 0 < (enU n).length := by
  by_cases h : n < 128
  · rw [enU_lt h]; simp
  · rw [enU_ge (by omega)]; simp
theorem enU_len : ∀ (k n : Nat), n < 128 ^ k → 0 < k → (enU n).length ≤ k := by
  intro k
  induction k with
  | zero => intro n h hk; omega
  | succ k ih =>
    intro n h hk
    by_cases h1 : n < 128
    · rw [enU_lt h1]; simp
    · rw [enU_ge (by omega)]
      have hk2 : 0 < k := by
        rcases Nat.eq_zero_or_pos k with rfl | q
        · simp at h; omega
        · exact q
      have := ih (n / 128) (Nat.div_lt_of_lt_mul (by rw [Nat.pow_succ] at h; omega)) hk2
      simp
      omega
theorem enU_ten {n : Nat} (h : n < 18446744073709551616) : (enU n).length ≤ 10 := enU_len 10 n (Nat.lt_of_lt_of_le h (by decide)) (by omega)
/-- A count, read: so many bytes of it have come. -/
def rdU : List Nat → Nat → Nat → Except Nat (Nat × List Nat)
  | [], _, _ => .error 120
  | c :: t, k, a => if k = 9 ∧ 1 < c then .error 121 else if c < 128 then (if c = 0 ∧ 0 < k then .error 121 else .ok (a + c % 128 * 2 ^ (7 * k), t)) else rdU t (k + 1) (a + c % 128 * 2 ^ (7 * k))
def rU (l : List Nat) : Except Nat (Nat × List Nat) := rdU l 0 0
theorem rd_en : ∀ (n k a : Nat) (t : List Nat), k ≤ 9 → n < 2 ^ (64 - 7 * k) → (0 < k → 0 < n) → rdU (enU n ++ t) k a = .ok (a + n * 2 ^ (7 * k), t) := by
  intro n
  induction n using Nat.strongRecOn with
  | ind n ih =>
    intro k a t hk hn h0
    have h9 : k = 9 → n < 2 := by
      intro e
      subst e
      exact hn
    by_cases h : n < 128
    · rw [enU_lt h]
      show rdU (n :: t) k a = _
      unfold rdU
      rw [if_neg (by intro ⟨e, e2⟩; have := h9 e; omega), if_pos h, if_neg (by intro ⟨e, e2⟩; have := h0 e2; omega), Nat.mod_eq_of_lt h]
    · have hk8 : k ≤ 8 := by
        rcases Nat.lt_or_ge k 9 with q | q
        · omega
        · have := h9 (by omega); omega
      rw [enU_ge (by omega)]
      show rdU ((n % 128 + 128) :: (enU (n / 128) ++ t)) k a = _
      unfold rdU
      have hp : 2 ^ (64 - 7 * k) = 128 * 2 ^ (64 - 7 * (k + 1)) := by
        rw [show 64 - 7 * k = 7 + (64 - 7 * (k + 1)) by omega, Nat.pow_add]
      rw [if_neg (by omega), if_neg (by omega), ih (n / 128) (by omega) (k + 1) _ t (by omega) (Nat.div_lt_of_lt_mul (by rw [← hp]; exact hn)) (fun _ => by omega)]
      congr 2
      have e1 : (n % 128 + 128) % 128 = n % 128 := by omega
      rw [e1, show 7 * (k + 1) = 7 + 7 * k by omega, Nat.pow_add, ← Nat.mul_assoc, Nat.add_assoc, ← Nat.add_mul]
      congr 2
      omega
theorem rU_en {n : Nat} (h : n < 18446744073709551616) (t : List Nat) : rU (enU n ++ t) = .ok (n, t) := by
  have := rd_en n 0 0 t (by omega) h (fun h => by omega)
  simpa [rU] using this
theorem en_rd : ∀ (l : List Nat) (k a n : Nat) (t : List Nat), k ≤ 9 → (∀ c ∈ l, c < 256) → rdU l k a = .ok (n, t) → ∃ m, n = a + m * 2 ^ (7 * k) ∧ l = enU m ++ t ∧ (0 < k → 0 < m) ∧ m < 2 ^ (64 - 7 * k) := by
  intro l
  induction l with
  | nil => intro k a n t hk hb h; cases h
  | cons c l ih =>
    intro k a n t hk hb h
    have hc := hb c (by simp)
    unfold rdU at h
    by_cases h1 : k = 9 ∧ 1 < c
    · rw [if_pos h1] at h; cases h
    · rw [if_neg h1] at h
      by_cases h2 : c < 128
      · rw [if_pos h2] at h
        by_cases h3 : c = 0 ∧ 0 < k
        · rw [if_pos h3] at h; cases h
        · rw [if_neg h3] at h
          cases h
          rw [Nat.mod_eq_of_lt h2]
          refine ⟨c, rfl, by rw [enU_lt h2]; rfl, fun q => by omega, ?_⟩
          by_cases h4 : k = 9
          · subst h4
            show c < 2
            omega
          · have : 2 ^ 8 ≤ 2 ^ (64 - 7 * k) := Nat.pow_le_pow_right (by omega) (by omega)
            omega
      · rw [if_neg h2] at h
        have hk8 : k + 1 ≤ 9 := by omega
        obtain ⟨m, e1, e2, e3, e4⟩ := ih (k + 1) _ n t hk8 (fun x hx => hb x (by simp [hx])) h
        have hm := e3 (by omega)
        have hp : 2 ^ (64 - 7 * k) = 128 * 2 ^ (64 - 7 * (k + 1)) := by
          rw [show 64 - 7 * k = 7 + (64 - 7 * (k + 1)) by omega, Nat.pow_add]
        refine ⟨c % 128 + 128 * m, ?_, ?_, fun _ => by omega, ?_⟩
        · rw [e1, show 7 * (k + 1) = 7 + 7 * k by omega, Nat.pow_add, Nat.add_mul, Nat.add_assoc]
          congr 2
          rw [Nat.mul_comm 128 m, Nat.mul_assoc]
        · rw [enU_ge (by omega), show (c % 128 + 128 * m) / 128 = m by omega, show (c % 128 + 128 * m) % 128 + 128 = c by omega, e2]
          rfl
        · rw [hp]
          omega
theorem en_rU {l : List Nat} {n : Nat} {t : List Nat} (hb : ∀ c ∈ l, c < 256) (h : rU l = .ok (n, t)) : l = enU n ++ t ∧ n < 18446744073709551616 := by
  obtain ⟨m, e1, e2, -, e4⟩ := en_rd l 0 0 n t (by omega) hb h
  have e : n = m := by simpa using e1
  subst e
  exact ⟨e2, e4⟩
/-- Cut off within a count bytes lack. -/
theorem rd_cut : ∀ (n k a : Nat) (q : List Nat), k ≤ 9 → n < 2 ^ (64 - 7 * k) → q.length < (enU n).length → q <+: enU n → rdU q k a = .error 120 := by
  intro n
  induction n using Nat.strongRecOn with
  | ind n ih =>
    intro k a q hk hn hl hq
    match q, hl, hq with
    | [], _, _ => rfl
    | c :: q, hl, hq =>
      have h : ¬ n < 128 := by
        intro h
        rw [enU_lt h] at hl
        simp at hl
      rw [enU_ge (by omega)] at hl hq
      obtain ⟨e1, e2⟩ := List.cons_prefix_cons.1 hq
      subst e1
      have h9 : k = 9 → n < 2 := by
        intro e
        subst e
        exact hn
      have hk8 : k ≤ 8 := by
        rcases Nat.lt_or_ge k 9 with q | q
        · omega
        · have := h9 (by omega); omega
      have hp : 2 ^ (64 - 7 * k) = 128 * 2 ^ (64 - 7 * (k + 1)) := by
        rw [show 64 - 7 * k = 7 + (64 - 7 * (k + 1)) by omega, Nat.pow_add]
      unfold rdU
      rw [if_neg (by omega), if_neg (by omega)]
      exact ih (n / 128) (by omega) (k + 1) _ q (by omega) (Nat.div_lt_of_lt_mul (by rw [← hp]; exact hn)) (by simpa using hl) e2
theorem rd_err : ∀ (l : List Nat) (k a e : Nat), rdU l k a = .error e → e = 120 ∨ e = 121 := by
  intro l
  induction l with
  | nil => intro k a e h; cases h; exact Or.inl rfl
  | cons c l ih =>
    intro k a e h
    unfold rdU at h
    split at h
    · cases h; exact Or.inr rfl
    · split at h
      · split at h
        · cases h; exact Or.inr rfl
        · cases h
      · exact ih _ _ _ h
theorem rd_len : ∀ (l : List Nat) (k a n : Nat) (t : List Nat), rdU l k a = .ok (n, t) → ∃ d, 0 < d ∧ d ≤ l.length ∧ t = l.drop d := by
  intro l
  induction l with
  | nil => intro k a n t h; cases h
  | cons c l ih =>
    intro k a n t h
    unfold rdU at h
    split at h
    · cases h
    · split at h
      · split at h
        · cases h
        · cases h; exact ⟨1, by omega, by simp, rfl⟩
      · obtain ⟨d, h1, h2, h3⟩ := ih _ _ _ _ h
        exact ⟨d + 1, by omega, by simp; omega, by rw [h3]; rfl⟩
end Go.Proofs.YtpmmfmlldkdfhaaDoor
