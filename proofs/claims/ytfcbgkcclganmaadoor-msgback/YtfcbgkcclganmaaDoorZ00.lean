/-
Layer 12's plain numbers: forms as lists of bytes; what is read of them, and what is left.
Layer 12's plain numbers: readers as functions of what is left; each thing has one form, and is read again.
Plain numbers of layer 11: a register that goes on bit by bit, and what is left of a polynomial.
-/
import Derived.Test.YtfcbgkcclganmaaDoorProg

set_option linter.unusedVariables false
namespace Go.Proofs.YtfcbgkcclganmaaDoor

/-- A count's form. -/
def enU (n : Nat) : List Nat := if h : n < 128 then [n] else (n % 128 + 128) :: enU (n / 128)
termination_by n
decreasing_by omega
theorem enU_lt {n : Nat} (h : n < 128) : enU n = [n] := by rw [enU, dif_pos h]
theorem enU_ge {n : Nat} (h : 128 ≤ n) : enU n = (n % 128 + 128) :: enU (n / 128) := by rw [enU, dif_neg (by omega)]
/-- A whole number as a count, and back. -/
def ctI (n : Int) : Nat := if n < 0 then (2 * (-(n + 1)) + 1).toNat else (2 * n).toNat
def ofC (n : Nat) : Int := if n % 2 = 1 then -((n / 2 : Nat) : Int) - 1 else ((n / 2 : Nat) : Int)
theorem ofC_ct (n : Int) : ofC (ctI n) = n := by
  unfold ofC ctI
  by_cases h : n < 0
  · rw [if_pos h, if_pos (by omega)]; omega
  · rw [if_neg h, if_neg (by omega)]; omega
theorem ct_ofC (n : Nat) : ctI (ofC n) = n := by
  unfold ofC ctI
  by_cases h : n % 2 = 1
  · rw [if_pos h, if_pos (by omega)]; omega
  · rw [if_neg h, if_neg (by omega)]; omega
theorem ctI_lt {n : Int} (h1 : -9223372036854775808 ≤ n) (h2 : n ≤ 9223372036854775807) : ctI n < 18446744073709551616 := by
  unfold ctI
  split <;> omega
theorem ofC_bd {n : Nat} (h : n < 18446744073709551616) : -9223372036854775808 ≤ ofC n ∧ ofC n ≤ 9223372036854775807 := by
  unfold ofC
  split <;> omega
/-- So many bytes of a number, the lowest first, and back. -/
def enN (n : Nat) : Nat → List Nat
  | 0 => []
  | k + 1 => n % 256 :: enN (n / 256) k
def deN : List Nat → Nat
  | [] => 0
  | c :: t => c + 256 * deN t
theorem enN_len (n k : Nat) : (enN n k).length = k := by
  induction k generalizing n with
  | zero => rfl
  | succ k ih => simp [enN, ih]
theorem enN_byte (n k : Nat) : ∀ c ∈ enN n k, c < 256 := by
  induction k generalizing n with
  | zero => intro c hc; cases hc
  | succ k ih =>
    intro c hc
    simp only [enN, List.mem_cons] at hc
    rcases hc with rfl | hc
    · omega
    · exact ih _ c hc
theorem de_en (k : Nat) : ∀ n, n < 256 ^ k → deN (enN n k) = n := by
  induction k with
  | zero => intro n h; simp at h; simp [enN, deN, h]
  | succ k ih =>
    intro n h
    have h2 : n / 256 < 256 ^ k := Nat.div_lt_of_lt_mul (by rw [Nat.pow_succ] at h; omega)
    simp only [enN, deN, ih _ h2]
    omega
theorem en_de : ∀ l : List Nat, (∀ c ∈ l, c < 256) → enN (deN l) l.length = l := by
  intro l
  induction l with
  | nil => intro _; rfl
  | cons c t ih =>
    intro h
    have hc := h c (by simp)
    have ht := ih (fun x hx => h x (by simp [hx]))
    show enN (c + 256 * deN t) (t.length + 1) = c :: t
    simp only [enN]
    rw [show (c + 256 * deN t) % 256 = c by omega, show (c + 256 * deN t) / 256 = deN t by omega, ht]
theorem deN_lt : ∀ l : List Nat, (∀ c ∈ l, c < 256) → deN l < 256 ^ l.length := by
  intro l
  induction l with
  | nil => intro _; simp [deN]
  | cons c t ih =>
    intro h
    have hc := h c (by simp)
    have ht := ih (fun x hx => h x (by simp [hx]))
    show c + 256 * deN t < 256 ^ (t.length + 1)
    rw [Nat.pow_succ]
    omega
/-- A Fix as eight bytes: a number below 0 as 2^64 more. -/
def u64 (x : Int) : Nat := if x < 0 then (x + 18446744073709551616).toNat else x.toNat
def s64 (n : Nat) : Int := if n < 9223372036854775808 then (n : Int) else (n : Int) - 18446744073709551616
theorem s64_u {x : Int} (h1 : -9223372036854775808 ≤ x) (h2 : x ≤ 9223372036854775807) : s64 (u64 x) = x := by
  unfold s64 u64
  by_cases h : x < 0
  · rw [if_pos h, if_neg (by omega)]; omega
  · rw [if_neg h, if_pos (by omega)]; omega
theorem u64_s {n : Nat} (h : n < 18446744073709551616) : u64 (s64 n) = n := by
  unfold s64 u64
  by_cases h2 : n < 9223372036854775808
  · rw [if_pos h2, if_neg (by omega)]; omega
  · rw [if_neg h2, if_pos (by omega)]; omega
theorem u64_lt {x : Int} (h1 : -9223372036854775808 ≤ x) (h2 : x ≤ 9223372036854775807) : u64 x < 18446744073709551616 := by
  unfold u64; split <;> omega
theorem s64_bd {n : Nat} (h : n < 18446744073709551616) : -9223372036854775808 ≤ s64 n ∧ s64 n ≤ 9223372036854775807 := by
  unfold s64; split <;> omega
def enF (x : Int) : List Nat := enN (u64 x) 8
def enI (n : Int) : List Nat := enU (ctI n)
theorem enU_byte (n : Nat) : ∀ c ∈ enU n, c < 256 := by
  induction n using Nat.strongRecOn with
  | ind n ih =>
    by_cases h : n < 128
    · rw [enU_lt h]; intro c hc; simp at hc; omega
    · rw [enU_ge (by omega)]
      intro c hc
      simp only [List.mem_cons] at hc
      rcases hc with rfl | hc
      · omega
      · exact ih (n / 128) (by omega) c hc
theorem enU_pos (n : Nat) : 0 < (enU n).length := by
  by_cases h : n < 128
  · rw [enU_lt h]; simp
  · rw [enU_ge (by omega)]; simp
theorem enU_len : ∀ (k n : Nat), n < 128 ^ k → 0 < k → (enU n).length ≤ k := by
  intro k
  induction k with
  | zero => intro n h hk; omega
  | succ k ih =>
    intro n h hk
    by_cases h1 : n < 128
    · rw [enU_lt h1]; simp
    · rw [enU_ge (by omega)]
      have hk2 : 0 < k := by
        rcases Nat.eq_zero_or_pos k with rfl | q
        · simp at h; omega
        · exact q
      have := ih (n / 128) (Nat.div_lt_of_lt_mul (by rw [Nat.pow_succ] at h; omega)) hk2
      simp
      omega
theorem enU_ten {n : Nat} (h : n < 18446744073709551616) : (enU n).length ≤ 10 := enU_len 10 n (Nat.lt_of_lt_of_le h (by decide)) (by omega)
/-- A count, read: so many bytes of it have come. -/
def rdU : List Nat → Nat → Nat → Except Nat (Nat × List Nat)
  | [], _, _ => .error 120
  | c :: t, k, a => if k = 9 ∧ 1 < c then .error 121 else if c < 128 then (if c = 0 ∧ 0 < k then .error 121 else .ok (a + c % 128 * 2 ^ (7 * k), t)) else rdU t (k + 1) (a + c % 128 * 2 ^ (7 * k))
def rU (l : List Nat) : Except Nat (Nat × List Nat) := rdU l 0 0
theorem rd_en : ∀ (n k a : Nat) (t : List Nat), k ≤ 9 → n < 2 ^ (64 - 7 * k) → (0 < k → 0 < n) → rdU (enU n ++ t) k a = .ok (a + n * 2 ^ (7 * k), t) := by
  intro n
  induction n using Nat.strongRecOn with
  | ind n ih =>
    intro k a t hk hn h0
    have h9 : k = 9 → n < 2 := by
      intro e
      subst e
      exact hn
    by_cases h : n < 128
    · rw [enU_lt h]
      show rdU (n :: t) k a = _
      unfold rdU
      rw [if_neg (by intro ⟨e, e2⟩; have := h9 e; omega), if_pos h, if_neg (by intro ⟨e, e2⟩; have := h0 e2; omega), Nat.mod_eq_of_lt h]
    · have hk8 : k ≤ 8 := by
        rcases Nat.lt_or_ge k 9 with q | q
        · omega
        · have := h9 (by omega); omega
      rw [enU_ge (by omega)]
      show rdU ((n % 128 + 128) :: (enU (n / 128) ++ t)) k a = _
      unfold rdU
      have hp : 2 ^ (64 - 7 * k) = 128 * 2 ^ (64 - 7 * (k + 1)) := by
        rw [show 64 - 7 * k = 7 + (64 - 7 * (k + 1)) by omega, Nat.pow_add]
      rw [if_neg (by omega), if_neg (by omega), ih (n / 128) (by omega) (k + 1) _ t (by omega) (Nat.div_lt_of_lt_mul (by rw [← hp]; exact hn)) (fun _ => by omega)]
      congr 2
      have e1 : (n % 128 + 128) % 128 = n % 128 := by omega
      rw [e1, show 7 * (k + 1) = 7 + 7 * k by omega, Nat.pow_add, ← Nat.mul_assoc, Nat.add_assoc, ← Nat.add_mul]
      congr 2
      omega
theorem rU_en {n : Nat} (h : n < 18446744073709551616) (t : List Nat) : rU (enU n ++ t) = .ok (n, t) := by
  have := rd_en n 0 0 t (by omega) h (fun h => by omega)
  simpa [rU] using this
theorem en_rd : ∀ (l : List Nat) (k a n : Nat) (t : List Nat), k ≤ 9 → (∀ c ∈ l, c < 256) → rdU l k a = .ok (n, t) → ∃ m, n = a + m * 2 ^ (7 * k) ∧ l = enU m ++ t ∧ (0 < k → 0 < m) ∧ m < 2 ^ (64 - 7 * k) := by
  intro l
  induction l with
  | nil => intro k a n t hk hb h; cases h
  | cons c l ih =>
    intro k a n t hk hb h
    have hc := hb c (by simp)
    unfold rdU at h
    by_cases h1 : k = 9 ∧ 1 < c
    · rw [if_pos h1] at h; cases h
    · rw [if_neg h1] at h
      by_cases h2 : c < 128
      · rw [if_pos h2] at h
        by_cases h3 : c = 0 ∧ 0 < k
        · rw [if_pos h3] at h; cases h
        · rw [if_neg h3] at h
          cases h
          rw [Nat.mod_eq_of_lt h2]
          refine ⟨c, rfl, by rw [enU_lt h2]; rfl, fun q => by omega, ?_⟩
          by_cases h4 : k = 9
          · subst h4
            show c < 2
            omega
          · have : 2 ^ 8 ≤ 2 ^ (64 - 7 * k) := Nat.pow_le_pow_right (by omega) (by omega)
            omega
      · rw [if_neg h2] at h
        have hk8 : k + 1 ≤ 9 := by omega
        obtain ⟨m, e1, e2, e3, e4⟩ := ih (k + 1) _ n t hk8 (fun x hx => hb x (by simp [hx])) h
        have hm := e3 (by omega)
        have hp : 2 ^ (64 - 7 * k) = 128 * 2 ^ (64 - 7 * (k + 1)) := by
          rw [show 64 - 7 * k = 7 + (64 - 7 * (k + 1)) by omega, Nat.pow_add]
        refine ⟨c % 128 + 128 * m, ?_, ?_, fun _ => by omega, ?_⟩
        · rw [e1, show 7 * (k + 1) = 7 + 7 * k by omega, Nat.pow_add, Nat.add_mul, Nat.add_assoc]
          congr 2
          rw [Nat.mul_comm 128 m, Nat.mul_assoc]
        · rw [enU_ge (by omega), show (c % 128 + 128 * m) / 128 = m by omega, show (c % 128 + 128 * m) % 128 + 128 = c by omega, e2]
          rfl
        · rw [hp]
          omega
theorem en_rU {l : List Nat} {n : Nat} {t : List Nat} (hb : ∀ c ∈ l, c < 256) (h : rU l = .ok (n, t)) : l = enU n ++ t ∧ n < 18446744073709551616 := by
  obtain ⟨m, e1, e2, -, e4⟩ := en_rd l 0 0 n t (by omega) hb h
  have e : n = m := by simpa using e1
  subst e
  exact ⟨e2, e4⟩
/-- Cut off within a count bytes lack. -/
theorem rd_cut : ∀ (n k a : Nat) (q : List Nat), k ≤ 9 → n < 2 ^ (64 - 7 * k) → q.length < (enU n).length → q <+: enU n → rdU q k a = .error 120 := by
  intro n
  induction n using Nat.strongRecOn with
  | ind n ih =>
    intro k a q hk hn hl hq
    match q, hl, hq with
    | [], _, _ => rfl
    | c :: q, hl, hq =>
      have h : ¬ n < 128 := by
        intro h
        rw [enU_lt h] at hl
        simp at hl
      rw [enU_ge (by omega)] at hl hq
      obtain ⟨e1, e2⟩ := List.cons_prefix_cons.1 hq
      subst e1
      have h9 : k = 9 → n < 2 := by
        intro e
        subst e
        exact hn
      have hk8 : k ≤ 8 := by
        rcases Nat.lt_or_ge k 9 with q | q
        · omega
        · have := h9 (by omega); omega
      have hp : 2 ^ (64 - 7 * k) = 128 * 2 ^ (64 - 7 * (k + 1)) := by
        rw [show 64 - 7 * k = 7 + (64 - 7 * (k + 1)) by omega, Nat.pow_add]
      unfold rdU
      rw [if_neg (by omega), if_neg (by omega)]
      exact ih (n / 128) (by omega) (k + 1) _ q (by omega) (Nat.div_lt_of_lt_mul (by rw [← hp]; exact hn)) (by simpa using hl) e2
theorem rd_err : ∀ (l : List Nat) (k a e : Nat), rdU l k a = .error e → e = 120 ∨ e = 121 := by
  intro l
  induction l with
  | nil => intro k a e h; cases h; exact Or.inl rfl
  | cons c l ih =>
    intro k a e h
    unfold rdU at h
    split at h
    · cases h; exact Or.inr rfl
    · split at h
      · split at h
        · cases h; exact Or.inr rfl
        · cases h
      · exact ih _ _ _ h
theorem rd_len : ∀ (l : List Nat) (k a n : Nat) (t : List Nat), rdU l k a = .ok (n, t) → ∃ d, 0 < d ∧ d ≤ l.length ∧ t = l.drop d := by
  intro l
  induction l with
  | nil => intro k a n t h; cases h
  | cons c l ih =>
    intro k a n t h
    unfold rdU at h
    split at h
    · cases h
    · split at h
      · split at h
        · cases h
        · cases h; exact ⟨1, by omega, by simp, rfl⟩
      · obtain ⟨d, h1, h2, h3⟩ := ih _ _ _ _ h
        exact ⟨d + 1, by omega, by simp; omega, by rw [h3]; rfl⟩
end Go.Proofs.YtfcbgkcclganmaaDoor
set_option linter.unusedVariables false
namespace Go.Proofs.YtfcbgkcclganmaaDoor

/-- What reads a thing off a list of bytes. -/
abbrev Rdr (α : Type) := List Nat → Except Nat (α × List Nat)
/-- Where a reader stands: an error, or what is left. -/
abbrev Sta := Except Nat (List Nat)
def pv {α : Type} (P : Rdr α) (d : α) : Sta → α
  | .error _ => d
  | .ok l => match P l with
    | .ok (x, _) => x
    | .error _ => d
def pn {α : Type} (P : Rdr α) : Sta → Sta
  | .error e => .error e
  | .ok l => match P l with
    | .ok (_, t) => .ok t
    | .error e => .error e
theorem pv_err {α : Type} (P : Rdr α) (d : α) (e : Nat) : pv P d (.error e) = d := rfl
theorem pn_err {α : Type} (P : Rdr α) (e : Nat) : pn P (.error e) = .error e := rfl
theorem pv_ok {α : Type} {P : Rdr α} {d : α} {l t : List Nat} {x : α} (h : P l = .ok (x, t)) : pv P d (.ok l) = x := by simp [pv, h]
theorem pn_ok {α : Type} {P : Rdr α} {l t : List Nat} {x : α} (h : P l = .ok (x, t)) : pn P (.ok l) = .ok t := by simp [pn, h]
theorem pv_no {α : Type} {P : Rdr α} {d : α} {l : List Nat} {e : Nat} (h : P l = .error e) : pv P d (.ok l) = d := by simp [pv, h]
theorem pn_no {α : Type} {P : Rdr α} {l : List Nat} {e : Nat} (h : P l = .error e) : pn P (.ok l) = .error e := by simp [pn, h]
/-- So many things, one behind the other. -/
def itS {α : Type} (P : Rdr α) : Nat → Sta → Sta
  | 0, s => s
  | n + 1, s => pn P (itS P n s)
def itV {α : Type} (P : Rdr α) (d : α) : Nat → Sta → List α
  | 0, _ => []
  | n + 1, s => itV P d n s ++ [pv P d (itS P n s)]
theorem itS_front {α : Type} (P : Rdr α) (n : Nat) (s : Sta) : itS P (n + 1) s = itS P n (pn P s) := by
  induction n with
  | zero => rfl
  | succ n ih => show pn P (itS P (n + 1) s) = _; rw [ih]; rfl
theorem itV_front {α : Type} (P : Rdr α) (d : α) (n : Nat) (s : Sta) : itV P d (n + 1) s = pv P d s :: itV P d n (pn P s) := by
  induction n with
  | zero => rfl
  | succ n ih =>
    show itV P d (n + 1) s ++ [pv P d (itS P (n + 1) s)] = _
    rw [ih, itS_front]
    rfl
theorem itV_len {α : Type} (P : Rdr α) (d : α) (n : Nat) (s : Sta) : (itV P d n s).length = n := by
  induction n with
  | zero => rfl
  | succ n ih => simp [itV, ih]
theorem itS_err {α : Type} (P : Rdr α) (n e : Nat) : itS P n (.error e) = .error e := by
  induction n with
  | zero => rfl
  | succ n ih => show pn P (itS P n (.error e)) = _; rw [ih]; rfl
theorem itS_mono {α : Type} (P : Rdr α) (n i e : Nat) (s : Sta) (h : itS P i s = .error e) (hi : i ≤ n) : itS P n s = .error e := by
  induction n with
  | zero => obtain rfl : i = 0 := by omega
            exact h
  | succ n ih =>
    by_cases q : i = n + 1
    · subst q; exact h
    · show pn P (itS P n s) = _
      rw [ih (by omega)]; rfl
def rep {α : Type} (P : Rdr α) (d : α) (n : Nat) (l : List Nat) : Except Nat (List α × List Nat) := match itS P n (.ok l) with
  | .ok t => .ok (itV P d n (.ok l), t)
  | .error e => .error e
theorem rep_ok {α : Type} {P : Rdr α} {d : α} {n : Nat} {l t : List Nat} (h : itS P n (.ok l) = .ok t) : rep P d n l = .ok (itV P d n (.ok l), t) := by simp [rep, h]
theorem rep_no {α : Type} {P : Rdr α} {d : α} {n e : Nat} {l : List Nat} (h : itS P n (.ok l) = .error e) : rep P d n l = .error e := by simp [rep, h]
/-- The readers. -/
def rI : Rdr Int := fun l => match rU l with
  | .ok (n, t) => .ok (ofC n, t)
  | .error e => .error e
def rF : Rdr Int := fun l => if l.length < 8 then .error 120 else .ok (s64 (deN (l.take 8)), l.drop 8)
def rB : Rdr (List Nat) := fun l => match rU l with
  | .ok (n, t) => if t.length < n then .error 120 else .ok (t.take n, t.drop n)
  | .error e => .error e
def rIs : Rdr (List Int) := fun l => match rU l with
  | .ok (n, t) => if t.length < n then .error 120 else rep rI 0 n t
  | .error e => .error e
def rFs : Rdr (List Int) := fun l => match rU l with
  | .ok (n, t) => if t.length / 8 < n then .error 120 else rep rF 0 n t
  | .error e => .error e
/-- A reader and its form. -/
structure One {α : Type} (P : Rdr α) (en : α → List Nat) (good : α → Prop) : Prop where
  back : ∀ x t, good x → P (en x ++ t) = .ok (x, t)
  one : ∀ l x t, (∀ c ∈ l, c < 256) → P l = .ok (x, t) → l = en x ++ t ∧ good x
  short : ∀ x q, good x → q <+: en x → q.length < (en x).length → P q = .error 120
theorem One.cut {α : Type} {P : Rdr α} {en : α → List Nat} {good : α → Prop} (o : One P en good) (x : α) (q g : List Nat) (hx : good x) (h1 : q <+: en x ++ g) (h2 : q.length < (en x ++ g).length) :
    P q = .error 120 ∨ ∃ q', P q = .ok (x, q') ∧ q' <+: g ∧ q'.length < g.length := by
  by_cases h : q.length < (en x).length
  · exact Or.inl (o.short x q hx (List.prefix_of_prefix_length_le h1 (List.prefix_append _ _) (by omega)) h)
  · right
    have h3 : en x <+: q := List.prefix_of_prefix_length_le (List.prefix_append _ _) h1 (by omega)
    obtain ⟨q', rfl⟩ := h3
    refine ⟨q', o.back x q' hx, (List.prefix_append_right_inj _).1 h1, ?_⟩
    simp only [List.length_append] at h2
    omega
theorem short_any {α : Type} {P : Rdr α} {en : α → List Nat} {good : α → Prop} (o : One P en good) : ∀ (xs : List α) (q : List Nat), (∀ x ∈ xs, good x) → q <+: xs.flatMap en → q.length < (xs.flatMap en).length → itS P xs.length (.ok q) = .error 120 := by
  intro xs
  induction xs with
  | nil => intro q _ h1 h2; simp at h2
  | cons x xs ih =>
    intro q hx h1 h2
    rw [List.flatMap_cons] at h1 h2
    show itS P (xs.length + 1) (.ok q) = _
    rw [itS_front]
    rcases o.cut x q _ (hx x (by simp)) h1 h2 with h | ⟨q', h3, h4, h5⟩
    · rw [pn_no h, itS_err]
    · rw [pn_ok h3]
      exact ih q' (fun y hy => hx y (by simp [hy])) h4 h5
theorem back_any {α : Type} {P : Rdr α} {en : α → List Nat} {good : α → Prop} (o : One P en good) (d : α) : ∀ (xs : List α) (t : List Nat), (∀ x ∈ xs, good x) → itS P xs.length (.ok (xs.flatMap en ++ t)) = .ok t ∧ itV P d xs.length (.ok (xs.flatMap en ++ t)) = xs := by
  intro xs
  induction xs with
  | nil => intro t _; exact ⟨rfl, rfl⟩
  | cons x xs ih =>
    intro t hx
    have h := o.back x (xs.flatMap en ++ t) (hx x (by simp))
    rw [List.flatMap_cons, List.append_assoc]
    show itS P (xs.length + 1) _ = _ ∧ itV P d (xs.length + 1) _ = _
    rw [itS_front, itV_front, pn_ok h, pv_ok h]
    obtain ⟨h1, h2⟩ := ih t (fun y hy => hx y (by simp [hy]))
    exact ⟨h1, by rw [h2]⟩
theorem one_any {α : Type} {P : Rdr α} {en : α → List Nat} {good : α → Prop} (o : One P en good) (d : α) : ∀ (n : Nat) (l t : List Nat), (∀ c ∈ l, c < 256) → itS P n (.ok l) = .ok t → l = (itV P d n (.ok l)).flatMap en ++ t ∧ ∀ x ∈ itV P d n (.ok l), good x := by
  intro n
  induction n with
  | zero => intro l t _ h; cases h; exact ⟨rfl, fun x hx => by cases hx⟩
  | succ n ih =>
    intro l t hb h
    rw [itS_front] at h
    rw [itV_front]
    cases hP : P l with
    | error e => rw [pn_no hP, itS_err] at h; cases h
    | ok z =>
      obtain ⟨x, s⟩ := z
      rw [pn_ok hP] at h
      obtain ⟨h1, h2⟩ := o.one l x s hb hP
      have hb2 : ∀ c ∈ s, c < 256 := fun c hc => hb c (by rw [h1]; simp [hc])
      obtain ⟨h3, h4⟩ := ih s t hb2 h
      rw [pn_ok hP, pv_ok hP]
      refine ⟨?_, ?_⟩
      · rw [List.flatMap_cons, List.append_assoc, ← h3, ← h1]
      · intro y hy
        rcases List.mem_cons.1 hy with rfl | hy
        · exact h2
        · exact h4 y hy
def okU (n : Nat) : Prop := n < 18446744073709551616
def okI (n : Int) : Prop := -9223372036854775808 ≤ n ∧ n ≤ 9223372036854775807
def okB (l : List Nat) : Prop := (∀ c ∈ l, c < 256) ∧ l.length < 18446744073709551616
def okL (l : List Int) : Prop := (∀ n ∈ l, okI n) ∧ l.length < 18446744073709551616
def enB (l : List Nat) : List Nat := enU l.length ++ l
def enIs (l : List Int) : List Nat := enU l.length ++ l.flatMap enI
def enFs (l : List Int) : List Nat := enU l.length ++ l.flatMap enF
theorem oneU : One rU enU okU :=
  ⟨fun x t h => rU_en h t, fun l x t hb h => en_rU hb h, fun x q hx h1 h2 => rd_cut x 0 0 q (by omega) hx h2 h1⟩
theorem rI_ok {l t : List Nat} {n : Nat} (h : rU l = .ok (n, t)) : rI l = .ok (ofC n, t) := by simp [rI, h]
theorem rI_no {l : List Nat} {e : Nat} (h : rU l = .error e) : rI l = .error e := by simp [rI, h]
theorem oneI : One rI enI okI := by
  refine ⟨fun x t h => ?_, fun l x t hb h => ?_, fun x q hx h1 h2 => ?_⟩
  · unfold enI
    rw [rI_ok (rU_en (ctI_lt h.1 h.2) t), ofC_ct]
  · cases hU : rU l with
    | error e => rw [rI_no hU] at h; cases h
    | ok z =>
      obtain ⟨n, s⟩ := z
      rw [rI_ok hU] at h
      cases h
      obtain ⟨h1, h2⟩ := en_rU hb hU
      exact ⟨by unfold enI; rw [ct_ofC]; exact h1, ofC_bd h2⟩
  · exact rI_no (oneU.short _ q (ctI_lt hx.1 hx.2) h1 h2)
theorem enF_len (x : Int) : (enF x).length = 8 := enN_len _ _
theorem oneF : One rF enF okI := by
  refine ⟨fun x t h => ?_, fun l x t hb h => ?_, fun x q hx h1 h2 => ?_⟩
  · unfold rF
    have hl := enF_len x
    rw [if_neg (by rw [List.length_append]; omega)]
    rw [show List.take 8 (enF x ++ t) = enF x by rw [← hl]; exact List.take_left' rfl, show List.drop 8 (enF x ++ t) = t by rw [← hl]; exact List.drop_left' rfl]
    unfold enF
    rw [de_en 8 _ (u64_lt h.1 h.2), s64_u h.1 h.2]
  · unfold rF at h
    split at h
    · cases h
    · rename_i hl
      cases h
      have hb2 : ∀ c ∈ l.take 8, c < 256 := fun c hc => hb c (List.mem_of_mem_take hc)
      have hlen : (l.take 8).length = 8 := by rw [List.length_take]; omega
      have hd := deN_lt _ hb2
      rw [hlen] at hd
      have he := en_de _ hb2
      rw [hlen] at he
      refine ⟨?_, s64_bd hd⟩
      unfold enF
      rw [u64_s hd, he, List.take_append_drop]
  · unfold rF
    rw [if_pos (by rw [enF_len] at h2; exact h2)]
theorem rB_ok {l t : List Nat} {n : Nat} (h : rU l = .ok (n, t)) (hn : n ≤ t.length) : rB l = .ok (t.take n, t.drop n) := by simp only [rB, h]; rw [if_neg (by omega)]
theorem rB_lack {l t : List Nat} {n : Nat} (h : rU l = .ok (n, t)) (hn : t.length < n) : rB l = .error 120 := by simp only [rB, h]; rw [if_pos hn]
theorem rB_no {l : List Nat} {e : Nat} (h : rU l = .error e) : rB l = .error e := by simp [rB, h]
/-- Cut off in what has its count ahead. -/
theorem head_cut (n : Nat) (hn : okU n) (g q : List Nat) (h1 : q <+: enU n ++ g) (h2 : q.length < (enU n ++ g).length) : rU q = .error 120 ∨ ∃ q', rU q = .ok (n, q') ∧ q' <+: g ∧ q'.length < g.length := oneU.cut n q g hn h1 h2
theorem oneB : One rB enB okB := by
  refine ⟨fun x t h => ?_, fun l x t hb h => ?_, fun x q hx h1 h2 => ?_⟩
  · unfold enB
    rw [List.append_assoc, rB_ok (rU_en h.2 (x ++ t)) (by simp)]
    simp
  · cases hU : rU l with
    | error e => rw [rB_no hU] at h; cases h
    | ok z =>
      obtain ⟨n, s⟩ := z
      obtain ⟨h1, h2⟩ := en_rU hb hU
      by_cases hn : s.length < n
      · rw [rB_lack hU hn] at h; cases h
      · rw [rB_ok hU (by omega)] at h
        cases h
        have hl : (s.take n).length = n := by rw [List.length_take]; omega
        refine ⟨?_, ⟨fun c hc => hb c (by rw [h1]; simp [List.mem_of_mem_take hc]), by rw [hl]; exact h2⟩⟩
        unfold enB
        rw [hl, List.append_assoc, List.take_append_drop]
        exact h1
  · unfold enB at h1 h2
    rcases head_cut x.length hx.2 x q h1 h2 with h | ⟨q', h3, h4, h5⟩
    · exact rB_no h
    · exact rB_lack h3 h5
theorem rIs_ok {l t : List Nat} {n : Nat} (h : rU l = .ok (n, t)) (hn : n ≤ t.length) : rIs l = rep rI 0 n t := by simp only [rIs, h]; rw [if_neg (by omega)]
theorem rIs_lack {l t : List Nat} {n : Nat} (h : rU l = .ok (n, t)) (hn : t.length < n) : rIs l = .error 120 := by simp only [rIs, h]; rw [if_pos hn]
theorem rIs_no {l : List Nat} {e : Nat} (h : rU l = .error e) : rIs l = .error e := by simp [rIs, h]
theorem rFs_ok {l t : List Nat} {n : Nat} (h : rU l = .ok (n, t)) (hn : n ≤ t.length / 8) : rFs l = rep rF 0 n t := by simp only [rFs, h]; rw [if_neg (by omega)]
theorem rFs_lack {l t : List Nat} {n : Nat} (h : rU l = .ok (n, t)) (hn : t.length / 8 < n) : rFs l = .error 120 := by simp only [rFs, h]; rw [if_pos hn]
theorem rFs_no {l : List Nat} {e : Nat} (h : rU l = .error e) : rFs l = .error e := by simp [rFs, h]
theorem flat_ge (xs : List Int) : xs.length ≤ (xs.flatMap enI).length := by
  induction xs with
  | nil => exact Nat.le_refl _
  | cons x xs ih =>
    rw [List.flatMap_cons, List.length_append]
    have := enU_pos (ctI x)
    unfold enI at *
    simp only [List.length_cons]
    omega
theorem flat_eight (xs : List Int) : (xs.flatMap enF).length = 8 * xs.length := by
  induction xs with
  | nil => rfl
  | cons x xs ih =>
    rw [List.flatMap_cons, List.length_append, enF_len, ih]
    simp only [List.length_cons]
    omega
theorem rep_back {P : Rdr Int} {en : Int → List Nat} {good : Int → Prop} (o : One P en good) (xs : List Int) (t : List Nat) (hx : ∀ x ∈ xs, good x) : rep P 0 xs.length (xs.flatMap en ++ t) = .ok (xs, t) := by
  obtain ⟨h1, h2⟩ := back_any o 0 xs t hx
  rw [rep_ok h1, h2]
theorem rep_one {P : Rdr Int} {en : Int → List Nat} {good : Int → Prop} (o : One P en good) {n : Nat} {l t : List Nat} {xs : List Int} (hb : ∀ c ∈ l, c < 256) (h : rep P 0 n l = .ok (xs, t)) : l = xs.flatMap en ++ t ∧ (∀ x ∈ xs, good x) ∧ xs.length = n := by
  cases hs : itS P n (.ok l) with
  | error e => rw [rep_no hs] at h; cases h
  | ok s =>
    rw [rep_ok hs] at h
    cases h
    obtain ⟨h1, h2⟩ := one_any o 0 n l t hb hs
    exact ⟨h1, h2, itV_len _ _ _ _⟩
theorem oneIs : One rIs enIs okL := by
  refine ⟨fun x t h => ?_, fun l x t hb h => ?_, fun x q hx h1 h2 => ?_⟩
  · unfold enIs
    have := flat_ge x
    rw [List.append_assoc, rIs_ok (rU_en h.2 (x.flatMap enI ++ t)) (by rw [List.length_append]; omega)]
    exact rep_back oneI x t h.1
  · cases hU : rU l with
    | error e => rw [rIs_no hU] at h; cases h
    | ok z =>
      obtain ⟨n, s⟩ := z
      obtain ⟨h1, h2⟩ := en_rU hb hU
      by_cases hn : s.length < n
      · rw [rIs_lack hU hn] at h; cases h
      · rw [rIs_ok hU (by omega)] at h
        have hb2 : ∀ c ∈ s, c < 256 := fun c hc => hb c (by rw [h1]; simp [hc])
        obtain ⟨h3, h4, h5⟩ := rep_one oneI hb2 h
        refine ⟨?_, ⟨h4, by rw [h5]; exact h2⟩⟩
        unfold enIs
        rw [h5, List.append_assoc, ← h3]
        exact h1
  · unfold enIs at h1 h2
    rcases head_cut x.length hx.2 (x.flatMap enI) q h1 h2 with h | ⟨q', h3, h4, h5⟩
    · exact rIs_no h
    · by_cases hn : q'.length < x.length
      · exact rIs_lack h3 hn
      · rw [rIs_ok h3 (by omega)]
        exact rep_no (short_any oneI x q' hx.1 h4 h5)
theorem oneFs : One rFs enFs okL := by
  refine ⟨fun x t h => ?_, fun l x t hb h => ?_, fun x q hx h1 h2 => ?_⟩
  · unfold enFs
    have := flat_eight x
    rw [List.append_assoc, rFs_ok (rU_en h.2 (x.flatMap enF ++ t)) (by rw [List.length_append]; omega)]
    exact rep_back oneF x t h.1
  · cases hU : rU l with
    | error e => rw [rFs_no hU] at h; cases h
    | ok z =>
      obtain ⟨n, s⟩ := z
      obtain ⟨h1, h2⟩ := en_rU hb hU
      by_cases hn : s.length / 8 < n
      · rw [rFs_lack hU hn] at h; cases h
      · rw [rFs_ok hU (by omega)] at h
        have hb2 : ∀ c ∈ s, c < 256 := fun c hc => hb c (by rw [h1]; simp [hc])
        obtain ⟨h3, h4, h5⟩ := rep_one oneF hb2 h
        refine ⟨?_, ⟨h4, by rw [h5]; exact h2⟩⟩
        unfold enFs
        rw [h5, List.append_assoc, ← h3]
        exact h1
  · unfold enFs at h1 h2
    rcases head_cut x.length hx.2 (x.flatMap enF) q h1 h2 with h | ⟨q', h3, h4, h5⟩
    · exact rFs_no h
    · have := flat_eight x
      exact rFs_lack h3 (by omega)
/-- Where a writer stands: all that was written, or why there is nothing. -/
def pt (s : Sta) (f : List Nat) : Sta := match s with
  | .error e => .error e
  | .ok l => if l.length + f.length ≤ 1048576 then .ok (l ++ f) else .error 3
theorem pt_ok {l f : List Nat} (h : l.length + f.length ≤ 1048576) : pt (.ok l) f = .ok (l ++ f) := by simp [pt, h]
theorem pt_big {l f : List Nat} (h : 1048576 < l.length + f.length) : pt (.ok l) f = .error 3 := by simp only [pt]; rw [if_neg (by omega)]
theorem pt_err (e : Nat) (f : List Nat) : pt (.error e) f = .error e := rfl
def dnV : Sta → List Nat
  | .ok l => l
  | .error _ => []
def dnE : Sta → Nat
  | .ok _ => 0
  | .error e => e
/-- What a reader's Done says. -/
def rdE : Sta → Nat
  | .ok l => if l.length = 0 then 0 else 122
  | .error e => e
/-- A thing. -/
structure Th where
  k : Int
  u : Nat
  n : Int
  x : Int
  b : List Nat
  l : List Int
  f : List Int
def Th.form (t : Th) : List Nat :=
  if t.k = 1 then enU t.u else if t.k = 2 then enI t.n else if t.k = 3 then enF t.x else if t.k = 4 then enB t.b else if t.k = 5 then enIs t.l else if t.k = 6 then enFs t.f else []
/-- Where a reader stands when a thing of a kind was read. -/
def nxt (k : Int) (s : Sta) : Sta :=
  if k = 1 then pn rU s else if k = 2 then pn rI s else if k = 3 then pn rF s else if k = 4 then pn rB s else if k = 5 then pn rIs s else if k = 6 then pn rFs s else s
structure Th.good (t : Th) : Prop where
  u : okU t.u
  n : okI t.n
  x : okI t.x
  b : okB t.b
  l : okL t.l
  f : okL t.f
theorem nxt_err (k : Int) (e : Nat) : nxt k (.error e) = .error e := by
  unfold nxt
  simp only [pn_err, ite_self]
theorem kinds (k : Int) : k = 1 ∨ k = 2 ∨ k = 3 ∨ k = 4 ∨ k = 5 ∨ k = 6 ∨ (k ≠ 1 ∧ k ≠ 2 ∧ k ≠ 3 ∧ k ≠ 4 ∧ k ≠ 5 ∧ k ≠ 6) := by omega
theorem form_1 {t : Th} (h : t.k = 1) : t.form = enU t.u := by simp [Th.form, h]
theorem nxt_1 {k : Int} (h : k = 1) (s : Sta) : nxt k s = pn rU s := by simp [nxt, h]
theorem form_2 {t : Th} (h : t.k = 2) : t.form = enI t.n := by simp [Th.form, h]
theorem nxt_2 {k : Int} (h : k = 2) (s : Sta) : nxt k s = pn rI s := by simp [nxt, h]
theorem form_3 {t : Th} (h : t.k = 3) : t.form = enF t.x := by simp [Th.form, h]
theorem nxt_3 {k : Int} (h : k = 3) (s : Sta) : nxt k s = pn rF s := by simp [nxt, h]
theorem form_4 {t : Th} (h : t.k = 4) : t.form = enB t.b := by simp [Th.form, h]
theorem nxt_4 {k : Int} (h : k = 4) (s : Sta) : nxt k s = pn rB s := by simp [nxt, h]
theorem form_5 {t : Th} (h : t.k = 5) : t.form = enIs t.l := by simp [Th.form, h]
theorem nxt_5 {k : Int} (h : k = 5) (s : Sta) : nxt k s = pn rIs s := by simp [nxt, h]
theorem form_6 {t : Th} (h : t.k = 6) : t.form = enFs t.f := by simp [Th.form, h]
theorem nxt_6 {k : Int} (h : k = 6) (s : Sta) : nxt k s = pn rFs s := by simp [nxt, h]
theorem form_0 {t : Th} (h : t.k ≠ 1 ∧ t.k ≠ 2 ∧ t.k ≠ 3 ∧ t.k ≠ 4 ∧ t.k ≠ 5 ∧ t.k ≠ 6) : t.form = [] := by simp [Th.form, h]
theorem nxt_0 {k : Int} (h : k ≠ 1 ∧ k ≠ 2 ∧ k ≠ 3 ∧ k ≠ 4 ∧ k ≠ 5 ∧ k ≠ 6) (s : Sta) : nxt k s = s := by simp [nxt, h]
/-- The thing, read of its form. -/
theorem nxt_form (t : Th) (g : t.good) (s : List Nat) : nxt t.k (.ok (t.form ++ s)) = .ok s := by
  rcases kinds t.k with h | h | h | h | h | h | h
  · rw [form_1 h, nxt_1 h]; exact pn_ok (oneU.back _ s g.u)
  · rw [form_2 h, nxt_2 h]; exact pn_ok (oneI.back _ s g.n)
  · rw [form_3 h, nxt_3 h]; exact pn_ok (oneF.back _ s g.x)
  · rw [form_4 h, nxt_4 h]; exact pn_ok (oneB.back _ s g.b)
  · rw [form_5 h, nxt_5 h]; exact pn_ok (oneIs.back _ s g.l)
  · rw [form_6 h, nxt_6 h]; exact pn_ok (oneFs.back _ s g.f)
  · rw [form_0 h, nxt_0 h]; rfl
/-- Cut off, it is told, or what is behind is cut off. -/
theorem nxt_cut (t : Th) (g : t.good) (q s : List Nat) (h1 : q <+: t.form ++ s) (h2 : q.length < (t.form ++ s).length) : nxt t.k (.ok q) = .error 120 ∨ ∃ q', nxt t.k (.ok q) = .ok q' ∧ q' <+: s ∧ q'.length < s.length := by
  have key : ∀ {α : Type} {P : Rdr α} {en : α → List Nat} {good : α → Prop} (o : One P en good) (x : α), good x → q <+: en x ++ s → q.length < (en x ++ s).length → pn P (.ok q) = .error 120 ∨ ∃ q', pn P (.ok q) = .ok q' ∧ q' <+: s ∧ q'.length < s.length := by
    intro α P en good o x hx h1 h2
    rcases o.cut x q s hx h1 h2 with h | ⟨q', h3, h4, h5⟩
    · exact Or.inl (pn_no h)
    · exact Or.inr ⟨q', pn_ok h3, h4, h5⟩
  rcases kinds t.k with h | h | h | h | h | h | h
  · rw [form_1 h] at h1 h2; rw [nxt_1 h]; exact key oneU _ g.u h1 h2
  · rw [form_2 h] at h1 h2; rw [nxt_2 h]; exact key oneI _ g.n h1 h2
  · rw [form_3 h] at h1 h2; rw [nxt_3 h]; exact key oneF _ g.x h1 h2
  · rw [form_4 h] at h1 h2; rw [nxt_4 h]; exact key oneB _ g.b h1 h2
  · rw [form_5 h] at h1 h2; rw [nxt_5 h]; exact key oneIs _ g.l h1 h2
  · rw [form_6 h] at h1 h2; rw [nxt_6 h]; exact key oneFs _ g.f h1 h2
  · rw [form_0 h] at h1 h2; rw [nxt_0 h]; exact Or.inr ⟨q, rfl, h1, h2⟩
end Go.Proofs.YtfcbgkcclganmaaDoor
set_option linter.unusedVariables false
namespace Go.Proofs.YtfcbgkcclganmaaDoor

theorem xm2 (a b : Nat) : (a ^^^ b) % 2 = (a + b) % 2 := by
  have h := @Nat.xor_mod_two_eq_one a b
  by_cases ha : a % 2 = 1
  · by_cases hb : b % 2 = 1
    · have : ¬ (a ^^^ b) % 2 = 1 := fun e => (h.1 e) ⟨fun _ => hb, fun _ => ha⟩
      omega
    · have : (a ^^^ b) % 2 = 1 := h.2 (fun e => hb (e.1 ha))
      omega
  · by_cases hb : b % 2 = 1
    · have : (a ^^^ b) % 2 = 1 := h.2 (fun e => ha (e.2 hb))
      omega
    · have : ¬ (a ^^^ b) % 2 = 1 := fun e => (h.1 e) ⟨fun x => absurd x ha, fun x => absurd x hb⟩
      omega
/-- The polynomial below its highest power. -/
def cP : Nat := 3988292384
/-- A register, a bit of nought further. -/
def cZ (r : Nat) : Nat := if r % 2 = 1 then (r / 2) ^^^ cP else r / 2
/-- And so many. -/
def cZs : Nat → Nat → Nat
  | 0, r => r
  | k + 1, r => cZs k (cZ r)
/-- A bit of a text. -/
def cB (r b : Nat) : Nat := cZ (r ^^^ b)
/-- The bits of a text, the first ones. -/
def cR (t : Nat → Nat) (r : Nat) : Nat → Nat
  | 0 => r
  | i + 1 => cB (cR t r i) (t i)
theorem cZ_xor (a b : Nat) : cZ (a ^^^ b) = cZ a ^^^ cZ b := by
  have h1 : (a ^^^ b) / 2 = a / 2 ^^^ b / 2 := Nat.xor_div_two
  have h2 : (a ^^^ b) % 2 = (a + b) % 2 := xm2 _ _
  unfold cZ
  rw [h1, h2]
  by_cases ha : a % 2 = 1
  · by_cases hb : b % 2 = 1
    · rw [if_neg (by omega), if_pos ha, if_pos hb]
      rw [Nat.xor_assoc, Nat.xor_comm cP, Nat.xor_assoc, Nat.xor_self, Nat.xor_zero]
    · rw [if_pos (by omega), if_pos ha, if_neg hb, Nat.xor_assoc, Nat.xor_comm (b / 2), ← Nat.xor_assoc]
  · by_cases hb : b % 2 = 1
    · rw [if_pos (by omega), if_neg ha, if_pos hb, Nat.xor_assoc]
    · rw [if_neg (by omega), if_neg ha, if_neg hb]
theorem cZ_zero : cZ 0 = 0 := rfl
theorem cZ_lt (r : Nat) (h : r < 4294967296) : cZ r < 4294967296 := by
  unfold cZ
  split
  · exact Nat.xor_lt_two_pow (n := 32) (by omega) (by unfold cP; omega)
  · omega
theorem cB_xor (a b x y : Nat) : cB (a ^^^ b) (x ^^^ y) = cB a x ^^^ cB b y := by
  unfold cB
  rw [← cZ_xor, Nat.xor_assoc, Nat.xor_assoc, ← Nat.xor_assoc b, Nat.xor_comm b x, Nat.xor_assoc x]
theorem cB_lt (r b : Nat) (h : r < 4294967296) (hb : b < 2) : cB r b < 4294967296 := cZ_lt _ (Nat.xor_lt_two_pow (n := 32) (by omega) (by omega))
theorem cR_lt (t : Nat → Nat) (r : Nat) (h : r < 4294967296) (ht : ∀ i, t i < 2) (i : Nat) : cR t r i < 4294967296 := by
  induction i with
  | zero => exact h
  | succ i ih => exact cB_lt _ _ ih (ht i)
/-- Two texts laid over one another. -/
theorem cR_xor (t u : Nat → Nat) (r s : Nat) (i : Nat) : cR (fun k => t k ^^^ u k) (r ^^^ s) i = cR t r i ^^^ cR u s i := by
  induction i with
  | zero => rfl
  | succ i ih =>
    show cB (cR (fun k => t k ^^^ u k) (r ^^^ s) i) (t i ^^^ u i) = cB (cR t r i) (t i) ^^^ cB (cR u s i) (u i)
    rw [ih, cB_xor]
/-- One text behind the other. -/
theorem cR_add (t : Nat → Nat) (r i j : Nat) : cR t r (i + j) = cR (fun k => t (i + k)) (cR t r i) j := by
  induction j with
  | zero => rfl
  | succ j ih =>
    show cB (cR t r (i + j)) (t (i + j)) = cB (cR (fun k => t (i + k)) (cR t r i) j) (t (i + j))
    rw [ih]
theorem cR_congr (t u : Nat → Nat) (r : Nat) (i : Nat) (h : ∀ k, k < i → t k = u k) : cR t r i = cR u r i := by
  induction i with
  | zero => rfl
  | succ i ih =>
    show cB (cR t r i) (t i) = cB (cR u r i) (u i)
    rw [ih (fun k hk => h k (by omega)), h i (by omega)]
/-- Noughts alone. -/
theorem cZs_succ (k r : Nat) : cZs (k + 1) r = cZ (cZs k r) := by
  induction k generalizing r with
  | zero => rfl
  | succ k ih => exact ih (cZ r)
theorem cR_none (r i : Nat) : cR (fun _ => 0) r i = cZs i r := by
  induction i with
  | zero => rfl
  | succ i ih =>
    show cZ (cR (fun _ => 0) r i ^^^ 0) = _
    rw [ih, Nat.xor_zero, cZs_succ]
theorem cZs_xor (k a b : Nat) : cZs k (a ^^^ b) = cZs k a ^^^ cZs k b := by
  induction k generalizing a b with
  | zero => rfl
  | succ k ih => show cZs k (cZ (a ^^^ b)) = cZs k (cZ a) ^^^ cZs k (cZ b); rw [cZ_xor, ih]
theorem cZs_lt (k r : Nat) (h : r < 4294967296) : cZs k r < 4294967296 := by
  induction k generalizing r with
  | zero => exact h
  | succ k ih => exact ih _ (cZ_lt r h)
theorem cZs_add (i j r : Nat) : cZs (i + j) r = cZs j (cZs i r) := by
  induction i generalizing r with
  | zero => rw [Nat.zero_add]; rfl
  | succ i ih => rw [Nat.succ_add]; exact ih (cZ r)
/-- What is not nought stays so. -/
theorem cZ_ne (r : Nat) (h : r < 4294967296) (h0 : r ≠ 0) : cZ r ≠ 0 := by
  unfold cZ
  split
  · intro e
    have e2 : r / 2 = cP := by
      have := congrArg (· ^^^ cP) e
      simp only [Nat.xor_assoc, Nat.xor_self, Nat.xor_zero, Nat.zero_xor] at this
      exact this
    unfold cP at e2
    omega
  · omega
theorem cZs_ne (k r : Nat) (h : r < 4294967296) (h0 : r ≠ 0) : cZs k r ≠ 0 := by
  induction k generalizing r with
  | zero => exact h0
  | succ k ih => exact ih _ (cZ_lt r h) (cZ_ne r h h0)
/-- So many bits from a place on, the first as the lowest. -/
def cN (t : Nat → Nat) : Nat → Nat → Nat
  | i, 0 => 0
  | i, k + 1 => t i + 2 * cN t (i + 1) k
theorem cN_lt (t : Nat → Nat) (ht : ∀ i, t i < 2) (i k : Nat) : cN t i k < 2 ^ k := by
  induction k generalizing i with
  | zero => exact Nat.one_pos
  | succ k ih =>
    have h1 := ih (i + 1)
    have h2 := ht i
    show t i + 2 * cN t (i + 1) k < 2 ^ (k + 1)
    rw [Nat.pow_succ]
    omega
theorem cN_last (t : Nat → Nat) (i k : Nat) : cN t i (k + 1) = cN t i k + t (i + k) * 2 ^ k := by
  induction k generalizing i with
  | zero => show t i + 2 * 0 = 0 + t (i + 0) * 2 ^ 0; simp
  | succ k ih =>
    show t i + 2 * cN t (i + 1) (k + 1) = (t i + 2 * cN t (i + 1) k) + t (i + (k + 1)) * 2 ^ (k + 1)
    rw [ih (i + 1), show i + 1 + k = i + (k + 1) by omega, Nat.pow_succ, Nat.mul_add, Nat.add_assoc, ← Nat.mul_assoc (t (i + (k + 1)))]
    congr 1
    rw [Nat.mul_comm 2 (t (i + (k + 1)) * 2 ^ k)]
theorem two_xor (m b : Nat) (hb : b < 2) : 2 * m + b = 2 * m ^^^ b := by
  have h1 : (2 * m ^^^ b) / 2 = m := by rw [Nat.xor_div_two]; rw [show 2 * m / 2 = m by omega, show b / 2 = 0 by omega, Nat.xor_zero]
  have h2 : (2 * m ^^^ b) % 2 = b := by rw [xm2]; omega
  omega
theorem top_xor (m b k : Nat) (hm : m < 2 ^ k) (hb : b < 2) : m + b * 2 ^ k = m ^^^ b * 2 ^ k := by
  induction k generalizing m with
  | zero =>
    obtain rfl : m = 0 := by simpa using hm
    rw [Nat.zero_xor, Nat.zero_add]
  | succ k ih =>
    rw [Nat.pow_succ] at hm
    have h := ih (m / 2) (by omega)
    have e : b * 2 ^ (k + 1) = 2 * (b * 2 ^ k) := by rw [Nat.pow_succ, ← Nat.mul_assoc, Nat.mul_comm]
    have d : (m ^^^ b * 2 ^ (k + 1)) / 2 = m / 2 ^^^ b * 2 ^ k := by rw [Nat.xor_div_two, e]; congr 1; omega
    have q : (m ^^^ b * 2 ^ (k + 1)) % 2 = m % 2 := by rw [xm2, e]; omega
    rw [← h] at d
    omega
theorem cZ_two (m : Nat) : cZ (2 * m) = m := by
  unfold cZ
  rw [if_neg (by omega)]
  omega
/-- What is left, and the register: the 32 bits ahead laid over it. -/
def cL (t : Nat → Nat) (r i : Nat) : Nat := cR t r i ^^^ cN t i 32
theorem cL_step (t : Nat → Nat) (ht : ∀ i, t i < 2) (r i : Nat) : cL t r (i + 1) = cZ (cL t r i) ^^^ t (i + 32) * 2 ^ 31 := by
  have h1 : cN t i 32 = 2 * cN t (i + 1) 31 ^^^ t i := by
    rw [← two_xor _ _ (ht i)]
    show t i + 2 * cN t (i + 1) 31 = _
    omega
  have h2 : cN t (i + 1) 32 = cN t (i + 1) 31 ^^^ t (i + 32) * 2 ^ 31 := by
    rw [cN_last, top_xor _ _ _ (cN_lt t ht _ _) (ht _), show i + 1 + 31 = i + 32 by omega]
  unfold cL
  rw [h1, h2, ← Nat.xor_assoc (cR t r (i + 1)), show cR t r i ^^^ (2 * cN t (i + 1) 31 ^^^ t i) = (cR t r i ^^^ t i) ^^^ 2 * cN t (i + 1) 31 by rw [Nat.xor_comm (2 * _), ← Nat.xor_assoc], cZ_xor, cZ_two]
  rfl
theorem cN_none (t : Nat → Nat) (i k : Nat) (h : ∀ j, j < k → t (i + j) = 0) : cN t i k = 0 := by
  induction k generalizing i with
  | zero => rfl
  | succ k ih =>
    show t i + 2 * cN t (i + 1) k = 0
    rw [ih (i + 1) (fun j hj => by rw [show i + 1 + j = i + (j + 1) by omega]; exact h (j + 1) (by omega)), show t i = 0 from h 0 (by omega)]
/-- A run of at most 32 turned bits is told. -/
theorem burst_ne (t : Nat → Nat) (ht : ∀ i, t i < 2) (at' n : Nat) (h0 : ∀ k, k < at' → t k = 0) (h1 : ∀ k, at' + 32 ≤ k → t k = 0) (h2 : ∀ k, n ≤ k → t k = 0) (hb : cN t at' 32 ≠ 0) (hn : at' ≤ n) : cR t 0 n ≠ 0 := by
  have e0 : cR t 0 at' = 0 := by
    rw [cR_congr t (fun _ => 0) 0 at' h0, cR_none]
    have : ∀ k, cZs k 0 = 0 := fun k => by
      induction k with
      | zero => rfl
      | succ k ih => exact ih
    exact this at'
  have hl : ∀ d, cL t 0 (at' + d) = cZs d (cN t at' 32) := fun d => by
    induction d with
    | zero => show cR t 0 at' ^^^ cN t at' 32 = _; rw [e0, Nat.zero_xor]; rfl
    | succ d ih =>
      show cL t 0 (at' + d + 1) = _
      rw [cL_step t ht, ih, h1 (at' + d + 32) (by omega), Nat.zero_mul, Nat.xor_zero, cZs_succ]
  have e1 := hl (n - at')
  rw [show at' + (n - at') = n by omega] at e1
  have e2 : cN t n 32 = 0 := cN_none t n 32 (fun j _ => h2 (n + j) (by omega))
  unfold cL at e1
  rw [e2, Nat.xor_zero] at e1
  rw [e1]
  exact cZs_ne _ _ (cN_lt t ht at' 32) hb
end Go.Proofs.YtfcbgkcclganmaaDoor
