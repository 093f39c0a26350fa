/-
Plain numbers of layer 11: a register that goes on bit by bit, and what is left of a polynomial.
Layer 15's plain disk: what is safe, what is under way; writes, flushes, falls.
-/

set_option linter.unusedVariables false
namespace Go.Proofs.YtkbpcmjdfaokhaaDoor

theorem xm2 (a b : Nat) : (a ^^^ b) % 2 = (a + b) % 2 := by
  have h := @Nat.xor_mod_two_eq_one a b
  by_cases ha : a % 2 = 1
  · by_cases hb : b % 2 = 1
    · have : ¬ (a ^^^ b) % 2 = 1 := fun e => (h.1 e) ⟨fun _ => hb, fun _ => ha⟩
      omega
    · have : (a ^^^ b) % 2 = 1 := h.2 (fun e => hb (e.1 ha))
      omega
  · by_cases hb : b % 2 = 1
    · have : (a ^^^ b) % 2 = 1 := h.2 (fun e => ha (e.2 hb))
      omega
    · have : ¬ (a ^^^ b) % 2 = 1 := fun e => (h.1 e) ⟨fun x => absurd x ha, fun x => absurd x hb⟩
      omega
/-- The polynomial below its highest power. -/
def cP : Nat := 3988292384
/-- A register, a bit of nought further. -/
def cZ (r : Nat) : Nat := if r % 2 = 1 then (r / 2) ^^^ cP else r / 2
/-- And so many. -/
def cZs : Nat → Nat → Nat
  | 0, r => r
  | k + 1, r => cZs k (cZ r)
/-- A bit of a text. -/
def cB (r b : Nat) : Nat := cZ (r ^^^ b)
/-- The bits of a text, the first ones. -/
def cR (t : Nat → Nat) (r : Nat) : Nat → Nat
  | 0 => r
  | i + 1 => cB (cR t r i) (t i)
theorem cZ_xor (a b : Nat) : cZ (a ^^^ b) = cZ a ^^^ cZ b := by
  have h1 : (a ^^^ b) / 2 = a / 2 ^^^ b / 2 := Nat.xor_div_two
  have h2 : (a ^^^ b) % 2 = (a + b) % 2 := xm2 _ _
  unfold cZ
  rw [h1, h2]
  by_cases ha : a % 2 = 1
  · by_cases hb : b % 2 = 1
    · rw [if_neg (by omega), if_pos ha, if_pos hb]
      rw [Nat.xor_assoc, Nat.xor_comm cP, Nat.xor_assoc, Nat.xor_self, Nat.xor_zero]
    · rw [if_pos (by omega), if_pos ha, if_neg hb, Nat.xor_assoc, Nat.xor_comm (b / 2), ← Nat.xor_assoc]
  · by_cases hb : b % 2 = 1
    · rw [if_pos (by omega), if_neg ha, if_pos hb, Nat.xor_assoc]
    · rw [if_neg (by omega), if_neg ha, if_neg hb]
theorem cZ_zero : cZ 0 = 0 := rfl
theorem cZ_lt (r : Nat) (h : r < 4294967296) : cZ r < 4294967296 := by
  unfold cZ
  split
  · exact Nat.xor_lt_two_pow (n := 32) (by omega) (by unfold cP; omega)
  · omega
theorem cB_xor (a b x y : Nat) : cB (a ^^^ b) (x ^^^ y) = cB a x ^^^ cB b y := by
  unfold cB
  rw [← cZ_xor, Nat.xor_assoc, Nat.xor_assoc, ← Nat.xor_assoc b, Nat.xor_comm b x, Nat.xor_assoc x]
theorem cB_lt (r b : Nat) (h : r < 4294967296) (hb : b < 2) : cB r b < 4294967296 := cZ_lt _ (Nat.xor_lt_two_pow (n := 32) (by omega) (by omega))
theorem cR_lt (t : Nat → Nat) (r : Nat) (h : r < 4294967296) (ht : ∀ i, t i < 2) (i : Nat) : cR t r i < 4294967296 := by
  induction i with
  | zero => exact h
  | succ i ih => exact cB_lt _ _ ih (ht i)
/-- Two texts laid over one another. -/
theorem cR_xor (t u : Nat → Nat) (r s : Nat) (i : Nat) : cR (fun k => t k ^^^ u k) (r ^^^ s) i = cR t r i ^^^ cR u s i := by
  induction i with
  | zero => rfl
  | succ i ih =>
    show cB (cR (fun k => t k ^^^ u k) (r ^^^ s) i) (t i ^^^ u i) = cB (cR t r i) (t i) ^^^ cB (cR u s i) (u i)
    rw [ih, cB_xor]
/-- One text behind the other. -/
theorem cR_add (t : Nat → Nat) (r i j : Nat) : cR t r (i + j) = cR (fun k => t (i + k)) (cR t r i) j := by
  induction j with
  | zero => rfl
  | succ j ih =>
    show cB (cR t r (i + j)) (t (i + j)) = cB (cR (fun k => t (i + k)) (cR t r i) j) (t (i + j))
    rw [ih]
theorem cR_congr (t u : Nat → Nat) (r : Nat) (i : Nat) (h : ∀ k, k < i → t k = u k) : cR t r i = cR u r i := by
  induction i with
  | zero => rfl
  | succ i ih =>
    show cB (cR t r i) (t i) = cB (cR u r i) (u i)
    rw [ih (fun k hk => h k (by omega)), h i (by omega)]
/-- Noughts alone. -/
theorem cZs_succ (k r : Nat) : cZs (k + 1) r = cZ (cZs k r) := by
  induction k generalizing r with
  | zero => rfl
  | succ k ih => exact ih (cZ r)
theorem cR_none (r i : Nat) : cR (fun _ => 0) r i = cZs i r := by
  induction i with
  | zero => rfl
  | succ i ih =>
    show cZ (cR (fun _ => 0) r i ^^^ 0) = _
    rw [ih, Nat.xor_zero, cZs_succ]
theorem cZs_xor (k a b : Nat) : cZs k (a ^^^ b) = cZs k a ^^^ cZs k b := by
  induction k generalizing a b with
  | zero => rfl
  | succ k ih => show cZs k (cZ (a ^^^ b)) = cZs k (cZ a) ^^^ cZs k (cZ b); rw [cZ_xor, ih]
theorem cZs_lt (k r : Nat) (h : r < 4294967296) : cZs k r < 4294967296 := by
  induction k generalizing r with
  | zero => exact h
  | succ k ih => exact ih _ (cZ_lt r h)
theorem cZs_add (i j r : Nat) : cZs (i + j) r = cZs j (cZs i r) := by
  induction i generalizing r with
  | zero => rw [Nat.zero_add]; rfl
  | succ i ih => rw [Nat.succ_add]; exact ih (cZ r)
/-- What is not nought stays so. -/
theorem cZ_ne (r : Nat) (h : r < 4294967296) (h0 : r ≠ 0) : cZ r ≠ 0 := by
  unfold cZ
  split
  · intro e
    have e2 : r / 2 = cP := by
      have := congrArg (· ^^^ cP) e
      simp only [Nat.xor_assoc, Nat.xor_self, Nat.xor_zero, Nat.zero_xor] at this
      exact this
    unfold cP at e2
    omega
  · omega
theorem cZs_ne (k r : Nat) (h : r < 4294967296) (h0 : r ≠ 0) : cZs k r ≠ 0 := by
  induction k generalizing r with
  | zero => exact h0
  | succ k ih => exact ih _ (cZ_lt r h) (cZ_ne r h h0)
/-- So many bits from a place on, the first as the lowest. -/
def cN (t : Nat → Nat) : Nat → Nat → Nat
  | i, 0 => 0
  | i, k + 1 => t i + 2 * cN t (i + 1) k
theorem cN_lt (t : Nat → Nat) (ht : ∀ i, t i < 2) (i k : Nat) : cN t i k < 2 ^ k := by
  induction k generalizing i with
  | zero => exact Nat.one_pos
  | succ k ih =>
    have h1 := ih (i + 1)
    have h2 := ht i
    show t i + 2 * cN t (i + 1) k < 2 ^ (k + 1)
    rw [Nat.pow_succ]
    omega
theorem cN_last (t : Nat → Nat) (i k : Nat) : cN t i (k + 1) = cN t i k + t (i + k) * 2 ^ k := by
  induction k generalizing i with
  | zero => show t i + 2 * 0 = 0 + t (i + 0) * 2 ^ 0; simp
  | succ k ih =>
    show t i + 2 * cN t (i + 1) (k + 1) = (t i + 2 * cN t (i + 1) k) + t (i + (k + 1)) * 2 ^ (k + 1)
    rw [ih (i + 1), show i + 1 + k = i + (k + 1) by omega, Nat.pow_succ, Nat.mul_add, Nat.add_assoc, ← Nat.mul_assoc (t (i + (k + 1)))]
    congr 1
    rw [Nat.mul_comm 2 (t (i + (k + 1)) * 2 ^ k)]
theorem two_xor (m b : Nat) (hb : b < 2) : 2 * m + b = 2 * m ^^^ b := by
  have h1 : (2 * m ^^^ b) / 2 = m := by rw [Nat.xor_div_two]; rw [show 2 * m / 2 = m by omega, show b / 2 = 0 by omega, Nat.xor_zero]
  have h2 : (2 * m ^^^ b) % 2 = b := by rw [xm2]; omega
  omega
theorem top_xor (m b k : Nat) (hm : m < 2 ^ k) (hb : b < 2) : m + b * 2 ^ k = m ^^^ b * 2 ^ k := by
  induction k generalizing m with
  | zero =>
    obtain rfl : m = 0 := by simpa using hm
    rw [Nat.zero_xor, Nat.zero_add]
  | succ k ih =>
    rw [Nat.pow_succ] at hm
    have h := ih (m / 2) (by omega)
    have e : b * 2 ^ (k + 1) = 2 * (b * 2 ^ k) := by rw [Nat.pow_succ, ← Nat.mul_assoc, Nat.mul_comm]
    have d : (m ^^^ b * 2 ^ (k + 1)) / 2 = m / 2 ^^^ b * 2 ^ k := by rw [Nat.xor_div_two, e]; congr 1; omega
    have q : (m ^^^ b * 2 ^ (k + 1)) % 2 = m % 2 := by rw [xm2, e]; omega
    rw [← h] at d
    omega
theorem cZ_two (m : Nat) : cZ (2 * m) = m := by
  unfold cZ
  rw [if_neg (by omega)]
  omega
/-- What is left, and the register: the 32 bits ahead laid over it. -/
def cL (t : Nat → Nat) (r i : Nat) : Nat := cR t r i ^^^ cN t i 32
theorem cL_step (t : Nat → Nat) (ht : ∀ i, t i < 2) (r i : Nat) : cL t r (i + 1) = cZ (cL t r i) ^^^ t (i + 32) * 2 ^ 31 := by
  have h1 : cN t i 32 = 2 * cN t (i + 1) 31 ^^^ t i := by
    rw [← two_xor _ _ (ht i)]
    show t i + 2 * cN t (i + 1) 31 = _
    omega
  have h2 : cN t (i + 1) 32 = cN t (i + 1) 31 ^^^ t (i + 32) * 2 ^ 31 := by
    rw [cN_last, top_xor _ _ _ (cN_lt t ht _ _) (ht _), show i + 1 + 31 = i + 32 by omega]
  unfold cL
  rw [h1, h2, ← Nat.xor_assoc (cR t r (i + 1)), show cR t r i ^^^ (2 * cN t (i + 1) 31 ^^^ t i) = (cR t r i ^^^ t i) ^^^ 2 * cN t (i + 1) 31 by rw [Nat.xor_comm (2 * _), ← Nat.xor_assoc], cZ_xor, cZ_two]
  rfl
theorem cN_none (t : Nat → Nat) (i k : Nat) (h : ∀ j, j < k → t (i + j) = 0) : cN t i k = 0 := by
  induction k generalizing i with
  | zero => rfl
  | succ k ih =>
    show t i + 2 * cN t (i + 1) k = 0
    rw [ih (i + 1) (fun j hj => by rw [show i + 1 + j = i + (j + 1) by omega]; exact h (j + 1) (by omega)), show t i = 0 from h 0 (by omega)]
/-- A run of at most 32 turned bits is told. -/
theorem burst_ne (t : Nat → Nat) (ht : ∀ i, t i < 2) (at' n : Nat) (h0 : ∀ k, k < at' → t k = 0) (h1 : ∀ k, at' + 32 ≤ k → t k = 0) (h2 : ∀ k, n ≤ k → t k = 0) (hb : cN t at' 32 ≠ 0) (hn : at' ≤ n) : cR t 0 n ≠ 0 := by
  have e0 : cR t 0 at' = 0 := by
    rw [cR_congr t (fun _ => 0) 0 at' h0, cR_none]
    have : ∀ k, cZs k 0 = 0 := fun k => by
      induction k with
      | zero => rfl
      | succ k ih => exact ih
    exact this at'
  have hl : ∀ d, cL t 0 (at' + d) = cZs d (cN t at' 32) := fun d => by
    induction d with
    | zero => show cR t 0 at' ^^^ cN t at' 32 = _; rw [e0, Nat.zero_xor]; rfl
    | succ d ih =>
      show cL t 0 (at' + d + 1) = _
      rw [cL_step t ht, ih, h1 (at' + d + 32) (by omega), Nat.zero_mul, Nat.xor_zero, cZs_succ]
  have e1 := hl (n - at')
  rw [show at' + (n - at') = n by omega] at e1
  have e2 : cN t n 32 = 0 := cN_none t n 32 (fun j _ => h2 (n + j) (by omega))
  unfold cL at e1
  rw [e2, Nat.xor_zero] at e1
  rw [e1]
  exact cZs_ne _ _ (cN_lt t ht at' 32) hb
end Go.Proofs.YtkbpcmjdfaokhaaDoor
set_option linter.unusedVariables false
set_option linter.unusedSimpArgs false
namespace Go.Proofs.YtkbpcmjdfaokhaaDoor

/-- A disk. -/
structure Dsk where
  bl : List (List Nat)
  un : List (Nat × List Nat)
  ar : Bool
  lf : Int
  dn : Bool
/-- Bytes, with noughts behind them. -/
def full (b : List Nat) : List Nat := b ++ List.replicate (128 - b.length) 0
def okb (b : List Nat) : Prop := b.length = 128 ∧ ∀ c ∈ b, c < 256
/-- It is one. -/
structure OkD (s : Dsk) : Prop where
  bl : ∀ b ∈ s.bl, okb b
  un : ∀ u ∈ s.un, u.1 < s.bl.length ∧ okb u.2
def dNew (n : Nat) : Dsk := ⟨List.replicate n (List.replicate 128 0), [], false, 0, false⟩
def dGo (s : Dsk) : Bool := !s.ar || decide (s.lf ≠ 0)
def dGone (s : Dsk) : Dsk := if s.ar = true then (if s.lf = 0 then { s with dn := true } else { s with lf := s.lf - 1 }) else s
def dAsk (s : Dsk) (i : Int) : Nat := if s.dn = true then 150 else if i < 0 ∨ (s.bl.length : Int) ≤ i then 151 else 0
def wrE (s : Dsk) (i : Int) (b : List Nat) : Nat := if dAsk s i ≠ 0 then dAsk s i else if 128 < b.length then 3 else if dGo s = true then 0 else 150
def wrS (s : Dsk) (i : Int) (b : List Nat) : Dsk := if dAsk s i ≠ 0 ∨ 128 < b.length then s else dGone { s with un := s.un ++ [(i.toNat, full b)] }
def lastU (un : List (Nat × List Nat)) (i : Nat) (d : List Nat) : List Nat := un.foldl (fun d u => if u.1 = i then u.2 else d) d
def rdB (s : Dsk) (i : Int) : List Nat := if dAsk s i ≠ 0 then [] else lastU s.un i.toNat (s.bl.getD i.toNat [])
def lay (un : List (Nat × List Nat)) (bl : List (List Nat)) : List (List Nat) := un.foldl (fun bl u => bl.set u.1 u.2) bl
def flE (s : Dsk) : Nat := if s.dn = true then 150 else if dGo s = true then 0 else 150
def flS (s : Dsk) : Dsk := if s.dn = true then s else if dGo s = true then { dGone s with bl := lay s.un s.bl, un := [] } else dGone s
def arS (s : Dsk) (n : Int) : Dsk := { s with ar := decide (0 ≤ n), lf := n }
/-- How many bytes a fate leaves. -/
def fn (f : Int × Int) : Nat := if f.1 = 1 then 128 else if f.1 = 2 then min f.2.toNat 128 else 0
def torn (n : Nat) (w old : List Nat) : List Nat := w.take n ++ old.drop n
def fall (un : List (Nat × List Nat)) (fs : List (Int × Int)) (bl : List (List Nat)) : List (List Nat) := (un.zip fs).foldl (fun bl p => bl.set p.1.1 (torn (fn p.2) p.1.2 (bl.getD p.1.1 []))) bl
def crS (s : Dsk) (fs : List (Int × Int)) : Dsk := ⟨fall s.un fs s.bl, [], false, 0, false⟩

theorem full_ok {b : List Nat} (h : b.length ≤ 128) (hb : ∀ c ∈ b, c < 256) : okb (full b) := by
  unfold full
  refine ⟨by rw [List.length_append, List.length_replicate]; omega, fun c hc => ?_⟩
  rcases List.mem_append.1 hc with q | q
  · exact hb c q
  · rw [(List.mem_replicate.1 q).2]; omega
theorem fn_le (f : Int × Int) : fn f ≤ 128 := by
  unfold fn
  split
  · omega
  · split
    · exact Nat.min_le_right _ _
    · omega
theorem torn_ok {n : Nat} {w old : List Nat} (hn : n ≤ 128) (hw : okb w) (ho : okb old) : okb (torn n w old) := by
  unfold torn
  refine ⟨by rw [List.length_append, List.length_take, List.length_drop, hw.1, ho.1]; omega, fun c hc => ?_⟩
  rcases List.mem_append.1 hc with q | q
  · exact hw.2 c (List.mem_of_mem_take q)
  · exact ho.2 c (List.mem_of_mem_drop q)
theorem torn_get {n : Nat} {w old : List Nat} (hn : n ≤ 128) (hw : w.length = 128) (ho : old.length = 128) (j : Nat) : (torn n w old).getD j 0 = if j < n then w.getD j 0 else old.getD j 0 := by
  unfold torn
  simp only [List.getD, List.getElem?_append, List.length_take, hw, Nat.min_eq_left hn, List.getElem?_take, List.getElem?_drop]
  split
  · rfl
  · rw [show n + (j - n) = j by omega]
theorem dGone_bl (s : Dsk) : (dGone s).bl = s.bl ∧ (dGone s).un = s.un := by
  unfold dGone
  repeat' split
  all_goals exact ⟨rfl, rfl⟩
theorem lay_len (un : List (Nat × List Nat)) : ∀ bl, (lay un bl).length = bl.length := by
  unfold lay
  induction un with
  | nil => intro bl; rfl
  | cons u un ih => intro bl; rw [List.foldl_cons, ih, List.length_set]
theorem lay_ok (un : List (Nat × List Nat)) : ∀ bl : List (List Nat), (∀ b ∈ bl, okb b) → (∀ u ∈ un, okb u.2) → ∀ b ∈ lay un bl, okb b := by
  unfold lay
  induction un with
  | nil => intro bl h _; exact h
  | cons u un ih =>
    intro bl h hu
    rw [List.foldl_cons]
    refine ih _ (fun b hb => ?_) (fun x hx => hu x (by simp [hx]))
    rcases List.mem_or_eq_of_mem_set hb with q | q
    · exact h b q
    · rw [q]; exact hu u (by simp)
theorem lay_far (un : List (Nat × List Nat)) (i : Nat) : ∀ bl : List (List Nat), (∀ u ∈ un, u.1 ≠ i) → (lay un bl).getD i [] = bl.getD i [] := by
  unfold lay
  induction un with
  | nil => intro bl _; rfl
  | cons u un ih =>
    intro bl hu
    rw [List.foldl_cons, ih _ (fun x hx => hu x (by simp [hx]))]
    simp [List.getD, List.getElem?_set, hu u (by simp)]
theorem lay_last (un : List (Nat × List Nat)) (i : Nat) : ∀ bl : List (List Nat), i < bl.length → (lay un bl).getD i [] = lastU un i (bl.getD i []) := by
  unfold lay lastU
  induction un with
  | nil => intro bl _; rfl
  | cons u un ih =>
    intro bl hi
    rw [List.foldl_cons, List.foldl_cons, ih _ (by rw [List.length_set]; exact hi)]
    congr 1
    by_cases q : u.1 = i
    · rw [if_pos q]; simp [List.getD, List.getElem?_set, q, hi]
    · rw [if_neg q]; simp [List.getD, List.getElem?_set, q]
theorem fall_cons (u : Nat × List Nat) (un : List (Nat × List Nat)) (f : Int × Int) (fs : List (Int × Int)) (bl : List (List Nat)) : fall (u :: un) (f :: fs) bl = fall un fs (bl.set u.1 (torn (fn f) u.2 (bl.getD u.1 []))) := rfl
theorem fall_nil (un : List (Nat × List Nat)) (bl : List (List Nat)) : fall un [] bl = bl := by unfold fall; rw [List.zip_nil_right]; rfl
theorem fall_none (fs : List (Int × Int)) (bl : List (List Nat)) : fall [] fs bl = bl := rfl
theorem fall_len (un : List (Nat × List Nat)) : ∀ fs bl, (fall un fs bl).length = bl.length := by
  induction un with
  | nil => intro fs bl; rfl
  | cons u un ih =>
    intro fs bl
    cases fs with
    | nil => rw [fall_nil]
    | cons f fs => rw [fall_cons, ih, List.length_set]
theorem getD_ok {bl : List (List Nat)} (h : ∀ b ∈ bl, okb b) {i : Nat} (hi : i < bl.length) : okb (bl.getD i []) := by
  have e : bl.getD i [] = bl[i] := by simp [List.getD, hi]
  rw [e]
  exact h _ (List.getElem_mem hi)
theorem fall_ok (un : List (Nat × List Nat)) : ∀ (fs : List (Int × Int)) (bl : List (List Nat)), (∀ b ∈ bl, okb b) → (∀ u ∈ un, u.1 < bl.length ∧ okb u.2) → ∀ b ∈ fall un fs bl, okb b := by
  induction un with
  | nil => intro fs bl h _; exact h
  | cons u un ih =>
    intro fs bl h hu
    cases fs with
    | nil => rw [fall_nil]; exact h
    | cons f fs =>
      rw [fall_cons]
      have hu0 := hu u (by simp)
      refine ih _ _ (fun b hb => ?_) (fun x hx => by rw [List.length_set]; exact hu x (by simp [hx]))
      rcases List.mem_or_eq_of_mem_set hb with q | q
      · exact h b q
      · rw [q]; exact torn_ok (fn_le f) hu0.2 (getD_ok h hu0.1)
theorem fall_far (un : List (Nat × List Nat)) (i : Nat) : ∀ (fs : List (Int × Int)) (bl : List (List Nat)), (∀ u ∈ un, u.1 ≠ i) → (fall un fs bl).getD i [] = bl.getD i [] := by
  induction un with
  | nil => intro fs bl _; rfl
  | cons u un ih =>
    intro fs bl hu
    cases fs with
    | nil => rw [fall_nil]
    | cons f fs =>
      rw [fall_cons, ih _ _ (fun x hx => hu x (by simp [hx]))]
      simp [List.getD, List.getElem?_set, hu u (by simp)]
/-! It stays a disk. -/
theorem okD_new (n : Nat) : OkD (dNew n) := by
  refine ⟨fun b hb => ?_, fun u hu => by cases hu⟩
  rw [(List.mem_replicate.1 hb).2]
  exact ⟨List.length_replicate, fun c hc => by rw [(List.mem_replicate.1 hc).2]; omega⟩
theorem okD_gone {s : Dsk} (h : OkD s) : OkD (dGone s) := by
  obtain ⟨e1, e2⟩ := dGone_bl s
  exact ⟨by rw [e1]; exact h.bl, by rw [e1, e2]; exact h.un⟩
theorem dAsk_lt {s : Dsk} {i : Int} (h : dAsk s i = 0) : s.dn = false ∧ 0 ≤ i ∧ i.toNat < s.bl.length := by
  unfold dAsk at h
  by_cases q : s.dn = true
  · rw [if_pos q] at h; omega
  · rw [if_neg q] at h
    by_cases q2 : i < 0 ∨ (s.bl.length : Int) ≤ i
    · rw [if_pos q2] at h; omega
    · exact ⟨by simpa using q, by omega, by omega⟩
theorem okD_wr {s : Dsk} (h : OkD s) (i : Int) (b : List Nat) (hb : ∀ c ∈ b, c < 256) : OkD (wrS s i b) := by
  unfold wrS
  split
  · exact h
  · rename_i q
    have q1 : dAsk s i = 0 := by omega
    refine okD_gone ⟨h.bl, fun u hu => ?_⟩
    rcases List.mem_append.1 hu with q | q
    · exact h.un u q
    · obtain rfl : u = (i.toNat, full b) := by simpa using q
      exact ⟨(dAsk_lt q1).2.2, full_ok (by omega) hb⟩
theorem okD_fl {s : Dsk} (h : OkD s) : OkD (flS s) := by
  unfold flS
  split
  · exact h
  · split
    · exact ⟨lay_ok _ _ h.bl (fun u hu => (h.un u hu).2), fun u hu => by cases hu⟩
    · exact okD_gone h
theorem okD_ar {s : Dsk} (h : OkD s) (n : Int) : OkD (arS s n) := ⟨h.bl, h.un⟩
theorem okD_cr {s : Dsk} (h : OkD s) (fs : List (Int × Int)) : OkD (crS s fs) := ⟨fall_ok _ _ _ h.bl h.un, fun u hu => by cases hu⟩
/-! What was flushed is there. -/
structure Fls (i : Nat) (X : List Nat) (s : Dsk) : Prop where
  lt : i < s.bl.length
  is : s.bl.getD i [] = X
  no : ∀ u ∈ s.un, u.1 ≠ i
theorem fls_gone {i : Nat} {X : List Nat} {s : Dsk} (h : Fls i X s) : Fls i X (dGone s) := by
  obtain ⟨e1, e2⟩ := dGone_bl s
  exact ⟨by rw [e1]; exact h.lt, by rw [e1]; exact h.is, by rw [e2]; exact h.no⟩
theorem fls_wr {i : Nat} {X : List Nat} {s : Dsk} (h : Fls i X s) (k : Int) (b : List Nat) (hk : k ≠ (i : Int)) : Fls i X (wrS s k b) := by
  unfold wrS
  split
  · exact h
  · rename_i q
    have q1 := dAsk_lt (show dAsk s k = 0 by omega)
    refine fls_gone ⟨h.lt, h.is, fun u hu => ?_⟩
    rcases List.mem_append.1 hu with q | q
    · exact h.no u q
    · obtain rfl : u = (k.toNat, full b) := by simpa using q
      show k.toNat ≠ i
      omega
theorem fls_fl {i : Nat} {X : List Nat} {s : Dsk} (h : Fls i X s) : Fls i X (flS s) := by
  unfold flS
  split
  · exact h
  · split
    · exact ⟨by show i < (lay _ _).length; rw [lay_len]; exact h.lt, by show (lay _ _).getD i [] = X; rw [lay_far _ _ _ h.no]; exact h.is, fun u hu => by cases hu⟩
    · exact fls_gone h
theorem fls_ar {i : Nat} {X : List Nat} {s : Dsk} (h : Fls i X s) (n : Int) : Fls i X (arS s n) := ⟨h.lt, h.is, h.no⟩
theorem fls_cr {i : Nat} {X : List Nat} {s : Dsk} (h : Fls i X s) (fs : List (Int × Int)) : Fls i X (crS s fs) :=
  ⟨by show i < (fall _ _ _).length; rw [fall_len]; exact h.lt, by show (fall _ _ _).getD i [] = X; rw [fall_far _ _ _ _ h.no]; exact h.is, fun u hu => by cases hu⟩
/-! Behind a fall. -/
def Mix (ws : List (List Nat)) (b : List Nat) : Prop := ∀ j, j < 128 → ∃ w ∈ ws, b.getD j 0 = w.getD j 0
theorem mix_torn {ws : List (List Nat)} {n : Nat} {w old : List Nat} (hn : n ≤ 128) (hw : w.length = 128) (ho : old.length = 128) (h1 : w ∈ ws) (h2 : Mix ws old) : Mix ws (torn n w old) := by
  intro j hj
  rw [torn_get hn hw ho]
  split
  · exact ⟨w, h1, rfl⟩
  · exact h2 j hj
theorem mix_fall (ws : List (List Nat)) (un : List (Nat × List Nat)) : ∀ (fs : List (Int × Int)) (bl : List (List Nat)), bl.length = 1 → (∀ u ∈ un, u.1 = 0 ∧ okb u.2 ∧ u.2 ∈ ws) → okb (bl.getD 0 []) → Mix ws (bl.getD 0 []) → Mix ws ((fall un fs bl).getD 0 []) := by
  induction un with
  | nil => intro fs bl _ _ _ h; exact h
  | cons u un ih =>
    intro fs bl hl hu hb h
    cases fs with
    | nil => rw [fall_nil]; exact h
    | cons f fs =>
      rw [fall_cons]
      obtain ⟨u0, u1, u2⟩ := hu u (by simp)
      have e : (bl.set u.1 (torn (fn f) u.2 (bl.getD u.1 []))).getD 0 [] = torn (fn f) u.2 (bl.getD 0 []) := by
        rw [u0]
        simp [List.getD, List.getElem?_set, hl]
      refine ih _ _ (by rw [List.length_set]; exact hl) (fun x hx => hu x (by simp [hx])) (by rw [e]; exact torn_ok (fn_le f) u1 hb) (by rw [e]; exact mix_torn (fn_le f) u1.1 hb.1 u2 h)
/-! Armed. -/
structure Arm (n i : Nat) (s : Dsk) : Prop where
  len : s.bl.length = 4
  ar : s.ar = true
  dn : s.dn = decide (n < i)
  lf : i ≤ n → s.lf = (n : Int) - (i : Int)
theorem arm_gone {n i : Nat} {s : Dsk} (h : Arm n i s) (hi : i ≤ n) : Arm n (i + 1) (dGone s) := by
  have h1 := h.lf hi
  unfold dGone
  rw [if_pos h.ar]
  by_cases q : i = n
  · rw [if_pos (by omega)]
    exact ⟨h.len, h.ar, by simp [q], fun x => by omega⟩
  · rw [if_neg (by omega)]
    refine ⟨h.len, h.ar, ?_, fun x => by show s.lf - 1 = _; omega⟩
    show s.dn = _
    rw [h.dn]
    simp only [decide_eq_decide]
    omega
theorem arm_go {n i : Nat} {s : Dsk} (h : Arm n i s) (hi : i ≤ n) : dGo s = decide (i < n) := by
  have h1 := h.lf hi
  unfold dGo
  rw [h.ar]
  simp only [Bool.not_true, Bool.false_or, decide_eq_decide]
  omega
theorem arm_wr {n i : Nat} {s : Dsk} (h : Arm n i s) (b : List Nat) (hb : b.length ≤ 128) : Arm n (i + 1) (wrS s 0 b) ∧ wrE s 0 b = (if i < n then 0 else 150) := by
  have hl := h.len
  by_cases q : i ≤ n
  · have hd : s.dn = false := by rw [h.dn]; simp; omega
    have ha : dAsk s 0 = 0 := by unfold dAsk; rw [hd, if_neg (by simp), if_neg (by omega)]
    have hg := arm_go h q
    refine ⟨?_, ?_⟩
    · unfold wrS
      rw [if_neg (by omega)]
      exact arm_gone (s := { s with un := s.un ++ [((0 : Int).toNat, full b)] }) ⟨h.len, h.ar, h.dn, h.lf⟩ q
    · unfold wrE
      rw [if_neg (by omega), if_neg (by omega), hg]
      simp only [decide_eq_true_eq]
  · have hd : s.dn = true := by rw [h.dn]; simp; omega
    have ha : dAsk s 0 = 150 := by unfold dAsk; rw [if_pos hd]
    refine ⟨?_, ?_⟩
    · unfold wrS
      rw [if_pos (by omega)]
      exact ⟨h.len, h.ar, by rw [hd]; simp; omega, fun x => by omega⟩
    · unfold wrE
      rw [if_pos (by omega), ha, if_neg (by omega)]
theorem arm_fl {n i : Nat} {s : Dsk} (h : Arm n i s) : Arm n (i + 1) (flS s) ∧ flE s = (if i < n then 0 else 150) := by
  by_cases q : i ≤ n
  · have hd : s.dn = false := by rw [h.dn]; simp; omega
    have hg := arm_go h q
    have hA := arm_gone h q
    refine ⟨?_, ?_⟩
    · unfold flS
      rw [if_neg (by simp [hd])]
      split
      · exact ⟨by show (lay _ _).length = 4; rw [lay_len]; exact h.len, hA.ar, hA.dn, hA.lf⟩
      · exact hA
    · unfold flE
      rw [if_neg (by simp [hd]), hg]
      simp only [decide_eq_true_eq]
  · have hd : s.dn = true := by rw [h.dn]; simp; omega
    refine ⟨?_, ?_⟩
    · unfold flS
      rw [if_pos hd]
      exact ⟨h.len, h.ar, by rw [hd]; simp; omega, fun x => by omega⟩
    · unfold flE
      rw [if_pos hd, if_neg (by omega)]
end Go.Proofs.YtkbpcmjdfaokhaaDoor
