/-
Layer 15's plain disk: what is safe, what is under way; writes, flushes, falls.
Plain numbers of layer 11: bits of a text that are turned one by one.
-/
import Derived.Test.YtpmmfmlldkdfhaaDoorZ00
import Derived.Test.YtpmmfmlldkdfhaaDoorZ01

set_option linter.unusedVariables false
set_option linter.unusedSimpArgs false
namespace Go.Proofs.YtpmmfmlldkdfhaaDoor

/-- A disk. -/
structure Dsk where
  bl : List (List Nat)
  un : List (Nat × List Nat)
  ar : Bool
  lf : Int
  dn : Bool
/-- Bytes, with noughts behind them. -/
def full (b : List Nat) : List Nat := b ++ List.replicate (128 - b.length) 0
def okb (b : List Nat) : Prop := b.length = 128 ∧ ∀ c ∈ b, c < 256
/-- It is one. -/
structure OkD (s : Dsk) : Prop where
  bl : ∀ b ∈ s.bl, okb b
  un : ∀ u ∈ s.un, u.1 < s.bl.length ∧ okb u.2
def dNew (n : Nat) : Dsk := ⟨List.replicate n (List.replicate 128 0), [], false, 0, false⟩
def dGo (s : Dsk) : Bool := !s.ar || decide (s.lf ≠ 0)
def dGone (s : Dsk) : Dsk := if s.ar = true then (if s.lf = 0 then { s with dn := true } else { s with lf := s.lf - 1 }) else s
def dAsk (s : Dsk) (i : Int) : Nat := if s.dn = true then 150 else if i < 0 ∨ (s.bl.length : Int) ≤ i then 151 else 0
def wrE (s : Dsk) (i : Int) (b : List Nat) : Nat := if dAsk s i ≠ 0 then dAsk s i else if 128 < b.length then 3 else if dGo s = true then 0 else 150
def wrS (s : Dsk) (i : Int) (b : List Nat) : Dsk := if dAsk s i ≠ 0 ∨ 128 < b.length then s else dGone { s with un := s.un ++ [(i.toNat, full b)] }
def lastU (un : List (Nat × List Nat)) (i : Nat) (d : List Nat) : List Nat := un.foldl (fun d u => if u.1 = i then u.2 else d) d
def rdB (s : Dsk) (i : Int) : List Nat := if dAsk s i ≠ 0 then [] else lastU s.un i.toNat (s.bl.getD i.toNat [])
def lay (un : List (Nat × List Nat)) (bl : List (List Nat)) : List (List Nat) := un.foldl (fun bl u => bl.set u.1 u.2) bl
def flE (s : Dsk) : Nat := if s.dn = true then 150 else if dGo s = true then 0 else 150
def flS (s : Dsk) : Dsk := if s.dn = true then s else if dGo s = true then { dGone s with bl := lay s.un s.bl, un := [] } else dGone s
def arS (s : Dsk) (n : Int) : Dsk := { s with ar := decide (0 ≤ n), lf := n }
/-- How many bytes a fate leaves. -/
def fn (f : Int × Int) : Nat := if f.1 = 1 then 128 else if f.1 = 2 then min f.2.toNat 128 else 0
def torn (n : Nat) (w old : List Nat) : List Nat := w.take n ++ old.drop n
def fall (un : List (Nat × List Nat)) (fs : List (Int × Int)) (bl : List (List Nat)) : List (List Nat) := (un.zip fs).foldl (fun bl p => bl.set p.1.1 (torn (fn p.2) p.1.2 (bl.getD p.1.1 []))) bl
def crS (s : Dsk) (fs : List (Int × Int)) : Dsk := ⟨fall s.un fs s.bl, [], false, 0, false⟩

theorem full_ok {b : List Nat} (h : b.length ≤ 128) (hb : ∀ c ∈ b, c < 256) : okb (full b) := by
  unfold full
  refine ⟨by rw [List.length_append, List.length_replicate]; omega, fun c hc => ?_⟩
  rcases List.mem_append.1 hc with q | q
  · exact hb c q
  · rw [(List.mem_replicate.1 q).2]; omega
theorem fn_le (f : Int × Int) : fn f ≤ 128 := by
  unfold fn
  split
  · omega
  · split
    · exact Nat.min_le_right _ _
    · omega
theorem torn_ok {n : Nat} {w old : List Nat} (hn : n ≤ 128) (hw : okb w) (ho : okb old) : okb (torn n w old) := by
  unfold torn
  refine ⟨by rw [List.length_append, List.length_take, List.length_drop, hw.1, ho.1]; omega, fun c hc => ?_⟩
  rcases List.mem_append.1 hc with q | q
  · exact hw.2 c (List.mem_of_mem_take q)
  · exact ho.2 c (List.mem_of_mem_drop q)
theorem torn_get {n : Nat} {w old : List Nat} (hn : n ≤ 128) (hw : w.length = 128) (ho : old.length = 128) (j : Nat) : (torn n w old).getD j 0 = if j < n then w.getD j 0 else old.getD j 0 := by
  unfold torn
  simp only [List.getD, List.getElem?_append, List.length_take, hw, Nat.min_eq_left hn, List.getElem?_take, List.getElem?_drop]
  split
  · rfl
  · rw [show n + (j - n) = j by omega]
theorem dGone_bl (s : Dsk) : (dGone s).bl = s.bl ∧ (dGone s).un = s.un := by
  unfold dGone
  repeat' split
  all_goals exact ⟨rfl, rfl⟩
theorem lay_len (un : List (Nat × List Nat)) : ∀ bl, (lay un bl).length = bl.length := by
  unfold lay
  induction un with
  | nil => intro bl; rfl
  | cons u un ih => intro bl; rw [List.foldl_cons, ih, List.length_set]
theorem lay_ok (un : List (Nat × List Nat)) : ∀ bl : List (List Nat), (∀ b ∈ bl, okb b) → (∀ u ∈ un, okb u.2) → ∀ b ∈ lay un bl, okb b := by
  unfold lay
  induction un with
  | nil => intro bl h _; exact h
  | cons u un ih =>
    intro bl h hu
    rw [List.foldl_cons]
    refine ih _ (fun b hb => ?_) (fun x hx => hu x (by simp [hx]))
    rcases List.mem_or_eq_of_mem_set hb with q | q
    · exact h b q
    · rw [q]; exact hu u (by simp)
theorem lay_far (un : List (Nat × List Nat)) (i : Nat) : ∀ bl : List (List Nat), (∀ u ∈ un, u.1 ≠ i) → (lay un bl).getD i [] = bl.getD i [] := by
  unfold lay
  induction un with
  | nil => intro bl _; rfl
  | cons u un ih =>
    intro bl hu
    rw [List.foldl_cons, ih _ (fun x hx => hu x (by simp [hx]))]
    simp [List.getD, List.getElem?_set, hu u (by simp)]
theorem lay_last (un : List (Nat × List Nat)) (i : Nat) : ∀ bl : List (List Nat), i < bl.length → (lay un bl).getD i [] = lastU un i (bl.getD i []) := by
  unfold lay lastU
  induction un with
  | nil => intro bl _; rfl
  | cons u un ih =>
    intro bl hi
    rw [List.foldl_cons, List.foldl_cons, ih _ (by rw [List.length_set]; exact hi)]
    congr 1
    by_cases q : u.1 = i
    · rw [if_pos q]; simp [List.getD, List.getElem?_set, q, hi]
    · rw [if_neg q]; simp [List.getD, List.getElem?_set, q]
theorem fall_cons (u : Nat × List Nat) (un : List (Nat × List Nat)) (f : Int × Int) (fs : List (Int × Int)) (bl : List (List Nat)) : fall (u :: un) (f :: fs) bl = fall un fs (bl.set u.1 (torn (fn f) u.2 (bl.getD u.1 []))) := rfl
theorem fall_nil (un : List (Nat × List Nat)) (bl : List (List Nat)) : fall un [] bl = bl := by unfold fall; rw [List.zip_nil_right]; rfl
theorem fall_none (fs : List (Int × Int)) (bl : List (List Nat)) : fall [] fs bl = bl := rfl
theorem fall_len (un : List (Nat × List Nat)) : ∀ fs bl, (fall un fs bl).length = bl.length := by
  induction un with
  | nil => intro fs bl; rfl
  | cons u un ih =>
    intro fs bl
    cases fs with
    | nil => rw [fall_nil]
    | cons f fs => rw [fall_cons, ih, List.length_set]
theorem getD_ok {bl : List (List Nat)} (h : ∀ b ∈ bl, okb b) {i : Nat} (hi : i < bl.length) : okb (bl.getD i []) := by
  have e : bl.getD i [] = bl[i] := by simp [List.getD, hi]
  rw [e]
  exact h _ (List.getElem_mem hi)
theorem fall_ok (un : List (Nat × List Nat)) : ∀ (fs : List (Int × Int)) (bl : List (List Nat)), (∀ b ∈ bl, okb b) → (∀ u ∈ un, u.1 < bl.length ∧ okb u.2) → ∀ b ∈ fall un fs bl, okb b := by
  induction un with
  | nil => intro fs bl h _; exact h
  | cons u un ih =>
    intro fs bl h hu
    cases fs with
    | nil => rw [fall_nil]; exact h
    | cons f fs =>
      rw [fall_cons]
      have hu0 := hu u (by simp)
      refine ih _ _ (fun b hb => ?_) (fun x hx => by rw [List.length_set]; exact hu x (by simp [hx]))
      rcases List.mem_or_eq_of_mem_set hb with q | q
      · exact h b q
      · rw [q]; exact torn_ok (fn_le f) hu0.2 (getD_ok h hu0.1)
theorem fall_far (un : List (Nat × List Nat)) (i : Nat) : ∀ (fs : List (Int × Int)) (bl : List (List Nat)), (∀ u ∈ un, u.1 ≠ i) → (fall un fs bl).getD i [] = bl.getD i [] := by
  induction un with
  | nil => intro fs bl _; rfl
  | cons u un ih =>
    intro fs bl hu
    cases fs with
    | nil => rw [fall_nil]
    | cons f fs =>
      rw [fall_cons, ih _ _ (fun x hx => hu x (by simp [hx]))]
      simp [List.getD, List.getElem?_set, hu u (by simp)]
/-! It stays a disk. -/
theorem okD_new (n : Nat) : OkD (dNew n) := by
  refine ⟨fun b hb => ?_, fun u hu => by cases hu⟩
  rw [(List.mem_replicate.1 hb).2]
  exact ⟨List.length_replicate, fun c hc => by rw [(List.mem_replicate.1 hc).2]; omega⟩
theorem okD_gone {s : Dsk} (h : OkD s) : OkD (dGone s) := by
  obtain ⟨e1, e2⟩ := dGone_bl s
  exact ⟨by rw [e1]; exact h.bl, by rw [e1, e2]; exact h.un⟩
theorem dAsk_lt {s : Dsk} {i : Int} (h : dAsk s i = 0) : s.dn = false ∧ 0 ≤ i ∧ i.toNat < s.bl.length := by
  unfold dAsk at h
  by_cases q : s.dn = true
  · rw [if_pos q] at h; omega
  · rw [if_neg q] at h
    by_cases q2 : i < 0 ∨ (s.bl.length : Int) ≤ i
    · rw [if_pos q2] at h; omega
    · exact ⟨by simpa using q, by omega, by omega⟩
theorem okD_wr {s : Dsk} (h : OkD s) (i : Int) (b : List Nat) (hb : ∀ c ∈ b, c < 256) : OkD (wrS s i b) := by
  unfold wrS
  split
  · exact h
  · rename_i q
    have q1 : dAsk s i = 0 := by omega
    refine okD_gone ⟨h.bl, fun u hu => ?_⟩
    rcases List.mem_append.1 hu with q | q
    · exact h.un u q
    · obtain rfl : u = (i.toNat, full b) := by simpa using q
      exact ⟨(dAsk_lt q1).2.2, full_ok (by omega) hb⟩
theorem okD_fl {s : Dsk} (h : OkD s) : OkD (flS s) := by
  unfold flS
  split
  · exact h
  · split
    · exact ⟨lay_ok _ _ h.bl (fun u hu => (h.un u hu).2), fun u hu => by cases hu⟩
    · exact okD_gone h
theorem okD_ar {s : Dsk} (h : OkD s) (n : Int) : OkD (arS s n) := ⟨h.bl, h.un⟩
theorem okD_cr {s : Dsk} (h : OkD s) (fs : List (Int × Int)) : OkD (crS s fs) := ⟨fall_ok _ _ _ h.bl h.un, fun u hu => by cases hu⟩
/-! What was flushed is there. -/
structure Fls (i : Nat) (X : List Nat) (s : Dsk) : Prop where
  lt : i < s.bl.length
  is : s.bl.getD i [] = X
  no : ∀ u ∈ s.un, u.1 ≠ i
theorem fls_gone {i : Nat} {X : List Nat} {s : Dsk} (h : Fls i X s) : Fls i X (dGone s) := by
  obtain ⟨e1, e2⟩ := dGone_bl s
  exact ⟨by rw [e1]; exact h.lt, by rw [e1]; exact h.is, by rw [e2]; exact h.no⟩
theorem fls_wr {i : Nat} {X : List Nat} {s : Dsk} (h : Fls i X s) (k : Int) (b : List Nat) (hk : k ≠ (i : Int)) : Fls i X (wrS s k b) := by
  unfold wrS
  split
  · exact h
  · rename_i q
    have q1 := dAsk_lt (show dAsk s k = 0 by omega)
    refine fls_gone ⟨h.lt, h.is, fun u hu => ?_⟩
    rcases List.mem_append.1 hu with q | q
    · exact h.no u q
    · obtain rfl : u = (k.toNat, full b) := by simpa using q
      show k.toNat ≠ i
      omega
theorem fls_fl {i : Nat} {X : List Nat} {s : Dsk} (h : Fls i X s) : Fls i X (flS s) := by
  unfold flS
  split
  · exact h
  · split
    · exact ⟨by show i < (lay _ _).length; rw [lay_len]; exact h.lt, by show (lay _ _).getD i [] = X; rw [lay_far _ _ _ h.no]; exact h.is, fun u hu => by cases hu⟩
    · exact fls_gone h
theorem fls_ar {i : Nat} {X : List Nat} {s : Dsk} (h : Fls i X s) (n : Int) : Fls i X (arS s n) := ⟨h.lt, h.is, h.no⟩
theorem fls_cr {i : Nat} {X : List Nat} {s : Dsk} (h : Fls i X s) (fs : List (Int × Int)) : Fls i X (crS s fs) :=
  ⟨by show i < (fall _ _ _).length; rw [fall_len]; exact h.lt, by show (fall _ _ _).getD i [] = X; rw [fall_far _ _ _ _ h.no]; exact h.is, fun u hu => by cases hu⟩
/-! Behind a fall. -/
def Mix (ws : List (List Nat)) (b : List Nat) : Prop := ∀ j, j < 128 → ∃ w ∈ ws, b.getD j 0 = w.getD j 0
theorem mix_torn {ws : List (List Nat)} {n : Nat} {w old : List Nat} (hn : n ≤ 128) (hw : w.length = 128) (ho : old.length = 128) (h1 : w ∈ ws) (h2 : Mix ws old) : Mix ws (torn n w old) := by
  intro j hj
  rw [torn_get hn hw ho]
  split
  · exact ⟨w, h1, rfl⟩
  · exact h2 j hj
theorem mix_fall (ws : List (List Nat)) (un : List (Nat × List Nat)) : ∀ (fs : List (Int × Int)) (bl : List (List Nat)), bl.length = 1 → (∀ u ∈ un, u.1 = 0 ∧ okb u.2 ∧ u.2 ∈ ws) → okb (bl.getD 0 []) → Mix ws (bl.getD 0 []) → Mix ws ((fall un fs bl).getD 0 []) := by
  induction un with
  | nil => intro fs bl _ _ _ h; exact h
  | cons u un ih =>
    intro fs bl hl hu hb h
    cases fs with
    | nil => rw [fall_nil]; exact h
    | cons f fs =>
      rw [fall_cons]
      obtain ⟨u0, u1, u2⟩ := hu u (by simp)
      have e : (bl.set u.1 (torn (fn f) u.2 (bl.getD u.1 []))).getD 0 [] = torn (fn f) u.2 (bl.getD 0 []) := by
        rw [u0]
        simp [List.getD, List.getElem?_set, hl]
      refine ih _ _ (by rw [List.length_set]; exact hl) (fun x hx => hu x (by simp [hx])) (by rw [e]; exact torn_ok (fn_le f) u1 hb) (by rw [e]; exact mix_torn (fn_le f) u1.1 hb.1 u2 h)
/-! Armed. -/
structure Arm (n i : Nat) (s : Dsk) : Prop where
  len : s.bl.length = 4
  ar : s.ar = true
  dn : s.dn = decide (n < i)
  lf : i ≤ n → s.lf = (n : Int) - (i : Int)
theorem arm_gone {n i : Nat} {s : Dsk} (h : Arm n i s) (hi : i ≤ n) : Arm n (i + 1) (dGone s) := by
  have h1 := h.lf hi
  unfold dGone
  rw [if_pos h.ar]
  by_cases q : i = n
  · rw [if_pos (by omega)]
    exact ⟨h.len, h.ar, by simp [q], fun x => by omega⟩
  · rw [if_neg (by omega)]
    refine ⟨h.len, h.ar, ?_, fun x => by show s.lf - 1 = _; omega⟩
    show s.dn = _
    rw [h.dn]
    simp only [decide_eq_decide]
    omega
theorem arm_go {n i : Nat} {s : Dsk} (h : Arm n i s) (hi : i ≤ n) : dGo s = decide (i < n) := by
  have h1 := h.lf hi
  unfold dGo
  rw [h.ar]
  simp only [Bool.not_true, Bool.false_or, decide_eq_decide]
  omega
theorem arm_wr {n i : Nat} {s : Dsk} (h : Arm n i s) (b : List Nat) (hb : b.length ≤ 128) : Arm n (i + 1) (wrS s 0 b) ∧ wrE s 0 b = (if i < n then 0 else 150) := by
  have hl := h.len
  by_cases q : i ≤ n
  · have hd : s.dn = false := by rw [h.dn]; simp; omega
    have ha : dAsk s 0 = 0 := by unfold dAsk; rw [hd, if_neg (by simp), if_neg (by omega)]
    have hg := arm_go h q
    refine ⟨?_, ?_⟩
    · unfold wrS
      rw [if_neg (by omega)]
      exact arm_gone (s := { s with un := s.un ++ [((0 : Int).toNat, full b)] }) ⟨h.len, h.ar, h.dn, h.lf⟩ q
    · unfold wrE
      rw [if_neg (by omega), if_neg (by omega), hg]
      simp only [decide_eq_true_eq]
  · have hd : s.dn = true := by rw [h.dn]; simp; omega
    have ha : dAsk s 0 = 150 := by unfold dAsk; rw [if_pos hd]
    refine ⟨?_, ?_⟩
    · unfold wrS
      rw [if_pos (by omega)]
      exact ⟨h.len, h.ar, by rw [hd]; simp; omega, fun x => by omega⟩
    · unfold wrE
      rw [if_pos (by omega), ha, if_neg (by omega)]
theorem arm_fl {n i : Nat} {s : Dsk} (h : Arm n i s) : Arm n (i + 1) (flS s) ∧ flE s = (if i < n then 0 else 150) := by
  by_cases q : i ≤ n
  · have hd : s.dn = false := by rw [h.dn]; simp; omega
    have hg := arm_go h q
    have hA := arm_gone h q
    refine ⟨?_, ?_⟩
    · unfold flS
      rw [if_neg (by simp [hd])]
      split
      · exact ⟨by show (lay _ _).length = 4; rw [lay_len]; exact h.len, hA.ar, hA.dn, hA.lf⟩
      · exact hA
    · unfold flE
      rw [if_neg (by simp [hd]), hg]
      simp only [decide_eq_true_eq]
  · have hd : s.dn = true := by rw [h.dn]; simp; omega
    refine ⟨?_, ?_⟩
    · unfold flS
      rw [if_pos hd]
      exact ⟨h.len, h.ar, by rw [hd]; simp; omega, fun x => by omega⟩
    · unfold flE
      rw [if_pos hd, if_neg (by omega)]
end Go.Proofs.YtpmmfmlldkdfhaaDoor
set_option linter.unusedVariables false
namespace Go.Proofs.YtpmmfmlldkdfhaaDoor

/-- The text, so many of the run's bits turned. -/
def bF (f : Nat → Nat) (p x : Nat) : Nat → Nat → Nat
  | 0 => f
  | j + 1 => if x.testBit j = true then (fun q => if q = (p + j) / 8 then bF f p x j q ^^^ 2 ^ ((p + j) % 8) else bF f p x j q) else bF f p x j
theorem bF_lt (f : Nat → Nat) (p x : Nat) (hf : ∀ k, f k < 256) (j : Nat) : ∀ k, bF f p x j k < 256 := by
  induction j with
  | zero => exact hf
  | succ j ih =>
    intro k
    show (if x.testBit j = true then (fun q => if q = (p + j) / 8 then bF f p x j q ^^^ 2 ^ ((p + j) % 8) else bF f p x j q) else bF f p x j) k < 256
    split
    · dsimp only
      split
      · refine Nat.xor_lt_two_pow (n := 8) (ih k) (Nat.pow_lt_pow_right (by omega) (by omega))
      · exact ih k
    · exact ih k
theorem pow_bit (e i : Nat) (he : e < 8) (hi : i < 8) : 2 ^ e / 2 ^ i % 2 = if i = e then 1 else 0 := by
  have : ∀ e i : Fin 8, 2 ^ e.1 / 2 ^ i.1 % 2 = if i.1 = e.1 then 1 else 0 := by decide
  exact this ⟨e, he⟩ ⟨i, hi⟩
theorem bF_bits (f : Nat → Nat) (p x j q : Nat) : cBt (bF f p x j) q = cBt f q ^^^ (if p ≤ q ∧ q < p + j then (x.testBit (q - p)).toNat else 0) := by
  induction j with
  | zero =>
    rw [if_neg (by omega), Nat.xor_zero]
    rfl
  | succ j ih =>
    by_cases hb : x.testBit j = true
    · have e : bF f p x (j + 1) = fun i => bF f p x j i ^^^ (if i = (p + j) / 8 then 2 ^ ((p + j) % 8) else 0) := by
        show (if x.testBit j = true then _ else _) = _
        rw [if_pos hb]
        funext i
        by_cases hi : i = (p + j) / 8
        · rw [if_pos hi, if_pos hi]
        · rw [if_neg hi, if_neg hi, Nat.xor_zero]
      rw [e, cBt_xor, ih]
      have h : cBt (fun i => if i = (p + j) / 8 then 2 ^ ((p + j) % 8) else 0) q = if q = p + j then 1 else 0 := by
        show (if q / 8 = (p + j) / 8 then 2 ^ ((p + j) % 8) else 0) / 2 ^ (q % 8) % 2 = _
        by_cases h8 : q / 8 = (p + j) / 8
        · rw [if_pos h8, pow_bit _ _ (by omega) (by omega)]
          by_cases hq : q = p + j
          · rw [if_pos (by omega), if_pos hq]
          · rw [if_neg (by omega), if_neg hq]
        · rw [if_neg h8, if_neg (by intro e; exact h8 (by rw [e]))]
          simp
      rw [h, Nat.xor_assoc]
      congr 1
      by_cases hq : q = p + j
      · rw [if_neg (by omega), if_pos hq, if_pos (by omega), Nat.zero_xor, hq, show p + j - p = j by omega, hb]
        rfl
      · rw [if_neg hq, Nat.xor_zero]
        by_cases h1 : p ≤ q ∧ q < p + j
        · rw [if_pos h1, if_pos (by omega)]
        · rw [if_neg h1, if_neg (by omega)]
    · have e : bF f p x (j + 1) = bF f p x j := by
        show (if x.testBit j = true then _ else _) = _
        rw [if_neg hb]
      rw [e, ih]
      congr 1
      by_cases hq : q = p + j
      · rw [if_neg (by omega), if_pos (by omega), hq, show p + j - p = j by omega]
        rw [Bool.not_eq_true] at hb
        rw [hb]
        rfl
      · by_cases h1 : p ≤ q ∧ q < p + j
        · rw [if_pos h1, if_pos (by omega)]
        · rw [if_neg h1, if_neg (by omega)]
theorem bF_step (f : Nat → Nat) (p x j k : Nat) (hb : x.testBit j = true) : (if k = (p + j) / 8 then bF f p x j ((p + j) / 8) ^^^ 2 ^ ((p + j) % 8) else bF f p x j k) = bF f p x (j + 1) k := by
  show _ = (if x.testBit j = true then (fun q => if q = (p + j) / 8 then bF f p x j q ^^^ 2 ^ ((p + j) % 8) else bF f p x j q) else bF f p x j) k
  rw [if_pos hb]
  by_cases h : k = (p + j) / 8
  · rw [if_pos h, if_pos h, h]
  · rw [if_neg h, if_neg h]
theorem bF_same (f : Nat → Nat) (p x j k : Nat) (hb : ¬ x.testBit j = true) : bF f p x (j + 1) k = bF f p x j k := by
  show (if x.testBit j = true then (fun q => if q = (p + j) / 8 then bF f p x j q ^^^ 2 ^ ((p + j) % 8) else bF f p x j q) else bF f p x j) k = _
  rw [if_neg hb]
end Go.Proofs.YtpmmfmlldkdfhaaDoor
