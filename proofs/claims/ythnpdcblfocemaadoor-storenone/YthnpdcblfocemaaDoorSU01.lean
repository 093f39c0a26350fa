/-
  Texts of this proof, joined: DkMath FrMath SnMath SnMath2 SnMath3 CRefB.
-/
import Derived.Test.YthnpdcblfocemaaDoorSU00
set_option linter.unusedVariables false
set_option linter.unusedSimpArgs false
namespace Go.Proofs.YthnpdcblfocemaaDoor

structure Dsk where
  bl : List (List Nat)
  un : List (Nat × List Nat)
  ar : Bool
  lf : Int
  dn : Bool
def full (b : List Nat) : List Nat := b ++ List.replicate (128 - b.length) 0
def okb (b : List Nat) : Prop := b.length = 128 ∧ ∀ c ∈ b, c < 256
structure OkD (s : Dsk) : Prop where
  bl : ∀ b ∈ s.bl, okb b
  un : ∀ u ∈ s.un, u.1 < s.bl.length ∧ okb u.2
def dNew (n : Nat) : Dsk := ⟨List.replicate n (List.replicate 128 0), [], false, 0, false⟩
def dGo (s : Dsk) : Bool := !s.ar || decide (s.lf ≠ 0)
def dGone (s : Dsk) : Dsk := if s.ar = true then (if s.lf = 0 then { s with dn := true } else { s with lf := s.lf - 1 }) else s
def dAsk (s : Dsk) (i : Int) : Nat := if s.dn = true then 150 else if i < 0 ∨ (s.bl.length : Int) ≤ i then 151 else 0
def wrE (s : Dsk) (i : Int) (b : List Nat) : Nat := if dAsk s i ≠ 0 then dAsk s i else if 128 < b.length then 3 else if dGo s = true then 0 else 150
def wrS (s : Dsk) (i : Int) (b : List Nat) : Dsk := if dAsk s i ≠ 0 ∨ 128 < b.length then s else dGone { s with un := s.un ++ [(i.toNat, full b)] }
def lastU (un : List (Nat × List Nat)) (i : Nat) (d : List Nat) : List Nat := un.foldl (fun d u => if u.1 = i then u.2 else d) d
def rdB (s : Dsk) (i : Int) : List Nat := if dAsk s i ≠ 0 then [] else lastU s.un i.toNat (s.bl.getD i.toNat [])
def lay (un : List (Nat × List Nat)) (bl : List (List Nat)) : List (List Nat) := un.foldl (fun bl u => bl.set u.1 u.2) bl
def flE (s : Dsk) : Nat := if s.dn = true then 150 else if dGo s = true then 0 else 150
def flS (s : Dsk) : Dsk := if s.dn = true then s else if dGo s = true then { dGone s with bl := lay s.un s.bl, un := [] } else dGone s
def arS (s : Dsk) (n : Int) : Dsk := { s with ar := decide (0 ≤ n), lf := n }
def fn (f : Int × Int) : Nat := if f.1 = 1 then 128 else if f.1 = 2 then min f.2.toNat 128 else 0
def torn (n : Nat) (w old : List Nat) : List Nat := w.take n ++ old.drop n
def fall (un : List (Nat × List Nat)) (fs : List (Int × Int)) (bl : List (List Nat)) : List (List Nat) := (un.zip fs).foldl (fun bl p => bl.set p.1.1 (torn (fn p.2) p.1.2 (bl.getD p.1.1 []))) bl
def crS (s : Dsk) (fs : List (Int × Int)) : Dsk := ⟨fall s.un fs s.bl, [], false, 0, false⟩

theorem full_ok {b : List Nat} (h : b.length ≤ 128) (hb : ∀ c ∈ b, c < 256) : okb (full b) := by
  unfold full
  refine ⟨by rw [List.length_append, List.length_replicate]; omega, fun c hc => ?_⟩
  rcases List.mem_append.1 hc with q | q
  · exact hb c q
  · rw [(List.mem_replicate.1 q).2]; omega
theorem fn_le (f : Int × Int) : fn f ≤ 128 := by
  unfold fn
  split
  · omega
  · split
    · exact Nat.min_le_right _ _
    · omega
theorem torn_ok {n : Nat} {w old : List Nat} (hn : n ≤ 128) (hw : okb w) (ho : okb old) : okb (torn n w old) := by
  unfold torn
  refine ⟨by rw [List.length_append, List.length_take, List.length_drop, hw.1, ho.1]; omega, fun c hc => ?_⟩
  rcases List.mem_append.1 hc with q | q
  · exact hw.2 c (List.mem_of_mem_take q)
  · exact ho.2 c (List.mem_of_mem_drop q)
theorem dGone_bl (s : Dsk) : (dGone s).bl = s.bl ∧ (dGone s).un = s.un := by
  unfold dGone
  repeat' split
  all_goals exact ⟨rfl, rfl⟩
theorem lay_len (un : List (Nat × List Nat)) : ∀ bl, (lay un bl).length = bl.length := by
  unfold lay
  induction un with
  | nil => intro bl; rfl
  | cons u un ih => intro bl; rw [List.foldl_cons, ih, List.length_set]
theorem lay_ok (un : List (Nat × List Nat)) : ∀ bl : List (List Nat), (∀ b ∈ bl, okb b) → (∀ u ∈ un, okb u.2) → ∀ b ∈ lay un bl, okb b := by
  unfold lay
  induction un with
  | nil => intro bl h _; exact h
  | cons u un ih =>
    intro bl h hu
    rw [List.foldl_cons]
    refine ih _ (fun b hb => ?_) (fun x hx => hu x (by simp [hx]))
    rcases List.mem_or_eq_of_mem_set hb with q | q
    · exact h b q
    · rw [q]; exact hu u (by simp)
theorem lay_far (un : List (Nat × List Nat)) (i : Nat) : ∀ bl : List (List Nat), (∀ u ∈ un, u.1 ≠ i) → (lay un bl).getD i [] = bl.getD i [] := by
  unfold lay
  induction un with
  | nil => intro bl _; rfl
  | cons u un ih =>
    intro bl hu
    rw [List.foldl_cons, ih _ (fun x hx => hu x (by simp [hx]))]
    simp [List.getD, List.getElem?_set, hu u (by simp)]
theorem lay_last (un : List (Nat × List Nat)) (i : Nat) : ∀ bl : List (List Nat), i < bl.length → (lay un bl).getD i [] = lastU un i (bl.getD i []) := by
  unfold lay lastU
  induction un with
  | nil => intro bl _; rfl
  | cons u un ih =>
    intro bl hi
    rw [List.foldl_cons, List.foldl_cons, ih _ (by rw [List.length_set]; exact hi)]
    congr 1
    by_cases q : u.1 = i
    · rw [if_pos q]; simp [List.getD, List.getElem?_set, q, hi]
    · rw [if_neg q]; simp [List.getD, List.getElem?_set, q]
theorem fall_cons (u : Nat × List Nat) (un : List (Nat × List Nat)) (f : Int × Int) (fs : List (Int × Int)) (bl : List (List Nat)) : fall (u :: un) (f :: fs) bl = fall un fs (bl.set u.1 (torn (fn f) u.2 (bl.getD u.1 []))) := rfl
theorem fall_nil (un : List (Nat × List Nat)) (bl : List (List Nat)) : fall un [] bl = bl := by unfold fall; rw [List.zip_nil_right]; rfl
theorem fall_none (fs : List (Int × Int)) (bl : List (List Nat)) : fall [] fs bl = bl := rfl
theorem fall_len (un : List (Nat × List Nat)) : ∀ fs bl, (fall un fs bl).length = bl.length := by
  induction un with
  | nil => intro fs bl; rfl
  | cons u un ih =>
    intro fs bl
    cases fs with
    | nil => rw [fall_nil]
    | cons f fs => rw [fall_cons, ih, List.length_set]
theorem getD_ok {bl : List (List Nat)} (h : ∀ b ∈ bl, okb b) {i : Nat} (hi : i < bl.length) : okb (bl.getD i []) := by
  have e : bl.getD i [] = bl[i] := by simp [List.getD, hi]
  rw [e]
  exact h _ (List.getElem_mem hi)
theorem fall_ok (un : List (Nat × List Nat)) : ∀ (fs : List (Int × Int)) (bl : List (List Nat)), (∀ b ∈ bl, okb b) → (∀ u ∈ un, u.1 < bl.length ∧ okb u.2) → ∀ b ∈ fall un fs bl, okb b := by
  induction un with
  | nil => intro fs bl h _; exact h
  | cons u un ih =>
    intro fs bl h hu
    cases fs with
    | nil => rw [fall_nil]; exact h
    | cons f fs =>
      rw [fall_cons]
      have hu0 := hu u (by simp)
      refine ih _ _ (fun b hb => ?_) (fun x hx => by rw [List.length_set]; exact hu x (by simp [hx]))
      rcases List.mem_or_eq_of_mem_set hb with q | q
      · exact h b q
      · rw [q]; exact torn_ok (fn_le f) hu0.2 (getD_ok h hu0.1)
theorem fall_far (un : List (Nat × List Nat)) (i : Nat) : ∀ (fs : List (Int × Int)) (bl : List (List Nat)), (∀ u ∈ un, u.1 ≠ i) → (fall un fs bl).getD i [] = bl.getD i [] := by
  induction un with
  | nil => intro fs bl _; rfl
  | cons u un ih =>
    intro fs bl hu
    cases fs with
    | nil => rw [fall_nil]
    | cons f fs =>
      rw [fall_cons, ih _ _ (fun x hx => hu x (by simp [hx]))]
      simp [List.getD, List.getElem?_set, hu u (by simp)]
theorem okD_new (n : Nat) : OkD (dNew n) := by
  refine ⟨fun b hb => ?_, fun u hu => by cases hu⟩
  rw [(List.mem_replicate.1 hb).2]
  exact ⟨List.length_replicate, fun c hc => by rw [(List.mem_replicate.1 hc).2]; omega⟩
theorem okD_gone {s : Dsk} (h : OkD s) : OkD (dGone s) := by
  obtain ⟨e1, e2⟩ := dGone_bl s
  exact ⟨by rw [e1]; exact h.bl, by rw [e1, e2]; exact h.un⟩
theorem dAsk_lt {s : Dsk} {i : Int} (h : dAsk s i = 0) : s.dn = false ∧ 0 ≤ i ∧ i.toNat < s.bl.length := by
  unfold dAsk at h
  by_cases q : s.dn = true
  · rw [if_pos q] at h; omega
  · rw [if_neg q] at h
    by_cases q2 : i < 0 ∨ (s.bl.length : Int) ≤ i
    · rw [if_pos q2] at h; omega
    · exact ⟨by simpa using q, by omega, by omega⟩
theorem okD_wr {s : Dsk} (h : OkD s) (i : Int) (b : List Nat) (hb : ∀ c ∈ b, c < 256) : OkD (wrS s i b) := by
  unfold wrS
  split
  · exact h
  · rename_i q
    have q1 : dAsk s i = 0 := by omega
    refine okD_gone ⟨h.bl, fun u hu => ?_⟩
    rcases List.mem_append.1 hu with q | q
    · exact h.un u q
    · obtain rfl : u = (i.toNat, full b) := by simpa using q
      exact ⟨(dAsk_lt q1).2.2, full_ok (by omega) hb⟩
theorem okD_fl {s : Dsk} (h : OkD s) : OkD (flS s) := by
  unfold flS
  split
  · exact h
  · split
    · exact ⟨lay_ok _ _ h.bl (fun u hu => (h.un u hu).2), fun u hu => by cases hu⟩
    · exact okD_gone h
theorem okD_ar {s : Dsk} (h : OkD s) (n : Int) : OkD (arS s n) := ⟨h.bl, h.un⟩
theorem okD_cr {s : Dsk} (h : OkD s) (fs : List (Int × Int)) : OkD (crS s fs) := ⟨fall_ok _ _ _ h.bl h.un, fun u hu => by cases hu⟩
def Mix (ws : List (List Nat)) (b : List Nat) : Prop := ∀ j, j < 128 → ∃ w ∈ ws, b.getD j 0 = w.getD j 0
end Go.Proofs.YthnpdcblfocemaaDoor
set_option linter.unusedVariables false
set_option linter.unusedSimpArgs false
namespace Go.Proofs.YthnpdcblfocemaaDoor

def sm (l : List Nat) : Nat := cS (fun k => l.getD k 0) l.length
theorem sm_lt (l : List Nat) : sm l < 4294967296 := cS_lt _ _
def four (n : Nat) : List Nat := [n % 256, n / 256 % 256, n / 65536 % 256, n / 16777216]
def hd (k : Nat) (l : List Nat) : List Nat := 82 :: 71 :: 1 :: k :: (four l.length ++ l)
def nn (b : List Nat) : Nat := b.getD 4 0 + 256 * b.getD 5 0 + 65536 * b.getD 6 0 + 16777216 * b.getD 7 0
end Go.Proofs.YthnpdcblfocemaaDoor
set_option linter.unusedVariables false
set_option linter.unusedSimpArgs false
namespace Go.Proofs.YthnpdcblfocemaaDoor

def mix (t a m : Nat) : Nat := a % 256 ^ t + m / 256 ^ t * 256 ^ t
theorem mix_zero (a m : Nat) : mix 0 a m = m := by
  unfold mix
  rw [Nat.pow_zero, Nat.mod_one, Nat.div_one, Nat.mul_one, Nat.zero_add]
theorem deN_mix : ∀ (t : Nat) (A B : List Nat), A.length = B.length → (∀ c ∈ A, c < 256) → (∀ c ∈ B, c < 256) → deN (A.take t ++ B.drop t) = mix t (deN A) (deN B) := by
  intro t
  induction t with
  | zero => intro A B _ _ _; rw [mix_zero]; rfl
  | succ t ih =>
    intro A B hl hA hB
    cases A with
    | nil =>
      have e : B = [] := List.eq_nil_of_length_eq_zero hl.symm
      subst e
      unfold mix
      simp [deN]
    | cons c A =>
      cases B with
      | nil => simp at hl
      | cons d B =>
        have hc := hA c (by simp)
        have hd := hB d (by simp)
        have h := ih A B (by simpa using hl) (fun x hx => hA x (by simp [hx])) (fun x hx => hB x (by simp [hx]))
        have e1 : deN ((c :: A).take (t + 1) ++ (d :: B).drop (t + 1)) = c + 256 * deN (A.take t ++ B.drop t) := rfl
        rw [e1, h]
        show c + 256 * mix t (deN A) (deN B) = mix (t + 1) (c + 256 * deN A) (d + 256 * deN B)
        unfold mix
        rw [show (256 : Nat) ^ (t + 1) = 256 * 256 ^ t by rw [Nat.pow_succ, Nat.mul_comm]]
        rw [Nat.mod_mul, ← Nat.div_div_eq_div_mul]
        rw [show (c + 256 * deN A) % 256 = c by omega, show (c + 256 * deN A) / 256 = deN A by omega, show (d + 256 * deN B) / 256 = deN B by omega]
        rw [Nat.mul_add, ← Nat.add_assoc]
        congr 1
        rw [Nat.mul_left_comm]
theorem mix_mix (t t' a m : Nat) : mix t' a (mix t a m) = mix (max t t') a m := by
  by_cases h : t' ≤ t
  · rw [Nat.max_eq_left h]
    obtain ⟨l, rfl⟩ : ∃ l, t = t' + l := ⟨t - t', by omega⟩
    have hd : (256 : Nat) ^ t' ∣ 256 ^ (t' + l) := ⟨256 ^ l, by rw [Nat.pow_add]⟩
    have e : mix (t' + l) a m % 256 ^ t' = a % 256 ^ t' := by
      unfold mix
      obtain ⟨q, hq⟩ := hd
      rw [Nat.add_mod, Nat.mod_mod_of_dvd _ ⟨q, hq⟩]
      have : m / 256 ^ (t' + l) * 256 ^ (t' + l) % 256 ^ t' = 0 := by
        rw [hq, Nat.mul_left_comm, Nat.mul_mod_right]
      rw [this, Nat.add_zero, Nat.mod_mod]
    have e2 := Nat.mod_add_div (mix (t' + l) a m) (256 ^ t')
    rw [e, Nat.mul_comm] at e2
    conv => lhs; unfold mix
    exact e2
  · obtain ⟨l, rfl⟩ : ∃ l, t' = t + l := ⟨t' - t, by omega⟩
    rw [Nat.max_eq_right (by omega)]
    have hp : 0 < (256 : Nat) ^ t := Nat.pow_pos (by omega)
    have e : mix t a m / 256 ^ (t + l) = m / 256 ^ (t + l) := by
      rw [Nat.pow_add, ← Nat.div_div_eq_div_mul, ← Nat.div_div_eq_div_mul]
      congr 1
      unfold mix
      rw [Nat.add_mul_div_right _ _ hp, Nat.div_eq_of_lt (Nat.mod_lt _ hp), Nat.zero_add]
    unfold mix at e ⊢
    rw [e]
theorem mix_le (t a m : Nat) (h : a = m + 2 ∨ (m = 0 ∧ 1 ≤ a ∧ a ≤ 2)) : mix t a m = a ∨ mix t a m ≤ m := by
  cases t with
  | zero => exact Or.inr (by rw [mix_zero]; exact Nat.le_refl _)
  | succ t =>
    have hp : 0 < (256 : Nat) ^ t := Nat.pow_pos (by omega)
    have hK : 256 ≤ (256 : Nat) ^ (t + 1) := by rw [Nat.pow_succ]; omega
    unfold mix
    generalize (256 : Nat) ^ (t + 1) = K at *
    rcases h with h | ⟨h1, h2, h3⟩
    · subst h
      have ea := Nat.mod_add_div (m + 2) K
      have em := Nat.mod_add_div m K
      have la := Nat.mod_lt (m + 2) (show 0 < K by omega)
      have lm := Nat.mod_lt m (show 0 < K by omega)
      by_cases q : (m + 2) / K = m / K
      · left
        rw [← q, Nat.mul_comm]
        exact ea
      · have q1 : m / K ≤ (m + 2) / K := Nat.div_le_div_right (by omega)
        have q2 : m / K + 1 ≤ (m + 2) / K := by omega
        have q3 : K * (m / K + 1) ≤ K * ((m + 2) / K) := Nat.mul_le_mul_left K q2
        rw [Nat.mul_add, Nat.mul_one] at q3
        right
        rw [Nat.mul_comm (m / K) K]
        omega
    · subst h1
      left
      rw [Nat.mod_eq_of_lt (by omega), Nat.zero_div, Nat.zero_mul, Nat.add_zero]
def gt (h : List Nat) (p k : Nat) : Nat := deN ((h.drop p).take k)
def hd20 (n : Nat) (d : List Nat) : List Nat := enN n 8 ++ (enN d.length 8 ++ enN (sm d) 4)
def hdB (n : Nat) (d : List Nat) : List Nat := hd20 n d ++ (enN (sm (hd20 n d)) 4 ++ (List.replicate 96 0 ++ enN n 8))
theorem hd20_len (n : Nat) (d : List Nat) : (hd20 n d).length = 20 := by simp [hd20, enN_len]
theorem hdB_len (n : Nat) (d : List Nat) : (hdB n d).length = 128 := by simp [hdB, hd20_len, enN_len]
theorem hdB_ok (n : Nat) (d : List Nat) : okb (hdB n d) := by
  refine ⟨hdB_len n d, fun c hc => ?_⟩
  simp only [hdB, hd20, List.mem_append] at hc
  rcases hc with (hc | hc | hc) | hc | hc | hc
  · exact enN_byte _ _ c hc
  · exact enN_byte _ _ c hc
  · exact enN_byte _ _ c hc
  · exact enN_byte _ _ c hc
  · rw [(List.mem_replicate.1 hc).2]; omega
  · exact enN_byte _ _ c hc
theorem part_mid {A B C : List Nat} {p k : Nat} (hp : A.length = p) (hk : B.length = k) : ((A ++ (B ++ C)).drop p).take k = B := by
  rw [← hp, List.drop_left, ← hk, List.take_left]
theorem part_end {A B : List Nat} {p k : Nat} (hp : A.length = p) (hk : B.length = k) : ((A ++ B).drop p).take k = B := by
  rw [← hp, List.drop_left, ← hk, List.take_length]
theorem hdB_n {n : Nat} (d : List Nat) (hn : n < 256 ^ 8) : gt (hdB n d) 0 8 = n := by
  have e : hdB n d = [] ++ (enN n 8 ++ ((enN d.length 8 ++ enN (sm d) 4) ++ (enN (sm (hd20 n d)) 4 ++ (List.replicate 96 0 ++ enN n 8)))) := by simp [hdB, hd20]
  unfold gt
  rw [e, part_mid (A := []) (p := 0) rfl (enN_len n 8), de_en 8 n hn]
theorem hdB_size (n : Nat) {d : List Nat} (hd : d.length < 256 ^ 8) : gt (hdB n d) 8 8 = d.length := by
  have e : hdB n d = enN n 8 ++ (enN d.length 8 ++ (enN (sm d) 4 ++ (enN (sm (hd20 n d)) 4 ++ (List.replicate 96 0 ++ enN n 8)))) := by simp [hdB, hd20]
  unfold gt
  rw [e, part_mid (enN_len n 8) (enN_len _ 8), de_en 8 _ hd]
theorem hdB_sum (n : Nat) (d : List Nat) : gt (hdB n d) 16 4 = sm d := by
  have e : hdB n d = (enN n 8 ++ enN d.length 8) ++ (enN (sm d) 4 ++ (enN (sm (hd20 n d)) 4 ++ (List.replicate 96 0 ++ enN n 8))) := by simp [hdB, hd20]
  unfold gt
  rw [e, part_mid (by simp [enN_len]) (enN_len _ 4), de_en 4 _ (sm_lt d)]
theorem hdB_top (n : Nat) (d : List Nat) : (hdB n d).take 20 = hd20 n d := by
  unfold hdB
  rw [← hd20_len n d, List.take_left]
theorem hdB_hs (n : Nat) (d : List Nat) : gt (hdB n d) 20 4 = sm ((hdB n d).take 20) := by
  rw [hdB_top]
  unfold gt hdB
  rw [part_mid (hd20_len n d) (enN_len _ 4), de_en 4 _ (sm_lt _)]
theorem hdB_last {n : Nat} (d : List Nat) (hn : n < 256 ^ 8) : gt (hdB n d) 120 8 = n := by
  have e : hdB n d = (hd20 n d ++ (enN (sm (hd20 n d)) 4 ++ List.replicate 96 0)) ++ enN n 8 := by simp [hdB]
  unfold gt
  rw [e, part_end (by simp [hd20_len, enN_len]) (enN_len n 8), de_en 8 n hn]
theorem torn_low {k p l : Nat} {H X : List Nat} (hH : H.length = 128) (hk : k ≤ 128) (h : p + l ≤ k) : ((torn k H X).drop p).take l = (H.drop p).take l := by
  unfold torn
  rw [List.drop_append_of_le_length (by rw [List.length_take]; omega), List.take_append_of_le_length (by rw [List.length_drop, List.length_take]; omega), List.drop_take, List.take_take, Nat.min_eq_left (by omega)]
theorem torn_high {k p l : Nat} {H X : List Nat} (hH : H.length = 128) (hk : k ≤ p) (hp : p ≤ 128) : ((torn k H X).drop p).take l = (X.drop p).take l := by
  unfold torn
  have e : (List.take k H).length = k := by rw [List.length_take]; omega
  rw [List.drop_append, e, List.drop_of_length_le (by omega), List.nil_append, List.drop_drop, show k + (p - k) = p by omega]
theorem torn_last {k : Nat} {H X : List Nat} (hH : okb H) (hX : okb X) (h1 : 120 ≤ k) (h2 : k ≤ 128) : gt (torn k H X) 120 8 = mix (k - 120) (gt H 120 8) (gt X 120 8) := by
  unfold gt
  have lH : (H.drop 120).length = 8 := by rw [List.length_drop, hH.1]
  have lX : (X.drop 120).length = 8 := by rw [List.length_drop, hX.1]
  rw [List.take_of_length_le (l := H.drop 120) (by omega), List.take_of_length_le (l := X.drop 120) (by omega)]
  rw [← deN_mix (k - 120) (H.drop 120) (X.drop 120) (by omega) (fun c hc => hH.2 c (List.mem_of_mem_drop hc)) (fun c hc => hX.2 c (List.mem_of_mem_drop hc))]
  congr 1
  unfold torn
  rw [List.drop_append_of_le_length (by rw [List.length_take, hH.1]; omega), List.take_of_length_le (by simp [hH.1, hX.1]; omega), List.drop_take, List.drop_drop, show 120 + (k - 120) = k by omega]
end Go.Proofs.YthnpdcblfocemaaDoor
set_option linter.unusedVariables false
set_option linter.unusedSimpArgs false
namespace Go.Proofs.YthnpdcblfocemaaDoor

def slA (at_ room which : Nat) : Nat := at_ + which * (room + 1)
def whl (h : List Nat) (which room : Nat) : Prop := gt h 0 8 = gt h 120 8 ∧ 1 ≤ gt h 0 8 ∧ gt h 0 8 ≤ 4611686018427387904 ∧ gt h 0 8 % 2 = which ∧ gt h 8 8 ≤ room * 128 ∧ gt h 20 4 = sm (h.take 20)
instance (h : List Nat) (which room : Nat) : Decidable (whl h which room) := by unfold whl; infer_instance
def sdat (B : Nat → List Nat) (a room : Nat) : List Nat := (List.range room).flatMap fun i => B (a + 1 + i)
def slt (B : Nat → List Nat) (at_ room which : Nat) : List Nat × Nat :=
  if whl (B (slA at_ room which)) which room then
    (if sm ((sdat B (slA at_ room which) room).take (gt (B (slA at_ room which)) 8 8)) = gt (B (slA at_ room which)) 16 4 then ((sdat B (slA at_ room which) room).take (gt (B (slA at_ room which)) 8 8), gt (B (slA at_ room which)) 0 8) else ([], 0))
  else ([], 0)
def ldV (B : Nat → List Nat) (at_ room : Nat) : List Nat × Nat × Nat :=
  if (slt B at_ room 0).2 = 0 ∧ (slt B at_ room 1).2 = 0 then ([], 0, 160) else if (slt B at_ room 1).2 < (slt B at_ room 0).2 then ((slt B at_ room 0).1, (slt B at_ room 0).2, 0) else ((slt B at_ room 1).1, (slt B at_ room 1).2, 0)
theorem slt_le {B : Nat → List Nat} {at_ room which : Nat} : (slt B at_ room which).2 ≤ gt (B (slA at_ room which)) 120 8 := by
  unfold slt
  split
  · rename_i h
    split
    · show gt _ 0 8 ≤ _
      rw [h.1]
      exact Nat.le_refl _
    · exact Nat.zero_le _
  · exact Nat.zero_le _
structure Jv (at_ room N : Nat) (last : List Nat) (B : Nat → List Nat) : Prop where
  whole : 1 ≤ N → slt B at_ room (N % 2) = (last, N)
  zero : N = 0 → gt (B (slA at_ room 0)) 120 8 = 0
  oth : ∃ t M, (N + 1 = M + 2 ∨ (M = 0 ∧ N + 1 ≤ 2)) ∧ gt (B (slA at_ room ((N + 1) % 2))) 120 8 = mix t (N + 1) M
  ne : gt (B (slA at_ room ((N + 1) % 2))) 120 8 ≠ N + 1
theorem Jv.low {at_ room N : Nat} {last : List Nat} {B : Nat → List Nat} (h : Jv at_ room N last B) : gt (B (slA at_ room ((N + 1) % 2))) 120 8 ≤ N - 1 := by
  obtain ⟨t, M, h1, h2⟩ := h.oth
  have h3 := h.ne
  rw [h2] at h3 ⊢
  rcases mix_le t (N + 1) M (by omega) with q | q
  · exact absurd q h3
  · omega
theorem Jv.load {at_ room N : Nat} {last : List Nat} {B : Nat → List Nat} (h : Jv at_ room N last B) : ldV B at_ room = if N = 0 then ([], 0, 160) else (last, N, 0) := by
  have hl := h.low
  unfold ldV
  by_cases hN : N = 0
  · subst hN
    have h0 := h.zero rfl
    have a0 := slt_le (B := B) (at_ := at_) (room := room) (which := 0)
    have a1 := slt_le (B := B) (at_ := at_) (room := room) (which := 1)
    have hl1 : gt (B (slA at_ room 1)) 120 8 ≤ 0 := hl
    rw [if_pos ⟨by omega, by omega⟩, if_pos rfl]
  · have hw := h.whole (by omega)
    rw [if_neg hN]
    have hp : N % 2 = 0 ∨ N % 2 = 1 := by omega
    rcases hp with hp | hp
    · have e1 : (N + 1) % 2 = 1 := by omega
      rw [hp] at hw
      rw [e1] at hl
      have a1 := slt_le (B := B) (at_ := at_) (room := room) (which := 1)
      rw [hw]
      rw [if_neg (by show ¬ (N = 0 ∧ _); omega), if_pos (by show _ < N; omega)]
    · have e1 : (N + 1) % 2 = 0 := by omega
      rw [hp] at hw
      rw [e1] at hl
      have a0 := slt_le (B := B) (at_ := at_) (room := room) (which := 0)
      rw [hw]
      rw [if_neg (by show ¬ (_ ∧ N = 0); omega), if_neg (by show ¬ N < _; omega)]
def ck (d : List Nat) (i : Nat) : List Nat := (d.drop (i * 128)).take 128
theorem ck_len (d : List Nat) (i : Nat) : (ck d i).length ≤ 128 := by unfold ck; rw [List.length_take]; omega
theorem ck_byte {d : List Nat} (h : ∀ c ∈ d, c < 256) (i : Nat) : ∀ c ∈ ck d i, c < 256 := fun c hc => h c (List.mem_of_mem_drop (List.mem_of_mem_take hc))
theorem sdat_text : ∀ (room : Nat) (d : List Nat) (B : Nat → List Nat) (a : Nat), d.length ≤ room * 128 → (∀ i, i < room → (B (a + 1 + i)).length = 128) → (∀ i, i < room → i * 128 < d.length → B (a + 1 + i) = full (ck d i)) → (sdat B a room).take d.length = d := by
  intro room
  induction room with
  | zero =>
    intro d B a h _ _
    have e : d = [] := List.eq_nil_of_length_eq_zero (by omega)
    subst e
    rfl
  | succ room ih =>
    intro d B a h hl hb
    have e1 : sdat B a (room + 1) = B (a + 1) ++ sdat (fun i => B (i + 1)) a room := by
      unfold sdat
      rw [List.range_succ_eq_map, List.flatMap_cons, Nat.add_zero, List.flatMap_map]
      congr 1
    rw [e1]
    by_cases hd : d.length ≤ 128
    · by_cases h0 : d.length = 0
      · have e : d = [] := List.eq_nil_of_length_eq_zero h0
        subst e
        rfl
      · have hb0 := hb 0 (by omega) (by omega)
        have hck : ck d 0 = d := by unfold ck; rw [Nat.zero_mul, List.drop_zero, List.take_of_length_le hd]
        rw [Nat.add_zero, hck] at hb0
        rw [hb0]
        unfold full
        rw [List.append_assoc, List.take_left]
    · have hb0 := hb 0 (by omega) (by omega)
      rw [Nat.add_zero] at hb0
      have hck : (ck d 0).length = 128 := by unfold ck; rw [List.length_take, List.length_drop]; omega
      have hf : full (ck d 0) = d.take 128 := by
        unfold full
        rw [hck, Nat.sub_self, List.replicate_zero, List.append_nil]
        unfold ck
        rw [Nat.zero_mul, List.drop_zero]
      have h2 := ih (d.drop 128) (fun i => B (i + 1)) a (by rw [List.length_drop]; rw [Nat.succ_mul] at h; omega) (fun i hi => hl (i + 1) (by omega)) (fun i hi hid => by
        rw [List.length_drop] at hid
        have h3 := hb (i + 1) (by omega) (by rw [Nat.succ_mul]; omega)
        have e2 : ck d (i + 1) = ck (d.drop 128) i := by
          unfold ck
          rw [List.drop_drop, show (i + 1) * 128 = 128 + i * 128 by rw [Nat.succ_mul]; omega]
        rw [← e2]
        exact h3)
      rw [hb0, hf]
      have l1 : (d.take 128).length = 128 := by rw [List.length_take]; omega
      rw [List.length_drop] at h2
      rw [List.take_append, l1, h2, List.take_of_length_le (by omega), List.take_append_drop]
theorem slt_new {B : Nat → List Nat} {at_ room n k : Nat} {d : List Nat} {X : List Nat} (hn : 1 ≤ n) (hn2 : n ≤ 4611686018427387904) (hk : 120 ≤ k) (hk2 : k ≤ 128) (hX : okb X) (hd : d.length ≤ room * 128) (hr : room ≤ 16384)
    (hh : B (slA at_ room (n % 2)) = torn k (hdB n d) X) (hl : gt (B (slA at_ room (n % 2))) 120 8 = n) (hB : ∀ i, i < room → (B (slA at_ room (n % 2) + 1 + i)).length = 128) (ht : ∀ i, i < room → i * 128 < d.length → B (slA at_ room (n % 2) + 1 + i) = full (ck d i)) : slt B at_ room (n % 2) = (d, n) := by
  have hH := hdB_len n d
  have f : ∀ p l, p + l ≤ 24 → gt (B (slA at_ room (n % 2))) p l = gt (hdB n d) p l := fun p l hpl => by
    rw [hh]
    unfold gt
    rw [torn_low hH hk2 (by omega)]
  have e0 := f 0 8 (by omega)
  have e1 := f 8 8 (by omega)
  have e2 := f 16 4 (by omega)
  have e3 := f 20 4 (by omega)
  have e4 : (B (slA at_ room (n % 2))).take 20 = (hdB n d).take 20 := by
    rw [hh]
    have := torn_low (p := 0) (l := 20) (X := X) hH hk2 (by omega)
    rw [List.drop_zero, List.drop_zero] at this
    exact this
  have hd8 : d.length < 256 ^ 8 := by
    have : (256 : Nat) ^ 8 = 18446744073709551616 := by decide
    have := Nat.mul_le_mul_right 128 hr
    omega
  have hn8 : n < 256 ^ 8 := by
    have : (256 : Nat) ^ 8 = 18446744073709551616 := by decide
    omega
  rw [hdB_n d hn8] at e0
  rw [hdB_size n hd8] at e1
  rw [hdB_sum] at e2
  rw [hdB_hs, ← e4] at e3
  have hw : whl (B (slA at_ room (n % 2))) (n % 2) room := ⟨by rw [e0, hl], by omega, by omega, by rw [e0], by omega, e3⟩
  have hs := sdat_text room d B (slA at_ room (n % 2)) hd hB ht
  unfold slt
  rw [if_pos hw, e1, hs, e2, if_pos rfl, e0]
theorem slt_same {B B' : Nat → List Nat} {at_ room which : Nat} (h : ∀ i, i ≤ room → B' (slA at_ room which + i) = B (slA at_ room which + i)) : slt B' at_ room which = slt B at_ room which := by
  have e0 : B' (slA at_ room which) = B (slA at_ room which) := h 0 (by omega)
  have e1 : sdat B' (slA at_ room which) room = sdat B (slA at_ room which) room := by
    unfold sdat
    have : ∀ i ∈ List.range room, B' (slA at_ room which + 1 + i) = B (slA at_ room which + 1 + i) := fun i hi => by
      have hi2 := List.mem_range.1 hi
      have := h (1 + i) (by omega)
      rw [← Nat.add_assoc] at this
      exact this
    rw [List.flatMap_def, List.flatMap_def, List.map_congr_left this]
  unfold slt
  rw [e0, e1]
end Go.Proofs.YthnpdcblfocemaaDoor
set_option linter.unusedVariables false
set_option linter.unusedSimpArgs false
namespace Go.Proofs.YthnpdcblfocemaaDoor

theorem slt_num {B : Nat → List Nat} {at_ room which N : Nat} {l : List Nat} (h : slt B at_ room which = (l, N)) (hN : 1 ≤ N) : gt (B (slA at_ room which)) 120 8 = N := by
  unfold slt at h
  split at h
  · rename_i hw
    split at h
    · have h2 := congrArg Prod.snd h
      have h3 : gt (B (slA at_ room which)) 0 8 = N := h2
      rw [← hw.1, h3]
    · have h2 : (0 : Nat) = N := congrArg Prod.snd h
      omega
  · have h2 : (0 : Nat) = N := congrArg Prod.snd h
    omega
theorem Jv.num {at_ room N : Nat} {last : List Nat} {B : Nat → List Nat} (h : Jv at_ room N last B) : gt (B (slA at_ room (N % 2))) 120 8 = N := by
  by_cases q : N = 0
  · rw [q]; exact h.zero q
  · exact slt_num (h.whole (by omega)) (by omega)
theorem Jv.same {at_ room N : Nat} {last : List Nat} {B B' : Nat → List Nat} (h : Jv at_ room N last B) (h1 : ∀ i, i ≤ room → B' (slA at_ room (N % 2) + i) = B (slA at_ room (N % 2) + i)) (h2 : gt (B' (slA at_ room ((N + 1) % 2))) 120 8 = gt (B (slA at_ room ((N + 1) % 2))) 120 8) : Jv at_ room N last B' := by
  refine ⟨fun q => ?_, fun q => ?_, ?_, ?_⟩
  · rw [slt_same h1]; exact h.whole q
  · have e := h1 0 (by omega)
    have h0 := h.zero q
    subst q
    have e2 : B' (slA at_ room 0) = B (slA at_ room 0) := e
    rw [e2]; exact h0
  · rw [h2]; exact h.oth
  · rw [h2]; exact h.ne
theorem Jv.torn {at_ room N k : Nat} {last d : List Nat} {B B' : Nat → List Nat} (h : Jv at_ room N last B) (hN : N + 1 ≤ 4611686018427387904) (hk : k ≤ 128) (hd : d.length ≤ room * 128) (hr : room ≤ 16384)
    (hX : okb (B (slA at_ room ((N + 1) % 2)))) (h1 : ∀ i, i ≤ room → B' (slA at_ room (N % 2) + i) = B (slA at_ room (N % 2) + i)) (hh : B' (slA at_ room ((N + 1) % 2)) = Go.Proofs.YthnpdcblfocemaaDoor.torn k (hdB (N + 1) d) (B (slA at_ room ((N + 1) % 2))))
    (hB : ∀ i, i < room → (B' (slA at_ room ((N + 1) % 2) + 1 + i)).length = 128) (ht : ∀ i, i < room → i * 128 < d.length → B' (slA at_ room ((N + 1) % 2) + 1 + i) = full (ck d i)) :
    (Jv at_ room N last B' ∧ k ≠ 128) ∨ Jv at_ room (N + 1) d B' := by
  have hn8 : N + 1 < 256 ^ 8 := by
    have : (256 : Nat) ^ 8 = 18446744073709551616 := by decide
    omega
  by_cases hk1 : k < 120
  · left
    refine ⟨h.same h1 ?_, by omega⟩
    rw [hh]
    unfold gt
    rw [torn_high (hdB_len _ _) (by omega) (by omega)]
  · obtain ⟨t, M, m1, m2⟩ := h.oth
    have hx := torn_last (k := k) (hdB_ok (N + 1) d) hX (by omega) hk
    rw [← hh, hdB_last d hn8, m2, mix_mix] at hx
    by_cases q : gt (B' (slA at_ room ((N + 1) % 2))) 120 8 = N + 1
    · right
      have hw := slt_new (n := N + 1) (by omega) hN (by omega) hk hX hd hr hh q hB ht
      have hnum := h.num
      have e0 := h1 0 (by omega)
      rw [Nat.add_zero] at e0
      rw [← e0] at hnum
      have e2 : (N + 1 + 1) % 2 = N % 2 := by omega
      refine ⟨fun _ => hw, fun z => by omega, ⟨0, N, Or.inl rfl, ?_⟩, ?_⟩
      · rw [e2, hnum, mix_zero]
      · rw [e2, hnum]; omega
    · left
      refine ⟨⟨fun z => ?_, fun z => ?_, ⟨max t (k - 120), M, m1, hx⟩, q⟩, fun z => ?_⟩
      · rw [slt_same h1]; exact h.whole z
      · have e := h1 0 (by omega)
        have h0 := h.zero z
        subst z
        have e2 : B' (slA at_ room 0) = B (slA at_ room 0) := e
        rw [e2]; exact h0
      · subst z
        apply q
        rw [hh]
        unfold gt
        rw [torn_low (hdB_len _ _) (by omega) (by omega)]
        exact hdB_last d hn8
def bk (s : Dsk) (i : Nat) : List Nat := s.bl.getD i []
def rb (s : Dsk) (i : Nat) : List Nat := rdB s (i : Int)
theorem rb_bk {s : Dsk} {i : Nat} (hu : s.un = []) (hd : s.dn = false) (hi : i < s.bl.length) : rb s i = bk s i := by
  have ha : dAsk s (i : Int) = 0 := by unfold dAsk; rw [hd, if_neg (by simp), if_neg (by omega)]
  unfold rb rdB
  rw [if_neg (by omega), hu]
  rfl
def svW (a : Nat) (d : List Nat) : Nat → Nat → Dsk → Nat × Dsk
  | 0, _, s => (0, s)
  | k + 1, i, s => if wrE s ((a + 1 + i : Nat) : Int) (ck d i) ≠ 0 then (wrE s ((a + 1 + i : Nat) : Int) (ck d i), wrS s ((a + 1 + i : Nat) : Int) (ck d i)) else svW a d k (i + 1) (wrS s ((a + 1 + i : Nat) : Int) (ck d i))
def svH (a n : Nat) (d : List Nat) (s : Dsk) : Nat × Nat × Dsk :=
  if wrE s (a : Int) (hdB n d) ≠ 0 then (0, wrE s (a : Int) (hdB n d), wrS s (a : Int) (hdB n d)) else
  if flE (wrS s (a : Int) (hdB n d)) ≠ 0 then (0, flE (wrS s (a : Int) (hdB n d)), flS (wrS s (a : Int) (hdB n d))) else (n, 0, flS (wrS s (a : Int) (hdB n d)))
def svF (a n : Nat) (d : List Nat) (w : Nat × Dsk) : Nat × Nat × Dsk :=
  if w.1 ≠ 0 then (0, w.1, w.2) else if flE w.2 ≠ 0 then (0, flE w.2, flS w.2) else svH a n d (flS w.2)
def svN (s : Dsk) (at_ room n : Nat) (d : List Nat) : Nat × Nat × Dsk :=
  if 4611686018427387904 < n then (0, 3, s) else svF (slA at_ room (n % 2)) n d (svW (slA at_ room (n % 2)) d ((d.length + 127) / 128) 0 s)
def svR (s : Dsk) (at_ room : Nat) (d : List Nat) : Nat × Nat × Dsk :=
  if room * 128 < d.length then (0, 161, s) else if s.dn = true then (0, 150, s) else svN s at_ room ((ldV (rb s) at_ room).2.1 + 1) d
structure Und (bl : List (List Nat)) (a cnt : Nat) (s : Dsk) : Prop where
  bl : s.bl = bl
  un : ∀ u ∈ s.un, a + 1 ≤ u.1 ∧ u.1 < a + 1 + cnt
theorem lastU_app (un : List (Nat × List Nat)) (u : Nat × List Nat) (i : Nat) (d : List Nat) : lastU (un ++ [u]) i d = if u.1 = i then u.2 else lastU un i d := by
  unfold lastU
  rw [List.foldl_append]
  rfl
theorem dGo_gone {s : Dsk} (h : dGo s = true) : (dGone s).dn = s.dn := by
  unfold dGo at h
  unfold dGone
  split
  · rename_i q
    split
    · rename_i q2
      rw [q] at h
      simp [q2] at h
    · rfl
  · rfl
theorem wr_step {s : Dsk} {i : Nat} {b : List Nat} (hd : s.dn = false) (hi : i < s.bl.length) (hb : b.length ≤ 128) :
    (wrS s (i : Int) b).bl = s.bl ∧ (wrS s (i : Int) b).un = s.un ++ [(i, full b)] ∧ (wrE s (i : Int) b = 150 ∨ (wrE s (i : Int) b = 0 ∧ (wrS s (i : Int) b).dn = false)) := by
  have ha : dAsk s (i : Int) = 0 := by unfold dAsk; rw [hd, if_neg (by simp), if_neg (by omega)]
  have e : wrS s (i : Int) b = dGone { s with un := s.un ++ [(i, full b)] } := by
    unfold wrS
    rw [if_neg (by omega)]
    rfl
  obtain ⟨g1, g2⟩ := dGone_bl { s with un := s.un ++ [(i, full b)] }
  refine ⟨by rw [e]; exact g1, by rw [e]; exact g2, ?_⟩
  unfold wrE
  rw [if_neg (by omega), if_neg (by omega)]
  by_cases q : dGo s = true
  · right
    refine ⟨if_pos q, ?_⟩
    rw [e]
    have q2 : dGo { s with un := s.un ++ [(i, full b)] } = true := q
    rw [dGo_gone q2]
    exact hd
  · left; exact if_neg q
theorem fl_step {s : Dsk} (hd : s.dn = false) : (flE s = 150 ∧ (flS s).bl = s.bl ∧ (flS s).un = s.un) ∨ (flE s = 0 ∧ (flS s).bl = lay s.un s.bl ∧ (flS s).un = [] ∧ (flS s).dn = false) := by
  by_cases q : dGo s = true
  · right
    have e1 : flE s = 0 := by unfold flE; rw [hd, if_neg (by simp), if_pos q]
    have e2 : flS s = { dGone s with bl := lay s.un s.bl, un := [] } := by unfold flS; rw [if_neg (by rw [hd]; simp), if_pos q]
    rw [e1, e2]
    refine ⟨rfl, rfl, rfl, ?_⟩
    show (dGone s).dn = false
    rw [dGo_gone q]; exact hd
  · left
    have e1 : flE s = 150 := by unfold flE; rw [hd, if_neg (by simp), if_neg q]
    have e2 : flS s = dGone s := by unfold flS; rw [if_neg (by rw [hd]; simp), if_neg q]
    rw [e1, e2]
    exact ⟨rfl, (dGone_bl s).1, (dGone_bl s).2⟩
theorem svW_is (bl : List (List Nat)) (a cnt : Nat) (d : List Nat) (hl : a + 1 + cnt ≤ bl.length) : ∀ (k i : Nat) (s : Dsk), i + k = cnt → s.dn = false → Und bl a cnt s → (∀ j, j < i → lastU s.un (a + 1 + j) (bl.getD (a + 1 + j) []) = full (ck d j)) →
    Und bl a cnt (svW a d k i s).2 ∧ ((svW a d k i s).1 = 150 ∨ ((svW a d k i s).1 = 0 ∧ (svW a d k i s).2.dn = false ∧ ∀ j, j < cnt → lastU (svW a d k i s).2.un (a + 1 + j) (bl.getD (a + 1 + j) []) = full (ck d j))) := by
  intro k
  induction k with
  | zero =>
    intro i s hi hd hU hj
    have e : i = cnt := by omega
    subst e
    exact ⟨hU, Or.inr ⟨rfl, hd, hj⟩⟩
  | succ k ih =>
    intro i s hi hd hU hj
    obtain ⟨w1, w2, w3⟩ := wr_step (s := s) (i := a + 1 + i) (b := ck d i) hd (by rw [hU.bl]; omega) (ck_len d i)
    have hU2 : Und bl a cnt (wrS s ((a + 1 + i : Nat) : Int) (ck d i)) := ⟨by rw [w1]; exact hU.bl, fun u hu => by
      rw [w2] at hu
      rcases List.mem_append.1 hu with q | q
      · exact hU.un u q
      · obtain rfl : u = (a + 1 + i, full (ck d i)) := by simpa using q
        exact ⟨by show a + 1 ≤ a + 1 + i; omega, by show a + 1 + i < a + 1 + cnt; omega⟩⟩
    rcases w3 with w3 | ⟨w3, w4⟩
    · have e : svW a d (k + 1) i s = (150, wrS s ((a + 1 + i : Nat) : Int) (ck d i)) := by
        show (if wrE s ((a + 1 + i : Nat) : Int) (ck d i) ≠ 0 then _ else _) = _
        rw [if_pos (by omega), w3]
      rw [e]
      exact ⟨hU2, Or.inl rfl⟩
    · have e : svW a d (k + 1) i s = svW a d k (i + 1) (wrS s ((a + 1 + i : Nat) : Int) (ck d i)) := by
        show (if wrE s ((a + 1 + i : Nat) : Int) (ck d i) ≠ 0 then _ else _) = _
        rw [if_neg (by omega)]
      rw [e]
      refine ih (i + 1) _ (by omega) w4 hU2 (fun j hji => ?_)
      rw [w2, lastU_app]
      by_cases q : j = i
      · subst q; exact if_pos rfl
      · rw [if_neg (by show ¬ a + 1 + i = a + 1 + j; omega)]
        exact hj j (by omega)
end Go.Proofs.YthnpdcblfocemaaDoor
set_option linter.unusedVariables false
set_option linter.unusedSimpArgs false
namespace Go.Proofs.YthnpdcblfocemaaDoor
open Go.RowKit
theorem xor_ones32 (b : Nat) (hb : b < 4294967296) : 4294967295 ^^^ b = 4294967295 - b := by
  have h : ∀ (k : Nat) (b : Nat), b < 2 ^ k → (2 ^ k - 1) ^^^ b = 2 ^ k - 1 - b := by
    intro k
    induction k with
    | zero => intro b hb; obtain rfl : b = 0 := by simpa using hb
              rfl
    | succ k ih =>
      intro b hb
      have hp : 0 < 2 ^ k := Nat.two_pow_pos k
      rw [Nat.pow_succ] at hb ⊢
      have h1 := ih (b / 2) (by omega)
      have d : ((2 ^ k * 2 - 1) ^^^ b) / 2 = (2 ^ k - 1) ^^^ (b / 2) := by rw [Nat.xor_div_two]; congr 1; omega
      have m : ((2 ^ k * 2 - 1) ^^^ b) % 2 = (2 ^ k * 2 - 1 + b) % 2 := xm2 _ _
      rw [h1] at d
      omega
  exact h 32 b hb
theorem not32 (s : Nat) (hs : s < 4294967296) : bits .xor .u32 IntKind.u32.max (s : Int) = ((4294967295 - s : Nat) : Int) := by
  rw [show IntKind.u32.max = ((4294967295 : Nat) : Int) from rfl, xor32 _ _ (by omega) hs, xor_ones32 s hs]
end Go.Proofs.YthnpdcblfocemaaDoor
