/-
  Layer 14's plain messages: what is right, the payload's form, what bytes are a message.
-/
import Derived.Test.YtfcbgkcclganmaaDoorPkMath2
import Derived.Test.YtfcbgkcclganmaaDoorFrMath
set_option linter.unusedVariables false
namespace Go.Proofs.YtfcbgkcclganmaaDoor

/-- A message. -/
structure Ms where
  k : Int
  fr : Int
  inc : Int
  rd : Int
  h : Int
  pt : Int
  ps : Int
  d : List Nat
def ms0 : Ms := ⟨0, 0, 0, 0, 0, 0, 0, []⟩
def uF (k : Int) : Prop := k = 1 ∨ k = 3 ∨ k = 5 ∨ k = 8
def uI (k : Int) : Prop := k ≠ 2 ∧ k ≠ 4
def uR (k : Int) : Prop := k ≠ 1 ∧ k ≠ 8
def uH (k : Int) : Prop := k = 2
def uP (k : Int) : Prop := 3 ≤ k ∧ k ≤ 6
def uS (k : Int) : Prop := k = 2 ∨ k = 4 ∨ k = 5
def uD (k : Int) : Prop := k = 4 ∨ k = 5
/-- It is right. -/
structure Rgt (m : Ms) : Prop where
  k1 : 1 ≤ m.k
  k8 : m.k ≤ 8
  nF : ¬ uF m.k → m.fr = 0
  nI : ¬ uI m.k → m.inc = 0
  nR : ¬ uR m.k → m.rd = 0
  nH : ¬ uH m.k → m.h = 0
  nP : ¬ uP m.k → m.pt = 0
  nS : ¬ uS m.k → m.ps = 0
  nD : ¬ uD m.k → m.d = []
  fr : uF m.k → 1 ≤ m.fr ∧ m.fr ≤ 64
  inc : 0 ≤ m.inc ∧ m.inc ≤ 2147483647
  rd : 0 ≤ m.rd ∧ m.rd ≤ 256
  pt : 0 ≤ m.pt ∧ m.pt ≤ 1023
  h : uH m.k → 1 ≤ m.h ∧ m.h ≤ 64
  ps : uS m.k → 1 ≤ m.ps ∧ m.ps ≤ 1024 ∧ m.pt < m.ps
  d : m.d.length ≤ 32768
/-- The numbers of its payload. -/
def ints (m : Ms) : List Int :=
  if m.k = 1 ∨ m.k = 8 then [m.fr, m.inc] else if m.k = 2 then [m.rd, m.h, m.ps] else if m.k = 3 then [m.fr, m.inc, m.rd, m.pt] else if m.k = 4 then [m.rd, m.pt, m.ps] else if m.k = 5 then [m.fr, m.inc, m.rd, m.pt, m.ps] else if m.k = 6 then [m.inc, m.rd, m.pt] else if m.k = 7 then [m.inc, m.rd] else []
/-- How many they are. -/
def cnt (k : Int) : Nat := if k = 1 ∨ k = 8 then 2 else if k = 2 then 3 else if k = 3 then 4 else if k = 4 then 3 else if k = 5 then 5 else if k = 6 then 3 else if k = 7 then 2 else 0
def pay (m : Ms) : List Nat := (ints m).flatMap enI ++ (if m.k = 4 ∨ m.k = 5 then enB m.d else [])
theorem kind8 {k : Int} (h1 : 1 ≤ k) (h8 : k ≤ 8) : k = 1 ∨ k = 2 ∨ k = 3 ∨ k = 4 ∨ k = 5 ∨ k = 6 ∨ k = 7 ∨ k = 8 := by omega
theorem ints_len (m : Ms) : (ints m).length = cnt m.k := by
  unfold ints cnt
  split
  · rfl
  · split
    · rfl
    · split
      · rfl
      · split
        · rfl
        · split
          · rfl
          · split
            · rfl
            · split <;> rfl
/-- The numbers of a right message are whole numbers. -/
theorem rgt_bounds {m : Ms} (r : Rgt m) : okI m.k ∧ okI m.fr ∧ okI m.inc ∧ okI m.rd ∧ okI m.h ∧ okI m.pt ∧ okI m.ps := by
  have b1 := r.k1
  have b2 := r.k8
  have hf : 0 ≤ m.fr ∧ m.fr ≤ 64 := by
    by_cases q : uF m.k
    · have := r.fr q; omega
    · have := r.nF q; omega
  have hh : 0 ≤ m.h ∧ m.h ≤ 64 := by
    by_cases q : uH m.k
    · have := r.h q; omega
    · have := r.nH q; omega
  have hs : 0 ≤ m.ps ∧ m.ps ≤ 1024 := by
    by_cases q : uS m.k
    · have := r.ps q; omega
    · have := r.nS q; omega
  have b3 := r.inc
  have b4 := r.rd
  have b5 := r.pt
  unfold okI
  refine ⟨⟨by omega, by omega⟩, ⟨by omega, by omega⟩, ⟨by omega, by omega⟩, ⟨by omega, by omega⟩, ⟨by omega, by omega⟩, ⟨by omega, by omega⟩, ⟨by omega, by omega⟩⟩
theorem ints_ok {m : Ms} (r : Rgt m) : ∀ n ∈ ints m, okI n := by
  obtain ⟨b0, b1, b2, b3, b4, b5, b6⟩ := rgt_bounds r
  intro n hn
  unfold ints at hn
  repeat' split at hn
  all_goals (simp at hn)
  all_goals (first | (rcases hn with rfl | rfl | rfl | rfl | rfl <;> assumption) | (rcases hn with rfl | rfl | rfl | rfl <;> assumption) | (rcases hn with rfl | rfl | rfl <;> assumption) | (rcases hn with rfl | rfl <;> assumption))
/-- What a payload says: so many numbers, the text, and what is left. -/
def rdI (k : Int) (p : List Nat) : Sta := itS rI (cnt k) (.ok p)
def vlI (k : Int) (p : List Nat) : List Int := itV rI 0 (cnt k) (.ok p)
def rdD (k : Int) (p : List Nat) : Sta := if k = 4 ∨ k = 5 then pn rB (rdI k p) else rdI k p
def vlD (k : Int) (p : List Nat) : List Nat := if k = 4 ∨ k = 5 then pv rB [] (rdI k p) else []
/-- The message that was read. -/
def rdM (k : Int) (p : List Nat) : Ms :=
  if k = 1 ∨ k = 8 then ⟨k, (vlI k p).getD 0 0, (vlI k p).getD 1 0, 0, 0, 0, 0, []⟩
  else if k = 2 then ⟨k, 0, 0, (vlI k p).getD 0 0, (vlI k p).getD 1 0, 0, (vlI k p).getD 2 0, []⟩
  else if k = 3 then ⟨k, (vlI k p).getD 0 0, (vlI k p).getD 1 0, (vlI k p).getD 2 0, 0, (vlI k p).getD 3 0, 0, []⟩
  else if k = 4 then ⟨k, 0, 0, (vlI k p).getD 0 0, 0, (vlI k p).getD 1 0, (vlI k p).getD 2 0, vlD k p⟩
  else if k = 5 then ⟨k, (vlI k p).getD 0 0, (vlI k p).getD 1 0, (vlI k p).getD 2 0, 0, (vlI k p).getD 3 0, (vlI k p).getD 4 0, vlD k p⟩
  else if k = 6 then ⟨k, 0, (vlI k p).getD 0 0, (vlI k p).getD 1 0, 0, (vlI k p).getD 2 0, 0, []⟩
  else if k = 7 then ⟨k, 0, (vlI k p).getD 0 0, (vlI k p).getD 1 0, 0, 0, 0, []⟩
  else ⟨k, 0, 0, 0, 0, 0, 0, []⟩
/-- A payload is a message's. -/
def Is14 (k : Int) (p : List Nat) : Prop := 1 ≤ k ∧ k ≤ 8 ∧ rdE (rdD k p) = 0 ∧ Rgt (rdM k p)
theorem list2 {α : Type} {l : List α} (d : α) (h : l.length = 2) : l = [l.getD 0 d, l.getD 1 d] := by
  match l, h with
  | [a, b], _ => rfl
theorem list3 {α : Type} {l : List α} (d : α) (h : l.length = 3) : l = [l.getD 0 d, l.getD 1 d, l.getD 2 d] := by
  match l, h with
  | [a, b, c], _ => rfl
theorem list4 {α : Type} {l : List α} (d : α) (h : l.length = 4) : l = [l.getD 0 d, l.getD 1 d, l.getD 2 d, l.getD 3 d] := by
  match l, h with
  | [a, b, c, e], _ => rfl
theorem list5 {α : Type} {l : List α} (d : α) (h : l.length = 5) : l = [l.getD 0 d, l.getD 1 d, l.getD 2 d, l.getD 3 d, l.getD 4 d] := by
  match l, h with
  | [a, b, c, e, f], _ => rfl
theorem rdM_k (k : Int) (p : List Nat) : (rdM k p).k = k := by
  unfold rdM
  repeat' split
  all_goals rfl
theorem rdM_ints {k : Int} (h1 : 1 ≤ k) (h8 : k ≤ 8) (p : List Nat) : ints (rdM k p) = vlI k p := by
  have hl : (vlI k p).length = cnt k := itV_len _ _ _ _
  rcases kind8 h1 h8 with rfl | rfl | rfl | rfl | rfl | rfl | rfl | rfl
  · exact (list2 0 hl).symm
  · exact (list3 0 hl).symm
  · exact (list4 0 hl).symm
  · exact (list3 0 hl).symm
  · exact (list5 0 hl).symm
  · exact (list3 0 hl).symm
  · exact (list2 0 hl).symm
  · exact (list2 0 hl).symm
theorem rdM_d {k : Int} (h1 : 1 ≤ k) (h8 : k ≤ 8) (p : List Nat) : (rdM k p).d = vlD k p := by
  rcases kind8 h1 h8 with rfl | rfl | rfl | rfl | rfl | rfl | rfl | rfl <;> rfl
theorem rdE_zero {s : Sta} (h : rdE s = 0) : s = .ok [] ∨ s = .error 0 := by
  cases s with
  | error e => exact Or.inr (by rw [show e = 0 from h])
  | ok l =>
    unfold rdE at h
    dsimp only at h
    by_cases q : l.length = 0
    · exact Or.inl (by rw [List.eq_nil_of_length_eq_zero q])
    · rw [if_neg q] at h; omega
theorem pn_err0 {α : Type} {P : Rdr α} (hP : ∀ l, P l ≠ .error 0) {s : Sta} (hs : s ≠ .error 0) : pn P s ≠ .error 0 := by
  cases s with
  | error e => exact hs
  | ok l =>
    cases h : P l with
    | ok z => rw [pn_ok (x := z.1) (t := z.2) h]; intro q; cases q
    | error e => rw [pn_no h]; intro q; cases q; exact hP l h
theorem rI_err0 (l : List Nat) : rI l ≠ .error 0 := by
  intro h
  cases hU : rU l with
  | error x => rw [rI_no hU] at h; cases h; have := rd_err l 0 0 0 hU; omega
  | ok z => rw [rI_ok (n := z.1) (t := z.2) hU] at h; cases h
theorem rB_err0 (l : List Nat) : rB l ≠ .error 0 := by
  intro h
  cases hU : rU l with
  | error x => rw [rB_no hU] at h; cases h; have := rd_err l 0 0 0 hU; omega
  | ok z =>
    by_cases q : z.2.length < z.1
    · rw [rB_lack (n := z.1) (t := z.2) hU q] at h; cases h
    · rw [rB_ok (n := z.1) (t := z.2) hU (by omega)] at h; cases h
theorem itS_err0 (n : Nat) (l : List Nat) : itS rI n (.ok l) ≠ .error 0 := by
  induction n with
  | zero => intro q; cases q
  | succ n ih => exact pn_err0 rI_err0 ih
/-- What is read to its end as a right message is its form. -/
theorem is14_form {k : Int} {p : List Nat} (hb : ∀ c ∈ p, c < 256) (h : Is14 k p) : p = pay (rdM k p) ∧ ∀ c ∈ (rdM k p).d, c < 256 := by
  obtain ⟨h1, h8, hE, hR⟩ := h
  have hI0 : rdI k p ≠ .error 0 := itS_err0 _ _
  by_cases hD : k = 4 ∨ k = 5
  · have eD : rdD k p = pn rB (rdI k p) := by unfold rdD; rw [if_pos hD]
    rw [eD] at hE
    rcases rdE_zero hE with q | q
    · cases hI : rdI k p with
      | error e => rw [hI] at q; cases q
      | ok t =>
        rw [hI] at q
        cases hB : rB t with
        | error e => rw [pn_no hB] at q; cases q
        | ok z =>
          obtain ⟨d, s⟩ := z
          rw [pn_ok hB] at q
          cases q
          obtain ⟨e1, -⟩ := one_any oneI 0 (cnt k) p t hb hI
          have hbt : ∀ c ∈ t, c < 256 := fun c hc => hb c (by rw [e1]; simp [hc])
          obtain ⟨e2, e3⟩ := oneB.one t d [] hbt hB
          have ed : (rdM k p).d = d := by
            rw [rdM_d h1 h8]
            unfold vlD
            rw [if_pos hD, hI]
            exact pv_ok hB
          refine ⟨?_, by rw [ed]; exact e3.1⟩
          unfold pay
          rw [rdM_k, if_pos hD, rdM_ints h1 h8, ed]
          rw [List.append_nil] at e2
          rw [← e2]
          exact e1
    · exact absurd q (pn_err0 rB_err0 hI0)
  · have eD : rdD k p = rdI k p := by unfold rdD; rw [if_neg hD]
    rw [eD] at hE
    rcases rdE_zero hE with q | q
    · obtain ⟨e1, -⟩ := one_any oneI 0 (cnt k) p [] hb q
      have ed : (rdM k p).d = [] := by
        rw [rdM_d h1 h8]
        unfold vlD
        rw [if_neg hD]
      refine ⟨?_, by rw [ed]; intro c hc; cases hc⟩
      unfold pay
      rw [rdM_k, if_neg hD, rdM_ints h1 h8]
      exact e1
    · exact absurd q hI0
/-- A right message's form is read as it. -/
theorem form_is14 {m : Ms} (r : Rgt m) (hb : ∀ c ∈ m.d, c < 256) : rdM m.k (pay m) = m ∧ Is14 m.k (pay m) := by
  have h1 := r.k1
  have h8 := r.k8
  have key : rdI m.k (pay m) = .ok (if m.k = 4 ∨ m.k = 5 then enB m.d else []) ∧ vlI m.k (pay m) = ints m := by
    have := back_any oneI 0 (ints m) (if m.k = 4 ∨ m.k = 5 then enB m.d else []) (ints_ok r)
    rw [ints_len] at this
    exact this
  have hdl := r.d
  have hD : vlD m.k (pay m) = m.d ∧ rdD m.k (pay m) = .ok [] := by
    unfold vlD rdD
    by_cases q : m.k = 4 ∨ m.k = 5
    · rw [if_pos q, if_pos q, key.1, if_pos q]
      have := oneB.back m.d [] ⟨hb, by omega⟩
      rw [List.append_nil] at this
      exact ⟨pv_ok this, pn_ok this⟩
    · rw [if_neg q, if_neg q, key.1, if_neg q]
      refine ⟨?_, rfl⟩
      exact (r.nD (by unfold uD; exact q)).symm
  have hM : rdM m.k (pay m) = m := by
    unfold rdM
    rw [key.2, hD.1]
    obtain ⟨k, fr, inc, rd, h, pt, ps, d⟩ := m
    have n1 := r.nF
    have n2 := r.nI
    have n3 := r.nR
    have n4 := r.nH
    have n5 := r.nP
    have n6 := r.nS
    have n7 := r.nD
    dsimp only at *
    unfold uF at n1
    unfold uI at n2
    unfold uR at n3
    unfold uH at n4
    unfold uP at n5
    unfold uS at n6
    unfold uD at n7
    rcases kind8 h1 h8 with rfl | rfl | rfl | rfl | rfl | rfl | rfl | rfl
    · simp [ints] at *; simp [*]
    · simp [ints] at *; simp [*]
    · simp [ints] at *; simp [*]
    · simp [ints] at *; simp [*]
    · simp [ints] at *; simp [*]
    · simp [ints] at *; simp [*]
    · simp [ints] at *; simp [*]
    · simp [ints] at *; simp [*]
  refine ⟨hM, h1, h8, ?_, by rw [hM]; exact r⟩
  rw [hD.2]
  rfl
theorem enI_small {n : Int} (h1 : 0 ≤ n) (h2 : n ≤ 2147483647) : (enI n).length ≤ 5 := by
  unfold enI
  refine enU_len 5 _ ?_ (by omega)
  unfold ctI
  rw [if_neg (by omega)]
  have : (128 : Nat) ^ 5 = 34359738368 := by decide
  omega
theorem pay_len {m : Ms} (r : Rgt m) : (pay m).length ≤ 40000 := by
  have hl : ∀ l : List Int, (∀ n ∈ l, 0 ≤ n ∧ n ≤ 2147483647) → (l.flatMap enI).length ≤ 5 * l.length := by
    intro l
    induction l with
    | nil => intro _; simp
    | cons n l ih =>
      intro h
      have h3 := h n (by simp)
      have h4 := enI_small h3.1 h3.2
      have h5 := ih (fun x hx => h x (by simp [hx]))
      rw [List.flatMap_cons, List.length_append, List.length_cons]
      omega
  have hi : ∀ n ∈ ints m, 0 ≤ n ∧ n ≤ 2147483647 := by
    have b3 := r.inc
    have b4 := r.rd
    have b5 := r.pt
    have hf : 0 ≤ m.fr ∧ m.fr ≤ 2147483647 := by
      by_cases q : uF m.k
      · have := r.fr q; omega
      · have := r.nF q; omega
    have hh : 0 ≤ m.h ∧ m.h ≤ 2147483647 := by
      by_cases q : uH m.k
      · have := r.h q; omega
      · have := r.nH q; omega
    have hs : 0 ≤ m.ps ∧ m.ps ≤ 2147483647 := by
      by_cases q : uS m.k
      · have := r.ps q; omega
      · have := r.nS q; omega
    have b4' : 0 ≤ m.rd ∧ m.rd ≤ 2147483647 := by omega
    have b5' : 0 ≤ m.pt ∧ m.pt ≤ 2147483647 := by omega
    intro n hn
    unfold ints at hn
    repeat' split at hn
    all_goals (simp at hn)
    all_goals (first | (rcases hn with rfl | rfl | rfl | rfl | rfl <;> assumption) | (rcases hn with rfl | rfl | rfl | rfl <;> assumption) | (rcases hn with rfl | rfl | rfl <;> assumption) | (rcases hn with rfl | rfl <;> assumption))
  have h1 := hl (ints m) hi
  have h2 : (ints m).length ≤ 5 := by
    rw [ints_len]
    unfold cnt
    repeat' split
    all_goals omega
  have h3 : (if m.k = 4 ∨ m.k = 5 then enB m.d else []).length ≤ 32778 := by
    split
    · unfold enB
      rw [List.length_append]
      have := r.d
      have := enU_ten (n := m.d.length) (by omega)
      omega
    · simp
  unfold pay
  rw [List.length_append]
  omega
theorem pay_byte {m : Ms} (hb : ∀ c ∈ m.d, c < 256) : ∀ c ∈ pay m, c < 256 := by
  intro c hc
  unfold pay at hc
  rcases List.mem_append.1 hc with q | q
  · obtain ⟨n, -, hn⟩ := List.mem_flatMap.1 q
    exact enU_byte _ c hn
  · split at q
    · unfold enB at q
      rcases List.mem_append.1 q with q | q
      · exact enU_byte _ c q
      · exact hb c q
    · cases q
end Go.Proofs.YtfcbgkcclganmaaDoor
