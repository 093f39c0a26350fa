/-
Layer 14's plain messages: what is right, the payload's form, what bytes are a message.
The document's forms (regattaref12): Uint, Count, Fix; two texts, and two lists of numbers, held against each other.
The document's reader (regattaref12.R): fail, Uint, Int.
The document's reader (regattaref12.R): Uint.
-/
import Derived.Test.YtfcbgkcclganmaaDoorZ00
import Derived.Test.YtfcbgkcclganmaaDoorZ02

set_option linter.unusedVariables false
namespace Go.Proofs.YtfcbgkcclganmaaDoor

/-- A message. -/
structure Ms where
  k : Int
  fr : Int
  inc : Int
  rd : Int
  h : Int
  pt : Int
  ps : Int
  d : List Nat
def ms0 : Ms := ⟨0, 0, 0, 0, 0, 0, 0, []⟩
def uF (k : Int) : Prop := k = 1 ∨ k = 3 ∨ k = 5 ∨ k = 8
def uI (k : Int) : Prop := k ≠ 2 ∧ k ≠ 4
def uR (k : Int) : Prop := k ≠ 1 ∧ k ≠ 8
def uH (k : Int) : Prop := k = 2
def uP (k : Int) : Prop := 3 ≤ k ∧ k ≤ 6
def uS (k : Int) : Prop := k = 2 ∨ k = 4 ∨ k = 5
def uD (k : Int) : Prop := k = 4 ∨ k = 5
/-- It is right. -/
structure Rgt (m : Ms) : Prop where
  k1 : 1 ≤ m.k
  k8 : m.k ≤ 8
  nF : ¬ uF m.k → m.fr = 0
  nI : ¬ uI m.k → m.inc = 0
  nR : ¬ uR m.k → m.rd = 0
  nH : ¬ uH m.k → m.h = 0
  nP : ¬ uP m.k → m.pt = 0
  nS : ¬ uS m.k → m.ps = 0
  nD : ¬ uD m.k → m.d = []
  fr : uF m.k → 1 ≤ m.fr ∧ m.fr ≤ 64
  inc : 0 ≤ m.inc ∧ m.inc ≤ 2147483647
  rd : 0 ≤ m.rd ∧ m.rd ≤ 256
  pt : 0 ≤ m.pt ∧ m.pt ≤ 1023
  h : uH m.k → 1 ≤ m.h ∧ m.h ≤ 64
  ps : uS m.k → 1 ≤ m.ps ∧ m.ps ≤ 1024 ∧ m.pt < m.ps
  d : m.d.length ≤ 32768
/-- The numbers of its payload. -/
def ints (m : Ms) : List Int :=
  if m.k = 1 ∨ m.k = 8 then [m.fr, m.inc] else if m.k = 2 then [m.rd, m.h, m.ps] else if m.k = 3 then [m.fr, m.inc, m.rd, m.pt] else if m.k = 4 then [m.rd, m.pt, m.ps] else if m.k = 5 then [m.fr, m.inc, m.rd, m.pt, m.ps] else if m.k = 6 then [m.inc, m.rd, m.pt] else if m.k = 7 then [m.inc, m.rd] else []
/-- How many they are. -/
def cnt (k : Int) : Nat := if k = 1 ∨ k = 8 then 2 else if k = 2 then 3 else if k = 3 then 4 else if k = 4 then 3 else if k = 5 then 5 else if k = 6 then 3 else if k = 7 then 2 else 0
def pay (m : Ms) : List Nat := (ints m).flatMap enI ++ (if m.k = 4 ∨ m.k = 5 then enB m.d else [])
theorem kind8 {k : Int} (h1 : 1 ≤ k) (h8 : k ≤ 8) : k = 1 ∨ k = 2 ∨ k = 3 ∨ k = 4 ∨ k = 5 ∨ k = 6 ∨ k = 7 ∨ k = 8 := by omega
theorem ints_len (m : Ms) : (ints m).length = cnt m.k := by
  unfold ints cnt
  split
  · rfl
  · split
    · rfl
    · split
      · rfl
      · split
        · rfl
        · split
          · rfl
          · split
            · rfl
            · split <;> rfl
/-- The numbers of a right message are whole numbers. -/
theorem rgt_bounds {m : Ms} (r : Rgt m) : okI m.k ∧ okI m.fr ∧ okI m.inc ∧ okI m.rd ∧ okI m.h ∧ okI m.pt ∧ okI m.ps := by
  have b1 := r.k1
  have b2 := r.k8
  have hf : 0 ≤ m.fr ∧ m.fr ≤ 64 := by
    by_cases q : uF m.k
    · have := r.fr q; omega
    · have := r.nF q; omega
  have hh : 0 ≤ m.h ∧ m.h ≤ 64 := by
    by_cases q : uH m.k
    · have := r.h q; omega
    · have := r.nH q; omega
  have hs : 0 ≤ m.ps ∧ m.ps ≤ 1024 := by
    by_cases q : uS m.k
    · have := r.ps q; omega
    · have := r.nS q; omega
  have b3 := r.inc
  have b4 := r.rd
  have b5 := r.pt
  unfold okI
  refine ⟨⟨by omega, by omega⟩, ⟨by omega, by omega⟩, ⟨by omega, by omega⟩, ⟨by omega, by omega⟩, ⟨by omega, by omega⟩, ⟨by omega, by omega⟩, ⟨by omega, by omega⟩⟩
theorem ints_ok {m : Ms} (r : Rgt m) : ∀ n ∈ ints m, okI n := by
  obtain ⟨b0, b1, b2, b3, b4, b5, b6⟩ := rgt_bounds r
  intro n hn
  unfold ints at hn
  repeat' split at hn
  all_goals (simp at hn)
  all_goals (first | (rcases hn with rfl | rfl | rfl | rfl | rfl <;> assumption) | (rcases hn with rfl | rfl | rfl | rfl <;> assumption) | (rcases hn with rfl | rfl | rfl <;> assumption) | (rcases hn with rfl | rfl <;> assumption))
/-- What a payload says: so many numbers, the text, and what is left. -/
def rdI (k : Int) (p : List Nat) : Sta := itS rI (cnt k) (.ok p)
def vlI (k : Int) (p : List Nat) : List Int := itV rI 0 (cnt k) (.ok p)
def rdD (k : Int) (p : List Nat) : Sta := if k = 4 ∨ k = 5 then pn rB (rdI k p) else rdI k p
def vlD (k : Int) (p : List Nat) : List Nat := if k = 4 ∨ k = 5 then pv rB [] (rdI k p) else []
/-- The message that was read. -/
def rdM (k : Int) (p : List Nat) : Ms :=
  if k = 1 ∨ k = 8 then ⟨k, (vlI k p).getD 0 0, (vlI k p).getD 1 0, 0, 0, 0, 0, []⟩
  else if k = 2 then ⟨k, 0, 0, (vlI k p).getD 0 0, (vlI k p).getD 1 0, 0, (vlI k p).getD 2 0, []⟩
  else if k = 3 then ⟨k, (vlI k p).getD 0 0, (vlI k p).getD 1 0, (vlI k p).getD 2 0, 0, (vlI k p).getD 3 0, 0, []⟩
  else if k = 4 then ⟨k, 0, 0, (vlI k p).getD 0 0, 0, (vlI k p).getD 1 0, (vlI k p).getD 2 0, vlD k p⟩
  else if k = 5 then ⟨k, (vlI k p).getD 0 0, (vlI k p).getD 1 0, (vlI k p).getD 2 0, 0, (vlI k p).getD 3 0, (vlI k p).getD 4 0, vlD k p⟩
  else if k = 6 then ⟨k, 0, (vlI k p).getD 0 0, (vlI k p).getD 1 0, 0, (vlI k p).getD 2 0, 0, []⟩
  else if k = 7 then ⟨k, 0, (vlI k p).getD 0 0, (vlI k p).getD 1 0, 0, 0, 0, []⟩
  else ⟨k, 0, 0, 0, 0, 0, 0, []⟩
/-- A payload is a message's. -/
def Is14 (k : Int) (p : List Nat) : Prop := 1 ≤ k ∧ k ≤ 8 ∧ rdE (rdD k p) = 0 ∧ Rgt (rdM k p)
theorem list2 {α : Type} {l : List α} (d : α) (h : l.length = 2) : l = [l.getD 0 d, l.getD 1 d] := by
  match l, h with
  | [a, b], _ => rfl
theorem list3 {α : Type} {l : List α} (d : α) (h : l.length = 3) : l = [l.getD 0 d, l.getD 1 d, l.getD 2 d] := by
  match l, h with
  | [a, b, c], _ => rfl
theorem list4 {α : Type} {l : List α} (d : α) (h : l.length = 4) : l = [l.getD 0 d, l.getD 1 d, l.getD 2 d, l.getD 3 d] := by
  match l, h with
  | [a, b, c, e], _ => rfl
theorem list5 {α : Type} {l : List α} (d : α) (h : l.length = 5) : l = [l.getD 0 d, l.getD 1 d, l.getD 2 d, l.getD 3 d, l.getD 4 d] := by
  match l, h with
  | [a, b, c, e, f], _ => rfl
theorem rdM_k (k : Int) (p : List Nat) : (rdM k p).k = k := by
  unfold rdM
  repeat' split
  all_goals rfl
theorem rdM_ints {k : Int} (h1 : 1 ≤ k) (h8 : k ≤ 8) (p : List Nat) : ints (rdM k p) = vlI k p := by
  have hl : (vlI k p).length = cnt k := itV_len _ _ _ _
  rcases kind8 h1 h8 with rfl | rfl | rfl | rfl | rfl | rfl | rfl | rfl
  · exact (list2 0 hl).symm
  · exact (list3 0 hl).symm
  · exact (list4 0 hl).symm
  · exact (list3 0 hl).symm
  · exact (list5 0 hl).symm
  · exact (list3 0 hl).symm
  · exact (list2 0 hl).symm
  · exact (list2 0 hl).symm
theorem rdM_d {k : Int} (h1 : 1 ≤ k) (h8 : k ≤ 8) (p : List Nat) : (rdM k p).d = vlD k p := by
  rcases kind8 h1 h8 with rfl | rfl | rfl | rfl | rfl | rfl | rfl | rfl <;> rfl
theorem rdE_zero {s : Sta} (h : rdE s = 0) : s = .ok [] ∨ s = .error 0 := by
  cases s with
  | error e => exact Or.inr (by rw [show e = 0 from h])
  | ok l =>
    unfold rdE at h
    dsimp only at h
    by_cases q : l.length = 0
    · exact Or.inl (by rw [List.eq_nil_of_length_eq_zero q])
    · rw [if_neg q] at h; omega
theorem pn_err0 {α : Type} {P : Rdr α} (hP : ∀ l, P l ≠ .error 0) {s : Sta} (hs : s ≠ .error 0) : pn P s ≠ .error 0 := by
  cases s with
  | error e => exact hs
  | ok l =>
    cases h : P l with
    | ok z => rw [pn_ok (x := z.1) (t := z.2) h]; intro q; cases q
    | error e => rw [pn_no h]; intro q; cases q; exact hP l h
theorem rI_err0 (l : List Nat) : rI l ≠ .error 0 := by
  intro h
  cases hU : rU l with
  | error x => rw [rI_no hU] at h; cases h; have := rd_err l 0 0 0 hU; omega
  | ok z => rw [rI_ok (n := z.1) (t := z.2) hU] at h; cases h
theorem rB_err0 (l : List Nat) : rB l ≠ .error 0 := by
  intro h
  cases hU : rU l with
  | error x => rw [rB_no hU] at h; cases h; have := rd_err l 0 0 0 hU; omega
  | ok z =>
    by_cases q : z.2.length < z.1
    · rw [rB_lack (n := z.1) (t := z.2) hU q] at h; cases h
    · rw [rB_ok (n := z.1) (t := z.2) hU (by omega)] at h; cases h
theorem itS_err0 (n : Nat) (l : List Nat) : itS rI n (.ok l) ≠ .error 0 := by
  induction n with
  | zero => intro q; cases q
  | succ n ih => exact pn_err0 rI_err0 ih
/-- What is read to its end as a right message is its form. -/
theorem is14_form {k : Int} {p : List Nat} (hb : ∀ c ∈ p, c < 256) (h : Is14 k p) : p = pay (rdM k p) ∧ ∀ c ∈ (rdM k p).d, c < 256 := by
  obtain ⟨h1, h8, hE, hR⟩ := h
  have hI0 : rdI k p ≠ .error 0 := itS_err0 _ _
  by_cases hD : k = 4 ∨ k = 5
  · have eD : rdD k p = pn rB (rdI k p) := by unfold rdD; rw [if_pos hD]
    rw [eD] at hE
    rcases rdE_zero hE with q | q
    · cases hI : rdI k p with
      | error e => rw [hI] at q; cases q
      | ok t =>
        rw [hI] at q
        cases hB : rB t with
        | error e => rw [pn_no hB] at q; cases q
        | ok z =>
          obtain ⟨d, s⟩ := z
          rw [pn_ok hB] at q
          cases q
          obtain ⟨e1, -⟩ := one_any oneI 0 (cnt k) p t hb hI
          have hbt : ∀ c ∈ t, c < 256 := fun c hc => hb c (by rw [e1]; simp [hc])
          obtain ⟨e2, e3⟩ := oneB.one t d [] hbt hB
          have ed : (rdM k p).d = d := by
            rw [rdM_d h1 h8]
            unfold vlD
            rw [if_pos hD, hI]
            exact pv_ok hB
          refine ⟨?_, by rw [ed]; exact e3.1⟩
          unfold pay
          rw [rdM_k, if_pos hD, rdM_ints h1 h8, ed]
          rw [List.append_nil] at e2
          rw [← e2]
          exact e1
    · exact absurd q (pn_err0 rB_err0 hI0)
  · have eD : rdD k p = rdI k p := by unfold rdD; rw [if_neg hD]
    rw [eD] at hE
    rcases rdE_zero hE with q | q
    · obtain ⟨e1, -⟩ := one_any oneI 0 (cnt k) p [] hb q
      have ed : (rdM k p).d = [] := by
        rw [rdM_d h1 h8]
        unfold vlD
        rw [if_neg hD]
      refine ⟨?_, by rw [ed]; intro c hc; cases hc⟩
      unfold pay
      rw [rdM_k, if_neg hD, rdM_ints h1 h8]
      exact e1
    · exact absurd q hI0
/-- A right message's form is read as it. -/
theorem form_is14 {m : Ms} (r : Rgt m) (hb : ∀ c ∈ m.d, c < 256) : rdM m.k (pay m) = m ∧ Is14 m.k (pay m) := by
  have h1 := r.k1
  have h8 := r.k8
  have key : rdI m.k (pay m) = .ok (if m.k = 4 ∨ m.k = 5 then enB m.d else []) ∧ vlI m.k (pay m) = ints m := by
    have := back_any oneI 0 (ints m) (if m.k = 4 ∨ m.k = 5 then enB m.d else []) (ints_ok r)
    rw [ints_len] at this
    exact this
  have hdl := r.d
  have hD : vlD m.k (pay m) = m.d ∧ rdD m.k (pay m) = .ok [] := by
    unfold vlD rdD
    by_cases q : m.k = 4 ∨ m.k = 5
    · rw [if_pos q, if_pos q, key.1, if_pos q]
      have := oneB.back m.d [] ⟨hb, by omega⟩
      rw [List.append_nil] at this
      exact ⟨pv_ok this, pn_ok this⟩
    · rw [if_neg q, if_neg q, key.1, if_neg q]
      refine ⟨?_, rfl⟩
      exact (r.nD (by unfold uD; exact q)).symm
  have hM : rdM m.k (pay m) = m := by
    unfold rdM
    rw [key.2, hD.1]
    obtain ⟨k, fr, inc, rd, h, pt, ps, d⟩ := m
    have n1 := r.nF
    have n2 := r.nI
    have n3 := r.nR
    have n4 := r.nH
    have n5 := r.nP
    have n6 := r.nS
    have n7 := r.nD
    dsimp only at *
    unfold uF at n1
    unfold uI at n2
    unfold uR at n3
    unfold uH at n4
    unfold uP at n5
    unfold uS at n6
    unfold uD at n7
    rcases kind8 h1 h8 with rfl | rfl | rfl | rfl | rfl | rfl | rfl | rfl
    · simp [ints] at *; simp [*]
    · simp [ints] at *; simp [*]
    · simp [ints] at *; simp [*]
    · simp [ints] at *; simp [*]
    · simp [ints] at *; simp [*]
    · simp [ints] at *; simp [*]
    · simp [ints] at *; simp [*]
    · simp [ints] at *; simp [*]
  refine ⟨hM, h1, h8, ?_, by rw [hM]; exact r⟩
  rw [hD.2]
  rfl
theorem enI_small {n : Int} (h1 : 0 ≤ n) (h2 : n ≤ 2147483647) : (enI n).length ≤ 5 := by
  unfold enI
  refine enU_len 5 _ ?_ (by omega)
  unfold ctI
  rw [if_neg (by omega)]
  have : (128 : Nat) ^ 5 = 34359738368 := by decide
  omega
theorem pay_len {m : Ms} (r : Rgt m) : (pay m).length ≤ 40000 := by
  have hl : ∀ l : List Int, (∀ n ∈ l, 0 ≤ n ∧ n ≤ 2147483647) → (l.flatMap enI).length ≤ 5 * l.length := by
    intro l
    induction l with
    | nil => intro _; simp
    | cons n l ih =>
      intro h
      have h3 := h n (by simp)
      have h4 := enI_small h3.1 h3.2
      have h5 := ih (fun x hx => h x (by simp [hx]))
      rw [List.flatMap_cons, List.length_append, List.length_cons]
      omega
  have hi : ∀ n ∈ ints m, 0 ≤ n ∧ n ≤ 2147483647 := by
    have b3 := r.inc
    have b4 := r.rd
    have b5 := r.pt
    have hf : 0 ≤ m.fr ∧ m.fr ≤ 2147483647 := by
      by_cases q : uF m.k
      · have := r.fr q; omega
      · have := r.nF q; omega
    have hh : 0 ≤ m.h ∧ m.h ≤ 2147483647 := by
      by_cases q : uH m.k
      · have := r.h q; omega
      · have := r.nH q; omega
    have hs : 0 ≤ m.ps ∧ m.ps ≤ 2147483647 := by
      by_cases q : uS m.k
      · have := r.ps q; omega
      · have := r.nS q; omega
    have b4' : 0 ≤ m.rd ∧ m.rd ≤ 2147483647 := by omega
    have b5' : 0 ≤ m.pt ∧ m.pt ≤ 2147483647 := by omega
    intro n hn
    unfold ints at hn
    repeat' split at hn
    all_goals (simp at hn)
    all_goals (first | (rcases hn with rfl | rfl | rfl | rfl | rfl <;> assumption) | (rcases hn with rfl | rfl | rfl | rfl <;> assumption) | (rcases hn with rfl | rfl | rfl <;> assumption) | (rcases hn with rfl | rfl <;> assumption))
  have h1 := hl (ints m) hi
  have h2 : (ints m).length ≤ 5 := by
    rw [ints_len]
    unfold cnt
    repeat' split
    all_goals omega
  have h3 : (if m.k = 4 ∨ m.k = 5 then enB m.d else []).length ≤ 32778 := by
    split
    · unfold enB
      rw [List.length_append]
      have := r.d
      have := enU_ten (n := m.d.length) (by omega)
      omega
    · simp
  unfold pay
  rw [List.length_append]
  omega
theorem pay_byte {m : Ms} (hb : ∀ c ∈ m.d, c < 256) : ∀ c ∈ pay m, c < 256 := by
  intro c hc
  unfold pay at hc
  rcases List.mem_append.1 hc with q | q
  · obtain ⟨n, -, hn⟩ := List.mem_flatMap.1 q
    exact enU_byte _ c hn
  · split at q
    · unfold enB at q
      rcases List.mem_append.1 q with q | q
      · exact enU_byte _ c q
      · exact hb c q
    · cases q
end Go.Proofs.YtfcbgkcclganmaaDoor
set_option linter.unusedVariables false
set_option linter.unusedSimpArgs false
namespace Go.Proofs.YtfcbgkcclganmaaDoor
open Go.RowKit

set_option maxRecDepth 100000 in
set_option maxHeartbeats 4000000 in
theorem refUint (n : Nat) (hn : n < 18446744073709551616) (w : World) :
    Calls Tryd.prog 44 #[.int .u64 (n : Int)] w fun e w' => ∃ v, e = .returned v ∧ Ob w.heap.size w' v (enU n) ∧ Below w.heap.size w w' := by
  go_enter Tryd.func44, Tryd.ntmps44
  go_upto_region 2 with fail
  go_loopw [0, 3] (fun s0 s3 wr => ∃ (m : Nat) (l : List Nat), m ≤ n ∧ s0 = .int .u64 (m : Int) ∧ Ob w.heap.size wr s3 l ∧ Hid (enU n = l ++ enU m) ∧ Hid (Below w.heap.size w wr)) (fun s0 _ _ => (intOf s0).toNat)
  case atStart => exact ⟨n, [], by omega, rfl, ob_nil _ _, rfl, Below.refl _ _⟩
  case round =>
    obtain ⟨m, l, hm, rfl, hO, HE, HB⟩ := hrel
    have hsz := HB.out.size
    have hl10 : l.length ≤ 10 := by
      have h1 := enU_ten hn
      have h2 := congrArg List.length HE.out
      rw [List.length_append] at h2
      omega
    by_cases hge : 128 ≤ m
    · have hgeI : (128 : Int) ≤ (m : Int) := by omega
      obtain ⟨r, hr⟩ : ∃ r, m % 128 = r := ⟨_, rfl⟩
      obtain ⟨d, hd⟩ : ∃ d, m / 128 = d := ⟨_, rfl⟩
      have hrI : (m : Int).tmod 128 = (r : Int) := by rw [Int.tmod_eq_emod_of_nonneg (by omega)]; omega
      have hdI : (m : Int).tdiv 128 = (d : Int) := by rw [Int.tdiv_eq_ediv_of_nonneg (by omega)]; omega
      have hr2 : r < 128 := by omega
      have hw1 : IntKind.u64.wrap (r : Int) = (r : Int) := by rw [IntKind.wrap_u64]; omega
      have hw2 : IntKind.u64.wrap ((r : Int) + 128) = ((r + 128 : Nat) : Int) := by rw [IntKind.wrap_u64]; omega
      have hw3 : IntKind.u8.wrap ((r + 128 : Nat) : Int) = ((r + 128 : Nat) : Int) := by rw [IntKind.wrap_u8]; omega
      have hw4 : IntKind.u64.wrap (d : Int) = (d : Int) := by rw [IntKind.wrap_u64]; omega
      have HE2 : Hid (enU n = (l ++ [r + 128]) ++ enU d) := by
        show _ = _
        rw [HE.out, enU_ge hge, hr, hd, List.append_assoc]
        rfl
      have hdm : d < m := by omega
      have HO : Hid (Ob w.heap.size wr u3 l) := hO
      clear hO HE hr hd
      go_wp2_with (at_builtin; refine apB rfl _ _ rfl w.heap.size _ _ rfl (HO.out.later (bel1 _ _)) _ _ rfl (bs_one wr (r + 128) _) (by simp; omega) (by simp; omega) ?_; intro v' w3 hO3 hg)
      have HB3 : Hid (Below w.heap.size w w3) := hg.1 _ (HB.out.alloc (by omega) _)
      clear hg HB HO
      go_wp2
      go_roundw
      case rel => exact ⟨d, l ++ [r + 128], by omega, rfl, hO3, HE2, HB3⟩
      case measure => simp only [intOf]; omega
    · have hgeI : ¬ (128 : Int) ≤ (m : Int) := by omega
      have hw3 : IntKind.u8.wrap (m : Int) = (m : Int) := by rw [IntKind.wrap_u8]; omega
      have HO : Hid (Ob w.heap.size wr u3 l) := hO
      have HE2 : Hid (enU n = l ++ [m]) := by
        show _ = _
        rw [HE.out, enU_lt (by omega)]
      clear hO HE
      go_wp2_with (at_builtin; refine apB rfl _ _ rfl w.heap.size _ _ rfl (HO.out.later (bel1 _ _)) _ _ rfl (bs_one wr m _) (by simp; omega) (by simp; omega) ?_; intro v' w3 hO3 hg)
      have HB3 : Hid (Below w.heap.size w w3) := hg.1 _ (HB.out.alloc (by omega) _)
      clear hg HB HO
      obtain ⟨ad, cap, rfl⟩ := hO3.sl
      go_wp2
      go_ret
      exact ⟨_, rfl, by rw [HE2.out]; exact hO3, HB3.out⟩
set_option maxRecDepth 100000 in
set_option maxHeartbeats 4000000 in
theorem refCount (n : Int) (h1 : -9223372036854775808 ≤ n) (h2 : n ≤ 9223372036854775807) (w : World) :
    Calls Tryd.prog 45 #[.int .i64 n] w fun e w' => e = .returned (.int .u64 ((ctI n : Nat) : Int)) ∧ w' = w := by
  by_cases h : n < 0
  · have e1 : IntKind.i64.wrap (n + 1) = n + 1 := by rw [IntKind.wrap_i64]; omega
    have e2 : IntKind.i64.wrap (-(n + 1)) = -(n + 1) := by rw [IntKind.wrap_i64]; omega
    have e3 : IntKind.u64.wrap (-(n + 1)) = -(n + 1) := by rw [IntKind.wrap_u64]; omega
    have e4 : IntKind.u64.wrap (2 * -(n + 1)) = 2 * -(n + 1) := by rw [IntKind.wrap_u64]; omega
    have e5 : IntKind.u64.wrap (2 * -(n + 1) + 1) = ((ctI n : Nat) : Int) := by
      rw [IntKind.wrap_u64]; unfold ctI; rw [if_pos h]; omega
    generalize ctI n = c at *
    go_enter Tryd.func45, Tryd.ntmps45
    go_wp2
    go_ret
    exact ⟨by first | rfl | (congr 2; omega), rfl⟩
  · have e3 : IntKind.u64.wrap n = n := by rw [IntKind.wrap_u64]; omega
    have e5 : IntKind.u64.wrap (2 * n) = ((ctI n : Nat) : Int) := by
      rw [IntKind.wrap_u64]; unfold ctI; rw [if_neg h]; omega
    generalize ctI n = c at *
    go_enter Tryd.func45, Tryd.ntmps45
    go_wp2
    go_ret
    exact ⟨by first | rfl | (congr 2; omega), rfl⟩
theorem enN_snoc (n k : Nat) : enN n (k + 1) = n % 256 :: enN (n / 256) k := rfl
end Go.Proofs.YtfcbgkcclganmaaDoor
set_option linter.unusedVariables false
set_option linter.unusedSimpArgs false
namespace Go.Proofs.YtfcbgkcclganmaaDoor
open Go.RowKit

theorem cellP {w : World} {k : Nat} {a : Addr} : (w.drewN k).cell? a = w.cell? a := rfl
/-- The document's reader in memory: a block of three cells, and the bytes. -/
structure R0 (b : Nat) (l : List Nat) (v : Value) (at_ e : Nat) (w : World) : Prop where
  c0 : w.cell? ⟨b, 0, none⟩ = some v
  c1 : w.cell? ⟨b, 1, none⟩ = some (.int .i64 (at_ : Int))
  c2 : w.cell? ⟨b, 2, none⟩ = some (.int .i64 (e : Int))
  f1 : w.frozen? ⟨b, 1, none⟩ = false
  f2 : w.frozen? ⟨b, 2, none⟩ = false
  bs : Bs w v l
  nb : Nb v b
  le : at_ ≤ l.length
theorem R0.setAt {b : Nat} {l : List Nat} {v : Value} {p e : Nat} {w : World} (h : R0 b l v p e w) (q : Nat) (hq : q ≤ l.length) : R0 b l v q e (w.setCell ⟨b, 1, none⟩ (.int .i64 (q : Int))) := by
  refine ⟨?_, ?_, ?_, ?_, ?_, Ls.set h.bs _ _ h.nb, h.nb, hq⟩
  · exact (World.cell?_setCell_other _ _ _ _ (by simp)).trans h.c0
  · exact World.cell?_setCell_same' _ _ _ (by rw [h.c1]; rfl)
  · exact (World.cell?_setCell_other _ _ _ _ (by simp)).trans h.c2
  · rw [World.frozen?_setCell]; exact h.f1
  · rw [World.frozen?_setCell]; exact h.f2
theorem R0.setE {b : Nat} {l : List Nat} {v : Value} {p e : Nat} {w : World} (h : R0 b l v p e w) (q : Nat) : R0 b l v p q (w.setCell ⟨b, 2, none⟩ (.int .i64 (q : Int))) := by
  refine ⟨?_, ?_, ?_, ?_, ?_, Ls.set h.bs _ _ h.nb, h.nb, h.le⟩
  · exact (World.cell?_setCell_other _ _ _ _ (by simp)).trans h.c0
  · exact (World.cell?_setCell_other _ _ _ _ (by simp)).trans h.c1
  · exact World.cell?_setCell_same' _ _ _ (by rw [h.c2]; rfl)
  · rw [World.frozen?_setCell]; exact h.f1
  · rw [World.frozen?_setCell]; exact h.f2
theorem R0.drew {b : Nat} {l : List Nat} {v : Value} {p e : Nat} {w : World} (h : R0 b l v p e w) (k : Nat) : R0 b l v p e (w.drewN k) := ⟨h.c0, h.c1, h.c2, h.f1, h.f2, h.bs, h.nb, h.le⟩
theorem R0.kept {b : Nat} {l : List Nat} {v : Value} {p e : Nat} {w w' : World} (h : R0 b l v p e w) {F : Nat → Prop} (k : Kp F w w') (hb : ¬ F b) (hv : Nf F v) : R0 b l v p e w' :=
  ⟨k.cell hb h.c0, k.cell hb h.c1, k.cell hb h.c2, k.frozen hb h.c1 h.f1, k.frozen hb h.c2 h.f2, k.bs h.bs hv, h.nb, h.le⟩
theorem R0.later {b : Nat} {l : List Nat} {v : Value} {p e : Nat} {w w' : World} (h : R0 b l v p e w) (k : Below w.heap.size w w') : R0 b l v p e w' :=
  ⟨cell_later k h.c0, cell_later k h.c1, cell_later k h.c2, frozen_later k h.c1 h.f1, frozen_later k h.c2 h.f2, h.bs.later k, h.nb, h.le⟩
theorem R0.upto {B b : Nat} {l : List Nat} {v : Value} {p e : Nat} {w w' : World} (h : R0 b l v p e w) (k : Below B w w') (hb : b < B) (hv : Lo B v) : R0 b l v p e w' :=
  ⟨(k.cell (p := ⟨b, 0, none⟩) hb).trans h.c0, (k.cell (p := ⟨b, 1, none⟩) hb).trans h.c1, (k.cell (p := ⟨b, 2, none⟩) hb).trans h.c2, (k.frozen (p := ⟨b, 1, none⟩) hb).trans h.f1, (k.frozen (p := ⟨b, 2, none⟩) hb).trans h.f2, Ls.upto h.bs k hv, h.nb, h.le⟩
theorem Kp.drewN {F : Nat → Prop} {a w : World} (h : Kp F a w) (k : Nat) : Kp F a (w.drewN k) := ⟨h.os, h.tape, h.output, h.size, h.block⟩
/-- Where it stands. -/
def Sat (s : Sta) (l : List Nat) (p e : Nat) : Prop := match s with
  | .ok r => e = 0 ∧ l.drop p = r
  | .error x => e = x ∧ 0 < x ∧ x < 1000
/-- The document's reader over these bytes, in such a state; v is the slice of its bytes. -/
def Rr (b : Nat) (l : List Nat) (v : Value) (s : Sta) (w : World) : Prop := ∃ p e : Nat, R0 b l v p e w ∧ Sat s l p e
theorem Rr.later {b : Nat} {l : List Nat} {v : Value} {s : Sta} {w w' : World} (h : Rr b l v s w) (k : Below w.heap.size w w') : Rr b l v s w' := by
  obtain ⟨p, e, h1, h2⟩ := h
  exact ⟨p, e, h1.later k, h2⟩
theorem Rr.kept {b : Nat} {l : List Nat} {v : Value} {s : Sta} {w w' : World} (h : Rr b l v s w) {F : Nat → Prop} (k : Kp F w w') (hb : ¬ F b) (hv : Nf F v) : Rr b l v s w' := by
  obtain ⟨p, e, h1, h2⟩ := h
  exact ⟨p, e, h1.kept k hb hv, h2⟩
theorem Rr.upto {B b : Nat} {l : List Nat} {v : Value} {s : Sta} {w w' : World} (h : Rr b l v s w) (k : Below B w w') (hb : b < B) (hv : Lo B v) : Rr b l v s w' := by
  obtain ⟨p, e, h1, h2⟩ := h
  exact ⟨p, e, h1.upto k hb hv, h2⟩
theorem kset {b i : Nat} {w wr : World} (h : Kp (· = b) w wr) (u : Value) : Kp (· = b) w (wr.setCell ⟨b, i, none⟩ u) := h.set (Or.inl rfl) u
set_option maxRecDepth 100000 in
set_option maxHeartbeats 4000000 in
theorem refFail (b : Nat) (x : Nat) (w : World) (hc : w.cell? ⟨b, 2, none⟩ = some (.int .i64 0)) (hf : w.frozen? ⟨b, 2, none⟩ = false) :
    Calls Tryd.prog 58 #[.pointer (some ⟨b, 0, none⟩), .int .i64 (x : Int)] w fun e w' => e = .returned (.tuple #[]) ∧ w' = w.setCell ⟨b, 2, none⟩ (.int .i64 (x : Int)) := by
  go_enter Tryd.func58, Tryd.ntmps58
  go_wp2
  go_end0
  exact ⟨rfl, rfl⟩
theorem rd_nil (k a : Nat) : rdU [] k a = .error 120 := rfl
theorem rd_form {c k a : Nat} {t : List Nat} (h : k = 9 ∧ 1 < c) : rdU (c :: t) k a = .error 121 := by unfold rdU; rw [if_pos h]
theorem rd_more {c k a : Nat} {t : List Nat} (h : ¬ (k = 9 ∧ 1 < c)) (h2 : ¬ c < 128) : rdU (c :: t) k a = rdU t (k + 1) (a + c % 128 * 2 ^ (7 * k)) := by
  conv => lhs; unfold rdU
  rw [if_neg h, if_neg h2]
theorem rd_long {c k a : Nat} {t : List Nat} (h : ¬ (k = 9 ∧ 1 < c)) (h2 : c < 128) (h3 : c = 0 ∧ 0 < k) : rdU (c :: t) k a = .error 121 := by unfold rdU; rw [if_neg h, if_pos h2, if_pos h3]
theorem rd_last {c k a : Nat} {t : List Nat} (h : ¬ (k = 9 ∧ 1 < c)) (h2 : c < 128) (h3 : ¬ (c = 0 ∧ 0 < k)) : rdU (c :: t) k a = .ok (a + c % 128 * 2 ^ (7 * k), t) := by unfold rdU; rw [if_neg h, if_pos h2, if_neg h3]
end Go.Proofs.YtfcbgkcclganmaaDoor
set_option linter.unusedVariables false
set_option linter.unusedSimpArgs false
namespace Go.Proofs.YtfcbgkcclganmaaDoor
open Go.RowKit

theorem pow7 {k : Nat} (h : k ≤ 9) : 2 ^ (7 * k) ≤ 9223372036854775808 := by
  have : 2 ^ (7 * k) ≤ 2 ^ 63 := Nat.pow_le_pow_right (by omega) (by omega)
  exact this
theorem pow7s (k : Nat) : 2 ^ (7 * (k + 1)) = 128 * 2 ^ (7 * k) := by
  rw [show 7 * (k + 1) = 7 + 7 * k by omega, Nat.pow_add]
/-- The numbers of a round. -/
theorem sum7 {k a x c : Nat} (hk : k ≤ 9) (ha : a < 2 ^ (7 * k)) (hx : x < 128) (hc : c % 128 = x) (h9 : ¬ (k = 9 ∧ 1 < c)) : a + x * 2 ^ (7 * k) < 18446744073709551616 ∧ x * 2 ^ (7 * k) < 18446744073709551616 := by
  have hp := pow7 hk
  by_cases e : k = 9
  · subst e
    have : x ≤ 1 := by omega
    have h2 : x * 2 ^ (7 * 9) ≤ 1 * 2 ^ (7 * 9) := Nat.mul_le_mul_right _ this
    omega
  · have hp2 : 2 ^ (7 * k) ≤ 72057594037927936 := by
      have : 2 ^ (7 * k) ≤ 2 ^ 56 := Nat.pow_le_pow_right (by omega) (by omega)
      exact this
    have h2 : x * 2 ^ (7 * k) ≤ 127 * 2 ^ (7 * k) := Nat.mul_le_mul_right _ (by omega)
    omega
theorem next7 {k a x : Nat} (ha : a < 2 ^ (7 * k)) (hx : x < 128) : a + x * 2 ^ (7 * k) < 2 ^ (7 * (k + 1)) := by
  rw [pow7s]
  have h2 : x * 2 ^ (7 * k) ≤ 127 * 2 ^ (7 * k) := Nat.mul_le_mul_right _ (by omega)
  omega
set_option maxRecDepth 100000 in
set_option maxHeartbeats 8000000 in
theorem refRUint0 (b : Nat) (l : List Nat) (v : Value) (p0 : Nat) (w : World) (hb : ∀ c ∈ l, c < 256) (hl : l.length ≤ 1000000) (h : R0 b l v p0 0 w) :
    Calls Tryd.prog 51 #[.pointer (some ⟨b, 0, none⟩)] w fun e w' => e = .returned (.int .u64 ((pv rU 0 (.ok (l.drop p0)) : Nat) : Int)) ∧ Rr b l v (pn rU (.ok (l.drop p0))) w' ∧ Kp (· = b) w w' := by
  have HR : Hid (R0 b l v p0 0 w) := h
  obtain ⟨ad, cap, rfl, k1, k2⟩ := h.bs.len
  unfold maxLen at k2
  obtain ⟨n, hN⟩ : ∃ n, l.length = n := ⟨_, rfl⟩
  have HN : Hid (l.length = n) := hN
  rw [hN] at k1 hl HR ⊢
  clear h hN
  go_enter Tryd.func51, Tryd.ntmps51
  go_upto_region 3 with fail
  go_loopw [3, 4] (fun s3 s4 wr => ∃ k a p : Nat, k ≤ 9 ∧ s3 = .int .u64 (a : Int) ∧ s4 = .int .i64 (k : Int) ∧ Hid (a < 2 ^ (7 * k)) ∧ Hid (R0 b l (.slice ad n cap) p 0 wr) ∧ Hid (rdU (l.drop p) k a = rU (l.drop p0)) ∧ Hid (Kp (· = b) w wr)) (fun _ s4 _ => 10 - (intOf s4).toNat)
  case atStart => exact ⟨0, 0, p0, by omega, rfl, rfl, by show (0 : Nat) < 1; omega, HR, rfl, Kp.refl _ _⟩
  case round =>
    obtain ⟨k, a, p, hk, rfl, rfl, HA, HR1, HE, HK⟩ := hrel
    have c0 := HR1.out.c0
    have c1 := HR1.out.c1
    have c2 := HR1.out.c2
    have hple : p ≤ n := by have := HR1.out.le; have := HN.out; omega
    by_cases hlt : p < n
    · have hltI : ¬ (n : Int) ≤ (p : Int) := by omega
      have hpI : (p : Int) < (n : Int) := by omega
      have hpp : IntKind.i64.wrap ((p : Int) + 1) = ((p + 1 : Nat) : Int) := by rw [IntKind.wrap_i64]; omega
      go_upto_region 4 with fail
      go_quiet (fail)
      have HR2 : Hid (R0 b l (.slice ad n cap) p 0 (wr.drewN nq)) := HR1.out.drew nq
      have HK2 : Hid (Kp (· = b) w (wr.drewN nq)) := HK.out.drewN nq
      clear HR1 HK c0 c1 c2
      generalize wr.drewN nq = wa at *
      have hN := HN.out
      obtain ⟨g, o, rfl, ca⟩ := HR2.out.bs.cel p (by omega)
      have HD : Hid (l.drop p = l.getD p 0 :: l.drop (p + 1)) := drop_cons (by omega)
      have hc := getD_byte hb p
      generalize l.getD p 0 = c at *
      have c0 := HR2.out.c0
      have c1 := HR2.out.c1
      clear hN
      go_upto_region 7 with fail
      go_quiet (fail)
      have HR3 : Hid (R0 b l (.slice (some ⟨g, o, none⟩) n cap) p 0 (wa.drewN nq)) := HR2.out.drew nq
      have HK3 : Hid (Kp (· = b) w (wa.drewN nq)) := HK2.out.drewN nq
      clear HR2 HK2 c0 c1 ca
      generalize wa.drewN nq = wb at *
      have c1 := HR3.out.c1
      have f1 := HR3.out.f1
      have HR4 : Hid (R0 b l (.slice (some ⟨g, o, none⟩) n cap) (p + 1) 0 (wb.setCell ⟨b, 1, none⟩ (.int .i64 ((p + 1 : Nat) : Int)))) := HR3.out.setAt (p + 1) (by have := HN.out; omega)
      clear HR
      by_cases h9 : k = 9
      · by_cases hc1 : 1 < c
        · have h9I : (k : Int) = 9 := by omega
          have hc1I : (1 : Int) < (c : Int) := by omega
          have HX : Hid (rU (l.drop p0) = .error 121) := by
            show _ = _
            rw [← HE.out, HD.out]
            exact rd_form ⟨h9, hc1⟩
          have HV : Hid (pv rU 0 (.ok (l.drop p0)) = 0) := pv_no HX.out
          have HP : Hid (pn rU (.ok (l.drop p0)) = .error 121) := pn_no HX.out
          clear HX HE HD
          clear h9
          go_wp2_with fail
          refine (refFail b 121 _ (HR4.out.c2) (HR4.out.f2)).mono ?_
          rintro e w4 ⟨rfl, rfl⟩
          go_wp2
          go_ret
          exact ⟨by rw [HV.out]; rfl, ⟨p + 1, 121, HR4.out.setE 121, by rw [HP.out]; exact ⟨rfl, by omega, by omega⟩⟩, kset (kset HK3.out _) _⟩
        · have h9I : (k : Int) = 9 := by omega
          have hc1I : ¬ (1 : Int) < (c : Int) := by omega
          have hc2I : (c : Int) < 128 := by omega
          obtain ⟨x, hx⟩ : ∃ x, c % 128 = x := ⟨_, rfl⟩
          have hx2 : x < 128 := by omega
          obtain ⟨s1, s2⟩ := sum7 hk HA.out hx2 hx (by omega)
          obtain ⟨y, hy⟩ : ∃ y, x * 2 ^ (7 * k) = y := ⟨_, rfl⟩
          obtain ⟨s, hs⟩ : ∃ s, a + c % 128 * 2 ^ (7 * k) = s := ⟨_, rfl⟩
          have HS : Hid (a + y = s) := by
            show _ = _
            rw [← hs, hx, hy]
          have hmul : IntKind.i64.wrap (7 * (k : Int)) = ((7 * k : Nat) : Int) := by rw [IntKind.wrap_i64]; omega
          have hrem : (c : Int).tmod 128 = (x : Int) := by rw [Int.tmod_eq_emod_of_nonneg (by omega)]; omega
          have hw1 : IntKind.u8.wrap (x : Int) = (x : Int) := by rw [IntKind.wrap_u8]; omega
          have hw2 : IntKind.u64.wrap (x : Int) = (x : Int) := by rw [IntKind.wrap_u64]; omega
          have hyI : (x : Int) * 2 ^ (7 * k) = (y : Int) := by rw [← hy, Int.natCast_mul, Int.natCast_pow]; rfl
          rw [hy] at s1 s2
          have hw3 : IntKind.u64.wrap (y : Int) = (y : Int) := by rw [IntKind.wrap_u64]; omega
          have hw4 : IntKind.u64.wrap ((a : Int) + (y : Int)) = (s : Int) := by have := HS.out; rw [IntKind.wrap_u64]; omega
          have h7 : (7 * k : Nat) < 64 := by omega
          have h70 : ¬ (((7 * k : Nat) : Int) < 0) := by omega
          have hw5 : IntKind.u64.wrap ((a : Int) + (x : Int) * 9223372036854775808) = (s : Int) := by
            have e : y = x * 9223372036854775808 := by rw [← hy, h9]
            have := HS.out
            rw [IntKind.wrap_u64]
            omega
          by_cases hz : c = 0
          · have hzI : (c : Int) = 0 := by omega
            have hkI : (0 : Int) < (k : Int) := by omega
            have HX : Hid (rU (l.drop p0) = .error 121) := by
              show _ = _
              rw [← HE.out, HD.out]
              exact rd_long (by omega) (by omega) (by omega)
            have HV : Hid (pv rU 0 (.ok (l.drop p0)) = 0) := pv_no HX.out
            have HP : Hid (pn rU (.ok (l.drop p0)) = .error 121) := pn_no HX.out
            clear HX HE HD
            clear h9 hs HS hz
            go_wp2_with fail
            refine (refFail b 121 _ (HR4.out.c2) (HR4.out.f2)).mono ?_
            rintro e w4 ⟨rfl, rfl⟩
            go_wp2
            go_ret
            exact ⟨by rw [HV.out]; rfl, ⟨p + 1, 121, HR4.out.setE 121, by rw [HP.out]; exact ⟨rfl, by omega, by omega⟩⟩, kset (kset HK3.out _) _⟩
          · have hzI : ¬ (c : Int) = 0 := by omega
            have HX : Hid (rU (l.drop p0) = .ok (a + c % 128 * 2 ^ (7 * k), l.drop (p + 1))) := by
              show _ = _
              rw [← HE.out, HD.out]
              exact rd_last (by omega) (by omega) (by omega)
            have HV : Hid (pv rU 0 (.ok (l.drop p0)) = s) := by
              show _ = _
              rw [pv_ok HX.out, hs]
            have HP : Hid (pn rU (.ok (l.drop p0)) = .ok (l.drop (p + 1))) := pn_ok HX.out
            clear HX HE HD HS hs
            go_wp2
            go_ret
            exact ⟨by rw [HV.out]; rfl, ⟨p + 1, 0, HR4.out, by rw [HP.out]; exact ⟨rfl, rfl⟩⟩, kset HK3.out _⟩
      · have h9I : ¬ (k : Int) = 9 := by omega
        obtain ⟨x, hx⟩ : ∃ x, c % 128 = x := ⟨_, rfl⟩
        have hx2 : x < 128 := by omega
        obtain ⟨s1, s2⟩ := sum7 hk HA.out hx2 hx (by omega)
        obtain ⟨y, hy⟩ : ∃ y, x * 2 ^ (7 * k) = y := ⟨_, rfl⟩
        obtain ⟨s, hs⟩ : ∃ s, a + c % 128 * 2 ^ (7 * k) = s := ⟨_, rfl⟩
        have HS : Hid (a + y = s) := by
          show _ = _
          rw [← hs, hx, hy]
        have hmul : IntKind.i64.wrap (7 * (k : Int)) = ((7 * k : Nat) : Int) := by rw [IntKind.wrap_i64]; omega
        have hrem : (c : Int).tmod 128 = (x : Int) := by rw [Int.tmod_eq_emod_of_nonneg (by omega)]; omega
        have hw1 : IntKind.u8.wrap (x : Int) = (x : Int) := by rw [IntKind.wrap_u8]; omega
        have hw2 : IntKind.u64.wrap (x : Int) = (x : Int) := by rw [IntKind.wrap_u64]; omega
        have hyI : (x : Int) * 2 ^ (7 * k) = (y : Int) := by rw [← hy, Int.natCast_mul, Int.natCast_pow]; rfl
        rw [hy] at s1 s2
        have hw3 : IntKind.u64.wrap (y : Int) = (y : Int) := by rw [IntKind.wrap_u64]; omega
        have hw4 : IntKind.u64.wrap ((a : Int) + (y : Int)) = (s : Int) := by have := HS.out; rw [IntKind.wrap_u64]; omega
        have h7 : (7 * k : Nat) < 64 := by omega
        have h70 : ¬ (((7 * k : Nat) : Int) < 0) := by omega
        by_cases hc2 : c < 128
        · have hc2I : (c : Int) < 128 := by omega
          by_cases hz : c = 0
          · have hzI : (c : Int) = 0 := by omega
            by_cases hk0 : 0 < k
            · have hkI : (0 : Int) < (k : Int) := by omega
              have HX : Hid (rU (l.drop p0) = .error 121) := by
                show _ = _
                rw [← HE.out, HD.out]
                exact rd_long (by omega) (by omega) (by omega)
              have HV : Hid (pv rU 0 (.ok (l.drop p0)) = 0) := pv_no HX.out
              have HP : Hid (pn rU (.ok (l.drop p0)) = .error 121) := pn_no HX.out
              clear HX HE HD
              clear hs HS hz
              go_wp2_with fail
              refine (refFail b 121 _ (HR4.out.c2) (HR4.out.f2)).mono ?_
              rintro e w4 ⟨rfl, rfl⟩
              go_wp2
              go_ret
              exact ⟨by rw [HV.out]; rfl, ⟨p + 1, 121, HR4.out.setE 121, by rw [HP.out]; exact ⟨rfl, by omega, by omega⟩⟩, kset (kset HK3.out _) _⟩
            · have hkI : ¬ (0 : Int) < (k : Int) := by omega
              have HSA : Hid (s = a) := by
                show _ = _
                have e : y = 0 := by rw [← hy, ← hx, hz]; simp
                have := HS.out
                omega
              have HX : Hid (rU (l.drop p0) = .ok (a + c % 128 * 2 ^ (7 * k), l.drop (p + 1))) := by
                show _ = _
                rw [← HE.out, HD.out]
                exact rd_last (by omega) (by omega) (by omega)
              have HV : Hid (pv rU 0 (.ok (l.drop p0)) = s) := by
                show _ = _
                rw [pv_ok HX.out, hs]
              have HP : Hid (pn rU (.ok (l.drop p0)) = .ok (l.drop (p + 1))) := pn_ok HX.out
              clear HX HE HD HS hs
              go_wp2
              go_ret
              exact ⟨by rw [HV.out, HSA.out]; rfl, ⟨p + 1, 0, HR4.out, by rw [HP.out]; exact ⟨rfl, rfl⟩⟩, kset HK3.out _⟩
          · have hzI : ¬ (c : Int) = 0 := by omega
            have HX : Hid (rU (l.drop p0) = .ok (a + c % 128 * 2 ^ (7 * k), l.drop (p + 1))) := by
              show _ = _
              rw [← HE.out, HD.out]
              exact rd_last (by omega) (by omega) (by omega)
            have HV : Hid (pv rU 0 (.ok (l.drop p0)) = s) := by
              show _ = _
              rw [pv_ok HX.out, hs]
            have HP : Hid (pn rU (.ok (l.drop p0)) = .ok (l.drop (p + 1))) := pn_ok HX.out
            clear HX HE HD HS hs
            go_wp2
            go_ret
            exact ⟨by rw [HV.out]; rfl, ⟨p + 1, 0, HR4.out, by rw [HP.out]; exact ⟨rfl, rfl⟩⟩, kset HK3.out _⟩
        · have hc2I : ¬ (c : Int) < 128 := by omega
          have HE2 : Hid (rdU (l.drop (p + 1)) (k + 1) s = rU (l.drop p0)) := by
            show _ = _
            rw [← HE.out, HD.out, rd_more (by omega) (by omega), hs]
          have HA2 : Hid (s < 2 ^ (7 * (k + 1))) := by
            show _ < _
            rw [← hs, hx]
            exact next7 HA.out hx2
          clear HE HD HS hs hx hy
          go_wp2
          go_roundw
          case rel => exact ⟨k + 1, s, p + 1, by omega, rfl, by go_num, HA2, HR4, HE2, kset HK3.out _⟩
          case measure => simp [intOf]; omega
    · obtain rfl : p = n := by omega
      have hltI : (p : Int) ≤ (p : Int) := by omega
      have HX : Hid (rU (l.drop p0) = .error 120) := by
        show _ = _
        rw [← HE.out, List.drop_eq_nil_of_le (by have := HN.out; omega)]
        rfl
      have HV : Hid (pv rU 0 (.ok (l.drop p0)) = 0) := pv_no HX.out
      have HP : Hid (pn rU (.ok (l.drop p0)) = .error 120) := pn_no HX.out
      clear HX HE HR
      go_upto_region 4 with fail
      go_quiet (fail)
      have HR2 : Hid (R0 b l (.slice ad p cap) p 0 (wr.drewN nq)) := HR1.out.drew nq
      have HK2 : Hid (Kp (· = b) w (wr.drewN nq)) := HK.out.drewN nq
      clear HR1 HK c0 c1 c2
      generalize wr.drewN nq = wa at *
      go_wp2_with fail
      refine (refFail b 120 _ (HR2.out.c2) (HR2.out.f2)).mono ?_
      rintro e w4 ⟨rfl, rfl⟩
      go_wp2
      go_ret
      exact ⟨by rw [HV.out]; rfl, ⟨p, 120, HR2.out.setE 120, by rw [HP.out]; exact ⟨rfl, by omega, by omega⟩⟩, kset HK2.out _⟩
end Go.Proofs.YtfcbgkcclganmaaDoor
