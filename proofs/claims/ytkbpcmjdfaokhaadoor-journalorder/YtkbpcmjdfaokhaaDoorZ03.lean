/-
  Layer 12's plain numbers: readers as functions of what is left; each thing has one form, and is read again.
-/
import Derived.Test.YtkbpcmjdfaokhaaDoorZ02

set_option linter.unusedVariables false
namespace Go.Proofs.YtkbpcmjdfaokhaaDoor

/-- What reads a thing off a list of bytes. -/
abbrev Rdr (α : Type) := List Nat → Except Nat (α × List Nat)
/-- Where a reader stands: an error, or what is left. -/
abbrev Sta := Except Nat (List Nat)
def pv {α : Type} (P : Rdr α) (d : α) : Sta → α
  | .error _ => d
  | .ok l => match P l with
    | .ok (x, _) => x
    | .error _ => d
def pn {α : Type} (P : Rdr α) : Sta → Sta
  | .error e => .error e
  | .ok l => match P l with
    | .ok (_, t) => .ok t
    | .error e => .error e
theorem pv_err {α : Type} (P : Rdr α) (d : α) (e : Nat) : pv P d (.error e) = d := rfl
theorem pn_err {α : Type} (P : Rdr α) (e : Nat) : pn P (.error e) = .error e := rfl
theorem pv_ok {α : Type} {P : Rdr α} {d : α} {l t : List Nat} {x : α} (h : P l = .ok (x, t)) : pv P d (.ok l) = x := by simp [pv, h]
theorem pn_ok {α : Type} {P : Rdr α} {l t : List Nat} {x : α} (h : P l = .ok (x, t)) : pn P (.ok l) = .ok t := by simp [pn, h]
theorem pv_no {α : Type} {P : Rdr α} {d : α} {l : List Nat} {e : Nat} (h : P l = .error e) : pv P d (.ok l) = d := by simp [pv, h]
theorem pn_no {α : Type} {P : Rdr α} {l : List Nat} {e : Nat} (h : P l = .error e) : pn P (.ok l) = .error e := by simp [pn, h]
/-- So many things, one behind the other. -/
def itS {α : Type} (P : Rdr α) : Nat → Sta → Sta
  | 0, s => s
  | n + 1, s => pn P (itS P n s)
def itV {α : Type} (P : Rdr α) (d : α) : Nat → Sta → List α
  | 0, _ => []
  | n + 1, s => itV P d n s ++ [pv P d (itS P n s)]
theorem itS_front {α : Type} (P : Rdr α) (n : Nat) (s : Sta) : itS P (n + 1) s = itS P n (pn P s) := by
  induction n with
  | zero => rfl
  | succ n ih => show pn P (itS P (n + 1) s) = _; rw [ih]; rfl
theorem itV_front {α : Type} (P : Rdr α) (d : α) (n : Nat) (s : Sta) : itV P d (n + 1) s = pv P d s :: itV P d n (pn P s) := by
  induction n with
  | zero => rfl
  | succ n ih =>
    show itV P d (n + 1) s ++ [pv P d (itS P (n + 1) s)] = _
    rw [ih, itS_front]
    rfl
theorem itV_len {α : Type} (P : Rdr α) (d : α) (n : Nat) (s : Sta) : (itV P d n s).length = n := by
  induction n with
  | zero => rfl
  | succ n ih => simp [itV, ih]
theorem itS_err {α : Type} (P : Rdr α) (n e : Nat) : itS P n (.error e) = .error e := by
  induction n with
  | zero => rfl
  | succ n ih => show pn P (itS P n (.error e)) = _; rw [ih]; rfl
theorem itS_mono {α : Type} (P : Rdr α) (n i e : Nat) (s : Sta) (h : itS P i s = .error e) (hi : i ≤ n) : itS P n s = .error e := by
  induction n with
  | zero => obtain rfl : i = 0 := by omega
            exact h
  | succ n ih =>
    by_cases q : i = n + 1
    · subst q; exact h
    · show pn P (itS P n s) = _
      rw [ih (by omega)]; rfl
def rep {α : Type} (P : Rdr α) (d : α) (n : Nat) (l : List Nat) : Except Nat (List α × List Nat) := match itS P n (.ok l) with
  | .ok t => .ok (itV P d n (.ok l), t)
  | .error e => .error e
theorem rep_ok {α : Type} {P : Rdr α} {d : α} {n : Nat} {l t : List Nat} (h : itS P n (.ok l) = .ok t) : rep P d n l = .ok (itV P d n (.ok l), t) := by simp [rep, h]
theorem rep_no {α : Type} {P : Rdr α} {d : α} {n e : Nat} {l : List Nat} (h : itS P n (.ok l) = .error e) : rep P d n l = .error e := by simp [rep, h]
/-- The readers. -/
def rI : Rdr Int := fun l => match rU l with
  | .ok (n, t) => .ok (ofC n, t)
  | .error e => .error e
def rF : Rdr Int := fun l => if l.length < 8 then .error 120 else .ok (s64 (deN (l.take 8)), l.drop 8)
def rB : Rdr (List Nat) := fun l => match rU l with
  | .ok (n, t) => if t.length < n then .error 120 else .ok (t.take n, t.drop n)
  | .error e => .error e
def rIs : Rdr (List Int) := fun l => match rU l with
  | .ok (n, t) => if t.length < n then .error 120 else rep rI 0 n t
  | .error e => .error e
def rFs : Rdr (List Int) := fun l => match rU l with
  | .ok (n, t) => if t.length / 8 < n then .error 120 else rep rF 0 n t
  | .error e => .error e
/-- A reader and its form. -/
structure One {α : Type} (P : Rdr α) (en : α → List Nat) (good : α → Prop) : Prop where
  back : ∀ x t, good x → P (en x ++ t) = .ok (x, t)
  one : ∀ l x t, (∀ c ∈ l, c < 256) → P l = .ok (x, t) → l = en x ++ t ∧ good x
  short : ∀ x q, good x → q <+: en x → q.length < (en x).length → P q = .error 120
theorem One.cut {α : Type} {P : Rdr α} {en : α → List Nat} {good : α → Prop} (o : One P en good) (x : α) (q g : List Nat) (hx : good x) (h1 : q <+: en x ++ g) (h2 : q.length < (en x ++ g).length) :
    P q = .error 120 ∨ ∃ q', P q = .ok (x, q') ∧ q' <+: g ∧ q'.length < g.length := by
  by_cases h : q.length < (en x).length
  · exact Or.inl (o.short x q hx (List.prefix_of_prefix_length_le h1 (List.prefix_append _ _) (by omega)) h)
  · right
    have h3 : en x <+: q := List.prefix_of_prefix_length_le (List.prefix_append _ _) h1 (by omega)
    obtain ⟨q', rfl⟩ := h3
    refine ⟨q', o.back x q' hx, (List.prefix_append_right_inj _).1 h1, ?_⟩
    simp only [List.length_append] at h2
    omega
theorem short_any {α : Type} {P : Rdr α} {en : α → List Nat} {good : α → Prop} (o : One P en good) : ∀ (xs : List α) (q : List Nat), (∀ x ∈ xs, good x) → q <+: xs.flatMap en → q.length < (xs.flatMap en).length → itS P xs.length (.ok q) = .error 120 := by
  intro xs
  induction xs with
  | nil => intro q _ h1 h2; simp at h2
  | cons x xs ih =>
    intro q hx h1 h2
    rw [List.flatMap_cons] at h1 h2
    show itS P (xs.length + 1) (.ok q) = _
    rw [itS_front]
    rcases o.cut x q _ (hx x (by simp)) h1 h2 with h | ⟨q', h3, h4, h5⟩
    · rw [pn_no h, itS_err]
    · rw [pn_ok h3]
      exact ih q' (fun y hy => hx y (by simp [hy])) h4 h5
theorem back_any {α : Type} {P : Rdr α} {en : α → List Nat} {good : α → Prop} (o : One P en good) (d : α) : ∀ (xs : List α) (t : List Nat), (∀ x ∈ xs, good x) → itS P xs.length (.ok (xs.flatMap en ++ t)) = .ok t ∧ itV P d xs.length (.ok (xs.flatMap en ++ t)) = xs := by
  intro xs
  induction xs with
  | nil => intro t _; exact ⟨rfl, rfl⟩
  | cons x xs ih =>
    intro t hx
    have h := o.back x (xs.flatMap en ++ t) (hx x (by simp))
    rw [List.flatMap_cons, List.append_assoc]
    show itS P (xs.length + 1) _ = _ ∧ itV P d (xs.length + 1) _ = _
    rw [itS_front, itV_front, pn_ok h, pv_ok h]
    obtain ⟨h1, h2⟩ := ih t (fun y hy => hx y (by simp [hy]))
    exact ⟨h1, by rw [h2]⟩
theorem one_any {α : Type} {P : Rdr α} {en : α → List Nat} {good : α → Prop} (o : One P en good) (d : α) : ∀ (n : Nat) (l t : List Nat), (∀ c ∈ l, c < 256) → itS P n (.ok l) = .ok t → l = (itV P d n (.ok l)).flatMap en ++ t ∧ ∀ x ∈ itV P d n (.ok l), good x := by
  intro n
  induction n with
  | zero => intro l t _ h; cases h; exact ⟨rfl, fun x hx => by cases hx⟩
  | succ n ih =>
    intro l t hb h
    rw [itS_front] at h
    rw [itV_front]
    cases hP : P l with
    | error e => rw [pn_no hP, itS_err] at h; cases h
    | ok z =>
      obtain ⟨x, s⟩ := z
      rw [pn_ok hP] at h
      obtain ⟨h1, h2⟩ := o.one l x s hb hP
      have hb2 : ∀ c ∈ s, c < 256 := fun c hc => hb c (by rw [h1]; simp [hc])
      obtain ⟨h3, h4⟩ := ih s t hb2 h
      rw [pn_ok hP, pv_ok hP]
      refine ⟨?_, ?_⟩
      · rw [List.flatMap_cons, List.append_assoc, ← h3, ← h1]
      · intro y hy
        rcases List.mem_cons.1 hy with rfl | hy
        · exact h2
        · exact h4 y hy
def okU (n : Nat) : Prop := n < 18446744073709551616
def okI (n : Int) : Prop := -9223372036854775808 ≤ n ∧ n ≤ 9223372036854775807
def okB (l : List Nat) : Prop := (∀ c ∈ l, c < 256) ∧ l.length < 18446744073709551616
def okL (l : List Int) : Prop := (∀ n ∈ l, okI n) ∧ l.length < 18446744073709551616
def enB (l : List Nat) : List Nat := enU l.length ++ l
def enIs (l : List Int) : List Nat := enU l.length ++ l.flatMap enI
def enFs (l : List Int) : List Nat := enU l.length ++ l.flatMap enF
theorem oneU : One rU enU okU :=
  ⟨fun x t h => rU_en h t, fun l x t hb h => en_rU hb h, fun x q hx h1 h2 => rd_cut x 0 0 q (by omega) hx h2 h1⟩
theorem rI_ok {l t : List Nat} {n : Nat} (h : rU l = .ok (n, t)) : rI l = .ok (ofC n, t) := by simp [rI, h]
theorem rI_no {l : List Nat} {e : Nat} (h : rU l = .error e) : rI l = .error e := by simp [rI, h]
theorem oneI : One rI enI okI := by
  refine ⟨fun x t h => ?_, fun l x t hb h => ?_, fun x q hx h1 h2 => ?_⟩
  · unfold enI
    rw [rI_ok (rU_en (ctI_lt h.1 h.2) t), ofC_ct]
  · cases hU : rU l with
    | error e => rw [rI_no hU] at h; cases h
    | ok z =>
      obtain ⟨n, s⟩ := z
      rw [rI_ok hU] at h
      cases h
      obtain ⟨h1, h2⟩ := en_rU hb hU
      exact ⟨by unfold enI; rw [ct_ofC]; exact h1, ofC_bd h2⟩
  · exact rI_no (oneU.short _ q (ctI_lt hx.1 hx.2) h1 h2)
theorem enF_len (x : Int) : (enF x).length = 8 := enN_len _ _
theorem oneF : One rF enF okI := by
  refine ⟨fun x t h => ?_, fun l x t hb h => ?_, fun x q hx h1 h2 => ?_⟩
  · unfold rF
    have hl := enF_len x
    rw [if_neg (by rw [List.length_append]; omega)]
    rw [show List.take 8 (enF x ++ t) = enF x by rw [← hl]; exact List.take_left' rfl, show List.drop 8 (enF x ++ t) = t by rw [← hl]; exact List.drop_left' rfl]
    unfold enF
    rw [de_en 8 _ (u64_lt h.1 h.2), s64_u h.1 h.2]
  · unfold rF at h
    split at h
    · cases h
    · rename_i hl
      cases h
      have hb2 : ∀ c ∈ l.take 8, c < 256 := fun c hc => hb c (List.mem_of_mem_take hc)
      have hlen : (l.take 8).length = 8 := by rw [List.length_take]; omega
      have hd := deN_lt _ hb2
      rw [hlen] at hd
      have he := en_de _ hb2
      rw [hlen] at he
      refine ⟨?_, s64_bd hd⟩
      unfold enF
      rw [u64_s hd, he, List.take_append_drop]
  · unfold rF
    rw [if_pos (by rw [enF_len] at h2; exact h2)]
theorem rB_ok {l t : List Nat} {n : Nat} (h : rU l = .ok (n, t)) (hn : n ≤ t.length) : rB l = .ok (t.take n, t.drop n) := by simp only [rB, h]; rw [if_neg (by omega)]
theorem rB_lack {l t : List Nat} {n : Nat} (h : rU l = .ok (n, t)) (hn : t.length < n) : rB l = .error 120 := by simp only [rB, h]; rw [if_pos hn]
theorem rB_no {l : List Nat} {e : Nat} (h : rU l = .error e) : rB l = .error e := by simp [rB, h]
/-- Cut off in what has its count ahead. -/
theorem head_cut (n : Nat) (hn : okU n) (g q : List Nat) (h1 : q <+: enU n ++ g) (h2 : q.length < (enU n ++ g).length) : rU q = .error 120 ∨ ∃ q', rU q = .ok (n, q') ∧ q' <+: g ∧ q'.length < g.length := oneU.cut n q g hn h1 h2
theorem oneB : One rB enB okB := by
  refine ⟨fun x t h => ?_, fun l x t hb h => ?_, fun x q hx h1 h2 => ?_⟩
  · unfold enB
    rw [List.append_assoc, rB_ok (rU_en h.2 (x ++ t)) (by simp)]
    simp
  · cases hU : rU l with
    | error e => rw [rB_no hU] at h; cases h
    | ok z =>
      obtain ⟨n, s⟩ := z
      obtain ⟨h1, h2⟩ := en_rU hb hU
      by_cases hn : s.length < n
      · rw [rB_lack hU hn] at h; cases h
      · rw [rB_ok hU (by omega)] at h
        cases h
        have hl : (s.take n).length = n := by rw [List.length_take]; omega
        refine ⟨?_, ⟨fun c hc => hb c (by rw [h1]; simp [List.mem_of_mem_take hc]), by rw [hl]; exact h2⟩⟩
        unfold enB
        rw [hl, List.append_assoc, List.take_append_drop]
        exact h1
  · unfold enB at h1 h2
    rcases head_cut x.length hx.2 x q h1 h2 with h | ⟨q', h3, h4, h5⟩
    · exact rB_no h
    · exact rB_lack h3 h5
theorem rIs_ok {l t : List Nat} {n : Nat} (h : rU l = .ok (n, t)) (hn : n ≤ t.length) : rIs l = rep rI 0 n t := by simp only [rIs, h]; rw [if_neg (by omega)]
theorem rIs_lack {l t : List Nat} {n : Nat} (h : rU l = .ok (n, t)) (hn : t.length < n) : rIs l = .error 120 := by simp only [rIs, h]; rw [if_pos hn]
theorem rIs_no {l : List Nat} {e : Nat} (h : rU l = .error e) : rIs l = .error e := by simp [rIs, h]
theorem rFs_ok {l t : List Nat} {n : Nat} (h : rU l = .ok (n, t)) (hn : n ≤ t.length / 8) : rFs l = rep rF 0 n t := by simp only [rFs, h]; rw [if_neg (by omega)]
theorem rFs_lack {l t : List Nat} {n : Nat} (h : rU l = .ok (n, t)) (hn : t.length / 8 < n) : rFs l = .error 120 := by simp only [rFs, h]; rw [if_pos hn]
theorem rFs_no {l : List Nat} {e : Nat} (h : rU l = .error e) : rFs l = .error e := by simp [rFs, h]
theorem flat_ge (xs : List Int) : xs.length ≤ (xs.flatMap enI).length := by
  induction xs with
  | nil => exact Nat.le_refl _
  | cons x xs ih =>
    rw [List.flatMap_cons, List.length_append]
    have := enU_pos (ctI x)
    unfold enI at *
    simp only [List.length_cons]
    omega
theorem flat_eight (xs : List Int) : (xs.flatMap enF).length = 8 * xs.length := by
  induction xs with
  | nil => rfl
  | cons x xs ih =>
    rw [List.flatMap_cons, List.length_append, enF_len, ih]
    simp only [List.length_cons]
    omega
theorem rep_back {P : Rdr Int} {en : Int → List Nat} {good : Int → Prop} (o : One P en good) (xs : List Int) (t : List Nat) (hx : ∀ x ∈ xs, good x) : rep P 0 xs.length (xs.flatMap en ++ t) = .ok (xs, t) := by
  obtain ⟨h1, h2⟩ := back_any o 0 xs t hx
  rw [rep_ok h1, h2]
theorem rep_one {P : Rdr Int} {en : Int → List Nat} {good : Int → Prop} (o : One P en good) {n : Nat} {l t : List Nat} {xs : List Int} (hb : ∀ c ∈ l, c < 256) (h : rep P 0 n l = .ok (xs, t)) : l = xs.flatMap en ++ t ∧ (∀ x ∈ xs, good x) ∧ xs.length = n := by
  cases hs : itS P n (.ok l) with
  | error e => rw [rep_no hs] at h; cases h
  | ok s =>
    rw [rep_ok hs] at h
    cases h
    obtain ⟨h1, h2⟩ := one_any o 0 n l t hb hs
    exact ⟨h1, h2, itV_len _ _ _ _⟩
theorem oneIs : One rIs enIs okL := by
  refine ⟨fun x t h => ?_, fun l x t hb h => ?_, fun x q hx h1 h2 => ?_⟩
  · unfold enIs
    have := flat_ge x
    rw [List.append_assoc, rIs_ok (rU_en h.2 (x.flatMap enI ++ t)) (by rw [List.length_append]; omega)]
    exact rep_back oneI x t h.1
  · cases hU : rU l with
    | error e => rw [rIs_no hU] at h; cases h
    | ok z =>
      obtain ⟨n, s⟩ := z
      obtain ⟨h1, h2⟩ := en_rU hb hU
      by_cases hn : s.length < n
      · rw [rIs_lack hU hn] at h; cases h
      · rw [rIs_ok hU (by omega)] at h
        have hb2 : ∀ c ∈ s, c < 256 := fun c hc => hb c (by rw [h1]; simp [hc])
        obtain ⟨h3, h4, h5⟩ := rep_one oneI hb2 h
        refine ⟨?_, ⟨h4, by rw [h5]; exact h2⟩⟩
        unfold enIs
        rw [h5, List.append_assoc, ← h3]
        exact h1
  · unfold enIs at h1 h2
    rcases head_cut x.length hx.2 (x.flatMap enI) q h1 h2 with h | ⟨q', h3, h4, h5⟩
    · exact rIs_no h
    · by_cases hn : q'.length < x.length
      · exact rIs_lack h3 hn
      · rw [rIs_ok h3 (by omega)]
        exact rep_no (short_any oneI x q' hx.1 h4 h5)
theorem oneFs : One rFs enFs okL := by
  refine ⟨fun x t h => ?_, fun l x t hb h => ?_, fun x q hx h1 h2 => ?_⟩
  · unfold enFs
    have := flat_eight x
    rw [List.append_assoc, rFs_ok (rU_en h.2 (x.flatMap enF ++ t)) (by rw [List.length_append]; omega)]
    exact rep_back oneF x t h.1
  · cases hU : rU l with
    | error e => rw [rFs_no hU] at h; cases h
    | ok z =>
      obtain ⟨n, s⟩ := z
      obtain ⟨h1, h2⟩ := en_rU hb hU
      by_cases hn : s.length / 8 < n
      · rw [rFs_lack hU hn] at h; cases h
      · rw [rFs_ok hU (by omega)] at h
        have hb2 : ∀ c ∈ s, c < 256 := fun c hc => hb c (by rw [h1]; simp [hc])
        obtain ⟨h3, h4, h5⟩ := rep_one oneF hb2 h
        refine ⟨?_, ⟨h4, by rw [h5]; exact h2⟩⟩
        unfold enFs
        rw [h5, List.append_assoc, ← h3]
        exact h1
  · unfold enFs at h1 h2
    rcases head_cut x.length hx.2 (x.flatMap enF) q h1 h2 with h | ⟨q', h3, h4, h5⟩
    · exact rFs_no h
    · have := flat_eight x
      exact rFs_lack h3 (by omega)
/-- Where a writer stands: all that was written, or why there is nothing. -/
def pt (s : Sta) (f : List Nat) : Sta := match s with
  | .error e => .error e
  | .ok l => if l.length + f.length ≤ 1048576 then .ok (l ++ f) else .error 3
theorem pt_ok {l f : List Nat} (h : l.length + f.length ≤ 1048576) : pt (.ok l) f = .ok (l ++ f) := by simp [pt, h]
theorem pt_big {l f : List Nat} (h : 1048576 < l.length + f.length) : pt (.ok l) f = .error 3 := by simp only [pt]; rw [if_neg (by omega)]
theorem pt_err (e : Nat) (f : List Nat) : pt (.error e) f = .error e := rfl
def dnV : Sta → List Nat
  | .ok l => l
  | .error _ => []
def dnE : Sta → Nat
  | .ok _ => 0
  | .error e => e
/-- What a reader's Done says. -/
def rdE : Sta → Nat
  | .ok l => if l.length = 0 then 0 else 122
  | .error e => e
/-- A thing. -/
structure Th where
  k : Int
  u : Nat
  n : Int
  x : Int
  b : List Nat
  l : List Int
  f : List Int
def Th.form (t : Th) : List Nat :=
  if t.k = 1 then enU t.u else if t.k = 2 then enI t.n else if t.k = 3 then enF t.x else if t.k = 4 then enB t.b else if t.k = 5 then enIs t.l else if t.k = 6 then enFs t.f else []
/-- Where a reader stands when a thing of a kind was read. -/
def nxt (k : Int) (s : Sta) : Sta :=
  if k = 1 then pn rU s else if k = 2 then pn rI s else if k = 3 then pn rF s else if k = 4 then pn rB s else if k = 5 then pn rIs s else if k = 6 then pn rFs s else s
structure Th.good (t : Th) : Prop where
  u : okU t.u
  n : okI t.n
  x : okI t.x
  b : okB t.b
  l : okL t.l
  f : okL t.f
theorem nxt_err (k : Int) (e : Nat) : nxt k (.error e) = .error e := by
  unfold nxt
  simp only [pn_err, ite_self]
theorem kinds (k : Int) : k = 1 ∨ k = 2 ∨ k = 3 ∨ k = 4 ∨ k = 5 ∨ k = 6 ∨ (k ≠ 1 ∧ k ≠ 2 ∧ k ≠ 3 ∧ k ≠ 4 ∧ k ≠ 5 ∧ k ≠ 6) := by omega
theorem form_1 {t : Th} (h : t.k = 1) : t.form = enU t.u := by simp [Th.form, h]
theorem nxt_1 {k : Int} (h : k = 1) (s : Sta) : nxt k s = pn rU s := by simp [nxt, h]
theorem form_2 {t : Th} (h : t.k = 2) : t.form = enI t.n := by simp [Th.form, h]
theorem nxt_2 {k : Int} (h : k = 2) (s : Sta) : nxt k s = pn rI s := by simp [nxt, h]
theorem form_3 {t : Th} (h : t.k = 3) : t.form = enF t.x := by simp [Th.form, h]
theorem nxt_3 {k : Int} (h : k = 3) (s : Sta) : nxt k s = pn rF s := by simp [nxt, h]
theorem form_4 {t : Th} (h : t.k = 4) : t.form = enB t.b := by simp [Th.form, h]
theorem nxt_4 {k : Int} (h : k = 4) (s : Sta) : nxt k s = pn rB s := by simp [nxt, h]
theorem form_5 {t : Th} (h : t.k = 5) : t.form = enIs t.l := by simp [Th.form, h]
theorem nxt_5 {k : Int} (h : k = 5) (s : Sta) : nxt k s = pn rIs s := by simp [nxt, h]
theorem form_6 {t : Th} (h : t.k = 6) : t.form = enFs t.f := by simp [Th.form, h]
theorem nxt_6 {k : Int} (h : k = 6) (s : Sta) : nxt k s = pn rFs s := by simp [nxt, h]
theorem form_0 {t : Th} (h : t.k ≠ 1 ∧ t.k ≠ 2 ∧ t.k ≠ 3 ∧ t.k ≠ 4 ∧ t.k ≠ 5 ∧ t.k ≠ 6) : t.form = [] := by simp [Th.form, h]
theorem nxt_0 {k : Int} (h : k ≠ 1 ∧ k ≠ 2 ∧ k ≠ 3 ∧ k ≠ 4 ∧ k ≠ 5 ∧ k ≠ 6) (s : Sta) : nxt k s = s := by simp [nxt, h]
/-- The thing, read of its form. -/
theorem nxt_form (t : Th) (g : t.good) (s : List Nat) : nxt t.k (.ok (t.form ++ s)) = .ok s := by
  rcases kinds t.k with h | h | h | h | h | h | h
  · rw [form_1 h, nxt_1 h]; exact pn_ok (oneU.back _ s g.u)
  · rw [form_2 h, nxt_2 h]; exact pn_ok (oneI.back _ s g.n)
  · rw [form_3 h, nxt_3 h]; exact pn_ok (oneF.back _ s g.x)
  · rw [form_4 h, nxt_4 h]; exact pn_ok (oneB.back _ s g.b)
  · rw [form_5 h, nxt_5 h]; exact pn_ok (oneIs.back _ s g.l)
  · rw [form_6 h, nxt_6 h]; exact pn_ok (oneFs.back _ s g.f)
  · rw [form_0 h, nxt_0 h]; rfl
/-- Cut off, it is told, or what is behind is cut off. -/
theorem nxt_cut (t : Th) (g : t.good) (q s : List Nat) (h1 : q <+: t.form ++ s) (h2 : q.length < (t.form ++ s).length) : nxt t.k (.ok q) = .error 120 ∨ ∃ q', nxt t.k (.ok q) = .ok q' ∧ q' <+: s ∧ q'.length < s.length := by
  have key : ∀ {α : Type} {P : Rdr α} {en : α → List Nat} {good : α → Prop} (o : One P en good) (x : α), good x → q <+: en x ++ s → q.length < (en x ++ s).length → pn P (.ok q) = .error 120 ∨ ∃ q', pn P (.ok q) = .ok q' ∧ q' <+: s ∧ q'.length < s.length := by
    intro α P en good o x hx h1 h2
    rcases o.cut x q s hx h1 h2 with h | ⟨q', h3, h4, h5⟩
    · exact Or.inl (pn_no h)
    · exact Or.inr ⟨q', pn_ok h3, h4, h5⟩
  rcases kinds t.k with h | h | h | h | h | h | h
  · rw [form_1 h] at h1 h2; rw [nxt_1 h]; exact key oneU _ g.u h1 h2
  · rw [form_2 h] at h1 h2; rw [nxt_2 h]; exact key oneI _ g.n h1 h2
  · rw [form_3 h] at h1 h2; rw [nxt_3 h]; exact key oneF _ g.x h1 h2
  · rw [form_4 h] at h1 h2; rw [nxt_4 h]; exact key oneB _ g.b h1 h2
  · rw [form_5 h] at h1 h2; rw [nxt_5 h]; exact key oneIs _ g.l h1 h2
  · rw [form_6 h] at h1 h2; rw [nxt_6 h]; exact key oneFs _ g.f h1 h2
  · rw [form_0 h] at h1 h2; rw [nxt_0 h]; exact Or.inr ⟨q, rfl, h1, h2⟩
end Go.Proofs.YtkbpcmjdfaokhaaDoor
