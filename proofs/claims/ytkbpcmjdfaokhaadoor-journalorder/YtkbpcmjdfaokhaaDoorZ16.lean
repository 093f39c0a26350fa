/-
Layer 17's plain journal: an Append, and what a fall in it leaves.
Layer 17's memory: a list of texts of one's own that grows.
-/
import Derived.Test.YtkbpcmjdfaokhaaDoorZ15
import Derived.Test.YtkbpcmjdfaokhaaDoorZ06

set_option linter.unusedVariables false
set_option linter.unusedSimpArgs false
namespace Go.Proofs.YtkbpcmjdfaokhaaDoor

/-- What a journal appends to: the generation (0: it isn't begun), how many records it has, the next block. -/
structure Jst where
  gen : Nat
  n : Nat
  next : Nat
/-- The writes of a record's blocks from a part on. -/
def jwr (p : Nat) (r : List Nat) (n gen : Nat) : Nat → Nat → Dsk → Nat × Dsk
  | 0, _, s => (0, s)
  | k + 1, i, s => if wrE s ((p + i : Nat) : Int) (jblk r i n gen) ≠ 0 then (wrE s ((p + i : Nat) : Int) (jblk r i n gen), wrS s ((p + i : Nat) : Int) (jblk r i n gen)) else jwr p r n gen k (i + 1) (wrS s ((p + i : Nat) : Int) (jblk r i n gen))
def jfl (w : Nat × Dsk) : Nat × Dsk := if w.1 ≠ 0 then w else (flE w.2, flS w.2)
def jput (s : Dsk) (base : Nat) (j : Jst) (r : List Nat) : Nat × Dsk := jfl (jwr (base + j.next) r (j.n + 1) j.gen (prt r.length) 0 s)
/-- An Append: an error's number, the disk, the journal. -/
def japp (s : Dsk) (base size : Nat) (j : Jst) (r : List Nat) : Nat × Dsk × Jst :=
  if j.gen = 0 then (180, s, j) else if 262144 < r.length then (3, s, j) else if size - j.next < prt r.length then (170, s, j) else
  if (jput s base j r).1 ≠ 0 then ((jput s base j r).1, (jput s base j r).2, { j with gen := 0 }) else (0, (jput s base j r).2, ⟨j.gen, j.n + 1, j.next + prt r.length⟩)
/-- Blocks of one record alone are under way. -/
structure Jun (bl : List (List Nat)) (p cnt : Nat) (r : List Nat) (n gen : Nat) (s : Dsk) : Prop where
  bl : s.bl = bl
  un : ∀ u ∈ s.un, ∃ j, j < cnt ∧ u = (p + j, jblk r j n gen)
theorem jwr_is (bl : List (List Nat)) (p cnt : Nat) (r : List Nat) (n gen : Nat) (hl : p + cnt ≤ bl.length) : ∀ (k i : Nat) (s : Dsk), i + k = cnt → s.dn = false → Jun bl p cnt r n gen s → (∀ j, j < i → lastU s.un (p + j) (bl.getD (p + j) []) = jblk r j n gen) →
    Jun bl p cnt r n gen (jwr p r n gen k i s).2 ∧ ((jwr p r n gen k i s).1 = 150 ∨ ((jwr p r n gen k i s).1 = 0 ∧ (jwr p r n gen k i s).2.dn = false ∧ ∀ j, j < cnt → lastU (jwr p r n gen k i s).2.un (p + j) (bl.getD (p + j) []) = jblk r j n gen)) := by
  intro k
  induction k with
  | zero =>
    intro i s hi hd hU hj
    have e : i = cnt := by omega
    subst e
    exact ⟨hU, Or.inr ⟨rfl, hd, hj⟩⟩
  | succ k ih =>
    intro i s hi hd hU hj
    obtain ⟨w1, w2, w3⟩ := wr_step (s := s) (i := p + i) (b := jblk r i n gen) hd (by rw [hU.bl]; omega) (by rw [jblk_len]; omega)
    rw [full_blk] at w2
    have hU2 : Jun bl p cnt r n gen (wrS s ((p + i : Nat) : Int) (jblk r i n gen)) := ⟨by rw [w1]; exact hU.bl, fun u hu => by
      rw [w2] at hu
      rcases List.mem_append.1 hu with q | q
      · exact hU.un u q
      · exact ⟨i, by omega, by simpa using q⟩⟩
    rcases w3 with w3 | ⟨w3, w4⟩
    · have e : jwr p r n gen (k + 1) i s = (150, wrS s ((p + i : Nat) : Int) (jblk r i n gen)) := by
        show (if wrE s ((p + i : Nat) : Int) (jblk r i n gen) ≠ 0 then _ else _) = _
        rw [if_pos (by omega), w3]
      rw [e]
      exact ⟨hU2, Or.inl rfl⟩
    · have e : jwr p r n gen (k + 1) i s = jwr p r n gen k (i + 1) (wrS s ((p + i : Nat) : Int) (jblk r i n gen)) := by
        show (if wrE s ((p + i : Nat) : Int) (jblk r i n gen) ≠ 0 then _ else _) = _
        rw [if_neg (by omega)]
      rw [e]
      refine ih (i + 1) _ (by omega) w4 hU2 (fun j hji => ?_)
      rw [w2, lastU_app]
      by_cases q : j = i
      · subst q; exact if_pos rfl
      · rw [if_neg (by show ¬ p + i = p + j; omega)]
        exact hj j (by omega)
/-- In a life: the records of the generation g, all behind them older. -/
structure JIn (base size g i : Nat) (rs : List (List Nat)) (used : Nat) (s : Dsk) : Prop where
  ok : OkD s
  dn : s.dn = false
  un : s.un = []
  rm : base + size ≤ s.bl.length
  row : Row (bk s) base g rs 0 used 1
  us : used ≤ size
  old : ∀ x, used ≤ x → x < size → gt (bk s (base + x)) 120 8 ≤ i
/-- An Append is under way as the power goes. -/
structure JFl (base size g i : Nat) (rs : List (List Nat)) (used : Nat) (r : List Nat) (s : Dsk) : Prop where
  ok : OkD s
  rm : base + size ≤ s.bl.length
  row : Row (bk s) base g rs 0 used 1
  us : used + prt r.length ≤ size
  old : ∀ x, used ≤ x → x < size → gt (bk s (base + x)) 120 8 ≤ i
  un : ∀ u ∈ s.un, ∃ j, j < prt r.length ∧ u = (base + used + j, jblk r j (rs.length + 1) g)
theorem okD_jwr (p : Nat) {r : List Nat} (hr : ∀ c ∈ r, c < 256) (n gen : Nat) : ∀ (k i : Nat) (s : Dsk), OkD s → OkD (jwr p r n gen k i s).2 := by
  intro k
  induction k with
  | zero => intro i s h; exact h
  | succ k ih =>
    intro i s h
    have h2 := okD_wr h ((p + i : Nat) : Int) (jblk r i n gen) (jblk_ok hr i n gen).2
    show OkD (if wrE s ((p + i : Nat) : Int) (jblk r i n gen) ≠ 0 then _ else _ : Nat × Dsk).2
    split
    · exact h2
    · exact ih _ _ h2
theorem JIn.app {base size g i : Nat} {rs : List (List Nat)} {used : Nat} {s : Dsk} (h : JIn base size g i rs used s) {r : List Nat} (hr : ∀ c ∈ r, c < 256) (hl : r.length ≤ 262144) (hroom : used + prt r.length ≤ size) :
    ((jfl (jwr (base + used) r (rs.length + 1) g (prt r.length) 0 s)).1 = 0 ∧ JIn base size g i (rs ++ [r]) (used + prt r.length) (jfl (jwr (base + used) r (rs.length + 1) g (prt r.length) 0 s)).2) ∨
    ((jfl (jwr (base + used) r (rs.length + 1) g (prt r.length) 0 s)).1 = 150 ∧ JFl base size g i rs used r (jfl (jwr (base + used) r (rs.length + 1) g (prt r.length) 0 s)).2) := by
  have hO := okD_jwr (base + used) hr (rs.length + 1) g (prt r.length) 0 s h.ok
  obtain ⟨hU, h2⟩ := jwr_is s.bl (base + used) (prt r.length) r (rs.length + 1) g (by have := h.rm; omega) (prt r.length) 0 s (by omega) h.dn ⟨rfl, fun u hx => by rw [h.un] at hx; cases hx⟩ (fun j hj => by omega)
  generalize jwr (base + used) r (rs.length + 1) g (prt r.length) 0 s = w at *
  have hbk : bk w.2 = bk s := by unfold bk; rw [hU.bl]
  rcases h2 with h2 | ⟨h2, h3, h4⟩
  · right
    have e : jfl w = w := by unfold jfl; rw [if_pos (by omega)]
    rw [e]
    exact ⟨h2, hO, by rw [hU.bl]; exact h.rm, by rw [hbk]; exact h.row, hroom, by rw [hbk]; exact h.old, hU.un⟩
  · have e : jfl w = (flE w.2, flS w.2) := by unfold jfl; rw [if_neg (by omega)]
    rw [e]
    dsimp only
    rcases fl_step h3 with ⟨f1, f2, f3⟩ | ⟨f1, f2, f3, f4⟩
    · right
      have hbk2 : bk (flS w.2) = bk s := by unfold bk; rw [f2, hU.bl]
      exact ⟨f1, okD_fl hO, by rw [f2, hU.bl]; exact h.rm, by rw [hbk2]; exact h.row, hroom, by rw [hbk2]; exact h.old, by rw [f3]; exact hU.un⟩
    · left
      have hfar : ∀ x, (x < base + used ∨ base + used + prt r.length ≤ x) → bk (flS w.2) x = bk s x := fun x hx => by
        unfold bk
        rw [f2, hU.bl, lay_far _ _ _ (fun u hu => by
          obtain ⟨j, hj, rfl⟩ := hU.un u hu
          dsimp only
          omega)]
      have hnew : ∀ j, j < prt r.length → bk (flS w.2) (base + used + j) = jblk r j (rs.length + 1) g := fun j hj => by
        unfold bk
        rw [f2, hU.bl, lay_last _ _ _ (by have := h.rm; omega)]
        exact h4 j hj
      refine ⟨f1, okD_fl hO, f4, f3, by rw [f2, lay_len, hU.bl]; exact h.rm, ?_, hroom, fun x h1 h2 => ?_⟩
      · refine Row.app (h.row.same (fun x _ hx => hfar _ (Or.inl (by omega)))) (fun j hj => ?_) hl
        rw [Nat.add_comm 1 rs.length]
        exact hnew j hj
      · rw [hfar _ (Or.inr (by omega))]
        exact h.old x (by omega) h2
/-- Digits of a small number. -/
theorem deN_none : ∀ t : List Nat, deN t = 0 → t = List.replicate t.length 0 := by
  intro t
  induction t with
  | nil => intro _; rfl
  | cons c t ih =>
    intro h
    have h2 : c + 256 * deN t = 0 := h
    have h3 := ih (by omega)
    have h4 : c = 0 := by omega
    rw [h4, List.length_cons, List.replicate_succ, ← h3]
theorem deN_small {l : List Nat} (h : deN l < 256) {t : Nat} (ht : 1 ≤ t) : l.drop t = List.replicate (l.length - t) 0 := by
  cases l with
  | nil => simp
  | cons c l =>
    have h2 : c + 256 * deN l < 256 := h
    have h3 := deN_none l (by omega)
    obtain ⟨u, rfl⟩ : ∃ u, t = u + 1 := ⟨t - 1, by omega⟩
    rw [List.drop_succ_cons, h3, List.drop_replicate]
    simp
theorem last_small {X : List Nat} (hX : X.length = 128) (h : gt X 120 8 < 256) {k : Nat} (hk : 121 ≤ k) : X.drop k = List.replicate (128 - k) 0 := by
  unfold gt at h
  rw [List.take_of_length_le (by rw [List.length_drop]; omega)] at h
  have e : X.drop k = (X.drop 120).drop (k - 120) := by rw [List.drop_drop]; congr 1; omega
  rw [e, deN_small h (by omega), List.length_drop, hX]
  congr 1
  omega
/-- A block that is torn is the new one, or older. -/
theorem torn_gen {k g : Nat} {H X : List Nat} (hH : okb H) (hX : okb X) (hg : gt H 120 8 = g) (h256 : g < 256) (h : X = H ∨ gt X 120 8 < g) (hk : k ≤ 128) : torn k H X = H ∨ gt (torn k H X) 120 8 < g := by
  rcases h with rfl | h
  · left; unfold torn; exact List.take_append_drop k X
  · by_cases q : k ≤ 120
    · right
      unfold gt at h ⊢
      rw [torn_high hH.1 q (by omega)]
      exact h
    · left
      unfold torn
      rw [last_small hX.1 (by omega) (k := k) (by omega), ← last_small hH.1 (by omega) (k := k) (by omega)]
      exact List.take_append_drop k H
theorem fall_keeps (P : Nat → List Nat → Prop) : ∀ (un : List (Nat × List Nat)) (fs : List (Int × Int)) (bl : List (List Nat)), (∀ u ∈ un, ∀ k X, k ≤ 128 → P u.1 X → P u.1 (torn k u.2 X)) → (∀ u ∈ un, u.1 < bl.length) → ∀ x, P x (bl.getD x []) → P x ((fall un fs bl).getD x []) := by
  intro un
  induction un with
  | nil => intro fs bl _ _ x h; exact h
  | cons u un ih =>
    intro fs bl h1 h2 x h
    cases fs with
    | nil => rw [fall_nil]; exact h
    | cons f fs =>
      rw [fall_cons]
      refine ih fs _ (fun v hv => h1 v (by simp [hv])) (fun v hv => by rw [List.length_set]; exact h2 v (by simp [hv])) x ?_
      have hu := h2 u (by simp)
      by_cases q : u.1 = x
      · subst q
        have e : (bl.set u.1 (torn (fn f) u.2 (bl.getD u.1 []))).getD u.1 [] = torn (fn f) u.2 (bl.getD u.1 []) := by simp [List.getD, List.getElem?_set, hu]
        rw [e]
        exact h1 u (by simp) (fn f) _ (fn_le f) h
      · have e : (bl.set u.1 (torn (fn f) u.2 (bl.getD u.1 []))).getD x [] = bl.getD x [] := by simp [List.getD, List.getElem?_set, q]
        rw [e]
        exact h
/-- A disk between two lives: no generation above i. -/
structure JRest (base size i : Nat) (s : Dsk) : Prop where
  ok : OkD s
  dn : s.dn = false
  un : s.un = []
  rm : base + size ≤ s.bl.length
  old : ∀ x, x < size → gt (bk s (base + x)) 120 8 ≤ i
theorem JRest.begin {base size i g : Nat} {s : Dsk} (h : JRest base size i s) : JIn base size g i [] 0 s := ⟨h.ok, h.dn, h.un, h.rm, .nil 0 1, Nat.zero_le _, fun x _ hx => h.old x hx⟩
theorem Row.gens {B : Nat → List Nat} {base gen : Nat} {rs : List (List Nat)} {a e n : Nat} (h : Row B base gen rs a e n) (hg : gen < 256 ^ 8) : ∀ x, a ≤ x → x < e → gt (B (base + x)) 120 8 = gen := by
  induction h with
  | nil a n => intro x h1 h2; omega
  | cons g1 g2 g3 ih =>
    rename_i r rs a e n
    intro x h1 h2
    by_cases q : x < a + prt r.length
    · have := g1 (x - a) (by omega)
      rw [show base + a + (x - a) = base + x by omega] at this
      rw [this]
      exact gen_of (jblk_drop _ _ _ _) hg
    · exact ih x (by omega) h2
theorem lt_eight {g : Nat} (h : g < 256) : g < 256 ^ 8 := Nat.lt_of_lt_of_le h (by decide)
/-- What is read of it. -/
theorem JIn.read {base size g i : Nat} {rs : List (List Nat)} {used : Nat} {s : Dsk} (h : JIn base size g i rs used s) (hi : i < g) (hg : g < 256) : jread (rb s) base size g = rs := by
  have hB : ∀ x, x < size → rb s (base + x) = bk s (base + x) := fun x hx => rb_bk h.un h.dn (by have := h.rm; omega)
  have hr : Row (rb s) base g rs 0 used 1 := h.row.same (fun x _ hx => hB x (by have := h.us; omega))
  refine jread_row hr h.us (jrec_other (lt_eight hg) (fun hx => ?_))
  rw [hB used hx]
  have := h.old used (Nat.le_refl _) hx
  omega
/-- What is read of another generation: nothing. -/
theorem JIn.other {base size g i : Nat} {rs : List (List Nat)} {used : Nat} {s : Dsk} (h : JIn base size g i rs used s) (hg : g < 256) {f : Nat} (hf : f < 256) (h1 : f ≠ g) (h2 : i < f) : jread (rb s) base size f = [] := by
  have hB : ∀ x, x < size → rb s (base + x) = bk s (base + x) := fun x hx => rb_bk h.un h.dn (by have := h.rm; omega)
  refine jrds_none (jrec_other (lt_eight hf) (fun hx => ?_)) _
  rw [hB 0 hx]
  by_cases q : 0 < used
  · rw [h.row.gens (lt_eight hg) 0 (Nat.le_refl _) q]; exact fun e => h1 e.symm
  · have := h.old 0 (by omega) hx; omega
theorem JIn.rest {base size g i : Nat} {rs : List (List Nat)} {used : Nat} {s : Dsk} (h : JIn base size g i rs used s) (hi : i ≤ g) (hg : g < 256) : JRest base size g s := ⟨h.ok, h.dn, h.un, h.rm, fun x hx => by
  by_cases q : x < used
  · rw [h.row.gens (lt_eight hg) x (Nat.zero_le _) q]; exact Nat.le_refl _
  · exact Nat.le_trans (h.old x (by omega) hx) hi⟩
theorem JRest.ar {base size i : Nat} {s : Dsk} (h : JRest base size i s) (k : Int) : JRest base size i (arS s k) := ⟨okD_ar h.ok k, h.dn, h.un, h.rm, h.old⟩
theorem JIn.ar {base size g i : Nat} {rs : List (List Nat)} {used : Nat} {s : Dsk} (h : JIn base size g i rs used s) (k : Int) : JIn base size g i rs used (arS s k) := ⟨okD_ar h.ok k, h.dn, h.un, h.rm, h.row, h.us, h.old⟩
theorem JIn.cr {base size g i : Nat} {rs : List (List Nat)} {used : Nat} {s : Dsk} (h : JIn base size g i rs used s) (fs : List (Int × Int)) : JIn base size g i rs used (crS s fs) := by
  have e : (crS s fs).bl = s.bl := by show fall s.un fs s.bl = _; rw [h.un]; rfl
  have hbk : bk (crS s fs) = bk s := by unfold bk; rw [e]
  exact ⟨okD_cr h.ok fs, rfl, rfl, by rw [e]; exact h.rm, by rw [hbk]; exact h.row, h.us, by rw [hbk]; exact h.old⟩
/-- Behind a fall in an Append: the records are there, perhaps with the one under way; no generation is above g. -/
theorem JFl.crash {base size g i : Nat} {rs : List (List Nat)} {used : Nat} {r : List Nat} {s : Dsk} (h : JFl base size g i rs used r s) (hi : i < g) (hg : g < 256) (hr : ∀ c ∈ r, c < 256) (hl : r.length ≤ 262144) (fs : List (Int × Int)) :
    JRest base size g (crS s fs) ∧ (jread (rb (crS s fs)) base size g = rs ∨ jread (rb (crS s fs)) base size g = rs ++ [r]) := by
  have hrm := h.rm
  have hus := h.us
  have hpp := prt_pos r.length
  have hlen : (crS s fs).bl.length = s.bl.length := fall_len _ _ _
  have hO := okD_cr h.ok fs
  have hgen : ∀ j, gt (jblk r j (rs.length + 1) g) 120 8 = g := fun j => gen_of (jblk_drop _ _ _ _) (lt_eight hg)
  have hin : ∀ x, x < prt r.length → (bk (crS s fs) (base + used + x) = jblk r x (rs.length + 1) g ∨ gt (bk (crS s fs) (base + used + x)) 120 8 < g) := by
    intro x hx
    have key := fall_keeps (fun y X => okb X ∧ (y = base + used + x → X = jblk r x (rs.length + 1) g ∨ gt X 120 8 < g)) s.un fs s.bl ?_ (fun u hu => (h.ok.un u hu).1) (base + used + x) ⟨getD_ok h.ok.bl (by omega), fun _ => Or.inr ?_⟩
    · exact key.2 rfl
    · intro u hu k X hk hP
      obtain ⟨j, hj, rfl⟩ := h.un u hu
      refine ⟨torn_ok hk (jblk_ok hr _ _ _) hP.1, fun e => ?_⟩
      have e2 : j = x := by dsimp only at e; omega
      subst e2
      exact torn_gen (jblk_ok hr _ _ _) hP.1 (hgen j) hg (hP.2 e) hk
    · have := h.old (used + x) (by omega) (by omega)
      rw [← Nat.add_assoc] at this
      exact Nat.lt_of_le_of_lt this hi
  have hfar : ∀ x, (x < base + used ∨ base + used + prt r.length ≤ x) → bk (crS s fs) x = bk s x := fun x hx => by
    show (fall s.un fs s.bl).getD x [] = s.bl.getD x []
    exact fall_far _ _ _ _ (fun u hu => by
      obtain ⟨j, hj, rfl⟩ := h.un u hu
      dsimp only
      omega)
  have hold : ∀ x, x < size → gt (bk (crS s fs) (base + x)) 120 8 ≤ g := fun x hx => by
    by_cases q1 : x < used
    · rw [hfar _ (Or.inl (by omega)), h.row.gens (lt_eight hg) x (Nat.zero_le _) q1]; exact Nat.le_refl _
    · by_cases q2 : x < used + prt r.length
      · have := hin (x - used) (by omega)
        rw [show base + used + (x - used) = base + x by omega] at this
        rcases this with e | e
        · rw [e, hgen]; exact Nat.le_refl _
        · omega
      · rw [hfar _ (Or.inr (by omega))]
        have := h.old x (by omega) hx
        omega
  refine ⟨⟨hO, rfl, rfl, by rw [hlen]; exact hrm, hold⟩, ?_⟩
  have hB : ∀ x, x < size → rb (crS s fs) (base + x) = bk (crS s fs) (base + x) := fun x hx => rb_bk rfl rfl (by rw [hlen]; omega)
  have hrow : Row (rb (crS s fs)) base g rs 0 used 1 := h.row.same (fun x _ hx => by rw [hB x (by omega), hfar _ (Or.inl (by omega))])
  by_cases q : ∀ x, x < prt r.length → bk (crS s fs) (base + used + x) = jblk r x (rs.length + 1) g
  · right
    have hrow2 := hrow.app (r := r) (fun x hx => by
      rw [Nat.add_comm 1 rs.length, ← q x hx, show base + used + x = base + (used + x) by omega, hB _ (by omega)]) hl
    refine jread_row hrow2 hus (jrec_other (lt_eight hg) (fun hx => ?_))
    rw [hB _ hx, hfar _ (Or.inr (by omega))]
    have := h.old _ (by omega) hx
    omega
  · left
    refine jread_row hrow (by omega) ?_
    cases e : jrec (rb (crS s fs)) base size used (1 + rs.length) g with
    | none => rfl
    | some r2 =>
      exfalso
      obtain ⟨h1, h2⟩ := jrec_gen (lt_eight hg) e
      refine q (fun x hx => ?_)
      have h0 := h2 0 (by have := prt_pos (gt (rb (crS s fs) (base + used)) 104 4); omega)
      rw [Nat.add_zero, hB used h1] at h0
      have hz := hin 0 (by omega)
      rw [Nat.add_zero] at hz
      have e0 : bk (crS s fs) (base + used) = jblk r 0 (rs.length + 1) g := by
        rcases hz with z | z
        · exact z
        · omega
      have hln : gt (rb (crS s fs) (base + used)) 104 4 = r.length := by
        rw [hB used h1, e0]
        exact len_of (jblk_drop _ _ _ _) (by have : (256 : Nat) ^ 4 = 4294967296 := by decide
                                             omega)
      have hx2 := h2 x (by rw [hln]; exact hx)
      rw [show base + used + x = base + (used + x) by omega, hB _ (by omega)] at hx2
      rcases hin x hx with z | z
      · exact z
      · rw [show base + used + x = base + (used + x) by omega] at z; omega
/-- Without falls. -/
theorem jrest_new {base size n : Nat} (h : base + size ≤ n) : JRest base size 0 (dNew n) := by
  refine ⟨okD_new n, rfl, rfl, by show _ ≤ (List.replicate n _).length; rw [List.length_replicate]; exact h, fun x hx => ?_⟩
  have e : bk (dNew n) (base + x) = List.replicate 128 0 := by
    show (List.replicate n (List.replicate 128 0)).getD (base + x) [] = _
    simp [List.getD, List.getElem?_replicate, show base + x < n by omega]
  rw [e, gt_zero]
  exact Nat.le_refl _
end Go.Proofs.YtkbpcmjdfaokhaaDoor
set_option linter.unusedVariables false
set_option linter.unusedSimpArgs false
namespace Go.Proofs.YtkbpcmjdfaokhaaDoor
open Go.RowKit

/-- A list of texts of one's own, from a block on. -/
def TxO (base : Nat) (w : World) (v : Value) (ls : List (List Nat)) : Prop :=
  ∃ cs : List Value, w.ownsRow base 40 1 v ls.length cs ∧ ∀ k, k < ls.length → ∃ x : Value, cs[k]? = some x ∧ Bs w x (ls.getD k []) ∧ ∀ g, v.ownBlock = some g → Nb x g
theorem txo_nil (base : Nat) (w : World) : TxO base w (.slice none 0 0) [] := ⟨[], World.ownsRow_nil _ _ _ _, fun k hk => by simp at hk⟩
theorem TxO.sl {base : Nat} {w : World} {v : Value} {ls : List (List Nat)} (h : TxO base w v ls) : ∃ ad cap, v = .slice ad ls.length cap := by
  obtain ⟨cs, h5, h6⟩ := h
  exact own_sl h5
theorem TxO.later {base : Nat} {w w' : World} {v : Value} {ls : List (List Nat)} (h : TxO base w v ls) (k : Below w.heap.size w w') : TxO base w' v ls := by
  obtain ⟨cs, h5, h6⟩ := h
  refine ⟨cs, own_later h5 k, fun j hj => ?_⟩
  obtain ⟨x, e1, e2, e3⟩ := h6 j hj
  exact ⟨x, e1, e2.later k, e3⟩
theorem TxO.low {base base' : Nat} {w : World} {v : Value} {ls : List (List Nat)} (h : TxO base w v ls) (hl : base' ≤ base) : TxO base' w v ls := by
  obtain ⟨cs, ⟨h1, h2⟩, h6⟩ := h
  refine ⟨cs, ⟨h1, ?_⟩, h6⟩
  rcases h2 with h0 | ⟨g, cap, cur, hv, hg, hh, r⟩
  · exact Or.inl h0
  · exact Or.inr ⟨g, cap, cur, hv, Nat.le_trans hl hg, hh, r⟩
/-- What keeps its blocks keeps it. -/
theorem TxO.kn {base : Nat} {w w' : World} {v : Value} {ls : List (List Nat)} (h : TxO base w v ls) (k1 : ∀ g, v.ownBlock = some g → w'.heap[g]? = w.heap[g]?) (k2 : ∀ x l, Bs w x l → (∃ k, k < ls.length ∧ l = ls.getD k []) → Bs w' x l) : TxO base w' v ls := by
  obtain ⟨cs, h5, h6⟩ := h
  refine ⟨cs, own_block15 h5 k1, fun j hj => ?_⟩
  obtain ⟨x, e1, e2, e3⟩ := h6 j hj
  exact ⟨x, e1, k2 x _ e2 ⟨j, hj, rfl⟩, e3⟩
theorem TxO.txs {base : Nat} {w : World} {v : Value} {ls : List (List Nat)} (h : TxO base w v ls) : Txs w v ls := by
  obtain ⟨cs, h5, h6⟩ := h
  have hc := h5.1
  rcases h5.2 with ⟨rfl, h0⟩ | ⟨g, cap, cur, rfl, hg, hh, hc1, hc2, hsz, htk⟩
  · exact ⟨none, 0, 0, 0, by rw [h0], by omega, by unfold maxLen; omega, fun h => by omega, fun j hj => by omega⟩
  · refine ⟨_, cap, g, 0, rfl, hc1, hc2, fun _ => rfl, fun j hj => ?_⟩
    obtain ⟨x, e1, e2, -⟩ := h6 j hj
    refine ⟨x, ?_, e2⟩
    rw [Nat.zero_add]
    exact (h5.cellAt j (by omega)).trans e1
theorem own_ge {base : Nat} {w : World} {v : Value} {ls : List (List Nat)} (h : TxO base w v ls) : ∀ g, v.ownBlock = some g → base ≤ g ∧ g < w.heap.size := by
  obtain ⟨cs, h5, h6⟩ := h
  exact fun g hg => World.ownsRow.lt h5 g hg
/-- A text is appended. -/
theorem apTx {ops : Array Oper} {rest : List Oper} {o : Oper} {a : Act} {w : World} {Q : Exit → Act → World → Prop} (hgd : o.guard = none) (s x : Operand)
    (ho : o.op = .call { callee := .builtin .append, args := #[s, x], argTypes := #[53, 53] })
    (base : Nat) (v : Value) (ls : List (List Nat)) (hs : a.eval s = v) (hT : TxO base w v ls) (ad : Option Addr) (n cap : Nat) (t : List Nat) (hp : Bs w (.slice ad n cap) t) (hO : ∀ g, v.ownBlock = some g → Nb (.slice ad n cap) g) (ty : TypeId) (hx : a.eval x = .slice (some ⟨w.heap.size, 0, none⟩) 1 1)
    (hlen : ls.length ≤ 100000) (hbase : base ≤ w.heap.size)
    (h : ∀ v' w', TxO base w' v' (ls ++ [t]) → Gw base w w' → (∀ k, k < w.heap.size → v.ownBlock ≠ some k → w'.heap[k]? = w.heap[k]?) → (∀ g, v'.ownBlock = some g → v.ownBlock = some g ∨ w.heap.size ≤ g) → wpList Tryd.prog ops Q rest (a.put o.dst v') w') : wpList Tryd.prog ops Q (o :: rest) a (w.alloc (.cells #[.slice ad n cap] ty)) := by
  obtain ⟨i0, hti, hy0, hy1, hy2⟩ := info_parts dinfo_bys
  obtain ⟨cs, h5, h6⟩ := hT
  refine wpList_append_own_at _ hgd s x 53 ho base 40 i0 (.slice none 0 0) 1 24 Tryd.underlying53 hti hy0 hy1 hy2 rfl (by decide) v ls.length cs hs (own_later h5 (bel1 _ _)) ⟨w.heap.size, 0, none⟩ 1 1 [.slice ad n cap] hx rfl
    (fun j u hj => by
      rcases j with _ | j
      · simp at hj; subst hj; simp [go_sem, Addr.add]
      · simp at hj)
    (fun u hu => by simp only [List.mem_cons, List.not_mem_nil, or_false] at hu; rcases hu with rfl; rfl) (by unfold maxLen; omega) (by omega) (by rw [World.size_alloc]; omega) ?_
  intro v' w' hown hgrow _ hat
  have hgs := hgrow.size
  rw [World.size_alloc] at hgs
  have hkb : ∀ i, i < w.heap.size → v.ownBlock ≠ some i → w'.heap[i]? = w.heap[i]? := fun i hi hne => by
    rw [hgrow.block i (by rw [World.size_alloc]; omega) (fun e2 => hne e2.symm), Below.heap_alloc _ _ _ hi]
  have hbs : ∀ (y : Value) (l : List Nat), Bs w y l → (∀ g, v.ownBlock = some g → Nb y g) → Bs w' y l := fun y l hy hn => by
    obtain ⟨adr, cap, b, q, rfl, z2, z3, z4, z5⟩ := id hy
    refine ⟨adr, cap, b, q, rfl, z2, z3, z4, fun k hk => ?_⟩
    have e := z4 (by omega)
    subst e
    have hlt := Ls.lo hy ⟨b, q, none⟩ l.length cap rfl (by omega)
    exact (World.cell?_of_block (w := w) (a := ⟨b, q + k, none⟩) (hkb b hlt (fun e2 => hn b e2 ⟨b, q, none⟩ l.length cap rfl (by omega) rfl))).trans (z5 k hk)
  have hat2 : ∀ g, v'.ownBlock = some g → v.ownBlock = some g ∨ w.heap.size ≤ g := fun g hg => by
    rcases hat with q | q
    · exact Or.inl (q.symm.trans hg)
    · rw [q, World.size_alloc] at hg
      have := Option.some.inj hg
      exact Or.inr (by omega)
  have hnew : ∀ (y : Value) (l : List Nat), Bs w y l → (∀ g, v.ownBlock = some g → Nb y g) → ∀ g, v'.ownBlock = some g → Nb y g := fun y l hy hn g hg => by
    rcases hat2 g hg with q | q
    · exact hn g q
    · intro a n c e h0 e2
      have := Ls.lo hy a n c e h0
      omega
  refine h v' w' ⟨cs ++ [.slice ad n cap], by rw [List.length_append]; exact hown, fun j hj => ?_⟩ ⟨fun w0 hb => (hb.alloc hbase _).grown hgrow (by rw [World.size_alloc]; omega) (fun g hg => (World.ownsRow.lt h5 g hg).1), by omega⟩ hkb hat2
  rw [List.length_append] at hj
  have hcl : cs.length = ls.length := by have := h5.1; omega
  by_cases q : j < ls.length
  · obtain ⟨y, e1, e2, e3⟩ := h6 j q
    refine ⟨y, ?_, ?_, hnew y _ e2 e3⟩
    · rw [List.getElem?_append_left (by omega)]; exact e1
    · have : (ls ++ [t]).getD j [] = ls.getD j [] := by simp [List.getD, List.getElem?_append_left q]
      rw [this]
      exact hbs y _ e2 e3
  · have hj2 : j = ls.length := by simp at hj; omega
    subst hj2
    refine ⟨.slice ad n cap, ?_, ?_, hnew _ t hp hO⟩
    · rw [List.getElem?_append_right (by omega), hcl, Nat.sub_self]; rfl
    · have : (ls ++ [t]).getD ls.length [] = t := by simp [List.getD]
      rw [this]
      exact hbs _ t hp hO
end Go.Proofs.YtkbpcmjdfaokhaaDoor
