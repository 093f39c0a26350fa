/-
  Texts of this proof, joined: SnPlay JnMath2 DkAll DkOps DkLawC JnTx.
-/
import Derived.Test.YthnpdcblfocemaaGreatDoorSP03
import Derived.Test.YthnpdcblfocemaaGreatDoorSP08
import Derived.Lib.SlBytesConst
set_option linter.unusedVariables false
set_option linter.unusedSimpArgs false
namespace Go.Proofs.YthnpdcblfocemaaGreatDoor

theorem wrE_down {s : Dsk} {i : Int} {b : List Nat} (h : wrE s i b = 150) : (wrS s i b).dn = true := by
  unfold wrE at h
  unfold wrS
  by_cases q : dAsk s i ≠ 0
  · rw [if_pos q] at h
    rw [if_pos (Or.inl q)]
    unfold dAsk at h
    by_cases d : s.dn = true
    · exact d
    · rw [if_neg d] at h
      split at h <;> omega
  · rw [if_neg q] at h
    by_cases l : 128 < b.length
    · rw [if_pos l] at h; omega
    · rw [if_neg l] at h
      rw [if_neg (by rintro (x | x); exact q x; exact l x)]
      by_cases g : dGo s = true
      · rw [if_pos g] at h; omega
      · unfold dGo at g
        unfold dGone
        cases ha : s.ar with
        | false => rw [ha] at g; simp at g
        | true =>
          rw [ha] at g
          have : s.lf = 0 := by simpa using g
          simp [ha, this]
theorem flE_down {s : Dsk} (h : flE s ≠ 0) : (flS s).dn = true := by
  unfold flE at h
  unfold flS
  by_cases d : s.dn = true
  · rw [if_pos d]; exact d
  · rw [if_neg d] at h ⊢
    by_cases g : dGo s = true
    · rw [if_pos g] at h; exact absurd rfl h
    · rw [if_neg g]
      unfold dGo at g
      unfold dGone
      cases ha : s.ar with
      | false => rw [ha] at g; simp at g
      | true =>
        rw [ha] at g
        have : s.lf = 0 := by simpa using g
        simp [ha, this]
theorem flE_none {s : Dsk} (h : flE s = 0) : (flS s).un = [] ∧ (flS s).dn = false := by
  unfold flE at h
  unfold flS
  by_cases d : s.dn = true
  · rw [if_pos d] at h; omega
  · rw [if_neg d] at h ⊢
    by_cases g : dGo s = true
    · rw [if_pos g]
      refine ⟨rfl, ?_⟩
      show (dGone s).dn = false
      rw [dGo_gone g]
      simpa using d
    · rw [if_neg g] at h; omega
theorem bl_wr (s : Dsk) (i : Int) (b : List Nat) : (wrS s i b).bl.length = s.bl.length ∧ (wrS s i b).un.length ≤ s.un.length + 1 := by
  unfold wrS
  split
  · exact ⟨rfl, by omega⟩
  · rw [(dGone_bl _).1, (dGone_bl _).2]
    exact ⟨rfl, by simp⟩
theorem bl_fl (s : Dsk) : (flS s).bl.length = s.bl.length ∧ (flS s).un.length ≤ s.un.length := by
  unfold flS
  split
  · exact ⟨rfl, Nat.le_refl _⟩
  · split
    · exact ⟨by rw [lay_len], Nat.zero_le _⟩
    · rw [(dGone_bl _).1, (dGone_bl _).2]; exact ⟨rfl, Nat.le_refl _⟩
structure Jq (n : Nat) (s : Dsk) : Prop where
  un : s.dn = false → s.un = []
  le : s.un.length ≤ 60
  bl : s.bl.length = n
theorem jq_fl {n : Nat} {s : Dsk} (hu : s.un.length ≤ 60) (hb : s.bl.length = n) : Jq n (flS s) := by
  have h := bl_fl s
  refine ⟨fun q => ?_, by omega, by omega⟩
  by_cases e : flE s = 0
  · exact (flE_none e).1
  · rw [flE_down e] at q; cases q
theorem jq_cr {n : Nat} {s : Dsk} (h : Jq n s) (fs : List (Int × Int)) : Jq n (crS s fs) := ⟨fun _ => rfl, Nat.zero_le _, by show (fall s.un fs s.bl).length = n; rw [fall_len, h.bl]⟩
theorem jq_ar {n : Nat} {s : Dsk} (h : Jq n s) (k : Int) : Jq n (arS s k) := ⟨h.un, h.le, h.bl⟩
theorem svW_jq (a : Nat) (d : List Nat) : ∀ (k i : Nat) (s : Dsk), s.dn = false → a + 1 + i + k ≤ s.bl.length → ((svW a d k i s).1 = 0 ∧ (svW a d k i s).2.dn = false ∨ (svW a d k i s).1 ≠ 0 ∧ (svW a d k i s).2.dn = true) ∧ (svW a d k i s).2.bl.length = s.bl.length ∧ (svW a d k i s).2.un.length ≤ s.un.length + k := by
  intro k
  induction k with
  | zero => intro i s hd _; exact ⟨Or.inl ⟨rfl, hd⟩, rfl, Nat.le_refl _⟩
  | succ k ih =>
    intro i s hd hl
    have h1 := bl_wr s ((a + 1 + i : Nat) : Int) (ck d i)
    obtain ⟨-, -, w3⟩ := wr_step (s := s) (i := a + 1 + i) (b := ck d i) hd (by omega) (ck_len d i)
    by_cases q : wrE s ((a + 1 + i : Nat) : Int) (ck d i) ≠ 0
    · have e : svW a d (k + 1) i s = (wrE s ((a + 1 + i : Nat) : Int) (ck d i), wrS s ((a + 1 + i : Nat) : Int) (ck d i)) := by
        show (if _ then _ else _) = _
        rw [if_pos q]
      rw [e]
      refine ⟨Or.inr ⟨q, ?_⟩, h1.1, by have := h1.2; dsimp only; omega⟩
      rcases w3 with w3 | w3
      · exact wrE_down w3
      · exact absurd w3.1 q
    · have e : svW a d (k + 1) i s = svW a d k (i + 1) (wrS s ((a + 1 + i : Nat) : Int) (ck d i)) := by
        show (if _ then _ else _) = _
        rw [if_neg q]
      rw [e]
      have hd2 : (wrS s ((a + 1 + i : Nat) : Int) (ck d i)).dn = false := by
        rcases w3 with w3 | w3
        · exact absurd w3 (by omega)
        · exact w3.2
      obtain ⟨g1, g2, g3⟩ := ih (i + 1) _ hd2 (by rw [h1.1]; omega)
      exact ⟨g1, by rw [g2, h1.1], by have := h1.2; omega⟩
theorem jq_sv {n at_ room : Nat} {s : Dsk} {d : List Nat} (h : Jq n s) (hr : at_ + 2 * (room + 1) ≤ n) (hroom : room ≤ 50) : Jq n (svR s at_ room d).2.2 := by
  unfold svR
  by_cases g1 : room * 128 < d.length
  · rw [if_pos g1]; exact h
  rw [if_neg g1]
  by_cases g2 : s.dn = true
  · rw [if_pos g2]; exact h
  rw [if_neg g2]
  have hd : s.dn = false := by simpa using g2
  generalize (ldV (rb s) at_ room).2.1 + 1 = N
  unfold svN
  by_cases g3 : 4611686018427387904 < N
  · rw [if_pos g3]; exact h
  rw [if_neg g3]
  have hA := slA_lt (at_ := at_) (room := room) (which := N % 2) (l := n) (i := room) (by omega) hr (Nat.le_refl _)
  generalize slA at_ room (N % 2) = a at *
  have hc : (d.length + 127) / 128 ≤ room := by omega
  have hu := h.un hd
  obtain ⟨w1, w2, w3⟩ := svW_jq a d ((d.length + 127) / 128) 0 s hd (by rw [h.bl]; omega)
  rw [hu] at w3
  simp only [List.length_nil, Nat.zero_add] at w3
  rw [h.bl] at w2
  generalize svW a d ((d.length + 127) / 128) 0 s = w at *
  unfold svF
  by_cases g4 : w.1 ≠ 0
  · rw [if_pos g4]
    rcases w1 with w1 | w1
    · exact absurd w1.1 g4
    · exact ⟨fun q => (by rw [w1.2] at q; cases q), (by dsimp only; omega), w2⟩
  rw [if_neg g4]
  have f1 := bl_fl w.2
  by_cases g5 : flE w.2 ≠ 0
  · rw [if_pos g5]
    exact ⟨fun q => (by rw [flE_down g5] at q; cases q), (by dsimp only; omega), (by dsimp only; omega)⟩
  rw [if_neg g5]
  obtain ⟨f2, f3⟩ := flE_none (by simpa using g5)
  generalize flS w.2 = s3 at *
  unfold svH
  have b1 := bl_wr s3 (a : Int) (hdB N d)
  rw [f2] at b1
  obtain ⟨-, -, v3⟩ := wr_step (s := s3) (i := a) (b := hdB N d) f3 (by omega) (by rw [hdB_len]; omega)
  by_cases g6 : wrE s3 (a : Int) (hdB N d) ≠ 0
  · rw [if_pos g6]
    refine ⟨fun q => ?_, by have := b1.2; simp at this; dsimp only; omega, by have := b1.1; dsimp only; omega⟩
    rcases v3 with v3 | v3
    · rw [wrE_down v3] at q; cases q
    · exact absurd v3.1 g6
  rw [if_neg g6]
  have f4 := bl_fl (wrS s3 (a : Int) (hdB N d))
  have hJ : Jq n (flS (wrS s3 (a : Int) (hdB N d))) := jq_fl (by have := b1.2; simp at this; omega) (by have := b1.1; omega)
  by_cases g7 : flE (wrS s3 (a : Int) (hdB N d)) ≠ 0
  · rw [if_pos g7]; exact hJ
  · rw [if_neg g7]; exact hJ
theorem jq_new (n : Nat) : Jq n (dNew n) := ⟨fun _ => rfl, Nat.zero_le _, List.length_replicate⟩
end Go.Proofs.YthnpdcblfocemaaGreatDoor
set_option linter.unusedVariables false
set_option linter.unusedSimpArgs false
namespace Go.Proofs.YthnpdcblfocemaaGreatDoor

structure Jst where
  gen : Nat
  n : Nat
  next : Nat
def jwr (p : Nat) (r : List Nat) (n gen : Nat) : Nat → Nat → Dsk → Nat × Dsk
  | 0, _, s => (0, s)
  | k + 1, i, s => if wrE s ((p + i : Nat) : Int) (jblk r i n gen) ≠ 0 then (wrE s ((p + i : Nat) : Int) (jblk r i n gen), wrS s ((p + i : Nat) : Int) (jblk r i n gen)) else jwr p r n gen k (i + 1) (wrS s ((p + i : Nat) : Int) (jblk r i n gen))
def jfl (w : Nat × Dsk) : Nat × Dsk := if w.1 ≠ 0 then w else (flE w.2, flS w.2)
def jput (s : Dsk) (base : Nat) (j : Jst) (r : List Nat) : Nat × Dsk := jfl (jwr (base + j.next) r (j.n + 1) j.gen (prt r.length) 0 s)
def japp (s : Dsk) (base size : Nat) (j : Jst) (r : List Nat) : Nat × Dsk × Jst :=
  if j.gen = 0 then (180, s, j) else if 262144 < r.length then (3, s, j) else if size - j.next < prt r.length then (170, s, j) else
  if (jput s base j r).1 ≠ 0 then ((jput s base j r).1, (jput s base j r).2, { j with gen := 0 }) else (0, (jput s base j r).2, ⟨j.gen, j.n + 1, j.next + prt r.length⟩)
structure Jun (bl : List (List Nat)) (p cnt : Nat) (r : List Nat) (n gen : Nat) (s : Dsk) : Prop where
  bl : s.bl = bl
  un : ∀ u ∈ s.un, ∃ j, j < cnt ∧ u = (p + j, jblk r j n gen)
theorem jwr_is (bl : List (List Nat)) (p cnt : Nat) (r : List Nat) (n gen : Nat) (hl : p + cnt ≤ bl.length) : ∀ (k i : Nat) (s : Dsk), i + k = cnt → s.dn = false → Jun bl p cnt r n gen s → (∀ j, j < i → lastU s.un (p + j) (bl.getD (p + j) []) = jblk r j n gen) →
    Jun bl p cnt r n gen (jwr p r n gen k i s).2 ∧ ((jwr p r n gen k i s).1 = 150 ∨ ((jwr p r n gen k i s).1 = 0 ∧ (jwr p r n gen k i s).2.dn = false ∧ ∀ j, j < cnt → lastU (jwr p r n gen k i s).2.un (p + j) (bl.getD (p + j) []) = jblk r j n gen)) := by
  intro k
  induction k with
  | zero =>
    intro i s hi hd hU hj
    have e : i = cnt := by omega
    subst e
    exact ⟨hU, Or.inr ⟨rfl, hd, hj⟩⟩
  | succ k ih =>
    intro i s hi hd hU hj
    obtain ⟨w1, w2, w3⟩ := wr_step (s := s) (i := p + i) (b := jblk r i n gen) hd (by rw [hU.bl]; omega) (by rw [jblk_len]; omega)
    rw [full_blk] at w2
    have hU2 : Jun bl p cnt r n gen (wrS s ((p + i : Nat) : Int) (jblk r i n gen)) := ⟨by rw [w1]; exact hU.bl, fun u hu => by
      rw [w2] at hu
      rcases List.mem_append.1 hu with q | q
      · exact hU.un u q
      · exact ⟨i, by omega, by simpa using q⟩⟩
    rcases w3 with w3 | ⟨w3, w4⟩
    · have e : jwr p r n gen (k + 1) i s = (150, wrS s ((p + i : Nat) : Int) (jblk r i n gen)) := by
        show (if wrE s ((p + i : Nat) : Int) (jblk r i n gen) ≠ 0 then _ else _) = _
        rw [if_pos (by omega), w3]
      rw [e]
      exact ⟨hU2, Or.inl rfl⟩
    · have e : jwr p r n gen (k + 1) i s = jwr p r n gen k (i + 1) (wrS s ((p + i : Nat) : Int) (jblk r i n gen)) := by
        show (if wrE s ((p + i : Nat) : Int) (jblk r i n gen) ≠ 0 then _ else _) = _
        rw [if_neg (by omega)]
      rw [e]
      refine ih (i + 1) _ (by omega) w4 hU2 (fun j hji => ?_)
      rw [w2, lastU_app]
      by_cases q : j = i
      · subst q; exact if_pos rfl
      · rw [if_neg (by show ¬ p + i = p + j; omega)]
        exact hj j (by omega)
structure JIn (base size g i : Nat) (rs : List (List Nat)) (used : Nat) (s : Dsk) : Prop where
  ok : OkD s
  dn : s.dn = false
  un : s.un = []
  rm : base + size ≤ s.bl.length
  row : Row (bk s) base g rs 0 used 1
  us : used ≤ size
  old : ∀ x, used ≤ x → x < size → gt (bk s (base + x)) 120 8 ≤ i
structure JFl (base size g i : Nat) (rs : List (List Nat)) (used : Nat) (r : List Nat) (s : Dsk) : Prop where
  ok : OkD s
  rm : base + size ≤ s.bl.length
  row : Row (bk s) base g rs 0 used 1
  us : used + prt r.length ≤ size
  old : ∀ x, used ≤ x → x < size → gt (bk s (base + x)) 120 8 ≤ i
  un : ∀ u ∈ s.un, ∃ j, j < prt r.length ∧ u = (base + used + j, jblk r j (rs.length + 1) g)
theorem okD_jwr (p : Nat) {r : List Nat} (hr : ∀ c ∈ r, c < 256) (n gen : Nat) : ∀ (k i : Nat) (s : Dsk), OkD s → OkD (jwr p r n gen k i s).2 := by
  intro k
  induction k with
  | zero => intro i s h; exact h
  | succ k ih =>
    intro i s h
    have h2 := okD_wr h ((p + i : Nat) : Int) (jblk r i n gen) (jblk_ok hr i n gen).2
    show OkD (if wrE s ((p + i : Nat) : Int) (jblk r i n gen) ≠ 0 then _ else _ : Nat × Dsk).2
    split
    · exact h2
    · exact ih _ _ h2
theorem JIn.app {base size g i : Nat} {rs : List (List Nat)} {used : Nat} {s : Dsk} (h : JIn base size g i rs used s) {r : List Nat} (hr : ∀ c ∈ r, c < 256) (hl : r.length ≤ 262144) (hroom : used + prt r.length ≤ size) :
    ((jfl (jwr (base + used) r (rs.length + 1) g (prt r.length) 0 s)).1 = 0 ∧ JIn base size g i (rs ++ [r]) (used + prt r.length) (jfl (jwr (base + used) r (rs.length + 1) g (prt r.length) 0 s)).2) ∨
    ((jfl (jwr (base + used) r (rs.length + 1) g (prt r.length) 0 s)).1 = 150 ∧ JFl base size g i rs used r (jfl (jwr (base + used) r (rs.length + 1) g (prt r.length) 0 s)).2) := by
  have hO := okD_jwr (base + used) hr (rs.length + 1) g (prt r.length) 0 s h.ok
  obtain ⟨hU, h2⟩ := jwr_is s.bl (base + used) (prt r.length) r (rs.length + 1) g (by have := h.rm; omega) (prt r.length) 0 s (by omega) h.dn ⟨rfl, fun u hx => by rw [h.un] at hx; cases hx⟩ (fun j hj => by omega)
  generalize jwr (base + used) r (rs.length + 1) g (prt r.length) 0 s = w at *
  have hbk : bk w.2 = bk s := by unfold bk; rw [hU.bl]
  rcases h2 with h2 | ⟨h2, h3, h4⟩
  · right
    have e : jfl w = w := by unfold jfl; rw [if_pos (by omega)]
    rw [e]
    exact ⟨h2, hO, by rw [hU.bl]; exact h.rm, by rw [hbk]; exact h.row, hroom, by rw [hbk]; exact h.old, hU.un⟩
  · have e : jfl w = (flE w.2, flS w.2) := by unfold jfl; rw [if_neg (by omega)]
    rw [e]
    dsimp only
    rcases fl_step h3 with ⟨f1, f2, f3⟩ | ⟨f1, f2, f3, f4⟩
    · right
      have hbk2 : bk (flS w.2) = bk s := by unfold bk; rw [f2, hU.bl]
      exact ⟨f1, okD_fl hO, by rw [f2, hU.bl]; exact h.rm, by rw [hbk2]; exact h.row, hroom, by rw [hbk2]; exact h.old, by rw [f3]; exact hU.un⟩
    · left
      have hfar : ∀ x, (x < base + used ∨ base + used + prt r.length ≤ x) → bk (flS w.2) x = bk s x := fun x hx => by
        unfold bk
        rw [f2, hU.bl, lay_far _ _ _ (fun u hu => by
          obtain ⟨j, hj, rfl⟩ := hU.un u hu
          dsimp only
          omega)]
      have hnew : ∀ j, j < prt r.length → bk (flS w.2) (base + used + j) = jblk r j (rs.length + 1) g := fun j hj => by
        unfold bk
        rw [f2, hU.bl, lay_last _ _ _ (by have := h.rm; omega)]
        exact h4 j hj
      refine ⟨f1, okD_fl hO, f4, f3, by rw [f2, lay_len, hU.bl]; exact h.rm, ?_, hroom, fun x h1 h2 => ?_⟩
      · refine Row.app (h.row.same (fun x _ hx => hfar _ (Or.inl (by omega)))) (fun j hj => ?_) hl
        rw [Nat.add_comm 1 rs.length]
        exact hnew j hj
      · rw [hfar _ (Or.inr (by omega))]
        exact h.old x (by omega) h2
structure JRest (base size i : Nat) (s : Dsk) : Prop where
  ok : OkD s
  dn : s.dn = false
  un : s.un = []
  rm : base + size ≤ s.bl.length
  old : ∀ x, x < size → gt (bk s (base + x)) 120 8 ≤ i
theorem JRest.begin {base size i g : Nat} {s : Dsk} (h : JRest base size i s) : JIn base size g i [] 0 s := ⟨h.ok, h.dn, h.un, h.rm, .nil 0 1, Nat.zero_le _, fun x _ hx => h.old x hx⟩
theorem Row.gens {B : Nat → List Nat} {base gen : Nat} {rs : List (List Nat)} {a e n : Nat} (h : Row B base gen rs a e n) (hg : gen < 256 ^ 8) : ∀ x, a ≤ x → x < e → gt (B (base + x)) 120 8 = gen := by
  induction h with
  | nil a n => intro x h1 h2; omega
  | cons g1 g2 g3 ih =>
    rename_i r rs a e n
    intro x h1 h2
    by_cases q : x < a + prt r.length
    · have := g1 (x - a) (by omega)
      rw [show base + a + (x - a) = base + x by omega] at this
      rw [this]
      exact gen_of (jblk_drop _ _ _ _) hg
    · exact ih x (by omega) h2
theorem lt_eight {g : Nat} (h : g < 256) : g < 256 ^ 8 := Nat.lt_of_lt_of_le h (by decide)
theorem JIn.read {base size g i : Nat} {rs : List (List Nat)} {used : Nat} {s : Dsk} (h : JIn base size g i rs used s) (hi : i < g) (hg : g < 256) : jread (rb s) base size g = rs := by
  have hB : ∀ x, x < size → rb s (base + x) = bk s (base + x) := fun x hx => rb_bk h.un h.dn (by have := h.rm; omega)
  have hr : Row (rb s) base g rs 0 used 1 := h.row.same (fun x _ hx => hB x (by have := h.us; omega))
  refine jread_row hr h.us (jrec_other (lt_eight hg) (fun hx => ?_))
  rw [hB used hx]
  have := h.old used (Nat.le_refl _) hx
  omega
theorem JIn.rest {base size g i : Nat} {rs : List (List Nat)} {used : Nat} {s : Dsk} (h : JIn base size g i rs used s) (hi : i ≤ g) (hg : g < 256) : JRest base size g s := ⟨h.ok, h.dn, h.un, h.rm, fun x hx => by
  by_cases q : x < used
  · rw [h.row.gens (lt_eight hg) x (Nat.zero_le _) q]; exact Nat.le_refl _
  · exact Nat.le_trans (h.old x (by omega) hx) hi⟩
theorem jrest_new {base size n : Nat} (h : base + size ≤ n) : JRest base size 0 (dNew n) := by
  refine ⟨okD_new n, rfl, rfl, by show _ ≤ (List.replicate n _).length; rw [List.length_replicate]; exact h, fun x hx => ?_⟩
  have e : bk (dNew n) (base + x) = List.replicate 128 0 := by
    show (List.replicate n (List.replicate 128 0)).getD (base + x) [] = _
    simp [List.getD, List.getElem?_replicate, show base + x < n by omega]
  rw [e, gt_zero]
  exact Nat.le_refl _
end Go.Proofs.YthnpdcblfocemaaGreatDoor
set_option linter.unusedVariables false
set_option linter.unusedSimpArgs false
namespace Go.Proofs.YthnpdcblfocemaaGreatDoor
open Go.RowKit
theorem own_block15 {w w' : World} {B : Nat} {e : TypeId} {s : Nat} {v : Value} {n : Nat} {xs : List Value} (h : w.ownsRow B e s v n xs) (k : ∀ g, v.ownBlock = some g → w'.heap[g]? = w.heap[g]?) : w'.ownsRow B e s v n xs := by
  refine ⟨h.1, ?_⟩
  rcases h.2 with h0 | ⟨g, cap, cur, hv, hg, hh, r⟩
  · exact Or.inl h0
  · exact Or.inr ⟨g, cap, cur, hv, hg, (k g (by rw [hv]; rfl)).trans hh, r⟩
theorem dinfo_bys : (Tryz.prog.info? 30).map (fun i => (i.zero, i.size, i.bytes)) = some (some (.slice none 0 0), 1, 24) := by kernel_rfl
end Go.Proofs.YthnpdcblfocemaaGreatDoor
set_option linter.unusedVariables false
set_option linter.unusedSimpArgs false
namespace Go.Proofs.YthnpdcblfocemaaGreatDoor
open Go.RowKit

structure Opv where
  k : Int
  i : Int
  b : List Nat
  fs : List (Int × Int)
def op0 : Opv := ⟨0, 0, [], []⟩
def Ops (w : World) (v : Value) (os : List Opv) : Prop :=
  ∃ (ad : Option Addr) (cap b o : Nat), v = .slice ad os.length cap ∧ os.length ≤ cap ∧ cap ≤ maxLen ∧ (0 < os.length → ad = some ⟨b, o, none⟩) ∧
    ∀ j, j < os.length → ∃ vb vf, w.cell? ⟨b, o + j * 4, none⟩ = some (.int .i64 (os.getD j op0).k) ∧ w.cell? ⟨b, o + j * 4 + 1, none⟩ = some (.int .i64 (os.getD j op0).i) ∧ w.cell? ⟨b, o + j * 4 + 2, none⟩ = some vb ∧ w.cell? ⟨b, o + j * 4 + 3, none⟩ = some vf ∧ Bs w vb (os.getD j op0).b ∧ Fts w vf (os.getD j op0).fs
theorem Ops.len {w : World} {v : Value} {os : List Opv} (h : Ops w v os) : ∃ ad cap, v = .slice ad os.length cap ∧ os.length ≤ cap ∧ cap ≤ maxLen := by
  obtain ⟨ad, cap, b, o, h1, h2, h3, -⟩ := h
  exact ⟨ad, cap, h1, h2, h3⟩
theorem Ops.cel {w : World} {ad : Option Addr} {n cap : Nat} {os : List Opv} (h : Ops w (.slice ad n cap) os) (j : Nat) (hj : j < os.length) :
    ∃ b o vb vf, ad = some ⟨b, o, none⟩ ∧ w.cell? ⟨b, o + j * 4, none⟩ = some (.int .i64 (os.getD j op0).k) ∧ w.cell? ⟨b, o + j * 4 + 1, none⟩ = some (.int .i64 (os.getD j op0).i) ∧ w.cell? ⟨b, o + j * 4 + 2, none⟩ = some vb ∧ w.cell? ⟨b, o + j * 4 + 3, none⟩ = some vf ∧ Bs w vb (os.getD j op0).b ∧ Fts w vf (os.getD j op0).fs := by
  obtain ⟨ad', cap', b, o, e, h2, h3, h4, h5⟩ := h
  injection e with e1 e2 e3
  obtain ⟨vb, vf, q⟩ := h5 j hj
  exact ⟨b, o, vb, vf, by rw [e1]; exact h4 (by omega), q⟩
theorem Ops.later {w w' : World} {v : Value} {os : List Opv} (h : Ops w v os) (k : Below w.heap.size w w') : Ops w' v os := by
  obtain ⟨ad, cap, b, o, h1, h2, h3, h4, h5⟩ := h
  refine ⟨ad, cap, b, o, h1, h2, h3, h4, fun j hj => ?_⟩
  obtain ⟨vb, vf, q0, q1, q2, q3, q4, q5⟩ := h5 j hj
  exact ⟨vb, vf, cell_later k q0, cell_later k q1, cell_later k q2, cell_later k q3, q4.later k, q5.later k⟩
theorem Fts.len {w : World} {v : Value} {fs : List (Int × Int)} (h : Fts w v fs) : ∃ ad cap, v = .slice ad fs.length cap ∧ fs.length ≤ cap ∧ cap ≤ maxLen := by
  obtain ⟨ad, cap, b, o, h1, h2, h3, -⟩ := h
  exact ⟨ad, cap, h1, h2, h3⟩
theorem Fts.lo {w : World} {v : Value} {fs : List (Int × Int)} (h : Fts w v fs) : Lo w.heap.size v := by
  obtain ⟨ad, cap, b, o, rfl, h2, h3, h4, h5⟩ := h
  intro a n c e hn
  injection e with e1 e2 e3
  have := h4 (by omega)
  rw [this] at e1
  cases e1
  exact World.block_lt_of_cell? _ _ (h5 0 (by omega)).1
end Go.Proofs.YthnpdcblfocemaaGreatDoor
set_option linter.unusedVariables false
set_option linter.unusedSimpArgs false
namespace Go.Proofs.YthnpdcblfocemaaGreatDoor
open Go.RowKit

def Txs (w : World) (v : Value) (ls : List (List Nat)) : Prop :=
  ∃ (ad : Option Addr) (cap b o : Nat), v = .slice ad ls.length cap ∧ ls.length ≤ cap ∧ cap ≤ maxLen ∧ (0 < ls.length → ad = some ⟨b, o, none⟩) ∧ ∀ j, j < ls.length → ∃ x, w.cell? ⟨b, o + j, none⟩ = some x ∧ Bs w x (ls.getD j [])
theorem Txs.len {w : World} {v : Value} {ls : List (List Nat)} (h : Txs w v ls) : ∃ ad cap, v = .slice ad ls.length cap ∧ ls.length ≤ cap ∧ cap ≤ maxLen := by
  obtain ⟨ad, cap, b, o, h1, h2, h3, -⟩ := h
  exact ⟨ad, cap, h1, h2, h3⟩
theorem Txs.cel {w : World} {ad : Option Addr} {n cap : Nat} {ls : List (List Nat)} (h : Txs w (.slice ad n cap) ls) (j : Nat) (hj : j < ls.length) : ∃ b o x, ad = some ⟨b, o, none⟩ ∧ w.cell? ⟨b, o + j, none⟩ = some x ∧ Bs w x (ls.getD j []) := by
  obtain ⟨ad', cap', b, o, e, h2, h3, h4, h5⟩ := h
  injection e with e1 e2 e3
  obtain ⟨x, q⟩ := h5 j hj
  exact ⟨b, o, x, by rw [e1]; exact h4 (by omega), q⟩
end Go.Proofs.YthnpdcblfocemaaGreatDoor
set_option linter.unusedVariables false
set_option linter.unusedSimpArgs false
namespace Go.Proofs.YthnpdcblfocemaaGreatDoor
open Go.RowKit

def TxO (base : Nat) (w : World) (v : Value) (ls : List (List Nat)) : Prop :=
  ∃ cs : List Value, w.ownsRow base 30 1 v ls.length cs ∧ ∀ k, k < ls.length → ∃ x : Value, cs[k]? = some x ∧ Bs w x (ls.getD k []) ∧ ∀ g, v.ownBlock = some g → Nb x g
theorem txo_nil (base : Nat) (w : World) : TxO base w (.slice none 0 0) [] := ⟨[], World.ownsRow_nil _ _ _ _, fun k hk => by simp at hk⟩
theorem TxO.sl {base : Nat} {w : World} {v : Value} {ls : List (List Nat)} (h : TxO base w v ls) : ∃ ad cap, v = .slice ad ls.length cap := by
  obtain ⟨cs, h5, h6⟩ := h
  exact own_sl h5
theorem TxO.later {base : Nat} {w w' : World} {v : Value} {ls : List (List Nat)} (h : TxO base w v ls) (k : Below w.heap.size w w') : TxO base w' v ls := by
  obtain ⟨cs, h5, h6⟩ := h
  refine ⟨cs, own_later h5 k, fun j hj => ?_⟩
  obtain ⟨x, e1, e2, e3⟩ := h6 j hj
  exact ⟨x, e1, e2.later k, e3⟩
theorem TxO.txs {base : Nat} {w : World} {v : Value} {ls : List (List Nat)} (h : TxO base w v ls) : Txs w v ls := by
  obtain ⟨cs, h5, h6⟩ := h
  have hc := h5.1
  rcases h5.2 with ⟨rfl, h0⟩ | ⟨g, cap, cur, rfl, hg, hh, hc1, hc2, hsz, htk⟩
  · exact ⟨none, 0, 0, 0, by rw [h0], by omega, by unfold maxLen; omega, fun h => by omega, fun j hj => by omega⟩
  · refine ⟨_, cap, g, 0, rfl, hc1, hc2, fun _ => rfl, fun j hj => ?_⟩
    obtain ⟨x, e1, e2, -⟩ := h6 j hj
    refine ⟨x, ?_, e2⟩
    rw [Nat.zero_add]
    exact (h5.cellAt j (by omega)).trans e1
theorem own_ge {base : Nat} {w : World} {v : Value} {ls : List (List Nat)} (h : TxO base w v ls) : ∀ g, v.ownBlock = some g → base ≤ g ∧ g < w.heap.size := by
  obtain ⟨cs, h5, h6⟩ := h
  exact fun g hg => World.ownsRow.lt h5 g hg
theorem apTx {ops : Array Oper} {rest : List Oper} {o : Oper} {a : Act} {w : World} {Q : Exit → Act → World → Prop} (hgd : o.guard = none) (s x : Operand)
    (ho : o.op = .call { callee := .builtin .append, args := #[s, x], argTypes := #[31, 31] })
    (base : Nat) (v : Value) (ls : List (List Nat)) (hs : a.eval s = v) (hT : TxO base w v ls) (ad : Option Addr) (n cap : Nat) (t : List Nat) (hp : Bs w (.slice ad n cap) t) (hO : ∀ g, v.ownBlock = some g → Nb (.slice ad n cap) g) (ty : TypeId) (hx : a.eval x = .slice (some ⟨w.heap.size, 0, none⟩) 1 1)
    (hlen : ls.length ≤ 100000) (hbase : base ≤ w.heap.size)
    (h : ∀ v' w', TxO base w' v' (ls ++ [t]) → Gw base w w' → (∀ k, k < w.heap.size → v.ownBlock ≠ some k → w'.heap[k]? = w.heap[k]?) → (∀ g, v'.ownBlock = some g → v.ownBlock = some g ∨ w.heap.size ≤ g) → wpList Tryz.prog ops Q rest (a.put o.dst v') w') : wpList Tryz.prog ops Q (o :: rest) a (w.alloc (.cells #[.slice ad n cap] ty)) := by
  obtain ⟨i0, hti, hy0, hy1, hy2⟩ := info_parts dinfo_bys
  obtain ⟨cs, h5, h6⟩ := hT
  refine wpList_append_own_at _ hgd s x 31 ho base 30 i0 (.slice none 0 0) 1 24 Tryz.underlying31 hti hy0 hy1 hy2 rfl (by decide) v ls.length cs hs (own_later h5 (bel1 _ _)) ⟨w.heap.size, 0, none⟩ 1 1 [.slice ad n cap] hx rfl
    (fun j u hj => by
      rcases j with _ | j
      · simp at hj; subst hj; simp [go_sem, Addr.add]
      · simp at hj)
    (fun u hu => by simp only [List.mem_cons, List.not_mem_nil, or_false] at hu; rcases hu with rfl; rfl) (by unfold maxLen; omega) (by omega) (by rw [World.size_alloc]; omega) ?_
  intro v' w' hown hgrow _ hat
  have hgs := hgrow.size
  rw [World.size_alloc] at hgs
  have hkb : ∀ i, i < w.heap.size → v.ownBlock ≠ some i → w'.heap[i]? = w.heap[i]? := fun i hi hne => by
    rw [hgrow.block i (by rw [World.size_alloc]; omega) (fun e2 => hne e2.symm), Below.heap_alloc _ _ _ hi]
  have hbs : ∀ (y : Value) (l : List Nat), Bs w y l → (∀ g, v.ownBlock = some g → Nb y g) → Bs w' y l := fun y l hy hn => by
    obtain ⟨adr, cap, b, q, rfl, z2, z3, z4, z5⟩ := id hy
    refine ⟨adr, cap, b, q, rfl, z2, z3, z4, fun k hk => ?_⟩
    have e := z4 (by omega)
    subst e
    have hlt := Ls.lo hy ⟨b, q, none⟩ l.length cap rfl (by omega)
    exact (World.cell?_of_block (w := w) (a := ⟨b, q + k, none⟩) (hkb b hlt (fun e2 => hn b e2 ⟨b, q, none⟩ l.length cap rfl (by omega) rfl))).trans (z5 k hk)
  have hat2 : ∀ g, v'.ownBlock = some g → v.ownBlock = some g ∨ w.heap.size ≤ g := fun g hg => by
    rcases hat with q | q
    · exact Or.inl (q.symm.trans hg)
    · rw [q, World.size_alloc] at hg
      have := Option.some.inj hg
      exact Or.inr (by omega)
  have hnew : ∀ (y : Value) (l : List Nat), Bs w y l → (∀ g, v.ownBlock = some g → Nb y g) → ∀ g, v'.ownBlock = some g → Nb y g := fun y l hy hn g hg => by
    rcases hat2 g hg with q | q
    · exact hn g q
    · intro a n c e h0 e2
      have := Ls.lo hy a n c e h0
      omega
  refine h v' w' ⟨cs ++ [.slice ad n cap], by rw [List.length_append]; exact hown, fun j hj => ?_⟩ ⟨fun w0 hb => (hb.alloc hbase _).grown hgrow (by rw [World.size_alloc]; omega) (fun g hg => (World.ownsRow.lt h5 g hg).1), by omega⟩ hkb hat2
  rw [List.length_append] at hj
  have hcl : cs.length = ls.length := by have := h5.1; omega
  by_cases q : j < ls.length
  · obtain ⟨y, e1, e2, e3⟩ := h6 j q
    refine ⟨y, ?_, ?_, hnew y _ e2 e3⟩
    · rw [List.getElem?_append_left (by omega)]; exact e1
    · have : (ls ++ [t]).getD j [] = ls.getD j [] := by simp [List.getD, List.getElem?_append_left q]
      rw [this]
      exact hbs y _ e2 e3
  · have hj2 : j = ls.length := by simp at hj; omega
    subst hj2
    refine ⟨.slice ad n cap, ?_, ?_, hnew _ t hp hO⟩
    · rw [List.getElem?_append_right (by omega), hcl, Nat.sub_self]; rfl
    · have : (ls ++ [t]).getD ls.length [] = t := by simp [List.getD]
      rw [this]
      exact hbs _ t hp hO
end Go.Proofs.YthnpdcblfocemaaGreatDoor
