/-
  Texts of this proof, joined: JnOrd StMath StMath2 StCalm SnRefE CDefs SnDefs.
-/
import Derived.Test.YthnpdcblfocemaaDoorSU01
import Derived.Test.YthnpdcblfocemaaDoorSU02
import Derived.Test.YthnpdcblfocemaaDoorSU03
import Derived.Test.YthnpdcblfocemaaDoorSU04
set_option linter.unusedVariables false
set_option linter.unusedSimpArgs false
namespace Go.Proofs.YthnpdcblfocemaaDoor
open Go.RowKit

theorem gone_on {s : Dsk} (h : s.ar = false) : dGo s = true ∧ dGone s = s := by
  constructor
  · unfold dGo; rw [h]; rfl
  · unfold dGone; rw [h]; simp
theorem wr_on {s : Dsk} {i : Nat} {b : List Nat} (hd : s.dn = false) (ha : s.ar = false) (hi : i < s.bl.length) (hb : b.length ≤ 128) : wrE s (i : Int) b = 0 ∧ (wrS s (i : Int) b).ar = false ∧ (wrS s (i : Int) b).dn = false ∧ (wrS s (i : Int) b).bl.length = s.bl.length := by
  have a : dAsk s (i : Int) = 0 := by unfold dAsk; rw [if_neg (by rw [hd]; simp), if_neg (by omega)]
  have e : wrS s (i : Int) b = { s with un := s.un ++ [(i, full b)] } := by
    unfold wrS
    rw [if_neg (by rw [a]; omega), (gone_on (s := { s with un := s.un ++ [(((i : Nat) : Int).toNat, full b)] }) ha).2]
    rfl
  refine ⟨?_, by rw [e]; exact ha, by rw [e]; exact hd, by rw [e]⟩
  unfold wrE
  rw [if_neg (by rw [a]; simp), if_neg (by omega), if_pos (gone_on ha).1]
theorem jwr_on (p : Nat) (r : List Nat) (n gen : Nat) : ∀ (k i : Nat) (s : Dsk), s.dn = false → s.ar = false → p + i + k ≤ s.bl.length → (jwr p r n gen k i s).1 = 0 ∧ (jwr p r n gen k i s).2.ar = false ∧ (jwr p r n gen k i s).2.dn = false := by
  intro k
  induction k with
  | zero => intro i s h1 h2 _; exact ⟨rfl, h2, h1⟩
  | succ k ih =>
    intro i s h1 h2 hl
    obtain ⟨a1, a2, a3, a4⟩ := wr_on (s := s) (i := p + i) (b := jblk r i n gen) h1 h2 (by omega) (by rw [jblk_len]; omega)
    rw [jwr_next, if_neg (by rw [a1]; simp)]
    exact ih (i + 1) _ a3 a2 (by rw [a4]; omega)
theorem fl_on {s : Dsk} (hd : s.dn = false) (ha : s.ar = false) : flE s = 0 ∧ (flS s).ar = false := by
  constructor
  · unfold flE; rw [if_neg (by rw [hd]; simp), if_pos (gone_on ha).1]
  · unfold flS; rw [if_neg (by rw [hd]; simp), if_pos (gone_on ha).1, (gone_on ha).2]; exact ha
theorem japp_on {base size g i : Nat} {rs : List (List Nat)} {used : Nat} {s : Dsk} (h : JIn base size g i rs used s) (ha : s.ar = false) (hg : g ≠ 0) {r : List Nat} (hr : ∀ c ∈ r, c < 256) (hl : r.length ≤ 262144) (hroom : used + prt r.length ≤ size) :
    ∃ s', japp s base size ⟨g, rs.length, used⟩ r = (0, s', ⟨g, (rs ++ [r]).length, used + prt r.length⟩) ∧ JIn base size g i (rs ++ [r]) (used + prt r.length) s' ∧ s'.ar = false := by
  have hrm := h.rm
  obtain ⟨w1, w2, w3⟩ := jwr_on (base + used) r (rs.length + 1) g (prt r.length) 0 s h.dn ha (by omega)
  have f := fl_on w3 w2
  have e : (jput s base ⟨g, rs.length, used⟩ r) = (flE (jwr (base + used) r (rs.length + 1) g (prt r.length) 0 s).2, flS (jwr (base + used) r (rs.length + 1) g (prt r.length) 0 s).2) := by
    show jfl _ = _
    unfold jfl
    rw [if_neg (by rw [w1]; simp)]
  refine ⟨flS (jwr (base + used) r (rs.length + 1) g (prt r.length) 0 s).2, ?_, ?_, f.2⟩
  · unfold japp
    rw [if_neg hg, if_neg (by omega), if_neg (by show ¬ size - used < _; omega), e, if_neg (by rw [f.1]; simp)]
    simp
  · rcases h.app hr hl hroom with q | q
    · have e2 : jfl (jwr (base + used) r (rs.length + 1) g (prt r.length) 0 s) = (flE (jwr (base + used) r (rs.length + 1) g (prt r.length) 0 s).2, flS (jwr (base + used) r (rs.length + 1) g (prt r.length) 0 s).2) := e
      rw [e2] at q
      exact q.2
    · have e2 : jfl (jwr (base + used) r (rs.length + 1) g (prt r.length) 0 s) = (flE (jwr (base + used) r (rs.length + 1) g (prt r.length) 0 s).2, flS (jwr (base + used) r (rs.length + 1) g (prt r.length) 0 s).2) := e
      rw [e2] at q
      have := q.1
      have := f.1
      dsimp only at *
      omega
theorem japp_full {s : Dsk} {base size : Nat} {j : Jst} {r : List Nat} (hg : j.gen ≠ 0) (hl : r.length ≤ 262144) (h : size - j.next < prt r.length) : japp s base size j r = (170, s, j) := by
  unfold japp
  rw [if_neg hg, if_neg (by omega), if_pos h]
def KpO (w0 w : World) (v : Value) (ls : List (List Nat)) : Prop :=
  ∃ cs : List Value, w.ownsRow w0.heap.size 22 1 v ls.length cs ∧ ∀ k, k < ls.length → ∃ x : Value, cs[k]? = some x ∧ Bs w0 x (ls.getD k [])
theorem kpo_nil (w0 w : World) : KpO w0 w (.slice none 0 0) [] := ⟨[], World.ownsRow_nil _ _ _ _, fun k hk => by simp at hk⟩
theorem KpO.txo {w0 w : World} {v : Value} {ls : List (List Nat)} (h : KpO w0 w v ls) (hb : Below w0.heap.size w0 w) : TxO w0.heap.size w v ls := by
  obtain ⟨cs, h1, h2⟩ := h
  refine ⟨cs, h1, fun k hk => ?_⟩
  obtain ⟨x, e1, e2⟩ := h2 k hk
  refine ⟨x, e1, e2.later hb, fun g hg a n c e h0 e3 => ?_⟩
  have q1 := (World.ownsRow.lt h1 g hg).1
  have q2 := Ls.lo e2 a n c e h0
  omega
theorem KpO.kn {w0 w w' : World} {v : Value} {ls : List (List Nat)} {N : Nat → Prop} (h : KpO w0 w v ls) (k : Kn N w w') (hN : ∀ g, v.ownBlock = some g → N g) : KpO w0 w' v ls := by
  obtain ⟨cs, h1, h2⟩ := h
  exact ⟨cs, own_block15 h1 (fun g hg => k g (hN g hg)), h2⟩
theorem KpO.later {w0 w w' : World} {v : Value} {ls : List (List Nat)} (h : KpO w0 w v ls) (k : Below w.heap.size w w') : KpO w0 w' v ls := by
  obtain ⟨cs, h1, h2⟩ := h
  exact ⟨cs, own_block15 h1 (fun g hg => k.block g (World.ownsRow.lt h1 g hg).2), h2⟩
end Go.Proofs.YthnpdcblfocemaaDoor
set_option linter.unusedVariables false
set_option linter.unusedSimpArgs false
namespace Go.Proofs.YthnpdcblfocemaaDoor

structure Wt (R : Nat → Prop) (bl : List (List Nat)) (s : Dsk) : Prop where
  far : ∀ x, ¬ R x → s.bl.getD x [] = bl.getD x []
  un : ∀ u ∈ s.un, R u.1
  len : s.bl.length = bl.length
theorem wt_id (R : Nat → Prop) {s : Dsk} (h : s.un = []) : Wt R s.bl s := ⟨fun _ _ => rfl, fun u hu => by rw [h] at hu; (cases hu), rfl⟩
theorem wt_wr {R : Nat → Prop} {bl : List (List Nat)} {s : Dsk} (h : Wt R bl s) (i : Nat) (hi : R i) (b : List Nat) : Wt R bl (wrS s (i : Int) b) := by
  unfold wrS
  split
  · exact h
  · obtain ⟨e1, e2⟩ := dGone_bl { s with un := s.un ++ [(((i : Nat) : Int).toNat, full b)] }
    refine ⟨fun x hx => by rw [e1]; exact h.far x hx, fun u hu => ?_, by rw [e1]; exact h.len⟩
    rw [e2] at hu
    rcases List.mem_append.1 hu with q | q
    · exact h.un u q
    · have : u = (((i : Nat) : Int).toNat, full b) := by simpa using q
      rw [this, Int.toNat_natCast]
      exact hi
theorem wt_fl {R : Nat → Prop} {bl : List (List Nat)} {s : Dsk} (h : Wt R bl s) : Wt R bl (flS s) := by
  unfold flS
  split
  · exact h
  · split
    · refine ⟨fun x hx => ?_, fun u hu => by (cases hu), by rw [lay_len]; exact h.len⟩
      rw [lay_far _ x _ (fun u hu e => hx (by rw [← e]; exact h.un u hu))]
      exact h.far x hx
    · obtain ⟨e1, e2⟩ := dGone_bl s
      exact ⟨fun x hx => by rw [e1]; exact h.far x hx, fun u hu => by rw [e2] at hu; exact h.un u hu, by rw [e1]; exact h.len⟩
theorem wt_cr {R : Nat → Prop} {bl : List (List Nat)} {s : Dsk} (h : Wt R bl s) (fs : List (Int × Int)) : Wt R bl (crS s fs) := by
  refine ⟨fun x hx => ?_, fun u hu => by (cases hu), by show (fall s.un fs s.bl).length = _; rw [fall_len]; exact h.len⟩
  show (fall s.un fs s.bl).getD x [] = _
  rw [fall_far _ x _ _ (fun u hu e => hx (by rw [← e]; exact h.un u hu))]
  exact h.far x hx
theorem wt_jwr {R : Nat → Prop} {bl : List (List Nat)} (p : Nat) (r : List Nat) (n gen : Nat) : ∀ (k i : Nat) (s : Dsk), (∀ j, j < k → R (p + (i + j))) → Wt R bl s → Wt R bl (jwr p r n gen k i s).2 := by
  intro k
  induction k with
  | zero => intro i s _ h; exact h
  | succ k ih =>
    intro i s hR h
    have h2 := wt_wr h (p + i) (hR 0 (by omega)) (jblk r i n gen)
    rw [jwr_next]
    split
    · exact h2
    · exact ih (i + 1) _ (fun j hj => by have := hR (j + 1) (by omega); rwa [show i + (j + 1) = i + 1 + j by omega] at this) h2
theorem wt_japp {R : Nat → Prop} {bl : List (List Nat)} {s : Dsk} (h : Wt R bl s) (base size : Nat) (j : Jst) (r : List Nat) (hR : ∀ x, base ≤ x → R x) : Wt R bl (japp s base size j r).2.1 := by
  have key : Wt R bl (jput s base j r).2 := by
    unfold jput jfl
    have h2 := wt_jwr (bl := bl) (base + j.next) r (j.n + 1) j.gen (prt r.length) 0 s (fun j2 _ => hR _ (by omega)) h
    split
    · exact h2
    · exact wt_fl h2
  unfold japp
  repeat' split
  all_goals first | exact h | exact key
theorem wt_svW {R : Nat → Prop} {bl : List (List Nat)} (a : Nat) (d : List Nat) : ∀ (k i : Nat) (s : Dsk), (∀ j, j < k → R (a + 1 + (i + j))) → Wt R bl s → Wt R bl (svW a d k i s).2 := by
  intro k
  induction k with
  | zero => intro i s _ h; exact h
  | succ k ih =>
    intro i s hR h
    have h2 := wt_wr h (a + 1 + i) (hR 0 (by omega)) (ck d i)
    have e : svW a d (k + 1) i s = if wrE s ((a + 1 + i : Nat) : Int) (ck d i) ≠ 0 then (wrE s ((a + 1 + i : Nat) : Int) (ck d i), wrS s ((a + 1 + i : Nat) : Int) (ck d i)) else svW a d k (i + 1) (wrS s ((a + 1 + i : Nat) : Int) (ck d i)) := rfl
    rw [e]
    split
    · exact h2
    · exact ih (i + 1) _ (fun j hj => by have := hR (j + 1) (by omega); rwa [show i + (j + 1) = i + 1 + j by omega] at this) h2
theorem wt_svR {R : Nat → Prop} {bl : List (List Nat)} {s : Dsk} (h : Wt R bl s) (at_ room : Nat) (d : List Nat) (hR : ∀ x, x < at_ + 2 * (room + 1) → R x) : Wt R bl (svR s at_ room d).2.2 := by
  unfold svR
  split
  · exact h
  rename_i hd
  split
  · exact h
  generalize (ldV (rb s) at_ room).2.1 + 1 = N
  unfold svN
  split
  · exact h
  have hA : ∀ i, i ≤ room → R (slA at_ room (N % 2) + i) := fun i hi => hR _ (slA_lt (by omega) (Nat.le_refl _) hi)
  generalize slA at_ room (N % 2) = a at *
  have h1 := wt_svW (bl := bl) a d ((d.length + 127) / 128) 0 s (fun j hj => by have := hA (1 + (0 + j)) (by omega); rwa [← Nat.add_assoc a] at this) h
  generalize svW a d ((d.length + 127) / 128) 0 s = w at *
  unfold svF
  split
  · exact h1
  split
  · exact wt_fl h1
  have h2 := wt_wr (wt_fl h1) a (hA 0 (by omega)) (hdB N d)
  unfold svH
  split
  · exact h2
  split
  · exact wt_fl h2
  · exact wt_fl h2
theorem svR_down {s : Dsk} {at_ room : Nat} {d : List Nat} (hr : at_ + 2 * (room + 1) ≤ s.bl.length) (h : (svR s at_ room d).2.1 = 150) : (svR s at_ room d).2.2.dn = true := by
  unfold svR at h ⊢
  by_cases g1 : room * 128 < d.length
  · rw [if_pos g1] at h; exact absurd (show (161 : Nat) = 150 from h) (by omega)
  rw [if_neg g1] at h ⊢
  by_cases g2 : s.dn = true
  · rw [if_pos g2]; exact g2
  rw [if_neg g2] at h ⊢
  have hd : s.dn = false := by simpa using g2
  generalize (ldV (rb s) at_ room).2.1 + 1 = N at *
  unfold svN at h ⊢
  by_cases g3 : 4611686018427387904 < N
  · rw [if_pos g3] at h; exact absurd (show (3 : Nat) = 150 from h) (by omega)
  rw [if_neg g3] at h ⊢
  have hA := slA_lt (at_ := at_) (room := room) (which := N % 2) (l := s.bl.length) (i := room) (by omega) hr (Nat.le_refl _)
  generalize slA at_ room (N % 2) = a at *
  obtain ⟨w1, w2, w3⟩ := svW_jq a d ((d.length + 127) / 128) 0 s hd (by omega)
  generalize svW a d ((d.length + 127) / 128) 0 s = w at *
  unfold svF at h ⊢
  by_cases g4 : w.1 ≠ 0
  · rw [if_pos g4]
    rcases w1 with w1 | w1
    · exact absurd w1.1 g4
    · exact w1.2
  rw [if_neg g4] at h ⊢
  by_cases g5 : flE w.2 ≠ 0
  · rw [if_pos g5]; exact flE_down g5
  rw [if_neg g5] at h ⊢
  unfold svH at h ⊢
  by_cases g6 : wrE (flS w.2) (a : Int) (hdB N d) ≠ 0
  · rw [if_pos g6] at h ⊢; exact wrE_down h
  rw [if_neg g6] at h ⊢
  by_cases g7 : flE (wrS (flS w.2) (a : Int) (hdB N d)) ≠ 0
  · rw [if_pos g7]; exact flE_down g7
  · rw [if_neg g7] at h; exact absurd (show (0 : Nat) = 150 from h) (by omega)
theorem japp_down {s : Dsk} {base size : Nat} {j : Jst} {r : List Nat} (hd : s.dn = false) (hr : base + size ≤ s.bl.length) (hn : j.next ≤ size) (h : (japp s base size j r).1 = 150) : (japp s base size j r).2.1.dn = true := by
  unfold japp at h ⊢
  by_cases g1 : j.gen = 0
  · rw [if_pos g1] at h; exact absurd (show (180 : Nat) = 150 from h) (by omega)
  rw [if_neg g1] at h ⊢
  by_cases g2 : 262144 < r.length
  · rw [if_pos g2] at h; exact absurd (show (3 : Nat) = 150 from h) (by omega)
  rw [if_neg g2] at h ⊢
  by_cases g3 : size - j.next < prt r.length
  · rw [if_pos g3] at h; exact absurd (show (170 : Nat) = 150 from h) (by omega)
  rw [if_neg g3] at h ⊢
  by_cases g4 : (jput s base j r).1 ≠ 0
  · rw [if_pos g4] at h ⊢
    unfold jput at g4 h ⊢
    obtain ⟨w1, w2, w3⟩ := jwr_jq (base + j.next) r (j.n + 1) j.gen (prt r.length) 0 s hd (by omega)
    generalize jwr (base + j.next) r (j.n + 1) j.gen (prt r.length) 0 s = w at *
    unfold jfl at g4 h ⊢
    by_cases g5 : w.1 ≠ 0
    · rw [if_pos g5]
      rcases w1 with w1 | w1
      · exact absurd w1.1 g5
      · exact w1.2
    · rw [if_neg g5] at g4 ⊢
      exact flE_down g4
  · rw [if_neg g4] at h; exact absurd (show (0 : Nat) = 150 from h) (by omega)
theorem flat_congr18 {f g : Nat → List Nat} : ∀ k, (∀ i, i < k → f i = g i) → (List.range k).flatMap f = (List.range k).flatMap g := by
  intro k h
  exact flat_congr _ (fun i hi => h i (List.mem_range.1 hi))
theorem jrec_same18 {B B' : Nat → List Nat} {base size at_ n gen : Nat} (h : ∀ x, x < size → B' (base + x) = B (base + x)) : jrec B' base size at_ n gen = jrec B base size at_ n gen := by
  unfold jrec
  by_cases g1 : size ≤ at_
  · rw [if_pos g1, if_pos g1]
  rw [if_neg g1, if_neg g1, h at_ (by omega)]
  generalize hg : gt (B (base + at_)) 104 4 = m
  by_cases g2 : 262144 < m ∨ size - at_ < prt m
  · rw [if_pos g2, if_pos g2]
  rw [if_neg g2, if_neg g2]
  have hp : ∀ i, i < prt m → B' (base + at_ + i) = B (base + at_ + i) := fun i hi => by
    have := h (at_ + i) (by omega)
    rwa [← Nat.add_assoc] at this
  have ej : jall B' (base + at_) m = jall B (base + at_) m := by
    unfold jall
    rw [flat_congr18 _ (fun i hi => by rw [hp i hi])]
  by_cases g3 : ∀ i, i < prt m → (B (base + at_ + i)).drop 104 = jtl m (prt m) i n gen
  · rw [if_pos g3, if_pos (fun i hi => by rw [hp i hi]; exact g3 i hi), ej]
  · rw [if_neg g3, if_neg (fun q => g3 (fun i hi => by rw [← hp i hi]; exact q i hi))]
theorem jread_same {B B' : Nat → List Nat} {base size gen : Nat} (h : ∀ x, x < size → B' (base + x) = B (base + x)) : jread B' base size gen = jread B base size gen := by
  unfold jread
  have key : ∀ f a n, jrds B' base size gen f a n = jrds B base size gen f a n := by
    intro f
    induction f with
    | zero => intro a n; rfl
    | succ f ih =>
      intro a n
      have e := jrec_same18 (at_ := a) (n := n) (gen := gen) h
      cases q : jrec B base size a n gen with
      | none => rw [jrds_none q, jrds_none (e.trans q)]
      | some r => rw [jrds_some q, jrds_some (e.trans q), ih]
  exact key _ _ _
end Go.Proofs.YthnpdcblfocemaaDoor
set_option linter.unusedVariables false
set_option linter.unusedSimpArgs false
namespace Go.Proofs.YthnpdcblfocemaaDoor

structure Sst where
  j : Jst
  bg : Bool
def fb18 (room : Nat) : Nat := 2 * room + 2
def fz18 (s : Dsk) (room : Nat) : Nat := s.bl.length - fb18 room
def opB (s : Dsk) (room : Nat) : List Nat := (ldW s 0 room).1
def opL (s : Dsk) (room : Nat) : List (List Nat) := if (ldW s 0 room).2.2 ≠ 0 then [] else rdL17 s (fb18 room) (fz18 s room) (((ldW s 0 room).2.1 : Nat) : Int)
def svS (s : Dsk) (room : Nat) (j : Sst) (d : List Nat) : Nat × Dsk × Sst :=
  if (svR s 0 room d).2.1 ≠ 0 then ((svR s 0 room d).2.1, (svR s 0 room d).2.2, ⟨j.j, false⟩) else (0, (svR s 0 room d).2.2, ⟨⟨(svR s 0 room d).1, 0, 0⟩, true⟩)
def apS (s : Dsk) (room : Nat) (j : Sst) (r : List Nat) : Nat × Dsk × Sst :=
  if j.bg = false then (180, s, j) else ((japp s (fb18 room) (fz18 s room) j.j r).1, (japp s (fb18 room) (fz18 s room) j.j r).2.1, ⟨(japp s (fb18 room) (fz18 s room) j.j r).2.2, if (japp s (fb18 room) (fz18 s room) j.j r).1 = 150 then false else true⟩)
theorem svR_len (s : Dsk) (room : Nat) (d : List Nat) : (svR s 0 room d).2.2.bl.length = s.bl.length := (wt_svR (R := fun _ => True) (bl := s.bl) ⟨fun x h => absurd trivial h, fun _ _ => trivial, rfl⟩ 0 room d (fun _ _ => trivial)).len
structure SRest (m room N : Nat) (last : List Nat) (rs : List (List Nat)) (s : Dsk) : Prop where
  bl : s.bl.length = m
  sn : SnRest 0 room N last s
  jr : JRest (fb18 room) (m - fb18 room) N s
  z : N = 0 → last = [] ∧ rs = []
  rd : 1 ≤ N → jread (rb s) (fb18 room) (m - fb18 room) N = rs
structure SIn (m room N : Nat) (last : List Nat) (rs : List (List Nat)) (used : Nat) (s : Dsk) : Prop where
  bl : s.bl.length = m
  sn : SnRest 0 room N last s
  ji : JIn (fb18 room) (m - fb18 room) N (N - 1) rs used s
  n1 : 1 ≤ N
theorem SIn.rest {m room N : Nat} {last : List Nat} {rs : List (List Nat)} {used : Nat} {s : Dsk} (h : SIn m room N last rs used s) (hN : N < 256) : SRest m room N last rs s := by
  have h1 := h.n1
  exact ⟨h.bl, h.sn, h.ji.rest (by omega) hN, fun q => by omega, fun _ => h.ji.read (by omega) hN⟩
theorem srest_new {m room : Nat} (h : fb18 room + 1 ≤ m) (hr : room ≤ 16384) : SRest m room 0 [] [] (dNew m) :=
  ⟨List.length_replicate, rest_new (by unfold fb18 at h; omega) hr, jrest_new (by omega), fun _ => ⟨rfl, rfl⟩, fun q => by omega⟩
theorem SRest.opB {m room N : Nat} {last : List Nat} {rs : List (List Nat)} {s : Dsk} (h : SRest m room N last rs s) : Go.Proofs.YthnpdcblfocemaaDoor.opB s room = last ∧ Go.Proofs.YthnpdcblfocemaaDoor.opL s room = rs := by
  have e := h.sn.load
  have e2 : ldW s 0 room = if N = 0 then ([], 0, 160) else (last, N, 0) := by
    unfold ldW
    rw [if_neg (by rw [h.sn.dn]; simp)]
    exact e
  unfold Go.Proofs.YthnpdcblfocemaaDoor.opB Go.Proofs.YthnpdcblfocemaaDoor.opL fz18
  rw [e2]
  by_cases q : N = 0
  · rw [if_pos q]
    obtain ⟨z1, z2⟩ := h.z q
    rw [if_pos (by show (160 : Nat) ≠ 0; omega)]
    exact ⟨z1.symm, z2.symm⟩
  · rw [if_neg q, if_neg (by simp)]
    refine ⟨rfl, ?_⟩
    unfold rdL17
    show (if ((N : Nat) : Int) < 1 then _ else _) = _
    rw [if_neg (by omega), if_neg (by rw [h.sn.dn]; simp), Int.toNat_natCast, h.bl]
    exact h.rd (by omega)
theorem SRest.arm {m room N : Nat} {last : List Nat} {rs : List (List Nat)} {s : Dsk} (h : SRest m room N last rs s) (k : Int) : SRest m room N last rs (arS s k) := by
  refine ⟨h.bl, h.sn.arm k, h.jr.ar k, h.z, fun q => ?_⟩
  rw [← h.rd q]
  refine jread_same (fun x hx => ?_)
  have e1 := rb_bk (s := arS s k) (i := fb18 room + x) h.jr.un h.jr.dn (by show _ < s.bl.length; have := h.jr.rm; have := h.bl; omega)
  have e2 := rb_bk (s := s) (i := fb18 room + x) h.jr.un h.jr.dn (by have := h.jr.rm; have := h.bl; omega)
  rw [e1, e2]
  rfl
theorem SIn.arm {m room N : Nat} {last : List Nat} {rs : List (List Nat)} {used : Nat} {s : Dsk} (h : SIn m room N last rs used s) (k : Int) : SIn m room N last rs used (arS s k) := ⟨h.bl, h.sn.arm k, h.ji.ar k, h.n1⟩
theorem SnRest.same {room N : Nat} {last : List Nat} {s s' : Dsk} (h : SnRest 0 room N last s) (ho : OkD s') (hd : s'.dn = false) (hu : s'.un = []) (hl : s'.bl.length = s.bl.length) (hb : ∀ x, x < fb18 room → bk s' x = bk s x) : SnRest 0 room N last s' := by
  unfold fb18 at hb
  refine ⟨ho, hd, hu, by rw [hl]; exact h.rm, h.rmax, h.jv.same (fun i hi => hb _ ?_) ?_⟩
  · have := slA_lt (at_ := 0) (room := room) (which := N % 2) (l := 2 * room + 2) (i := i) (by omega) (by omega) hi
    exact this
  · rw [hb]
    have := slA_lt (at_ := 0) (room := room) (which := (N + 1) % 2) (l := 2 * room + 2) (i := 0) (by omega) (by omega) (by omega)
    exact this
theorem JRest.same {base size i : Nat} {s s' : Dsk} (h : JRest base size i s) (ho : OkD s') (hd : s'.dn = false) (hu : s'.un = []) (hl : s'.bl.length = s.bl.length) (hb : ∀ x, base ≤ x → bk s' x = bk s x) : JRest base size i s' :=
  ⟨ho, hd, hu, by rw [hl]; exact h.rm, fun x hx => by rw [hb _ (by omega)]; exact h.old x hx⟩
theorem JRest.up {base size i k : Nat} {s : Dsk} (h : JRest base size i s) (hk : i ≤ k) : JRest base size k s := ⟨h.ok, h.dn, h.un, h.rm, fun x hx => Nat.le_trans (h.old x hx) hk⟩
theorem JRest.none {base size i g : Nat} {s : Dsk} (h : JRest base size i s) (hg : i < g) (hg2 : g < 256) : jread (rb s) base size g = [] := h.begin.read hg hg2
theorem jread_rest {base size g i : Nat} {s s' : Dsk} (h : JRest base size i s) (h' : JRest base size i s') (hb : ∀ x, base ≤ x → bk s' x = bk s x) : jread (rb s') base size g = jread (rb s) base size g := by
  refine jread_same (fun x hx => ?_)
  rw [rb_bk h'.un h'.dn (by have := h'.rm; omega), rb_bk h.un h.dn (by have := h.rm; omega)]
  exact hb _ (by omega)
theorem SRest.crash {m room N : Nat} {last : List Nat} {rs : List (List Nat)} {s : Dsk} (h : SRest m room N last rs s) (fs : List (Int × Int)) : SRest m room N last rs (crS s fs) := by
  have e : (crS s fs).bl = s.bl := by show fall s.un fs s.bl = _; rw [h.sn.un]; rfl
  have hbk : ∀ x, bk (crS s fs) x = bk s x := fun x => by unfold bk; rw [e]
  have hJ := h.jr.same (okD_cr h.sn.ok fs) rfl rfl (by rw [e]) (fun x _ => hbk x)
  exact ⟨by rw [e]; exact h.bl, h.sn.same (okD_cr h.sn.ok fs) rfl rfl (by rw [e]) (fun x _ => hbk x), hJ, h.z, fun q => by rw [jread_rest h.jr hJ (fun x _ => hbk x)]; exact h.rd q⟩
theorem SnRest.saved {room N : Nat} {last d : List Nat} {s : Dsk} (h : SnRest 0 room N last s) (hd : d.length ≤ room * 128) (hb : ∀ c ∈ d, c < 256) (hN : N + 1 ≤ 4611686018427387904) (h0 : (svR s 0 room d).2.1 = 0) :
    (svR s 0 room d).1 = N + 1 ∧ SnRest 0 room (N + 1) d (svR s 0 room d).2.2 := by
  rcases h.life hd hb hN [] with ⟨l1, l2, l3⟩ | ⟨l1, _⟩
  · refine ⟨l2, ?_⟩
    have hE := h.save hd hN
    have hO := okD_svR 0 room (d := d) h.ok hb
    cases hE with
    | text e1 e2 e3 e4 => omega
    | head hL e1 e2 e3 => omega
    | well bl1 hL e1 e2 e3 e4 e5 =>
      have e : (crS (svR s 0 room d).2.2 []).bl = (svR s 0 room d).2.2.bl := by show fall _ [] _ = _; rw [fall_nil]
      have hrm := l3.rm
      have hjv := l3.jv
      have eb : bk (crS (svR s 0 room d).2.2 []) = bk (svR s 0 room d).2.2 := by funext i; unfold bk; rw [e]
      rw [e] at hrm
      rw [eb] at hjv
      exact ⟨hO, e5, e4, hrm, h.rmax, hjv⟩
  · omega
theorem SRest.save {m room N : Nat} {last d : List Nat} {rs : List (List Nat)} {s : Dsk} (h : SRest m room N last rs s) (j : Sst) (hd : d.length ≤ room * 128) (hb : ∀ c ∈ d, c < 256) (hN : N + 1 < 256) :
    (∃ s', svS s room j d = (0, s', ⟨⟨N + 1, 0, 0⟩, true⟩) ∧ SIn m room (N + 1) d [] 0 s') ∨
    (∃ s', svS s room j d = (150, s', ⟨j.j, false⟩) ∧ s'.dn = true ∧ s'.bl.length = m ∧ ∀ fs, SRest m room N last rs (crS s' fs) ∨ SRest m room (N + 1) d [] (crS s' fs)) := by
  have hw := wt_svR (wt_id (fun x => x < fb18 room) h.sn.un) 0 room d (fun x hx => by unfold fb18; omega)
  have hO := okD_svR 0 room (d := d) h.sn.ok hb
  have hlen : (svR s 0 room d).2.2.bl.length = m := by rw [svR_len, h.bl]
  have hcr : ∀ fs, (∀ x, fb18 room ≤ x → bk (crS (svR s 0 room d).2.2 fs) x = bk s x) := fun fs x hx => (wt_cr hw fs).far x (by omega)
  have hJ : ∀ fs, JRest (fb18 room) (m - fb18 room) N (crS (svR s 0 room d).2.2 fs) := fun fs => h.jr.same (okD_cr hO fs) rfl rfl (wt_cr hw fs).len (hcr fs)
  have hlc : ∀ fs, (crS (svR s 0 room d).2.2 fs).bl.length = m := fun fs => by rw [(wt_cr hw fs).len, h.bl]
  by_cases h0 : (svR s 0 room d).2.1 = 0
  · left
    obtain ⟨e1, e2⟩ := h.sn.saved hd hb (by omega) h0
    refine ⟨(svR s 0 room d).2.2, ?_, hlen, e2, ?_, by omega⟩
    · unfold svS
      rw [if_neg (by omega), e1]
    · have hJ2 : JRest (fb18 room) (m - fb18 room) N (svR s 0 room d).2.2 := h.jr.same hO e2.dn e2.un hw.len (fun x hx => hw.far x (by omega))
      exact hJ2.begin
  · right
    have h150 : (svR s 0 room d).2.1 = 150 := by
      rcases h.sn.life hd hb (by omega) [] with ⟨q, _⟩ | ⟨q, _⟩
      · exact absurd q h0
      · exact q
    refine ⟨(svR s 0 room d).2.2, ?_, svR_down h.sn.rm h150, hlen, fun fs => ?_⟩
    · unfold svS
      rw [if_pos h0, h150]
    · rcases h.sn.life hd hb (by omega) fs with ⟨q, _⟩ | ⟨_, _, q⟩
      · omega
      · rcases q with q | q
        · exact Or.inl ⟨hlc fs, q, hJ fs, h.z, fun z => by rw [jread_rest h.jr (hJ fs) (hcr fs)]; exact h.rd z⟩
        · exact Or.inr ⟨hlc fs, q, (hJ fs).up (by omega), fun z => by omega, fun _ => (hJ fs).none (by omega) hN⟩
theorem svS_long {s : Dsk} {room : Nat} {j : Sst} {d : List Nat} (h : room * 128 < d.length) : svS s room j d = (161, s, ⟨j.j, false⟩) := by
  unfold svS svR
  rw [if_pos h, if_pos (by show (161 : Nat) ≠ 0; omega)]
theorem svS_down {s : Dsk} {room : Nat} {j : Sst} {d : List Nat} (h : ¬ room * 128 < d.length) (hd : s.dn = true) : svS s room j d = (150, s, ⟨j.j, false⟩) := by
  unfold svS svR
  rw [if_neg h, if_pos hd, if_pos (by show (150 : Nat) ≠ 0; omega)]
theorem japp_go18 {base size g i : Nat} {rs : List (List Nat)} {used : Nat} {s : Dsk} (h : JIn base size g i rs used s) (hg : g ≠ 0) {r : List Nat} (hr : ∀ c ∈ r, c < 256) (hl : r.length ≤ 262144) :
    japp s base size ⟨g, rs.length, used⟩ r = (170, s, ⟨g, rs.length, used⟩) ∨
    (∃ s', japp s base size ⟨g, rs.length, used⟩ r = (0, s', ⟨g, (rs ++ [r]).length, used + prt r.length⟩) ∧ JIn base size g i (rs ++ [r]) (used + prt r.length) s') ∨
    (∃ s', japp s base size ⟨g, rs.length, used⟩ r = (150, s', ⟨0, rs.length, used⟩) ∧ JFl base size g i rs used r s') := by
  by_cases hroom : size - used < prt r.length
  · exact Or.inl (japp_full hg hl hroom)
  · have e : (jput s base ⟨g, rs.length, used⟩ r) = jfl (jwr (base + used) r (rs.length + 1) g (prt r.length) 0 s) := rfl
    have hu := h.us
    right
    rcases h.app hr hl (by omega) with ⟨q1, q2⟩ | ⟨q1, q2⟩
    · refine Or.inl ⟨_, ?_, q2⟩
      unfold japp
      rw [if_neg hg, if_neg (by omega), if_neg hroom, e, if_neg (by rw [q1]; simp)]
      simp
    · refine Or.inr ⟨_, ?_, q2⟩
      unfold japp
      rw [if_neg hg, if_neg (by omega), if_neg hroom, e, if_pos (by rw [q1]; simp), q1]
theorem SIn.app {m room N : Nat} {last : List Nat} {rs : List (List Nat)} {used : Nat} {s : Dsk} (h : SIn m room N last rs used s) (hN : N < 256) {r : List Nat} (hr : ∀ c ∈ r, c < 256) (hl : r.length ≤ 262144) :
    apS s room ⟨⟨N, rs.length, used⟩, true⟩ r = (170, s, ⟨⟨N, rs.length, used⟩, true⟩) ∨
    (∃ s', apS s room ⟨⟨N, rs.length, used⟩, true⟩ r = (0, s', ⟨⟨N, (rs ++ [r]).length, used + prt r.length⟩, true⟩) ∧ SIn m room N last (rs ++ [r]) (used + prt r.length) s') ∨
    (∃ s', apS s room ⟨⟨N, rs.length, used⟩, true⟩ r = (150, s', ⟨⟨0, rs.length, used⟩, false⟩) ∧ s'.dn = true ∧ s'.bl.length = m ∧ ∀ fs, SRest m room N last rs (crS s' fs) ∨ SRest m room N last (rs ++ [r]) (crS s' fs)) := by
  have hn1 := h.n1
  have hw := wt_japp (wt_id (fun x => fb18 room ≤ x) h.sn.un) (fb18 room) (m - fb18 room) ⟨N, rs.length, used⟩ r (fun x hx => hx)
  have hdn := japp_down (r := r) (j := ⟨N, rs.length, used⟩) h.ji.dn h.ji.rm h.ji.us
  unfold apS fz18
  rw [if_neg (by simp), h.bl]
  dsimp only
  rcases japp_go18 h.ji (by omega) hr hl with e | ⟨s', e, e2⟩ | ⟨s', e, e2⟩
  · left
    rw [e]
    rfl
  · right; left
    rw [e] at hw ⊢
    dsimp only at hw
    exact ⟨s', rfl, by rw [hw.len, h.bl], h.sn.same e2.ok e2.dn e2.un hw.len (fun x hx => hw.far x (by omega)), e2, hn1⟩
  · right; right
    rw [e] at hw hdn ⊢
    dsimp only at hw hdn
    refine ⟨s', rfl, hdn rfl, by rw [hw.len, h.bl], fun fs => ?_⟩
    have hc := wt_cr hw fs
    obtain ⟨c1, c2⟩ := e2.crash (by omega) hN hr hl fs
    have hS : SnRest 0 room N last (crS s' fs) := h.sn.same c1.ok rfl rfl hc.len (fun x hx => hc.far x (by omega))
    have hl2 : (crS s' fs).bl.length = m := by rw [hc.len, h.bl]
    rcases c2 with q | q
    · exact Or.inl ⟨hl2, hS, c1, fun z => by omega, fun _ => q⟩
    · exact Or.inr ⟨hl2, hS, c1, fun z => by omega, fun _ => q⟩
theorem apS_off {s : Dsk} {room : Nat} {j : Sst} {r : List Nat} (h : j.bg = false) : apS s room j r = (180, s, j) := by
  unfold apS
  rw [if_pos h]
end Go.Proofs.YthnpdcblfocemaaDoor
set_option linter.unusedVariables false
set_option linter.unusedSimpArgs false
namespace Go.Proofs.YthnpdcblfocemaaDoor

theorem SRest.calm {m room N : Nat} {last d : List Nat} {rs : List (List Nat)} {s : Dsk} (h : SRest m room N last rs s) (hc : Calm s) (j : Sst) (hd : d.length ≤ room * 128) (hb : ∀ c ∈ d, c < 256) (hN : N + 1 < 256) :
    ∃ s', svS s room j d = (0, s', ⟨⟨N + 1, 0, 0⟩, true⟩) ∧ SIn m room (N + 1) d [] 0 s' ∧ Calm s' := by
  obtain ⟨c1, c2⟩ := calm_svR 0 room d hc
  rcases h.save j hd hb hN with ⟨s', e, e2⟩ | ⟨s', e, _⟩
  · refine ⟨s', e, e2, ?_⟩
    have h2 : (svS s room j d).2.1 = (svR s 0 room d).2.2 := by unfold svS; split <;> rfl
    rw [e] at h2
    have h3 : s' = (svR s 0 room d).2.2 := h2
    rw [h3]
    exact c1
  · exfalso
    apply c2
    have h2 : (svS s room j d).1 = 150 := by rw [e]
    unfold svS at h2
    split at h2
    · exact h2
    · exact absurd (show (0 : Nat) = 150 from h2) (by omega)
theorem SIn.full {m room N : Nat} {last r : List Nat} {rs : List (List Nat)} {used : Nat} {s : Dsk} (h : SIn m room N last rs used s) (hl : r.length ≤ 262144) (hf : m - fb18 room - used < prt r.length) : apS s room ⟨⟨N, rs.length, used⟩, true⟩ r = (170, s, ⟨⟨N, rs.length, used⟩, true⟩) := by
  have hn := h.n1
  unfold apS fz18
  rw [if_neg (by simp), h.bl]
  have e := japp_full (s := s) (base := fb18 room) (size := m - fb18 room) (j := ⟨N, rs.length, used⟩) (r := r) (by show N ≠ 0; omega) hl hf
  rw [e]
  rfl
theorem SIn.calm {m room N : Nat} {last r : List Nat} {rs : List (List Nat)} {used : Nat} {s : Dsk} (h : SIn m room N last rs used s) (hc : Calm s) (hr : ∀ c ∈ r, c < 256) (hl : r.length ≤ 262144) (hroom : used + prt r.length ≤ m - fb18 room) :
    ∃ s', apS s room ⟨⟨N, rs.length, used⟩, true⟩ r = (0, s', ⟨⟨N, (rs ++ [r]).length, used + prt r.length⟩, true⟩) ∧ SIn m room N last (rs ++ [r]) (used + prt r.length) s' ∧ Calm s' := by
  have hn := h.n1
  have hw := wt_japp (wt_id (fun x => fb18 room ≤ x) h.sn.un) (fb18 room) (m - fb18 room) ⟨N, rs.length, used⟩ r (fun x hx => hx)
  obtain ⟨s', e, e2, e3⟩ := japp_on h.ji hc.ar (by omega) hr hl hroom
  rw [e] at hw
  dsimp only at hw
  refine ⟨s', ?_, ⟨by rw [hw.len, h.bl], h.sn.same e2.ok e2.dn e2.un hw.len (fun x hx => hw.far x (by omega)), e2, hn⟩, e3, e2.dn⟩
  unfold apS fz18
  rw [if_neg (by simp), h.bl, e]
  rfl
theorem calm_new18 (n : Nat) : Calm (dNew n) := ⟨rfl, rfl⟩
end Go.Proofs.YthnpdcblfocemaaDoor
set_option linter.unusedVariables false
set_option linter.unusedSimpArgs false
namespace Go.Proofs.YthnpdcblfocemaaDoor
open Go.RowKit

theorem slt_max (B : Nat → List Nat) (at_ room which : Nat) : (slt B at_ room which).2 ≤ 4611686018427387904 := by
  unfold slt
  split
  · rename_i h
    split
    · exact h.2.2.1
    · exact Nat.zero_le _
  · exact Nat.zero_le _
theorem ldV_max (B : Nat → List Nat) (at_ room : Nat) : (ldV B at_ room).2.1 ≤ 4611686018427387904 ∧ (ldV B at_ room).2.2 ≠ 150 := by
  have h0 := slt_max B at_ room 0
  have h1 := slt_max B at_ room 1
  unfold ldV
  split
  · exact ⟨Nat.zero_le _, by simp⟩
  · split
    · exact ⟨h0, by simp⟩
    · exact ⟨h1, by simp⟩
theorem wrS_unS (s : Dsk) (i : Int) (b : List Nat) : (wrS s i b).un.length ≤ s.un.length + 1 ∧ (wrS s i b).bl.length = s.bl.length := by
  unfold wrS
  split
  · exact ⟨by omega, rfl⟩
  · rw [(dGone_bl _).1, (dGone_bl _).2]
    exact ⟨by simp, rfl⟩
theorem flS_unS (s : Dsk) : (flS s).un.length ≤ s.un.length := by
  unfold flS
  split
  · exact Nat.le_refl _
  · split
    · exact Nat.zero_le _
    · rw [(dGone_bl _).2]; exact Nat.le_refl _
end Go.Proofs.YthnpdcblfocemaaDoor
set_option linter.unusedVariables false
set_option linter.unusedSimpArgs false
namespace Go.Proofs.YthnpdcblfocemaaDoor
open Go.RowKit

def Lb (w : World) (v : Value) (K : Nat) (ns : Nat → Nat) (fs : Nat → Nat → Nat) : Prop := ∃ (adr : Option Addr) (cap b o : Nat), v = .slice adr K cap ∧ K ≤ cap ∧ cap ≤ maxLen ∧ (0 < K → adr = some ⟨b, o, none⟩) ∧ ∀ j, j < K → ∃ (ad : Option Addr) (ca : Nat), w.cell? ⟨b, o + j, none⟩ = some (.slice ad (ns j) ca) ∧ Ls w (.slice ad (ns j) ca) (ns j) (by8 (fs j))
theorem Lb.later {w w' : World} {v : Value} {K : Nat} {ns : Nat → Nat} {fs : Nat → Nat → Nat} (h : Lb w v K ns fs) (hb : Below w.heap.size w w') : Lb w' v K ns fs := by
  obtain ⟨adr, cap, b, o, h1, h2, h3, h4, h5⟩ := h
  refine ⟨adr, cap, b, o, h1, h2, h3, h4, fun j hj => ?_⟩
  obtain ⟨ad, ca, q1, q2⟩ := h5 j hj
  exact ⟨ad, ca, cell_later hb q1, q2.later hb⟩
theorem Lb.len {w : World} {v : Value} {K : Nat} {ns : Nat → Nat} {fs : Nat → Nat → Nat} (h : Lb w v K ns fs) : ∃ (ad : Option Addr) (cap : Nat), v = .slice ad K cap ∧ K ≤ cap ∧ cap ≤ maxLen := by
  obtain ⟨adr, cap, b, o, h1, h2, h3, -⟩ := h
  exact ⟨adr, cap, h1, h2, h3⟩
theorem Lb.spot {w : World} {v : Value} {K : Nat} {ns : Nat → Nat} {fs : Nat → Nat → Nat} (h : Lb w v K ns fs) (j : Nat) (hj : j < K) : ∃ (b o cap : Nat) (ad : Option Addr) (ca : Nat), v = .slice (some ⟨b, o, none⟩) K cap ∧ w.cell? ⟨b, o + j, none⟩ = some (.slice ad (ns j) ca) ∧ Ls w (.slice ad (ns j) ca) (ns j) (by8 (fs j)) := by
  obtain ⟨adr, cap, b, o, h1, h2, h3, h4, h5⟩ := h
  have e := h4 (by omega)
  subst e
  obtain ⟨ad, ca, q1, q2⟩ := h5 j hj
  exact ⟨b, o, cap, ad, ca, h1, q1, q2⟩
theorem lb_one (w : World) (ad : Option Addr) (n ca : Nat) (f : Nat → Nat) (t : TypeId) (l : Ls w (.slice ad n ca) n (by8 f)) : Lb (w.alloc (.cells #[.slice ad n ca] t)) (.slice (some ⟨w.heap.size, 0, none⟩) 1 1) 1 (fun _ => n) (fun _ => f) :=
  ⟨_, 1, w.heap.size, 0, rfl, Nat.le_refl _, by unfold maxLen; omega, fun _ => rfl, fun j hj => by
    obtain rfl : j = 0 := by omega
    exact ⟨ad, ca, by simp [go_sem], l.later (bel1 _ _)⟩⟩
def two {α : Type} (a b : α) : Nat → α := fun j => if j = 0 then a else b
def TbAt (w : World) : Prop := ∀ i, i < 16 → w.cell? ⟨1, i, none⟩ = some (.int .u32 ((cZs 4 i : Nat) : Int))
theorem TbAt.later {w w' : World} (h : TbAt w) (hb : Below w.heap.size w w') : TbAt w' := fun m hm => cell_later hb (h m hm)
end Go.Proofs.YthnpdcblfocemaaDoor
set_option linter.unusedVariables false
set_option linter.unusedSimpArgs false
namespace Go.Proofs.YthnpdcblfocemaaDoor
open Go.RowKit

def ST (w : World) : Prop := TbAt w
theorem ST.later {w w' : World} (h : ST w) (k : Below w.heap.size w w') : ST w' := TbAt.later h k
structure Snap1 (V : Disk1) where
  St : World → Value → Value → Nat → Nat → (Nat → Prop) → Prop
  stK : ∀ {w w' : World} {q p : Value} {at_ room : Nat} {G : Nat → Prop}, St w q p at_ room G → (∀ k, G k → w'.heap[k]? = w.heap[k]?) → St w' q p at_ room G
  stB : ∀ {w : World} {q p : Value} {at_ room : Nat} {G : Nat → Prop}, St w q p at_ room G → ∀ k, G k → k < w.heap.size
  newY : ∀ (w : World) (p : Value) (F : Nat → Prop) (s : Dsk) (at_ room : Nat), V.Dt w p F s → 1 ≤ room → room ≤ 16384 → at_ + 2 * (room + 1) ≤ s.bl.length →
    Calls Tryd.prog 32 #[p, .int .i64 (at_ : Int), .int .i64 (room : Int)] w fun e w' => ∃ a G, e = .returned (.tuple #[.pointer (some a), .int .i64 0]) ∧ St w' (.pointer (some a)) p at_ room G ∧ (∀ k, G k → w.heap.size ≤ k) ∧ Below w.heap.size w w'
  newN : ∀ (w : World) (p : Value) (F : Nat → Prop) (s : Dsk) (at_ room : Int), V.Dt w p F s → Bd64 at_ → Bd64 room → ¬ (1 ≤ room ∧ room ≤ 16384 ∧ 0 ≤ at_ ∧ at_ + 2 * (room + 1) ≤ (s.bl.length : Int)) →
    Calls Tryd.prog 32 #[p, .int .i64 at_, .int .i64 room] w fun e w' => e = .returned (.tuple #[.pointer none, .int .i64 2]) ∧ Below w.heap.size w w'
  load : ∀ (w : World) (q p : Value) (F G : Nat → Prop) (s : Dsk) (at_ room : Nat), St w q p at_ room G → V.Dt w p F s → ST w → 1 ≤ room → at_ + 2 * (room + 1) ≤ s.bl.length → s.bl.length ≤ 1000 → s.un.length ≤ 400 →
    Calls Tryd.prog 35 #[q] w fun e w' => ∃ v, e = .returned (.tuple #[v, .int .i64 (((ldW s at_ room).2.1 : Nat) : Int), .int .i64 (((ldW s at_ room).2.2 : Nat) : Int)]) ∧ Bs w' v (ldW s at_ room).1 ∧ Ow w.heap.size v ∧ Below w.heap.size w w'
  save : ∀ (w : World) (q p : Value) (F G : Nat → Prop) (s : Dsk) (at_ room : Nat) (v : Value) (d : List Nat), St w q p at_ room G → V.Dt w p F s → (∀ k, F k → ¬ G k) → ST w → (∀ k, F k → k ≠ 1) → 1 ≤ room → at_ + 2 * (room + 1) ≤ s.bl.length → s.bl.length ≤ 1000 → s.un.length ≤ 400 → Bs w v d → Nf F v → (∀ c ∈ d, c < 256) → d.length ≤ 100000 →
    Calls Tryd.prog 23 #[q, v] w fun e w' => e = .returned (.tuple #[.int .i64 (((svR s at_ room d).1 : Nat) : Int), .int .i64 (((svR s at_ room d).2.1 : Nat) : Int)]) ∧ Ad V.Dt p F (svR s at_ room d).2.2 w w'
theorem Snap1.stL {V : Disk1} (Q : Snap1 V) {w w' : World} {q p : Value} {at_ room : Nat} {G : Nat → Prop} (h : Q.St w q p at_ room G) (k : Below w.heap.size w w') : Q.St w' q p at_ room G := Q.stK h (fun i hi => k.block i (Q.stB h i hi))
theorem old_lt {w0 : World} (h : ST w0) : 1 < w0.heap.size := World.block_lt_of_cell? _ _ (h 0 (by omega))
theorem Kn.cell {N : Nat → Prop} {w w' : World} (h : Kn N w w') {a : Addr} {v : Value} (hn : N a.block) (hc : w.cell? a = some v) : w'.cell? a = some v := (World.cell?_of_block (w := w) (h _ hn)).trans hc
def Sw (V : Disk1) (Q : Snap1 V) (w0 w : World) (d q : Value) (s : Dsk) (at_ room : Nat) : Prop := ∃ F G : Nat → Prop, V.Dt w d F s ∧ Q.St w q d at_ room G ∧ (∀ k, F k → w0.heap.size ≤ k) ∧ (∀ k, G k → w0.heap.size ≤ k) ∧ (∀ k, F k → ¬ G k) ∧ Below w0.heap.size w0 w
theorem Sw.bel {V : Disk1} {Q : Snap1 V} {w0 w : World} {d q : Value} {s : Dsk} {at_ room : Nat} (h : Sw V Q w0 w d q s at_ room) : Below w0.heap.size w0 w := by
  obtain ⟨F, G, h1, h2, h3, h4, h5, h6⟩ := h
  exact h6
theorem Sw.later {V : Disk1} {Q : Snap1 V} {w0 w w' : World} {d q : Value} {s : Dsk} {at_ room : Nat} (h : Sw V Q w0 w d q s at_ room) (k : Below w.heap.size w w') : Sw V Q w0 w' d q s at_ room := by
  obtain ⟨F, G, h1, h2, h3, h4, h5, h6⟩ := h
  exact ⟨F, G, V.dtK h1 (fun i hi => k.block i (V.dtB h1 i hi)) k.size, Q.stL h2 k, h3, h4, h5, bchain h6 k⟩
theorem Sw.next {V : Disk1} {Q : Snap1 V} {w0 w w' : World} {d q : Value} {s' : Dsk} {at_ room : Nat} {F G : Nat → Prop} (h2 : Q.St w q d at_ room G) (h3 : ∀ k, F k → w0.heap.size ≤ k) (h4 : ∀ k, G k → w0.heap.size ≤ k) (h5 : ∀ k, F k → ¬ G k) (h6 : Below w0.heap.size w0 w) (h : Ad V.Dt d F s' w w') : Sw V Q w0 w' d q s' at_ room := by
  obtain ⟨F', q1, q2, q3⟩ := h
  have hB := h6.size
  refine ⟨F', G, q1, Q.stK h2 (fun i hi => q3.block i (Q.stB h2 i hi) (fun hf => h5 i hf hi)), fun k hk => ?_, h4, fun k hk hg => ?_, q3.next h6 h3 hB⟩
  · rcases q2 k hk with x | x
    · exact h3 k x
    · omega
  · rcases q2 k hk with x | x
    · exact h5 k x hg
    · have := Q.stB h2 k hg; omega
end Go.Proofs.YthnpdcblfocemaaDoor
