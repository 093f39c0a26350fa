/-
Layer 16's plain snap: a new disk, and Saves on a disk that isn't armed.
Layer 16's plain disk through a play: what is under way while it isn't down.
Layer 15: the steps of a play in memory; few.
-/
import Derived.Test.YtpmmfmlldkdfhaaDoorZ08
import Derived.Test.YtpmmfmlldkdfhaaDoorZ09

set_option linter.unusedVariables false
set_option linter.unusedSimpArgs false
namespace Go.Proofs.YtpmmfmlldkdfhaaDoor

theorem deN_zero : ∀ k, deN (List.replicate k 0) = 0 := by
  intro k
  induction k with
  | zero => rfl
  | succ k ih =>
    rw [List.replicate_succ]
    show 0 + 256 * deN (List.replicate k 0) = 0
    rw [ih]
theorem gt_zero (n p k : Nat) : gt (List.replicate n 0) p k = 0 := by
  unfold gt
  rw [List.drop_replicate, List.take_replicate]
  exact deN_zero _
/-- A new disk: nothing is kept. -/
theorem rest_new {at_ room n : Nat} (h : at_ + 2 * (room + 1) ≤ n) (hr : room ≤ 16384) : SnRest at_ room 0 [] (dNew n) := by
  have hb : ∀ i, i < n → bk (dNew n) i = List.replicate 128 0 := fun i hi => by
    show (List.replicate n (List.replicate 128 0)).getD i [] = _
    simp [List.getD, List.getElem?_replicate, hi]
  have h0 := slA_lt (at_ := at_) (room := room) (which := 0) (i := 0) (by omega) h (by omega)
  have h1 := slA_lt (at_ := at_) (room := room) (which := 1) (i := 0) (by omega) h (by omega)
  rw [Nat.add_zero] at h0 h1
  refine ⟨okD_new n, rfl, rfl, by show _ ≤ (List.replicate n _).length; rw [List.length_replicate]; exact h, hr, ⟨fun q => by omega, fun _ => ?_, ⟨0, 0, Or.inr ⟨rfl, by omega⟩, ?_⟩, ?_⟩⟩
  · rw [hb _ h0, gt_zero]
  · show gt (bk (dNew n) (slA at_ room 1)) 120 8 = _
    rw [hb _ h1, gt_zero, mix_zero]
  · show gt (bk (dNew n) (slA at_ room 1)) 120 8 ≠ _
    rw [hb _ h1, gt_zero]
    omega
/-! Not armed: nothing fails. -/
structure Calm (s : Dsk) : Prop where
  ar : s.ar = false
  dn : s.dn = false
theorem calm_gone {s : Dsk} (h : Calm s) : Calm (dGone s) := by
  unfold dGone
  rw [if_neg (by rw [h.ar]; simp)]
  exact h
theorem calm_wr {s : Dsk} (h : Calm s) (i : Int) (b : List Nat) : Calm (wrS s i b) := by
  unfold wrS
  split
  · exact h
  · exact calm_gone ⟨h.ar, h.dn⟩
theorem calm_go {s : Dsk} (h : Calm s) : dGo s = true := by
  unfold dGo
  rw [h.ar]
  rfl
theorem calm_wrE {s : Dsk} (h : Calm s) (i : Int) (b : List Nat) : wrE s i b ≠ 150 := by
  unfold wrE dAsk
  rw [calm_go h, if_neg (show ¬ s.dn = true by rw [h.dn]; simp)]
  have e : (if true = true then (0 : Nat) else 150) = 0 := rfl
  rw [e]
  repeat' split
  all_goals omega
theorem calm_fl {s : Dsk} (h : Calm s) : Calm (flS s) := by
  have hg := calm_gone h
  unfold flS
  rw [if_neg (by rw [h.dn]; simp), if_pos (calm_go h)]
  exact ⟨hg.ar, hg.dn⟩
theorem calm_flE {s : Dsk} (h : Calm s) : flE s = 0 := by
  unfold flE
  rw [if_neg (by rw [h.dn]; simp), if_pos (calm_go h)]
theorem calm_svW (a : Nat) (d : List Nat) : ∀ (k i : Nat) (s : Dsk), Calm s → Calm (svW a d k i s).2 ∧ (svW a d k i s).1 ≠ 150 := by
  intro k
  induction k with
  | zero => intro i s h; exact ⟨h, by show (0 : Nat) ≠ 150; omega⟩
  | succ k ih =>
    intro i s h
    have h2 := calm_wr h ((a + 1 + i : Nat) : Int) (ck d i)
    have h3 := calm_wrE h ((a + 1 + i : Nat) : Int) (ck d i)
    have e : svW a d (k + 1) i s = if wrE s ((a + 1 + i : Nat) : Int) (ck d i) ≠ 0 then (wrE s ((a + 1 + i : Nat) : Int) (ck d i), wrS s ((a + 1 + i : Nat) : Int) (ck d i)) else svW a d k (i + 1) (wrS s ((a + 1 + i : Nat) : Int) (ck d i)) := rfl
    rw [e]
    split
    · exact ⟨h2, h3⟩
    · exact ih _ _ h2
theorem calm_svR {s : Dsk} (at_ room : Nat) (d : List Nat) (h : Calm s) : Calm (svR s at_ room d).2.2 ∧ (svR s at_ room d).2.1 ≠ 150 := by
  unfold svR
  split
  · exact ⟨h, by show (161 : Nat) ≠ 150; omega⟩
  · rw [if_neg (by rw [h.dn]; simp)]
    unfold svN
    split
    · exact ⟨h, by show (3 : Nat) ≠ 150; omega⟩
    · generalize hw : svW _ d _ 0 s = w
      have h1 : Calm w.2 ∧ w.1 ≠ 150 := by rw [← hw]; exact calm_svW _ _ _ _ _ h
      unfold svF
      split
      · exact h1
      · rw [if_neg (by rw [calm_flE h1.1]; omega)]
        have h2 := calm_fl h1.1
        unfold svH
        split
        · exact ⟨calm_wr h2 _ _, calm_wrE h2 _ _⟩
        · rw [if_neg (by rw [calm_flE (calm_wr h2 _ _)]; omega)]
          exact ⟨calm_fl (calm_wr h2 _ _), by show (0 : Nat) ≠ 150; omega⟩
/-- A fall on a disk that has nothing under way and isn't armed changes nothing. -/
theorem crS_calm {s : Dsk} (h : Calm s) (hu : s.un = []) : (crS s []).bl = s.bl := by
  show fall s.un [] s.bl = _
  rw [fall_nil]
/-- A Save without a fall. -/
theorem SnRest.calm {at_ room N : Nat} {last d : List Nat} {s : Dsk} (h : SnRest at_ room N last s) (hc : Calm s) (hd : d.length ≤ room * 128) (hb : ∀ c ∈ d, c < 256) (hN : N + 1 ≤ 4611686018427387904) :
    (svR s at_ room d).2.1 = 0 ∧ (svR s at_ room d).1 = N + 1 ∧ SnRest at_ room (N + 1) d (svR s at_ room d).2.2 ∧ Calm (svR s at_ room d).2.2 := by
  obtain ⟨c1, c2⟩ := calm_svR at_ room d hc
  rcases h.life hd hb hN [] with ⟨l1, l2, l3⟩ | ⟨l1, _⟩
  · refine ⟨l1, l2, ?_, c1⟩
    have hE := h.save hd hN
    have hO := okD_svR at_ room (d := d) h.ok hb
    cases hE with
    | text e1 e2 e3 e4 => omega
    | head hL e1 e2 e3 => omega
    | well bl1 hL e1 e2 e3 e4 e5 =>
      have e := crS_calm c1 e4
      have hrm := l3.rm
      have hjv := l3.jv
      have eb : bk (crS (svR s at_ room d).2.2 []) = bk (svR s at_ room d).2.2 := by
        funext i
        unfold bk
        rw [e]
      rw [e] at hrm
      rw [eb] at hjv
      exact ⟨hO, e5, e4, hrm, h.rmax, hjv⟩
  · exact absurd l1 c2
end Go.Proofs.YtpmmfmlldkdfhaaDoor
set_option linter.unusedVariables false
set_option linter.unusedSimpArgs false
namespace Go.Proofs.YtpmmfmlldkdfhaaDoor

theorem wrE_down {s : Dsk} {i : Int} {b : List Nat} (h : wrE s i b = 150) : (wrS s i b).dn = true := by
  unfold wrE at h
  unfold wrS
  by_cases q : dAsk s i ≠ 0
  · rw [if_pos q] at h
    rw [if_pos (Or.inl q)]
    unfold dAsk at h
    by_cases d : s.dn = true
    · exact d
    · rw [if_neg d] at h
      split at h <;> omega
  · rw [if_neg q] at h
    by_cases l : 128 < b.length
    · rw [if_pos l] at h; omega
    · rw [if_neg l] at h
      rw [if_neg (by rintro (x | x); exact q x; exact l x)]
      by_cases g : dGo s = true
      · rw [if_pos g] at h; omega
      · unfold dGo at g
        unfold dGone
        cases ha : s.ar with
        | false => rw [ha] at g; simp at g
        | true =>
          rw [ha] at g
          have : s.lf = 0 := by simpa using g
          simp [ha, this]
theorem flE_down {s : Dsk} (h : flE s ≠ 0) : (flS s).dn = true := by
  unfold flE at h
  unfold flS
  by_cases d : s.dn = true
  · rw [if_pos d]; exact d
  · rw [if_neg d] at h ⊢
    by_cases g : dGo s = true
    · rw [if_pos g] at h; exact absurd rfl h
    · rw [if_neg g]
      unfold dGo at g
      unfold dGone
      cases ha : s.ar with
      | false => rw [ha] at g; simp at g
      | true =>
        rw [ha] at g
        have : s.lf = 0 := by simpa using g
        simp [ha, this]
theorem flE_none {s : Dsk} (h : flE s = 0) : (flS s).un = [] ∧ (flS s).dn = false := by
  unfold flE at h
  unfold flS
  by_cases d : s.dn = true
  · rw [if_pos d] at h; omega
  · rw [if_neg d] at h ⊢
    by_cases g : dGo s = true
    · rw [if_pos g]
      refine ⟨rfl, ?_⟩
      show (dGone s).dn = false
      rw [dGo_gone g]
      simpa using d
    · rw [if_neg g] at h; omega
theorem bl_wr (s : Dsk) (i : Int) (b : List Nat) : (wrS s i b).bl.length = s.bl.length ∧ (wrS s i b).un.length ≤ s.un.length + 1 := by
  unfold wrS
  split
  · exact ⟨rfl, by omega⟩
  · rw [(dGone_bl _).1, (dGone_bl _).2]
    exact ⟨rfl, by simp⟩
theorem bl_fl (s : Dsk) : (flS s).bl.length = s.bl.length ∧ (flS s).un.length ≤ s.un.length := by
  unfold flS
  split
  · exact ⟨rfl, Nat.le_refl _⟩
  · split
    · exact ⟨by rw [lay_len], Nat.zero_le _⟩
    · rw [(dGone_bl _).1, (dGone_bl _).2]; exact ⟨rfl, Nat.le_refl _⟩
/-- While it isn't down nothing is under way between two steps. -/
structure Jq (n : Nat) (s : Dsk) : Prop where
  un : s.dn = false → s.un = []
  le : s.un.length ≤ 60
  bl : s.bl.length = n
theorem jq_fl {n : Nat} {s : Dsk} (hu : s.un.length ≤ 60) (hb : s.bl.length = n) : Jq n (flS s) := by
  have h := bl_fl s
  refine ⟨fun q => ?_, by omega, by omega⟩
  by_cases e : flE s = 0
  · exact (flE_none e).1
  · rw [flE_down e] at q; cases q
theorem jq_wrfl {n : Nat} {s : Dsk} (h : Jq n s) (i : Int) (b : List Nat) : Jq n (flS (wrS s i b)) := by
  have h1 := bl_wr s i b
  by_cases d : s.dn = true
  · have e : wrS s i b = s := by
      unfold wrS
      rw [if_pos (Or.inl (by unfold dAsk; rw [if_pos d]; omega))]
    rw [e]
    exact jq_fl h.le h.bl
  · have := h.un (by simpa using d)
    exact jq_fl (by rw [this] at h1; simp at h1; omega) (by rw [h1.1, h.bl])
theorem jq_cr {n : Nat} {s : Dsk} (h : Jq n s) (fs : List (Int × Int)) : Jq n (crS s fs) := ⟨fun _ => rfl, Nat.zero_le _, by show (fall s.un fs s.bl).length = n; rw [fall_len, h.bl]⟩
theorem jq_ar {n : Nat} {s : Dsk} (h : Jq n s) (k : Int) : Jq n (arS s k) := ⟨h.un, h.le, h.bl⟩
theorem svW_jq (a : Nat) (d : List Nat) : ∀ (k i : Nat) (s : Dsk), s.dn = false → a + 1 + i + k ≤ s.bl.length → ((svW a d k i s).1 = 0 ∧ (svW a d k i s).2.dn = false ∨ (svW a d k i s).1 ≠ 0 ∧ (svW a d k i s).2.dn = true) ∧ (svW a d k i s).2.bl.length = s.bl.length ∧ (svW a d k i s).2.un.length ≤ s.un.length + k := by
  intro k
  induction k with
  | zero => intro i s hd _; exact ⟨Or.inl ⟨rfl, hd⟩, rfl, Nat.le_refl _⟩
  | succ k ih =>
    intro i s hd hl
    have h1 := bl_wr s ((a + 1 + i : Nat) : Int) (ck d i)
    obtain ⟨-, -, w3⟩ := wr_step (s := s) (i := a + 1 + i) (b := ck d i) hd (by omega) (ck_len d i)
    by_cases q : wrE s ((a + 1 + i : Nat) : Int) (ck d i) ≠ 0
    · have e : svW a d (k + 1) i s = (wrE s ((a + 1 + i : Nat) : Int) (ck d i), wrS s ((a + 1 + i : Nat) : Int) (ck d i)) := by
        show (if _ then _ else _) = _
        rw [if_pos q]
      rw [e]
      refine ⟨Or.inr ⟨q, ?_⟩, h1.1, by have := h1.2; dsimp only; omega⟩
      rcases w3 with w3 | w3
      · exact wrE_down w3
      · exact absurd w3.1 q
    · have e : svW a d (k + 1) i s = svW a d k (i + 1) (wrS s ((a + 1 + i : Nat) : Int) (ck d i)) := by
        show (if _ then _ else _) = _
        rw [if_neg q]
      rw [e]
      have hd2 : (wrS s ((a + 1 + i : Nat) : Int) (ck d i)).dn = false := by
        rcases w3 with w3 | w3
        · exact absurd w3 (by omega)
        · exact w3.2
      obtain ⟨g1, g2, g3⟩ := ih (i + 1) _ hd2 (by rw [h1.1]; omega)
      exact ⟨g1, by rw [g2, h1.1], by have := h1.2; omega⟩
theorem jq_sv {n at_ room : Nat} {s : Dsk} {d : List Nat} (h : Jq n s) (hr : at_ + 2 * (room + 1) ≤ n) (hroom : room ≤ 50) : Jq n (svR s at_ room d).2.2 := by
  unfold svR
  by_cases g1 : room * 128 < d.length
  · rw [if_pos g1]; exact h
  rw [if_neg g1]
  by_cases g2 : s.dn = true
  · rw [if_pos g2]; exact h
  rw [if_neg g2]
  have hd : s.dn = false := by simpa using g2
  generalize (ldV (rb s) at_ room).2.1 + 1 = N
  unfold svN
  by_cases g3 : 4611686018427387904 < N
  · rw [if_pos g3]; exact h
  rw [if_neg g3]
  have hA := slA_lt (at_ := at_) (room := room) (which := N % 2) (l := n) (i := room) (by omega) hr (Nat.le_refl _)
  generalize slA at_ room (N % 2) = a at *
  have hc : (d.length + 127) / 128 ≤ room := by omega
  have hu := h.un hd
  obtain ⟨w1, w2, w3⟩ := svW_jq a d ((d.length + 127) / 128) 0 s hd (by rw [h.bl]; omega)
  rw [hu] at w3
  simp only [List.length_nil, Nat.zero_add] at w3
  rw [h.bl] at w2
  generalize svW a d ((d.length + 127) / 128) 0 s = w at *
  unfold svF
  by_cases g4 : w.1 ≠ 0
  · rw [if_pos g4]
    rcases w1 with w1 | w1
    · exact absurd w1.1 g4
    · exact ⟨fun q => (by rw [w1.2] at q; cases q), (by dsimp only; omega), w2⟩
  rw [if_neg g4]
  have f1 := bl_fl w.2
  by_cases g5 : flE w.2 ≠ 0
  · rw [if_pos g5]
    exact ⟨fun q => (by rw [flE_down g5] at q; cases q), (by dsimp only; omega), (by dsimp only; omega)⟩
  rw [if_neg g5]
  obtain ⟨f2, f3⟩ := flE_none (by simpa using g5)
  generalize flS w.2 = s3 at *
  unfold svH
  have b1 := bl_wr s3 (a : Int) (hdB N d)
  rw [f2] at b1
  obtain ⟨-, -, v3⟩ := wr_step (s := s3) (i := a) (b := hdB N d) f3 (by omega) (by rw [hdB_len]; omega)
  by_cases g6 : wrE s3 (a : Int) (hdB N d) ≠ 0
  · rw [if_pos g6]
    refine ⟨fun q => ?_, by have := b1.2; simp at this; dsimp only; omega, by have := b1.1; dsimp only; omega⟩
    rcases v3 with v3 | v3
    · rw [wrE_down v3] at q; cases q
    · exact absurd v3.1 g6
  rw [if_neg g6]
  have f4 := bl_fl (wrS s3 (a : Int) (hdB N d))
  have hJ : Jq n (flS (wrS s3 (a : Int) (hdB N d))) := jq_fl (by have := b1.2; simp at this; omega) (by have := b1.1; omega)
  by_cases g7 : flE (wrS s3 (a : Int) (hdB N d)) ≠ 0
  · rw [if_pos g7]; exact hJ
  · rw [if_neg g7]; exact hJ
theorem jq_new (n : Nat) : Jq n (dNew n) := ⟨fun _ => rfl, Nat.zero_le _, List.length_replicate⟩
end Go.Proofs.YtpmmfmlldkdfhaaDoor
set_option linter.unusedVariables false
set_option linter.unusedSimpArgs false
namespace Go.Proofs.YtpmmfmlldkdfhaaDoor
open Go.RowKit

/-- A step of a play. -/
structure Opv where
  k : Int
  i : Int
  b : List Nat
  fs : List (Int × Int)
def op0 : Opv := ⟨0, 0, [], []⟩
/-- A list of steps in memory. -/
def Ops (w : World) (v : Value) (os : List Opv) : Prop :=
  ∃ (ad : Option Addr) (cap b o : Nat), v = .slice ad os.length cap ∧ os.length ≤ cap ∧ cap ≤ maxLen ∧ (0 < os.length → ad = some ⟨b, o, none⟩) ∧
    ∀ j, j < os.length → ∃ vb vf, w.cell? ⟨b, o + j * 4, none⟩ = some (.int .i64 (os.getD j op0).k) ∧ w.cell? ⟨b, o + j * 4 + 1, none⟩ = some (.int .i64 (os.getD j op0).i) ∧ w.cell? ⟨b, o + j * 4 + 2, none⟩ = some vb ∧ w.cell? ⟨b, o + j * 4 + 3, none⟩ = some vf ∧ Bs w vb (os.getD j op0).b ∧ Fts w vf (os.getD j op0).fs
theorem Ops.len {w : World} {v : Value} {os : List Opv} (h : Ops w v os) : ∃ ad cap, v = .slice ad os.length cap ∧ os.length ≤ cap ∧ cap ≤ maxLen := by
  obtain ⟨ad, cap, b, o, h1, h2, h3, -⟩ := h
  exact ⟨ad, cap, h1, h2, h3⟩
theorem Ops.cel {w : World} {ad : Option Addr} {n cap : Nat} {os : List Opv} (h : Ops w (.slice ad n cap) os) (j : Nat) (hj : j < os.length) :
    ∃ b o vb vf, ad = some ⟨b, o, none⟩ ∧ w.cell? ⟨b, o + j * 4, none⟩ = some (.int .i64 (os.getD j op0).k) ∧ w.cell? ⟨b, o + j * 4 + 1, none⟩ = some (.int .i64 (os.getD j op0).i) ∧ w.cell? ⟨b, o + j * 4 + 2, none⟩ = some vb ∧ w.cell? ⟨b, o + j * 4 + 3, none⟩ = some vf ∧ Bs w vb (os.getD j op0).b ∧ Fts w vf (os.getD j op0).fs := by
  obtain ⟨ad', cap', b, o, e, h2, h3, h4, h5⟩ := h
  injection e with e1 e2 e3
  obtain ⟨vb, vf, q⟩ := h5 j hj
  exact ⟨b, o, vb, vf, by rw [e1]; exact h4 (by omega), q⟩
theorem Ops.later {w w' : World} {v : Value} {os : List Opv} (h : Ops w v os) (k : Below w.heap.size w w') : Ops w' v os := by
  obtain ⟨ad, cap, b, o, h1, h2, h3, h4, h5⟩ := h
  refine ⟨ad, cap, b, o, h1, h2, h3, h4, fun j hj => ?_⟩
  obtain ⟨vb, vf, q0, q1, q2, q3, q4, q5⟩ := h5 j hj
  exact ⟨vb, vf, cell_later k q0, cell_later k q1, cell_later k q2, cell_later k q3, q4.later k, q5.later k⟩
theorem Fts.len {w : World} {v : Value} {fs : List (Int × Int)} (h : Fts w v fs) : ∃ ad cap, v = .slice ad fs.length cap ∧ fs.length ≤ cap ∧ cap ≤ maxLen := by
  obtain ⟨ad, cap, b, o, h1, h2, h3, -⟩ := h
  exact ⟨ad, cap, h1, h2, h3⟩
theorem Fts.lo {w : World} {v : Value} {fs : List (Int × Int)} (h : Fts w v fs) : Lo w.heap.size v := by
  obtain ⟨ad, cap, b, o, rfl, h2, h3, h4, h5⟩ := h
  intro a n c e hn
  injection e with e1 e2 e3
  have := h4 (by omega)
  rw [this] at e1
  cases e1
  exact World.block_lt_of_cell? _ _ (h5 0 (by omega)).1
/-- So few that a play goes through with them. -/
def Few (os : List Opv) : Prop := os.length ≤ 80 ∧ ∀ j, j < os.length → (os.getD j op0).b.length ≤ 300 ∧ (os.getD j op0).fs.length ≤ 100
/-- What few answers. -/
def FwE (os : List Opv) (w : World) (e : Ending) (w' : World) : Prop := ∃ B : Bool, e = .returned (.bool B) ∧ (B = true → Few os) ∧ Below w.heap.size w w'
theorem FwE.no {os : List Opv} {w w' : World} (hb : Below w.heap.size w w') : FwE os w (.returned (.bool false)) w' := ⟨false, rfl, (fun q => by cases q), hb⟩
theorem FwE.yes {os : List Opv} {w w' : World} (h : Few os) (hb : Below w.heap.size w w') : FwE os w (.returned (.bool true)) w' := ⟨true, rfl, fun _ => h, hb⟩
end Go.Proofs.YtpmmfmlldkdfhaaDoor
