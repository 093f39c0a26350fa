/-
  Layer 16's plain snap: what a Save leaves, and what is loaded behind a fall in it.
-/
import Derived.Test.YtkbpcmjdfaokhaaDoorZ09

set_option linter.unusedVariables false
set_option linter.unusedSimpArgs false
namespace Go.Proofs.YtkbpcmjdfaokhaaDoor

/-- The blocks of a text are laid behind a head; nothing else. -/
structure Laid (bl bl1 : List (List Nat)) (a room : Nat) (d : List Nat) : Prop where
  len : bl1.length = bl.length
  txt : ∀ i, i < room → i * 128 < d.length → bl1.getD (a + 1 + i) [] = full (ck d i)
  far : ∀ i, (i < a + 1 ∨ a + 1 + room ≤ i) → bl1.getD i [] = bl.getD i []
/-- How a Save ends: in the text, in the head, or well. -/
inductive SvEnd (bl : List (List Nat)) (a room n : Nat) (d : List Nat) (r : Nat × Nat × Dsk) : Prop
  | text : r.1 = 0 → r.2.1 = 150 → r.2.2.bl = bl → (∀ u ∈ r.2.2.un, a + 1 ≤ u.1 ∧ u.1 < a + 1 + room) → SvEnd bl a room n d r
  | head : Laid bl r.2.2.bl a room d → r.1 = 0 → r.2.1 = 150 → r.2.2.un = [(a, hdB n d)] → SvEnd bl a room n d r
  | well : ∀ bl1, Laid bl bl1 a room d → r.1 = n → r.2.1 = 0 → r.2.2.bl = bl1.set a (hdB n d) → r.2.2.un = [] → r.2.2.dn = false → SvEnd bl a room n d r
theorem full_hd (n : Nat) (d : List Nat) : full (hdB n d) = hdB n d := by
  unfold full
  rw [hdB_len, Nat.sub_self, List.replicate_zero, List.append_nil]
theorem svH_end {bl : List (List Nat)} {a room n : Nat} {d : List Nat} {s : Dsk} (hd : s.dn = false) (hu : s.un = []) (hL : Laid bl s.bl a room d) (ha : a < bl.length) : SvEnd bl a room n d (svH a n d s) := by
  obtain ⟨w1, w2, w3⟩ := wr_step (s := s) (i := a) (b := hdB n d) hd (by rw [hL.len]; exact ha) (by rw [hdB_len]; omega)
  rw [hu, full_hd, List.nil_append] at w2
  rcases w3 with w3 | ⟨w3, w4⟩
  · have e : svH a n d s = (0, 150, wrS s (a : Int) (hdB n d)) := by
      unfold svH
      rw [if_pos (by omega), w3]
    rw [e]
    exact .head (by show Laid bl (wrS s (a : Int) (hdB n d)).bl a room d; rw [w1]; exact hL) rfl rfl w2
  · rcases fl_step w4 with ⟨f1, f2, f3⟩ | ⟨f1, f2, f3, f4⟩
    · have e : svH a n d s = (0, 150, flS (wrS s (a : Int) (hdB n d))) := by
        unfold svH
        rw [if_neg (by omega), if_pos (by omega), f1]
      rw [e]
      exact .head (by show Laid bl (flS (wrS s (a : Int) (hdB n d))).bl a room d; rw [f2, w1]; exact hL) rfl rfl (by show (flS (wrS s (a : Int) (hdB n d))).un = _; rw [f3, w2])
    · have e : svH a n d s = (n, 0, flS (wrS s (a : Int) (hdB n d))) := by
        unfold svH
        rw [if_neg (by omega), if_neg (by omega)]
      rw [e]
      exact .well s.bl hL rfl rfl (by show (flS (wrS s (a : Int) (hdB n d))).bl = _; rw [f2, w1, w2]; rfl) f3 f4
theorem svF_end {a room n : Nat} {d : List Nat} {s : Dsk} (hd : s.dn = false) (hu : s.un = []) (ha : a + 1 + room ≤ s.bl.length) (hl : d.length ≤ room * 128) : SvEnd s.bl a room n d (svF a n d (svW a d ((d.length + 127) / 128) 0 s)) := by
  have hc : (d.length + 127) / 128 ≤ room := by omega
  obtain ⟨hU, h2⟩ := svW_is s.bl a ((d.length + 127) / 128) d (by omega) ((d.length + 127) / 128) 0 s (by omega) hd ⟨rfl, fun u hx => by rw [hu] at hx; cases hx⟩ (fun j hj => by omega)
  generalize svW a d ((d.length + 127) / 128) 0 s = w at *
  rcases h2 with h2 | ⟨h2, h3, h4⟩
  · have e : svF a n d w = (0, 150, w.2) := by unfold svF; rw [if_pos (by omega), h2]
    rw [e]
    exact .text rfl rfl hU.bl (fun u hx => by have := hU.un u hx; omega)
  · rcases fl_step h3 with ⟨f1, f2, f3⟩ | ⟨f1, f2, f3, f4⟩
    · have e : svF a n d w = (0, 150, flS w.2) := by unfold svF; rw [if_neg (by omega), if_pos (by omega), f1]
      rw [e]
      exact .text rfl rfl (by show (flS w.2).bl = _; rw [f2, hU.bl]) (fun u hx => by
        have hx2 : u ∈ (flS w.2).un := hx
        rw [f3] at hx2
        have := hU.un u hx2; omega)
    · have e : svF a n d w = svH a n d (flS w.2) := by unfold svF; rw [if_neg (by omega), if_neg (by omega)]
      rw [e]
      refine svH_end f4 f3 ⟨by rw [f2, lay_len, hU.bl], fun i hi hid => ?_, fun i hi => ?_⟩ (by omega)
      · rw [f2, hU.bl, lay_last _ _ _ (by omega)]
        exact h4 i (by omega)
      · rw [f2, hU.bl, lay_far _ _ _ (fun u hx => by have := hU.un u hx; omega)]
/-- A disk between two lives, with a snap on it. -/
structure SnRest (at_ room N : Nat) (last : List Nat) (s : Dsk) : Prop where
  ok : OkD s
  dn : s.dn = false
  un : s.un = []
  rm : at_ + 2 * (room + 1) ≤ s.bl.length
  rmax : room ≤ 16384
  jv : Jv at_ room N last (bk s)
theorem slA_lt {at_ room which l i : Nat} (hw : which < 2) (h : at_ + 2 * (room + 1) ≤ l) (hi : i ≤ room) : slA at_ room which + i < l := by
  unfold slA
  have : which = 0 ∨ which = 1 := by omega
  rcases this with q | q <;> subst q <;> omega
theorem ldV_same {B B' : Nat → List Nat} {at_ room : Nat} (h : ∀ i, i < at_ + 2 * (room + 1) → B' i = B i) : ldV B' at_ room = ldV B at_ room := by
  have e0 : slt B' at_ room 0 = slt B at_ room 0 := slt_same fun i hi => h _ (slA_lt (by omega) (Nat.le_refl _) hi)
  have e1 : slt B' at_ room 1 = slt B at_ room 1 := slt_same fun i hi => h _ (slA_lt (by omega) (Nat.le_refl _) hi)
  unfold ldV
  rw [e0, e1]
/-- What is loaded from it. -/
theorem SnRest.load {at_ room N : Nat} {last : List Nat} {s : Dsk} (h : SnRest at_ room N last s) : ldV (rb s) at_ room = if N = 0 then ([], 0, 160) else (last, N, 0) := by
  have hr := h.rm
  rw [ldV_same (B := bk s) (fun i hi => rb_bk h.un h.dn (by omega))]
  exact h.jv.load
theorem SnRest.arm {at_ room N : Nat} {last : List Nat} {s : Dsk} (h : SnRest at_ room N last s) (k : Int) : SnRest at_ room N last (arS s k) := ⟨okD_ar h.ok k, h.dn, h.un, h.rm, h.rmax, h.jv⟩
/-- A Save on it, and how it ends. -/
theorem SnRest.save {at_ room N : Nat} {last d : List Nat} {s : Dsk} (h : SnRest at_ room N last s) (hd : d.length ≤ room * 128) (hN : N + 1 ≤ 4611686018427387904) : SvEnd s.bl (slA at_ room ((N + 1) % 2)) room (N + 1) d (svR s at_ room d) := by
  have hn : (ldV (rb s) at_ room).2.1 = N := by
    rw [h.load]
    split
    · rename_i q; exact q.symm
    · rfl
  have e : svR s at_ room d = svF (slA at_ room ((N + 1) % 2)) (N + 1) d (svW (slA at_ room ((N + 1) % 2)) d ((d.length + 127) / 128) 0 s) := by
    unfold svR
    rw [if_neg (by omega), if_neg (by rw [h.dn]; simp), hn]
    unfold svN
    rw [if_neg (by omega)]
  rw [e]
  have hr := h.rm
  have := slA_lt (at_ := at_) (room := room) (which := (N + 1) % 2) (i := room) (by omega) hr (Nat.le_refl _)
  exact svF_end h.dn h.un (by omega) hd
theorem okD_svW (a : Nat) {d : List Nat} (hb : ∀ c ∈ d, c < 256) : ∀ (k i : Nat) (s : Dsk), OkD s → OkD (svW a d k i s).2 := by
  intro k
  induction k with
  | zero => intro i s h; exact h
  | succ k ih =>
    intro i s h
    have h2 := okD_wr h ((a + 1 + i : Nat) : Int) (ck d i) (ck_byte hb i)
    show OkD (if wrE s ((a + 1 + i : Nat) : Int) (ck d i) ≠ 0 then _ else _ : Nat × Dsk).2
    split
    · exact h2
    · exact ih _ _ h2
theorem okD_svR {s : Dsk} (at_ room : Nat) {d : List Nat} (h : OkD s) (hb : ∀ c ∈ d, c < 256) : OkD (svR s at_ room d).2.2 := by
  unfold svR
  split
  · exact h
  · split
    · exact h
    · unfold svN
      split
      · exact h
      · generalize hw : svW _ d _ 0 s = w
        have h1 : OkD w.2 := by rw [← hw]; exact okD_svW _ hb _ _ _ h
        unfold svF
        split
        · exact h1
        · split
          · exact okD_fl h1
          · have h2 := okD_fl h1
            unfold svH
            split
            · exact okD_wr h2 _ _ (hdB_ok _ _).2
            · split
              · exact okD_fl (okD_wr h2 _ _ (hdB_ok _ _).2)
              · exact okD_fl (okD_wr h2 _ _ (hdB_ok _ _).2)
/-- The slots lie apart. -/
theorem slA_apart {at_ room N i j : Nat} (hi : i ≤ room) (hj : j ≤ room) : slA at_ room (N % 2) + i ≠ slA at_ room ((N + 1) % 2) + j := by
  unfold slA
  have : (N % 2 = 0 ∧ (N + 1) % 2 = 1) ∨ (N % 2 = 1 ∧ (N + 1) % 2 = 0) := by omega
  rcases this with ⟨q1, q2⟩ | ⟨q1, q2⟩ <;> rw [q1, q2] <;> omega
/-- The other slot's blocks are out of a slot's reach. -/
theorem slA_out {at_ room N i : Nat} (hi : i ≤ room) : slA at_ room (N % 2) + i < slA at_ room ((N + 1) % 2) ∨ slA at_ room ((N + 1) % 2) + 1 + room ≤ slA at_ room (N % 2) + i := by
  unfold slA
  have : (N % 2 = 0 ∧ (N + 1) % 2 = 1) ∨ (N % 2 = 1 ∧ (N + 1) % 2 = 0) := by omega
  rcases this with ⟨q1, q2⟩ | ⟨q1, q2⟩ <;> rw [q1, q2] <;> omega
theorem getD_set (bl : List (List Nat)) (a i : Nat) (x : List Nat) (ha : a < bl.length) : (bl.set a x).getD i [] = if i = a then x else bl.getD i [] := by
  by_cases q : i = a
  · subst q; simp [List.getD, List.getElem?_set, ha]
  · rw [if_neg q]; simp [List.getD, List.getElem?_set, Ne.symm q]
/-- Behind a Save and a fall: the old text or the new one; the new one, if it ended well. -/
theorem SnRest.life {at_ room N : Nat} {last d : List Nat} {s : Dsk} (h : SnRest at_ room N last s) (hd : d.length ≤ room * 128) (hb : ∀ c ∈ d, c < 256) (hN : N + 1 ≤ 4611686018427387904) (fs : List (Int × Int)) :
    ((svR s at_ room d).2.1 = 0 ∧ (svR s at_ room d).1 = N + 1 ∧ SnRest at_ room (N + 1) d (crS (svR s at_ room d).2.2 fs)) ∨
    ((svR s at_ room d).2.1 = 150 ∧ (svR s at_ room d).1 = 0 ∧ (SnRest at_ room N last (crS (svR s at_ room d).2.2 fs) ∨ SnRest at_ room (N + 1) d (crS (svR s at_ room d).2.2 fs))) := by
  have hE := h.save hd hN
  have hO := okD_cr (okD_svR at_ room (d := d) h.ok hb) fs
  have hr := h.rm
  generalize svR s at_ room d = r at *
  have hA := slA_lt (at_ := at_) (room := room) (which := (N + 1) % 2) (i := room) (by omega) hr (Nat.le_refl _)
  have hA0 : slA at_ room ((N + 1) % 2) < s.bl.length := by omega
  have hX : okb (bk s (slA at_ room ((N + 1) % 2))) := getD_ok h.ok.bl hA0
  have key : ∀ k (bl1 : List (List Nat)), k ≤ 128 → Laid s.bl bl1 (slA at_ room ((N + 1) % 2)) room d → (crS r.2.2 fs).bl = bl1.set (slA at_ room ((N + 1) % 2)) (torn k (hdB (N + 1) d) (bk s (slA at_ room ((N + 1) % 2)))) → (SnRest at_ room N last (crS r.2.2 fs) ∧ k ≠ 128) ∨ SnRest at_ room (N + 1) d (crS r.2.2 fs) := by
    intro k bl1 hk hL hbl
    have hlen : (crS r.2.2 fs).bl.length = s.bl.length := by rw [hbl, List.length_set, hL.len]
    have g : ∀ i, bk (crS r.2.2 fs) i = if i = slA at_ room ((N + 1) % 2) then torn k (hdB (N + 1) d) (bk s (slA at_ room ((N + 1) % 2))) else bl1.getD i [] := fun i => by
      unfold bk
      rw [hbl]
      exact getD_set _ _ _ _ (by rw [hL.len]; exact hA0)
    have hj := h.jv.torn (B' := bk (crS r.2.2 fs)) (d := d) hN hk hd h.rmax hX (fun i hi => by
        have ho := slA_out (at_ := at_) (N := N) hi
        rw [g, if_neg (by omega), hL.far _ (by omega)]
        rfl) (by rw [g, if_pos rfl]) (fun i hi => by
        have := getD_ok hO.bl (i := slA at_ room ((N + 1) % 2) + 1 + i) (by rw [hlen]; omega)
        exact this.1) (fun i hi hid => by
        rw [g, if_neg (by omega)]
        exact hL.txt i hi hid)
    rcases hj with ⟨hj, hk2⟩ | hj
    · exact Or.inl ⟨⟨hO, rfl, rfl, by rw [hlen]; exact hr, h.rmax, hj⟩, hk2⟩
    · exact Or.inr ⟨hO, rfl, rfl, by rw [hlen]; exact hr, h.rmax, hj⟩
  cases hE with
  | text e1 e2 e3 e4 =>
    right
    refine ⟨e2, e1, Or.inl ⟨hO, rfl, rfl, ?_, h.rmax, ?_⟩⟩
    · show _ ≤ (fall _ _ _).length
      rw [fall_len, e3]; exact hr
    · have far : ∀ i, (i < slA at_ room ((N + 1) % 2) + 1 ∨ slA at_ room ((N + 1) % 2) + 1 + room ≤ i) → bk (crS r.2.2 fs) i = bk s i := fun i hi => by
        show (fall r.2.2.un fs r.2.2.bl).getD i [] = _
        rw [fall_far _ _ _ _ (fun u hu => by have := e4 u hu; omega), e3]
        rfl
      refine h.jv.same (fun i hi => far _ ?_) ?_
      · have ho := slA_out (at_ := at_) (N := N) hi
        omega
      · rw [far _ (by omega)]
  | head hL e1 e2 e3 =>
    right
    refine ⟨e2, e1, ?_⟩
    have hx : r.2.2.bl.getD (slA at_ room ((N + 1) % 2)) [] = bk s (slA at_ room ((N + 1) % 2)) := hL.far _ (by omega)
    have hf : ∃ k, k ≤ 128 ∧ (crS r.2.2 fs).bl = r.2.2.bl.set (slA at_ room ((N + 1) % 2)) (torn k (hdB (N + 1) d) (bk s (slA at_ room ((N + 1) % 2)))) := by
      cases fs with
      | nil =>
        refine ⟨0, by omega, ?_⟩
        show fall _ [] _ = _
        rw [fall_nil, ← hx]
        have ht : torn 0 (hdB (N + 1) d) (r.2.2.bl.getD (slA at_ room ((N + 1) % 2)) []) = r.2.2.bl.getD (slA at_ room ((N + 1) % 2)) [] := by unfold torn; simp
        rw [ht]
        have hl : slA at_ room ((N + 1) % 2) < r.2.2.bl.length := by rw [hL.len]; exact hA0
        have e : r.2.2.bl.getD (slA at_ room ((N + 1) % 2)) [] = r.2.2.bl[slA at_ room ((N + 1) % 2)] := by simp [List.getD, hl]
        rw [e, List.set_getElem_self]
      | cons f fs =>
        refine ⟨fn f, fn_le f, ?_⟩
        show fall r.2.2.un (f :: fs) r.2.2.bl = _
        rw [e3, fall_cons, fall_none, hx]
    obtain ⟨k, hk, hk2⟩ := hf
    rcases key k _ hk hL hk2 with q | q
    · exact Or.inl q.1
    · exact Or.inr q
  | well bl1 hL e1 e2 e3 e4 e5 =>
    left
    refine ⟨e2, e1, ?_⟩
    have hbl : (crS r.2.2 fs).bl = bl1.set (slA at_ room ((N + 1) % 2)) (torn 128 (hdB (N + 1) d) (bk s (slA at_ room ((N + 1) % 2)))) := by
      show fall r.2.2.un fs r.2.2.bl = _
      rw [e4, fall_none, e3]
      congr 1
      unfold torn
      rw [List.take_of_length_le (by rw [hdB_len]; omega), List.drop_of_length_le (by rw [hX.1]; omega), List.append_nil]
    rcases key 128 bl1 (by omega) hL hbl with q | q
    · exact absurd rfl q.2
    · exact q
end Go.Proofs.YtkbpcmjdfaokhaaDoor
