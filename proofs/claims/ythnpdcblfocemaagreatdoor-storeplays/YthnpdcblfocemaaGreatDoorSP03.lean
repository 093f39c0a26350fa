/-
  Texts of this proof, joined: SnMath4 PkSame DkDefs.
-/
import Derived.Test.YthnpdcblfocemaaGreatDoorSP00
import Derived.Test.YthnpdcblfocemaaGreatDoorSP01
import Derived.Test.YthnpdcblfocemaaGreatDoorSP02
set_option linter.unusedVariables false
set_option linter.unusedSimpArgs false
namespace Go.Proofs.YthnpdcblfocemaaGreatDoor

structure Laid (bl bl1 : List (List Nat)) (a room : Nat) (d : List Nat) : Prop where
  len : bl1.length = bl.length
  txt : ∀ i, i < room → i * 128 < d.length → bl1.getD (a + 1 + i) [] = full (ck d i)
  far : ∀ i, (i < a + 1 ∨ a + 1 + room ≤ i) → bl1.getD i [] = bl.getD i []
inductive SvEnd (bl : List (List Nat)) (a room n : Nat) (d : List Nat) (r : Nat × Nat × Dsk) : Prop
  | text : r.1 = 0 → r.2.1 = 150 → r.2.2.bl = bl → (∀ u ∈ r.2.2.un, a + 1 ≤ u.1 ∧ u.1 < a + 1 + room) → SvEnd bl a room n d r
  | head : Laid bl r.2.2.bl a room d → r.1 = 0 → r.2.1 = 150 → r.2.2.un = [(a, hdB n d)] → SvEnd bl a room n d r
  | well : ∀ bl1, Laid bl bl1 a room d → r.1 = n → r.2.1 = 0 → r.2.2.bl = bl1.set a (hdB n d) → r.2.2.un = [] → r.2.2.dn = false → SvEnd bl a room n d r
theorem full_hd (n : Nat) (d : List Nat) : full (hdB n d) = hdB n d := by
  unfold full
  rw [hdB_len, Nat.sub_self, List.replicate_zero, List.append_nil]
theorem svH_end {bl : List (List Nat)} {a room n : Nat} {d : List Nat} {s : Dsk} (hd : s.dn = false) (hu : s.un = []) (hL : Laid bl s.bl a room d) (ha : a < bl.length) : SvEnd bl a room n d (svH a n d s) := by
  obtain ⟨w1, w2, w3⟩ := wr_step (s := s) (i := a) (b := hdB n d) hd (by rw [hL.len]; exact ha) (by rw [hdB_len]; omega)
  rw [hu, full_hd, List.nil_append] at w2
  rcases w3 with w3 | ⟨w3, w4⟩
  · have e : svH a n d s = (0, 150, wrS s (a : Int) (hdB n d)) := by
      unfold svH
      rw [if_pos (by omega), w3]
    rw [e]
    exact .head (by show Laid bl (wrS s (a : Int) (hdB n d)).bl a room d; rw [w1]; exact hL) rfl rfl w2
  · rcases fl_step w4 with ⟨f1, f2, f3⟩ | ⟨f1, f2, f3, f4⟩
    · have e : svH a n d s = (0, 150, flS (wrS s (a : Int) (hdB n d))) := by
        unfold svH
        rw [if_neg (by omega), if_pos (by omega), f1]
      rw [e]
      exact .head (by show Laid bl (flS (wrS s (a : Int) (hdB n d))).bl a room d; rw [f2, w1]; exact hL) rfl rfl (by show (flS (wrS s (a : Int) (hdB n d))).un = _; rw [f3, w2])
    · have e : svH a n d s = (n, 0, flS (wrS s (a : Int) (hdB n d))) := by
        unfold svH
        rw [if_neg (by omega), if_neg (by omega)]
      rw [e]
      exact .well s.bl hL rfl rfl (by show (flS (wrS s (a : Int) (hdB n d))).bl = _; rw [f2, w1, w2]; rfl) f3 f4
theorem svF_end {a room n : Nat} {d : List Nat} {s : Dsk} (hd : s.dn = false) (hu : s.un = []) (ha : a + 1 + room ≤ s.bl.length) (hl : d.length ≤ room * 128) : SvEnd s.bl a room n d (svF a n d (svW a d ((d.length + 127) / 128) 0 s)) := by
  have hc : (d.length + 127) / 128 ≤ room := by omega
  obtain ⟨hU, h2⟩ := svW_is s.bl a ((d.length + 127) / 128) d (by omega) ((d.length + 127) / 128) 0 s (by omega) hd ⟨rfl, fun u hx => by rw [hu] at hx; cases hx⟩ (fun j hj => by omega)
  generalize svW a d ((d.length + 127) / 128) 0 s = w at *
  rcases h2 with h2 | ⟨h2, h3, h4⟩
  · have e : svF a n d w = (0, 150, w.2) := by unfold svF; rw [if_pos (by omega), h2]
    rw [e]
    exact .text rfl rfl hU.bl (fun u hx => by have := hU.un u hx; omega)
  · rcases fl_step h3 with ⟨f1, f2, f3⟩ | ⟨f1, f2, f3, f4⟩
    · have e : svF a n d w = (0, 150, flS w.2) := by unfold svF; rw [if_neg (by omega), if_pos (by omega), f1]
      rw [e]
      exact .text rfl rfl (by show (flS w.2).bl = _; rw [f2, hU.bl]) (fun u hx => by
        have hx2 : u ∈ (flS w.2).un := hx
        rw [f3] at hx2
        have := hU.un u hx2; omega)
    · have e : svF a n d w = svH a n d (flS w.2) := by unfold svF; rw [if_neg (by omega), if_neg (by omega)]
      rw [e]
      refine svH_end f4 f3 ⟨by rw [f2, lay_len, hU.bl], fun i hi hid => ?_, fun i hi => ?_⟩ (by omega)
      · rw [f2, hU.bl, lay_last _ _ _ (by omega)]
        exact h4 i (by omega)
      · rw [f2, hU.bl, lay_far _ _ _ (fun u hx => by have := hU.un u hx; omega)]
structure SnRest (at_ room N : Nat) (last : List Nat) (s : Dsk) : Prop where
  ok : OkD s
  dn : s.dn = false
  un : s.un = []
  rm : at_ + 2 * (room + 1) ≤ s.bl.length
  rmax : room ≤ 16384
  jv : Jv at_ room N last (bk s)
theorem slA_lt {at_ room which l i : Nat} (hw : which < 2) (h : at_ + 2 * (room + 1) ≤ l) (hi : i ≤ room) : slA at_ room which + i < l := by
  unfold slA
  have : which = 0 ∨ which = 1 := by omega
  rcases this with q | q <;> subst q <;> omega
theorem ldV_same {B B' : Nat → List Nat} {at_ room : Nat} (h : ∀ i, i < at_ + 2 * (room + 1) → B' i = B i) : ldV B' at_ room = ldV B at_ room := by
  have e0 : slt B' at_ room 0 = slt B at_ room 0 := slt_same fun i hi => h _ (slA_lt (by omega) (Nat.le_refl _) hi)
  have e1 : slt B' at_ room 1 = slt B at_ room 1 := slt_same fun i hi => h _ (slA_lt (by omega) (Nat.le_refl _) hi)
  unfold ldV
  rw [e0, e1]
theorem SnRest.load {at_ room N : Nat} {last : List Nat} {s : Dsk} (h : SnRest at_ room N last s) : ldV (rb s) at_ room = if N = 0 then ([], 0, 160) else (last, N, 0) := by
  have hr := h.rm
  rw [ldV_same (B := bk s) (fun i hi => rb_bk h.un h.dn (by omega))]
  exact h.jv.load
theorem SnRest.save {at_ room N : Nat} {last d : List Nat} {s : Dsk} (h : SnRest at_ room N last s) (hd : d.length ≤ room * 128) (hN : N + 1 ≤ 4611686018427387904) : SvEnd s.bl (slA at_ room ((N + 1) % 2)) room (N + 1) d (svR s at_ room d) := by
  have hn : (ldV (rb s) at_ room).2.1 = N := by
    rw [h.load]
    split
    · rename_i q; exact q.symm
    · rfl
  have e : svR s at_ room d = svF (slA at_ room ((N + 1) % 2)) (N + 1) d (svW (slA at_ room ((N + 1) % 2)) d ((d.length + 127) / 128) 0 s) := by
    unfold svR
    rw [if_neg (by omega), if_neg (by rw [h.dn]; simp), hn]
    unfold svN
    rw [if_neg (by omega)]
  rw [e]
  have hr := h.rm
  have := slA_lt (at_ := at_) (room := room) (which := (N + 1) % 2) (i := room) (by omega) hr (Nat.le_refl _)
  exact svF_end h.dn h.un (by omega) hd
theorem okD_svW (a : Nat) {d : List Nat} (hb : ∀ c ∈ d, c < 256) : ∀ (k i : Nat) (s : Dsk), OkD s → OkD (svW a d k i s).2 := by
  intro k
  induction k with
  | zero => intro i s h; exact h
  | succ k ih =>
    intro i s h
    have h2 := okD_wr h ((a + 1 + i : Nat) : Int) (ck d i) (ck_byte hb i)
    show OkD (if wrE s ((a + 1 + i : Nat) : Int) (ck d i) ≠ 0 then _ else _ : Nat × Dsk).2
    split
    · exact h2
    · exact ih _ _ h2
theorem okD_svR {s : Dsk} (at_ room : Nat) {d : List Nat} (h : OkD s) (hb : ∀ c ∈ d, c < 256) : OkD (svR s at_ room d).2.2 := by
  unfold svR
  split
  · exact h
  · split
    · exact h
    · unfold svN
      split
      · exact h
      · generalize hw : svW _ d _ 0 s = w
        have h1 : OkD w.2 := by rw [← hw]; exact okD_svW _ hb _ _ _ h
        unfold svF
        split
        · exact h1
        · split
          · exact okD_fl h1
          · have h2 := okD_fl h1
            unfold svH
            split
            · exact okD_wr h2 _ _ (hdB_ok _ _).2
            · split
              · exact okD_fl (okD_wr h2 _ _ (hdB_ok _ _).2)
              · exact okD_fl (okD_wr h2 _ _ (hdB_ok _ _).2)
theorem slA_out {at_ room N i : Nat} (hi : i ≤ room) : slA at_ room (N % 2) + i < slA at_ room ((N + 1) % 2) ∨ slA at_ room ((N + 1) % 2) + 1 + room ≤ slA at_ room (N % 2) + i := by
  unfold slA
  have : (N % 2 = 0 ∧ (N + 1) % 2 = 1) ∨ (N % 2 = 1 ∧ (N + 1) % 2 = 0) := by omega
  rcases this with ⟨q1, q2⟩ | ⟨q1, q2⟩ <;> rw [q1, q2] <;> omega
theorem getD_set (bl : List (List Nat)) (a i : Nat) (x : List Nat) (ha : a < bl.length) : (bl.set a x).getD i [] = if i = a then x else bl.getD i [] := by
  by_cases q : i = a
  · subst q; simp [List.getD, List.getElem?_set, ha]
  · rw [if_neg q]; simp [List.getD, List.getElem?_set, Ne.symm q]
theorem SnRest.life {at_ room N : Nat} {last d : List Nat} {s : Dsk} (h : SnRest at_ room N last s) (hd : d.length ≤ room * 128) (hb : ∀ c ∈ d, c < 256) (hN : N + 1 ≤ 4611686018427387904) (fs : List (Int × Int)) :
    ((svR s at_ room d).2.1 = 0 ∧ (svR s at_ room d).1 = N + 1 ∧ SnRest at_ room (N + 1) d (crS (svR s at_ room d).2.2 fs)) ∨
    ((svR s at_ room d).2.1 = 150 ∧ (svR s at_ room d).1 = 0 ∧ (SnRest at_ room N last (crS (svR s at_ room d).2.2 fs) ∨ SnRest at_ room (N + 1) d (crS (svR s at_ room d).2.2 fs))) := by
  have hE := h.save hd hN
  have hO := okD_cr (okD_svR at_ room (d := d) h.ok hb) fs
  have hr := h.rm
  generalize svR s at_ room d = r at *
  have hA := slA_lt (at_ := at_) (room := room) (which := (N + 1) % 2) (i := room) (by omega) hr (Nat.le_refl _)
  have hA0 : slA at_ room ((N + 1) % 2) < s.bl.length := by omega
  have hX : okb (bk s (slA at_ room ((N + 1) % 2))) := getD_ok h.ok.bl hA0
  have key : ∀ k (bl1 : List (List Nat)), k ≤ 128 → Laid s.bl bl1 (slA at_ room ((N + 1) % 2)) room d → (crS r.2.2 fs).bl = bl1.set (slA at_ room ((N + 1) % 2)) (torn k (hdB (N + 1) d) (bk s (slA at_ room ((N + 1) % 2)))) → (SnRest at_ room N last (crS r.2.2 fs) ∧ k ≠ 128) ∨ SnRest at_ room (N + 1) d (crS r.2.2 fs) := by
    intro k bl1 hk hL hbl
    have hlen : (crS r.2.2 fs).bl.length = s.bl.length := by rw [hbl, List.length_set, hL.len]
    have g : ∀ i, bk (crS r.2.2 fs) i = if i = slA at_ room ((N + 1) % 2) then torn k (hdB (N + 1) d) (bk s (slA at_ room ((N + 1) % 2))) else bl1.getD i [] := fun i => by
      unfold bk
      rw [hbl]
      exact getD_set _ _ _ _ (by rw [hL.len]; exact hA0)
    have hj := h.jv.torn (B' := bk (crS r.2.2 fs)) (d := d) hN hk hd h.rmax hX (fun i hi => by
        have ho := slA_out (at_ := at_) (N := N) hi
        rw [g, if_neg (by omega), hL.far _ (by omega)]
        rfl) (by rw [g, if_pos rfl]) (fun i hi => by
        have := getD_ok hO.bl (i := slA at_ room ((N + 1) % 2) + 1 + i) (by rw [hlen]; omega)
        exact this.1) (fun i hi hid => by
        rw [g, if_neg (by omega)]
        exact hL.txt i hi hid)
    rcases hj with ⟨hj, hk2⟩ | hj
    · exact Or.inl ⟨⟨hO, rfl, rfl, by rw [hlen]; exact hr, h.rmax, hj⟩, hk2⟩
    · exact Or.inr ⟨hO, rfl, rfl, by rw [hlen]; exact hr, h.rmax, hj⟩
  cases hE with
  | text e1 e2 e3 e4 =>
    right
    refine ⟨e2, e1, Or.inl ⟨hO, rfl, rfl, ?_, h.rmax, ?_⟩⟩
    · show _ ≤ (fall _ _ _).length
      rw [fall_len, e3]; exact hr
    · have far : ∀ i, (i < slA at_ room ((N + 1) % 2) + 1 ∨ slA at_ room ((N + 1) % 2) + 1 + room ≤ i) → bk (crS r.2.2 fs) i = bk s i := fun i hi => by
        show (fall r.2.2.un fs r.2.2.bl).getD i [] = _
        rw [fall_far _ _ _ _ (fun u hu => by have := e4 u hu; omega), e3]
        rfl
      refine h.jv.same (fun i hi => far _ ?_) ?_
      · have ho := slA_out (at_ := at_) (N := N) hi
        omega
      · rw [far _ (by omega)]
  | head hL e1 e2 e3 =>
    right
    refine ⟨e2, e1, ?_⟩
    have hx : r.2.2.bl.getD (slA at_ room ((N + 1) % 2)) [] = bk s (slA at_ room ((N + 1) % 2)) := hL.far _ (by omega)
    have hf : ∃ k, k ≤ 128 ∧ (crS r.2.2 fs).bl = r.2.2.bl.set (slA at_ room ((N + 1) % 2)) (torn k (hdB (N + 1) d) (bk s (slA at_ room ((N + 1) % 2)))) := by
      cases fs with
      | nil =>
        refine ⟨0, by omega, ?_⟩
        show fall _ [] _ = _
        rw [fall_nil, ← hx]
        have ht : torn 0 (hdB (N + 1) d) (r.2.2.bl.getD (slA at_ room ((N + 1) % 2)) []) = r.2.2.bl.getD (slA at_ room ((N + 1) % 2)) [] := by unfold torn; simp
        rw [ht]
        have hl : slA at_ room ((N + 1) % 2) < r.2.2.bl.length := by rw [hL.len]; exact hA0
        have e : r.2.2.bl.getD (slA at_ room ((N + 1) % 2)) [] = r.2.2.bl[slA at_ room ((N + 1) % 2)] := by simp [List.getD, hl]
        rw [e, List.set_getElem_self]
      | cons f fs =>
        refine ⟨fn f, fn_le f, ?_⟩
        show fall r.2.2.un (f :: fs) r.2.2.bl = _
        rw [e3, fall_cons, fall_none, hx]
    obtain ⟨k, hk, hk2⟩ := hf
    rcases key k _ hk hL hk2 with q | q
    · exact Or.inl q.1
    · exact Or.inr q
  | well bl1 hL e1 e2 e3 e4 e5 =>
    left
    refine ⟨e2, e1, ?_⟩
    have hbl : (crS r.2.2 fs).bl = bl1.set (slA at_ room ((N + 1) % 2)) (torn 128 (hdB (N + 1) d) (bk s (slA at_ room ((N + 1) % 2)))) := by
      show fall r.2.2.un fs r.2.2.bl = _
      rw [e4, fall_none, e3]
      congr 1
      unfold torn
      rw [List.take_of_length_le (by rw [hdB_len]; omega), List.drop_of_length_le (by rw [hX.1]; omega), List.append_nil]
    rcases key 128 bl1 (by omega) hL hbl with q | q
    · exact absurd rfl q.2
    · exact q
end Go.Proofs.YthnpdcblfocemaaGreatDoor
set_option linter.unusedVariables false
set_option linter.unusedSimpArgs false
namespace Go.Proofs.YthnpdcblfocemaaGreatDoor
open Go.RowKit

theorem below_drewP {B : Nat} {a w : World} (h : Below B a w) (k : Nat) : Below B a (w.drewN k) := ⟨h.os, h.tape, h.output, h.size, h.block⟩
theorem neF {x y : Int} (h : x = y) : (x != y) = false := by simp [h]
theorem neT {x y : Int} (h : ¬ x = y) : (x != y) = true := by simp [h]
theorem ext0 {α : Type} (d : α) {l m : List α} (h1 : l.length = m.length) (h2 : ∀ k, k < l.length → l.getD k d = m.getD k d) : l = m := by
  apply List.ext_getElem h1
  intro k q1 q2
  have := h2 k q1
  simpa [List.getD, q1, q2] using this
set_option maxRecDepth 100000 in
set_option maxHeartbeats 4000000 in
theorem sameB (va vb : Value) (l m : List Nat) (w : World) (hA : Bs w va l) (hB : Bs w vb m) :
    Calls Tryz.prog 20 #[va, vb] w fun e w' => e = .returned (.bool (decide (l = m))) ∧ Below w.heap.size w w' := by
  have HA : Hid (Bs w va l) := hA
  have HB : Hid (Bs w vb m) := hB
  obtain ⟨ad, cap, rfl, k1, k2⟩ := hA.len
  obtain ⟨bd, bap, rfl, q1, q2⟩ := hB.len
  unfold maxLen at k2 q2
  clear hA hB
  by_cases hlen : l.length = m.length
  · have HE : Hid (l.length = m.length) := hlen
    have hne : ((l.length : Int) != (m.length : Int)) = false := by simp [hlen]
    have hnI : (l.length : Int) = (m.length : Int) := by omega
    obtain ⟨n, hn⟩ : ∃ n, l.length = n := ⟨_, rfl⟩
    obtain ⟨n2, hn2⟩ : ∃ n2, m.length = n2 := ⟨_, rfl⟩
    have HN : Hid (l.length = n ∧ m.length = n) := ⟨hn, by omega⟩
    rw [hn, hn2] at hlen
    rw [hn] at k1 HA ⊢
    rw [hn2] at q1 HB ⊢
    subst hlen
    clear hn hn2 hnI HE hne
    go_enter Tryz.func20, Tryz.ntmps20
    go_upto_region 4 with fail
    go_loopw [5] (fun s5 wr => ∃ j : Nat, j ≤ n ∧ s5 = .int .i64 (j : Int) ∧ Hid (∀ k, k < j → l.getD k 0 = m.getD k 0) ∧ Hid (Below w.heap.size w wr)) (fun s5 _ => n - (intOf s5).toNat)
    case atStart => exact ⟨0, by omega, rfl, fun k hk => by omega, Below.refl _ _⟩
    case round =>
      obtain ⟨j, hj, rfl, HS, HW⟩ := hrel
      by_cases hlt : j < n
      · have hjI : (j : Int) < (n : Int) := by omega
        have hN := HN.out
        obtain ⟨b, o, rfl, ca⟩ := HA.out.cel j (by omega)
        obtain ⟨b2, o2, rfl, cb⟩ := HB.out.cel j (by omega)
        have cA := cell_later HW.out ca
        have cB := cell_later HW.out cb
        by_cases heq : l.getD j 0 = m.getD j 0
        · have HS2 : Hid (∀ k, k < j + 1 → l.getD k 0 = m.getD k 0) := fun k hk => by
            by_cases e : k = j
            · subst e; exact heq
            · exact HS.out k (by omega)
          have hne : (((l.getD j 0 : Nat) : Int) != ((m.getD j 0 : Nat) : Int)) = false := neF (by rw [heq])
          have heq2 : ((l.getD j 0 : Nat) : Int) = ((m.getD j 0 : Nat) : Int) := by rw [heq]
          clear ca cb HS hN heq
          generalize l.getD j 0 = x at *
          generalize m.getD j 0 = y at *
          go_wp2
          go_quiet (fail)
          go_wp2
          go_roundw
          case rel => exact ⟨j + 1, by omega, by go_num, HS2, below_drewP HW.out _⟩
          case measure => simp [intOf]; omega
        · have HF : Hid (decide (l = m) = false) := by
            show _ = _
            simp only [decide_eq_false_iff_not]
            intro e
            exact heq (by rw [e])
          have hne : (((l.getD j 0 : Nat) : Int) != ((m.getD j 0 : Nat) : Int)) = true := neT (by omega)
          have heq2 : ¬ ((l.getD j 0 : Nat) : Int) = ((m.getD j 0 : Nat) : Int) := by omega
          clear ca cb HS hN heq
          generalize l.getD j 0 = x at *
          generalize m.getD j 0 = y at *
          go_wp2
          go_quiet (fail)
          go_wp2
          go_ret
          exact ⟨by rw [HF.out]; rfl, below_drewP HW.out _⟩
      · obtain rfl : j = n := by omega
        have hjI : ¬ (j : Int) < (j : Int) := by omega
        have HF : Hid (decide (l = m) = true) := by
          show _ = _
          simp only [decide_eq_true_eq]
          have hN := HN.out
          exact ext0 0 (by omega) (fun k hk => HS.out k (by omega))
        go_wp2
        go_ret
        exact ⟨by rw [HF.out]; rfl, HW.out⟩
  · have hne : ((l.length : Int) != (m.length : Int)) = true := neT (by omega)
    have hnI : ¬ (l.length : Int) = (m.length : Int) := by omega
    have HF : Hid (decide (l = m) = false) := by
      show _ = _
      simp only [decide_eq_false_iff_not]
      intro e
      exact hlen (by rw [e])
    rw [HF.out]
    clear HA HB
    go_enter Tryz.func20, Tryz.ntmps20
    go_wp2
    go_ret
    exact ⟨rfl, Below.refl _ _⟩
end Go.Proofs.YthnpdcblfocemaaGreatDoor
set_option linter.unusedVariables false
set_option linter.unusedSimpArgs false
namespace Go.Proofs.YthnpdcblfocemaaGreatDoor
open Go.RowKit

def Fts (w : World) (v : Value) (fs : List (Int × Int)) : Prop :=
  ∃ (ad : Option Addr) (cap b o : Nat), v = .slice ad fs.length cap ∧ fs.length ≤ cap ∧ cap ≤ maxLen ∧ (0 < fs.length → ad = some ⟨b, o, none⟩) ∧
    ∀ j, j < fs.length → w.cell? ⟨b, o + j * 2, none⟩ = some (.int .i64 (fs.getD j (0, 0)).1) ∧ w.cell? ⟨b, o + j * 2 + 1, none⟩ = some (.int .i64 (fs.getD j (0, 0)).2)
theorem Fts.later {w w' : World} {v : Value} {fs : List (Int × Int)} (h : Fts w v fs) (k : Below w.heap.size w w') : Fts w' v fs := by
  obtain ⟨ad, cap, b, o, e, h1, h2, h3, h4⟩ := h
  exact ⟨ad, cap, b, o, e, h1, h2, h3, fun j hj => ⟨cell_later k (h4 j hj).1, cell_later k (h4 j hj).2⟩⟩
theorem fts_nil (w : World) : Fts w (.slice none 0 0) [] := ⟨none, 0, 0, 0, rfl, Nat.le_refl _, Nat.zero_le _, fun h => by simp at h, fun j hj => by simp at hj⟩
def Bd64 (n : Int) : Prop := -9223372036854775808 ≤ n ∧ n ≤ 9223372036854775807
def Uf (w : World) (v : Value) : Prop := ∀ (b o n cap : Nat), v = .slice (some ⟨b, o, none⟩) n cap → ∀ k, k < n → w.frozen? ⟨b, o + k, none⟩ = false
def Ad (T : World → Value → (Nat → Prop) → Dsk → Prop) (p : Value) (F : Nat → Prop) (s : Dsk) (w w' : World) : Prop := ∃ F' : Nat → Prop, T w' p F' s ∧ Gr F F' w ∧ Kp F w w'
structure Disk1 where
  Dt : World → Value → (Nat → Prop) → Dsk → Prop
  dtK : ∀ {w w' : World} {p : Value} {F : Nat → Prop} {s : Dsk}, Dt w p F s → (∀ k, F k → w'.heap[k]? = w.heap[k]?) → w.heap.size ≤ w'.heap.size → Dt w' p F s
  dtB : ∀ {w : World} {p : Value} {F : Nat → Prop} {s : Dsk}, Dt w p F s → ∀ k, F k → k < w.heap.size
  dtO : ∀ {w : World} {p : Value} {F : Nat → Prop} {s : Dsk}, Dt w p F s → OkD s
  new : ∀ (w : World) (n : Nat), 1 ≤ n → n ≤ 16384 →
    Calls Tryz.prog 6 #[.int .i64 (n : Int)] w fun e w' => ∃ p F, e = .returned (.tuple #[p, .int .i64 0]) ∧ Dt w' p F (dNew n) ∧ (∀ k, F k → w.heap.size ≤ k) ∧ Below w.heap.size w w'
  newN : ∀ (w : World) (n : Int), n < 1 ∨ 16384 < n →
    Calls Tryz.prog 6 #[.int .i64 n] w fun e w' => e = .returned (.tuple #[.pointer none, .int .i64 2]) ∧ Below w.heap.size w w'
  write : ∀ (w : World) (p : Value) (F : Nat → Prop) (s : Dsk) (i : Int) (v : Value) (b : List Nat), Dt w p F s → Bs w v b → Nf F v → (∀ c ∈ b, c < 256) → b.length ≤ 2000000 → s.un.length ≤ 1000 →
    Calls Tryz.prog 77 #[p, .int .i64 i, v] w fun e w' => e = .returned (.int .i64 ((wrE s i b : Nat) : Int)) ∧ Ad Dt p F (wrS s i b) w w'
  read : ∀ (w : World) (p : Value) (F : Nat → Prop) (s : Dsk) (i : Int), Dt w p F s →
    Calls Tryz.prog 87 #[p, .int .i64 i] w fun e w' => ∃ v, e = .returned (.tuple #[v, .int .i64 ((dAsk s i : Nat) : Int)]) ∧ Bs w' v (rdB s i) ∧ (Ow w.heap.size v ∧ Uf w' v) ∧ Below w.heap.size w w'
  safeY : ∀ (w : World) (p : Value) (F : Nat → Prop) (s : Dsk) (i : Nat), Dt w p F s → i < s.bl.length →
    Calls Tryz.prog 26 #[p, .int .i64 (i : Int)] w fun e w' => ∃ v, e = .returned (.tuple #[v, .int .i64 0]) ∧ Bs w' v (s.bl.getD i []) ∧ Ow w.heap.size v ∧ Below w.heap.size w w'
  safeN : ∀ (w : World) (p : Value) (F : Nat → Prop) (s : Dsk) (i : Int), Dt w p F s → i < 0 ∨ (s.bl.length : Int) ≤ i →
    Calls Tryz.prog 26 #[p, .int .i64 i] w fun e w' => ∃ v, e = .returned (.tuple #[v, .int .i64 151]) ∧ Bs w' v [] ∧ Below w.heap.size w w'
  flush : ∀ (w : World) (p : Value) (F : Nat → Prop) (s : Dsk), Dt w p F s → s.un.length ≤ 1000 →
    Calls Tryz.prog 78 #[p] w fun e w' => e = .returned (.int .i64 ((flE s : Nat) : Int)) ∧ Ad Dt p F (flS s) w w'
  arm : ∀ (w : World) (p : Value) (F : Nat → Prop) (s : Dsk) (n : Int), Dt w p F s → Bd64 n →
    Calls Tryz.prog 15 #[p, .int .i64 n] w fun e w' => e = .returned (.tuple #[]) ∧ Ad Dt p F (arS s n) w w'
  blocks : ∀ (w : World) (p : Value) (F : Nat → Prop) (s : Dsk), Dt w p F s →
    Calls Tryz.prog 49 #[p] w fun e w' => e = .returned (.int .i64 ((s.bl.length : Nat) : Int)) ∧ Below w.heap.size w w'
  down : ∀ (w : World) (p : Value) (F : Nat → Prop) (s : Dsk), Dt w p F s →
    Calls Tryz.prog 25 #[p] w fun e w' => e = .returned (.bool s.dn) ∧ Below w.heap.size w w'
  crash : ∀ (w : World) (p : Value) (F : Nat → Prop) (s : Dsk) (v : Value) (fs : List (Int × Int)), Dt w p F s → Fts w v fs → Nf F v → fs.length ≤ 1000 → s.un.length ≤ 1000 →
    Calls Tryz.prog 17 #[p, v] w fun e w' => e = .returned (.int .i64 0) ∧ Ad Dt p F (crS s fs) w w'
def Dw (V : Disk1) (w0 w : World) (p : Value) (s : Dsk) : Prop := ∃ F : Nat → Prop, V.Dt w p F s ∧ (∀ k, F k → w0.heap.size ≤ k) ∧ Below w0.heap.size w0 w
theorem dwNew (V : Disk1) (w0 w : World) (n : Nat) (h1 : 1 ≤ n) (h2 : n ≤ 16384) (hb : Below w0.heap.size w0 w) : Calls Tryz.prog 6 #[.int .i64 (n : Int)] w fun e w' => ∃ p, e = .returned (.tuple #[p, .int .i64 0]) ∧ Dw V w0 w' p (dNew n) :=
  (V.new w n h1 h2).mono fun e w' ⟨p, F, q1, q2, q3, q4⟩ => ⟨p, q1, F, q2, fun k hk => Nat.le_trans hb.size (q3 k hk), bchain hb q4⟩
theorem make_by15 (n : Nat) (hn : n ≤ 2000000) (w : World) : (Instr.makeSlice 30 (.int .i64 (n : Int)) (.int .i64 (n : Int))).run Tryz.prog w = .ok (.slice (some ⟨w.heap.size, 0, none⟩) n n) (w.alloc (.cells (madeCells #[.int .u8 0] n) 5)) := by
  obtain ⟨i0, hi, hz0, hz1, hz2⟩ := info_parts dinfo_byte
  have h := run_make (P := Tryz.prog) w 30 5 i0 (.int .u8 0) Tryz.underlying30 hi hz0 .i64 .i64 (n : Int) (n : Int) (by omega) (by omega) (by rw [hz2]; omega) (by omega)
  rw [hz1, Nat.mul_one] at h
  exact h
theorem full_get (b : List Nat) (k : Nat) : (full b).getD k 0 = b.getD k 0 := by
  unfold full
  simp only [List.getD, List.getElem?_append]
  split
  · rfl
  · rename_i q
    rw [List.getElem?_eq_none (l := b) (by omega), List.getElem?_replicate]
    split <;> rfl
theorem full_len {b : List Nat} (h : b.length ≤ 128) : (full b).length = 128 := by
  unfold full
  rw [List.length_append, List.length_replicate]
  omega
set_option maxRecDepth 100000 in
set_option maxHeartbeats 4000000 in
theorem refFull (v : Value) (l : List Nat) (hl : l.length ≤ 128) (w : World) (h : Bs w v l) :
    Calls Tryz.prog 80 #[v] w fun e w' => ∃ v', e = .returned v' ∧ Bs w' v' (full l) ∧ Ow w.heap.size v' ∧ Below w.heap.size w w' := by
  have HL : Hid (Bs w v l) := h
  obtain ⟨ad, cap, rfl, k1, k2⟩ := h.len
  obtain ⟨n, hn⟩ : ∃ n, l.length = n := ⟨_, rfl⟩
  have HN : Hid (l.length = n) := hn
  rw [hn] at k1 hl HL ⊢
  clear h hn
  have hmk : ∀ W : World, (Instr.makeSlice 30 (.int .i64 128) (.int .i64 128)).run Tryz.prog W = .ok (.slice (some ⟨W.heap.size, 0, none⟩) 128 128) (W.alloc (.cells (madeCells #[.int .u8 0] 128) 5)) := fun W => make_by15 128 (by omega) W
  obtain ⟨wA, hwA⟩ : ∃ wA, wA = w.alloc (.cells (madeCells #[.int .u8 0] 128) 5) := ⟨_, rfl⟩
  have HA : Hid (Rw w.heap.size 128 (by8 (fun _ => 0)) wA ∧ Below w.heap.size w wA ∧ wA.heap.size = w.heap.size + 1) := by
    rw [hwA]
    exact ⟨Rw.made w (.int .u8 0) 128 5, bel1 _ _, by simp⟩
  go_enter Tryz.func80, Tryz.ntmps80
  go_upto_region 3 with fail
  rw [← hwA]
  clear hwA hmk
  go_loopw [4] (fun s4 wr => ∃ j : Nat, j ≤ n ∧ s4 = .int .i64 (j : Int) ∧ Hid (Rw w.heap.size 128 (by8 (fun k => if k < j then l.getD k 0 else 0)) wr) ∧ Hid (Below w.heap.size w wr)) (fun s4 _ => n - (intOf s4).toNat)
  case atStart => exact ⟨0, by omega, rfl, HA.out.1.congr (fun k _ => by simp [by8]), HA.out.2.1⟩
  case round =>
    obtain ⟨j, hj, rfl, HR, HB⟩ := hrel
    by_cases hlt : j < n
    · have hjI : (j : Int) < (n : Int) := by omega
      have hj8 : (j : Int) < 128 := by omega
      have hN := HN.out
      obtain ⟨b, o, rfl, ca⟩ := HL.out.cel j (by omega)
      have hbw : b < w.heap.size := World.block_lt_of_cell? _ _ ca
      have cA : wr.cell? ⟨b, o + j, none⟩ = some (.int .u8 ((l.getD j 0 : Nat) : Int)) := (HB.out.cell hbw).trans ca
      have cB := HR.out.c j (by omega)
      have fB := HR.out.f j (by omega)
      have HR2 : Hid (Rw w.heap.size 128 (by8 (fun k => if k < j + 1 then l.getD k 0 else 0)) (wr.setCell ⟨w.heap.size, j, none⟩ (.int .u8 ((l.getD j 0 : Nat) : Int)))) := by
        refine (HR.out.set j _).congr (fun k hk => ?_)
        unfold by8
        by_cases e : k = j
        · subst e; simp
        · by_cases e2 : k < j
          · simp [e, e2, show k < j + 1 by omega]
          · simp [e, e2, show ¬ k < j + 1 by omega]
      have HB2 : Hid (Below w.heap.size w (wr.setCell ⟨w.heap.size, j, none⟩ (.int .u8 ((l.getD j 0 : Nat) : Int)))) := HB.out.setCell (Nat.le_refl _) _
      clear ca hbw hN HR HB
      generalize l.getD j 0 = x at *
      go_wp2
      go_roundw
      case rel => exact ⟨j + 1, by omega, by go_num, HR2, HB2⟩
      case measure => simp [intOf]; omega
    · obtain rfl : j = n := by omega
      have hjI : ¬ (j : Int) < (j : Int) := by omega
      have HF : Hid (Bs wr (.slice (some ⟨w.heap.size, 0, none⟩) 128 128) (full l)) := by
        have e := full_len (b := l) (by have := HN.out; omega)
        refine ⟨_, 128, w.heap.size, 0, by rw [e], by omega, ⟨by unfold maxLen; omega, fun e => by cases e⟩, fun _ => rfl, fun k hk => ?_⟩
        rw [e] at hk
        rw [Nat.zero_add, HR.out.c k hk]
        unfold by8 b8f
        rw [full_get]
        by_cases q : k < j
        · simp [q]
        · have : l.getD k 0 = 0 := by simp [List.getD, List.getElem?_eq_none (l := l) (i := k) (by have := HN.out; omega)]
          rw [this]
          simp [q]
      go_wp2
      go_ret
      exact ⟨_, rfl, HF.out, fun a n c e hn => by cases e; exact Nat.le_refl _, HB.out⟩
end Go.Proofs.YthnpdcblfocemaaGreatDoor
