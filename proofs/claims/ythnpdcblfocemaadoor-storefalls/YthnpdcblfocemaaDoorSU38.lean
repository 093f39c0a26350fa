/-
  Texts of this proof, joined: StFits.
-/
import Derived.Test.YthnpdcblfocemaaDoorSU07
import Derived.Test.YthnpdcblfocemaaDoorSU34
import Derived.BigQuiet
set_option linter.unusedVariables false
set_option linter.unusedSimpArgs false
namespace Go.Proofs.YthnpdcblfocemaaDoor
open Go.RowKit

theorem TxC.lsc {w : World} {v : Value} {ls : List (List Nat)} {cs : List Value} (h : TxC w v ls cs) : LsC w v ls.length cs := by
  obtain ⟨ad, cap, b, o, h1, h2, h3, h4, h5, h6, h7⟩ := h
  refine ⟨h6, fun u hu => ?_, ?_⟩
  · obtain ⟨k, hk⟩ := List.getElem?_of_mem hu
    have hkl : k < cs.length := (List.getElem?_eq_some_iff.1 hk).1
    obtain ⟨y, e1, -, e2⟩ := h7 k (by omega)
    rw [e1] at hk
    cases hk
    obtain ⟨a, c, e, -, -⟩ := e2.len
    rw [e]
    rfl
  · cases ad with
    | none =>
      left
      have h0 : cap = 0 := h4 rfl
      have hl : ls.length = 0 := by omega
      rw [h1, h0, hl]
      exact ⟨rfl, rfl⟩
    | some a =>
      right
      refine ⟨a, cap, h1, fun j u hj => ?_⟩
      have hjl : j < cs.length := (List.getElem?_eq_some_iff.1 hj).1
      have e := h5 (by omega)
      injection e with e
      subst e
      obtain ⟨x, e1, e2, -⟩ := h7 j (by omega)
      rw [e1] at hj
      cases hj
      rw [Addr.add_lit]
      exact e2
theorem TxC.later {w w' : World} {v : Value} {ls : List (List Nat)} {cs : List Value} (h : TxC w v ls cs) (k : Below w.heap.size w w') : TxC w' v ls cs := by
  obtain ⟨ad, cap, b, o, h1, h2, h3, h4, h5, h6, h7⟩ := h
  exact ⟨ad, cap, b, o, h1, h2, h3, h4, h5, h6, fun j hj => by obtain ⟨x, e1, e2, e3⟩ := h7 j hj; exact ⟨x, e1, cell_later k e2, e3.later k⟩⟩
theorem TxC.cells {w : World} {v : Value} {ls : List (List Nat)} {cs : List Value} (h : TxC w v ls cs) : cs.length = ls.length ∧ ∀ k, k < ls.length → ∃ y : Value, cs[k]? = some y ∧ Bs w y (ls.getD k []) := by
  obtain ⟨ad, cap, b, o, h1, h2, h3, h4, h5, h6, h7⟩ := h
  exact ⟨h6, fun k hk => by obtain ⟨x, e1, -, e3⟩ := h7 k hk; exact ⟨x, e1, e3⟩⟩
structure Kb18 (b : Nat) (vB vL vN : Value) (sv ad : Bool) (w : World) : Prop where
  k0 : w.cell? ⟨b, 0, none⟩ = some vB
  k1 : w.cell? ⟨b, 1, none⟩ = some vL
  k3 : w.cell? ⟨b, 3, none⟩ = some vN
  k4 : w.cell? ⟨b, 4, none⟩ = some (.bool sv)
  k5 : w.cell? ⟨b, 5, none⟩ = some (.bool ad)
theorem kb_later {b : Nat} {vB vL vN : Value} {sv ad : Bool} {w w' : World} (k : Below w.heap.size w w') (h : Kb18 b vB vL vN sv ad w) : Kb18 b vB vL vN sv ad w' := ⟨cell_later k h.k0, cell_later k h.k1, cell_later k h.k3, cell_later k h.k4, cell_later k h.k5⟩
theorem txs_app18 {w : World} {B : Nat} {v : Value} {ls : List (List Nat)} {cs : List Value} {x : Value} {t : List Nat} (ho : w.ownsRow B 22 1 v (ls.length + 1) (cs ++ [x])) (hl : cs.length = ls.length) (h : ∀ k, k < ls.length → ∃ y : Value, cs[k]? = some y ∧ Bs w y (ls.getD k [])) (hp : Bs w x t) : Txs w v (ls ++ [t]) := by
  rcases id ho.2 with ⟨rfl, h0⟩ | ⟨g, c, cur, rfl, hbg, hg, hnc, hcm, hcs, htake⟩
  · omega
  · have hlen : (ls ++ [t]).length = ls.length + 1 := by rw [List.length_append]; rfl
    refine ⟨_, c, g, 0, by rw [hlen], by omega, hcm, fun _ => rfl, fun j hj => ?_⟩
    rw [hlen] at hj
    have hc := ho.cellAt j (by omega)
    rw [Nat.zero_add]
    by_cases q : j < ls.length
    · obtain ⟨y, e1, e2⟩ := h j q
      refine ⟨y, by rw [hc, List.getElem?_append_left (by omega)]; exact e1, ?_⟩
      have : (ls ++ [t]).getD j [] = ls.getD j [] := by simp [List.getD, List.getElem?_append_left q]
      rw [this]
      exact e2
    · have hj2 : j = ls.length := by omega
      subst hj2
      refine ⟨x, by rw [hc, List.getElem?_append_right (by omega), hl, Nat.sub_self]; rfl, ?_⟩
      have : (ls ++ [t]).getD ls.length [] = t := by simp [List.getD]
      rw [this]
      exact hp
set_option maxRecDepth 100000 in
set_option maxHeartbeats 8000000 in
theorem fits18 (w : World) (vB vL vN vb vl : Value) (last nx b : List Nat) (rs l : List (List Nat)) (cs : List Value) (ay sv ad : Bool) (h0 : Bs w vB last) (h1 : TxC w vL rs cs) (h3 : Bs w vN nx) (hb : Bs w vb b) (hl : Txs w vl l) (hrs : rs.length ≤ 1000)
    (hf : (b = last ∧ l = rs) ∨ (sv = true ∧ b = nx ∧ l = []) ∨ (sv = false ∧ ad = true ∧ b = last ∧ l = rs ++ [nx])) :
    Calls Tryd.prog 16 #[.agg #[vB, vL, .bool ay, vN, .bool sv, .bool ad], vb, vl] w fun e w' => e = .returned (.bool true) ∧ Below w.heap.size w w' := by
  have HA : Hid (Bs w vB last ∧ TxC w vL rs cs ∧ Bs w vN nx ∧ Bs w vb b ∧ Txs w vl l ∧ rs.length ≤ 1000) := ⟨h0, h1, h3, hb, hl, hrs⟩
  have HF : Hid ((b = last ∧ l = rs) ∨ (sv = true ∧ b = nx ∧ l = []) ∨ (sv = false ∧ ad = true ∧ b = last ∧ l = rs ++ [nx])) := hf
  obtain ⟨aB, cB, rfl, -, -⟩ := h0.len
  obtain ⟨aL, cL, rfl, -, -⟩ := h1.txs.len
  obtain ⟨aN, cN, rfl, -, -⟩ := h3.len
  obtain ⟨ab, cb, rfl, -, -⟩ := hb.len
  obtain ⟨al, cl, rfl, -, -⟩ := hl.len
  obtain ⟨nB, hnB⟩ : ∃ x, last.length = x := ⟨_, rfl⟩
  obtain ⟨nL, hnL⟩ : ∃ x, rs.length = x := ⟨_, rfl⟩
  obtain ⟨nN, hnN⟩ : ∃ x, nx.length = x := ⟨_, rfl⟩
  obtain ⟨nb, hnb⟩ : ∃ x, b.length = x := ⟨_, rfl⟩
  obtain ⟨nl, hnl⟩ : ∃ x, l.length = x := ⟨_, rfl⟩
  have HNl : Hid (l.length = nl ∧ rs.length = nL) := ⟨hnl, hnL⟩
  rw [hnB, hnL, hnN, hnb, hnl] at HA
  rw [hnB, hnL, hnN, hnb, hnl]
  clear h0 h1 h3 hb hl hf hnB hnL hnN hnb hnl hrs
  go_enter Tryd.func16, Tryd.ntmps16
  go_upto_region 1 with fail
  obtain ⟨wA, hwA⟩ : ∃ wA, wA = w.alloc (.cells #[.slice aB nB cB, .slice aL nL cL, .bool ay, .slice aN nN cN, .bool sv, .bool ad] 45) := ⟨_, rfl⟩
  have HK : Hid (Kb18 w.heap.size (.slice aB nB cB) (.slice aL nL cL) (.slice aN nN cN) sv ad wA) := by
    rw [hwA]
    exact ⟨by simp [go_sem], by simp [go_sem], by simp [go_sem], by simp [go_sem], by simp [go_sem]⟩
  have HB0 : Hid (Below w.heap.size w wA) := by rw [hwA]; exact bel1 _ _
  rw [← hwA]
  clear hwA
  obtain ⟨kb, hkb⟩ : ∃ kb, w.heap.size = kb := ⟨_, rfl⟩
  rw [hkb] at HK
  try rw [hkb]
  clear hkb
  have y0 := HK.out.k0
  go_wp2_with fail
  refine (sameB _ _ _ _ wA (HA.out.2.2.2.1.later HB0.out) (HA.out.1.later HB0.out)).mono ?_
  rintro e w1 ⟨rfl, hb1⟩
  have HX1 : Hid (Kb18 kb (.slice aB nB cB) (.slice aL nL cL) (.slice aN nN cN) sv ad w1 ∧ Below w.heap.size w w1) := ⟨kb_later hb1 HK.out, bchain HB0.out hb1⟩
  clear hb1 HK HB0 y0
  by_cases hbl : b = last
  · rw [decide_eq_true hbl]
    have y1 := HX1.out.1.k1
    go_wp2_with fail
    refine (texts18 _ _ _ _ w1 (HA.out.2.2.2.2.1.later HX1.out.2) (HA.out.2.1.later HX1.out.2).txs).mono ?_
    rintro e w2 ⟨rfl, hb2⟩
    have HX : Hid (Kb18 kb (.slice aB nB cB) (.slice aL nL cL) (.slice aN nN cN) sv ad w2 ∧ Below w.heap.size w w2) := ⟨kb_later hb2 HX1.out.1, bchain HX1.out.2 hb2⟩
    clear hb2 HX1 y1
    by_cases hll : l = rs
    · rw [decide_eq_true hll]
      go_wp2_with fail
      go_ret
      exact ⟨rfl, HX.out.2⟩
    · rw [decide_eq_false hll]
      have HF2 : Hid ((sv = true ∧ b = nx ∧ l = []) ∨ (sv = false ∧ ad = true ∧ b = last ∧ l = rs ++ [nx])) := by
        rcases HF.out with h | h
        · exact absurd h.2 hll
        · exact h
      clear hll hbl HF
      have z4 := HX.out.1.k4
      have z3 := HX.out.1.k3
      cases sv with
      | true =>
        have HE2 : Hid (b = nx ∧ nl = 0) := by
          rcases HF2.out with ⟨-, h1, h2⟩ | ⟨h, -⟩
          · exact ⟨h1, by have h3 := HNl.out.1; rw [h2] at h3; exact h3.symm⟩
          · cases h
        obtain rfl : nl = 0 := HE2.out.2
        go_wp2_with fail
        refine (sameB _ _ _ _ w2 (HA.out.2.2.2.1.later HX.out.2) (HA.out.2.2.1.later HX.out.2)).mono ?_
        rintro e w5 ⟨rfl, hb5⟩
        rw [decide_eq_true HE2.out.1]
        have HZ : Hid (Below w.heap.size w w5) := bchain HX.out.2 hb5
        clear hb5
        go_wp2_with fail
        go_ret
        exact ⟨rfl, HZ.out⟩
      | false =>
        have HE3 : Hid (ad = true ∧ b = last ∧ l = rs ++ [nx]) := by
          rcases HF2.out with ⟨h, -⟩ | ⟨-, h1, h2, h3⟩
          · cases h
          · exact ⟨h1, h2, h3⟩
        obtain rfl : ad = true := HE3.out.1
        go_upto_region 5 with fail
        refine wp_region_held_drew (S := Kb18 kb (.slice aB nB cB) (.slice aL nL cL) (.slice aN nN cN) false true) (by kernel_rfl) (kb_later ((Below.refl _ _).drew) HX.out.1) (fun HS => ?_)
        have HW5 : Hid (Below w.heap.size w w2.drew) := bchain HX.out.2 ((Below.refl _ _).drew)
        have HA5 : Hid (Bs w2.drew (.slice ab nb cb) b ∧ Bs w2.drew (.slice aB nB cB) last ∧ Bs w2.drew (.slice aN nN cN) nx ∧ Txs w2.drew (.slice al nl cl) l ∧ TxC w2.drew (.slice aL nL cL) rs cs) := ⟨HA.out.2.2.2.1.later HW5.out, HA.out.1.later HW5.out, HA.out.2.2.1.later HW5.out, HA.out.2.2.2.2.1.later HW5.out, HA.out.2.1.later HW5.out⟩
        generalize w2.drew = qd at *
        refine wpAnyH_take (i := 0) (v := ?v1) rfl (by kernel_rfl) (by kernel_rfl) (by kernel_rfl) (fun _ _ _ h => h) (Or.inl ⟨by kernel_rfl, ?h1⟩) HS ?r1
        case h1 => (rintro w ⟨n0, n1, n3, n4, n5⟩; go_simp) <;> with_reducible rfl
        try simp only [Act.put, List.getElem_toArray, List.getElem_cons_succ, List.getElem_cons_zero, List.setIfInBounds_toArray, List.set_cons_zero, List.set_cons_succ]
        refine wpAnyH_take (i := 1) (v := ?v2) rfl (by kernel_rfl) (by kernel_rfl) (by kernel_rfl) (fun _ _ _ h => h) (Or.inl ⟨by kernel_rfl, ?h2⟩) HS ?r2
        case h2 => (rintro w ⟨n0, n1, n3, n4, n5⟩; go_simp) <;> with_reducible rfl
        try simp only [Act.put, List.getElem_toArray, List.getElem_cons_succ, List.getElem_cons_zero, List.setIfInBounds_toArray, List.set_cons_zero, List.set_cons_succ]
        refine wpAnyH_take (i := 2) (v := ?v3) rfl (by kernel_rfl) (by kernel_rfl) (by kernel_rfl) (fun _ _ _ h => h) (Or.inl ⟨by kernel_rfl, ?h3⟩) HS ?r3
        case h3 => (rintro w ⟨n0, n1, n3, n4, n5⟩; go_simp) <;> with_reducible rfl
        try simp only [Act.put, List.getElem_toArray, List.getElem_cons_succ, List.getElem_cons_zero, List.setIfInBounds_toArray, List.set_cons_zero, List.set_cons_succ]
        refine wpAnyH_take (i := 3) (v := ?v4) rfl (by kernel_rfl) (by kernel_rfl) (by kernel_rfl) (fun _ _ _ h => h) (Or.inl ⟨by kernel_rfl, ?h4⟩) HS ?r4
        case h4 => (rintro w ⟨n0, n1, n3, n4, n5⟩; go_simp) <;> with_reducible rfl
        try simp only [Act.put, List.getElem_toArray, List.getElem_cons_succ, List.getElem_cons_zero, List.setIfInBounds_toArray, List.set_cons_zero, List.set_cons_succ]
        refine wpAnyH_take (i := 4) (v := ?v5) rfl (by kernel_rfl) (by kernel_rfl) (by kernel_rfl) (fun _ _ _ h => h) (Or.inl ⟨by kernel_rfl, ?h5⟩) HS ?r5
        case h5 => (rintro w ⟨n0, n1, n3, n4, n5⟩; go_simp) <;> with_reducible rfl
        try simp only [Act.put, List.getElem_toArray, List.getElem_cons_succ, List.getElem_cons_zero, List.setIfInBounds_toArray, List.set_cons_zero, List.set_cons_succ]
        refine wpAnyH_take (i := 5) (v := ?v6) rfl (by kernel_rfl) (by kernel_rfl) (by kernel_rfl) (fun _ _ _ h => h) (Or.inl ⟨by kernel_rfl, ?h6⟩) HS ?r6
        case h6 => (rintro w ⟨n0, n1, n3, n4, n5⟩; go_simp) <;> with_reducible rfl
        try simp only [Act.put, List.getElem_toArray, List.getElem_cons_succ, List.getElem_cons_zero, List.setIfInBounds_toArray, List.set_cons_zero, List.set_cons_succ]
        refine wpAnyH_ready (rs := [6]) (by kernel_rfl) (by simp) ?_
        refine AllReadyH.cons rfl (fun K hK => ?_) AllReadyH.nil
        go_simp
        refine (sameB _ _ _ _ qd HA5.out.1 HA5.out.2.1).mono ?_
        rintro e q0 ⟨rfl, hb6⟩
        rw [decide_eq_true HE3.out.2.1]
        have HQ6 : Hid (Below qd.heap.size qd q0) := hb6
        refine hK.out _ _ (kb_later hb6 HS) (fun HS => ?_)
        clear hK K hb6
        try simp only [Act.put, List.getElem_toArray, List.getElem_cons_succ, List.getElem_cons_zero, List.setIfInBounds_toArray, List.set_cons_zero, List.set_cons_succ]
        refine wpAnyH_take (i := 7) (v := ?v7) rfl (by kernel_rfl) (by kernel_rfl) (by kernel_rfl) (fun _ _ _ h => h) (Or.inl ⟨by kernel_rfl, ?h7⟩) HS ?r7
        case h7 => (rintro w ⟨n0, n1, n3, n4, n5⟩; go_simp) <;> with_reducible rfl
        try simp only [Act.put, List.getElem_toArray, List.getElem_cons_succ, List.getElem_cons_zero, List.setIfInBounds_toArray, List.set_cons_zero, List.set_cons_succ]
        refine wpAnyH_take (i := 8) (v := ?v8) rfl (by kernel_rfl) (by kernel_rfl) (by kernel_rfl) (fun _ _ _ h => h) (Or.inl ⟨by kernel_rfl, ?h8⟩) HS ?r8
        case h8 => (rintro w ⟨n0, n1, n3, n4, n5⟩; go_simp) <;> with_reducible rfl
        try simp only [Act.put, List.getElem_toArray, List.getElem_cons_succ, List.getElem_cons_zero, List.setIfInBounds_toArray, List.set_cons_zero, List.set_cons_succ]
        refine wpAnyH_take (i := 9) (v := ?v9) rfl (by kernel_rfl) (by kernel_rfl) (by kernel_rfl) (fun _ _ _ h => h) (Or.inl ⟨by kernel_rfl, ?h9⟩) HS ?r9
        case h9 => (rintro w ⟨n0, n1, n3, n4, n5⟩; go_simp) <;> with_reducible rfl
        try simp only [Act.put, List.getElem_toArray, List.getElem_cons_succ, List.getElem_cons_zero, List.setIfInBounds_toArray, List.set_cons_zero, List.set_cons_succ]
        refine wpAnyH_take (i := 11) (v := ?v10) rfl (by kernel_rfl) (by kernel_rfl) (by kernel_rfl) (fun _ _ _ h => h) (Or.inl ⟨by kernel_rfl, ?h10⟩) HS ?r10
        case h10 => (rintro w ⟨n0, n1, n3, n4, n5⟩; go_simp) <;> with_reducible rfl
        try simp only [Act.put, List.getElem_toArray, List.getElem_cons_succ, List.getElem_cons_zero, List.setIfInBounds_toArray, List.set_cons_zero, List.set_cons_succ]
        refine wpAnyH_take (i := 12) (v := ?v11) rfl (by kernel_rfl) (by kernel_rfl) (by kernel_rfl) (fun _ _ _ h => h) (Or.inl ⟨by kernel_rfl, ?h11⟩) HS ?r11
        case h11 => (rintro w ⟨n0, n1, n3, n4, n5⟩; go_simp) <;> with_reducible rfl
        try simp only [Act.put, List.getElem_toArray, List.getElem_cons_succ, List.getElem_cons_zero, List.setIfInBounds_toArray, List.set_cons_zero, List.set_cons_succ]
        refine wpAnyH_take (i := 14) (v := ?v12) rfl (by kernel_rfl) (by kernel_rfl) (by kernel_rfl) (fun _ _ _ h => h) (Or.inl ⟨by kernel_rfl, ?h12⟩) HS ?r12
        case h12 => (rintro w ⟨n0, n1, n3, n4, n5⟩; go_simp) <;> with_reducible rfl
        try simp only [Act.put, List.getElem_toArray, List.getElem_cons_succ, List.getElem_cons_zero, List.setIfInBounds_toArray, List.set_cons_zero, List.set_cons_succ]
        refine wpAnyH_take (i := 15) (v := ?v13) rfl (by kernel_rfl) (by kernel_rfl) (by kernel_rfl) (fun _ _ _ h => h) (Or.inl ⟨by kernel_rfl, ?h13⟩) HS ?r13
        case h13 => (rintro w ⟨n0, n1, n3, n4, n5⟩; go_simp) <;> with_reducible rfl
        try simp only [Act.put, List.getElem_toArray, List.getElem_cons_succ, List.getElem_cons_zero, List.setIfInBounds_toArray, List.set_cons_zero, List.set_cons_succ]
        have HLs : Hid (LsC q0 (.slice aL nL cL) nL cs) := by
          have h := (HA5.out.2.2.2.2.later HQ6.out).lsc
          rw [HNl.out.2] at h
          exact h
        have HTc : Hid (cs.length = rs.length ∧ ∀ k, k < rs.length → ∃ y : Value, cs[k]? = some y ∧ Bs q0 y (rs.getD k [])) := (HA5.out.2.2.2.2.later HQ6.out).cells
        have HLn : Hid (nL ≤ 1000) := by
          have h := HA.out.2.2.2.2.2
          show nL ≤ 1000
          exact h
        have HS0 := hid5 HS
        have HB : Hid (Below q0.heap.size q0 q0) := Below.refl _ _
        refine wpAnyH_ready (rs := [10, 16]) (by kernel_rfl) (by simp) ?_
        refine AllReadyH.cons rfl (fun K hK => ?_) (AllReadyH.cons rfl (fun K hK => ?_) AllReadyH.nil)
        · go_simp
          obtain ⟨W1, hW1⟩ : ∃ WW, WW = q0.alloc (.cells #[] 22) := ⟨_, rfl⟩
          have HM : Hid (W1.ownsRow q0.heap.size 22 1 (.slice (some ⟨q0.heap.size, 0, none⟩) 0 0) 0 [] ∧ Below q0.heap.size q0 W1 ∧ W1.heap.size = q0.heap.size + 1) := by
            rw [hW1]
            exact ⟨World.ownsRow_made q0 #[] 0 HB.out.size (Nat.zero_le _) (by simp), bel1 _ _, by simp⟩
          rw [← hW1]
          have HB2 : Hid (Below q0.heap.size q0 W1) := bchain HB.out HM.out.2.1
          refine hK.out _ _ (kb_later HM.out.2.1 HS) (fun HS => ?_)
          clear hK K hW1 HB
          have HB := HB2
          clear HB2
          refine wpAnyH_ready (rs := [13, 16]) (by kernel_rfl) (by simp) ?_
          refine AllReadyH.cons rfl (fun K hK => ?_) (AllReadyH.cons rfl (fun K hK => ?_) AllReadyH.nil)
          · rw [if_pos (by kernel_rfl)]
            refine wp_ap18 _ _ rfl q0.heap.size (.slice (some ⟨q0.heap.size, 0, none⟩) 0 0) 0 [] rfl HM.out.1 (.slice aL nL cL) (nL) (cs) rfl (HLs.out.later HB.out) (by have := HLn.out; omega) HB.out.size (fun v2 W2 hown hgrow => ?_)
            have HA2 : Hid (W2.ownsRow q0.heap.size 22 1 v2 (0 + nL) ([] ++ cs) ∧ W1.grownBy W2 (Value.ownBlock (.slice (some ⟨q0.heap.size, 0, none⟩) 0 0)) ∧ Below q0.heap.size q0 W2) := ⟨hown, hgrow, HB.out.grown hgrow HB.out.size (fun k hk => (HM.out.1.lt k hk).1)⟩
            refine hK.out _ _ (kb_later HA2.out.2.2 HS0.out) (fun HS => ?_)
            clear hK K hown hgrow HB
            have HB := hid5 HA2.out.2.2
            refine wpAnyH_ready (rs := [16]) (by kernel_rfl) (by simp) ?_
            refine AllReadyH.cons rfl (fun K hK => ?_) AllReadyH.nil
            go_simp
            obtain ⟨W3, hW1⟩ : ∃ WW, WW = W2.alloc (.cells #[.slice aN nN cN] 22) := ⟨_, rfl⟩
            have HN1 : Hid (LsC W3 (.slice (some ⟨W2.heap.size, 0, none⟩) 1 1) 1 [.slice aN nN cN] ∧ Below W2.heap.size W2 W3 ∧ W3.heap.size = W2.heap.size + 1) := by
              rw [hW1]
              exact ⟨lsc_one W2 _ rfl _, bel1 _ _, by simp⟩
            rw [← hW1]
            have HB2 : Hid (Below q0.heap.size q0 W3) := bchain HB.out HN1.out.2.1
            refine hK.out _ _ (kb_later HN1.out.2.1 HS) (fun HS => ?_)
            clear hK K hW1 HB
            have HB := HB2
            clear HB2
            refine wpAnyH_ready (rs := [17]) (by kernel_rfl) (by simp) ?_
            refine AllReadyH.cons rfl (fun K hK => ?_) AllReadyH.nil
            rw [if_pos (by kernel_rfl)]
            refine wp_ap18 _ _ rfl q0.heap.size v2 (0 + nL) ([] ++ cs) rfl (own_later HA2.out.1 HN1.out.2.1) (.slice (some ⟨W2.heap.size, 0, none⟩) 1 1) 1 [.slice aN nN cN] rfl HN1.out.1 (by have := HLn.out; omega) HB.out.size (fun v9 w9 hown hgrow => ?_)
            have HO9 : Hid (w9.ownsRow q0.heap.size 22 1 v9 (nL + 1) (cs ++ [.slice aN nN cN]) ∧ Below q0.heap.size q0 w9) := ⟨by rw [Nat.zero_add, List.nil_append] at hown; exact hown, HB.out.grown hgrow HB.out.size (fun k hk => ((own_later HA2.out.1 HN1.out.2.1).lt k hk).1)⟩
            refine hK.out _ _ (kb_later HO9.out.2 HS0.out) (fun HS => ?_)
            clear hK K hown hgrow HB HA2
            refine wpAnyH_ready (rs := [18]) (by kernel_rfl) (by simp) ?_
            refine AllReadyH.cons rfl (fun K hK => ?_) AllReadyH.nil
            go_simp
            have hbx := bchain HQ6.out HO9.out.2
            have HTx : Hid (Txs w9 (.slice al nl cl) l ∧ Txs w9 v9 (rs ++ [nx])) := ⟨HA5.out.2.2.2.1.later hbx, txs_app18 (by have h := HO9.out.1; rw [← HNl.out.2] at h; exact h) HTc.out.1 (fun k hk => by obtain ⟨y, e1, e2⟩ := HTc.out.2 k hk; exact ⟨y, e1, e2.later HO9.out.2⟩) (HA5.out.2.2.1.later hbx)⟩
            obtain ⟨a9, c9, e9, -, -⟩ := HTx.out.2.len
            subst e9
            refine (texts18 _ _ _ _ w9 HTx.out.1 HTx.out.2).mono ?_
            rintro e w10 ⟨rfl, hb10⟩
            rw [decide_eq_true HE3.out.2.2]
            have HZ : Hid (Below w.heap.size w w10) := bchain (bchain HW5.out hbx) hb10
            refine hK.out _ _ (kb_later hb10 HS) (fun HS => ?_)
            clear hK K hb10 hbx HTx
            try simp only [Act.put, List.getElem_toArray, List.getElem_cons_succ, List.getElem_cons_zero, List.setIfInBounds_toArray, List.set_cons_zero, List.set_cons_succ]
            refine wpAnyH_take (i := 19) (v := ?_) rfl (by kernel_rfl) (by kernel_rfl) (by kernel_rfl) (fun _ _ _ h => h) (Or.inl ⟨by kernel_rfl, ?_⟩) HS ?_
            rotate_left
            · (rintro w ⟨n0, n1, n3, n4, n5⟩; go_simp) <;> with_reducible rfl
            try simp only [Act.put, List.getElem_toArray, List.getElem_cons_succ, List.getElem_cons_zero, List.setIfInBounds_toArray, List.set_cons_zero, List.set_cons_succ]
            refine wpAnyH_take (i := 20) (v := ?_) rfl (by kernel_rfl) (by kernel_rfl) (by kernel_rfl) (fun _ _ _ h => h) (Or.inl ⟨by kernel_rfl, ?_⟩) HS ?_
            rotate_left
            · (rintro w ⟨n0, n1, n3, n4, n5⟩; go_simp) <;> with_reducible rfl
            try simp only [Act.put, List.getElem_toArray, List.getElem_cons_succ, List.getElem_cons_zero, List.setIfInBounds_toArray, List.set_cons_zero, List.set_cons_succ]
            refine wpAnyH_done (by kernel_rfl) ?_ _
            clear HS HS0
            go_wp2_with fail
            go_ret
            exact ⟨rfl, HZ.out⟩
          · go_simp
            obtain ⟨W2, hW1⟩ : ∃ WW, WW = W1.alloc (.cells #[.slice aN nN cN] 22) := ⟨_, rfl⟩
            have HN1 : Hid (LsC W2 (.slice (some ⟨W1.heap.size, 0, none⟩) 1 1) 1 [.slice aN nN cN] ∧ Below W1.heap.size W1 W2 ∧ W2.heap.size = W1.heap.size + 1) := by
              rw [hW1]
              exact ⟨lsc_one W1 _ rfl _, bel1 _ _, by simp⟩
            rw [← hW1]
            have HB2 : Hid (Below q0.heap.size q0 W2) := bchain HB.out HN1.out.2.1
            refine hK.out _ _ (kb_later HN1.out.2.1 HS) (fun HS => ?_)
            clear hK K hW1 HB
            have HB := HB2
            clear HB2
            refine wpAnyH_ready (rs := [13]) (by kernel_rfl) (by simp) ?_
            refine AllReadyH.cons rfl (fun K hK => ?_) AllReadyH.nil
            rw [if_pos (by kernel_rfl)]
            refine wp_ap18 _ _ rfl q0.heap.size (.slice (some ⟨q0.heap.size, 0, none⟩) 0 0) 0 [] rfl (own_later HM.out.1 HN1.out.2.1) (.slice aL nL cL) (nL) (cs) rfl (HLs.out.later HB.out) (by have := HLn.out; omega) HB.out.size (fun v2 W3 hown hgrow => ?_)
            have HA2 : Hid (W3.ownsRow q0.heap.size 22 1 v2 (0 + nL) ([] ++ cs) ∧ W2.grownBy W3 (Value.ownBlock (.slice (some ⟨q0.heap.size, 0, none⟩) 0 0)) ∧ Below q0.heap.size q0 W3) := ⟨hown, hgrow, HB.out.grown hgrow HB.out.size (fun k hk => ((own_later HM.out.1 HN1.out.2.1).lt k hk).1)⟩
            refine hK.out _ _ (kb_later HA2.out.2.2 HS0.out) (fun HS => ?_)
            clear hK K hown hgrow HB
            have HB := hid5 HA2.out.2.2
            have HN2 : Hid (LsC W3 (.slice (some ⟨W1.heap.size, 0, none⟩) 1 1) 1 [.slice aN nN cN]) := lsc_grown HN1.out.1 HA2.out.2.1 (by have := HM.out.2.2; simp [Value.ownBlock]; omega)
            refine wpAnyH_ready (rs := [17]) (by kernel_rfl) (by simp) ?_
            refine AllReadyH.cons rfl (fun K hK => ?_) AllReadyH.nil
            rw [if_pos (by kernel_rfl)]
            refine wp_ap18 _ _ rfl q0.heap.size v2 (0 + nL) ([] ++ cs) rfl HA2.out.1 (.slice (some ⟨W1.heap.size, 0, none⟩) 1 1) 1 [.slice aN nN cN] rfl HN2.out (by have := HLn.out; omega) HB.out.size (fun v9 w9 hown hgrow => ?_)
            have HO9 : Hid (w9.ownsRow q0.heap.size 22 1 v9 (nL + 1) (cs ++ [.slice aN nN cN]) ∧ Below q0.heap.size q0 w9) := ⟨by rw [Nat.zero_add, List.nil_append] at hown; exact hown, HB.out.grown hgrow HB.out.size (fun k hk => (HA2.out.1.lt k hk).1)⟩
            refine hK.out _ _ (kb_later HO9.out.2 HS0.out) (fun HS => ?_)
            clear hK K hown hgrow HB HA2
            refine wpAnyH_ready (rs := [18]) (by kernel_rfl) (by simp) ?_
            refine AllReadyH.cons rfl (fun K hK => ?_) AllReadyH.nil
            go_simp
            have hbx := bchain HQ6.out HO9.out.2
            have HTx : Hid (Txs w9 (.slice al nl cl) l ∧ Txs w9 v9 (rs ++ [nx])) := ⟨HA5.out.2.2.2.1.later hbx, txs_app18 (by have h := HO9.out.1; rw [← HNl.out.2] at h; exact h) HTc.out.1 (fun k hk => by obtain ⟨y, e1, e2⟩ := HTc.out.2 k hk; exact ⟨y, e1, e2.later HO9.out.2⟩) (HA5.out.2.2.1.later hbx)⟩
            obtain ⟨a9, c9, e9, -, -⟩ := HTx.out.2.len
            subst e9
            refine (texts18 _ _ _ _ w9 HTx.out.1 HTx.out.2).mono ?_
            rintro e w10 ⟨rfl, hb10⟩
            rw [decide_eq_true HE3.out.2.2]
            have HZ : Hid (Below w.heap.size w w10) := bchain (bchain HW5.out hbx) hb10
            refine hK.out _ _ (kb_later hb10 HS) (fun HS => ?_)
            clear hK K hb10 hbx HTx
            try simp only [Act.put, List.getElem_toArray, List.getElem_cons_succ, List.getElem_cons_zero, List.setIfInBounds_toArray, List.set_cons_zero, List.set_cons_succ]
            refine wpAnyH_take (i := 19) (v := ?_) rfl (by kernel_rfl) (by kernel_rfl) (by kernel_rfl) (fun _ _ _ h => h) (Or.inl ⟨by kernel_rfl, ?_⟩) HS ?_
            rotate_left
            · (rintro w ⟨n0, n1, n3, n4, n5⟩; go_simp) <;> with_reducible rfl
            try simp only [Act.put, List.getElem_toArray, List.getElem_cons_succ, List.getElem_cons_zero, List.setIfInBounds_toArray, List.set_cons_zero, List.set_cons_succ]
            refine wpAnyH_take (i := 20) (v := ?_) rfl (by kernel_rfl) (by kernel_rfl) (by kernel_rfl) (fun _ _ _ h => h) (Or.inl ⟨by kernel_rfl, ?_⟩) HS ?_
            rotate_left
            · (rintro w ⟨n0, n1, n3, n4, n5⟩; go_simp) <;> with_reducible rfl
            try simp only [Act.put, List.getElem_toArray, List.getElem_cons_succ, List.getElem_cons_zero, List.setIfInBounds_toArray, List.set_cons_zero, List.set_cons_succ]
            refine wpAnyH_done (by kernel_rfl) ?_ _
            clear HS HS0
            go_wp2_with fail
            go_ret
            exact ⟨rfl, HZ.out⟩
        · go_simp
          obtain ⟨W1, hW1⟩ : ∃ WW, WW = q0.alloc (.cells #[.slice aN nN cN] 22) := ⟨_, rfl⟩
          have HN1 : Hid (LsC W1 (.slice (some ⟨q0.heap.size, 0, none⟩) 1 1) 1 [.slice aN nN cN] ∧ Below q0.heap.size q0 W1 ∧ W1.heap.size = q0.heap.size + 1) := by
            rw [hW1]
            exact ⟨lsc_one q0 _ rfl _, bel1 _ _, by simp⟩
          rw [← hW1]
          have HB2 : Hid (Below q0.heap.size q0 W1) := bchain HB.out HN1.out.2.1
          refine hK.out _ _ (kb_later HN1.out.2.1 HS) (fun HS => ?_)
          clear hK K hW1 HB
          have HB := HB2
          clear HB2
          refine wpAnyH_ready (rs := [10]) (by kernel_rfl) (by simp) ?_
          refine AllReadyH.cons rfl (fun K hK => ?_) AllReadyH.nil
          go_simp
          obtain ⟨W2, hW1⟩ : ∃ WW, WW = W1.alloc (.cells #[] 22) := ⟨_, rfl⟩
          have HM : Hid (W2.ownsRow q0.heap.size 22 1 (.slice (some ⟨W1.heap.size, 0, none⟩) 0 0) 0 [] ∧ Below W1.heap.size W1 W2 ∧ W2.heap.size = W1.heap.size + 1) := by
            rw [hW1]
            exact ⟨World.ownsRow_made W1 #[] 0 HB.out.size (Nat.zero_le _) (by simp), bel1 _ _, by simp⟩
          rw [← hW1]
          have HB2 : Hid (Below q0.heap.size q0 W2) := bchain HB.out HM.out.2.1
          refine hK.out _ _ (kb_later HM.out.2.1 HS) (fun HS => ?_)
          clear hK K hW1 HB
          have HB := HB2
          clear HB2
          refine wpAnyH_ready (rs := [13]) (by kernel_rfl) (by simp) ?_
          refine AllReadyH.cons rfl (fun K hK => ?_) AllReadyH.nil
          rw [if_pos (by kernel_rfl)]
          refine wp_ap18 _ _ rfl q0.heap.size (.slice (some ⟨W1.heap.size, 0, none⟩) 0 0) 0 [] rfl HM.out.1 (.slice aL nL cL) (nL) (cs) rfl (HLs.out.later HB.out) (by have := HLn.out; omega) HB.out.size (fun v2 W3 hown hgrow => ?_)
          have HA2 : Hid (W3.ownsRow q0.heap.size 22 1 v2 (0 + nL) ([] ++ cs) ∧ W2.grownBy W3 (Value.ownBlock (.slice (some ⟨W1.heap.size, 0, none⟩) 0 0)) ∧ Below q0.heap.size q0 W3) := ⟨hown, hgrow, HB.out.grown hgrow HB.out.size (fun k hk => (HM.out.1.lt k hk).1)⟩
          refine hK.out _ _ (kb_later HA2.out.2.2 HS0.out) (fun HS => ?_)
          clear hK K hown hgrow HB
          have HB := hid5 HA2.out.2.2
          have HN2 : Hid (LsC W3 (.slice (some ⟨q0.heap.size, 0, none⟩) 1 1) 1 [.slice aN nN cN]) := lsc_grown (HN1.out.1.later HM.out.2.1) HA2.out.2.1 (by have := HN1.out.2.2; simp [Value.ownBlock]; omega)
          refine wpAnyH_ready (rs := [17]) (by kernel_rfl) (by simp) ?_
          refine AllReadyH.cons rfl (fun K hK => ?_) AllReadyH.nil
          rw [if_pos (by kernel_rfl)]
          refine wp_ap18 _ _ rfl q0.heap.size v2 (0 + nL) ([] ++ cs) rfl HA2.out.1 (.slice (some ⟨q0.heap.size, 0, none⟩) 1 1) 1 [.slice aN nN cN] rfl HN2.out (by have := HLn.out; omega) HB.out.size (fun v9 w9 hown hgrow => ?_)
          have HO9 : Hid (w9.ownsRow q0.heap.size 22 1 v9 (nL + 1) (cs ++ [.slice aN nN cN]) ∧ Below q0.heap.size q0 w9) := ⟨by rw [Nat.zero_add, List.nil_append] at hown; exact hown, HB.out.grown hgrow HB.out.size (fun k hk => (HA2.out.1.lt k hk).1)⟩
          refine hK.out _ _ (kb_later HO9.out.2 HS0.out) (fun HS => ?_)
          clear hK K hown hgrow HB HA2
          refine wpAnyH_ready (rs := [18]) (by kernel_rfl) (by simp) ?_
          refine AllReadyH.cons rfl (fun K hK => ?_) AllReadyH.nil
          go_simp
          have hbx := bchain HQ6.out HO9.out.2
          have HTx : Hid (Txs w9 (.slice al nl cl) l ∧ Txs w9 v9 (rs ++ [nx])) := ⟨HA5.out.2.2.2.1.later hbx, txs_app18 (by have h := HO9.out.1; rw [← HNl.out.2] at h; exact h) HTc.out.1 (fun k hk => by obtain ⟨y, e1, e2⟩ := HTc.out.2 k hk; exact ⟨y, e1, e2.later HO9.out.2⟩) (HA5.out.2.2.1.later hbx)⟩
          obtain ⟨a9, c9, e9, -, -⟩ := HTx.out.2.len
          subst e9
          refine (texts18 _ _ _ _ w9 HTx.out.1 HTx.out.2).mono ?_
          rintro e w10 ⟨rfl, hb10⟩
          rw [decide_eq_true HE3.out.2.2]
          have HZ : Hid (Below w.heap.size w w10) := bchain (bchain HW5.out hbx) hb10
          refine hK.out _ _ (kb_later hb10 HS) (fun HS => ?_)
          clear hK K hb10 hbx HTx
          try simp only [Act.put, List.getElem_toArray, List.getElem_cons_succ, List.getElem_cons_zero, List.setIfInBounds_toArray, List.set_cons_zero, List.set_cons_succ]
          refine wpAnyH_take (i := 19) (v := ?_) rfl (by kernel_rfl) (by kernel_rfl) (by kernel_rfl) (fun _ _ _ h => h) (Or.inl ⟨by kernel_rfl, ?_⟩) HS ?_
          rotate_left
          · (rintro w ⟨n0, n1, n3, n4, n5⟩; go_simp) <;> with_reducible rfl
          try simp only [Act.put, List.getElem_toArray, List.getElem_cons_succ, List.getElem_cons_zero, List.setIfInBounds_toArray, List.set_cons_zero, List.set_cons_succ]
          refine wpAnyH_take (i := 20) (v := ?_) rfl (by kernel_rfl) (by kernel_rfl) (by kernel_rfl) (fun _ _ _ h => h) (Or.inl ⟨by kernel_rfl, ?_⟩) HS ?_
          rotate_left
          · (rintro w ⟨n0, n1, n3, n4, n5⟩; go_simp) <;> with_reducible rfl
          try simp only [Act.put, List.getElem_toArray, List.getElem_cons_succ, List.getElem_cons_zero, List.setIfInBounds_toArray, List.set_cons_zero, List.set_cons_succ]
          refine wpAnyH_done (by kernel_rfl) ?_ _
          clear HS HS0
          go_wp2_with fail
          go_ret
          exact ⟨rfl, HZ.out⟩
  · rw [decide_eq_false hbl]
    have HX := HX1
    have HF2 : Hid ((sv = true ∧ b = nx ∧ l = []) ∨ (sv = false ∧ ad = true ∧ b = last ∧ l = rs ++ [nx])) := by
      rcases HF.out with h | h
      · exact absurd h.1 hbl
      · exact h
    clear hbl HF HX1
    have z4 := HX.out.1.k4
    have z3 := HX.out.1.k3
    cases sv with
    | true =>
      have HE2 : Hid (b = nx ∧ nl = 0) := by
        rcases HF2.out with ⟨-, h1, h2⟩ | ⟨h, -⟩
        · exact ⟨h1, by have h3 := HNl.out.1; rw [h2] at h3; exact h3.symm⟩
        · cases h
      obtain rfl : nl = 0 := HE2.out.2
      go_wp2_with fail
      refine (sameB _ _ _ _ w1 (HA.out.2.2.2.1.later HX.out.2) (HA.out.2.2.1.later HX.out.2)).mono ?_
      rintro e w5 ⟨rfl, hb5⟩
      rw [decide_eq_true HE2.out.1]
      have HZ : Hid (Below w.heap.size w w5) := bchain HX.out.2 hb5
      clear hb5
      go_wp2_with fail
      go_ret
      exact ⟨rfl, HZ.out⟩
    | false =>
      have HE3 : Hid (ad = true ∧ b = last ∧ l = rs ++ [nx]) := by
        rcases HF2.out with ⟨h, -⟩ | ⟨-, h1, h2, h3⟩
        · cases h
        · exact ⟨h1, h2, h3⟩
      obtain rfl : ad = true := HE3.out.1
      go_upto_region 5 with fail
      refine wp_region_held_drew (S := Kb18 kb (.slice aB nB cB) (.slice aL nL cL) (.slice aN nN cN) false true) (by kernel_rfl) (kb_later ((Below.refl _ _).drew) HX.out.1) (fun HS => ?_)
      have HW5 : Hid (Below w.heap.size w w1.drew) := bchain HX.out.2 ((Below.refl _ _).drew)
      have HA5 : Hid (Bs w1.drew (.slice ab nb cb) b ∧ Bs w1.drew (.slice aB nB cB) last ∧ Bs w1.drew (.slice aN nN cN) nx ∧ Txs w1.drew (.slice al nl cl) l ∧ TxC w1.drew (.slice aL nL cL) rs cs) := ⟨HA.out.2.2.2.1.later HW5.out, HA.out.1.later HW5.out, HA.out.2.2.1.later HW5.out, HA.out.2.2.2.2.1.later HW5.out, HA.out.2.1.later HW5.out⟩
      generalize w1.drew = qd at *
      refine wpAnyH_take (i := 0) (v := ?v14) rfl (by kernel_rfl) (by kernel_rfl) (by kernel_rfl) (fun _ _ _ h => h) (Or.inl ⟨by kernel_rfl, ?h14⟩) HS ?r14
      case h14 => (rintro w ⟨n0, n1, n3, n4, n5⟩; go_simp) <;> with_reducible rfl
      try simp only [Act.put, List.getElem_toArray, List.getElem_cons_succ, List.getElem_cons_zero, List.setIfInBounds_toArray, List.set_cons_zero, List.set_cons_succ]
      refine wpAnyH_take (i := 1) (v := ?v15) rfl (by kernel_rfl) (by kernel_rfl) (by kernel_rfl) (fun _ _ _ h => h) (Or.inl ⟨by kernel_rfl, ?h15⟩) HS ?r15
      case h15 => (rintro w ⟨n0, n1, n3, n4, n5⟩; go_simp) <;> with_reducible rfl
      try simp only [Act.put, List.getElem_toArray, List.getElem_cons_succ, List.getElem_cons_zero, List.setIfInBounds_toArray, List.set_cons_zero, List.set_cons_succ]
      refine wpAnyH_take (i := 2) (v := ?v16) rfl (by kernel_rfl) (by kernel_rfl) (by kernel_rfl) (fun _ _ _ h => h) (Or.inl ⟨by kernel_rfl, ?h16⟩) HS ?r16
      case h16 => (rintro w ⟨n0, n1, n3, n4, n5⟩; go_simp) <;> with_reducible rfl
      try simp only [Act.put, List.getElem_toArray, List.getElem_cons_succ, List.getElem_cons_zero, List.setIfInBounds_toArray, List.set_cons_zero, List.set_cons_succ]
      refine wpAnyH_take (i := 3) (v := ?v17) rfl (by kernel_rfl) (by kernel_rfl) (by kernel_rfl) (fun _ _ _ h => h) (Or.inl ⟨by kernel_rfl, ?h17⟩) HS ?r17
      case h17 => (rintro w ⟨n0, n1, n3, n4, n5⟩; go_simp) <;> with_reducible rfl
      try simp only [Act.put, List.getElem_toArray, List.getElem_cons_succ, List.getElem_cons_zero, List.setIfInBounds_toArray, List.set_cons_zero, List.set_cons_succ]
      refine wpAnyH_take (i := 4) (v := ?v18) rfl (by kernel_rfl) (by kernel_rfl) (by kernel_rfl) (fun _ _ _ h => h) (Or.inl ⟨by kernel_rfl, ?h18⟩) HS ?r18
      case h18 => (rintro w ⟨n0, n1, n3, n4, n5⟩; go_simp) <;> with_reducible rfl
      try simp only [Act.put, List.getElem_toArray, List.getElem_cons_succ, List.getElem_cons_zero, List.setIfInBounds_toArray, List.set_cons_zero, List.set_cons_succ]
      refine wpAnyH_take (i := 5) (v := ?v19) rfl (by kernel_rfl) (by kernel_rfl) (by kernel_rfl) (fun _ _ _ h => h) (Or.inl ⟨by kernel_rfl, ?h19⟩) HS ?r19
      case h19 => (rintro w ⟨n0, n1, n3, n4, n5⟩; go_simp) <;> with_reducible rfl
      try simp only [Act.put, List.getElem_toArray, List.getElem_cons_succ, List.getElem_cons_zero, List.setIfInBounds_toArray, List.set_cons_zero, List.set_cons_succ]
      refine wpAnyH_ready (rs := [6]) (by kernel_rfl) (by simp) ?_
      refine AllReadyH.cons rfl (fun K hK => ?_) AllReadyH.nil
      go_simp
      refine (sameB _ _ _ _ qd HA5.out.1 HA5.out.2.1).mono ?_
      rintro e q0 ⟨rfl, hb6⟩
      rw [decide_eq_true HE3.out.2.1]
      have HQ6 : Hid (Below qd.heap.size qd q0) := hb6
      refine hK.out _ _ (kb_later hb6 HS) (fun HS => ?_)
      clear hK K hb6
      try simp only [Act.put, List.getElem_toArray, List.getElem_cons_succ, List.getElem_cons_zero, List.setIfInBounds_toArray, List.set_cons_zero, List.set_cons_succ]
      refine wpAnyH_take (i := 7) (v := ?v20) rfl (by kernel_rfl) (by kernel_rfl) (by kernel_rfl) (fun _ _ _ h => h) (Or.inl ⟨by kernel_rfl, ?h20⟩) HS ?r20
      case h20 => (rintro w ⟨n0, n1, n3, n4, n5⟩; go_simp) <;> with_reducible rfl
      try simp only [Act.put, List.getElem_toArray, List.getElem_cons_succ, List.getElem_cons_zero, List.setIfInBounds_toArray, List.set_cons_zero, List.set_cons_succ]
      refine wpAnyH_take (i := 8) (v := ?v21) rfl (by kernel_rfl) (by kernel_rfl) (by kernel_rfl) (fun _ _ _ h => h) (Or.inl ⟨by kernel_rfl, ?h21⟩) HS ?r21
      case h21 => (rintro w ⟨n0, n1, n3, n4, n5⟩; go_simp) <;> with_reducible rfl
      try simp only [Act.put, List.getElem_toArray, List.getElem_cons_succ, List.getElem_cons_zero, List.setIfInBounds_toArray, List.set_cons_zero, List.set_cons_succ]
      refine wpAnyH_take (i := 9) (v := ?v22) rfl (by kernel_rfl) (by kernel_rfl) (by kernel_rfl) (fun _ _ _ h => h) (Or.inl ⟨by kernel_rfl, ?h22⟩) HS ?r22
      case h22 => (rintro w ⟨n0, n1, n3, n4, n5⟩; go_simp) <;> with_reducible rfl
      try simp only [Act.put, List.getElem_toArray, List.getElem_cons_succ, List.getElem_cons_zero, List.setIfInBounds_toArray, List.set_cons_zero, List.set_cons_succ]
      refine wpAnyH_take (i := 11) (v := ?v23) rfl (by kernel_rfl) (by kernel_rfl) (by kernel_rfl) (fun _ _ _ h => h) (Or.inl ⟨by kernel_rfl, ?h23⟩) HS ?r23
      case h23 => (rintro w ⟨n0, n1, n3, n4, n5⟩; go_simp) <;> with_reducible rfl
      try simp only [Act.put, List.getElem_toArray, List.getElem_cons_succ, List.getElem_cons_zero, List.setIfInBounds_toArray, List.set_cons_zero, List.set_cons_succ]
      refine wpAnyH_take (i := 12) (v := ?v24) rfl (by kernel_rfl) (by kernel_rfl) (by kernel_rfl) (fun _ _ _ h => h) (Or.inl ⟨by kernel_rfl, ?h24⟩) HS ?r24
      case h24 => (rintro w ⟨n0, n1, n3, n4, n5⟩; go_simp) <;> with_reducible rfl
      try simp only [Act.put, List.getElem_toArray, List.getElem_cons_succ, List.getElem_cons_zero, List.setIfInBounds_toArray, List.set_cons_zero, List.set_cons_succ]
      refine wpAnyH_take (i := 14) (v := ?v25) rfl (by kernel_rfl) (by kernel_rfl) (by kernel_rfl) (fun _ _ _ h => h) (Or.inl ⟨by kernel_rfl, ?h25⟩) HS ?r25
      case h25 => (rintro w ⟨n0, n1, n3, n4, n5⟩; go_simp) <;> with_reducible rfl
      try simp only [Act.put, List.getElem_toArray, List.getElem_cons_succ, List.getElem_cons_zero, List.setIfInBounds_toArray, List.set_cons_zero, List.set_cons_succ]
      refine wpAnyH_take (i := 15) (v := ?v26) rfl (by kernel_rfl) (by kernel_rfl) (by kernel_rfl) (fun _ _ _ h => h) (Or.inl ⟨by kernel_rfl, ?h26⟩) HS ?r26
      case h26 => (rintro w ⟨n0, n1, n3, n4, n5⟩; go_simp) <;> with_reducible rfl
      try simp only [Act.put, List.getElem_toArray, List.getElem_cons_succ, List.getElem_cons_zero, List.setIfInBounds_toArray, List.set_cons_zero, List.set_cons_succ]
      have HLs : Hid (LsC q0 (.slice aL nL cL) nL cs) := by
        have h := (HA5.out.2.2.2.2.later HQ6.out).lsc
        rw [HNl.out.2] at h
        exact h
      have HTc : Hid (cs.length = rs.length ∧ ∀ k, k < rs.length → ∃ y : Value, cs[k]? = some y ∧ Bs q0 y (rs.getD k [])) := (HA5.out.2.2.2.2.later HQ6.out).cells
      have HLn : Hid (nL ≤ 1000) := by
        have h := HA.out.2.2.2.2.2
        show nL ≤ 1000
        exact h
      have HS0 := hid5 HS
      have HB : Hid (Below q0.heap.size q0 q0) := Below.refl _ _
      refine wpAnyH_ready (rs := [10, 16]) (by kernel_rfl) (by simp) ?_
      refine AllReadyH.cons rfl (fun K hK => ?_) (AllReadyH.cons rfl (fun K hK => ?_) AllReadyH.nil)
      · go_simp
        obtain ⟨W1, hW1⟩ : ∃ WW, WW = q0.alloc (.cells #[] 22) := ⟨_, rfl⟩
        have HM : Hid (W1.ownsRow q0.heap.size 22 1 (.slice (some ⟨q0.heap.size, 0, none⟩) 0 0) 0 [] ∧ Below q0.heap.size q0 W1 ∧ W1.heap.size = q0.heap.size + 1) := by
          rw [hW1]
          exact ⟨World.ownsRow_made q0 #[] 0 HB.out.size (Nat.zero_le _) (by simp), bel1 _ _, by simp⟩
        rw [← hW1]
        have HB2 : Hid (Below q0.heap.size q0 W1) := bchain HB.out HM.out.2.1
        refine hK.out _ _ (kb_later HM.out.2.1 HS) (fun HS => ?_)
        clear hK K hW1 HB
        have HB := HB2
        clear HB2
        refine wpAnyH_ready (rs := [13, 16]) (by kernel_rfl) (by simp) ?_
        refine AllReadyH.cons rfl (fun K hK => ?_) (AllReadyH.cons rfl (fun K hK => ?_) AllReadyH.nil)
        · rw [if_pos (by kernel_rfl)]
          refine wp_ap18 _ _ rfl q0.heap.size (.slice (some ⟨q0.heap.size, 0, none⟩) 0 0) 0 [] rfl HM.out.1 (.slice aL nL cL) (nL) (cs) rfl (HLs.out.later HB.out) (by have := HLn.out; omega) HB.out.size (fun v2 W2 hown hgrow => ?_)
          have HA2 : Hid (W2.ownsRow q0.heap.size 22 1 v2 (0 + nL) ([] ++ cs) ∧ W1.grownBy W2 (Value.ownBlock (.slice (some ⟨q0.heap.size, 0, none⟩) 0 0)) ∧ Below q0.heap.size q0 W2) := ⟨hown, hgrow, HB.out.grown hgrow HB.out.size (fun k hk => (HM.out.1.lt k hk).1)⟩
          refine hK.out _ _ (kb_later HA2.out.2.2 HS0.out) (fun HS => ?_)
          clear hK K hown hgrow HB
          have HB := hid5 HA2.out.2.2
          refine wpAnyH_ready (rs := [16]) (by kernel_rfl) (by simp) ?_
          refine AllReadyH.cons rfl (fun K hK => ?_) AllReadyH.nil
          go_simp
          obtain ⟨W3, hW1⟩ : ∃ WW, WW = W2.alloc (.cells #[.slice aN nN cN] 22) := ⟨_, rfl⟩
          have HN1 : Hid (LsC W3 (.slice (some ⟨W2.heap.size, 0, none⟩) 1 1) 1 [.slice aN nN cN] ∧ Below W2.heap.size W2 W3 ∧ W3.heap.size = W2.heap.size + 1) := by
            rw [hW1]
            exact ⟨lsc_one W2 _ rfl _, bel1 _ _, by simp⟩
          rw [← hW1]
          have HB2 : Hid (Below q0.heap.size q0 W3) := bchain HB.out HN1.out.2.1
          refine hK.out _ _ (kb_later HN1.out.2.1 HS) (fun HS => ?_)
          clear hK K hW1 HB
          have HB := HB2
          clear HB2
          refine wpAnyH_ready (rs := [17]) (by kernel_rfl) (by simp) ?_
          refine AllReadyH.cons rfl (fun K hK => ?_) AllReadyH.nil
          rw [if_pos (by kernel_rfl)]
          refine wp_ap18 _ _ rfl q0.heap.size v2 (0 + nL) ([] ++ cs) rfl (own_later HA2.out.1 HN1.out.2.1) (.slice (some ⟨W2.heap.size, 0, none⟩) 1 1) 1 [.slice aN nN cN] rfl HN1.out.1 (by have := HLn.out; omega) HB.out.size (fun v9 w9 hown hgrow => ?_)
          have HO9 : Hid (w9.ownsRow q0.heap.size 22 1 v9 (nL + 1) (cs ++ [.slice aN nN cN]) ∧ Below q0.heap.size q0 w9) := ⟨by rw [Nat.zero_add, List.nil_append] at hown; exact hown, HB.out.grown hgrow HB.out.size (fun k hk => ((own_later HA2.out.1 HN1.out.2.1).lt k hk).1)⟩
          refine hK.out _ _ (kb_later HO9.out.2 HS0.out) (fun HS => ?_)
          clear hK K hown hgrow HB HA2
          refine wpAnyH_ready (rs := [18]) (by kernel_rfl) (by simp) ?_
          refine AllReadyH.cons rfl (fun K hK => ?_) AllReadyH.nil
          go_simp
          have hbx := bchain HQ6.out HO9.out.2
          have HTx : Hid (Txs w9 (.slice al nl cl) l ∧ Txs w9 v9 (rs ++ [nx])) := ⟨HA5.out.2.2.2.1.later hbx, txs_app18 (by have h := HO9.out.1; rw [← HNl.out.2] at h; exact h) HTc.out.1 (fun k hk => by obtain ⟨y, e1, e2⟩ := HTc.out.2 k hk; exact ⟨y, e1, e2.later HO9.out.2⟩) (HA5.out.2.2.1.later hbx)⟩
          obtain ⟨a9, c9, e9, -, -⟩ := HTx.out.2.len
          subst e9
          refine (texts18 _ _ _ _ w9 HTx.out.1 HTx.out.2).mono ?_
          rintro e w10 ⟨rfl, hb10⟩
          rw [decide_eq_true HE3.out.2.2]
          have HZ : Hid (Below w.heap.size w w10) := bchain (bchain HW5.out hbx) hb10
          refine hK.out _ _ (kb_later hb10 HS) (fun HS => ?_)
          clear hK K hb10 hbx HTx
          try simp only [Act.put, List.getElem_toArray, List.getElem_cons_succ, List.getElem_cons_zero, List.setIfInBounds_toArray, List.set_cons_zero, List.set_cons_succ]
          refine wpAnyH_take (i := 19) (v := ?_) rfl (by kernel_rfl) (by kernel_rfl) (by kernel_rfl) (fun _ _ _ h => h) (Or.inl ⟨by kernel_rfl, ?_⟩) HS ?_
          rotate_left
          · (rintro w ⟨n0, n1, n3, n4, n5⟩; go_simp) <;> with_reducible rfl
          try simp only [Act.put, List.getElem_toArray, List.getElem_cons_succ, List.getElem_cons_zero, List.setIfInBounds_toArray, List.set_cons_zero, List.set_cons_succ]
          refine wpAnyH_take (i := 20) (v := ?_) rfl (by kernel_rfl) (by kernel_rfl) (by kernel_rfl) (fun _ _ _ h => h) (Or.inl ⟨by kernel_rfl, ?_⟩) HS ?_
          rotate_left
          · (rintro w ⟨n0, n1, n3, n4, n5⟩; go_simp) <;> with_reducible rfl
          try simp only [Act.put, List.getElem_toArray, List.getElem_cons_succ, List.getElem_cons_zero, List.setIfInBounds_toArray, List.set_cons_zero, List.set_cons_succ]
          refine wpAnyH_done (by kernel_rfl) ?_ _
          clear HS HS0
          go_wp2_with fail
          go_ret
          exact ⟨rfl, HZ.out⟩
        · go_simp
          obtain ⟨W2, hW1⟩ : ∃ WW, WW = W1.alloc (.cells #[.slice aN nN cN] 22) := ⟨_, rfl⟩
          have HN1 : Hid (LsC W2 (.slice (some ⟨W1.heap.size, 0, none⟩) 1 1) 1 [.slice aN nN cN] ∧ Below W1.heap.size W1 W2 ∧ W2.heap.size = W1.heap.size + 1) := by
            rw [hW1]
            exact ⟨lsc_one W1 _ rfl _, bel1 _ _, by simp⟩
          rw [← hW1]
          have HB2 : Hid (Below q0.heap.size q0 W2) := bchain HB.out HN1.out.2.1
          refine hK.out _ _ (kb_later HN1.out.2.1 HS) (fun HS => ?_)
          clear hK K hW1 HB
          have HB := HB2
          clear HB2
          refine wpAnyH_ready (rs := [13]) (by kernel_rfl) (by simp) ?_
          refine AllReadyH.cons rfl (fun K hK => ?_) AllReadyH.nil
          rw [if_pos (by kernel_rfl)]
          refine wp_ap18 _ _ rfl q0.heap.size (.slice (some ⟨q0.heap.size, 0, none⟩) 0 0) 0 [] rfl (own_later HM.out.1 HN1.out.2.1) (.slice aL nL cL) (nL) (cs) rfl (HLs.out.later HB.out) (by have := HLn.out; omega) HB.out.size (fun v2 W3 hown hgrow => ?_)
          have HA2 : Hid (W3.ownsRow q0.heap.size 22 1 v2 (0 + nL) ([] ++ cs) ∧ W2.grownBy W3 (Value.ownBlock (.slice (some ⟨q0.heap.size, 0, none⟩) 0 0)) ∧ Below q0.heap.size q0 W3) := ⟨hown, hgrow, HB.out.grown hgrow HB.out.size (fun k hk => ((own_later HM.out.1 HN1.out.2.1).lt k hk).1)⟩
          refine hK.out _ _ (kb_later HA2.out.2.2 HS0.out) (fun HS => ?_)
          clear hK K hown hgrow HB
          have HB := hid5 HA2.out.2.2
          have HN2 : Hid (LsC W3 (.slice (some ⟨W1.heap.size, 0, none⟩) 1 1) 1 [.slice aN nN cN]) := lsc_grown HN1.out.1 HA2.out.2.1 (by have := HM.out.2.2; simp [Value.ownBlock]; omega)
          refine wpAnyH_ready (rs := [17]) (by kernel_rfl) (by simp) ?_
          refine AllReadyH.cons rfl (fun K hK => ?_) AllReadyH.nil
          rw [if_pos (by kernel_rfl)]
          refine wp_ap18 _ _ rfl q0.heap.size v2 (0 + nL) ([] ++ cs) rfl HA2.out.1 (.slice (some ⟨W1.heap.size, 0, none⟩) 1 1) 1 [.slice aN nN cN] rfl HN2.out (by have := HLn.out; omega) HB.out.size (fun v9 w9 hown hgrow => ?_)
          have HO9 : Hid (w9.ownsRow q0.heap.size 22 1 v9 (nL + 1) (cs ++ [.slice aN nN cN]) ∧ Below q0.heap.size q0 w9) := ⟨by rw [Nat.zero_add, List.nil_append] at hown; exact hown, HB.out.grown hgrow HB.out.size (fun k hk => (HA2.out.1.lt k hk).1)⟩
          refine hK.out _ _ (kb_later HO9.out.2 HS0.out) (fun HS => ?_)
          clear hK K hown hgrow HB HA2
          refine wpAnyH_ready (rs := [18]) (by kernel_rfl) (by simp) ?_
          refine AllReadyH.cons rfl (fun K hK => ?_) AllReadyH.nil
          go_simp
          have hbx := bchain HQ6.out HO9.out.2
          have HTx : Hid (Txs w9 (.slice al nl cl) l ∧ Txs w9 v9 (rs ++ [nx])) := ⟨HA5.out.2.2.2.1.later hbx, txs_app18 (by have h := HO9.out.1; rw [← HNl.out.2] at h; exact h) HTc.out.1 (fun k hk => by obtain ⟨y, e1, e2⟩ := HTc.out.2 k hk; exact ⟨y, e1, e2.later HO9.out.2⟩) (HA5.out.2.2.1.later hbx)⟩
          obtain ⟨a9, c9, e9, -, -⟩ := HTx.out.2.len
          subst e9
          refine (texts18 _ _ _ _ w9 HTx.out.1 HTx.out.2).mono ?_
          rintro e w10 ⟨rfl, hb10⟩
          rw [decide_eq_true HE3.out.2.2]
          have HZ : Hid (Below w.heap.size w w10) := bchain (bchain HW5.out hbx) hb10
          refine hK.out _ _ (kb_later hb10 HS) (fun HS => ?_)
          clear hK K hb10 hbx HTx
          try simp only [Act.put, List.getElem_toArray, List.getElem_cons_succ, List.getElem_cons_zero, List.setIfInBounds_toArray, List.set_cons_zero, List.set_cons_succ]
          refine wpAnyH_take (i := 19) (v := ?_) rfl (by kernel_rfl) (by kernel_rfl) (by kernel_rfl) (fun _ _ _ h => h) (Or.inl ⟨by kernel_rfl, ?_⟩) HS ?_
          rotate_left
          · (rintro w ⟨n0, n1, n3, n4, n5⟩; go_simp) <;> with_reducible rfl
          try simp only [Act.put, List.getElem_toArray, List.getElem_cons_succ, List.getElem_cons_zero, List.setIfInBounds_toArray, List.set_cons_zero, List.set_cons_succ]
          refine wpAnyH_take (i := 20) (v := ?_) rfl (by kernel_rfl) (by kernel_rfl) (by kernel_rfl) (fun _ _ _ h => h) (Or.inl ⟨by kernel_rfl, ?_⟩) HS ?_
          rotate_left
          · (rintro w ⟨n0, n1, n3, n4, n5⟩; go_simp) <;> with_reducible rfl
          try simp only [Act.put, List.getElem_toArray, List.getElem_cons_succ, List.getElem_cons_zero, List.setIfInBounds_toArray, List.set_cons_zero, List.set_cons_succ]
          refine wpAnyH_done (by kernel_rfl) ?_ _
          clear HS HS0
          go_wp2_with fail
          go_ret
          exact ⟨rfl, HZ.out⟩
      · go_simp
        obtain ⟨W1, hW1⟩ : ∃ WW, WW = q0.alloc (.cells #[.slice aN nN cN] 22) := ⟨_, rfl⟩
        have HN1 : Hid (LsC W1 (.slice (some ⟨q0.heap.size, 0, none⟩) 1 1) 1 [.slice aN nN cN] ∧ Below q0.heap.size q0 W1 ∧ W1.heap.size = q0.heap.size + 1) := by
          rw [hW1]
          exact ⟨lsc_one q0 _ rfl _, bel1 _ _, by simp⟩
        rw [← hW1]
        have HB2 : Hid (Below q0.heap.size q0 W1) := bchain HB.out HN1.out.2.1
        refine hK.out _ _ (kb_later HN1.out.2.1 HS) (fun HS => ?_)
        clear hK K hW1 HB
        have HB := HB2
        clear HB2
        refine wpAnyH_ready (rs := [10]) (by kernel_rfl) (by simp) ?_
        refine AllReadyH.cons rfl (fun K hK => ?_) AllReadyH.nil
        go_simp
        obtain ⟨W2, hW1⟩ : ∃ WW, WW = W1.alloc (.cells #[] 22) := ⟨_, rfl⟩
        have HM : Hid (W2.ownsRow q0.heap.size 22 1 (.slice (some ⟨W1.heap.size, 0, none⟩) 0 0) 0 [] ∧ Below W1.heap.size W1 W2 ∧ W2.heap.size = W1.heap.size + 1) := by
          rw [hW1]
          exact ⟨World.ownsRow_made W1 #[] 0 HB.out.size (Nat.zero_le _) (by simp), bel1 _ _, by simp⟩
        rw [← hW1]
        have HB2 : Hid (Below q0.heap.size q0 W2) := bchain HB.out HM.out.2.1
        refine hK.out _ _ (kb_later HM.out.2.1 HS) (fun HS => ?_)
        clear hK K hW1 HB
        have HB := HB2
        clear HB2
        refine wpAnyH_ready (rs := [13]) (by kernel_rfl) (by simp) ?_
        refine AllReadyH.cons rfl (fun K hK => ?_) AllReadyH.nil
        rw [if_pos (by kernel_rfl)]
        refine wp_ap18 _ _ rfl q0.heap.size (.slice (some ⟨W1.heap.size, 0, none⟩) 0 0) 0 [] rfl HM.out.1 (.slice aL nL cL) (nL) (cs) rfl (HLs.out.later HB.out) (by have := HLn.out; omega) HB.out.size (fun v2 W3 hown hgrow => ?_)
        have HA2 : Hid (W3.ownsRow q0.heap.size 22 1 v2 (0 + nL) ([] ++ cs) ∧ W2.grownBy W3 (Value.ownBlock (.slice (some ⟨W1.heap.size, 0, none⟩) 0 0)) ∧ Below q0.heap.size q0 W3) := ⟨hown, hgrow, HB.out.grown hgrow HB.out.size (fun k hk => (HM.out.1.lt k hk).1)⟩
        refine hK.out _ _ (kb_later HA2.out.2.2 HS0.out) (fun HS => ?_)
        clear hK K hown hgrow HB
        have HB := hid5 HA2.out.2.2
        have HN2 : Hid (LsC W3 (.slice (some ⟨q0.heap.size, 0, none⟩) 1 1) 1 [.slice aN nN cN]) := lsc_grown (HN1.out.1.later HM.out.2.1) HA2.out.2.1 (by have := HN1.out.2.2; simp [Value.ownBlock]; omega)
        refine wpAnyH_ready (rs := [17]) (by kernel_rfl) (by simp) ?_
        refine AllReadyH.cons rfl (fun K hK => ?_) AllReadyH.nil
        rw [if_pos (by kernel_rfl)]
        refine wp_ap18 _ _ rfl q0.heap.size v2 (0 + nL) ([] ++ cs) rfl HA2.out.1 (.slice (some ⟨q0.heap.size, 0, none⟩) 1 1) 1 [.slice aN nN cN] rfl HN2.out (by have := HLn.out; omega) HB.out.size (fun v9 w9 hown hgrow => ?_)
        have HO9 : Hid (w9.ownsRow q0.heap.size 22 1 v9 (nL + 1) (cs ++ [.slice aN nN cN]) ∧ Below q0.heap.size q0 w9) := ⟨by rw [Nat.zero_add, List.nil_append] at hown; exact hown, HB.out.grown hgrow HB.out.size (fun k hk => (HA2.out.1.lt k hk).1)⟩
        refine hK.out _ _ (kb_later HO9.out.2 HS0.out) (fun HS => ?_)
        clear hK K hown hgrow HB HA2
        refine wpAnyH_ready (rs := [18]) (by kernel_rfl) (by simp) ?_
        refine AllReadyH.cons rfl (fun K hK => ?_) AllReadyH.nil
        go_simp
        have hbx := bchain HQ6.out HO9.out.2
        have HTx : Hid (Txs w9 (.slice al nl cl) l ∧ Txs w9 v9 (rs ++ [nx])) := ⟨HA5.out.2.2.2.1.later hbx, txs_app18 (by have h := HO9.out.1; rw [← HNl.out.2] at h; exact h) HTc.out.1 (fun k hk => by obtain ⟨y, e1, e2⟩ := HTc.out.2 k hk; exact ⟨y, e1, e2.later HO9.out.2⟩) (HA5.out.2.2.1.later hbx)⟩
        obtain ⟨a9, c9, e9, -, -⟩ := HTx.out.2.len
        subst e9
        refine (texts18 _ _ _ _ w9 HTx.out.1 HTx.out.2).mono ?_
        rintro e w10 ⟨rfl, hb10⟩
        rw [decide_eq_true HE3.out.2.2]
        have HZ : Hid (Below w.heap.size w w10) := bchain (bchain HW5.out hbx) hb10
        refine hK.out _ _ (kb_later hb10 HS) (fun HS => ?_)
        clear hK K hb10 hbx HTx
        try simp only [Act.put, List.getElem_toArray, List.getElem_cons_succ, List.getElem_cons_zero, List.setIfInBounds_toArray, List.set_cons_zero, List.set_cons_succ]
        refine wpAnyH_take (i := 19) (v := ?_) rfl (by kernel_rfl) (by kernel_rfl) (by kernel_rfl) (fun _ _ _ h => h) (Or.inl ⟨by kernel_rfl, ?_⟩) HS ?_
        rotate_left
        · (rintro w ⟨n0, n1, n3, n4, n5⟩; go_simp) <;> with_reducible rfl
        try simp only [Act.put, List.getElem_toArray, List.getElem_cons_succ, List.getElem_cons_zero, List.setIfInBounds_toArray, List.set_cons_zero, List.set_cons_succ]
        refine wpAnyH_take (i := 20) (v := ?_) rfl (by kernel_rfl) (by kernel_rfl) (by kernel_rfl) (fun _ _ _ h => h) (Or.inl ⟨by kernel_rfl, ?_⟩) HS ?_
        rotate_left
        · (rintro w ⟨n0, n1, n3, n4, n5⟩; go_simp) <;> with_reducible rfl
        try simp only [Act.put, List.getElem_toArray, List.getElem_cons_succ, List.getElem_cons_zero, List.setIfInBounds_toArray, List.set_cons_zero, List.set_cons_succ]
        refine wpAnyH_done (by kernel_rfl) ?_ _
        clear HS HS0
        go_wp2_with fail
        go_ret
        exact ⟨rfl, HZ.out⟩
end Go.Proofs.YthnpdcblfocemaaDoor
