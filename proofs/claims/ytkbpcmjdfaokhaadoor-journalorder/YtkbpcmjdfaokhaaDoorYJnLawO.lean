/-
  The laws of layer 17: JournalOrder.
-/
import Derived.Test.YtkbpcmjdfaokhaaDoorZ43

set_option linter.unusedVariables false
set_option linter.unusedSimpArgs false
namespace Go.Proofs.YtkbpcmjdfaokhaaDoor
open Go.RowKit

theorem P2.grow {S T : World → (Nat → Prop) → Prop} (oS : Owns S) (oT : Owns T) {w0 w w' : World} {N N' : Nat → Prop} (h : P2 S T w0 w N) (k : ∀ i, i < w.heap.size → ¬ N i → w'.heap[i]? = w.heap[i]?) (hs : w.heap.size ≤ w'.heap.size) (hb : Below w0.heap.size w0 w') (hN : ∀ i, N' i → N i ∨ (w.heap.size ≤ i ∧ i < w'.heap.size)) : P2 S T w0 w' N' := by
  obtain ⟨F, G, h1, h2, h3, h4, h5, h6, h7⟩ := h
  refine ⟨F, G, oS.kept h1 (fun i hi => k i (oS.lt h1 i hi) (fun q => (h6 i q).1 hi)) hs, oT.kept h2 (fun i hi => k i (oT.lt h2 i hi) (fun q => (h6 i q).2.1 hi)) hs, h3, h4, h5, fun i hi => ?_, hb⟩
  rcases hN i hi with q | q
  · obtain ⟨a, b, c, e⟩ := h6 i q
    exact ⟨a, b, c, by omega⟩
  · exact ⟨fun e => by have := oS.lt h1 i e; omega, fun e => by have := oT.lt h2 i e; omega, by have := h7.size; omega, q.2⟩
theorem KpO.lt {w0 w : World} {v : Value} {ls : List (List Nat)} (h : KpO w0 w v ls) : ∀ g, v.ownBlock = some g → g < w.heap.size := by
  obtain ⟨cs, h1, h2⟩ := h
  exact fun g hg => (World.ownsRow.lt h1 g hg).2
/-- Between two appends. -/
def Ord (V : Disk1) (J : Jour1 V) (d q : Value) (size : Nat) (w0 w : World) (v : Value) (ls : List (List Nat)) (used : Nat) (s : Dsk) : Prop :=
  P2 (JD V J d q 1 size s ⟨9, ls.length, used⟩) Nil2 w0 w (fun k => v.ownBlock = some k) ∧ KpO w0 w v ls ∧ JIn 1 size 9 0 ls used s ∧ s.ar = false ∧ Jq (size + 2) s
set_option maxRecDepth 100000 in
set_option maxHeartbeats 32000000 in
theorem journalOrder_any {V : Disk1} (J : Jour1 V) (size : Int) (hs : Bd64 size) (vl : Value) (ts : List (List Nat)) (hbt : ∀ j, j < ts.length → ∀ c ∈ ts.getD j [], c < 256) (w : World) (ht : Txs w vl ts) (hT : JT w) :
    Calls Tryd.prog 6 #[.int .i64 size, vl] w fun e w' => e = .returned (.bool true) ∧ Below w.heap.size w w' := by
  have HL : Hid (Txs w vl ts ∧ ∀ j, j < ts.length → ∀ c ∈ ts.getD j [], c < 256) := ⟨ht, hbt⟩
  obtain ⟨al, cl, rfl, k3, k4⟩ := ht.len
  unfold maxLen at k4
  obtain ⟨m, hm⟩ : ∃ m, ts.length = m := ⟨_, rfl⟩
  have HM : Hid (ts.length = m) := hm
  rw [hm] at k3 HL ⊢
  have HT : Hid (JT w) := hT
  clear ht hm hbt hT
  go_enter Tryd.func6, Tryd.ntmps6
  go_wp2_with fail
  refine (awake17 J w HT.out).mono ?_
  rintro e w1 ⟨rfl, hb1⟩
  have HB1 : Hid (Below w.heap.size w w1) := hb1
  clear hb1
  by_cases q1 : size < 1
  · go_wp2
    go_ret
    exact ⟨rfl, HB1.out⟩
  by_cases q2 : 30 < size
  · go_wp2
    go_ret
    exact ⟨rfl, HB1.out⟩
  by_cases q3 : 40 < m
  · have q3I : (40 : Int) < (m : Int) := by omega
    go_wp2
    go_ret
    exact ⟨rfl, HB1.out⟩
  have q3I : ¬ (40 : Int) < (m : Int) := by omega
  obtain ⟨n, rfl⟩ : ∃ n : Nat, size = (n : Int) := ⟨size.toNat, by omega⟩
  obtain ⟨n2, hn2⟩ : ∃ n2, n + 2 = n2 := ⟨_, rfl⟩
  have HN : Hid (1 ≤ n ∧ n ≤ 30 ∧ n + 2 = n2) := ⟨by omega, by omega, hn2⟩
  have y1 : IntKind.i64.wrap ((n : Int) + 2) = (n2 : Int) := by rw [IntKind.wrap_i64]; omega
  clear hn2
  go_wp2_with fail
  refine (dwNew V w w1 n2 (by have := HN.out; omega) (by have := HN.out; omega) HB1.out).mono ?_
  rintro e w2 ⟨d, rfl, hD2⟩
  have HD2 : Hid (Dw V w w2 d (dNew n2)) := hD2
  clear hD2 HB1
  go_wp2_with fail
  refine (jdNew J HD2.out 1 n HN.out.1 (by show _ ≤ (List.replicate _ _).length; rw [List.length_replicate]; have := HN.out; omega)).mono ?_
  rintro e w3 ⟨aq, rfl, hD3⟩
  have HD3 : Hid (P2 (JD V J d (.pointer (some aq)) 1 n (dNew n2) ⟨0, 0, 0⟩) Nil2 w w3 (fun _ => False)) := hD3
  clear hD3 HD2
  go_wp2_with fail
  refine (jdAppend owns_nil HD3.out HT.out (jq_new n2) (jb_new n) (by have := HN.out; omega) (by have := HN.out; omega) (by omega) (v := .slice none 0 0) (r := []) (bs_nilS w3) (fun a n' c e hn => by cases e) (fun x hx => by cases hx) (by simp)).mono ?_
  rintro e w4 ⟨rfl, hD4, -⟩
  have e180 : japp (dNew n2) 1 n ⟨0, 0, 0⟩ [] = (180, dNew n2, ⟨0, 0, 0⟩) := by unfold japp; rw [if_pos rfl]
  rw [e180] at hD4 ⊢
  have HD4 : Hid (P2 (JD V J d (.pointer (some aq)) 1 n (dNew n2) ⟨0, 0, 0⟩) Nil2 w w4 (fun _ => False)) := hD4
  clear hD4 HD3
  go_wp2_with fail
  refine (jdBegin owns_nil HD4.out 9 ⟨by decide, by decide⟩).mono ?_
  rintro e w5 ⟨rfl, hD5, -⟩
  have HO5 : Hid (Ord V J d (.pointer (some aq)) n w w5 (.slice none 0 0) [] 0 (dNew n2)) := ⟨hD5.weak (fun k hk => by cases hk), kpo_nil w w5, (jrest_new (by have := HN.out; omega)).begin, rfl, by have := HN.out.2.2; rw [this]; exact jq_new n2⟩
  clear hD5 HD4
  go_upto_region 11 with fail
  go_loopw [9, 62] (fun s9 s62 wr => ∃ (j : Nat) (ls : List (List Nat)) (used : Nat) (s : Dsk), j ≤ m ∧ ls.length ≤ j ∧ s62 = .int .i64 (j : Int) ∧ Hid (Ord V J d (.pointer (some aq)) n w wr s9 ls used s)) (fun _ s62 _ => m - (intOf s62).toNat)
  case atStart => exact ⟨0, [], 0, dNew n2, by omega, by simp, rfl, HO5.out⟩
  case round =>
    obtain ⟨j, ls, used, s, hj, hlj, rfl, HO⟩ := hrel
    clear HO5
    obtain ⟨aT, cT, rfl⟩ := (HO.out.2.1.txo HO.out.1.bel).sl
    by_cases hlt : j < m
    · have hjI : (j : Int) < (m : Int) := by omega
      have hj0 : (0 : Int) ≤ (j : Int) := by omega
      obtain ⟨b, o, x, rfl, c0, hx⟩ := HL.out.1.cel j (by have := HM.out; omega)
      have HXb : Hid (∀ c ∈ ts.getD j [], c < 256) := HL.out.2 j (by have := HM.out; omega)
      have z0 := cell_later HO.out.1.bel c0
      generalize ts.getD j [] = r at *
      obtain ⟨ax, cx, rfl, -, -⟩ := hx.len
      obtain ⟨nr, hnr⟩ : ∃ nr, r.length = nr := ⟨_, rfl⟩
      have HX : Hid (Bs w (.slice ax nr cx) r ∧ r.length = nr) := ⟨by rw [← hnr]; exact hx, hnr⟩
      rw [hnr] at z0
      clear hnr hx c0
      obtain ⟨L, hL⟩ : ∃ L, ls.length = L := ⟨_, rfl⟩
      by_cases q4 : 1500 < nr
      · have q4I : (1500 : Int) < (nr : Int) := by omega
        have HB9 : Hid (Below w.heap.size w wr) := HO.out.1.bel
        go_wp2_with fail
        go_ret
        exact ⟨rfl, HB9.out⟩
      have q4I : ¬ (1500 : Int) < (nr : Int) := by omega
      have HOl := HO
      rw [hL]
      go_wp2_with fail
      refine (jdLeft owns_nil HO.out.1 HO.out.2.2.1.us).mono ?_
      rintro e w6 ⟨rfl, hb6⟩
      obtain ⟨R, hR⟩ : ∃ R, n - used = R := ⟨_, rfl⟩
      have eL : (((if (⟨9, ls.length, used⟩ : Jst).gen = 0 then 0 else n - (⟨9, ls.length, used⟩ : Jst).next : Nat)) : Int) = (R : Int) := by rw [if_neg (by show ¬ (9 = 0); decide), ← hR]
      rw [eL]
      have HO6 : Hid (P2 (JD V J d (.pointer (some aq)) 1 n s ⟨9, ls.length, used⟩) Nil2 w w6 (fun k => Value.ownBlock (.slice aT ls.length cT) = some k) ∧ KpO w w6 (.slice aT ls.length cT) ls) := ⟨(HO.out.1.later (jd_owns _ _ _ _ _ _ _ _) owns_nil hb6).weak (fun _ h => Or.inl h), HO.out.2.1.later hb6⟩
      have HJ : Hid (JIn 1 n 9 0 ls used s ∧ s.ar = false ∧ Jq (n + 2) s ∧ used ≤ n) := ⟨HO.out.2.2.1, HO.out.2.2.2.1, HO.out.2.2.2.2, HO.out.2.2.1.us⟩
      clear hb6 HO HOl eL z0
      have husn := HJ.out.2.2.2
      obtain ⟨P, hP⟩ : ∃ P, prt nr = P := ⟨_, rfl⟩
      have HPr : Hid (prt nr = P) := hP
      have HAp := jdAppend owns_nil HO6.out.1 HT.out HJ.out.2.2.1 (k := 40) ⟨husn, by show ls.length ≤ 40; omega, by show 9 < _; omega⟩ (by omega) (by have := HN.out; omega) (by omega) (HX.out.1.later HO6.out.1.bel) (Ls.lo HX.out.1).ou HXb.out (by have := HX.out.2; omega)
      obtain ⟨D, hD⟩ : ∃ D, (nr + 103) / 104 = D := ⟨_, rfl⟩
      have d1 : IntKind.i64.wrap ((nr : Int) + 103) = ((nr + 103 : Nat) : Int) := by rw [IntKind.wrap_i64]; omega
      have d2 : Int.tdiv ((nr + 103 : Nat) : Int) 104 = (D : Int) := by rw [Int.tdiv_eq_ediv_of_nonneg (by omega)]; omega
      have d3 : IntKind.i64.wrap (D : Int) = (D : Int) := by rw [IntKind.wrap_i64]; omega
      have hPD : P = max 1 D := by rw [← hP, ← hD]; rfl
      by_cases hfit : used + P ≤ n
      · obtain ⟨s', e1, e2, e3⟩ := japp_on HJ.out.1 HJ.out.2.1 (by decide) HXb.out (by have := HX.out.2; omega) (by rw [HX.out.2, hP]; exact hfit)
        rw [e1] at HAp
        rw [HX.out.2, hP] at HAp e2
        go_wp2_with fail
        refine HAp.mono ?_
        rintro e w7 ⟨rfl, hD7, hK7⟩
        go_upto_region 18 with fail
        have eM : (if 1 < ((nr : Int) + 103) / 104 then ((nr : Int) + 103) / 104 else 1) = (P : Int) := by
          split <;> omega
        rw [eM]
        have hR2 : ¬ (R : Int) < (P : Int) := by omega
        obtain ⟨R2, hR3⟩ : ∃ R2, R - P = R2 := ⟨_, rfl⟩
        have r1 : (R : Int) - (P : Int) = (R2 : Int) := by omega
        have r2 : IntKind.i64.wrap (R2 : Int) = (R2 : Int) := by rw [IntKind.wrap_i64]; omega
        have HO7 : Hid (P2 (JD V J d (.pointer (some aq)) 1 n s' ⟨9, (ls ++ [r]).length, used + P⟩) Nil2 w w7 (fun k => Value.ownBlock (.slice aT L cT) = some k) ∧ KpO w w7 (.slice aT L cT) ls) := by
          have h1 := hD7
          have h2 := HO6.out.2.kn hK7 (fun g hg => hg)
          rw [hL] at h1 h2
          exact ⟨h1, h2⟩
        have HJ7 : Hid (JIn 1 n 9 0 (ls ++ [r]) (used + P) s' ∧ s'.ar = false ∧ Jq (n + 2) s') := by
          have hq := jq_app HJ.out.2.2.1 (base := 1) (size := n) (k := 40) (j := ⟨9, ls.length, used⟩) ⟨husn, by show ls.length ≤ 40; omega, by show 9 < _; omega⟩ (by omega) r (by have := HX.out.2; omega)
          rw [e1] at hq
          exact ⟨e2, e3, hq⟩
        clear hD7 hK7 HO6 HAp e1 e2 e3 eM
        go_upto_region 22 with (at_builtin; (refine apKp rfl _ _ rfl (w0 := w) (.slice aT L cT) ls rfl HO7.out.2 ax nr cx r HX.out.1 _ rfl (by omega) HO7.out.1.bel.size ?_; intro v8 w8 hT8 hg8 hk8 hb8; have HO8 : Hid (P2 (JD V J d (.pointer (some aq)) 1 n s' ⟨9, (ls ++ [r]).length, used + P⟩) Nil2 w w8 (fun k => v8.ownBlock = some k) ∧ KpO w w8 v8 (ls ++ [r])) := ⟨HO7.out.1.grow (jd_owns _ _ _ _ _ _ _ _) owns_nil (fun i hi hn => hk8 i hi hn) hg8.2 (hg8.1 _ HO7.out.1.bel) (fun i hi => (hb8 i hi).imp id (fun q => ⟨q, hT8.lt i hi⟩)), hT8⟩; clear hT8 hg8 hk8 hb8))
        clear HO7
        obtain ⟨a8, c8, rfl⟩ := (HO8.out.2.txo HO8.out.1.bel).sl
        go_wp2_with fail
        refine (jdLeft owns_nil HO8.out.1 HJ7.out.1.us).mono ?_
        rintro e w9 ⟨rfl, hb9⟩
        have eL2 : (((if (⟨9, (ls ++ [r]).length, used + P⟩ : Jst).gen = 0 then 0 else n - (⟨9, (ls ++ [r]).length, used + P⟩ : Jst).next : Nat)) : Int) = (R2 : Int) := by
          rw [if_neg (by show ¬ (9 = 0); decide), ← hR3, ← hR]
          show ((n - (used + P) : Nat) : Int) = _
          omega
        rw [eL2]
        have t1 : ((R2 : Int) != (R2 : Int)) = false := by simp
        have HO9 : Hid (Ord V J d (.pointer (some aq)) n w w9 (.slice a8 (ls ++ [r]).length c8) (ls ++ [r]) (used + P) s') := ⟨(HO8.out.1.later (jd_owns _ _ _ _ _ _ _ _) owns_nil hb9).weak (fun _ h => Or.inl h), HO8.out.2.later hb9, HJ7.out.1, HJ7.out.2.1, HJ7.out.2.2⟩
        have hl1 : (ls ++ [r]).length ≤ j + 1 := by rw [List.length_append]; simp; omega
        clear hb9 HO8 HJ7 eL2
        have hl9 : (ls ++ [r]).length = L + 1 := by rw [List.length_append, hL]; rfl
        rw [hl9] at HO9 hl1
        go_wp2_with fail
        go_roundw
        case rel => exact ⟨j + 1, ls ++ [r], used + P, s', by omega, by rw [hl9]; omega, by first | rfl | go_num, HO9⟩
        case measure => simp only [intOf]; omega
      · have e1 := japp_full (s := s) (base := 1) (size := n) (j := ⟨9, ls.length, used⟩) (r := r) (by show ¬ (9 = 0); decide) (by have := HX.out.2; omega) (by show n - used < _; rw [HX.out.2, hP]; omega)
        rw [e1] at HAp
        go_wp2_with fail
        refine HAp.mono ?_
        rintro e w7 ⟨rfl, hD7, hK7⟩
        go_upto_region 18 with fail
        have eM : (if 1 < ((nr : Int) + 103) / 104 then ((nr : Int) + 103) / 104 else 1) = (P : Int) := by
          split <;> omega
        rw [eM]
        have hR2 : (R : Int) < (P : Int) := by omega
        have HO7 : Hid (P2 (JD V J d (.pointer (some aq)) 1 n s ⟨9, ls.length, used⟩) Nil2 w w7 (fun k => Value.ownBlock (.slice aT ls.length cT) = some k) ∧ KpO w w7 (.slice aT ls.length cT) ls) := ⟨hD7, HO6.out.2.kn hK7 (fun g hg => hg)⟩
        clear hD7 hK7 HO6 HAp e1 eM
        go_wp2_with fail
        refine (jdLeft owns_nil HO7.out.1 husn).mono ?_
        rintro e w9 ⟨rfl, hb9⟩
        have eL2 : (((if (⟨9, ls.length, used⟩ : Jst).gen = 0 then 0 else n - (⟨9, ls.length, used⟩ : Jst).next : Nat)) : Int) = (R : Int) := by rw [if_neg (by show ¬ (9 = 0); decide), ← hR]
        rw [eL2]
        have t1 : ((R : Int) != (R : Int)) = false := by simp
        have HO9 : Hid (Ord V J d (.pointer (some aq)) n w w9 (.slice aT L cT) ls used s) := by
          have h1 := (HO7.out.1.later (jd_owns _ _ _ _ _ _ _ _) owns_nil hb9).weak (N' := (fun k => Value.ownBlock (.slice aT ls.length cT) = some k)) (fun _ h => Or.inl h)
          have h2 := HO7.out.2.later hb9
          rw [hL] at h2
          refine ⟨?_, h2, HJ.out.1, HJ.out.2.1, HJ.out.2.2.1⟩
          rw [← hL]
          exact h1
        clear hb9 HO7 eL2
        go_wp2_with fail
        go_roundw
        case rel => exact ⟨j + 1, ls, used, s, by omega, by omega, by first | rfl | go_num, HO9⟩
        case measure => simp only [intOf]; omega
    · obtain rfl : j = m := by omega
      have hjI : ¬ (j : Int) < (j : Int) := by omega
      have husn := HO.out.2.2.1.us
      have hr1 := HO.out.2.2.1.read (by omega) (by omega)
      have hr2 := HO.out.2.2.1.other (by omega) (f := 8) (by omega) (by omega) (by omega)
      have E9 : Hid (rdE17 s 9 = 0 ∧ rdL17 s 1 n 9 = ls ∧ rdE17 s 8 = 0 ∧ rdL17 s 1 n 8 = []) := by
        have hd := HO.out.2.2.1.dn
        refine ⟨?_, ?_, ?_, ?_⟩
        · unfold rdE17; rw [if_neg (by decide), if_neg (by rw [hd]; simp)]
        · unfold rdL17; rw [if_neg (by decide), if_neg (by rw [hd]; simp)]; exact hr1
        · unfold rdE17; rw [if_neg (by decide), if_neg (by rw [hd]; simp)]
        · unfold rdL17; rw [if_neg (by decide), if_neg (by rw [hd]; simp)]; exact hr2
      have hn30 : n ≤ 30 := HN.out.2.1
      clear hr1 hr2
      go_wp2_with fail
      refine (jdRead owns_nil HO.out.1 HT.out HO.out.2.2.2.2 (by omega) (by omega) 9 ⟨by decide, by decide⟩).mono ?_
      rintro e w7 ⟨t1, rfl, hT1, hb7⟩
      rw [E9.out.1]
      rw [E9.out.2.1] at hT1
      have HO7 : Hid (P2 (JD V J d (.pointer (some aq)) 1 n s ⟨9, ls.length, used⟩) Nil2 w w7 (fun _ => False) ∧ KpO w w7 (.slice aT ls.length cT) ls ∧ Txs w7 t1 ls) := ⟨(HO.out.1.later (jd_owns _ _ _ _ _ _ _ _) owns_nil hb7).weak (fun _ h => h.elim), HO.out.2.1.later hb7, hT1⟩
      have HJ : Hid (Jq (n + 2) s) := HO.out.2.2.2.2
      clear hT1 hb7 HO
      go_wp2_with fail
      refine (jdRead owns_nil HO7.out.1 HT.out HJ.out (by omega) (by omega) 8 ⟨by decide, by decide⟩).mono ?_
      rintro e w8 ⟨t2, rfl, hT2, hb8⟩
      rw [E9.out.2.2.1]
      rw [E9.out.2.2.2] at hT2
      obtain ⟨a2, c2, rfl, -, -⟩ := hT2.len
      have HO8 : Hid (Txs w8 t1 ls ∧ Txs w8 (.slice aT ls.length cT) ls ∧ Below w.heap.size w w8) := ⟨HO7.out.2.2.later hb8, ((HO7.out.2.1.later hb8).txo (bchain HO7.out.1.bel hb8)).txs, bchain HO7.out.1.bel hb8⟩
      have hl0 : ([] : List (List Nat)).length = 0 := rfl
      rw [hl0]
      clear hT2 hb8 HO7 E9
      go_wp2_with fail
      refine (texts17 _ _ _ _ w8 HO8.out.1 HO8.out.2.1).mono ?_
      rintro e w9 ⟨rfl, hb9⟩
      rw [decide_eq_true rfl]
      have HB9 : Hid (Below w.heap.size w w9) := bchain HO8.out.2.2 hb9
      clear hb9 HO8
      go_wp2_with fail
      go_ret
      exact ⟨rfl, HB9.out⟩
end Go.Proofs.YtkbpcmjdfaokhaaDoor
