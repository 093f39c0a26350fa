/-
The program's pack: the reader's calls; all contracts together.
Layer 14's msg: which fields a kind has, where a field stands in a list, how great it is and its ends.
Layer 14's msg: Right.
-/
import Derived.Test.YtfcbgkcclganmaaDoorZ17
import Derived.Test.YtfcbgkcclganmaaDoorZ18
import Derived.Test.YtfcbgkcclganmaaDoorZ14
import Derived.Test.YtfcbgkcclganmaaDoorZ16

set_option linter.unusedVariables false
set_option linter.unusedSimpArgs false
namespace Go.Proofs.YtfcbgkcclganmaaDoor
open Go.RowKit

theorem rU_err {l : List Nat} {e : Nat} (h : rU l = .error e) : e = 120 ∨ e = 121 := rd_err l 0 0 e h
theorem rI_err {l : List Nat} {e : Nat} (h : rI l = .error e) : e = 120 ∨ e = 121 := by
  cases hU : rU l with
  | error x => rw [rI_no hU] at h; cases h; exact rU_err hU
  | ok z => rw [rI_ok (n := z.1) (t := z.2) hU] at h; cases h
theorem rF_err {l : List Nat} {e : Nat} (h : rF l = .error e) : e = 120 ∨ e = 121 := by
  unfold rF at h
  split at h
  · cases h; exact Or.inl rfl
  · cases h
theorem rB_err {l : List Nat} {e : Nat} (h : rB l = .error e) : e = 120 ∨ e = 121 := by
  cases hU : rU l with
  | error x => rw [rB_no hU] at h; cases h; exact rU_err hU
  | ok z =>
    by_cases q : z.2.length < z.1
    · rw [rB_lack (n := z.1) (t := z.2) hU q] at h; cases h; exact Or.inl rfl
    · rw [rB_ok (n := z.1) (t := z.2) hU (by omega)] at h; cases h
theorem itS_fault {P : Rdr Int} (hP : ∀ {l e}, P l = .error e → e = 120 ∨ e = 121) : ∀ (n : Nat) (l : List Nat) (e : Nat), itS P n (.ok l) = .error e → e = 120 ∨ e = 121 := by
  intro n
  induction n with
  | zero => intro l e h; cases h
  | succ n ih =>
    intro l e h
    rw [itS_front] at h
    cases hl : P l with
    | error x => rw [pn_no hl, itS_err] at h; cases h; exact hP hl
    | ok z => rw [pn_ok (x := z.1) (t := z.2) hl] at h; exact ih _ _ h
theorem rep_err {P : Rdr Int} (hP : ∀ {l e}, P l = .error e → e = 120 ∨ e = 121) {n : Nat} {l : List Nat} {e : Nat} (h : rep P 0 n l = .error e) : e = 120 ∨ e = 121 := by
  cases hs : itS P n (.ok l) with
  | error x => rw [rep_no hs] at h; cases h; exact itS_fault hP n l _ hs
  | ok t => rw [rep_ok hs] at h; cases h
theorem rIs_err {l : List Nat} {e : Nat} (h : rIs l = .error e) : e = 120 ∨ e = 121 := by
  cases hU : rU l with
  | error x => rw [rIs_no hU] at h; cases h; exact rU_err hU
  | ok z =>
    by_cases q : z.2.length < z.1
    · rw [rIs_lack (n := z.1) (t := z.2) hU q] at h; cases h; exact Or.inl rfl
    · rw [rIs_ok (n := z.1) (t := z.2) hU (by omega)] at h; exact rep_err rI_err h
theorem rFs_err {l : List Nat} {e : Nat} (h : rFs l = .error e) : e = 120 ∨ e = 121 := by
  cases hU : rU l with
  | error x => rw [rFs_no hU] at h; cases h; exact rU_err hU
  | ok z =>
    by_cases q : z.2.length / 8 < z.1
    · rw [rFs_lack (n := z.1) (t := z.2) hU q] at h; cases h; exact Or.inl rfl
    · rw [rFs_ok (n := z.1) (t := z.2) hU (by omega)] at h; exact rep_err rF_err h
set_option maxRecDepth 100000 in
set_option maxHeartbeats 1000000 in
theorem rInt_any (w : World) (p : Value) (F : Nat → Prop) (s : Sta) (h : Rp w p F s) :
    Calls Tryd.prog 59 #[p] w fun e w' => e = .returned (.int .i64 (pv rI 0 s)) ∧ Af Rp p F (pn rI s) w w' := by
  have hmf : ∀ (fn : Fn) (first cap : Array Value) (w : World), (Instr.makeFunc fn first cap).run Tryd.prog w = .ok (.func fn first cap) w := fun _ _ _ _ => rfl
  have HR : Hid (Rp w p F s) := h
  have hq : ∃ q, p = .pointer q := by
    rcases h with ⟨rfl, -, -⟩ | ⟨b, rfl, -⟩
    · exact ⟨_, rfl⟩
    · exact ⟨_, rfl⟩
  cases s with
  | error x =>
    obtain ⟨q, rfl⟩ := hq
    have HX : Hid (x ≠ 0) := by
      rcases h with ⟨-, e, -⟩ | ⟨b, -, ⟨y, e, h⟩ | ⟨l, e, h⟩⟩
      · cases e; show _ ≠ _; omega
      · cases e; exact h.ne
      · cases e
    have HV : Hid (pv rI 0 (.error x) = 0) := rfl
    clear h
    go_enter Tryd.func59, Tryd.ntmps59
    go_wp2_with fail
    refine (faceI_skip _ _ F w x HX.out HR.out).mono ?_
    rintro e w1 ⟨rfl, hB⟩
    have HA : Hid (Af Rp (.pointer q) F (pn rI (.error x)) w w1) := ⟨F, HR.out.kept (fun k hk => hB.block k (HR.out.lt k hk)) hB.size, fun _ h => Or.inl h, Kp.of hB⟩
    clear hB
    go_wp2
    go_ret
    exact ⟨by rw [HV.out]; rfl, HA.out⟩
  | ok l =>
    clear hq
    rcases h with ⟨-, e, -⟩ | ⟨b, rfl, ⟨y, e, h⟩ | ⟨l, e, h⟩⟩
    · cases e
    · cases e
    cases e
    have HO : Hid (Ro w b F l) := h
    have HG : Hid (∀ i, i = b → F i) := fun i hi => by rw [hi]; exact h.fb
    clear h
    cases hr : rI l with
    | error x =>
      have HU : Hid (rI l = .error x) := hr
      have HX : Hid (x ≠ 0) := by have := rI_err hr; show _ ≠ _; omega
      have HV : Hid (pv rI 0 (.ok l) = 0 ∧ pn rI (.ok l) = .error x) := ⟨pv_no hr, pn_no hr⟩
      clear hr
      go_enter Tryd.func59, Tryd.ntmps59
      go_wp2_with fail
      refine (faceI_no b F l w HO.out x HX.out HU.out).mono ?_
      rintro e w1 ⟨rfl, hE, hK⟩
      have HA : Hid (Af Rp (.pointer (some ⟨b, 0, none⟩)) F (pn rI (.ok l)) w w1) := ⟨F, Or.inr ⟨b, rfl, Or.inl ⟨x, HV.out.2, hE⟩⟩, fun _ h => Or.inl h, hK.mono HG.out⟩
      clear hE hK
      go_wp2
      go_ret
      exact ⟨by rw [HV.out.1]; rfl, HA.out⟩
    | ok z =>
      obtain ⟨x, t⟩ := z
      have HU : Hid (rI l = .ok (x, t)) := hr
      have HV : Hid (pv rI 0 (.ok l) = x ∧ pn rI (.ok l) = .ok t) := ⟨pv_ok hr, pn_ok hr⟩
      clear hr
      go_enter Tryd.func59, Tryd.ntmps59
      go_wp2_with fail
      refine (faceI_ok b F l w HO.out x t HU.out).mono ?_
      rintro e w1 ⟨v, rfl, hA, hE, hK⟩
      have HA : Hid (Af Rp (.pointer (some ⟨b, 0, none⟩)) F (pn rI (.ok l)) w w1) := ⟨F, Or.inr ⟨b, rfl, Or.inr ⟨t, HV.out.2, hE⟩⟩, fun _ h => Or.inl h, hK.mono HG.out⟩
      clear hE hK
      obtain rfl := hA
      go_wp2
      go_ret
      exact ⟨by rw [HV.out.1]; rfl, HA.out⟩
set_option maxRecDepth 100000 in
set_option maxHeartbeats 1000000 in
theorem rBytes_any (w : World) (p : Value) (F : Nat → Prop) (s : Sta) (h : Rp w p F s) :
    Calls Tryd.prog 60 #[p] w fun e w' => ∃ v, e = .returned v ∧ Bs w' v (pv rB [] s) ∧ Ow w.heap.size v ∧ Af Rp p F (pn rB s) w w' := by
  have hmf : ∀ (fn : Fn) (first cap : Array Value) (w : World), (Instr.makeFunc fn first cap).run Tryd.prog w = .ok (.func fn first cap) w := fun _ _ _ _ => rfl
  have HR : Hid (Rp w p F s) := h
  have hq : ∃ q, p = .pointer q := by
    rcases h with ⟨rfl, -, -⟩ | ⟨b, rfl, -⟩
    · exact ⟨_, rfl⟩
    · exact ⟨_, rfl⟩
  cases s with
  | error x =>
    obtain ⟨q, rfl⟩ := hq
    have HX : Hid (x ≠ 0) := by
      rcases h with ⟨-, e, -⟩ | ⟨b, -, ⟨y, e, h⟩ | ⟨l, e, h⟩⟩
      · cases e; show _ ≠ _; omega
      · cases e; exact h.ne
      · cases e
    have HV : Hid (pv rB [] (.error x) = []) := rfl
    clear h
    go_enter Tryd.func60, Tryd.ntmps60
    go_wp2_with fail
    refine (faceB_skip _ _ F w x HX.out HR.out).mono ?_
    rintro e w1 ⟨rfl, hB⟩
    have HA : Hid (Af Rp (.pointer q) F (pn rB (.error x)) w w1) := ⟨F, HR.out.kept (fun k hk => hB.block k (HR.out.lt k hk)) hB.size, fun _ h => Or.inl h, Kp.of hB⟩
    clear hB
    go_wp2
    go_ret
    exact ⟨.slice none 0 0, rfl, by rw [HV.out]; exact ls_none _ _, (fun a n cap e => by cases e), HA.out⟩
  | ok l =>
    clear hq
    rcases h with ⟨-, e, -⟩ | ⟨b, rfl, ⟨y, e, h⟩ | ⟨l, e, h⟩⟩
    · cases e
    · cases e
    cases e
    have HO : Hid (Ro w b F l) := h
    have HG : Hid (∀ i, i = b → F i) := fun i hi => by rw [hi]; exact h.fb
    clear h
    cases hr : rB l with
    | error x =>
      have HU : Hid (rB l = .error x) := hr
      have HX : Hid (x ≠ 0) := by have := rB_err hr; show _ ≠ _; omega
      have HV : Hid (pv rB [] (.ok l) = [] ∧ pn rB (.ok l) = .error x) := ⟨pv_no hr, pn_no hr⟩
      clear hr
      go_enter Tryd.func60, Tryd.ntmps60
      go_wp2_with fail
      refine (faceB_no b F l w HO.out x HX.out HU.out).mono ?_
      rintro e w1 ⟨rfl, hE, hK⟩
      have HA : Hid (Af Rp (.pointer (some ⟨b, 0, none⟩)) F (pn rB (.ok l)) w w1) := ⟨F, Or.inr ⟨b, rfl, Or.inl ⟨x, HV.out.2, hE⟩⟩, fun _ h => Or.inl h, hK.mono HG.out⟩
      clear hE hK
      go_wp2
      go_ret
      exact ⟨.slice none 0 0, rfl, by rw [HV.out.1]; exact ls_none _ _, (fun a n cap e => by cases e), HA.out⟩
    | ok z =>
      obtain ⟨x, t⟩ := z
      have HU : Hid (rB l = .ok (x, t)) := hr
      have HV : Hid (pv rB [] (.ok l) = x ∧ pn rB (.ok l) = .ok t) := ⟨pv_ok hr, pn_ok hr⟩
      clear hr
      go_enter Tryd.func60, Tryd.ntmps60
      go_wp2_with fail
      refine (faceB_ok b F l w HO.out x t HU.out).mono ?_
      rintro e w1 ⟨v, rfl, hA, hE, hK⟩
      have HA : Hid (Af Rp (.pointer (some ⟨b, 0, none⟩)) F (pn rB (.ok l)) w w1) := ⟨F, Or.inr ⟨b, rfl, Or.inr ⟨t, HV.out.2, hE⟩⟩, fun _ h => Or.inl h, hK.mono HG.out⟩
      clear hE hK
      have HL : Hid (AB w.heap.size x v w1) := hA
      obtain ⟨ad, cap, rfl, -, -⟩ := hA.1.len
      clear hA
      go_wp2
      go_ret
      exact ⟨_, rfl, by rw [HV.out.1]; exact HL.out.1, HL.out.2, HA.out⟩
end Go.Proofs.YtfcbgkcclganmaaDoor
set_option linter.unusedVariables false
set_option linter.unusedSimpArgs false
namespace Go.Proofs.YtfcbgkcclganmaaDoor
open Go.RowKit

/-- The fields of a kind. -/
def fdL (k : Int) : List Int :=
  if k = 1 ∨ k = 8 then [0, 1] else if k = 2 then [2, 3, 5] else if k = 3 then [0, 1, 2, 4] else if k = 4 then [2, 4, 5, 6] else if k = 5 then [0, 1, 2, 4, 5, 6] else if k = 6 then [1, 2, 4] else if k = 7 then [1, 2] else []
def szF (m : Ms) : Nat → Int
  | 0 => m.fr
  | 1 => m.inc
  | 2 => m.rd
  | 3 => m.h
  | 4 => m.pt
  | 5 => m.ps
  | _ => (m.d.length : Int)
def leF : Nat → Int
  | 0 => 1
  | 1 => 0
  | 2 => 0
  | 3 => 1
  | 4 => 0
  | 5 => 1
  | _ => 0
def moF : Nat → Int
  | 0 => 64
  | 1 => 2147483647
  | 2 => 256
  | 3 => 64
  | 4 => 1023
  | 5 => 1024
  | _ => 32768
theorem less7 {k : Nat} (h : k < 7) : k = 0 ∨ k = 1 ∨ k = 2 ∨ k = 3 ∨ k = 4 ∨ k = 5 ∨ k = 6 := by omega
theorem fdL_none {k : Int} (h : ¬ (1 ≤ k ∧ k ≤ 8)) : fdL k = [] := by
  unfold fdL
  rw [if_neg (by omega), if_neg (by omega), if_neg (by omega), if_neg (by omega), if_neg (by omega), if_neg (by omega), if_neg (by omega)]
theorem fdL_len (k : Int) : (fdL k).length ≤ 6 := by
  unfold fdL
  repeat' split
  all_goals simp
theorem fdL_lt (k : Int) : ∀ x ∈ fdL k, 0 ≤ x ∧ x < 7 := by
  unfold fdL
  repeat' split
  all_goals decide
theorem ow_new14 (b o n cap : Nat) : Ow b (.slice (some ⟨b, o, none⟩) n cap) := fun a n' c e hn => by cases e; exact Nat.le_refl _
set_option maxRecDepth 100000 in
set_option maxHeartbeats 2000000 in
theorem fieldsOf_any (k : Int) (w : World) :
    Calls Tryd.prog 19 #[.int .i64 k] w fun e w' => ∃ v, e = .returned v ∧ Is w' v (fdL k) ∧ Ow w.heap.size v ∧ Below w.heap.size w w' := by
  by_cases hk : 1 ≤ k ∧ k ≤ 8
  · rcases kind8 hk.1 hk.2 with rfl | rfl | rfl | rfl | rfl | rfl | rfl | rfl
    · clear hk
      go_enter Tryd.func19, Tryd.ntmps19
      go_wp2
      go_ret
      exact ⟨_, rfl, is_list w [0, 1] _ _ rfl (by decide), ow_new14 _ _ _ _, bel1 _ _⟩
    · clear hk
      go_enter Tryd.func19, Tryd.ntmps19
      go_wp2
      go_ret
      exact ⟨_, rfl, is_list w [2, 3, 5] _ _ rfl (by decide), ow_new14 _ _ _ _, bel1 _ _⟩
    · clear hk
      go_enter Tryd.func19, Tryd.ntmps19
      go_wp2
      go_ret
      exact ⟨_, rfl, is_list w [0, 1, 2, 4] _ _ rfl (by decide), ow_new14 _ _ _ _, bel1 _ _⟩
    · clear hk
      go_enter Tryd.func19, Tryd.ntmps19
      go_wp2
      go_ret
      exact ⟨_, rfl, is_list w [2, 4, 5, 6] _ _ rfl (by decide), ow_new14 _ _ _ _, bel1 _ _⟩
    · clear hk
      go_enter Tryd.func19, Tryd.ntmps19
      go_wp2
      go_ret
      exact ⟨_, rfl, is_list w [0, 1, 2, 4, 5, 6] _ _ rfl (by decide), ow_new14 _ _ _ _, bel1 _ _⟩
    · clear hk
      go_enter Tryd.func19, Tryd.ntmps19
      go_wp2
      go_ret
      exact ⟨_, rfl, is_list w [1, 2, 4] _ _ rfl (by decide), ow_new14 _ _ _ _, bel1 _ _⟩
    · clear hk
      go_enter Tryd.func19, Tryd.ntmps19
      go_wp2
      go_ret
      exact ⟨_, rfl, is_list w [1, 2] _ _ rfl (by decide), ow_new14 _ _ _ _, bel1 _ _⟩
    · clear hk
      go_enter Tryd.func19, Tryd.ntmps19
      go_wp2
      go_ret
      exact ⟨_, rfl, is_list w [0, 1] _ _ rfl (by decide), ow_new14 _ _ _ _, bel1 _ _⟩
  · have HF : Hid (fdL k = []) := fdL_none hk
    have n1 : ¬ k = 1 := by omega
    have n2 : ¬ k = 2 := by omega
    have n3 : ¬ k = 3 := by omega
    have n4 : ¬ k = 4 := by omega
    have n5 : ¬ k = 5 := by omega
    have n6 : ¬ k = 6 := by omega
    have n7 : ¬ k = 7 := by omega
    have n8 : ¬ k = 8 := by omega
    clear hk
    go_enter Tryd.func19, Tryd.ntmps19
    go_wp2
    go_ret
    exact ⟨_, rfl, by rw [HF.out]; exact (oi_nil w.heap.size w).is.1, ow_nil14 _, Below.refl _ _⟩
set_option maxRecDepth 100000 in
set_option maxHeartbeats 2000000 in
theorem index_any (v : Value) (l : List Int) (x : Int) (w : World) (h : Is w v l) :
    Calls Tryd.prog 41 #[v, .int .i64 x] w fun e w' => ∃ r : Int, e = .returned (.int .i64 r) ∧ (0 ≤ r ↔ x ∈ l) ∧ w' = w := by
  have HA : Hid (Is w v l) := h
  obtain ⟨ad, cap, rfl, k1, k2⟩ := h.len
  unfold maxLen at k2
  obtain ⟨n, hn⟩ : ∃ n, l.length = n := ⟨_, rfl⟩
  have HN : Hid (l.length = n) := hn
  rw [hn] at k1 HA ⊢
  clear h hn
  go_enter Tryd.func41, Tryd.ntmps41
  go_upto_region 2 with fail
  go_loopw [8] (fun s8 wr => ∃ j : Nat, j ≤ n ∧ s8 = .int .i64 (j : Int) ∧ Hid (∀ k, k < j → ¬ l.getD k 0 = x) ∧ wr = w) (fun s8 _ => n - (intOf s8).toNat)
  case atStart => exact ⟨0, by omega, rfl, fun k hk => by omega, rfl⟩
  case round =>
    obtain ⟨j, hj, rfl, HS, hwr⟩ := hrel
    have hwr := hwr.symm
    subst hwr
    by_cases hlt : j < n
    · have hjI : (j : Int) < (n : Int) := by omega
      have hN := HN.out
      obtain ⟨b, o, rfl, ca⟩ := HA.out.cel j (by omega)
      have HX : Hid (l.getD j 0 ∈ l) := getI_mem (by omega)
      by_cases heq : l.getD j 0 = x
      · have HM : Hid (x ∈ l) := by show _ ∈ _; rw [← heq]; exact HX.out
        rw [heq] at ca
        clear heq hN HX
        go_wp2
        go_ret
        exact ⟨(j : Int), rfl, ⟨fun _ => HM.out, fun _ => by omega⟩, rfl⟩
      · have HS2 : Hid (∀ k, k < j + 1 → ¬ l.getD k 0 = x) := fun k hk => by
          by_cases e : k = j
          · subst e; exact heq
          · exact HS.out k (by omega)
        have heq2 : ¬ x = l.getD j 0 := fun q => heq q.symm
        have hB : (x == l.getD j 0) = false := by rw [beq_eq_false_iff_ne]; exact heq2
        clear hN HX HS
        generalize l.getD j 0 = y at *
        go_wp2
        go_roundw
        case rel => exact ⟨j + 1, by omega, by go_num, HS2, by trivial⟩
        case measure => simp [intOf]; omega
    · obtain rfl : j = n := by omega
      have hjI : ¬ (j : Int) < (j : Int) := by omega
      have HM : Hid (¬ x ∈ l) := fun q => by
        obtain ⟨k, hk, e⟩ := List.getElem_of_mem q
        have hN := HN.out
        exact HS.out k (by omega) (by simp [List.getD, hk, e])
      clear HS
      go_wp2
      go_ret
      exact ⟨-1, rfl, ⟨fun q => by omega, fun q => absurd q HM.out⟩, rfl⟩
set_option maxRecDepth 100000 in
set_option maxHeartbeats 2000000 in
theorem contains_any (v : Value) (l : List Int) (x : Int) (w : World) (h : Is w v l) :
    Calls Tryd.prog 26 #[v, .int .i64 x] w fun e w' => e = .returned (.bool (decide (x ∈ l))) ∧ w' = w := by
  have C := index_any v l x w h
  obtain ⟨ad, cap, rfl, k1, k2⟩ := h.len
  clear h
  go_enter Tryd.func26, Tryd.ntmps26
  go_wp2_with fail
  refine C.mono ?_
  rintro e w1 ⟨r, rfl, hr, hw⟩
  have hw := hw.symm
  subst hw
  have HR : Hid (decide (0 ≤ r) = decide (x ∈ l)) := by show _ = _; simp only [hr]
  clear hr C
  go_wp2
  go_ret
  exact ⟨by rw [← HR.out]; rfl, by trivial⟩
set_option maxRecDepth 100000 in
set_option maxHeartbeats 2000000 in
theorem size_any (m : Ms) (ad : Option Addr) (cap : Nat) (f : Nat) (hf : f < 7) (w : World) :
    Calls Tryd.prog 22 #[msV m (.slice ad m.d.length cap), .int .i64 (f : Int)] w fun e w' => e = .returned (.int .i64 (szF m f)) ∧ Below w.heap.size w w' := by
  obtain ⟨k, fr, inc, rd, h, pt, ps, d⟩ := m
  unfold msV
  dsimp only
  rcases less7 hf with rfl | rfl | rfl | rfl | rfl | rfl | rfl
  all_goals
    clear hf
    go_enter Tryd.func22, Tryd.ntmps22
    go_wp2
    go_ret
    exact ⟨rfl, bel1 _ _⟩
set_option maxRecDepth 100000 in
set_option maxHeartbeats 2000000 in
theorem ends_any (f : Nat) (hf : f < 7) (w : World) :
    Calls Tryd.prog 27 #[.int .i64 (f : Int)] w fun e w' => e = .returned (.tuple #[.int .i64 (leF f), .int .i64 (moF f)]) ∧ w' = w := by
  rcases less7 hf with rfl | rfl | rfl | rfl | rfl | rfl | rfl
  all_goals
    clear hf
    go_enter Tryd.func27, Tryd.ntmps27
    go_wp2
    go_ret2
    exact ⟨rfl, rfl⟩
end Go.Proofs.YtfcbgkcclganmaaDoor
set_option linter.unusedVariables false
set_option linter.unusedSimpArgs false
namespace Go.Proofs.YtfcbgkcclganmaaDoor
open Go.RowKit

/-- A field is within its ends, or 0. -/
def OkF (m : Ms) (f : Nat) : Prop := ((f : Int) ∈ fdL m.k → leF f ≤ szF m f ∧ szF m f ≤ moF f) ∧ (¬ (f : Int) ∈ fdL m.k → szF m f = 0)
theorem okF_rgt (m : Ms) (h1 : 1 ≤ m.k) (h8 : m.k ≤ 8) : Rgt m ↔ (∀ f, f < 7 → OkF m f) ∧ (5 ∈ fdL m.k → m.pt < m.ps) := by
  obtain ⟨k, fr, inc, rd, h, pt, ps, d⟩ := m
  dsimp only at h1 h8
  constructor
  · intro r
    have n1 := r.nF
    have n2 := r.nI
    have n3 := r.nR
    have n4 := r.nH
    have n5 := r.nP
    have n6 := r.nS
    have n7 := r.nD
    have b1 := r.fr
    have b2 := r.inc
    have b3 := r.rd
    have b4 := r.pt
    have b5 := r.h
    have b6 := r.ps
    have b7 := r.d
    unfold uF uI uR uH uP uS uD at *
    dsimp only at *
    have e7 : d = [] ∨ 0 < d.length := by cases d with | nil => exact Or.inl rfl | cons a t => exact Or.inr (by simp)
    refine ⟨fun f hf => ?_, ?_⟩
    · rcases kind8 h1 h8 with rfl | rfl | rfl | rfl | rfl | rfl | rfl | rfl <;> rcases less7 hf with rfl | rfl | rfl | rfl | rfl | rfl | rfl <;> simp [OkF, fdL, leF, moF, szF] <;> first | omega | (exact n7 (by decide))
    · rcases kind8 h1 h8 with rfl | rfl | rfl | rfl | rfl | rfl | rfl | rfl <;> simp [fdL] <;> omega
  · rintro ⟨hA, hP⟩
    have a0 := hA 0 (by omega)
    have a1 := hA 1 (by omega)
    have a2 := hA 2 (by omega)
    have a3 := hA 3 (by omega)
    have a4 := hA 4 (by omega)
    have a5 := hA 5 (by omega)
    have a6 := hA 6 (by omega)
    clear hA
    rcases kind8 h1 h8 with rfl | rfl | rfl | rfl | rfl | rfl | rfl | rfl
    all_goals
      simp [OkF, fdL, leF, moF, szF] at a0 a1 a2 a3 a4 a5 a6 hP
      constructor <;> (try simp only [uF, uI, uR, uH, uP, uS, uD]) <;> (try dsimp only) <;> first | omega | (intro q; simp at q; done) | (intro q; first | omega | exact a6) | (rw [a6]; decide)
theorem rgt_kind {m : Ms} (h : ¬ (1 ≤ m.k ∧ m.k ≤ 8)) : ¬ Rgt m := fun r => h ⟨r.k1, r.k8⟩
set_option maxRecDepth 100000 in
set_option maxHeartbeats 4000000 in
theorem right14 (m : Ms) (v : Value) (w : World) (h : Bs w v m.d) :
    Calls Tryd.prog 11 #[msV m v] w fun e w' => RgE m w e w' := by
  obtain ⟨ad, cap, rfl, h1, h2⟩ := h.len
  unfold maxLen at h2
  have HF : Hid (∀ W, Calls Tryd.prog 19 #[.int .i64 m.k] W fun e w' => ∃ v, e = .returned v ∧ Is w' v (fdL m.k) ∧ Ow W.heap.size v ∧ Below W.heap.size W w') := fun W => fieldsOf_any m.k W
  have HZ : Hid (∀ (f : Nat) W, f < 7 → Calls Tryd.prog 22 #[.agg #[.int .i64 m.k, .int .i64 m.fr, .int .i64 m.inc, .int .i64 m.rd, .int .i64 m.h, .int .i64 m.pt, .int .i64 m.ps, .slice ad m.d.length cap], .int .i64 (f : Int)] W fun e w' => e = .returned (.int .i64 (szF m f)) ∧ Below W.heap.size W w') := fun f W hf => size_any m ad cap f hf W
  have HY : Hid (Rgt m ↔ 1 ≤ m.k ∧ m.k ≤ 8 ∧ (∀ f, f < 7 → OkF m f) ∧ (5 ∈ fdL m.k → m.pt < m.ps)) := by
    constructor
    · intro r; exact ⟨r.k1, r.k8, (okF_rgt m r.k1 r.k8).1 r⟩
    · rintro ⟨q1, q2, q3⟩; exact (okF_rgt m q1 q2).2 q3
  have HK : Hid ((fdL m.k).length = 0 ↔ ¬ (1 ≤ m.k ∧ m.k ≤ 8)) := by
    constructor
    · intro e q
      rcases kind8 q.1 q.2 with z | z | z | z | z | z | z | z <;> rw [z] at e <;> cases e
    · intro q; rw [fdL_none q]; rfl
  have HB0 : Hid (B8 w.heap.size ⟨m.k, m.fr, m.inc, m.rd, m.h, m.pt, m.ps, []⟩ (.slice ad m.d.length cap) (w.alloc (.cells #[.int .i64 m.k, .int .i64 m.fr, .int .i64 m.inc, .int .i64 m.rd, .int .i64 m.h, .int .i64 m.pt, .int .i64 m.ps, .slice ad m.d.length cap] 24))) := B8.new w ⟨m.k, m.fr, m.inc, m.rd, m.h, m.pt, m.ps, []⟩ _ _
  have HSz : Hid (∀ f, f < 7 → (OkF m f ↔ ((f : Int) ∈ fdL m.k → leF f ≤ szF m f ∧ szF m f ≤ moF f) ∧ (¬ (f : Int) ∈ fdL m.k → szF m f = 0))) := fun f _ => Iff.rfl
  clear h h1
  unfold msV
  generalize hk : m.k = k at *
  generalize hfr : m.fr = fr at *
  generalize hinc : m.inc = inc at *
  generalize hrd : m.rd = rd at *
  generalize hh : m.h = hx at *
  generalize hpt : m.pt = pt at *
  generalize hps : m.ps = ps at *
  generalize hdl : m.d.length = n at *
  clear hk hfr hinc hrd hh hpt hps hdl
  go_enter Tryd.func11, Tryd.ntmps11
  obtain ⟨wA, hwA⟩ : ∃ wA, wA = (w.alloc (.cells #[.int .i64 k, .int .i64 fr, .int .i64 inc, .int .i64 rd, .int .i64 hx, .int .i64 pt, .int .i64 ps, .slice ad n cap] 24)) := ⟨_, rfl⟩
  have HA : Hid (Below w.heap.size w wA ∧ w.heap.size < wA.heap.size) := by rw [hwA]; exact ⟨bel1 _ _, by simp [go_sem]⟩
  rw [← hwA] at HB0
  obtain ⟨x0, x1, x2, x3, x4, x5, x6, x7⟩ := HB0.out
  go_upto_region 1 with fail
  rw [← hwA]
  clear hwA
  dsimp only at x0
  go_wp2_with fail
  refine (HF.out _).mono ?_
  rintro e w1 ⟨v1, rfl, hI1, hO1, hB1⟩
  have HI : Hid (Is w1 v1 (fdL k)) := hI1
  obtain ⟨ad1, cap1, rfl, l1, l2⟩ := hI1.len
  have HL := fdL_len k
  unfold maxLen at l2
  have HB1 : Hid (B8 w.heap.size ⟨k, fr, inc, rd, hx, pt, ps, []⟩ (.slice ad n cap) w1 ∧ Below w.heap.size w w1) := ⟨HB0.out.later hB1, bchain HA.out.1 hB1⟩
  clear hI1 hB1 HF HB0 HA x0 x1 x2 x3 x4 x5 x6 x7 hO1
  generalize hq : (fdL k).length = q at *
  have HQ : Hid ((fdL k).length = q) := hq
  clear hq
  go_upto_region 3 with fail
  go_loopw [11] (fun s11 wr => ∃ j : Nat, j ≤ 7 ∧ s11 = .int .i64 (j : Int) ∧ Hid (∀ f, f < j → OkF m f) ∧ Hid (Below w1.heap.size w1 wr)) (fun s11 _ => 7 - (intOf s11).toNat)
  case atStart => exact ⟨0, by omega, rfl, fun k hk => by omega, Below.refl _ _⟩
  case round =>
    obtain ⟨j, hj, rfl, HS, HW⟩ := hrel
    have HBw : Hid (∀ W, Below wr.heap.size wr W → Below w.heap.size w W) := fun W h => bchain (bchain HB1.out.2 HW.out) h
    have HI2 : Hid (Is wr (.slice ad1 q cap1) (fdL k)) := HI.out.later HW.out
    obtain ⟨x0, x1, x2, x3, x4, x5, x6, x7⟩ := HB1.out.1.later HW.out
    dsimp only at x0 x1 x2 x3 x4 x5 x6 x7
    by_cases hlt : j < 7
    · have hjI : (j : Int) < (7 : Int) := by omega
      have HC : Hid (Calls Tryd.prog 26 #[.slice ad1 q cap1, .int .i64 (j : Int)] wr fun e w' => e = .returned (.bool (decide ((j : Int) ∈ fdL k))) ∧ w' = wr) := contains_any _ _ _ _ HI2.out
      have HE : Hid (Calls Tryd.prog 27 #[.int .i64 (j : Int)] wr fun e w' => e = .returned (.tuple #[.int .i64 (leF j), .int .i64 (moF j)]) ∧ w' = wr) := ends_any j hlt wr
      have HZ1 : Hid (Calls Tryd.prog 22 #[.agg #[.int .i64 k, .int .i64 fr, .int .i64 inc, .int .i64 rd, .int .i64 hx, .int .i64 pt, .int .i64 ps, .slice ad n cap], .int .i64 (j : Int)] wr fun e w' => e = .returned (.int .i64 (szF m j)) ∧ Below wr.heap.size wr w') := HZ.out j wr hlt
      have HO := HSz.out j hlt
      clear HZ HSz
      by_cases hc : (j : Int) ∈ fdL k
      · rw [decide_eq_true hc] at HC
        generalize leF j = lo at *
        generalize moF j = hi at *
        generalize szF m j = z at *
        go_wp2_with fail
        refine HC.out.mono ?_
        rintro e wx ⟨rfl, hw⟩
        have hw := hw.symm
        subst hw
        go_wp2_with fail
        refine HE.out.mono ?_
        rintro e wx ⟨rfl, hw⟩
        have hw := hw.symm
        subst hw
        go_wp2_with fail
        refine HZ1.out.mono ?_
        rintro e w2 ⟨rfl, hB2⟩
        have HB2 : Hid (Below wr.heap.size wr w2) := hB2
        clear HC HE HZ1 hB2 x0 x1 x2 x3 x4 x5 x6 x7
        by_cases hlo : z < lo
        · have HN : Hid (¬ Rgt m) := fun r => by have := HO.1 ((HY.out.1 r).2.2.1 j hlt); have := this.1 hc; omega
          clear HO
          go_wp2
          go_ret
          exact RgE.no HN.out (HBw.out _ HB2.out)
        · by_cases hhi : hi < z
          · have HN : Hid (¬ Rgt m) := fun r => by have := HO.1 ((HY.out.1 r).2.2.1 j hlt); have := this.1 hc; omega
            clear HO
            go_wp2
            go_ret
            exact RgE.no HN.out (HBw.out _ HB2.out)
          · have HS2 : Hid (∀ f, f < j + 1 → OkF m f) := fun f hf => by
              by_cases e : f = j
              · subst e; exact HO.2 ⟨fun _ => ⟨by omega, by omega⟩, fun q => absurd hc q⟩
              · exact HS.out f (by omega)
            clear HO
            go_wp2
            go_roundw
            case rel => exact ⟨j + 1, by omega, by go_num, HS2, bchain HW.out HB2.out⟩
            case measure => simp [intOf]; omega
      · rw [decide_eq_false hc] at HC
        generalize szF m j = z at *
        go_wp2_with fail
        refine HC.out.mono ?_
        rintro e wx ⟨rfl, hw⟩
        have hw := hw.symm
        subst hw
        go_wp2_with fail
        refine HZ1.out.mono ?_
        rintro e w2 ⟨rfl, hB2⟩
        have HB2 : Hid (Below wr.heap.size wr w2) := hB2
        clear HC HE HZ1 hB2 x0 x1 x2 x3 x4 x5 x6 x7
        by_cases hlo : z < 0
        · have HN : Hid (¬ Rgt m) := fun r => by have := HO.1 ((HY.out.1 r).2.2.1 j hlt); have := this.2 hc; omega
          clear HO
          go_wp2
          go_ret
          exact RgE.no HN.out (HBw.out _ HB2.out)
        · by_cases hhi : 0 < z
          · have HN : Hid (¬ Rgt m) := fun r => by have := HO.1 ((HY.out.1 r).2.2.1 j hlt); have := this.2 hc; omega
            clear HO
            go_wp2
            go_ret
            exact RgE.no HN.out (HBw.out _ HB2.out)
          · have HS2 : Hid (∀ f, f < j + 1 → OkF m f) := fun f hf => by
              by_cases e : f = j
              · subst e; exact HO.2 ⟨fun q => absurd q hc, fun _ => by omega⟩
              · exact HS.out f (by omega)
            clear HO
            go_wp2
            go_roundw
            case rel => exact ⟨j + 1, by omega, by go_num, HS2, bchain HW.out HB2.out⟩
            case measure => simp [intOf]; omega
    · obtain rfl : j = 7 := by omega
      have HC : Hid (Calls Tryd.prog 26 #[.slice ad1 q cap1, .int .i64 5] wr fun e w' => e = .returned (.bool (decide ((5 : Int) ∈ fdL k))) ∧ w' = wr) := contains_any _ _ _ _ HI2.out
      clear HZ HSz
      have HR : Hid (Below w.heap.size w wr) := HBw.out _ (Below.refl _ _)
      by_cases hc : (5 : Int) ∈ fdL k
      · rw [decide_eq_true hc] at HC
        have HQ2 : Hid (0 < q ∧ 1 ≤ k ∧ k ≤ 8) := by
          have e := HQ.out
          have : ¬ q = 0 := fun z => by rw [z] at e; rw [List.eq_nil_of_length_eq_zero e] at hc; cases hc
          have hk := HK.out
          by_cases g : 1 ≤ k ∧ k ≤ 8
          · exact ⟨by omega, g.1, g.2⟩
          · exact absurd (hk.2 g) this
        by_cases hp : ps ≤ pt
        · have HN : Hid (¬ Rgt m) := fun r => by have := (HY.out.1 r).2.2.2 hc; omega
          go_wp2_with fail
          refine HC.out.mono ?_
          rintro e wx ⟨rfl, hw⟩
          have hw := hw.symm
          subst hw
          clear HC
          go_wp2
          go_ret
          exact RgE.no HN.out HR.out
        · have HN : Hid (Rgt m) := HY.out.2 ⟨HQ2.out.2.1, HQ2.out.2.2, HS.out, fun _ => by omega⟩
          have hq0 : (0 : Int) < (q : Int) := by have := HQ2.out.1; omega
          go_wp2_with fail
          refine HC.out.mono ?_
          rintro e wx ⟨rfl, hw⟩
          have hw := hw.symm
          subst hw
          clear HC
          go_wp2
          go_ret
          show RgE m w (.returned (.bool (decide (0 < q)))) wr
          rw [decide_eq_true (show 0 < q by omega)]
          exact RgE.yes HN.out HR.out
      · rw [decide_eq_false hc] at HC
        by_cases hq0 : q = 0
        · have HN : Hid (¬ Rgt m) := fun r => by have := HY.out.1 r; exact absurd ⟨this.1, this.2.1⟩ (HK.out.1 hq0)
          subst hq0
          go_wp2_with fail
          refine HC.out.mono ?_
          rintro e wx ⟨rfl, hw⟩
          have hw := hw.symm
          subst hw
          clear HC
          go_wp2
          go_ret
          exact RgE.no HN.out HR.out
        · have HN : Hid (Rgt m) := by
            by_cases g : 1 ≤ k ∧ k ≤ 8
            · exact HY.out.2 ⟨g.1, g.2, HS.out, fun z => absurd z hc⟩
            · exact absurd (HK.out.2 g) hq0
          have hq1 : (0 : Int) < (q : Int) := by omega
          go_wp2_with fail
          refine HC.out.mono ?_
          rintro e wx ⟨rfl, hw⟩
          have hw := hw.symm
          subst hw
          clear HC
          go_wp2
          go_ret
          show RgE m w (.returned (.bool (decide (0 < q)))) wr
          rw [decide_eq_true (show 0 < q by omega)]
          exact RgE.yes HN.out HR.out
end Go.Proofs.YtfcbgkcclganmaaDoor
