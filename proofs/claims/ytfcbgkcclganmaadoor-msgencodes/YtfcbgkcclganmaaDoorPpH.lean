/-
  The program's pack: the reader's calls; all contracts together.
-/
import Derived.Test.YtfcbgkcclganmaaDoorPpB
import Derived.Test.YtfcbgkcclganmaaDoorPpG
set_option linter.unusedVariables false
set_option linter.unusedSimpArgs false
namespace Go.Proofs.YtfcbgkcclganmaaDoor
open Go.RowKit

theorem rU_err {l : List Nat} {e : Nat} (h : rU l = .error e) : e = 120 ∨ e = 121 := rd_err l 0 0 e h
theorem rI_err {l : List Nat} {e : Nat} (h : rI l = .error e) : e = 120 ∨ e = 121 := by
  cases hU : rU l with
  | error x => rw [rI_no hU] at h; cases h; exact rU_err hU
  | ok z => rw [rI_ok (n := z.1) (t := z.2) hU] at h; cases h
theorem rF_err {l : List Nat} {e : Nat} (h : rF l = .error e) : e = 120 ∨ e = 121 := by
  unfold rF at h
  split at h
  · cases h; exact Or.inl rfl
  · cases h
theorem rB_err {l : List Nat} {e : Nat} (h : rB l = .error e) : e = 120 ∨ e = 121 := by
  cases hU : rU l with
  | error x => rw [rB_no hU] at h; cases h; exact rU_err hU
  | ok z =>
    by_cases q : z.2.length < z.1
    · rw [rB_lack (n := z.1) (t := z.2) hU q] at h; cases h; exact Or.inl rfl
    · rw [rB_ok (n := z.1) (t := z.2) hU (by omega)] at h; cases h
theorem itS_fault {P : Rdr Int} (hP : ∀ {l e}, P l = .error e → e = 120 ∨ e = 121) : ∀ (n : Nat) (l : List Nat) (e : Nat), itS P n (.ok l) = .error e → e = 120 ∨ e = 121 := by
  intro n
  induction n with
  | zero => intro l e h; cases h
  | succ n ih =>
    intro l e h
    rw [itS_front] at h
    cases hl : P l with
    | error x => rw [pn_no hl, itS_err] at h; cases h; exact hP hl
    | ok z => rw [pn_ok (x := z.1) (t := z.2) hl] at h; exact ih _ _ h
theorem rep_err {P : Rdr Int} (hP : ∀ {l e}, P l = .error e → e = 120 ∨ e = 121) {n : Nat} {l : List Nat} {e : Nat} (h : rep P 0 n l = .error e) : e = 120 ∨ e = 121 := by
  cases hs : itS P n (.ok l) with
  | error x => rw [rep_no hs] at h; cases h; exact itS_fault hP n l _ hs
  | ok t => rw [rep_ok hs] at h; cases h
theorem rIs_err {l : List Nat} {e : Nat} (h : rIs l = .error e) : e = 120 ∨ e = 121 := by
  cases hU : rU l with
  | error x => rw [rIs_no hU] at h; cases h; exact rU_err hU
  | ok z =>
    by_cases q : z.2.length < z.1
    · rw [rIs_lack (n := z.1) (t := z.2) hU q] at h; cases h; exact Or.inl rfl
    · rw [rIs_ok (n := z.1) (t := z.2) hU (by omega)] at h; exact rep_err rI_err h
theorem rFs_err {l : List Nat} {e : Nat} (h : rFs l = .error e) : e = 120 ∨ e = 121 := by
  cases hU : rU l with
  | error x => rw [rFs_no hU] at h; cases h; exact rU_err hU
  | ok z =>
    by_cases q : z.2.length / 8 < z.1
    · rw [rFs_lack (n := z.1) (t := z.2) hU q] at h; cases h; exact Or.inl rfl
    · rw [rFs_ok (n := z.1) (t := z.2) hU (by omega)] at h; exact rep_err rF_err h
set_option maxRecDepth 100000 in
set_option maxHeartbeats 1000000 in
theorem rInt_any (w : World) (p : Value) (F : Nat → Prop) (s : Sta) (h : Rp w p F s) :
    Calls Tryd.prog 59 #[p] w fun e w' => e = .returned (.int .i64 (pv rI 0 s)) ∧ Af Rp p F (pn rI s) w w' := by
  have hmf : ∀ (fn : Fn) (first cap : Array Value) (w : World), (Instr.makeFunc fn first cap).run Tryd.prog w = .ok (.func fn first cap) w := fun _ _ _ _ => rfl
  have HR : Hid (Rp w p F s) := h
  have hq : ∃ q, p = .pointer q := by
    rcases h with ⟨rfl, -, -⟩ | ⟨b, rfl, -⟩
    · exact ⟨_, rfl⟩
    · exact ⟨_, rfl⟩
  cases s with
  | error x =>
    obtain ⟨q, rfl⟩ := hq
    have HX : Hid (x ≠ 0) := by
      rcases h with ⟨-, e, -⟩ | ⟨b, -, ⟨y, e, h⟩ | ⟨l, e, h⟩⟩
      · cases e; show _ ≠ _; omega
      · cases e; exact h.ne
      · cases e
    have HV : Hid (pv rI 0 (.error x) = 0) := rfl
    clear h
    go_enter Tryd.func59, Tryd.ntmps59
    go_wp2_with fail
    refine (faceI_skip _ _ F w x HX.out HR.out).mono ?_
    rintro e w1 ⟨rfl, hB⟩
    have HA : Hid (Af Rp (.pointer q) F (pn rI (.error x)) w w1) := ⟨F, HR.out.kept (fun k hk => hB.block k (HR.out.lt k hk)) hB.size, fun _ h => Or.inl h, Kp.of hB⟩
    clear hB
    go_wp2
    go_ret
    exact ⟨by rw [HV.out]; rfl, HA.out⟩
  | ok l =>
    clear hq
    rcases h with ⟨-, e, -⟩ | ⟨b, rfl, ⟨y, e, h⟩ | ⟨l, e, h⟩⟩
    · cases e
    · cases e
    cases e
    have HO : Hid (Ro w b F l) := h
    have HG : Hid (∀ i, i = b → F i) := fun i hi => by rw [hi]; exact h.fb
    clear h
    cases hr : rI l with
    | error x =>
      have HU : Hid (rI l = .error x) := hr
      have HX : Hid (x ≠ 0) := by have := rI_err hr; show _ ≠ _; omega
      have HV : Hid (pv rI 0 (.ok l) = 0 ∧ pn rI (.ok l) = .error x) := ⟨pv_no hr, pn_no hr⟩
      clear hr
      go_enter Tryd.func59, Tryd.ntmps59
      go_wp2_with fail
      refine (faceI_no b F l w HO.out x HX.out HU.out).mono ?_
      rintro e w1 ⟨rfl, hE, hK⟩
      have HA : Hid (Af Rp (.pointer (some ⟨b, 0, none⟩)) F (pn rI (.ok l)) w w1) := ⟨F, Or.inr ⟨b, rfl, Or.inl ⟨x, HV.out.2, hE⟩⟩, fun _ h => Or.inl h, hK.mono HG.out⟩
      clear hE hK
      go_wp2
      go_ret
      exact ⟨by rw [HV.out.1]; rfl, HA.out⟩
    | ok z =>
      obtain ⟨x, t⟩ := z
      have HU : Hid (rI l = .ok (x, t)) := hr
      have HV : Hid (pv rI 0 (.ok l) = x ∧ pn rI (.ok l) = .ok t) := ⟨pv_ok hr, pn_ok hr⟩
      clear hr
      go_enter Tryd.func59, Tryd.ntmps59
      go_wp2_with fail
      refine (faceI_ok b F l w HO.out x t HU.out).mono ?_
      rintro e w1 ⟨v, rfl, hA, hE, hK⟩
      have HA : Hid (Af Rp (.pointer (some ⟨b, 0, none⟩)) F (pn rI (.ok l)) w w1) := ⟨F, Or.inr ⟨b, rfl, Or.inr ⟨t, HV.out.2, hE⟩⟩, fun _ h => Or.inl h, hK.mono HG.out⟩
      clear hE hK
      obtain rfl := hA
      go_wp2
      go_ret
      exact ⟨by rw [HV.out.1]; rfl, HA.out⟩
set_option maxRecDepth 100000 in
set_option maxHeartbeats 1000000 in
theorem rBytes_any (w : World) (p : Value) (F : Nat → Prop) (s : Sta) (h : Rp w p F s) :
    Calls Tryd.prog 60 #[p] w fun e w' => ∃ v, e = .returned v ∧ Bs w' v (pv rB [] s) ∧ Ow w.heap.size v ∧ Af Rp p F (pn rB s) w w' := by
  have hmf : ∀ (fn : Fn) (first cap : Array Value) (w : World), (Instr.makeFunc fn first cap).run Tryd.prog w = .ok (.func fn first cap) w := fun _ _ _ _ => rfl
  have HR : Hid (Rp w p F s) := h
  have hq : ∃ q, p = .pointer q := by
    rcases h with ⟨rfl, -, -⟩ | ⟨b, rfl, -⟩
    · exact ⟨_, rfl⟩
    · exact ⟨_, rfl⟩
  cases s with
  | error x =>
    obtain ⟨q, rfl⟩ := hq
    have HX : Hid (x ≠ 0) := by
      rcases h with ⟨-, e, -⟩ | ⟨b, -, ⟨y, e, h⟩ | ⟨l, e, h⟩⟩
      · cases e; show _ ≠ _; omega
      · cases e; exact h.ne
      · cases e
    have HV : Hid (pv rB [] (.error x) = []) := rfl
    clear h
    go_enter Tryd.func60, Tryd.ntmps60
    go_wp2_with fail
    refine (faceB_skip _ _ F w x HX.out HR.out).mono ?_
    rintro e w1 ⟨rfl, hB⟩
    have HA : Hid (Af Rp (.pointer q) F (pn rB (.error x)) w w1) := ⟨F, HR.out.kept (fun k hk => hB.block k (HR.out.lt k hk)) hB.size, fun _ h => Or.inl h, Kp.of hB⟩
    clear hB
    go_wp2
    go_ret
    exact ⟨.slice none 0 0, rfl, by rw [HV.out]; exact ls_none _ _, (fun a n cap e => by cases e), HA.out⟩
  | ok l =>
    clear hq
    rcases h with ⟨-, e, -⟩ | ⟨b, rfl, ⟨y, e, h⟩ | ⟨l, e, h⟩⟩
    · cases e
    · cases e
    cases e
    have HO : Hid (Ro w b F l) := h
    have HG : Hid (∀ i, i = b → F i) := fun i hi => by rw [hi]; exact h.fb
    clear h
    cases hr : rB l with
    | error x =>
      have HU : Hid (rB l = .error x) := hr
      have HX : Hid (x ≠ 0) := by have := rB_err hr; show _ ≠ _; omega
      have HV : Hid (pv rB [] (.ok l) = [] ∧ pn rB (.ok l) = .error x) := ⟨pv_no hr, pn_no hr⟩
      clear hr
      go_enter Tryd.func60, Tryd.ntmps60
      go_wp2_with fail
      refine (faceB_no b F l w HO.out x HX.out HU.out).mono ?_
      rintro e w1 ⟨rfl, hE, hK⟩
      have HA : Hid (Af Rp (.pointer (some ⟨b, 0, none⟩)) F (pn rB (.ok l)) w w1) := ⟨F, Or.inr ⟨b, rfl, Or.inl ⟨x, HV.out.2, hE⟩⟩, fun _ h => Or.inl h, hK.mono HG.out⟩
      clear hE hK
      go_wp2
      go_ret
      exact ⟨.slice none 0 0, rfl, by rw [HV.out.1]; exact ls_none _ _, (fun a n cap e => by cases e), HA.out⟩
    | ok z =>
      obtain ⟨x, t⟩ := z
      have HU : Hid (rB l = .ok (x, t)) := hr
      have HV : Hid (pv rB [] (.ok l) = x ∧ pn rB (.ok l) = .ok t) := ⟨pv_ok hr, pn_ok hr⟩
      clear hr
      go_enter Tryd.func60, Tryd.ntmps60
      go_wp2_with fail
      refine (faceB_ok b F l w HO.out x t HU.out).mono ?_
      rintro e w1 ⟨v, rfl, hA, hE, hK⟩
      have HA : Hid (Af Rp (.pointer (some ⟨b, 0, none⟩)) F (pn rB (.ok l)) w w1) := ⟨F, Or.inr ⟨b, rfl, Or.inr ⟨t, HV.out.2, hE⟩⟩, fun _ h => Or.inl h, hK.mono HG.out⟩
      clear hE hK
      have HL : Hid (AB w.heap.size x v w1) := hA
      obtain ⟨ad, cap, rfl, -, -⟩ := hA.1.len
      clear hA
      go_wp2
      go_ret
      exact ⟨_, rfl, by rw [HV.out.1]; exact HL.out.1, HL.out.2, HA.out⟩
end Go.Proofs.YtfcbgkcclganmaaDoor
