/-
  The program's pack: the reader's calls; all contracts together.
-/
import Derived.Test.YtahbpegjdmblaaaPpB
import Derived.Test.YtahbpegjdmblaaaPpG
set_option linter.unusedVariables false
set_option linter.unusedSimpArgs false
namespace Go.Proofs.Ytahbpegjdmblaaa
open Go.RowKit

theorem rU_err {l : List Nat} {e : Nat} (h : rU l = .error e) : e = 120 ∨ e = 121 := rd_err l 0 0 e h
theorem rI_err {l : List Nat} {e : Nat} (h : rI l = .error e) : e = 120 ∨ e = 121 := by
  cases hU : rU l with
  | error x => rw [rI_no hU] at h; cases h; exact rU_err hU
  | ok z => rw [rI_ok (n := z.1) (t := z.2) hU] at h; cases h
theorem rF_err {l : List Nat} {e : Nat} (h : rF l = .error e) : e = 120 ∨ e = 121 := by
  unfold rF at h
  split at h
  · cases h; exact Or.inl rfl
  · cases h
theorem rB_err {l : List Nat} {e : Nat} (h : rB l = .error e) : e = 120 ∨ e = 121 := by
  cases hU : rU l with
  | error x => rw [rB_no hU] at h; cases h; exact rU_err hU
  | ok z =>
    by_cases q : z.2.length < z.1
    · rw [rB_lack (n := z.1) (t := z.2) hU q] at h; cases h; exact Or.inl rfl
    · rw [rB_ok (n := z.1) (t := z.2) hU (by omega)] at h; cases h
theorem itS_fault {P : Rdr Int} (hP : ∀ {l e}, P l = .error e → e = 120 ∨ e = 121) : ∀ (n : Nat) (l : List Nat) (e : Nat), itS P n (.ok l) = .error e → e = 120 ∨ e = 121 := by
  intro n
  induction n with
  | zero => intro l e h; cases h
  | succ n ih =>
    intro l e h
    rw [itS_front] at h
    cases hl : P l with
    | error x => rw [pn_no hl, itS_err] at h; cases h; exact hP hl
    | ok z => rw [pn_ok (x := z.1) (t := z.2) hl] at h; exact ih _ _ h
theorem rep_err {P : Rdr Int} (hP : ∀ {l e}, P l = .error e → e = 120 ∨ e = 121) {n : Nat} {l : List Nat} {e : Nat} (h : rep P 0 n l = .error e) : e = 120 ∨ e = 121 := by
  cases hs : itS P n (.ok l) with
  | error x => rw [rep_no hs] at h; cases h; exact itS_fault hP n l _ hs
  | ok t => rw [rep_ok hs] at h; cases h
theorem rIs_err {l : List Nat} {e : Nat} (h : rIs l = .error e) : e = 120 ∨ e = 121 := by
  cases hU : rU l with
  | error x => rw [rIs_no hU] at h; cases h; exact rU_err hU
  | ok z =>
    by_cases q : z.2.length < z.1
    · rw [rIs_lack (n := z.1) (t := z.2) hU q] at h; cases h; exact Or.inl rfl
    · rw [rIs_ok (n := z.1) (t := z.2) hU (by omega)] at h; exact rep_err rI_err h
theorem rFs_err {l : List Nat} {e : Nat} (h : rFs l = .error e) : e = 120 ∨ e = 121 := by
  cases hU : rU l with
  | error x => rw [rFs_no hU] at h; cases h; exact rU_err hU
  | ok z =>
    by_cases q : z.2.length / 8 < z.1
    · rw [rFs_lack (n := z.1) (t := z.2) hU q] at h; cases h; exact Or.inl rfl
    · rw [rFs_ok (n := z.1) (t := z.2) hU (by omega)] at h; exact rep_err rF_err h
set_option maxRecDepth 100000 in
set_option maxHeartbeats 1000000 in
theorem rUint_any (w : World) (p : Value) (F : Nat → Prop) (s : Sta) (h : Rp w p F s) :
    Calls Try.prog 21 #[p] w fun e w' => e = .returned (.int .u64 ((pv rU 0 s : Nat) : Int)) ∧ Af Rp p F (pn rU s) w w' := by
  have hmf : ∀ (fn : Fn) (first cap : Array Value) (w : World), (Instr.makeFunc fn first cap).run Try.prog w = .ok (.func fn first cap) w := fun _ _ _ _ => rfl
  have HR : Hid (Rp w p F s) := h
  have hq : ∃ q, p = .pointer q := by
    rcases h with ⟨rfl, -, -⟩ | ⟨b, rfl, -⟩
    · exact ⟨_, rfl⟩
    · exact ⟨_, rfl⟩
  cases s with
  | error x =>
    obtain ⟨q, rfl⟩ := hq
    have HX : Hid (x ≠ 0) := by
      rcases h with ⟨-, e, -⟩ | ⟨b, -, ⟨y, e, h⟩ | ⟨l, e, h⟩⟩
      · cases e; show _ ≠ _; omega
      · cases e; exact h.ne
      · cases e
    have HV : Hid (pv rU 0 (.error x) = 0) := rfl
    clear h
    go_enter Try.func21, Try.ntmps21
    go_wp2_with fail
    refine (faceU_skip _ _ F w x HX.out HR.out).mono ?_
    rintro e w1 ⟨rfl, hB⟩
    have HA : Hid (Af Rp (.pointer q) F (pn rU (.error x)) w w1) := ⟨F, HR.out.kept (fun k hk => hB.block k (HR.out.lt k hk)) hB.size, fun _ h => Or.inl h, Kp.of hB⟩
    clear hB
    go_wp2
    go_ret
    exact ⟨by rw [HV.out]; rfl, HA.out⟩
  | ok l =>
    clear hq
    rcases h with ⟨-, e, -⟩ | ⟨b, rfl, ⟨y, e, h⟩ | ⟨l, e, h⟩⟩
    · cases e
    · cases e
    cases e
    have HO : Hid (Ro w b F l) := h
    have HG : Hid (∀ i, i = b → F i) := fun i hi => by rw [hi]; exact h.fb
    clear h
    cases hr : rU l with
    | error x =>
      have HU : Hid (rU l = .error x) := hr
      have HX : Hid (x ≠ 0) := by have := rU_err hr; show _ ≠ _; omega
      have HV : Hid (pv rU 0 (.ok l) = 0 ∧ pn rU (.ok l) = .error x) := ⟨pv_no hr, pn_no hr⟩
      clear hr
      go_enter Try.func21, Try.ntmps21
      go_wp2_with fail
      refine (faceU_no b F l w HO.out x HX.out HU.out).mono ?_
      rintro e w1 ⟨rfl, hE, hK⟩
      have HA : Hid (Af Rp (.pointer (some ⟨b, 0, none⟩)) F (pn rU (.ok l)) w w1) := ⟨F, Or.inr ⟨b, rfl, Or.inl ⟨x, HV.out.2, hE⟩⟩, fun _ h => Or.inl h, hK.mono HG.out⟩
      clear hE hK
      go_wp2
      go_ret
      exact ⟨by rw [HV.out.1]; rfl, HA.out⟩
    | ok z =>
      obtain ⟨x, t⟩ := z
      have HU : Hid (rU l = .ok (x, t)) := hr
      have HV : Hid (pv rU 0 (.ok l) = x ∧ pn rU (.ok l) = .ok t) := ⟨pv_ok hr, pn_ok hr⟩
      clear hr
      go_enter Try.func21, Try.ntmps21
      go_wp2_with fail
      refine (faceU_ok b F l w HO.out x t HU.out).mono ?_
      rintro e w1 ⟨v, rfl, hA, hE, hK⟩
      have HA : Hid (Af Rp (.pointer (some ⟨b, 0, none⟩)) F (pn rU (.ok l)) w w1) := ⟨F, Or.inr ⟨b, rfl, Or.inr ⟨t, HV.out.2, hE⟩⟩, fun _ h => Or.inl h, hK.mono HG.out⟩
      clear hE hK
      obtain rfl := hA
      go_wp2
      go_ret
      exact ⟨by rw [HV.out.1]; rfl, HA.out⟩
set_option maxRecDepth 100000 in
set_option maxHeartbeats 1000000 in
theorem rInt_any (w : World) (p : Value) (F : Nat → Prop) (s : Sta) (h : Rp w p F s) :
    Calls Try.prog 22 #[p] w fun e w' => e = .returned (.int .i64 (pv rI 0 s)) ∧ Af Rp p F (pn rI s) w w' := by
  have hmf : ∀ (fn : Fn) (first cap : Array Value) (w : World), (Instr.makeFunc fn first cap).run Try.prog w = .ok (.func fn first cap) w := fun _ _ _ _ => rfl
  have HR : Hid (Rp w p F s) := h
  have hq : ∃ q, p = .pointer q := by
    rcases h with ⟨rfl, -, -⟩ | ⟨b, rfl, -⟩
    · exact ⟨_, rfl⟩
    · exact ⟨_, rfl⟩
  cases s with
  | error x =>
    obtain ⟨q, rfl⟩ := hq
    have HX : Hid (x ≠ 0) := by
      rcases h with ⟨-, e, -⟩ | ⟨b, -, ⟨y, e, h⟩ | ⟨l, e, h⟩⟩
      · cases e; show _ ≠ _; omega
      · cases e; exact h.ne
      · cases e
    have HV : Hid (pv rI 0 (.error x) = 0) := rfl
    clear h
    go_enter Try.func22, Try.ntmps22
    go_wp2_with fail
    refine (faceI_skip _ _ F w x HX.out HR.out).mono ?_
    rintro e w1 ⟨rfl, hB⟩
    have HA : Hid (Af Rp (.pointer q) F (pn rI (.error x)) w w1) := ⟨F, HR.out.kept (fun k hk => hB.block k (HR.out.lt k hk)) hB.size, fun _ h => Or.inl h, Kp.of hB⟩
    clear hB
    go_wp2
    go_ret
    exact ⟨by rw [HV.out]; rfl, HA.out⟩
  | ok l =>
    clear hq
    rcases h with ⟨-, e, -⟩ | ⟨b, rfl, ⟨y, e, h⟩ | ⟨l, e, h⟩⟩
    · cases e
    · cases e
    cases e
    have HO : Hid (Ro w b F l) := h
    have HG : Hid (∀ i, i = b → F i) := fun i hi => by rw [hi]; exact h.fb
    clear h
    cases hr : rI l with
    | error x =>
      have HU : Hid (rI l = .error x) := hr
      have HX : Hid (x ≠ 0) := by have := rI_err hr; show _ ≠ _; omega
      have HV : Hid (pv rI 0 (.ok l) = 0 ∧ pn rI (.ok l) = .error x) := ⟨pv_no hr, pn_no hr⟩
      clear hr
      go_enter Try.func22, Try.ntmps22
      go_wp2_with fail
      refine (faceI_no b F l w HO.out x HX.out HU.out).mono ?_
      rintro e w1 ⟨rfl, hE, hK⟩
      have HA : Hid (Af Rp (.pointer (some ⟨b, 0, none⟩)) F (pn rI (.ok l)) w w1) := ⟨F, Or.inr ⟨b, rfl, Or.inl ⟨x, HV.out.2, hE⟩⟩, fun _ h => Or.inl h, hK.mono HG.out⟩
      clear hE hK
      go_wp2
      go_ret
      exact ⟨by rw [HV.out.1]; rfl, HA.out⟩
    | ok z =>
      obtain ⟨x, t⟩ := z
      have HU : Hid (rI l = .ok (x, t)) := hr
      have HV : Hid (pv rI 0 (.ok l) = x ∧ pn rI (.ok l) = .ok t) := ⟨pv_ok hr, pn_ok hr⟩
      clear hr
      go_enter Try.func22, Try.ntmps22
      go_wp2_with fail
      refine (faceI_ok b F l w HO.out x t HU.out).mono ?_
      rintro e w1 ⟨v, rfl, hA, hE, hK⟩
      have HA : Hid (Af Rp (.pointer (some ⟨b, 0, none⟩)) F (pn rI (.ok l)) w w1) := ⟨F, Or.inr ⟨b, rfl, Or.inr ⟨t, HV.out.2, hE⟩⟩, fun _ h => Or.inl h, hK.mono HG.out⟩
      clear hE hK
      obtain rfl := hA
      go_wp2
      go_ret
      exact ⟨by rw [HV.out.1]; rfl, HA.out⟩
set_option maxRecDepth 100000 in
set_option maxHeartbeats 1000000 in
theorem rFix_any (w : World) (p : Value) (F : Nat → Prop) (s : Sta) (h : Rp w p F s) :
    Calls Try.prog 23 #[p] w fun e w' => e = .returned (.int .i64 (pv rF 0 s)) ∧ Af Rp p F (pn rF s) w w' := by
  have hmf : ∀ (fn : Fn) (first cap : Array Value) (w : World), (Instr.makeFunc fn first cap).run Try.prog w = .ok (.func fn first cap) w := fun _ _ _ _ => rfl
  have HR : Hid (Rp w p F s) := h
  have hq : ∃ q, p = .pointer q := by
    rcases h with ⟨rfl, -, -⟩ | ⟨b, rfl, -⟩
    · exact ⟨_, rfl⟩
    · exact ⟨_, rfl⟩
  cases s with
  | error x =>
    obtain ⟨q, rfl⟩ := hq
    have HX : Hid (x ≠ 0) := by
      rcases h with ⟨-, e, -⟩ | ⟨b, -, ⟨y, e, h⟩ | ⟨l, e, h⟩⟩
      · cases e; show _ ≠ _; omega
      · cases e; exact h.ne
      · cases e
    have HV : Hid (pv rF 0 (.error x) = 0) := rfl
    clear h
    go_enter Try.func23, Try.ntmps23
    go_wp2_with fail
    refine (faceF_skip _ _ F w x HX.out HR.out).mono ?_
    rintro e w1 ⟨rfl, hB⟩
    have HA : Hid (Af Rp (.pointer q) F (pn rF (.error x)) w w1) := ⟨F, HR.out.kept (fun k hk => hB.block k (HR.out.lt k hk)) hB.size, fun _ h => Or.inl h, Kp.of hB⟩
    clear hB
    go_wp2
    go_ret
    exact ⟨by rw [HV.out]; rfl, HA.out⟩
  | ok l =>
    clear hq
    rcases h with ⟨-, e, -⟩ | ⟨b, rfl, ⟨y, e, h⟩ | ⟨l, e, h⟩⟩
    · cases e
    · cases e
    cases e
    have HO : Hid (Ro w b F l) := h
    have HG : Hid (∀ i, i = b → F i) := fun i hi => by rw [hi]; exact h.fb
    clear h
    cases hr : rF l with
    | error x =>
      have HU : Hid (rF l = .error x) := hr
      have HX : Hid (x ≠ 0) := by have := rF_err hr; show _ ≠ _; omega
      have HV : Hid (pv rF 0 (.ok l) = 0 ∧ pn rF (.ok l) = .error x) := ⟨pv_no hr, pn_no hr⟩
      clear hr
      go_enter Try.func23, Try.ntmps23
      go_wp2_with fail
      refine (faceF_no b F l w HO.out x HX.out HU.out).mono ?_
      rintro e w1 ⟨rfl, hE, hK⟩
      have HA : Hid (Af Rp (.pointer (some ⟨b, 0, none⟩)) F (pn rF (.ok l)) w w1) := ⟨F, Or.inr ⟨b, rfl, Or.inl ⟨x, HV.out.2, hE⟩⟩, fun _ h => Or.inl h, hK.mono HG.out⟩
      clear hE hK
      go_wp2
      go_ret
      exact ⟨by rw [HV.out.1]; rfl, HA.out⟩
    | ok z =>
      obtain ⟨x, t⟩ := z
      have HU : Hid (rF l = .ok (x, t)) := hr
      have HV : Hid (pv rF 0 (.ok l) = x ∧ pn rF (.ok l) = .ok t) := ⟨pv_ok hr, pn_ok hr⟩
      clear hr
      go_enter Try.func23, Try.ntmps23
      go_wp2_with fail
      refine (faceF_ok b F l w HO.out x t HU.out).mono ?_
      rintro e w1 ⟨v, rfl, hA, hE, hK⟩
      have HA : Hid (Af Rp (.pointer (some ⟨b, 0, none⟩)) F (pn rF (.ok l)) w w1) := ⟨F, Or.inr ⟨b, rfl, Or.inr ⟨t, HV.out.2, hE⟩⟩, fun _ h => Or.inl h, hK.mono HG.out⟩
      clear hE hK
      obtain rfl := hA
      go_wp2
      go_ret
      exact ⟨by rw [HV.out.1]; rfl, HA.out⟩
set_option maxRecDepth 100000 in
set_option maxHeartbeats 1000000 in
theorem rBytes_any (w : World) (p : Value) (F : Nat → Prop) (s : Sta) (h : Rp w p F s) :
    Calls Try.prog 24 #[p] w fun e w' => ∃ v, e = .returned v ∧ Bs w' v (pv rB [] s) ∧ Ow w.heap.size v ∧ Af Rp p F (pn rB s) w w' := by
  have hmf : ∀ (fn : Fn) (first cap : Array Value) (w : World), (Instr.makeFunc fn first cap).run Try.prog w = .ok (.func fn first cap) w := fun _ _ _ _ => rfl
  have HR : Hid (Rp w p F s) := h
  have hq : ∃ q, p = .pointer q := by
    rcases h with ⟨rfl, -, -⟩ | ⟨b, rfl, -⟩
    · exact ⟨_, rfl⟩
    · exact ⟨_, rfl⟩
  cases s with
  | error x =>
    obtain ⟨q, rfl⟩ := hq
    have HX : Hid (x ≠ 0) := by
      rcases h with ⟨-, e, -⟩ | ⟨b, -, ⟨y, e, h⟩ | ⟨l, e, h⟩⟩
      · cases e; show _ ≠ _; omega
      · cases e; exact h.ne
      · cases e
    have HV : Hid (pv rB [] (.error x) = []) := rfl
    clear h
    go_enter Try.func24, Try.ntmps24
    go_wp2_with fail
    refine (faceB_skip _ _ F w x HX.out HR.out).mono ?_
    rintro e w1 ⟨rfl, hB⟩
    have HA : Hid (Af Rp (.pointer q) F (pn rB (.error x)) w w1) := ⟨F, HR.out.kept (fun k hk => hB.block k (HR.out.lt k hk)) hB.size, fun _ h => Or.inl h, Kp.of hB⟩
    clear hB
    go_wp2
    go_ret
    exact ⟨.slice none 0 0, rfl, by rw [HV.out]; exact ls_none _ _, (fun a n cap e => by cases e), HA.out⟩
  | ok l =>
    clear hq
    rcases h with ⟨-, e, -⟩ | ⟨b, rfl, ⟨y, e, h⟩ | ⟨l, e, h⟩⟩
    · cases e
    · cases e
    cases e
    have HO : Hid (Ro w b F l) := h
    have HG : Hid (∀ i, i = b → F i) := fun i hi => by rw [hi]; exact h.fb
    clear h
    cases hr : rB l with
    | error x =>
      have HU : Hid (rB l = .error x) := hr
      have HX : Hid (x ≠ 0) := by have := rB_err hr; show _ ≠ _; omega
      have HV : Hid (pv rB [] (.ok l) = [] ∧ pn rB (.ok l) = .error x) := ⟨pv_no hr, pn_no hr⟩
      clear hr
      go_enter Try.func24, Try.ntmps24
      go_wp2_with fail
      refine (faceB_no b F l w HO.out x HX.out HU.out).mono ?_
      rintro e w1 ⟨rfl, hE, hK⟩
      have HA : Hid (Af Rp (.pointer (some ⟨b, 0, none⟩)) F (pn rB (.ok l)) w w1) := ⟨F, Or.inr ⟨b, rfl, Or.inl ⟨x, HV.out.2, hE⟩⟩, fun _ h => Or.inl h, hK.mono HG.out⟩
      clear hE hK
      go_wp2
      go_ret
      exact ⟨.slice none 0 0, rfl, by rw [HV.out.1]; exact ls_none _ _, (fun a n cap e => by cases e), HA.out⟩
    | ok z =>
      obtain ⟨x, t⟩ := z
      have HU : Hid (rB l = .ok (x, t)) := hr
      have HV : Hid (pv rB [] (.ok l) = x ∧ pn rB (.ok l) = .ok t) := ⟨pv_ok hr, pn_ok hr⟩
      clear hr
      go_enter Try.func24, Try.ntmps24
      go_wp2_with fail
      refine (faceB_ok b F l w HO.out x t HU.out).mono ?_
      rintro e w1 ⟨v, rfl, hA, hE, hK⟩
      have HA : Hid (Af Rp (.pointer (some ⟨b, 0, none⟩)) F (pn rB (.ok l)) w w1) := ⟨F, Or.inr ⟨b, rfl, Or.inr ⟨t, HV.out.2, hE⟩⟩, fun _ h => Or.inl h, hK.mono HG.out⟩
      clear hE hK
      have HL : Hid (AB w.heap.size x v w1) := hA
      obtain ⟨ad, cap, rfl, -, -⟩ := hA.1.len
      clear hA
      go_wp2
      go_ret
      exact ⟨_, rfl, by rw [HV.out.1]; exact HL.out.1, HL.out.2, HA.out⟩
set_option maxRecDepth 100000 in
set_option maxHeartbeats 1000000 in
theorem rInts_any (w : World) (p : Value) (F : Nat → Prop) (s : Sta) (h : Rp w p F s) :
    Calls Try.prog 25 #[p] w fun e w' => ∃ v, e = .returned v ∧ Is w' v (pv rIs [] s) ∧ Ow w.heap.size v ∧ Af Rp p F (pn rIs s) w w' := by
  have hmf : ∀ (fn : Fn) (first cap : Array Value) (w : World), (Instr.makeFunc fn first cap).run Try.prog w = .ok (.func fn first cap) w := fun _ _ _ _ => rfl
  have HR : Hid (Rp w p F s) := h
  have hq : ∃ q, p = .pointer q := by
    rcases h with ⟨rfl, -, -⟩ | ⟨b, rfl, -⟩
    · exact ⟨_, rfl⟩
    · exact ⟨_, rfl⟩
  cases s with
  | error x =>
    obtain ⟨q, rfl⟩ := hq
    have HX : Hid (x ≠ 0) := by
      rcases h with ⟨-, e, -⟩ | ⟨b, -, ⟨y, e, h⟩ | ⟨l, e, h⟩⟩
      · cases e; show _ ≠ _; omega
      · cases e; exact h.ne
      · cases e
    have HV : Hid (pv rIs [] (.error x) = []) := rfl
    clear h
    go_enter Try.func25, Try.ntmps25
    go_wp2_with fail
    refine (faceL_skip _ _ F w x HX.out HR.out).mono ?_
    rintro e w1 ⟨rfl, hB⟩
    have HA : Hid (Af Rp (.pointer q) F (pn rIs (.error x)) w w1) := ⟨F, HR.out.kept (fun k hk => hB.block k (HR.out.lt k hk)) hB.size, fun _ h => Or.inl h, Kp.of hB⟩
    clear hB
    go_wp2
    go_ret
    exact ⟨.slice none 0 0, rfl, by rw [HV.out]; exact ls_none _ _, (fun a n cap e => by cases e), HA.out⟩
  | ok l =>
    clear hq
    rcases h with ⟨-, e, -⟩ | ⟨b, rfl, ⟨y, e, h⟩ | ⟨l, e, h⟩⟩
    · cases e
    · cases e
    cases e
    have HO : Hid (Ro w b F l) := h
    have HG : Hid (∀ i, i = b → F i) := fun i hi => by rw [hi]; exact h.fb
    clear h
    cases hr : rIs l with
    | error x =>
      have HU : Hid (rIs l = .error x) := hr
      have HX : Hid (x ≠ 0) := by have := rIs_err hr; show _ ≠ _; omega
      have HV : Hid (pv rIs [] (.ok l) = [] ∧ pn rIs (.ok l) = .error x) := ⟨pv_no hr, pn_no hr⟩
      clear hr
      go_enter Try.func25, Try.ntmps25
      go_wp2_with fail
      refine (faceL_no b F l w HO.out x HX.out HU.out).mono ?_
      rintro e w1 ⟨rfl, hE, hK⟩
      have HA : Hid (Af Rp (.pointer (some ⟨b, 0, none⟩)) F (pn rIs (.ok l)) w w1) := ⟨F, Or.inr ⟨b, rfl, Or.inl ⟨x, HV.out.2, hE⟩⟩, fun _ h => Or.inl h, hK.mono HG.out⟩
      clear hE hK
      go_wp2
      go_ret
      exact ⟨.slice none 0 0, rfl, by rw [HV.out.1]; exact ls_none _ _, (fun a n cap e => by cases e), HA.out⟩
    | ok z =>
      obtain ⟨x, t⟩ := z
      have HU : Hid (rIs l = .ok (x, t)) := hr
      have HV : Hid (pv rIs [] (.ok l) = x ∧ pn rIs (.ok l) = .ok t) := ⟨pv_ok hr, pn_ok hr⟩
      clear hr
      go_enter Try.func25, Try.ntmps25
      go_wp2_with fail
      refine (faceL_ok b F l w HO.out x t HU.out).mono ?_
      rintro e w1 ⟨v, rfl, hA, hE, hK⟩
      have HA : Hid (Af Rp (.pointer (some ⟨b, 0, none⟩)) F (pn rIs (.ok l)) w w1) := ⟨F, Or.inr ⟨b, rfl, Or.inr ⟨t, HV.out.2, hE⟩⟩, fun _ h => Or.inl h, hK.mono HG.out⟩
      clear hE hK
      have HL : Hid (AL w.heap.size x v w1) := hA
      obtain ⟨ad, cap, rfl, -, -⟩ := hA.1.len
      clear hA
      go_wp2
      go_ret
      exact ⟨_, rfl, by rw [HV.out.1]; exact HL.out.1, HL.out.2, HA.out⟩
set_option maxRecDepth 100000 in
set_option maxHeartbeats 1000000 in
theorem rFixes_any (w : World) (p : Value) (F : Nat → Prop) (s : Sta) (h : Rp w p F s) :
    Calls Try.prog 26 #[p] w fun e w' => ∃ v, e = .returned v ∧ Is w' v (pv rFs [] s) ∧ Ow w.heap.size v ∧ Af Rp p F (pn rFs s) w w' := by
  have hmf : ∀ (fn : Fn) (first cap : Array Value) (w : World), (Instr.makeFunc fn first cap).run Try.prog w = .ok (.func fn first cap) w := fun _ _ _ _ => rfl
  have HR : Hid (Rp w p F s) := h
  have hq : ∃ q, p = .pointer q := by
    rcases h with ⟨rfl, -, -⟩ | ⟨b, rfl, -⟩
    · exact ⟨_, rfl⟩
    · exact ⟨_, rfl⟩
  cases s with
  | error x =>
    obtain ⟨q, rfl⟩ := hq
    have HX : Hid (x ≠ 0) := by
      rcases h with ⟨-, e, -⟩ | ⟨b, -, ⟨y, e, h⟩ | ⟨l, e, h⟩⟩
      · cases e; show _ ≠ _; omega
      · cases e; exact h.ne
      · cases e
    have HV : Hid (pv rFs [] (.error x) = []) := rfl
    clear h
    go_enter Try.func26, Try.ntmps26
    go_wp2_with fail
    refine (faceG_skip _ _ F w x HX.out HR.out).mono ?_
    rintro e w1 ⟨rfl, hB⟩
    have HA : Hid (Af Rp (.pointer q) F (pn rFs (.error x)) w w1) := ⟨F, HR.out.kept (fun k hk => hB.block k (HR.out.lt k hk)) hB.size, fun _ h => Or.inl h, Kp.of hB⟩
    clear hB
    go_wp2
    go_ret
    exact ⟨.slice none 0 0, rfl, by rw [HV.out]; exact ls_none _ _, (fun a n cap e => by cases e), HA.out⟩
  | ok l =>
    clear hq
    rcases h with ⟨-, e, -⟩ | ⟨b, rfl, ⟨y, e, h⟩ | ⟨l, e, h⟩⟩
    · cases e
    · cases e
    cases e
    have HO : Hid (Ro w b F l) := h
    have HG : Hid (∀ i, i = b → F i) := fun i hi => by rw [hi]; exact h.fb
    clear h
    cases hr : rFs l with
    | error x =>
      have HU : Hid (rFs l = .error x) := hr
      have HX : Hid (x ≠ 0) := by have := rFs_err hr; show _ ≠ _; omega
      have HV : Hid (pv rFs [] (.ok l) = [] ∧ pn rFs (.ok l) = .error x) := ⟨pv_no hr, pn_no hr⟩
      clear hr
      go_enter Try.func26, Try.ntmps26
      go_wp2_with fail
      refine (faceG_no b F l w HO.out x HX.out HU.out).mono ?_
      rintro e w1 ⟨rfl, hE, hK⟩
      have HA : Hid (Af Rp (.pointer (some ⟨b, 0, none⟩)) F (pn rFs (.ok l)) w w1) := ⟨F, Or.inr ⟨b, rfl, Or.inl ⟨x, HV.out.2, hE⟩⟩, fun _ h => Or.inl h, hK.mono HG.out⟩
      clear hE hK
      go_wp2
      go_ret
      exact ⟨.slice none 0 0, rfl, by rw [HV.out.1]; exact ls_none _ _, (fun a n cap e => by cases e), HA.out⟩
    | ok z =>
      obtain ⟨x, t⟩ := z
      have HU : Hid (rFs l = .ok (x, t)) := hr
      have HV : Hid (pv rFs [] (.ok l) = x ∧ pn rFs (.ok l) = .ok t) := ⟨pv_ok hr, pn_ok hr⟩
      clear hr
      go_enter Try.func26, Try.ntmps26
      go_wp2_with fail
      refine (faceG_ok b F l w HO.out x t HU.out).mono ?_
      rintro e w1 ⟨v, rfl, hA, hE, hK⟩
      have HA : Hid (Af Rp (.pointer (some ⟨b, 0, none⟩)) F (pn rFs (.ok l)) w w1) := ⟨F, Or.inr ⟨b, rfl, Or.inr ⟨t, HV.out.2, hE⟩⟩, fun _ h => Or.inl h, hK.mono HG.out⟩
      clear hE hK
      have HL : Hid (AL w.heap.size x v w1) := hA
      obtain ⟨ad, cap, rfl, -, -⟩ := hA.1.len
      clear hA
      go_wp2
      go_ret
      exact ⟨_, rfl, by rw [HV.out.1]; exact HL.out.1, HL.out.2, HA.out⟩
/-- The program's pack meets its contracts. -/
def pack1 : Pack1 where
  Wt := Wp
  Rt := Rp
  wtK := fun h k hs => h.kept k hs
  wtB := fun h => h.lt
  rtK := fun h k hs => h.kept k hs
  rtB := fun h => h.lt
  rtY := fun {w p F s} h => by
    rcases h with ⟨-, rfl, -⟩ | ⟨b, -, ⟨x, rfl, h⟩ | ⟨l, rfl, h⟩⟩
    · trivial
    · trivial
    · exact h.yt
  rtE := fun {w p F x} h => by
    rcases h with ⟨-, e, -⟩ | ⟨b, -, ⟨y, e, h⟩ | ⟨l, e, h⟩⟩
    · cases e; omega
    · cases e; exact h.ne
    · cases e
  wz := fun w => Or.inr ⟨w.heap.size, .slice none 0 0, rfl, Or.inr ⟨[], rfl, ⟨fun k hk => by rw [hk, World.size_alloc]; omega, rfl, by simp [go_sem], by simp [go_sem], by simp [go_sem], by simp [go_sem], by simp, ob_nil _ _, fun k hk => by cases hk⟩⟩⟩
  wnil := fun w => Or.inl ⟨rfl, rfl, fun k hk => hk⟩
  rz := fun w => Or.inr ⟨w.heap.size, rfl, Or.inl ⟨1, rfl, ⟨fun k hk => by rw [hk, World.size_alloc]; omega, rfl, Or.inl ⟨by simp [go_sem], rfl⟩⟩⟩⟩
  rnil := fun w => Or.inl ⟨rfl, rfl, fun k hk => hk⟩
  wuint := fun w p F s n h hn => wuint_any w p F s n h hn
  wint := fun w p F s n h hn => wint_any w p F s n h hn
  wfix := fun w p F s n h hn => wfix_any w p F s n h hn
  wbytes := fun w p F s v l h hv hn _ hl => wbytes_any w p F s v l h hv hn hl
  wints := fun w p F s v l h hv hn ho hl => wints_any w p F s v l h hv hn ho hl
  wfixes := fun w p F s v l h hv hn ho hl => wfixes_any w p F s v l h hv hn ho hl
  wdone := fun w p F s h => wdone_any w p F s h
  read := fun w v l h hb hl => read_any w v l h hb hl
  ruint := fun w p F s h => rUint_any w p F s h
  rint := fun w p F s h => rInt_any w p F s h
  rfix := fun w p F s h => rFix_any w p F s h
  rbytes := fun w p F s h => rBytes_any w p F s h
  rints := fun w p F s h => rInts_any w p F s h
  rfixes := fun w p F s h => rFixes_any w p F s h
  rerr := fun w p F s h => (rerr_any w p F s h).mono fun e w' h2 => ⟨h2.1, by rw [h2.2]; exact Below.refl _ _⟩
  rdone := fun w p F s h => (rdone_any w p F s h).mono fun e w' h2 => ⟨h2.1, by rw [h2.2]; exact Below.refl _ _⟩
end Go.Proofs.Ytahbpegjdmblaaa
