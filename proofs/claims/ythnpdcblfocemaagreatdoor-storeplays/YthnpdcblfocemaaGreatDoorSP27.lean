/-
  Texts of this proof, joined: DqG.
-/
import Derived.Test.YthnpdcblfocemaaGreatDoorSP26
set_option linter.unusedVariables false
set_option linter.unusedSimpArgs false
namespace Go.Proofs.YthnpdcblfocemaaGreatDoor
open Go.RowKit

theorem okd_len {s : Dsk} (h : OkD s) : ∀ u ∈ s.un, u.2.length = 128 := fun u hu => (h.un u hu).2.1
theorem un_get {s : Dsk} (h : OkD s) {k : Nat} (hk : k < s.un.length) : (s.un.getD k (0, [])).1 < s.bl.length ∧ okb (s.un.getD k (0, [])).2 := by
  have e : s.un.getD k (0, []) = s.un[k] := by simp [List.getD, hk]
  rw [e]
  exact h.un _ (List.getElem_mem hk)
theorem Pd.rng {w : World} {d M : Nat} {vU : Value} {L : Int} {F : Nat → Prop} {s : Dsk} (h : Pd w d M vU L F s) {g n cap : Nat} (e : vU = .slice (some ⟨g, 0, none⟩) n cap) (k : Nat) (hk : k < s.un.length) : w.rangeAt g (k * 129) (wr15 (s.un.getD k (0, []))) := by
  subst e
  obtain ⟨ad, c, e⟩ := h.sU
  cases e
  intro j v hj
  have hl := wr15_len (un_get h.ok hk).2.1
  have hj2 : j < 129 := by have := (List.getElem?_eq_some_iff.1 hj).1; omega
  have hc : w.cell? ⟨g, k * 129 + j, none⟩ = (wcs s.un)[k * 129 + j]? := h.rU.cellAt (k * 129 + j) (by omega)
  rw [hc, wcs_get s.un (okd_len h.ok) k j hk hj2]
  exact hj
theorem Pd.adr {w : World} {d M : Nat} {ad : Option Addr} {n cap : Nat} {L : Int} {F : Nat → Prop} {s : Dsk} (h : Pd w d M (.slice ad n cap) L F s) (hp : 0 < s.un.length) : ∃ g, ad = some ⟨g, 0, none⟩ := by
  rcases h.rU.2 with ⟨e, h0⟩ | ⟨g, c, cur, e, _⟩
  · omega
  · cases e
    exact ⟨g, rfl⟩
theorem lay_more15 (un : List (Nat × List Nat)) (bl : List (List Nat)) (j : Nat) (hj : j < un.length) : lay (un.take (j + 1)) bl = (lay (un.take j) bl).set (un.getD j (0, [])).1 (un.getD j (0, [])).2 := by
  have e : un.take (j + 1) = un.take j ++ [un.getD j (0, [])] := by
    rw [List.take_add_one]
    congr 1
    simp [List.getD, hj]
  rw [e]
  unfold lay
  rw [List.foldl_append]
  rfl
theorem sz_bV (u : Nat × List Nat) (hu : u.2.length = 128) : ∀ j v, (b8 u.2)[j]? = some v → (wr15 u)[1 + j]? = some v := by
  intro j v h
  unfold wr15
  rw [Nat.add_comm, List.getElem?_cons_succ]
  exact h
set_option maxRecDepth 100000 in
set_option maxHeartbeats 8000000 in
theorem flush15 (w : World) (p : Value) (F : Nat → Prop) (s : Dsk) (h : PD w p F s) (hu : s.un.length ≤ 1000) :
    Calls Tryz.prog 78 #[p] w fun e w' => e = .returned (.int .i64 ((flE s : Nat) : Int)) ∧ Ad PD p F (flS s) w w' := by
  obtain ⟨d, M, vU, L, rfl, h⟩ := h
  have hr := runs_yes h
  have HR : Hid (Pd w d M vU L F s) := h
  obtain ⟨aU, pU, rfl⟩ := h.sU
  have HE : Hid (flE s = if s.dn = true then 150 else if dGo s = true then 0 else 150) := rfl
  have HST : Hid (flS s = if s.dn = true then s else if dGo s = true then { dGone s with bl := lay s.un s.bl, un := [] } else dGone s) := rfl
  have hsp := spend_any h
  have hSpE : spE s = if dGo s = true then 0 else 150 := rfl
  by_cases hd : s.dn = true
  · rw [if_pos hd] at HE HST hr
    clear hd h hu hsp hSpE
    go_enter Tryz.func78, Tryz.ntmps78
    go_wp2_with (go_at_call 90; refine hr.mono ?_; rintro e w' ⟨rfl, hw⟩; replace hw := hw.symm; subst hw; clear hr)
    go_ret
    exact ⟨by rw [HE.out]; rfl, F, by rw [HST.out]; exact ⟨d, M, _, L, rfl, HR.out⟩, fun k hk => Or.inl hk, Kp.refl _ _⟩
  rw [if_neg hd] at HE HST hr
  by_cases hg : ¬ dGo s = true
  · rw [if_neg hg] at HE HST hSpE
    rw [hSpE] at hsp
    clear hd h hu hSpE hg
    go_enter Tryz.func78, Tryz.ntmps78
    go_wp2_with (first
      | (go_at_call 90; refine hr.mono ?_; rintro e w' ⟨rfl, hw⟩; replace hw := hw.symm; subst hw; clear hr)
      | (go_at_call 91; refine hsp.mono ?_; rintro e w1 ⟨rfl, hX⟩; clear hsp))
    go_ret
    obtain ⟨L1, hP1, hK1⟩ := hX
    exact ⟨by rw [HE.out]; rfl, F, by rw [HST.out]; exact ⟨d, M, _, L1, rfl, hP1⟩, fun k hk => Or.inl hk, hK1.mono (fun k hk => by rw [hk]; exact HR.out.fd)⟩
  have hg := Decidable.not_not.1 hg
  rw [if_pos hg] at HE HST hSpE
  rw [hSpE] at hsp
  obtain ⟨m, hm⟩ : ∃ m, s.un.length = m := ⟨_, rfl⟩
  have HM : Hid (s.un.length = m ∧ m ≤ 1000) := ⟨hm, by omega⟩
  rw [hm] at HR hsp
  have hz := zero_wr15
  have HZ : Hid ((wr15 (0, zr15)).length = 129) := wr15_len zr_len
  clear hd h hu hSpE hg hm
  go_enter Tryz.func78, Tryz.ntmps78
  go_upto_region 7 with (first
    | (go_at_call 90; refine hr.mono ?_; rintro e w' ⟨rfl, hw⟩; replace hw := hw.symm; subst hw; clear hr)
    | (go_at_call 91; refine hsp.mono ?_; rintro e w1 ⟨rfl, hX⟩; clear hsp))
  obtain ⟨L1, hP1, hK1⟩ := hX
  obtain ⟨s1, hs1⟩ : ∃ s1, dGone s = s1 := ⟨_, rfl⟩
  rw [hs1] at hP1 HST
  have hun : s1.un = s.un ∧ s1.bl = s.bl := by rw [← hs1]; exact ⟨(dGone_bl s).2, (dGone_bl s).1⟩
  have HM1 : Hid (s1.un.length = m ∧ m ≤ 1000) := by show _ ∧ _; rw [hun.1]; exact HM.out
  rw [← hun.1, ← hun.2] at HST
  have HK1 : Hid (Kp F w w1) := hK1.mono (fun k hk => by rw [hk]; exact HR.out.fd)
  have HP1 : Hid (Pd w1 d M (.slice aU m pU) L1 F s1) := hP1
  have e1 := hP1.c2
  clear hun hs1 hK1 HM hP1
  go_upto_region 8 with fail
  obtain ⟨fs, hfs⟩ := und_wr15
  clear e1
  have hm9 : m ≤ 1000 := HM1.out.2
  go_loopw [22] (fun s22 wr => ∃ j : Nat, j ≤ m ∧ s22 = .int .i64 (j : Int) ∧ Hid (Pd wr d M (.slice aU m pU) L1 F { s1 with bl := lay (s1.un.take j) s1.bl } ∧ Kp F w wr)) (fun s22 _ => m - (intOf s22).toNat)
  case atStart => exact ⟨0, by omega, rfl, HP1.out, HK1.out⟩
  case round =>
    obtain ⟨j, hj, rfl, HR2⟩ := hrel
    by_cases hlt : j < m
    · have hjI : (j : Int) < (m : Int) := by omega
      have hjl : j < s1.un.length := by have := HM1.out.1; omega
      obtain ⟨g, rfl⟩ := HR2.out.1.adr (by show 0 < s1.un.length; omega)
      have hrg := HR2.out.1.rng rfl j hjl
      have hug := un_get HR2.out.1.ok hjl
      have hlm := lay_more15 s1.un s1.bl j hjl
      obtain ⟨⟨uI, uT⟩, hu⟩ : ∃ u, s1.un.getD j (0, []) = u := ⟨_, rfl⟩
      dsimp only at hrg hug hlm
      rw [hu] at hrg hug hlm
      have HU : Hid (uI < (lay (s1.un.take j) s1.bl).length ∧ okb uT ∧ (wr15 (uI, uT)).length = 129) := ⟨hug.1, hug.2, wr15_len hug.2.1⟩
      have HLm : Hid (lay (s1.un.take (j + 1)) s1.bl = (lay (s1.un.take j) s1.bl).set uI uT) := hlm
      clear hu hug hlm hjl
      go_upto_region 10 with (first
        | (refine wpList_load_mid rfl 94 _ rfl g (j * 129) rfl (wr15 (uI, uT)) _ hrg hfs rfl (by rw [HU.out.2.2]; exact sz_wr15) ?_)
        | (refine alV rfl 94 (wr15 (0, zr15)) hz rfl ?_; intro wB hV hB hS)
        | (refine stV rfl 94 _ _ rfl _ (wr15 (0, zr15)) (wr15 (uI, uT)) rfl rfl hV (by rw [HZ.out, HU.out.2.2]) (by rw [HU.out.2.2]; exact sz_wr15) (wr15_one _) ?_; intro wC hVC hKC hSC))
      have hBC : Below wr.heap.size wr wC := hKC.next hB (fun i hi => by omega) hB.size
      have C0 := hVC.cell 0 (.int .i64 (uI : Int)) rfl
      have R1 := hVC.range 1 (b8 uT) (sz_bV (uI, uT) HU.out.2.1.1)
      have hk := keep15 (HR2.out.1.later hBC) uI uT HU.out.1 HU.out.2.1
      have HKC : Hid (Kp F w wC) := HR2.out.2.grow hBC HR2.out.2.size
      clear hV hB hS hVC hKC hSC hBC hrg
      go_wp2_with (first
        | (refine ldB rfl _ rfl wr.heap.size 1 uT rfl R1 HU.out.2.1.1 ?_)
        | (go_at_call 42; refine hk.mono ?_; rintro e wD ⟨rfl, hX⟩; clear hk))
      have HX : Hid (Pd wD d M (.slice (some ⟨g, 0, none⟩) m pU) L1 F { s1 with bl := lay (s1.un.take (j + 1)) s1.bl } ∧ Kp F w wD) := by
        refine ⟨?_, HKC.out.trans hX.2 (fun k hk => Or.inl (by rw [hk]; exact hX.1.fM))⟩
        rw [HLm.out]
        exact hX.1
      clear hX C0 R1
      go_roundw
      case rel => exact ⟨j + 1, by omega, by go_num, HX.out⟩
      case measure => simp [intOf]; omega
    · obtain rfl : j = m := by omega
      have hjI : ¬ (j : Int) < (j : Int) := by omega
      have HX : Hid (Pd (wr.setCell ⟨d, 2, none⟩ (.slice none 0 0)) d M (.slice none 0 0) L1 F { s1 with bl := lay s1.un s1.bl, un := [] } ∧ Kp F w (wr.setCell ⟨d, 2, none⟩ (.slice none 0 0))) := by
        have e : s1.un.take j = s1.un := List.take_of_length_le (by have := HM1.out.1; omega)
        have h := HR2.out.1.nil
        rw [e] at h
        exact ⟨h, HR2.out.2.set (p := ⟨d, 2, none⟩) (Or.inl HR2.out.1.fd) _⟩
      have e1 := HR2.out.1.c2
      have e2 := HR2.out.1.f0 2 (by omega)
      go_wp2
      go_ret
      exact ⟨by rw [HE.out]; rfl, F, by rw [HST.out]; exact ⟨d, M, _, L1, rfl, HX.out.1⟩, fun k hk => Or.inl hk, HX.out.2⟩
end Go.Proofs.YthnpdcblfocemaaGreatDoor
