/-
  Texts of this proof, joined: DkRefE SnRefD SnMath5 JnMath.
-/
import Derived.Test.YthnpdcblfocemaaGreatDoorSP03
import Derived.Test.YthnpdcblfocemaaGreatDoorSP05
import Derived.Test.YthnpdcblfocemaaGreatDoorSP06
import Derived.Test.YthnpdcblfocemaaGreatDoorSP07
set_option linter.unusedVariables false
set_option linter.unusedSimpArgs false
namespace Go.Proofs.YthnpdcblfocemaaGreatDoor
open Go.RowKit

theorem lay_more {un : List (Nat × List Nat)} {j : Nat} (hj : j < un.length) (bl : List (List Nat)) : lay (un.take (j + 1)) bl = (lay (un.take j) bl).set (un.getD j (0, [])).1 (un.getD j (0, [])).2 := by
  rw [take_more hj]
  unfold lay
  rw [List.foldl_append]
  rfl
theorem lay_zero (un : List (Nat × List Nat)) (bl : List (List Nat)) : lay (un.take 0) bl = bl := rfl
set_option maxRecDepth 100000 in
set_option maxHeartbeats 8000000 in
theorem refFlush {w : World} {p : Value} {F : Nat → Prop} {s : Dsk} (h : RD w p F s) (hu : s.un.length ≤ 100000) :
    Calls Tryz.prog 62 #[p] w fun e w' => e = .returned (.int .i64 ((flE s : Nat) : Int)) ∧ Ad RD p F (flS s) w w' := by
  obtain ⟨b, vB, vU, cs, ds, rfl, h, hd⟩ := h
  have HR : Hid (Rd5 w b vB vU cs ds F s ∧ Bdk s) := ⟨h, hd⟩
  obtain ⟨aB, pB, rfl⟩ := h.sB
  obtain ⟨aU, pU, rfl⟩ := h.sU
  have HE : Hid (flE s = if s.dn = true then 150 else if dGo s = true then 0 else 150) := rfl
  have HST : Hid (flS s = if s.dn = true then s else if dGo s = true then { dGone s with bl := lay s.un s.bl, un := [] } else dGone s) := rfl
  have c4 := h.c4
  obtain ⟨m, hm⟩ : ∃ m, s.un.length = m := ⟨_, rfl⟩
  obtain ⟨n, hn⟩ : ∃ n, s.bl.length = n := ⟨_, rfl⟩
  have HM : Hid (s.un.length = m ∧ m ≤ 100000 ∧ s.bl.length = n) := ⟨hm, by omega, hn⟩
  rw [hm, hn] at HR
  clear h hd hm hn hu
  go_enter Tryz.func62, Tryz.ntmps62
  cases hdn : s.dn with
  | true =>
    rw [hdn] at c4
    rw [if_pos hdn] at HE HST
    clear hdn
    go_wp2
    go_ret
    exact ⟨by rw [HE.out]; rfl, F, by rw [HST.out]; exact ⟨b, _, _, cs, ds, rfl, HR.out⟩, fun k hk => Or.inl hk, Kp.refl _ _⟩
  | false =>
    rw [hdn] at c4
    rw [if_neg (by simp [hdn])] at HE HST
    clear hdn
    go_wp2_with fail
    refine (refGoes HR.out.1 HR.out.2).mono ?_
    rintro e w1 ⟨rfl, hR1, hK1⟩
    have HR1 : Hid (Rd5 w1 b (.slice aB n pB) (.slice aU m pU) cs ds F (dGone s) ∧ Kp F w w1 ∧ Bdk (dGone s)) := ⟨hR1, hK1.mono (fun k hk => by rw [hk]; exact HR.out.1.fb), bdk_gone HR.out.2⟩
    clear hR1 hK1 c4
    cases hgo : dGo s with
    | false =>
      rw [if_neg (by simp [hgo])] at HE HST
      clear hgo
      go_wp2
      go_ret
      exact ⟨by rw [HE.out]; rfl, F, by rw [HST.out]; exact ⟨b, _, _, cs, ds, rfl, HR1.out.1, HR1.out.2.2⟩, fun k hk => Or.inl hk, HR1.out.2.1⟩
    | true =>
      rw [if_pos hgo] at HE HST
      clear hgo
      obtain ⟨hg1, hg2⟩ := dGone_bl s
      have HG : Hid ((dGone s).bl = s.bl ∧ (dGone s).un = s.un) := ⟨hg1, hg2⟩
      clear hg1 hg2
      go_upto_region 6 with fail
      go_loopw [3] (fun s3 wr => ∃ j : Nat, j ≤ m ∧ s3 = .int .i64 (j : Int) ∧ Hid (∃ cj : List Value, Rd5 wr b (.slice aB n pB) (.slice aU m pU) cj ds F { dGone s with bl := lay (s.un.take j) s.bl } ∧ Kp F w wr)) (fun s3 _ => m - (intOf s3).toNat)
      case atStart => exact ⟨0, by omega, rfl, cs, by have h := HR1.out.1; rw [lay_zero, ← HG.out.1]; exact h, HR1.out.2.1⟩
      case round =>
        obtain ⟨j, hj, rfl, HW⟩ := hrel
        clear HR1
        obtain ⟨cj, hRj, hKj⟩ := HW.out
        have d0 := hRj.c0
        have d1 := hRj.c1
        by_cases hlt : j < m
        · have hjI : (j : Int) < (m : Int) := by omega
          have hj0 : (0 : Int) ≤ (j : Int) := by omega
          have hjw : IntKind.i64.wrap ((j : Int) + 1) = ((j + 1 : Nat) : Int) := by have := HM.out; rw [IntKind.wrap_i64]; omega
          have hjm : j < s.un.length := by have := HM.out; omega
          obtain ⟨gU, x, eU, ca, cx, tx, gUb, gUB⟩ := hRj.atU j (by show j < (dGone s).un.length; rw [HG.out.2]; exact hjm)
          have hun : (({ dGone s with bl := lay (s.un.take j) s.bl } : Dsk).un.getD j (0, [])) = s.un.getD j (0, []) := by show (dGone s).un.getD j (0, []) = _; rw [HG.out.2]
          rw [hun] at ca tx
          clear hun
          obtain ⟨at_, hat⟩ : ∃ a, (s.un.getD j (0, [])).1 = a := ⟨_, rfl⟩
          obtain ⟨T, hTT⟩ : ∃ T, (s.un.getD j (0, [])).2 = T := ⟨_, rfl⟩
          have HLm := hid5 (lay_more hjm s.bl)
          have hokU := HR.out.1.ok.un (s.un.getD j (0, [])) (by
            have e : s.un.getD j (0, []) = s.un[j] := by simp [List.getD, hjm]
            rw [e]; exact List.getElem_mem hjm)
          rw [hat] at ca HLm hokU
          rw [hTT] at tx HLm hokU
          have hatn : at_ < n := by have := HM.out.2.2; omega
          have hatI : (at_ : Int) < (n : Int) := by omega
          have hat0 : (0 : Int) ≤ (at_ : Int) := by omega
          have hlen : (lay (s.un.take j) s.bl).length = n := by rw [lay_len]; exact HM.out.2.2
          obtain ⟨gB, xo, eB, co, fo, -, gBb, gBU⟩ := hRj.atB at_ (by show at_ < (lay _ _).length; omega)
          subst eU eB
          have HP := hid5 (hRj.put at_ x T (by show at_ < (lay _ _).length; omega) hokU.2 tx)
          obtain ⟨ax, px, ex, -, -⟩ := tx.1.len
          subst ex
          have HGG : Hid (gB ≠ b ∧ gB ≠ gU ∧ F gB) := ⟨gBb, fun e => gBU (by rw [e]; rfl), (hRj.gB gB rfl).1⟩
          have HKj : Hid (Kp F w wr) := hKj
          generalize T.length = L at *
          clear hRj hKj HW hat hTT hokU hlen tx hjm gUb gUB gBb gBU
          go_upto_region 8 with fail
          have hbD : Below wr.heap.size wr wr.drew := (Below.refl _ _).drew
          refine wp_region_held_drew (S := fun W => W.cell? ⟨b, 0, none⟩ = some (.slice (some ⟨gB, 0, none⟩) n pB) ∧ W.cell? ⟨b, 1, none⟩ = some (.slice (some ⟨gU, 0, none⟩) m pU) ∧ W.cell? ⟨gU, j * 2, none⟩ = some (.int .i64 (at_ : Int)) ∧ W.cell? ⟨gU, j * 2 + 1, none⟩ = some (.slice ax L px)) (by kernel_rfl) ⟨cell_later hbD d0, cell_later hbD d1, cell_later hbD ca, cell_later hbD cx⟩ (fun HS => ?_)
          have co2 : wr.drew.cell? ⟨gB, at_, none⟩ = some xo := cell_later hbD co
          have fo2 : wr.drew.frozen? ⟨gB, at_, none⟩ = false := fo
          have HP2 : Hid (Rd5 (wr.drew.setCell ⟨gB, at_, none⟩ (.slice ax L px)) b (.slice (some ⟨gB, 0, none⟩) n pB) (.slice (some ⟨gU, 0, none⟩) m pU) (cj.set at_ (.slice ax L px)) ds F { dGone s with bl := (lay (s.un.take j) s.bl).set at_ T }) := HP.out.kept (fun k _ => rfl) (Nat.le_refl _)
          have HK2 : Hid (Kp F w (wr.drew.setCell ⟨gB, at_, none⟩ (.slice ax L px))) := (HKj.out.drew).set (p := ⟨gB, at_, none⟩) (Or.inl HGG.out.2.2) _
          clear hbD d0 d1 ca cx co fo HP HKj
          generalize wr.drew = q0 at *
          refine wpAnyH_take (i := 0) (v := ?v1) rfl (by kernel_rfl) (by kernel_rfl) (by kernel_rfl) (fun _ _ _ h => h) (Or.inl ⟨by kernel_rfl, ?h1⟩) HS ?r1
          case h1 => (rintro w ⟨n0, n1, n2, n3⟩; go_simp) <;> with_reducible rfl
          try simp only [Act.put, List.getElem_toArray, List.getElem_cons_succ, List.getElem_cons_zero, List.setIfInBounds_toArray, List.set_cons_zero, List.set_cons_succ]
          refine wpAnyH_take (i := 1) (v := ?v2) rfl (by kernel_rfl) (by kernel_rfl) (by kernel_rfl) (fun _ _ _ h => h) (Or.inl ⟨by kernel_rfl, ?h2⟩) HS ?r2
          case h2 => (rintro w ⟨n0, n1, n2, n3⟩; go_simp) <;> with_reducible rfl
          try simp only [Act.put, List.getElem_toArray, List.getElem_cons_succ, List.getElem_cons_zero, List.setIfInBounds_toArray, List.set_cons_zero, List.set_cons_succ]
          refine wpAnyH_take (i := 2) (v := ?v3) rfl (by kernel_rfl) (by kernel_rfl) (by kernel_rfl) (fun _ _ _ h => h) (Or.inl ⟨by kernel_rfl, ?h3⟩) HS ?r3
          case h3 => (rintro w ⟨n0, n1, n2, n3⟩; go_simp) <;> with_reducible rfl
          try simp only [Act.put, List.getElem_toArray, List.getElem_cons_succ, List.getElem_cons_zero, List.setIfInBounds_toArray, List.set_cons_zero, List.set_cons_succ]
          refine wpAnyH_take (i := 3) (v := ?v4) rfl (by kernel_rfl) (by kernel_rfl) (by kernel_rfl) (fun _ _ _ h => h) (Or.inl ⟨by kernel_rfl, ?h4⟩) HS ?r4
          case h4 => (rintro w ⟨n0, n1, n2, n3⟩; go_simp) <;> with_reducible rfl
          try simp only [Act.put, List.getElem_toArray, List.getElem_cons_succ, List.getElem_cons_zero, List.setIfInBounds_toArray, List.set_cons_zero, List.set_cons_succ]
          refine wpAnyH_take (i := 4) (v := ?v5) rfl (by kernel_rfl) (by kernel_rfl) (by kernel_rfl) (fun _ _ _ h => h) (Or.inl ⟨by kernel_rfl, ?h5⟩) HS ?r5
          case h5 => (rintro w ⟨n0, n1, n2, n3⟩; go_simp) <;> with_reducible rfl
          try simp only [Act.put, List.getElem_toArray, List.getElem_cons_succ, List.getElem_cons_zero, List.setIfInBounds_toArray, List.set_cons_zero, List.set_cons_succ]
          refine wpAnyH_take (i := 5) (v := ?v6) rfl (by kernel_rfl) (by kernel_rfl) (by kernel_rfl) (fun _ _ _ h => h) (Or.inl ⟨by kernel_rfl, ?h6⟩) HS ?r6
          case h6 => (rintro w ⟨n0, n1, n2, n3⟩; go_simp) <;> with_reducible rfl
          try simp only [Act.put, List.getElem_toArray, List.getElem_cons_succ, List.getElem_cons_zero, List.setIfInBounds_toArray, List.set_cons_zero, List.set_cons_succ]
          refine wpAnyH_take (i := 6) (v := ?v7) rfl (by kernel_rfl) (by kernel_rfl) (by kernel_rfl) (fun _ _ _ h => h) (Or.inl ⟨by kernel_rfl, ?h7⟩) HS ?r7
          case h7 => (rintro w ⟨n0, n1, n2, n3⟩; go_simp) <;> with_reducible rfl
          try simp only [Act.put, List.getElem_toArray, List.getElem_cons_succ, List.getElem_cons_zero, List.setIfInBounds_toArray, List.set_cons_zero, List.set_cons_succ]
          refine wpAnyH_take (i := 7) (v := ?v8) rfl (by kernel_rfl) (by kernel_rfl) (by kernel_rfl) (fun _ _ _ h => h) (Or.inl ⟨by kernel_rfl, ?h8⟩) HS ?r8
          case h8 => (rintro w ⟨n0, n1, n2, n3⟩; go_simp) <;> with_reducible rfl
          try simp only [Act.put, List.getElem_toArray, List.getElem_cons_succ, List.getElem_cons_zero, List.setIfInBounds_toArray, List.set_cons_zero, List.set_cons_succ]
          refine wpAnyH_take (i := 8) (v := ?v9) rfl (by kernel_rfl) (by kernel_rfl) (by kernel_rfl) (fun _ _ _ h => h) (Or.inl ⟨by kernel_rfl, ?h9⟩) HS ?r9
          case h9 => (rintro w ⟨n0, n1, n2, n3⟩; go_simp) <;> with_reducible rfl
          try simp only [Act.put, List.getElem_toArray, List.getElem_cons_succ, List.getElem_cons_zero, List.setIfInBounds_toArray, List.set_cons_zero, List.set_cons_succ]
          refine wpAnyH_take (i := 9) (v := ?v10) rfl (by kernel_rfl) (by kernel_rfl) (by kernel_rfl) (fun _ _ _ h => h) (Or.inl ⟨by kernel_rfl, ?h10⟩) HS ?r10
          case h10 => (rintro w ⟨n0, n1, n2, n3⟩; go_simp) <;> with_reducible rfl
          try simp only [Act.put, List.getElem_toArray, List.getElem_cons_succ, List.getElem_cons_zero, List.setIfInBounds_toArray, List.set_cons_zero, List.set_cons_succ]
          refine wpAnyH_take (i := 10) (v := ?v11) rfl (by kernel_rfl) (by kernel_rfl) (by kernel_rfl) (fun _ _ _ h => h) (Or.inl ⟨by kernel_rfl, ?h11⟩) HS ?r11
          case h11 => (rintro w ⟨n0, n1, n2, n3⟩; go_simp) <;> with_reducible rfl
          try simp only [Act.put, List.getElem_toArray, List.getElem_cons_succ, List.getElem_cons_zero, List.setIfInBounds_toArray, List.set_cons_zero, List.set_cons_succ]
          refine wpAnyH_take (i := 11) (v := ?v12) rfl (by kernel_rfl) (by kernel_rfl) (by kernel_rfl) (fun _ _ _ h => h) (Or.inl ⟨by kernel_rfl, ?h12⟩) HS ?r12
          case h12 => (rintro w ⟨n0, n1, n2, n3⟩; go_simp) <;> with_reducible rfl
          try simp only [Act.put, List.getElem_toArray, List.getElem_cons_succ, List.getElem_cons_zero, List.setIfInBounds_toArray, List.set_cons_zero, List.set_cons_succ]
          refine wpAnyH_take (i := 12) (v := ?v13) rfl (by kernel_rfl) (by kernel_rfl) (by kernel_rfl) (fun _ _ _ h => h) (Or.inl ⟨by kernel_rfl, ?h13⟩) HS ?r13
          case h13 => (rintro w ⟨n0, n1, n2, n3⟩; go_simp) <;> with_reducible rfl
          try simp only [Act.put, List.getElem_toArray, List.getElem_cons_succ, List.getElem_cons_zero, List.setIfInBounds_toArray, List.set_cons_zero, List.set_cons_succ]
          refine wpAnyH_take (i := 13) (v := ?v14) rfl (by kernel_rfl) (by kernel_rfl) (by kernel_rfl) (fun _ _ _ h => h) (Or.inl ⟨by kernel_rfl, ?h14⟩) HS ?r14
          case h14 => (rintro w ⟨n0, n1, n2, n3⟩; go_simp) <;> with_reducible rfl
          try simp only [Act.put, List.getElem_toArray, List.getElem_cons_succ, List.getElem_cons_zero, List.setIfInBounds_toArray, List.set_cons_zero, List.set_cons_succ]
          refine wpAnyH_take (i := 14) (v := ?v15) rfl (by kernel_rfl) (by kernel_rfl) (by kernel_rfl) (fun _ _ _ h => h) (Or.inl ⟨by kernel_rfl, ?h15⟩) HS ?r15
          case h15 => (rintro w ⟨n0, n1, n2, n3⟩; go_simp) <;> with_reducible rfl
          try simp only [Act.put, List.getElem_toArray, List.getElem_cons_succ, List.getElem_cons_zero, List.setIfInBounds_toArray, List.set_cons_zero, List.set_cons_succ]
          refine wpAnyH_take (i := 15) (v := ?v16) rfl (by kernel_rfl) (by kernel_rfl) (by kernel_rfl) (fun _ _ _ h => h) (Or.inl ⟨by kernel_rfl, ?h16⟩) HS ?r16
          case h16 => (rintro w ⟨n0, n1, n2, n3⟩; go_simp) <;> with_reducible rfl
          try simp only [Act.put, List.getElem_toArray, List.getElem_cons_succ, List.getElem_cons_zero, List.setIfInBounds_toArray, List.set_cons_zero, List.set_cons_succ]
          refine wpAnyH_take (i := 16) (v := ?v17) rfl (by kernel_rfl) (by kernel_rfl) (by kernel_rfl) (fun _ _ _ h => h) (Or.inl ⟨by kernel_rfl, ?h17⟩) HS ?r17
          case h17 => (rintro w ⟨n0, n1, n2, n3⟩; go_simp) <;> with_reducible rfl
          try simp only [Act.put, List.getElem_toArray, List.getElem_cons_succ, List.getElem_cons_zero, List.setIfInBounds_toArray, List.set_cons_zero, List.set_cons_succ]
          refine wpAnyH_take (i := 17) (v := ?v18) rfl (by kernel_rfl) (by kernel_rfl) (by kernel_rfl) (fun _ _ _ h => h) (Or.inl ⟨by kernel_rfl, ?h18⟩) HS ?r18
          case h18 => (rintro w ⟨n0, n1, n2, n3⟩; go_simp) <;> with_reducible rfl
          try simp only [Act.put, List.getElem_toArray, List.getElem_cons_succ, List.getElem_cons_zero, List.setIfInBounds_toArray, List.set_cons_zero, List.set_cons_succ]
          refine wpAnyH_take (i := 18) (v := ?v19) rfl (by kernel_rfl) (by kernel_rfl) (by kernel_rfl) (fun _ _ _ h => h) (Or.inl ⟨by kernel_rfl, ?h19⟩) HS ?r19
          case h19 => (rintro w ⟨n0, n1, n2, n3⟩; go_simp) <;> with_reducible rfl
          try simp only [Act.put, List.getElem_toArray, List.getElem_cons_succ, List.getElem_cons_zero, List.setIfInBounds_toArray, List.set_cons_zero, List.set_cons_succ]
          refine wpAnyH_take (i := 19) (v := ?v20) rfl (by kernel_rfl) (by kernel_rfl) (by kernel_rfl) (fun _ _ _ h => h) (Or.inl ⟨by kernel_rfl, ?h20⟩) HS ?r20
          case h20 => (rintro w ⟨n0, n1, n2, n3⟩; go_simp) <;> with_reducible rfl
          try simp only [Act.put, List.getElem_toArray, List.getElem_cons_succ, List.getElem_cons_zero, List.setIfInBounds_toArray, List.set_cons_zero, List.set_cons_succ]
          refine wpAnyH_take (i := 20) (v := ?v21) rfl (by kernel_rfl) (by kernel_rfl) (by kernel_rfl) (fun _ _ _ h => h) (Or.inl ⟨by kernel_rfl, ?h21⟩) HS ?r21
          case h21 => (rintro w ⟨n0, n1, n2, n3⟩; go_simp) <;> with_reducible rfl
          try simp only [Act.put, List.getElem_toArray, List.getElem_cons_succ, List.getElem_cons_zero, List.setIfInBounds_toArray, List.set_cons_zero, List.set_cons_succ]
          refine wpAnyH_ready (rs := [21]) (by kernel_rfl) (by simp) ?_
          refine AllReadyH.cons rfl (fun K hK => ?_) AllReadyH.nil
          go_simp
          refine hK.out _ _ ⟨(World.cell?_setCell_far _ _ _ _ (by have := HGG.out; dsimp only; omega)).trans HS.1, (World.cell?_setCell_far _ _ _ _ (by have := HGG.out; dsimp only; omega)).trans HS.2.1, (World.cell?_setCell_far _ _ _ _ (by have := HGG.out; dsimp only; omega)).trans HS.2.2.1, (World.cell?_setCell_far _ _ _ _ (by have := HGG.out; dsimp only; omega)).trans HS.2.2.2⟩ (fun HS => ?_)
          clear hK K
          try simp only [Act.put, List.getElem_toArray, List.getElem_cons_succ, List.getElem_cons_zero, List.setIfInBounds_toArray, List.set_cons_zero, List.set_cons_succ]
          refine wpAnyH_done (by kernel_rfl) ?_ _
          clear HS co2 fo2
          have HW2 : Hid (∃ cj : List Value, Rd5 (q0.setCell ⟨gB, at_, none⟩ (.slice ax L px)) b (.slice (some ⟨gB, 0, none⟩) n pB) (.slice (some ⟨gU, 0, none⟩) m pU) cj ds F { dGone s with bl := lay (s.un.take (j + 1)) s.bl } ∧ Kp F w (q0.setCell ⟨gB, at_, none⟩ (.slice ax L px))) := ⟨_, by rw [HLm.out]; exact HP2.out, HK2.out⟩
          clear HP2 HK2 HLm HGG
          go_upto_region 7 with fail
          generalize q0.setCell ⟨gB, at_, none⟩ (.slice ax L px) = q1 at *
          go_wp2
          go_roundw
          case rel => exact ⟨j + 1, by omega, by first | rfl | go_num, HW2⟩
          case measure => simp only [intOf]; omega
        · obtain rfl : j = m := by omega
          have hjI : ¬ (j : Int) < (j : Int) := by omega
          have f1 := hRj.f0 1 (by omega)
          have HP := hid5 hRj.nil
          have HKj : Hid (Kp F w wr ∧ F b) := ⟨hKj, hRj.fb⟩
          have hall : s.un.take j = s.un := List.take_of_length_le (by have := HM.out; omega)
          rw [hall] at HP
          clear hRj hKj HW hall d0
          go_wp2
          go_ret
          refine ⟨by rw [HE.out]; rfl, F, ?_, fun k hk => Or.inl hk, (HKj.out.1).set (p := ⟨b, 1, none⟩) (Or.inl HKj.out.2) _⟩
          rw [HST.out]
          exact ⟨b, _, _, _, _, rfl, HP.out, bdk_gone HR.out.2⟩
end Go.Proofs.YthnpdcblfocemaaGreatDoor
set_option linter.unusedVariables false
set_option linter.unusedSimpArgs false
namespace Go.Proofs.YthnpdcblfocemaaGreatDoor
open Go.RowKit

theorem ad_same {T : World → Value → (Nat → Prop) → Dsk → Prop} {p : Value} {F : Nat → Prop} {s : Dsk} {w : World} (h : T w p F s) : Ad T p F s w w := ⟨F, h, fun _ h => Or.inl h, Kp.refl _ _⟩
theorem ad_tr {T : World → Value → (Nat → Prop) → Dsk → Prop} {p : Value} {F F1 : Nat → Prop} {s : Dsk} {w w1 w2 : World} (hG : Gr F F1 w) (hK : Kp F w w1) (h2 : Ad T p F1 s w1 w2) : Ad T p F s w w2 := by
  obtain ⟨F2, t, g, k⟩ := h2
  have hs := hK.size
  refine ⟨F2, t, fun i hi => ?_, hK.trans k (fun i hi => hG i hi)⟩
  rcases g i hi with q | q
  · exact hG i q
  · exact Or.inr (by omega)
def ldW (s : Dsk) (at_ room : Nat) : List Nat × Nat × Nat := if s.dn = true then ([], 0, 150) else ldV (rb s) at_ room
set_option maxRecDepth 100000 in
set_option maxHeartbeats 4000000 in
theorem refLoad {w : World} {p : Value} {F : Nat → Prop} {s : Dsk} (h : RD w p F s) (at_ room : Nat) (hr : at_ + 2 * (room + 1) ≤ s.bl.length) (hbl : s.bl.length ≤ 1000) (hu : s.un.length ≤ 100000) :
    Calls Tryz.prog 29 #[.agg #[p, .int .i64 (at_ : Int), .int .i64 (room : Int)]] w fun e w' => ∃ v, e = .returned (.tuple #[v, .int .i64 (((ldW s at_ room).2.1 : Nat) : Int), .int .i64 (((ldW s at_ room).2.2 : Nat) : Int)]) ∧ Bs w' v (ldW s at_ room).1 ∧ Ow w.heap.size v ∧ Below w.heap.size w w' := by
  have HD : Hid (RD w p F s) := h
  obtain ⟨b, vB, vU, cs, ds, rfl, h5, -⟩ := h
  have c4 := h5.c4
  obtain ⟨wA, hwA⟩ : ∃ wA, wA = w.alloc (.cells #[.pointer (some ⟨b, 0, none⟩), .int .i64 (at_ : Int), .int .i64 (room : Int)] 57) := ⟨_, rfl⟩
  have HB : Hid (wA.cell? ⟨w.heap.size, 0, none⟩ = some (.pointer (some ⟨b, 0, none⟩)) ∧ wA.cell? ⟨w.heap.size, 1, none⟩ = some (.int .i64 (at_ : Int)) ∧ wA.cell? ⟨w.heap.size, 2, none⟩ = some (.int .i64 (room : Int)) ∧ Below w.heap.size w wA ∧ RD wA (.pointer (some ⟨b, 0, none⟩)) F s) := by
    rw [hwA]
    exact ⟨by simp [go_sem], by simp [go_sem], by simp [go_sem], bel1 _ _, HD.out.later (bel1 _ _)⟩
  have c4A : wA.cell? ⟨b, 4, none⟩ = some (.bool s.dn) := cell_later HB.out.2.2.2.1 c4
  have x0 := HB.out.1
  have x1 := HB.out.2.1
  have x2 := HB.out.2.2.1
  clear h5 c4
  by_cases hd : s.dn = true
  · have HV : Hid (ldW s at_ room = ([], 0, 150)) := by show _ = _; unfold ldW; rw [if_pos hd]
    rw [hd] at c4A
    go_enter Tryz.func29, Tryz.ntmps29
    go_upto_region 1 with fail
    rw [← hwA]
    clear hwA
    go_wp2
    go_ret3
    rw [HV.out]
    exact ⟨.slice none 0 0, rfl, bs_nilS _, ow_nilS _, HB.out.2.2.2.1⟩
  · have hd2 : s.dn = false := by cases q : s.dn with | false => rfl | true => exact absurd q hd
    have HV : Hid (ldW s at_ room = ldV (rb s) at_ room) := by show _ = _; unfold ldW; rw [if_neg hd]
    rw [hd2] at c4A
    clear hd
    go_enter Tryz.func29, Tryz.ntmps29
    go_upto_region 1 with fail
    rw [← hwA]
    clear hwA
    go_wp2_with fail
    refine (refSlot HB.out.2.2.2.2 at_ room 0 hr hbl (by omega) hu hd2).mono ?_
    rintro e w1 ⟨v1, rfl, hB1, hO1, hb1⟩
    have H1 : Hid (Bs w1 v1 (slt (rb s) at_ room 0).1 ∧ Ow w.heap.size v1 ∧ Below w.heap.size w w1 ∧ RD w1 (.pointer (some ⟨b, 0, none⟩)) F s) := ⟨hB1, hO1.low HB.out.2.2.2.1.size, bchain HB.out.2.2.2.1 hb1, HB.out.2.2.2.2.later hb1⟩
    obtain ⟨a1, p1, rfl, -, -⟩ := hB1.len
    replace x0 := cell_later hb1 x0
    replace x1 := cell_later hb1 x1
    replace x2 := cell_later hb1 x2
    clear hB1 hO1 hb1 c4A HB
    go_wp2_with fail
    refine (refSlot H1.out.2.2.2 at_ room 1 hr hbl (by omega) hu hd2).mono ?_
    rintro e w2 ⟨v2, rfl, hB2, hO2, hb2⟩
    have H2 : Hid (Bs w2 (.slice a1 (slt (rb s) at_ room 0).1.length p1) (slt (rb s) at_ room 0).1 ∧ Ow w.heap.size (.slice a1 (slt (rb s) at_ room 0).1.length p1) ∧ Bs w2 v2 (slt (rb s) at_ room 1).1 ∧ Ow w.heap.size v2 ∧ Below w.heap.size w w2) := ⟨H1.out.1.later hb2, H1.out.2.1, hB2, hO2.low H1.out.2.2.1.size, bchain H1.out.2.2.1 hb2⟩
    obtain ⟨a2, p2, rfl, -, -⟩ := hB2.len
    clear hB2 hO2 hb2 H1 x0 x1 x2
    have HV2 : Hid (ldW s at_ room = if (slt (rb s) at_ room 0).2 = 0 ∧ (slt (rb s) at_ room 1).2 = 0 then ([], 0, 160) else if (slt (rb s) at_ room 1).2 < (slt (rb s) at_ room 0).2 then ((slt (rb s) at_ room 0).1, (slt (rb s) at_ room 0).2, 0) else ((slt (rb s) at_ room 1).1, (slt (rb s) at_ room 1).2, 0)) := HV.out
    clear HV
    generalize hX : slt (rb s) at_ room 0 = X at *
    generalize hY : slt (rb s) at_ room 1 = Y at *
    clear hX hY
    obtain ⟨xl, n⟩ := X
    obtain ⟨yl, m⟩ := Y
    dsimp only at HV2 H2 ⊢
    by_cases q1 : n = 0 ∧ m = 0
    · obtain ⟨rfl, rfl⟩ := q1
      have HV3 : Hid (ldW s at_ room = ([], 0, 160)) := by have := HV2.out; rw [if_pos ⟨rfl, rfl⟩] at this; exact this
      clear HV2
      go_wp2
      go_ret3
      rw [HV3.out]
      exact ⟨.slice none 0 0, rfl, bs_nilS _, ow_nilS _, H2.out.2.2.2.2⟩
    · by_cases q2 : m < n
      · have HV3 : Hid (ldW s at_ room = (xl, n, 0)) := by have := HV2.out; rw [if_neg q1, if_pos q2] at this; exact this
        clear HV2
        have n0 : ¬ (n : Int) = 0 := by omega
        have nB : ((n : Int) == 0) = false := by rw [beq_eq_false_iff_ne]; exact n0
        have q2I : (m : Int) < (n : Int) := by omega
        go_wp2
        go_ret3
        rw [HV3.out]
        exact ⟨_, rfl, H2.out.1, H2.out.2.1, H2.out.2.2.2.2⟩
      · have HV3 : Hid (ldW s at_ room = (yl, m, 0)) := by have := HV2.out; rw [if_neg q1, if_neg q2] at this; exact this
        clear HV2
        have m0 : ¬ (m : Int) = 0 := by omega
        have mB : ((m : Int) == 0) = false := by rw [beq_eq_false_iff_ne]; exact m0
        have q2I : ¬ (m : Int) < (n : Int) := by omega
        by_cases q3 : n = 0
        · subst q3
          go_wp2
          go_ret3
          rw [HV3.out]
          exact ⟨_, rfl, H2.out.2.2.1, H2.out.2.2.2.1, H2.out.2.2.2.2⟩
        · have n0 : ¬ (n : Int) = 0 := by omega
          have nB : ((n : Int) == 0) = false := by rw [beq_eq_false_iff_ne]; exact n0
          go_wp2
          go_ret3
          rw [HV3.out]
          exact ⟨_, rfl, H2.out.2.2.1, H2.out.2.2.2.1, H2.out.2.2.2.2⟩
end Go.Proofs.YthnpdcblfocemaaGreatDoor
set_option linter.unusedVariables false
set_option linter.unusedSimpArgs false
namespace Go.Proofs.YthnpdcblfocemaaGreatDoor

theorem deN_zero : ∀ k, deN (List.replicate k 0) = 0 := by
  intro k
  induction k with
  | zero => rfl
  | succ k ih =>
    rw [List.replicate_succ]
    show 0 + 256 * deN (List.replicate k 0) = 0
    rw [ih]
theorem gt_zero (n p k : Nat) : gt (List.replicate n 0) p k = 0 := by
  unfold gt
  rw [List.drop_replicate, List.take_replicate]
  exact deN_zero _
theorem rest_new {at_ room n : Nat} (h : at_ + 2 * (room + 1) ≤ n) (hr : room ≤ 16384) : SnRest at_ room 0 [] (dNew n) := by
  have hb : ∀ i, i < n → bk (dNew n) i = List.replicate 128 0 := fun i hi => by
    show (List.replicate n (List.replicate 128 0)).getD i [] = _
    simp [List.getD, List.getElem?_replicate, hi]
  have h0 := slA_lt (at_ := at_) (room := room) (which := 0) (i := 0) (by omega) h (by omega)
  have h1 := slA_lt (at_ := at_) (room := room) (which := 1) (i := 0) (by omega) h (by omega)
  rw [Nat.add_zero] at h0 h1
  refine ⟨okD_new n, rfl, rfl, by show _ ≤ (List.replicate n _).length; rw [List.length_replicate]; exact h, hr, ⟨fun q => by omega, fun _ => ?_, ⟨0, 0, Or.inr ⟨rfl, by omega⟩, ?_⟩, ?_⟩⟩
  · rw [hb _ h0, gt_zero]
  · show gt (bk (dNew n) (slA at_ room 1)) 120 8 = _
    rw [hb _ h1, gt_zero, mix_zero]
  · show gt (bk (dNew n) (slA at_ room 1)) 120 8 ≠ _
    rw [hb _ h1, gt_zero]
    omega
structure Calm (s : Dsk) : Prop where
  ar : s.ar = false
  dn : s.dn = false
theorem calm_gone {s : Dsk} (h : Calm s) : Calm (dGone s) := by
  unfold dGone
  rw [if_neg (by rw [h.ar]; simp)]
  exact h
theorem calm_wr {s : Dsk} (h : Calm s) (i : Int) (b : List Nat) : Calm (wrS s i b) := by
  unfold wrS
  split
  · exact h
  · exact calm_gone ⟨h.ar, h.dn⟩
theorem calm_go {s : Dsk} (h : Calm s) : dGo s = true := by
  unfold dGo
  rw [h.ar]
  rfl
theorem calm_wrE {s : Dsk} (h : Calm s) (i : Int) (b : List Nat) : wrE s i b ≠ 150 := by
  unfold wrE dAsk
  rw [calm_go h, if_neg (show ¬ s.dn = true by rw [h.dn]; simp)]
  have e : (if true = true then (0 : Nat) else 150) = 0 := rfl
  rw [e]
  repeat' split
  all_goals omega
theorem calm_fl {s : Dsk} (h : Calm s) : Calm (flS s) := by
  have hg := calm_gone h
  unfold flS
  rw [if_neg (by rw [h.dn]; simp), if_pos (calm_go h)]
  exact ⟨hg.ar, hg.dn⟩
theorem calm_flE {s : Dsk} (h : Calm s) : flE s = 0 := by
  unfold flE
  rw [if_neg (by rw [h.dn]; simp), if_pos (calm_go h)]
theorem calm_svW (a : Nat) (d : List Nat) : ∀ (k i : Nat) (s : Dsk), Calm s → Calm (svW a d k i s).2 ∧ (svW a d k i s).1 ≠ 150 := by
  intro k
  induction k with
  | zero => intro i s h; exact ⟨h, by show (0 : Nat) ≠ 150; omega⟩
  | succ k ih =>
    intro i s h
    have h2 := calm_wr h ((a + 1 + i : Nat) : Int) (ck d i)
    have h3 := calm_wrE h ((a + 1 + i : Nat) : Int) (ck d i)
    have e : svW a d (k + 1) i s = if wrE s ((a + 1 + i : Nat) : Int) (ck d i) ≠ 0 then (wrE s ((a + 1 + i : Nat) : Int) (ck d i), wrS s ((a + 1 + i : Nat) : Int) (ck d i)) else svW a d k (i + 1) (wrS s ((a + 1 + i : Nat) : Int) (ck d i)) := rfl
    rw [e]
    split
    · exact ⟨h2, h3⟩
    · exact ih _ _ h2
theorem calm_svR {s : Dsk} (at_ room : Nat) (d : List Nat) (h : Calm s) : Calm (svR s at_ room d).2.2 ∧ (svR s at_ room d).2.1 ≠ 150 := by
  unfold svR
  split
  · exact ⟨h, by show (161 : Nat) ≠ 150; omega⟩
  · rw [if_neg (by rw [h.dn]; simp)]
    unfold svN
    split
    · exact ⟨h, by show (3 : Nat) ≠ 150; omega⟩
    · generalize hw : svW _ d _ 0 s = w
      have h1 : Calm w.2 ∧ w.1 ≠ 150 := by rw [← hw]; exact calm_svW _ _ _ _ _ h
      unfold svF
      split
      · exact h1
      · rw [if_neg (by rw [calm_flE h1.1]; omega)]
        have h2 := calm_fl h1.1
        unfold svH
        split
        · exact ⟨calm_wr h2 _ _, calm_wrE h2 _ _⟩
        · rw [if_neg (by rw [calm_flE (calm_wr h2 _ _)]; omega)]
          exact ⟨calm_fl (calm_wr h2 _ _), by show (0 : Nat) ≠ 150; omega⟩
end Go.Proofs.YthnpdcblfocemaaGreatDoor
set_option linter.unusedVariables false
set_option linter.unusedSimpArgs false
namespace Go.Proofs.YthnpdcblfocemaaGreatDoor

def prt (n : Nat) : Nat := max 1 ((n + 103) / 104)
theorem prt_pos (n : Nat) : 1 ≤ prt n := Nat.le_max_left _ _
theorem prt_room (n : Nat) : n ≤ prt n * 104 := by unfold prt; omega
theorem prt_le (n : Nat) : prt n ≤ n + 1 := by unfold prt; omega
def jcd (r : List Nat) (i : Nat) : List Nat := (r.drop (i * 104)).take 104
def jck (r : List Nat) (i : Nat) : List Nat := jcd r i ++ List.replicate (104 - (jcd r i).length) 0
def jtl (len parts i n gen : Nat) : List Nat := enN len 4 ++ (enN parts 2 ++ (enN i 2 ++ (enN n 8 ++ enN gen 8)))
def jblk (r : List Nat) (i n gen : Nat) : List Nat := jck r i ++ jtl r.length (prt r.length) i n gen
theorem jcd_len (r : List Nat) (i : Nat) : (jcd r i).length ≤ 104 := by unfold jcd; rw [List.length_take]; omega
theorem jck_len (r : List Nat) (i : Nat) : (jck r i).length = 104 := by
  have := jcd_len r i
  unfold jck
  rw [List.length_append, List.length_replicate]
  omega
theorem jtl_len (a b c d e : Nat) : (jtl a b c d e).length = 24 := by simp [jtl, enN_len]
theorem jblk_len (r : List Nat) (i n gen : Nat) : (jblk r i n gen).length = 128 := by unfold jblk; rw [List.length_append, jck_len, jtl_len]
theorem jtl_byte (a b c d e : Nat) : ∀ x ∈ jtl a b c d e, x < 256 := by
  intro x hx
  simp only [jtl, List.mem_append] at hx
  rcases hx with q | q | q | q | q <;> exact enN_byte _ _ x q
theorem jblk_ok {r : List Nat} (hr : ∀ c ∈ r, c < 256) (i n gen : Nat) : okb (jblk r i n gen) := by
  refine ⟨jblk_len r i n gen, fun c hc => ?_⟩
  unfold jblk jck at hc
  rcases List.mem_append.1 hc with q | q
  · rcases List.mem_append.1 q with q | q
    · unfold jcd at q
      exact hr c (List.mem_of_mem_drop (List.mem_of_mem_take q))
    · rw [(List.mem_replicate.1 q).2]; omega
  · exact jtl_byte _ _ _ _ _ c q
theorem full_blk (r : List Nat) (i n gen : Nat) : full (jblk r i n gen) = jblk r i n gen := by
  unfold full
  rw [jblk_len, Nat.sub_self, List.replicate_zero, List.append_nil]
theorem jblk_drop (r : List Nat) (i n gen : Nat) : (jblk r i n gen).drop 104 = jtl r.length (prt r.length) i n gen := by
  unfold jblk
  rw [List.drop_append_of_le_length (by rw [jck_len]; omega), List.drop_of_length_le (by rw [jck_len]; omega), List.nil_append]
theorem jblk_take (r : List Nat) (i n gen : Nat) : (jblk r i n gen).take 104 = jck r i := by
  unfold jblk
  rw [List.take_append_of_le_length (by rw [jck_len]; omega), List.take_of_length_le (by rw [jck_len]; omega)]
theorem jtl_gen {a b c d e : Nat} (he : e < 256 ^ 8) : deN (((jtl a b c d e).drop 16).take 8) = e := by
  have h1 : (jtl a b c d e).drop 16 = enN e 8 := by
    unfold jtl
    rw [← List.append_assoc, ← List.append_assoc, ← List.append_assoc, List.drop_append_of_le_length (by simp [enN_len]), List.drop_of_length_le (by simp [enN_len]), List.nil_append]
  rw [h1, List.take_of_length_le (by rw [enN_len]; omega), de_en 8 _ he]
theorem gen_of {x : List Nat} {a b c d e : Nat} (h : x.drop 104 = jtl a b c d e) (he : e < 256 ^ 8) : gt x 120 8 = e := by
  unfold gt
  have e1 : x.drop 120 = (x.drop 104).drop 16 := by rw [List.drop_drop]
  rw [e1, h]
  exact jtl_gen he
theorem len_of {x : List Nat} {a b c d e : Nat} (h : x.drop 104 = jtl a b c d e) (ha : a < 256 ^ 4) : gt x 104 4 = a := by
  unfold gt
  rw [h]
  unfold jtl
  rw [List.take_append_of_le_length (by rw [enN_len]; omega), List.take_of_length_le (by rw [enN_len]; omega), de_en 4 _ ha]
def jall (B : Nat → List Nat) (p bytes : Nat) : List Nat := ((List.range (prt bytes)).flatMap fun i => (B (p + i)).take 104).take bytes
def jrec (B : Nat → List Nat) (base size at_ n gen : Nat) : Option (List Nat) :=
  if size ≤ at_ then none else
  if 262144 < gt (B (base + at_)) 104 4 ∨ size - at_ < prt (gt (B (base + at_)) 104 4) then none else
  if ∀ i, i < prt (gt (B (base + at_)) 104 4) → (B (base + at_ + i)).drop 104 = jtl (gt (B (base + at_)) 104 4) (prt (gt (B (base + at_)) 104 4)) i n gen then some (jall B (base + at_) (gt (B (base + at_)) 104 4)) else none
def jrds (B : Nat → List Nat) (base size gen : Nat) : Nat → Nat → Nat → List (List Nat)
  | 0, _, _ => []
  | f + 1, at_, n => match jrec B base size at_ n gen with
    | none => []
    | some r => r :: jrds B base size gen f (at_ + prt r.length) (n + 1)
def jread (B : Nat → List Nat) (base size gen : Nat) : List (List Nat) := jrds B base size gen size 0 1
theorem jrds_none {B : Nat → List Nat} {base size gen at_ n : Nat} (h : jrec B base size at_ n gen = none) (f : Nat) : jrds B base size gen f at_ n = [] := by
  cases f with
  | zero => rfl
  | succ f => show (match jrec B base size at_ n gen with | none => [] | some r => _) = _; rw [h]
theorem jrds_some {B : Nat → List Nat} {base size gen at_ n : Nat} {r : List Nat} (h : jrec B base size at_ n gen = some r) (f : Nat) : jrds B base size gen (f + 1) at_ n = r :: jrds B base size gen f (at_ + prt r.length) (n + 1) := by
  show (match jrec B base size at_ n gen with | none => [] | some r => _) = _; rw [h]
def Stands (B : Nat → List Nat) (p n gen : Nat) (r : List Nat) : Prop := ∀ i, i < prt r.length → B (p + i) = jblk r i n gen
theorem flat_parts (r : List Nat) : ∀ k, k * 104 ≤ r.length + 104 → ((List.range k).flatMap fun i => jck r i).take r.length = r.take (k * 104) := by
  have key : ∀ k, (k - 1) * 104 ≤ r.length → (List.range k).flatMap (fun i => jck r i) = r.take (k * 104) ++ List.replicate (k * 104 - r.length) 0 := by
    intro k
    induction k with
    | zero => intro _; simp
    | succ k ih =>
      intro hk
      rw [List.range_succ, List.flatMap_append, ih (by omega)]
      have e1 : k * 104 - r.length = 0 := by omega
      rw [e1, List.replicate_zero, List.append_nil]
      have e2 : List.flatMap (fun i => jck r i) [k] = jck r k := by simp
      rw [e2]
      unfold jck jcd
      have e3 : (k + 1) * 104 = k * 104 + 104 := by omega
      rw [← List.append_assoc, e3, List.take_add]
      congr 2
      rw [List.length_take, List.length_drop]
      omega
  intro k hk
  rw [key k (by omega)]
  by_cases q : k * 104 ≤ r.length
  · rw [show k * 104 - r.length = 0 by omega, List.replicate_zero, List.append_nil, List.take_take, Nat.min_eq_right q]
  · rw [List.take_of_length_le (l := r) (by omega), List.take_append_of_le_length (by omega), List.take_of_length_le (by omega)]
theorem flat_congr {f g : Nat → List Nat} : ∀ l : List Nat, (∀ i ∈ l, f i = g i) → l.flatMap f = l.flatMap g := by
  intro l
  induction l with
  | nil => intro _; rfl
  | cons a l ih => intro h; rw [List.flatMap_cons, List.flatMap_cons, h a (by simp), ih (fun i hi => h i (by simp [hi]))]
theorem jall_stands {B : Nat → List Nat} {p n gen : Nat} {r : List Nat} (h : Stands B p n gen r) : jall B p r.length = r := by
  unfold jall
  have e : (List.range (prt r.length)).flatMap (fun i => (B (p + i)).take 104) = (List.range (prt r.length)).flatMap (fun i => jck r i) := by
    refine flat_congr _ fun i hi => ?_
    rw [h i (List.mem_range.1 hi), jblk_take]
  rw [e, flat_parts r _ (by unfold prt; omega), List.take_of_length_le (prt_room _)]
theorem jrec_stands {B : Nat → List Nat} {base size at_ n gen : Nat} {r : List Nat} (h : Stands B (base + at_) n gen r) (hs : at_ + prt r.length ≤ size) (hl : r.length ≤ 262144) : jrec B base size at_ n gen = some r := by
  have hp := prt_pos r.length
  have h0 := h 0 (by omega)
  rw [Nat.add_zero] at h0
  have hb : gt (B (base + at_)) 104 4 = r.length := len_of (by rw [h0]; exact jblk_drop _ _ _ _) (by have : (256 : Nat) ^ 4 = 4294967296 := by decide
                                                                                                     omega)
  unfold jrec
  rw [if_neg (by omega), hb, if_neg (by omega), if_pos (fun i hi => by rw [h i hi]; exact jblk_drop _ _ _ _), jall_stands h]
theorem jrec_gen {B : Nat → List Nat} {base size at_ n gen : Nat} {r : List Nat} (hg : gen < 256 ^ 8) (h : jrec B base size at_ n gen = some r) : at_ < size ∧ ∀ i, i < prt (gt (B (base + at_)) 104 4) → gt (B (base + at_ + i)) 120 8 = gen := by
  unfold jrec at h
  split at h
  · cases h
  · split at h
    · cases h
    · split at h
      · rename_i h1 h2 h3
        exact ⟨by omega, fun i hi => gen_of (h3 i hi) hg⟩
      · cases h
theorem jrec_other {B : Nat → List Nat} {base size at_ n gen : Nat} (hg : gen < 256 ^ 8) (h : at_ < size → gt (B (base + at_)) 120 8 ≠ gen) : jrec B base size at_ n gen = none := by
  cases e : jrec B base size at_ n gen with
  | none => rfl
  | some r =>
    obtain ⟨h1, h2⟩ := jrec_gen hg e
    have h3 := h2 0 (by have := prt_pos (gt (B (base + at_)) 104 4); omega)
    rw [Nat.add_zero] at h3
    exact absurd h3 (h h1)
inductive Row (B : Nat → List Nat) (base gen : Nat) : List (List Nat) → Nat → Nat → Nat → Prop
  | nil (at_ n : Nat) : Row B base gen [] at_ at_ n
  | cons {r : List Nat} {rs : List (List Nat)} {at_ e n : Nat} : Stands B (base + at_) n gen r → r.length ≤ 262144 → Row B base gen rs (at_ + prt r.length) e (n + 1) → Row B base gen (r :: rs) at_ e n
theorem Row.le {B : Nat → List Nat} {base gen : Nat} {rs : List (List Nat)} {a e n : Nat} (h : Row B base gen rs a e n) : a + rs.length ≤ e := by
  induction h with
  | nil => simp
  | cons h1 h2 h3 ih => rename_i r rs a e n; have := prt_pos r.length; simp; omega
theorem Row.app {B : Nat → List Nat} {base gen : Nat} {rs : List (List Nat)} {a e n : Nat} (h : Row B base gen rs a e n) {r : List Nat} (h1 : Stands B (base + e) (n + rs.length) gen r) (h2 : r.length ≤ 262144) : Row B base gen (rs ++ [r]) a (e + prt r.length) n := by
  induction h with
  | nil a n => exact .cons (by simpa using h1) h2 (.nil _ _)
  | cons g1 g2 g3 ih => exact .cons g1 g2 (ih (by rw [show ∀ (x : Nat) (l : List (List Nat)) (y : List Nat), x + 1 + l.length = x + (y :: l).length from fun x l y => by simp; omega]; exact h1))
theorem Row.same {B B' : Nat → List Nat} {base gen : Nat} {rs : List (List Nat)} {a e n : Nat} (h : Row B base gen rs a e n) (k : ∀ i, a ≤ i → i < e → B' (base + i) = B (base + i)) : Row B' base gen rs a e n := by
  induction h with
  | nil a n => exact .nil a n
  | cons g1 g2 g3 ih =>
    rename_i r rs a e n
    have hl := g3.le
    refine .cons (fun i hi => ?_) g2 (ih (fun i hi hi2 => k i (by omega) hi2))
    have := k (a + i) (by omega) (by omega)
    rw [← Nat.add_assoc] at this
    rw [this]
    exact g1 i hi
theorem jrds_row {B : Nat → List Nat} {base size gen : Nat} {rs : List (List Nat)} {a e n : Nat} (h : Row B base gen rs a e n) (he : e ≤ size) : ∀ f, rs.length ≤ f → jrds B base size gen f a n = rs ++ jrds B base size gen (f - rs.length) e (n + rs.length) := by
  induction h with
  | nil a n => intro f _; simp
  | cons g1 g2 g3 ih =>
    rename_i r rs a e n
    intro f hf
    have hl := g3.le
    cases f with
    | zero => simp at hf
    | succ f =>
      rw [jrds_some (jrec_stands g1 (by omega) g2) f, ih he f (by simpa using hf)]
      simp only [List.cons_append, List.length_cons]
      rw [show f + 1 - (rs.length + 1) = f - rs.length by omega, show n + 1 + rs.length = n + (rs.length + 1) by omega]
theorem jread_row {B : Nat → List Nat} {base size gen : Nat} {rs : List (List Nat)} {e : Nat} (h : Row B base gen rs 0 e 1) (he : e ≤ size) (hn : jrec B base size e (1 + rs.length) gen = none) : jread B base size gen = rs := by
  unfold jread
  have hl := h.le
  rw [jrds_row h he size (by omega), jrds_none hn, List.append_nil]
end Go.Proofs.YthnpdcblfocemaaGreatDoor
