/-
The document's slots (regattaref16).
The document's disk (regattaref15): Flush.
The document's Load and Save of a snap (regattaref16).
Layer 16's plain snap: a new disk, and Saves on a disk that isn't armed.
-/
import Derived.Test.YtkbpcmjdfaokhaaDoorZ09
import Derived.Test.YtkbpcmjdfaokhaaDoorZ10
import Derived.Test.YtkbpcmjdfaokhaaDoorZ13
import Derived.Test.YtkbpcmjdfaokhaaDoorZ12

set_option linter.unusedVariables false
set_option linter.unusedSimpArgs false
namespace Go.Proofs.YtkbpcmjdfaokhaaDoor
open Go.RowKit

theorem okD_rb {s : Dsk} (h : OkD s) (hd : s.dn = false) (i : Nat) (hi : i < s.bl.length) : dAsk s (i : Int) = 0 ∧ okb (rb s i) := by
  have ha : dAsk s (i : Int) = 0 := by unfold dAsk; rw [hd, if_neg (by simp), if_neg (by omega)]
  refine ⟨ha, ?_⟩
  unfold rb rdB
  rw [if_neg (by omega)]
  have e : ((i : Int)).toNat = i := rfl
  rw [e]
  have key : ∀ (un : List (Nat × List Nat)) (d : List Nat), okb d → (∀ u ∈ un, okb u.2) → okb (lastU un i d) := by
    intro un
    induction un with
    | nil => intro d h _; exact h
    | cons u un ih =>
      intro d h1 h2
      unfold lastU
      rw [List.foldl_cons]
      refine ih _ ?_ (fun x hx => h2 x (by simp [hx]))
      split
      · exact h2 u (by simp)
      · exact h1
  exact key _ _ (getD_ok h.bl hi) (fun u hu => (h.un u hu).2)
/-- A part of a text at places that are known. -/
theorem bs_cut {w : World} {b o n cap : Nat} {l : List Nat} (h : Bs w (.slice (some ⟨b, o, none⟩) n cap) l) (p q : Nat) (h1 : p ≤ q) (h2 : q ≤ l.length) : Bs w (.slice (some ⟨b, o + p, none⟩) (q - p) (cap - p)) ((l.drop p).take (q - p)) := by
  obtain ⟨adr, c, b', o', e, h3, h4, h5, h6⟩ := h
  injection e with e1 e2 e3
  subst e1 e3
  have hl : ((l.drop p).take (q - p)).length = q - p := by rw [List.length_take, List.length_drop]; omega
  refine ⟨_, cap - p, b, o + p, by rw [hl], by omega, ⟨by omega, fun e => by cases e⟩, fun _ => rfl, fun k hk => ?_⟩
  rw [hl] at hk
  have e5 := h5 (by omega)
  cases e5
  have := h6 (p + k) (by omega)
  rw [Nat.add_assoc, this]
  unfold b8f
  congr 3
  simp [List.getD, List.getElem?_take, List.getElem?_drop, hk]
theorem bs_takeS {w : World} {ad : Option Addr} {n cap : Nat} {l : List Nat} (h : Bs w (.slice ad n cap) l) (q : Nat) (hq : q ≤ l.length) : Bs w (.slice ad q cap) (l.take q) := by
  obtain ⟨adr, c, b, o, e, h3, h4, h5, h6⟩ := h
  injection e with e1 e2 e3
  subst e1 e3
  have hl : (l.take q).length = q := by rw [List.length_take]; omega
  refine ⟨_, cap, b, o, by rw [hl], by omega, h4, fun hp => h5 (by omega), fun k hk => ?_⟩
  rw [hl] at hk
  rw [h6 k (by omega)]
  unfold b8f
  congr 3
  simp [List.getD, List.getElem?_take, hk]
theorem bs_nilS (w : World) : Bs w (.slice none 0 0) [] := (ob_nil w.heap.size w).bs.1
theorem ow_nilS (B : Nat) : Ow B (.slice none 0 0) := fun a n cap e hn => by cases e
theorem sl_hS (w : World) (ad : Option Addr) (n cap q : Nat) (h2 : q ≤ cap) :
    (Instr.slice 40 (.slice ad n cap) none (some (.int .u64 (q : Int))) none).run Tryd.prog w = .ok (sv ad 0 q cap) w := by
  have ht : Tryd.prog.underlying 40 = some (.slice (Tryd.prog.elem 40)) := by kernel_rfl
  have hs : (sizeOf (Tryd.prog.elem 40)).run Tryd.prog w = .ok 1 w := by
    obtain ⟨i0, hti, hi0, hi1, hi2⟩ := byteInfo
    have e : Tryd.prog.elem 40 = 5 := by kernel_rfl
    rw [e]
    simp [sizeOf, typeInfo, hti, hi1]
  rw [run_slice_h w 40 ad n cap ht .u64 (q : Int) (by omega) (by omega), hs]
  simp [Result.andThen, sliced, sv]
theorem sv_owS {B : Nat} {ad : Option Addr} {n cap : Nat} (p q : Nat) (hq : q ≤ n) (h : Ow B (.slice ad n cap)) : Ow B (sv ad p q cap) := by
  intro a m c e hm
  unfold sv at e
  cases ad with
  | none => split at e <;> cases e
  | some d =>
    have hd := h d n cap rfl
    split at e
    · injection e with e1 e2 e3
      injection e1 with e1
      subst e1
      exact hd (by omega)
    · injection e with e1 e2 e3
      injection e1 with e1
      have hb : a.block = d.block := by
        rw [← e1]
        show (d.add p).block = d.block
        unfold Addr.add
        split <;> rfl
      rw [hb]
      exact hd (by omega)
theorem sdat_len {g : Nat → List Nat} {a j : Nat} (h : ∀ i, i < j → (g (a + 1 + i)).length = 128) : ((List.range j).flatMap fun i => g (a + 1 + i)).length = j * 128 := by
  induction j with
  | zero => rfl
  | succ j ih =>
    rw [List.range_succ, List.flatMap_append, List.length_append, ih (fun i hi => h i (by omega))]
    simp [h j (by omega)]
    omega
end Go.Proofs.YtkbpcmjdfaokhaaDoor
set_option linter.unusedVariables false
set_option linter.unusedSimpArgs false
namespace Go.Proofs.YtkbpcmjdfaokhaaDoor
open Go.RowKit

theorem lay_more {un : List (Nat × List Nat)} {j : Nat} (hj : j < un.length) (bl : List (List Nat)) : lay (un.take (j + 1)) bl = (lay (un.take j) bl).set (un.getD j (0, [])).1 (un.getD j (0, [])).2 := by
  rw [take_more hj]
  unfold lay
  rw [List.foldl_append]
  rfl
theorem lay_zero (un : List (Nat × List Nat)) (bl : List (List Nat)) : lay (un.take 0) bl = bl := rfl
set_option maxRecDepth 100000 in
set_option maxHeartbeats 8000000 in
theorem refFlush {w : World} {p : Value} {F : Nat → Prop} {s : Dsk} (h : RD w p F s) (hu : s.un.length ≤ 100000) :
    Calls Tryd.prog 32 #[p] w fun e w' => e = .returned (.int .i64 ((flE s : Nat) : Int)) ∧ Ad RD p F (flS s) w w' := by
  obtain ⟨b, vB, vU, cs, ds, rfl, h, hd⟩ := h
  have HR : Hid (Rd5 w b vB vU cs ds F s ∧ Bdk s) := ⟨h, hd⟩
  obtain ⟨aB, pB, rfl⟩ := h.sB
  obtain ⟨aU, pU, rfl⟩ := h.sU
  have HE : Hid (flE s = if s.dn = true then 150 else if dGo s = true then 0 else 150) := rfl
  have HST : Hid (flS s = if s.dn = true then s else if dGo s = true then { dGone s with bl := lay s.un s.bl, un := [] } else dGone s) := rfl
  have c4 := h.c4
  obtain ⟨m, hm⟩ : ∃ m, s.un.length = m := ⟨_, rfl⟩
  obtain ⟨n, hn⟩ : ∃ n, s.bl.length = n := ⟨_, rfl⟩
  have HM : Hid (s.un.length = m ∧ m ≤ 100000 ∧ s.bl.length = n) := ⟨hm, by omega, hn⟩
  rw [hm, hn] at HR
  clear h hd hm hn hu
  go_enter Tryd.func32, Tryd.ntmps32
  cases hdn : s.dn with
  | true =>
    rw [hdn] at c4
    rw [if_pos hdn] at HE HST
    clear hdn
    go_wp2
    go_ret
    exact ⟨by rw [HE.out]; rfl, F, by rw [HST.out]; exact ⟨b, _, _, cs, ds, rfl, HR.out⟩, fun k hk => Or.inl hk, Kp.refl _ _⟩
  | false =>
    rw [hdn] at c4
    rw [if_neg (by simp [hdn])] at HE HST
    clear hdn
    go_wp2_with fail
    refine (refGoes HR.out.1 HR.out.2).mono ?_
    rintro e w1 ⟨rfl, hR1, hK1⟩
    have HR1 : Hid (Rd5 w1 b (.slice aB n pB) (.slice aU m pU) cs ds F (dGone s) ∧ Kp F w w1 ∧ Bdk (dGone s)) := ⟨hR1, hK1.mono (fun k hk => by rw [hk]; exact HR.out.1.fb), bdk_gone HR.out.2⟩
    clear hR1 hK1 c4
    cases hgo : dGo s with
    | false =>
      rw [if_neg (by simp [hgo])] at HE HST
      clear hgo
      go_wp2
      go_ret
      exact ⟨by rw [HE.out]; rfl, F, by rw [HST.out]; exact ⟨b, _, _, cs, ds, rfl, HR1.out.1, HR1.out.2.2⟩, fun k hk => Or.inl hk, HR1.out.2.1⟩
    | true =>
      rw [if_pos hgo] at HE HST
      clear hgo
      obtain ⟨hg1, hg2⟩ := dGone_bl s
      have HG : Hid ((dGone s).bl = s.bl ∧ (dGone s).un = s.un) := ⟨hg1, hg2⟩
      clear hg1 hg2
      go_upto_region 6 with fail
      go_loopw [3] (fun s3 wr => ∃ j : Nat, j ≤ m ∧ s3 = .int .i64 (j : Int) ∧ Hid (∃ cj : List Value, Rd5 wr b (.slice aB n pB) (.slice aU m pU) cj ds F { dGone s with bl := lay (s.un.take j) s.bl } ∧ Kp F w wr)) (fun s3 _ => m - (intOf s3).toNat)
      case atStart => exact ⟨0, by omega, rfl, cs, by have h := HR1.out.1; rw [lay_zero, ← HG.out.1]; exact h, HR1.out.2.1⟩
      case round =>
        obtain ⟨j, hj, rfl, HW⟩ := hrel
        clear HR1
        obtain ⟨cj, hRj, hKj⟩ := HW.out
        have d0 := hRj.c0
        have d1 := hRj.c1
        by_cases hlt : j < m
        · have hjI : (j : Int) < (m : Int) := by omega
          have hj0 : (0 : Int) ≤ (j : Int) := by omega
          have hjw : IntKind.i64.wrap ((j : Int) + 1) = ((j + 1 : Nat) : Int) := by have := HM.out; rw [IntKind.wrap_i64]; omega
          have hjm : j < s.un.length := by have := HM.out; omega
          obtain ⟨gU, x, eU, ca, cx, tx, gUb, gUB⟩ := hRj.atU j (by show j < (dGone s).un.length; rw [HG.out.2]; exact hjm)
          have hun : (({ dGone s with bl := lay (s.un.take j) s.bl } : Dsk).un.getD j (0, [])) = s.un.getD j (0, []) := by show (dGone s).un.getD j (0, []) = _; rw [HG.out.2]
          rw [hun] at ca tx
          clear hun
          obtain ⟨at_, hat⟩ : ∃ a, (s.un.getD j (0, [])).1 = a := ⟨_, rfl⟩
          obtain ⟨T, hTT⟩ : ∃ T, (s.un.getD j (0, [])).2 = T := ⟨_, rfl⟩
          have HLm := hid5 (lay_more hjm s.bl)
          have hokU := HR.out.1.ok.un (s.un.getD j (0, [])) (by
            have e : s.un.getD j (0, []) = s.un[j] := by simp [List.getD, hjm]
            rw [e]; exact List.getElem_mem hjm)
          rw [hat] at ca HLm hokU
          rw [hTT] at tx HLm hokU
          have hatn : at_ < n := by have := HM.out.2.2; omega
          have hatI : (at_ : Int) < (n : Int) := by omega
          have hat0 : (0 : Int) ≤ (at_ : Int) := by omega
          have hlen : (lay (s.un.take j) s.bl).length = n := by rw [lay_len]; exact HM.out.2.2
          obtain ⟨gB, xo, eB, co, fo, -, gBb, gBU⟩ := hRj.atB at_ (by show at_ < (lay _ _).length; omega)
          subst eU eB
          have HP := hid5 (hRj.put at_ x T (by show at_ < (lay _ _).length; omega) hokU.2 tx)
          obtain ⟨ax, px, ex, -, -⟩ := tx.1.len
          subst ex
          have HGG : Hid (gB ≠ b ∧ gB ≠ gU ∧ F gB) := ⟨gBb, fun e => gBU (by rw [e]; rfl), (hRj.gB gB rfl).1⟩
          have HKj : Hid (Kp F w wr) := hKj
          generalize T.length = L at *
          clear hRj hKj HW hat hTT hokU hlen tx hjm gUb gUB gBb gBU
          go_upto_region 8 with fail
          have hbD : Below wr.heap.size wr wr.drew := (Below.refl _ _).drew
          refine wp_region_held_drew (S := fun W => W.cell? ⟨b, 0, none⟩ = some (.slice (some ⟨gB, 0, none⟩) n pB) ∧ W.cell? ⟨b, 1, none⟩ = some (.slice (some ⟨gU, 0, none⟩) m pU) ∧ W.cell? ⟨gU, j * 2, none⟩ = some (.int .i64 (at_ : Int)) ∧ W.cell? ⟨gU, j * 2 + 1, none⟩ = some (.slice ax L px)) (by kernel_rfl) ⟨cell_later hbD d0, cell_later hbD d1, cell_later hbD ca, cell_later hbD cx⟩ (fun HS => ?_)
          have co2 : wr.drew.cell? ⟨gB, at_, none⟩ = some xo := cell_later hbD co
          have fo2 : wr.drew.frozen? ⟨gB, at_, none⟩ = false := fo
          have HP2 : Hid (Rd5 (wr.drew.setCell ⟨gB, at_, none⟩ (.slice ax L px)) b (.slice (some ⟨gB, 0, none⟩) n pB) (.slice (some ⟨gU, 0, none⟩) m pU) (cj.set at_ (.slice ax L px)) ds F { dGone s with bl := (lay (s.un.take j) s.bl).set at_ T }) := HP.out.kept (fun k _ => rfl) (Nat.le_refl _)
          have HK2 : Hid (Kp F w (wr.drew.setCell ⟨gB, at_, none⟩ (.slice ax L px))) := (HKj.out.drew).set (p := ⟨gB, at_, none⟩) (Or.inl HGG.out.2.2) _
          clear hbD d0 d1 ca cx co fo HP HKj
          generalize wr.drew = q0 at *
          refine wpAnyH_take (i := 0) (v := ?v1) rfl (by kernel_rfl) (by kernel_rfl) (by kernel_rfl) (fun _ _ _ h => h) (Or.inl ⟨by kernel_rfl, ?h1⟩) HS ?r1
          case h1 => (rintro w ⟨n0, n1, n2, n3⟩; go_simp) <;> with_reducible rfl
          try simp only [Act.put, List.getElem_toArray, List.getElem_cons_succ, List.getElem_cons_zero, List.setIfInBounds_toArray, List.set_cons_zero, List.set_cons_succ]
          refine wpAnyH_take (i := 1) (v := ?v2) rfl (by kernel_rfl) (by kernel_rfl) (by kernel_rfl) (fun _ _ _ h => h) (Or.inl ⟨by kernel_rfl, ?h2⟩) HS ?r2
          case h2 => (rintro w ⟨n0, n1, n2, n3⟩; go_simp) <;> with_reducible rfl
          try simp only [Act.put, List.getElem_toArray, List.getElem_cons_succ, List.getElem_cons_zero, List.setIfInBounds_toArray, List.set_cons_zero, List.set_cons_succ]
          refine wpAnyH_take (i := 2) (v := ?v3) rfl (by kernel_rfl) (by kernel_rfl) (by kernel_rfl) (fun _ _ _ h => h) (Or.inl ⟨by kernel_rfl, ?h3⟩) HS ?r3
          case h3 => (rintro w ⟨n0, n1, n2, n3⟩; go_simp) <;> with_reducible rfl
          try simp only [Act.put, List.getElem_toArray, List.getElem_cons_succ, List.getElem_cons_zero, List.setIfInBounds_toArray, List.set_cons_zero, List.set_cons_succ]
          refine wpAnyH_take (i := 3) (v := ?v4) rfl (by kernel_rfl) (by kernel_rfl) (by kernel_rfl) (fun _ _ _ h => h) (Or.inl ⟨by kernel_rfl, ?h4⟩) HS ?r4
          case h4 => (rintro w ⟨n0, n1, n2, n3⟩; go_simp) <;> with_reducible rfl
          try simp only [Act.put, List.getElem_toArray, List.getElem_cons_succ, List.getElem_cons_zero, List.setIfInBounds_toArray, List.set_cons_zero, List.set_cons_succ]
          refine wpAnyH_take (i := 4) (v := ?v5) rfl (by kernel_rfl) (by kernel_rfl) (by kernel_rfl) (fun _ _ _ h => h) (Or.inl ⟨by kernel_rfl, ?h5⟩) HS ?r5
          case h5 => (rintro w ⟨n0, n1, n2, n3⟩; go_simp) <;> with_reducible rfl
          try simp only [Act.put, List.getElem_toArray, List.getElem_cons_succ, List.getElem_cons_zero, List.setIfInBounds_toArray, List.set_cons_zero, List.set_cons_succ]
          refine wpAnyH_take (i := 5) (v := ?v6) rfl (by kernel_rfl) (by kernel_rfl) (by kernel_rfl) (fun _ _ _ h => h) (Or.inl ⟨by kernel_rfl, ?h6⟩) HS ?r6
          case h6 => (rintro w ⟨n0, n1, n2, n3⟩; go_simp) <;> with_reducible rfl
          try simp only [Act.put, List.getElem_toArray, List.getElem_cons_succ, List.getElem_cons_zero, List.setIfInBounds_toArray, List.set_cons_zero, List.set_cons_succ]
          refine wpAnyH_take (i := 6) (v := ?v7) rfl (by kernel_rfl) (by kernel_rfl) (by kernel_rfl) (fun _ _ _ h => h) (Or.inl ⟨by kernel_rfl, ?h7⟩) HS ?r7
          case h7 => (rintro w ⟨n0, n1, n2, n3⟩; go_simp) <;> with_reducible rfl
          try simp only [Act.put, List.getElem_toArray, List.getElem_cons_succ, List.getElem_cons_zero, List.setIfInBounds_toArray, List.set_cons_zero, List.set_cons_succ]
          refine wpAnyH_take (i := 7) (v := ?v8) rfl (by kernel_rfl) (by kernel_rfl) (by kernel_rfl) (fun _ _ _ h => h) (Or.inl ⟨by kernel_rfl, ?h8⟩) HS ?r8
          case h8 => (rintro w ⟨n0, n1, n2, n3⟩; go_simp) <;> with_reducible rfl
          try simp only [Act.put, List.getElem_toArray, List.getElem_cons_succ, List.getElem_cons_zero, List.setIfInBounds_toArray, List.set_cons_zero, List.set_cons_succ]
          refine wpAnyH_take (i := 8) (v := ?v9) rfl (by kernel_rfl) (by kernel_rfl) (by kernel_rfl) (fun _ _ _ h => h) (Or.inl ⟨by kernel_rfl, ?h9⟩) HS ?r9
          case h9 => (rintro w ⟨n0, n1, n2, n3⟩; go_simp) <;> with_reducible rfl
          try simp only [Act.put, List.getElem_toArray, List.getElem_cons_succ, List.getElem_cons_zero, List.setIfInBounds_toArray, List.set_cons_zero, List.set_cons_succ]
          refine wpAnyH_take (i := 9) (v := ?v10) rfl (by kernel_rfl) (by kernel_rfl) (by kernel_rfl) (fun _ _ _ h => h) (Or.inl ⟨by kernel_rfl, ?h10⟩) HS ?r10
          case h10 => (rintro w ⟨n0, n1, n2, n3⟩; go_simp) <;> with_reducible rfl
          try simp only [Act.put, List.getElem_toArray, List.getElem_cons_succ, List.getElem_cons_zero, List.setIfInBounds_toArray, List.set_cons_zero, List.set_cons_succ]
          refine wpAnyH_take (i := 10) (v := ?v11) rfl (by kernel_rfl) (by kernel_rfl) (by kernel_rfl) (fun _ _ _ h => h) (Or.inl ⟨by kernel_rfl, ?h11⟩) HS ?r11
          case h11 => (rintro w ⟨n0, n1, n2, n3⟩; go_simp) <;> with_reducible rfl
          try simp only [Act.put, List.getElem_toArray, List.getElem_cons_succ, List.getElem_cons_zero, List.setIfInBounds_toArray, List.set_cons_zero, List.set_cons_succ]
          refine wpAnyH_take (i := 11) (v := ?v12) rfl (by kernel_rfl) (by kernel_rfl) (by kernel_rfl) (fun _ _ _ h => h) (Or.inl ⟨by kernel_rfl, ?h12⟩) HS ?r12
          case h12 => (rintro w ⟨n0, n1, n2, n3⟩; go_simp) <;> with_reducible rfl
          try simp only [Act.put, List.getElem_toArray, List.getElem_cons_succ, List.getElem_cons_zero, List.setIfInBounds_toArray, List.set_cons_zero, List.set_cons_succ]
          refine wpAnyH_take (i := 12) (v := ?v13) rfl (by kernel_rfl) (by kernel_rfl) (by kernel_rfl) (fun _ _ _ h => h) (Or.inl ⟨by kernel_rfl, ?h13⟩) HS ?r13
          case h13 => (rintro w ⟨n0, n1, n2, n3⟩; go_simp) <;> with_reducible rfl
          try simp only [Act.put, List.getElem_toArray, List.getElem_cons_succ, List.getElem_cons_zero, List.setIfInBounds_toArray, List.set_cons_zero, List.set_cons_succ]
          refine wpAnyH_take (i := 13) (v := ?v14) rfl (by kernel_rfl) (by kernel_rfl) (by kernel_rfl) (fun _ _ _ h => h) (Or.inl ⟨by kernel_rfl, ?h14⟩) HS ?r14
          case h14 => (rintro w ⟨n0, n1, n2, n3⟩; go_simp) <;> with_reducible rfl
          try simp only [Act.put, List.getElem_toArray, List.getElem_cons_succ, List.getElem_cons_zero, List.setIfInBounds_toArray, List.set_cons_zero, List.set_cons_succ]
          refine wpAnyH_take (i := 14) (v := ?v15) rfl (by kernel_rfl) (by kernel_rfl) (by kernel_rfl) (fun _ _ _ h => h) (Or.inl ⟨by kernel_rfl, ?h15⟩) HS ?r15
          case h15 => (rintro w ⟨n0, n1, n2, n3⟩; go_simp) <;> with_reducible rfl
          try simp only [Act.put, List.getElem_toArray, List.getElem_cons_succ, List.getElem_cons_zero, List.setIfInBounds_toArray, List.set_cons_zero, List.set_cons_succ]
          refine wpAnyH_take (i := 15) (v := ?v16) rfl (by kernel_rfl) (by kernel_rfl) (by kernel_rfl) (fun _ _ _ h => h) (Or.inl ⟨by kernel_rfl, ?h16⟩) HS ?r16
          case h16 => (rintro w ⟨n0, n1, n2, n3⟩; go_simp) <;> with_reducible rfl
          try simp only [Act.put, List.getElem_toArray, List.getElem_cons_succ, List.getElem_cons_zero, List.setIfInBounds_toArray, List.set_cons_zero, List.set_cons_succ]
          refine wpAnyH_take (i := 16) (v := ?v17) rfl (by kernel_rfl) (by kernel_rfl) (by kernel_rfl) (fun _ _ _ h => h) (Or.inl ⟨by kernel_rfl, ?h17⟩) HS ?r17
          case h17 => (rintro w ⟨n0, n1, n2, n3⟩; go_simp) <;> with_reducible rfl
          try simp only [Act.put, List.getElem_toArray, List.getElem_cons_succ, List.getElem_cons_zero, List.setIfInBounds_toArray, List.set_cons_zero, List.set_cons_succ]
          refine wpAnyH_take (i := 17) (v := ?v18) rfl (by kernel_rfl) (by kernel_rfl) (by kernel_rfl) (fun _ _ _ h => h) (Or.inl ⟨by kernel_rfl, ?h18⟩) HS ?r18
          case h18 => (rintro w ⟨n0, n1, n2, n3⟩; go_simp) <;> with_reducible rfl
          try simp only [Act.put, List.getElem_toArray, List.getElem_cons_succ, List.getElem_cons_zero, List.setIfInBounds_toArray, List.set_cons_zero, List.set_cons_succ]
          refine wpAnyH_take (i := 18) (v := ?v19) rfl (by kernel_rfl) (by kernel_rfl) (by kernel_rfl) (fun _ _ _ h => h) (Or.inl ⟨by kernel_rfl, ?h19⟩) HS ?r19
          case h19 => (rintro w ⟨n0, n1, n2, n3⟩; go_simp) <;> with_reducible rfl
          try simp only [Act.put, List.getElem_toArray, List.getElem_cons_succ, List.getElem_cons_zero, List.setIfInBounds_toArray, List.set_cons_zero, List.set_cons_succ]
          refine wpAnyH_take (i := 19) (v := ?v20) rfl (by kernel_rfl) (by kernel_rfl) (by kernel_rfl) (fun _ _ _ h => h) (Or.inl ⟨by kernel_rfl, ?h20⟩) HS ?r20
          case h20 => (rintro w ⟨n0, n1, n2, n3⟩; go_simp) <;> with_reducible rfl
          try simp only [Act.put, List.getElem_toArray, List.getElem_cons_succ, List.getElem_cons_zero, List.setIfInBounds_toArray, List.set_cons_zero, List.set_cons_succ]
          refine wpAnyH_take (i := 20) (v := ?v21) rfl (by kernel_rfl) (by kernel_rfl) (by kernel_rfl) (fun _ _ _ h => h) (Or.inl ⟨by kernel_rfl, ?h21⟩) HS ?r21
          case h21 => (rintro w ⟨n0, n1, n2, n3⟩; go_simp) <;> with_reducible rfl
          try simp only [Act.put, List.getElem_toArray, List.getElem_cons_succ, List.getElem_cons_zero, List.setIfInBounds_toArray, List.set_cons_zero, List.set_cons_succ]
          refine wpAnyH_ready (rs := [21]) (by kernel_rfl) (by simp) ?_
          refine AllReadyH.cons rfl (fun K hK => ?_) AllReadyH.nil
          go_simp
          refine hK.out _ _ ⟨(World.cell?_setCell_far _ _ _ _ (by have := HGG.out; dsimp only; omega)).trans HS.1, (World.cell?_setCell_far _ _ _ _ (by have := HGG.out; dsimp only; omega)).trans HS.2.1, (World.cell?_setCell_far _ _ _ _ (by have := HGG.out; dsimp only; omega)).trans HS.2.2.1, (World.cell?_setCell_far _ _ _ _ (by have := HGG.out; dsimp only; omega)).trans HS.2.2.2⟩ (fun HS => ?_)
          clear hK K
          try simp only [Act.put, List.getElem_toArray, List.getElem_cons_succ, List.getElem_cons_zero, List.setIfInBounds_toArray, List.set_cons_zero, List.set_cons_succ]
          refine wpAnyH_done (by kernel_rfl) ?_ _
          clear HS co2 fo2
          have HW2 : Hid (∃ cj : List Value, Rd5 (q0.setCell ⟨gB, at_, none⟩ (.slice ax L px)) b (.slice (some ⟨gB, 0, none⟩) n pB) (.slice (some ⟨gU, 0, none⟩) m pU) cj ds F { dGone s with bl := lay (s.un.take (j + 1)) s.bl } ∧ Kp F w (q0.setCell ⟨gB, at_, none⟩ (.slice ax L px))) := ⟨_, by rw [HLm.out]; exact HP2.out, HK2.out⟩
          clear HP2 HK2 HLm HGG
          go_upto_region 7 with fail
          generalize q0.setCell ⟨gB, at_, none⟩ (.slice ax L px) = q1 at *
          go_wp2
          go_roundw
          case rel => exact ⟨j + 1, by omega, by first | rfl | go_num, HW2⟩
          case measure => simp only [intOf]; omega
        · obtain rfl : j = m := by omega
          have hjI : ¬ (j : Int) < (j : Int) := by omega
          have f1 := hRj.f0 1 (by omega)
          have HP := hid5 hRj.nil
          have HKj : Hid (Kp F w wr ∧ F b) := ⟨hKj, hRj.fb⟩
          have hall : s.un.take j = s.un := List.take_of_length_le (by have := HM.out; omega)
          rw [hall] at HP
          clear hRj hKj HW hall d0
          go_wp2
          go_ret
          refine ⟨by rw [HE.out]; rfl, F, ?_, fun k hk => Or.inl hk, (HKj.out.1).set (p := ⟨b, 1, none⟩) (Or.inl HKj.out.2) _⟩
          rw [HST.out]
          exact ⟨b, _, _, _, _, rfl, HP.out, bdk_gone HR.out.2⟩
end Go.Proofs.YtkbpcmjdfaokhaaDoor
set_option linter.unusedVariables false
set_option linter.unusedSimpArgs false
namespace Go.Proofs.YtkbpcmjdfaokhaaDoor
open Go.RowKit

theorem ad_same {T : World → Value → (Nat → Prop) → Dsk → Prop} {p : Value} {F : Nat → Prop} {s : Dsk} {w : World} (h : T w p F s) : Ad T p F s w w := ⟨F, h, fun _ h => Or.inl h, Kp.refl _ _⟩
theorem ad_tr {T : World → Value → (Nat → Prop) → Dsk → Prop} {p : Value} {F F1 : Nat → Prop} {s : Dsk} {w w1 w2 : World} (hG : Gr F F1 w) (hK : Kp F w w1) (h2 : Ad T p F1 s w1 w2) : Ad T p F s w w2 := by
  obtain ⟨F2, t, g, k⟩ := h2
  have hs := hK.size
  refine ⟨F2, t, fun i hi => ?_, hK.trans k (fun i hi => hG i hi)⟩
  rcases g i hi with q | q
  · exact hG i q
  · exact Or.inr (by omega)
/-- What is loaded, of a disk that may be down. -/
def ldW (s : Dsk) (at_ room : Nat) : List Nat × Nat × Nat := if s.dn = true then ([], 0, 150) else ldV (rb s) at_ room
end Go.Proofs.YtkbpcmjdfaokhaaDoor
set_option linter.unusedVariables false
set_option linter.unusedSimpArgs false
namespace Go.Proofs.YtkbpcmjdfaokhaaDoor

theorem deN_zero : ∀ k, deN (List.replicate k 0) = 0 := by
  intro k
  induction k with
  | zero => rfl
  | succ k ih =>
    rw [List.replicate_succ]
    show 0 + 256 * deN (List.replicate k 0) = 0
    rw [ih]
theorem gt_zero (n p k : Nat) : gt (List.replicate n 0) p k = 0 := by
  unfold gt
  rw [List.drop_replicate, List.take_replicate]
  exact deN_zero _
/-- A new disk: nothing is kept. -/
theorem rest_new {at_ room n : Nat} (h : at_ + 2 * (room + 1) ≤ n) (hr : room ≤ 16384) : SnRest at_ room 0 [] (dNew n) := by
  have hb : ∀ i, i < n → bk (dNew n) i = List.replicate 128 0 := fun i hi => by
    show (List.replicate n (List.replicate 128 0)).getD i [] = _
    simp [List.getD, List.getElem?_replicate, hi]
  have h0 := slA_lt (at_ := at_) (room := room) (which := 0) (i := 0) (by omega) h (by omega)
  have h1 := slA_lt (at_ := at_) (room := room) (which := 1) (i := 0) (by omega) h (by omega)
  rw [Nat.add_zero] at h0 h1
  refine ⟨okD_new n, rfl, rfl, by show _ ≤ (List.replicate n _).length; rw [List.length_replicate]; exact h, hr, ⟨fun q => by omega, fun _ => ?_, ⟨0, 0, Or.inr ⟨rfl, by omega⟩, ?_⟩, ?_⟩⟩
  · rw [hb _ h0, gt_zero]
  · show gt (bk (dNew n) (slA at_ room 1)) 120 8 = _
    rw [hb _ h1, gt_zero, mix_zero]
  · show gt (bk (dNew n) (slA at_ room 1)) 120 8 ≠ _
    rw [hb _ h1, gt_zero]
    omega
/-! Not armed: nothing fails. -/
structure Calm (s : Dsk) : Prop where
  ar : s.ar = false
  dn : s.dn = false
theorem calm_gone {s : Dsk} (h : Calm s) : Calm (dGone s) := by
  unfold dGone
  rw [if_neg (by rw [h.ar]; simp)]
  exact h
theorem calm_wr {s : Dsk} (h : Calm s) (i : Int) (b : List Nat) : Calm (wrS s i b) := by
  unfold wrS
  split
  · exact h
  · exact calm_gone ⟨h.ar, h.dn⟩
theorem calm_go {s : Dsk} (h : Calm s) : dGo s = true := by
  unfold dGo
  rw [h.ar]
  rfl
theorem calm_wrE {s : Dsk} (h : Calm s) (i : Int) (b : List Nat) : wrE s i b ≠ 150 := by
  unfold wrE dAsk
  rw [calm_go h, if_neg (show ¬ s.dn = true by rw [h.dn]; simp)]
  have e : (if true = true then (0 : Nat) else 150) = 0 := rfl
  rw [e]
  repeat' split
  all_goals omega
theorem calm_fl {s : Dsk} (h : Calm s) : Calm (flS s) := by
  have hg := calm_gone h
  unfold flS
  rw [if_neg (by rw [h.dn]; simp), if_pos (calm_go h)]
  exact ⟨hg.ar, hg.dn⟩
theorem calm_flE {s : Dsk} (h : Calm s) : flE s = 0 := by
  unfold flE
  rw [if_neg (by rw [h.dn]; simp), if_pos (calm_go h)]
theorem calm_svW (a : Nat) (d : List Nat) : ∀ (k i : Nat) (s : Dsk), Calm s → Calm (svW a d k i s).2 ∧ (svW a d k i s).1 ≠ 150 := by
  intro k
  induction k with
  | zero => intro i s h; exact ⟨h, by show (0 : Nat) ≠ 150; omega⟩
  | succ k ih =>
    intro i s h
    have h2 := calm_wr h ((a + 1 + i : Nat) : Int) (ck d i)
    have h3 := calm_wrE h ((a + 1 + i : Nat) : Int) (ck d i)
    have e : svW a d (k + 1) i s = if wrE s ((a + 1 + i : Nat) : Int) (ck d i) ≠ 0 then (wrE s ((a + 1 + i : Nat) : Int) (ck d i), wrS s ((a + 1 + i : Nat) : Int) (ck d i)) else svW a d k (i + 1) (wrS s ((a + 1 + i : Nat) : Int) (ck d i)) := rfl
    rw [e]
    split
    · exact ⟨h2, h3⟩
    · exact ih _ _ h2
theorem calm_svR {s : Dsk} (at_ room : Nat) (d : List Nat) (h : Calm s) : Calm (svR s at_ room d).2.2 ∧ (svR s at_ room d).2.1 ≠ 150 := by
  unfold svR
  split
  · exact ⟨h, by show (161 : Nat) ≠ 150; omega⟩
  · rw [if_neg (by rw [h.dn]; simp)]
    unfold svN
    split
    · exact ⟨h, by show (3 : Nat) ≠ 150; omega⟩
    · generalize hw : svW _ d _ 0 s = w
      have h1 : Calm w.2 ∧ w.1 ≠ 150 := by rw [← hw]; exact calm_svW _ _ _ _ _ h
      unfold svF
      split
      · exact h1
      · rw [if_neg (by rw [calm_flE h1.1]; omega)]
        have h2 := calm_fl h1.1
        unfold svH
        split
        · exact ⟨calm_wr h2 _ _, calm_wrE h2 _ _⟩
        · rw [if_neg (by rw [calm_flE (calm_wr h2 _ _)]; omega)]
          exact ⟨calm_fl (calm_wr h2 _ _), by show (0 : Nat) ≠ 150; omega⟩
/-- A fall on a disk that has nothing under way and isn't armed changes nothing. -/
theorem crS_calm {s : Dsk} (h : Calm s) (hu : s.un = []) : (crS s []).bl = s.bl := by
  show fall s.un [] s.bl = _
  rw [fall_nil]
/-- A Save without a fall. -/
theorem SnRest.calm {at_ room N : Nat} {last d : List Nat} {s : Dsk} (h : SnRest at_ room N last s) (hc : Calm s) (hd : d.length ≤ room * 128) (hb : ∀ c ∈ d, c < 256) (hN : N + 1 ≤ 4611686018427387904) :
    (svR s at_ room d).2.1 = 0 ∧ (svR s at_ room d).1 = N + 1 ∧ SnRest at_ room (N + 1) d (svR s at_ room d).2.2 ∧ Calm (svR s at_ room d).2.2 := by
  obtain ⟨c1, c2⟩ := calm_svR at_ room d hc
  rcases h.life hd hb hN [] with ⟨l1, l2, l3⟩ | ⟨l1, _⟩
  · refine ⟨l1, l2, ?_, c1⟩
    have hE := h.save hd hN
    have hO := okD_svR at_ room (d := d) h.ok hb
    cases hE with
    | text e1 e2 e3 e4 => omega
    | head hL e1 e2 e3 => omega
    | well bl1 hL e1 e2 e3 e4 e5 =>
      have e := crS_calm c1 e4
      have hrm := l3.rm
      have hjv := l3.jv
      have eb : bk (crS (svR s at_ room d).2.2 []) = bk (svR s at_ room d).2.2 := by
        funext i
        unfold bk
        rw [e]
      rw [e] at hrm
      rw [eb] at hjv
      exact ⟨hO, e5, e4, hrm, h.rmax, hjv⟩
  · exact absurd l1 c2
end Go.Proofs.YtkbpcmjdfaokhaaDoor
