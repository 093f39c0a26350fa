/-
  Texts of this proof, joined: DkRefF DkTwo JnTab.
-/
import Derived.Test.YthnpdcblfocemaaGreatDoorSP00
import Derived.Test.YthnpdcblfocemaaGreatDoorSP08
import Derived.Test.YthnpdcblfocemaaGreatDoorSP09
set_option linter.unusedVariables false
set_option linter.unusedSimpArgs false
namespace Go.Proofs.YthnpdcblfocemaaGreatDoor
open Go.RowKit

theorem Rd5.up {w : World} {b : Nat} {vB vU : Value} {cs ds : List Value} {F F' : Nat → Prop} {s : Dsk} (h : Rd5 w b vB vU cs ds F s) (hF : ∀ k, F k → F' k) (hl : ∀ k, F' k → k < w.heap.size) : Rd5 w b vB vU cs ds F' s :=
  ⟨h.ok, hl, hF _ h.fb, h.c0, h.c1, h.c2, h.c3, h.c4, h.f0, h.rB, h.rU, fun g hg => ⟨hF _ (h.gB g hg).1, (h.gB g hg).2⟩, fun g hg => ⟨hF _ (h.gU g hg).1, (h.gU g hg).2⟩, h.gBU, fun k hk => by obtain ⟨x, e, t⟩ := h.tB k hk; exact ⟨x, e, t.up hF⟩, fun k hk => by obtain ⟨x, e, e2, t⟩ := h.tU k hk; exact ⟨x, e, e2, t.up hF⟩⟩
def fallJ (un : List (Nat × List Nat)) (fs : List (Int × Int)) (bl : List (List Nat)) (j : Nat) : List (List Nat) := ((un.zip fs).take j).foldl (fun bl p => bl.set p.1.1 (torn (fn p.2) p.1.2 (bl.getD p.1.1 []))) bl
theorem fallJ_more {un : List (Nat × List Nat)} {fs : List (Int × Int)} (bl : List (List Nat)) {j : Nat} (h1 : j < un.length) (h2 : j < fs.length) : fallJ un fs bl (j + 1) = (fallJ un fs bl j).set (un.getD j (0, [])).1 (torn (fn (fs.getD j (0, 0))) (un.getD j (0, [])).2 ((fallJ un fs bl j).getD (un.getD j (0, [])).1 [])) := by
  have e : (un.zip fs).take (j + 1) = (un.zip fs).take j ++ [(un.getD j (0, []), fs.getD j (0, 0))] := by
    rw [List.take_add_one]
    congr 1
    rw [List.getElem?_eq_getElem (by rw [List.length_zip]; omega), List.getElem_zip]
    simp [List.getD, h1, h2]
  unfold fallJ
  rw [e, List.foldl_append]
  rfl
theorem fallJ_all (un : List (Nat × List Nat)) (fs : List (Int × Int)) (bl : List (List Nat)) {j : Nat} (h : un.length ≤ j ∨ fs.length ≤ j) : fallJ un fs bl j = fall un fs bl := by
  unfold fallJ fall
  rw [List.take_of_length_le (by rw [List.length_zip]; omega)]
theorem fallJ_len (un : List (Nat × List Nat)) (fs : List (Int × Int)) (bl : List (List Nat)) (j : Nat) : (fallJ un fs bl j).length = bl.length := by
  unfold fallJ
  generalize (un.zip fs).take j = L
  induction L generalizing bl with
  | nil => rfl
  | cons p L ih => rw [List.foldl_cons, ih, List.length_set]
theorem take_snoc {T : List Nat} {i : Nat} (h : i < T.length) : T.take i ++ [T.getD i 0] = T.take (i + 1) := by
  rw [List.take_add_one]
  congr 1
  simp [List.getD, h]
def fnI (f : Int × Int) : Int := if f.1 = 2 then f.2 else if f.1 = 1 then 128 else 0
theorem fnI_lt (f : Int × Int) (i : Nat) (hi : i < 128) : (i : Int) < fnI f ↔ i < fn f := by
  unfold fnI fn
  by_cases q : f.1 = 2
  · rw [if_pos q, if_neg (by omega), if_pos q]
    omega
  · rw [if_neg q]
    by_cases q1 : f.1 = 1
    · rw [if_pos q1, if_pos q1]; omega
    · rw [if_neg q1, if_neg q1, if_neg q]; omega
theorem Fts.cel {w : World} {ad : Option Addr} {n cap : Nat} {fs : List (Int × Int)} (h : Fts w (.slice ad n cap) fs) (j : Nat) (hj : j < fs.length) : ∃ b o, ad = some ⟨b, o, none⟩ ∧ w.cell? ⟨b, o + j * 2, none⟩ = some (.int .i64 (fs.getD j (0, 0)).1) ∧ w.cell? ⟨b, o + j * 2 + 1, none⟩ = some (.int .i64 (fs.getD j (0, 0)).2) := by
  obtain ⟨ad', cap', b, o, e, h2, h3, h4, h5⟩ := h
  injection e with e1 e2 e3
  exact ⟨b, o, by rw [e1]; exact h4 (by omega), h5 j hj⟩
theorem Fts.kp {w w' : World} {v : Value} {fs : List (Int × Int)} {F : Nat → Prop} (h : Fts w v fs) (k : Kp F w w') (hn : Nf F v) : Fts w' v fs := by
  obtain ⟨ad, cap, b, o, rfl, h2, h3, h4, h5⟩ := h
  refine ⟨ad, cap, b, o, rfl, h2, h3, h4, fun j hj => ?_⟩
  have e := h4 (by omega)
  subst e
  have hb := hn ⟨b, o, none⟩ _ cap rfl (by omega)
  exact ⟨k.cell (a := ⟨b, o + j * 2, none⟩) hb (h5 j hj).1, k.cell (a := ⟨b, o + j * 2 + 1, none⟩) hb (h5 j hj).2⟩
structure Wx (b5 : Nat) (at_ : Nat) (x : Value) (w : World) : Prop where
  c0 : w.cell? ⟨b5, 0, none⟩ = some (.int .i64 (at_ : Int))
  c1 : w.cell? ⟨b5, 1, none⟩ = some x
set_option maxRecDepth 100000 in
set_option maxHeartbeats 16000000 in
theorem refCrash {w : World} {p : Value} {F : Nat → Prop} {s : Dsk} (h : RD w p F s) (v : Value) (fs : List (Int × Int)) (hv : Fts w v fs) (hnf : Nf F v) (hu : s.un.length ≤ 100000) :
    Calls Tryz.prog 18 #[p, v] w fun e w' => e = .returned (.tuple #[]) ∧ Ad RD p F (crS s fs) w w' := by
  obtain ⟨b, vB, vU, cs, ds, rfl, h, hd⟩ := h
  have HR : Hid (Rd5 w b vB vU cs ds F s ∧ Bdk s) := ⟨h, hd⟩
  have HV : Hid (Fts w v fs ∧ Nf F v) := ⟨hv, hnf⟩
  obtain ⟨av, cv, rfl, -, -⟩ := hv.len
  obtain ⟨aB, pB, rfl⟩ := h.sB
  obtain ⟨aU, pU, rfl⟩ := h.sU
  obtain ⟨m, hm⟩ : ∃ m, s.un.length = m := ⟨_, rfl⟩
  obtain ⟨n, hn⟩ : ∃ n, s.bl.length = n := ⟨_, rfl⟩
  obtain ⟨nf, hnf2⟩ : ∃ nf, fs.length = nf := ⟨_, rfl⟩
  have HM : Hid (s.un.length = m ∧ m ≤ 100000 ∧ s.bl.length = n ∧ fs.length = nf) := ⟨hm, by omega, hn, hnf2⟩
  rw [hm, hn] at HR
  rw [hnf2] at HV ⊢
  clear h hd hm hn hu hv hnf hnf2
  go_enter Tryz.func18, Tryz.ntmps18
  go_upto_region 1 with fail
  go_loopw [4] (fun s4 wr => ∃ j : Nat, j ≤ m ∧ s4 = .int .i64 (j : Int) ∧ Hid (∃ (cj : List Value) (Fj : Nat → Prop), Rd5 wr b (.slice aB n pB) (.slice aU m pU) cj ds Fj { s with bl := fallJ s.un fs s.bl j } ∧ Gr F Fj w ∧ Kp F w wr)) (fun s4 _ => m - (intOf s4).toNat)
  case atStart => exact ⟨0, by omega, rfl, cs, F, HR.out.1, fun k hk => Or.inl hk, Kp.refl _ _⟩
  case round =>
    obtain ⟨j, hj, rfl, HW⟩ := hrel
    obtain ⟨cj, Fj, hRj, hGj, hKj⟩ := HW.out
    have d0 := hRj.c0
    have d1 := hRj.c1
    by_cases hend : j < m ∧ j < nf
    · have hjI : (j : Int) < (m : Int) := by omega
      have hjF : (j : Int) < (nf : Int) := by omega
      have hj0 : (0 : Int) ≤ (j : Int) := by omega
      have hjw : IntKind.i64.wrap ((j : Int) + 1) = ((j + 1 : Nat) : Int) := by have := HM.out; rw [IntKind.wrap_i64]; omega
      have hjm : j < s.un.length := by have := HM.out; omega
      have hjf : j < fs.length := by have := HM.out; omega
      have HLm := hid5 (fallJ_more s.bl hjm hjf)
      obtain ⟨gU, x, eU, ca, cx, tx, gUb, gUB⟩ := hRj.atU j hjm
      have hun : (({ s with bl := fallJ s.un fs s.bl j } : Dsk).un.getD j (0, [])) = s.un.getD j (0, []) := rfl
      rw [hun] at ca tx
      clear hun
      have hokU := HR.out.1.ok.un (s.un.getD j (0, [])) (by
        have e : s.un.getD j (0, []) = s.un[j] := by simp [List.getD, hjm]
        rw [e]; exact List.getElem_mem hjm)
      obtain ⟨at_, hat⟩ : ∃ a, (s.un.getD j (0, [])).1 = a := ⟨_, rfl⟩
      obtain ⟨T, hTT⟩ : ∃ T, (s.un.getD j (0, [])).2 = T := ⟨_, rfl⟩
      rw [hat] at ca HLm hokU
      rw [hTT] at tx HLm hokU
      have hatn : at_ < n := by have := HM.out.2.2.1; omega
      have hatI : (at_ : Int) < (n : Int) := by omega
      have hat0 : (0 : Int) ≤ (at_ : Int) := by omega
      have hlen : (fallJ s.un fs s.bl j).length = n := by rw [fallJ_len]; exact HM.out.2.2.1
      obtain ⟨gB, xo, eB, co, fo, txo, gBb, gBU⟩ := hRj.atB at_ (by show at_ < (fallJ _ _ _ _).length; omega)
      obtain ⟨old, hold⟩ : ∃ old, (fallJ s.un fs s.bl j).getD at_ [] = old := ⟨_, rfl⟩
      have hokO : okb old := by
        rw [← hold]
        exact getD_ok hRj.ok.bl (by show at_ < (fallJ _ _ _ _).length; omega)
      have txo2 : Tq wr Fj b (.slice aB n pB) (.slice aU m pU) xo old := by rw [← hold]; exact txo
      rw [hold] at HLm
      subst eU eB
      obtain ⟨bf, of, ef, k0, k1⟩ := (HV.out.1.kp hKj HV.out.2).cel j hjf
      subst ef
      obtain ⟨ax, px, ex, -, -⟩ := tx.1.len
      obtain ⟨ao, po, eo, -, -⟩ := txo2.1.len
      subst ex eo
      rw [hokU.2.1] at tx cx
      rw [hokO.1] at txo2 co
      obtain ⟨f0, hf0⟩ : ∃ f, fs.getD j (0, 0) = f := ⟨_, rfl⟩
      rw [hf0] at k0 k1 HLm
      have HRj : Hid (Rd5 wr b (.slice (some ⟨gB, 0, none⟩) n pB) (.slice (some ⟨gU, 0, none⟩) m pU) cj ds Fj { s with bl := fallJ s.un fs s.bl j } ∧ Gr F Fj w ∧ Kp F w wr) := ⟨hRj, hGj, hKj⟩
      have HX : Hid (Bs wr (.slice ax 128 px) T ∧ Bs wr (.slice ao 128 po) old ∧ okb T ∧ okb old) := ⟨tx.1, txo2.1, hokU.2, hokO⟩
      have HGG : Hid (gB ≠ b ∧ gB ≠ gU ∧ gB < wr.heap.size ∧ b < wr.heap.size ∧ wr.cell? ⟨gB, at_, none⟩ = some (.slice ao 128 po) ∧ wr.frozen? ⟨gB, at_, none⟩ = false ∧ wr.cell? ⟨b, 0, none⟩ = some (.slice (some ⟨gB, 0, none⟩) n pB)) := ⟨gBb, fun e => gBU (by rw [e]; rfl), hRj.lt gB (hRj.gB gB rfl).1, hRj.lt b hRj.fb, co, fo, d0⟩
      have HW5 : Hid (Wx wr.heap.size at_ (.slice ax 128 px) (wr.alloc (.cells #[.int .i64 (at_ : Int), .slice ax 128 px] 100)) ∧ Below wr.heap.size wr (wr.alloc (.cells #[.int .i64 (at_ : Int), .slice ax 128 px] 100))) := ⟨⟨by simp [go_sem], by simp [go_sem]⟩, bel1 _ _⟩
      have hk0 : ∀ ob, (wr.alloc ob).cell? ⟨bf, of + j * 2, none⟩ = some (.int .i64 f0.1) := fun ob => cell_later (bel1 _ _) k0
      have hk1 : ∀ ob, (wr.alloc ob).cell? ⟨bf, of + j * 2 + 1, none⟩ = some (.int .i64 f0.2) := fun ob => cell_later (bel1 _ _) k1
      have HFI : Hid (∀ i : Nat, i < 128 → ((i : Int) < fnI f0 ↔ i < fn f0)) := fun i hi => fnI_lt f0 i hi
      have HFn : Hid (fn f0 ≤ 128) := fn_le f0
      have HFd : Hid (fnI f0 = if f0.1 = 2 then f0.2 else if f0.1 = 1 then 128 else 0) := rfl
      obtain ⟨f1, f2⟩ := f0
      dsimp only at hk0 hk1 HFd
      clear hRj hGj hKj HW hat hTT hokU hokO hold hlen tx txo txo2 hjm hjf gUb gUB gBb gBU co fo k0 k1 hf0
      generalize fn (f1, f2) = fnn at *
      generalize fnI (f1, f2) = fni at *
      obtain ⟨W5, hW5⟩ : ∃ W5, W5 = wr.alloc (.cells #[.int .i64 (at_ : Int), .slice ax 128 px] 100) := ⟨_, rfl⟩
      have y0 : W5.cell? ⟨bf, of + j * 2, none⟩ = some (.int .i64 f1) := by rw [hW5]; exact hk0 _
      have y1 : W5.cell? ⟨bf, of + j * 2 + 1, none⟩ = some (.int .i64 f2) := by rw [hW5]; exact hk1 _
      rw [← hW5] at HW5
      go_upto_region 4 with fail
      rw [← hW5]
      clear hW5 hk0 hk1
      obtain ⟨b5, hb5⟩ : ∃ b5, wr.heap.size = b5 := ⟨_, rfl⟩
      have HB5 : Hid (wr.heap.size = b5) := hb5
      rw [hb5] at HW5 ⊢
      clear hb5 d0 d1 ca cx
      obtain ⟨N1, hN1⟩ : ∃ N1 : Int, (if f1 = 1 then 128 else 0) = N1 := ⟨_, rfl⟩
      rw [hN1] at HFd
      have HN1 : Hid ((f1 = 1 → N1 = 128) ∧ (f1 ≠ 1 → N1 = 0)) := ⟨fun q => by rw [← hN1, if_pos q], fun q => by rw [← hN1, if_neg q]⟩
      have HN2 : Hid ((f1 = 2 → fni = f2) ∧ (f1 ≠ 2 → fni = N1)) := ⟨fun q => by rw [HFd.out, if_pos q], fun q => by rw [HFd.out, if_neg q]⟩
      clear hN1 HFd
      go_upto_if 36 with fail
      go_cut [6] (fun s6 wc => s6 = .int .i64 N1 ∧ wc = W5)
      case first =>
        by_cases q1 : f1 = 1
        · have hv := HN1.out.1 q1
          subst q1 hv
          go_wp2_with fail
          go_meet
          exact ⟨rfl, rfl⟩
        · have hv := HN1.out.2 q1
          have q1B : (f1 == 1) = false := by simpa using q1
          subst hv
          go_wp2_with fail
          go_meet
          exact ⟨rfl, rfl⟩
      case rest =>
        rename World => wc
        obtain ⟨rfl, hwc⟩ := hcut
        subst hwc
        go_upto_if 42 with fail
        go_cut [6] (fun s6 wd => s6 = .int .i64 fni ∧ wd = wc)
        case first =>
          by_cases q2 : f1 = 2
          · have hv := HN2.out.1 q2
            subst q2 hv
            go_wp2_with fail
            go_meet
            exact ⟨rfl, rfl⟩
          · have hv := HN2.out.2 q2
            have q2B : (f1 == 2) = false := by simpa using q2
            subst hv
            go_wp2_with fail
            go_meet
            exact ⟨rfl, rfl⟩
        case rest =>
          rename World => wd
          obtain ⟨rfl, hwd⟩ := hcut
          subst hwd
          clear HN1 HN2 y0 y1
          -- what stands below the list that grows
          have HY : Hid (∀ W, Below wd.heap.size wd W → W.cell? ⟨b, 0, none⟩ = some (.slice (some ⟨gB, 0, none⟩) n pB) ∧ W.cell? ⟨gB, at_, none⟩ = some (.slice ao 128 po) ∧ Wx b5 at_ (.slice ax 128 px) W ∧ Bs W (.slice ax 128 px) T ∧ Bs W (.slice ao 128 po) old) := fun W hW => by
            have hb := HW5.out.2
            rw [← HB5.out] at hb
            have hbb := bchain hb hW
            exact ⟨cell_later hbb HGG.out.2.2.2.2.2.2, cell_later hbb HGG.out.2.2.2.2.1, ⟨cell_later hW HW5.out.1.c0, cell_later hW HW5.out.1.c1⟩, HX.out.1.later hbb, HX.out.2.1.later hbb⟩
          obtain ⟨TT, hTT⟩ : ∃ TT, torn fnn T old = TT := ⟨_, rfl⟩
          have HTT : Hid (TT.length = 128 ∧ (∀ i, i < 128 → TT.getD i 0 = if i < fnn then T.getD i 0 else old.getD i 0) ∧ okb TT) := by
            rw [← hTT]
            exact ⟨(torn_ok HFn.out HX.out.2.2.1 HX.out.2.2.2).1, fun i _ => torn_get HFn.out HX.out.2.2.1.1 HX.out.2.2.2.1 i, torn_ok HFn.out HX.out.2.2.1 HX.out.2.2.2⟩
          rw [hTT] at HLm
          clear hTT
          go_upto_region 11 with fail
          go_loopw [7, 8] (fun s7 s8 we => ∃ i : Nat, i ≤ 128 ∧ s8 = .int .i64 (i : Int) ∧ Hid (Ob wd.heap.size we s7 (TT.take i) ∧ Below wd.heap.size wd we)) (fun _ s8 _ => 128 - (intOf s8).toNat)
          case atStart => exact ⟨0, by omega, rfl, ob_nil _ _, Below.refl _ _⟩
          case round =>
            rename World => we
            obtain ⟨i, hi, rfl, HO⟩ := hrel
            obtain ⟨z0, z1, zx, zT, zO⟩ := HY.out we HO.out.2
            have zx0 := zx.c0
            have zx1 := zx.c1
            by_cases hlt : i < 128
            · have hiI : (i : Int) < 128 := by omega
              have hi0 : (0 : Int) ≤ (i : Int) := by omega
              have hi128 : (i : Int) < ((128 : Nat) : Int) := by omega
              have HSn := hid5 (take_snoc (T := TT) (i := i) (by have := HTT.out.1; omega))
              have HGt := hid5 (HTT.out.2.1 i hlt)
              have HTl : Hid ((TT.take i).length ≤ 128) := by show _ ≤ _; rw [List.length_take]; omega
              by_cases hn : i < fnn
              · have hnI : (i : Int) < fni := (HFI.out i hlt).2 hn
                rw [if_pos hn] at HGt
                obtain ⟨gx, ox, exx, cxx⟩ := zT.cel i (by have := HX.out.2.2.1.1; omega)
                cases exx
                rw [← HGt.out] at cxx
                generalize TT.getD i 0 = c at *
                clear HGt z0 z1 zx0 zx zT zO
                go_upto_region 12 with (at_builtin; refine apB rfl _ _ rfl wd.heap.size u7 (TT.take i) rfl (HO.out.1.later (bel1 _ _)) _ [c] rfl (bs_one we c _) (by have := HTl.out; rw [List.length_singleton]; omega) (by rw [World.size_alloc]; have := HO.out.2.size; omega) ?_; intro v2 w2 hO2 hg2)
                have HO2 : Hid (Ob wd.heap.size w2 v2 (TT.take (i + 1)) ∧ Below wd.heap.size wd w2) := ⟨by rw [← HSn.out]; exact hO2, hg2.1 _ (HO.out.2.alloc HO.out.2.size _)⟩
                clear hO2 hg2 HO HSn HTl
                go_wp2
                go_roundw
                case rel => exact ⟨i + 1, by omega, by go_num, HO2⟩
                case measure => simp [intOf]; omega
              · have hnI : ¬ (i : Int) < fni := fun q => hn ((HFI.out i hlt).1 q)
                rw [if_neg hn] at HGt
                obtain ⟨gx, ox, exx, cxx⟩ := zO.cel i (by have := HX.out.2.2.2.1; omega)
                cases exx
                rw [← HGt.out] at cxx
                generalize TT.getD i 0 = c at *
                clear HGt zx1 zx zT zO
                go_upto_region 15 with fail
                have hbD : Below we.heap.size we we.drew := (Below.refl _ _).drew
                have HOd : Hid (Ob wd.heap.size we.drew u7 (TT.take i) ∧ Below wd.heap.size wd we.drew) := ⟨HO.out.1.later hbD, HO.out.2.trans (hbD.mono HO.out.2.size)⟩
                have HLT : Hid (b < wd.heap.size ∧ b5 < wd.heap.size ∧ gB < wd.heap.size ∧ gx < wd.heap.size) := by
                  have q1 := World.block_lt_of_cell? _ _ HW5.out.1.c0
                  have q2 := HW5.out.2.size
                  have q3 := HB5.out
                  have q4 := HGG.out
                  have q5 := HX.out.2.1.lo ⟨gx, ox, none⟩ 128 po rfl (by omega)
                  dsimp only at q1 q5
                  exact ⟨by omega, q1, by omega, by omega⟩
                refine wp_region_held_drew (S := fun W => W.cell? ⟨b, 0, none⟩ = some (.slice (some ⟨gB, 0, none⟩) n pB) ∧ W.cell? ⟨b5, 0, none⟩ = some (.int .i64 (at_ : Int)) ∧ W.cell? ⟨gB, at_, none⟩ = some (.slice (some ⟨gx, ox, none⟩) 128 po) ∧ W.cell? ⟨gx, ox + i, none⟩ = some (.int .u8 (c : Int))) (by kernel_rfl) ⟨cell_later hbD z0, cell_later hbD zx0, cell_later hbD z1, cell_later hbD cxx⟩ (fun HS => ?_)
                clear hbD z0 z1 zx0 cxx HO
                generalize we.drew = q0 at *
                refine wpAnyH_take (i := 0) (v := ?v1) rfl (by kernel_rfl) (by kernel_rfl) (by kernel_rfl) (fun _ _ _ h => h) (Or.inl ⟨by kernel_rfl, ?h1⟩) HS ?r1
                case h1 => (rintro w ⟨n0, n1, n2, n3⟩; go_simp) <;> with_reducible rfl
                try simp only [Act.put, List.getElem_toArray, List.getElem_cons_succ, List.getElem_cons_zero, List.setIfInBounds_toArray, List.set_cons_zero, List.set_cons_succ]
                refine wpAnyH_take (i := 1) (v := ?v2) rfl (by kernel_rfl) (by kernel_rfl) (by kernel_rfl) (fun _ _ _ h => h) (Or.inl ⟨by kernel_rfl, ?h2⟩) HS ?r2
                case h2 => (rintro w ⟨n0, n1, n2, n3⟩; go_simp) <;> with_reducible rfl
                try simp only [Act.put, List.getElem_toArray, List.getElem_cons_succ, List.getElem_cons_zero, List.setIfInBounds_toArray, List.set_cons_zero, List.set_cons_succ]
                refine wpAnyH_take (i := 2) (v := ?v3) rfl (by kernel_rfl) (by kernel_rfl) (by kernel_rfl) (fun _ _ _ h => h) (Or.inl ⟨by kernel_rfl, ?h3⟩) HS ?r3
                case h3 => (rintro w ⟨n0, n1, n2, n3⟩; go_simp) <;> with_reducible rfl
                try simp only [Act.put, List.getElem_toArray, List.getElem_cons_succ, List.getElem_cons_zero, List.setIfInBounds_toArray, List.set_cons_zero, List.set_cons_succ]
                refine wpAnyH_take (i := 3) (v := ?v4) rfl (by kernel_rfl) (by kernel_rfl) (by kernel_rfl) (fun _ _ _ h => h) (Or.inl ⟨by kernel_rfl, ?h4⟩) HS ?r4
                case h4 => (rintro w ⟨n0, n1, n2, n3⟩; go_simp) <;> with_reducible rfl
                try simp only [Act.put, List.getElem_toArray, List.getElem_cons_succ, List.getElem_cons_zero, List.setIfInBounds_toArray, List.set_cons_zero, List.set_cons_succ]
                refine wpAnyH_take (i := 4) (v := ?v5) rfl (by kernel_rfl) (by kernel_rfl) (by kernel_rfl) (fun _ _ _ h => h) (Or.inl ⟨by kernel_rfl, ?h5⟩) HS ?r5
                case h5 => (rintro w ⟨n0, n1, n2, n3⟩; go_simp) <;> with_reducible rfl
                try simp only [Act.put, List.getElem_toArray, List.getElem_cons_succ, List.getElem_cons_zero, List.setIfInBounds_toArray, List.set_cons_zero, List.set_cons_succ]
                refine wpAnyH_take (i := 5) (v := ?v6) rfl (by kernel_rfl) (by kernel_rfl) (by kernel_rfl) (fun _ _ _ h => h) (Or.inl ⟨by kernel_rfl, ?h6⟩) HS ?r6
                case h6 => (rintro w ⟨n0, n1, n2, n3⟩; go_simp) <;> with_reducible rfl
                try simp only [Act.put, List.getElem_toArray, List.getElem_cons_succ, List.getElem_cons_zero, List.setIfInBounds_toArray, List.set_cons_zero, List.set_cons_succ]
                refine wpAnyH_take (i := 6) (v := ?v7) rfl (by kernel_rfl) (by kernel_rfl) (by kernel_rfl) (fun _ _ _ h => h) (Or.inl ⟨by kernel_rfl, ?h7⟩) HS ?r7
                case h7 => (rintro w ⟨n0, n1, n2, n3⟩; go_simp) <;> with_reducible rfl
                try simp only [Act.put, List.getElem_toArray, List.getElem_cons_succ, List.getElem_cons_zero, List.setIfInBounds_toArray, List.set_cons_zero, List.set_cons_succ]
                refine wpAnyH_take (i := 7) (v := ?v8) rfl (by kernel_rfl) (by kernel_rfl) (by kernel_rfl) (fun _ _ _ h => h) (Or.inl ⟨by kernel_rfl, ?h8⟩) HS ?r8
                case h8 => (rintro w ⟨n0, n1, n2, n3⟩; go_simp) <;> with_reducible rfl
                try simp only [Act.put, List.getElem_toArray, List.getElem_cons_succ, List.getElem_cons_zero, List.setIfInBounds_toArray, List.set_cons_zero, List.set_cons_succ]
                refine wpAnyH_take (i := 8) (v := ?v9) rfl (by kernel_rfl) (by kernel_rfl) (by kernel_rfl) (fun _ _ _ h => h) (Or.inl ⟨by kernel_rfl, ?h9⟩) HS ?r9
                case h9 => (rintro w ⟨n0, n1, n2, n3⟩; go_simp) <;> with_reducible rfl
                try simp only [Act.put, List.getElem_toArray, List.getElem_cons_succ, List.getElem_cons_zero, List.setIfInBounds_toArray, List.set_cons_zero, List.set_cons_succ]
                refine wpAnyH_take (i := 9) (v := ?v10) rfl (by kernel_rfl) (by kernel_rfl) (by kernel_rfl) (fun _ _ _ h => h) (Or.inl ⟨by kernel_rfl, ?h10⟩) HS ?r10
                case h10 => (rintro w ⟨n0, n1, n2, n3⟩; go_simp) <;> with_reducible rfl
                try simp only [Act.put, List.getElem_toArray, List.getElem_cons_succ, List.getElem_cons_zero, List.setIfInBounds_toArray, List.set_cons_zero, List.set_cons_succ]
                refine wpAnyH_take (i := 10) (v := ?v11) rfl (by kernel_rfl) (by kernel_rfl) (by kernel_rfl) (fun _ _ _ h => h) (Or.inl ⟨by kernel_rfl, ?h11⟩) HS ?r11
                case h11 => (rintro w ⟨n0, n1, n2, n3⟩; go_simp) <;> with_reducible rfl
                try simp only [Act.put, List.getElem_toArray, List.getElem_cons_succ, List.getElem_cons_zero, List.setIfInBounds_toArray, List.set_cons_zero, List.set_cons_succ]
                refine wpAnyH_take (i := 11) (v := ?v12) rfl (by kernel_rfl) (by kernel_rfl) (by kernel_rfl) (fun _ _ _ h => h) (Or.inl ⟨by kernel_rfl, ?h12⟩) HS ?r12
                case h12 => (rintro w ⟨n0, n1, n2, n3⟩; go_simp) <;> with_reducible rfl
                try simp only [Act.put, List.getElem_toArray, List.getElem_cons_succ, List.getElem_cons_zero, List.setIfInBounds_toArray, List.set_cons_zero, List.set_cons_succ]
                refine wpAnyH_ready (rs := [12]) (by kernel_rfl) (by simp) ?_
                refine AllReadyH.cons rfl (fun K hK => ?_) AllReadyH.nil
                go_simp
                refine hK.out _ _ ⟨cell_later (bel1 _ _) HS.1, cell_later (bel1 _ _) HS.2.1, cell_later (bel1 _ _) HS.2.2.1, cell_later (bel1 _ _) HS.2.2.2⟩ (fun HS => ?_)
                clear hK K
                try simp only [Act.put, List.getElem_toArray, List.getElem_cons_succ, List.getElem_cons_zero, List.setIfInBounds_toArray, List.set_cons_zero, List.set_cons_succ]
                refine wpAnyH_ready (rs := [13]) (by kernel_rfl) (by simp) ?_
                refine AllReadyH.cons rfl (fun K hK => ?_) AllReadyH.nil
                rw [if_pos (by kernel_rfl)]
                refine apB_op _ _ rfl wd.heap.size u7 (TT.take i) rfl (HOd.out.1.later (bel1 _ _)) _ [c] rfl (bs_one q0 c _) (by have := HTl.out; rw [List.length_singleton]; omega) (by rw [World.size_alloc]; have := HOd.out.2.size; omega) ?_
                intro v2 w2 hO2 hg2
                have hb2 := hg2.1 _ (Below.refl _ _)
                have HO2 : Hid (Ob wd.heap.size w2 v2 (TT.take (i + 1)) ∧ Below wd.heap.size wd w2) := ⟨by rw [← HSn.out]; exact hO2, hg2.1 _ (HOd.out.2.alloc HOd.out.2.size _)⟩
                refine hK.out _ _ ⟨(hb2.cell (p := ⟨b, 0, none⟩) HLT.out.1).trans HS.1, (hb2.cell (p := ⟨b5, 0, none⟩) HLT.out.2.1).trans HS.2.1, (hb2.cell (p := ⟨gB, at_, none⟩) HLT.out.2.2.1).trans HS.2.2.1, (hb2.cell (p := ⟨gx, ox + i, none⟩) HLT.out.2.2.2).trans HS.2.2.2⟩ (fun HS => ?_)
                clear hK K hO2 hg2 hb2 HOd HSn HTl HLT
                try simp only [Act.put, List.getElem_toArray, List.getElem_cons_succ, List.getElem_cons_zero, List.setIfInBounds_toArray, List.set_cons_zero, List.set_cons_succ]
                refine wpAnyH_take (i := 14) (v := ?v13) rfl (by kernel_rfl) (by kernel_rfl) (by kernel_rfl) (fun _ _ _ h => h) (Or.inl ⟨by kernel_rfl, ?h13⟩) HS ?r13
                case h13 => (rintro w ⟨n0, n1, n2, n3⟩; go_simp) <;> with_reducible rfl
                try simp only [Act.put, List.getElem_toArray, List.getElem_cons_succ, List.getElem_cons_zero, List.setIfInBounds_toArray, List.set_cons_zero, List.set_cons_succ]
                refine wpAnyH_done (by kernel_rfl) ?_ _
                clear HS
                go_upto_region 12 with fail
                go_wp2
                go_roundw
                case rel => exact ⟨i + 1, by omega, by go_num, HO2⟩
                case measure => simp [intOf]; omega
            · obtain rfl : i = 128 := by omega
              have hiI : ¬ (128 : Int) < 128 := by omega
              have hTl : (TT.take 128).length = 128 := by rw [List.length_take]; have := HTT.out.1; omega
              have hTa : TT.take 128 = TT := List.take_of_length_le (by have := HTT.out.1; omega)
              obtain ⟨a7, p7, e7⟩ := HO.out.1.sl
              rw [hTl] at e7
              subst e7
              have hOb := HO.out.1
              rw [hTa] at hOb
              have hsz1 := HW5.out.2.size
              have hb5 := HB5.out
              have hbW : Below wr.heap.size wr we := by have h1 := HW5.out.2; rw [← hb5] at h1; exact bchain h1 HO.out.2
              have hRw := HRj.out.1.later hbW
              have hFw : Hid (F b ∧ Gr F Fj w ∧ Kp F w wr) := ⟨HR.out.1.fb, HRj.out.2.1, HRj.out.2.2⟩
              have hRu := hRw.up (F' := fun k => Fj k ∨ (wr.heap.size ≤ k ∧ k < we.heap.size)) (fun k hk => Or.inl hk) (fun k hk => by rcases hk with q | q; exact hRw.lt k q; exact q.2)
              have hTq : Tq we (fun k => Fj k ∨ (wr.heap.size ≤ k ∧ k < we.heap.size)) b (.slice (some ⟨gB, 0, none⟩) n pB) (.slice (some ⟨gU, 0, none⟩) m pU) (.slice a7 128 p7) TT := by
                refine ⟨hOb.bs.1, fun a n' c e hn => ?_⟩
                have q1 := hOb.bs.2 a n' c e hn
                have q2 := Ls.lo hOb.bs.1 a n' c e hn
                have q3 := HGG.out.2.2.1
                have q4 := HGG.out.2.2.2.1
                have q5 := (HRj.out.1.rU.lt gU rfl).2
                refine ⟨Or.inr ⟨by omega, q2⟩, by omega, fun e2 => ?_, fun e2 => ?_⟩
                · have e3 : gB = a.block := Option.some.inj e2; omega
                · have e3 : gU = a.block := Option.some.inj e2; omega
              have hP := hRu.put at_ (.slice a7 128 p7) TT (by show at_ < (fallJ _ _ _ _).length; rw [fallJ_len, HM.out.2.2.1]; exact hatn) HTT.out.2.2 hTq
              have fz : we.frozen? ⟨gB, at_, none⟩ = false := frozen_later hbW HGG.out.2.2.2.2.1 HGG.out.2.2.2.2.2.1
              have HGd : Hid (gB ≠ b ∧ gB ≠ b5) := ⟨HGG.out.1, by have := HGG.out.2.2.1; omega⟩
              have hKw : Kp F w (we.setCell ⟨gB, at_, none⟩ (.slice a7 128 p7)) := by
                refine ((hFw.out.2.2.grow hbW hFw.out.2.2.size)).set (p := ⟨gB, at_, none⟩) ?_ _
                exact hFw.out.2.1 gB (HRj.out.1.gB gB rfl).1
              have HW2 : Hid (∃ (cj : List Value) (Fj : Nat → Prop), Rd5 (we.setCell ⟨gB, at_, none⟩ (.slice a7 128 p7)) b (.slice (some ⟨gB, 0, none⟩) n pB) (.slice (some ⟨gU, 0, none⟩) m pU) cj ds Fj { s with bl := fallJ s.un fs s.bl (j + 1) } ∧ Gr F Fj w ∧ Kp F w (we.setCell ⟨gB, at_, none⟩ (.slice a7 128 p7))) := by
                refine ⟨_, _, by rw [HLm.out]; exact hP, fun k hk => ?_, hKw⟩
                rcases hk with q | q
                · exact hFw.out.2.1 k q
                · exact Or.inr (by have := hFw.out.2.2.size; omega)
              clear hTl hTa hOb hsz1 hb5 hbW hRw hFw hRu hTq hP hKw HO HRj HX HGG HW5 HTT HFI HFn HLm HY zT zO zx zx1
              go_upto_region 16 with fail
              have hbD : Below we.heap.size we we.drew := (Below.refl _ _).drew
              refine wp_region_held_drew (S := fun W => W.cell? ⟨b, 0, none⟩ = some (.slice (some ⟨gB, 0, none⟩) n pB) ∧ W.cell? ⟨b5, 0, none⟩ = some (.int .i64 (at_ : Int))) (by kernel_rfl) ⟨cell_later hbD z0, cell_later hbD zx0⟩ (fun HS => ?_)
              have z1d := cell_later hbD z1
              have fzd : we.drew.frozen? ⟨gB, at_, none⟩ = false := fz
              have HW3 : Hid (∃ (cj : List Value) (Fj : Nat → Prop), Rd5 (we.drew.setCell ⟨gB, at_, none⟩ (.slice a7 128 p7)) b (.slice (some ⟨gB, 0, none⟩) n pB) (.slice (some ⟨gU, 0, none⟩) m pU) cj ds Fj { s with bl := fallJ s.un fs s.bl (j + 1) } ∧ Gr F Fj w ∧ Kp F w (we.drew.setCell ⟨gB, at_, none⟩ (.slice a7 128 p7))) := by
                obtain ⟨c1, F1, q1, q2, q3⟩ := HW2.out
                exact ⟨c1, F1, q1.kept (fun k _ => rfl) (Nat.le_refl _), q2, ⟨q3.os, q3.tape, q3.output, q3.size, q3.block⟩⟩
              clear hbD z0 z1 zx0 fz HW2
              generalize we.drew = q0 at *
              refine wpAnyH_take (i := 0) (v := ?v14) rfl (by kernel_rfl) (by kernel_rfl) (by kernel_rfl) (fun _ _ _ h => h) (Or.inl ⟨by kernel_rfl, ?h14⟩) HS ?r14
              case h14 => (rintro w ⟨n0, n1⟩; go_simp) <;> with_reducible rfl
              try simp only [Act.put, List.getElem_toArray, List.getElem_cons_succ, List.getElem_cons_zero, List.setIfInBounds_toArray, List.set_cons_zero, List.set_cons_succ]
              refine wpAnyH_take (i := 1) (v := ?v15) rfl (by kernel_rfl) (by kernel_rfl) (by kernel_rfl) (fun _ _ _ h => h) (Or.inl ⟨by kernel_rfl, ?h15⟩) HS ?r15
              case h15 => (rintro w ⟨n0, n1⟩; go_simp) <;> with_reducible rfl
              try simp only [Act.put, List.getElem_toArray, List.getElem_cons_succ, List.getElem_cons_zero, List.setIfInBounds_toArray, List.set_cons_zero, List.set_cons_succ]
              refine wpAnyH_take (i := 2) (v := ?v16) rfl (by kernel_rfl) (by kernel_rfl) (by kernel_rfl) (fun _ _ _ h => h) (Or.inl ⟨by kernel_rfl, ?h16⟩) HS ?r16
              case h16 => (rintro w ⟨n0, n1⟩; go_simp) <;> with_reducible rfl
              try simp only [Act.put, List.getElem_toArray, List.getElem_cons_succ, List.getElem_cons_zero, List.setIfInBounds_toArray, List.set_cons_zero, List.set_cons_succ]
              refine wpAnyH_take (i := 3) (v := ?v17) rfl (by kernel_rfl) (by kernel_rfl) (by kernel_rfl) (fun _ _ _ h => h) (Or.inl ⟨by kernel_rfl, ?h17⟩) HS ?r17
              case h17 => (rintro w ⟨n0, n1⟩; go_simp) <;> with_reducible rfl
              try simp only [Act.put, List.getElem_toArray, List.getElem_cons_succ, List.getElem_cons_zero, List.setIfInBounds_toArray, List.set_cons_zero, List.set_cons_succ]
              refine wpAnyH_take (i := 4) (v := ?v18) rfl (by kernel_rfl) (by kernel_rfl) (by kernel_rfl) (fun _ _ _ h => h) (Or.inl ⟨by kernel_rfl, ?h18⟩) HS ?r18
              case h18 => (rintro w ⟨n0, n1⟩; go_simp) <;> with_reducible rfl
              try simp only [Act.put, List.getElem_toArray, List.getElem_cons_succ, List.getElem_cons_zero, List.setIfInBounds_toArray, List.set_cons_zero, List.set_cons_succ]
              refine wpAnyH_take (i := 5) (v := ?v19) rfl (by kernel_rfl) (by kernel_rfl) (by kernel_rfl) (fun _ _ _ h => h) (Or.inl ⟨by kernel_rfl, ?h19⟩) HS ?r19
              case h19 => (rintro w ⟨n0, n1⟩; go_simp) <;> with_reducible rfl
              try simp only [Act.put, List.getElem_toArray, List.getElem_cons_succ, List.getElem_cons_zero, List.setIfInBounds_toArray, List.set_cons_zero, List.set_cons_succ]
              refine wpAnyH_take (i := 6) (v := ?v20) rfl (by kernel_rfl) (by kernel_rfl) (by kernel_rfl) (fun _ _ _ h => h) (Or.inl ⟨by kernel_rfl, ?h20⟩) HS ?r20
              case h20 => (rintro w ⟨n0, n1⟩; go_simp) <;> with_reducible rfl
              try simp only [Act.put, List.getElem_toArray, List.getElem_cons_succ, List.getElem_cons_zero, List.setIfInBounds_toArray, List.set_cons_zero, List.set_cons_succ]
              refine wpAnyH_take (i := 7) (v := ?v21) rfl (by kernel_rfl) (by kernel_rfl) (by kernel_rfl) (fun _ _ _ h => h) (Or.inl ⟨by kernel_rfl, ?h21⟩) HS ?r21
              case h21 => (rintro w ⟨n0, n1⟩; go_simp) <;> with_reducible rfl
              try simp only [Act.put, List.getElem_toArray, List.getElem_cons_succ, List.getElem_cons_zero, List.setIfInBounds_toArray, List.set_cons_zero, List.set_cons_succ]
              refine wpAnyH_ready (rs := [8]) (by kernel_rfl) (by simp) ?_
              refine AllReadyH.cons rfl (fun K hK => ?_) AllReadyH.nil
              go_simp
              refine hK.out _ _ ⟨(World.cell?_setCell_far _ _ _ _ (by have := HGd.out; dsimp only; omega)).trans HS.1, (World.cell?_setCell_far _ _ _ _ (by have := HGd.out; dsimp only; omega)).trans HS.2⟩ (fun HS => ?_)
              clear hK K
              try simp only [Act.put, List.getElem_toArray, List.getElem_cons_succ, List.getElem_cons_zero, List.setIfInBounds_toArray, List.set_cons_zero, List.set_cons_succ]
              refine wpAnyH_done (by kernel_rfl) ?_ _
              clear HS z1d fzd HGd
              go_upto_region 2 with fail
              generalize q0.setCell ⟨gB, at_, none⟩ (.slice a7 128 p7) = q1 at *
              go_wp2
              go_roundw
              case rel => exact ⟨j + 1, by omega, by first | rfl | go_num, HW3⟩
              case measure => simp only [intOf]; omega
    · have f1 := hRj.f0 1 (by omega)
      have f2 := hRj.f0 2 (by omega)
      have f3 := hRj.f0 3 (by omega)
      have f4 := hRj.f0 4 (by omega)
      have y2 : ∀ u, (wr.setCell ⟨b, 1, none⟩ u).cell? ⟨b, 2, none⟩ = some (.bool s.ar) := fun u => far5 hRj.c2 (by omega)
      have y3 : ∀ u u', ((wr.setCell ⟨b, 1, none⟩ u).setCell ⟨b, 2, none⟩ u').cell? ⟨b, 3, none⟩ = some (.int .i64 s.lf) := fun u u' => far5 (far5 hRj.c3 (by omega)) (by omega)
      have y4 : ∀ u u' u2, (((wr.setCell ⟨b, 1, none⟩ u).setCell ⟨b, 2, none⟩ u').setCell ⟨b, 3, none⟩ u2).cell? ⟨b, 4, none⟩ = some (.bool s.dn) := fun u u' u2 => far5 (far5 (far5 hRj.c4 (by omega)) (by omega)) (by omega)
      have HZ := hid5 (((hRj.nil.ar false).lf 0).dn false)
      have HFA : Hid (fallJ s.un fs s.bl j = fall s.un fs s.bl) := fallJ_all s.un fs s.bl (by have := HM.out; omega)
      have HG2 : Hid (Gr F Fj w ∧ Kp F w wr ∧ F b) := ⟨hGj, hKj, HR.out.1.fb⟩
      clear hRj hGj hKj HW d0
      by_cases hjm : j < m
      · have hjI : (j : Int) < (m : Int) := by omega
        have hjF : ¬ (j : Int) < (nf : Int) := by omega
        go_wp2
        go_end0
        refine ⟨rfl, Fj, ?_, HG2.out.1, ?_⟩
        · refine ⟨b, .slice aB n pB, .slice none 0 0, cj, [], rfl, ?_, ⟨by show Bd64 0; unfold Bd64; omega, fun q => by cases q⟩⟩
          have e : crS s fs = { bl := fallJ s.un fs s.bl j, un := [], ar := false, lf := 0, dn := false } := by rw [HFA.out]; rfl
          rw [e]
          exact HZ.out
        · exact (((HG2.out.2.1.set (p := ⟨b, 1, none⟩) (Or.inl HG2.out.2.2) _).set (p := ⟨b, 2, none⟩) (Or.inl HG2.out.2.2) _).set (p := ⟨b, 3, none⟩) (Or.inl HG2.out.2.2) _).set (p := ⟨b, 4, none⟩) (Or.inl HG2.out.2.2) _
      · have hjI : ¬ (j : Int) < (m : Int) := by omega
        go_wp2
        go_end0
        refine ⟨rfl, Fj, ?_, HG2.out.1, ?_⟩
        · refine ⟨b, .slice aB n pB, .slice none 0 0, cj, [], rfl, ?_, ⟨by show Bd64 0; unfold Bd64; omega, fun q => by cases q⟩⟩
          have e : crS s fs = { bl := fallJ s.un fs s.bl j, un := [], ar := false, lf := 0, dn := false } := by rw [HFA.out]; rfl
          rw [e]
          exact HZ.out
        · exact (((HG2.out.2.1.set (p := ⟨b, 1, none⟩) (Or.inl HG2.out.2.2) _).set (p := ⟨b, 2, none⟩) (Or.inl HG2.out.2.2) _).set (p := ⟨b, 3, none⟩) (Or.inl HG2.out.2.2) _).set (p := ⟨b, 4, none⟩) (Or.inl HG2.out.2.2) _
end Go.Proofs.YthnpdcblfocemaaGreatDoor
set_option linter.unusedVariables false
set_option linter.unusedSimpArgs false
namespace Go.Proofs.YthnpdcblfocemaaGreatDoor
open Go.RowKit

def D2 (V : Disk1) (w0 w : World) (d r : Value) (s t : Dsk) (N : Nat → Prop) : Prop :=
  ∃ F G : Nat → Prop, V.Dt w d F s ∧ RD w r G t ∧ (∀ k, F k → w0.heap.size ≤ k) ∧ (∀ k, G k → w0.heap.size ≤ k) ∧ (∀ k, F k → ¬ G k) ∧ (∀ k, N k → ¬ F k ∧ ¬ G k ∧ w0.heap.size ≤ k ∧ k < w.heap.size) ∧ Below w0.heap.size w0 w
def Kn (N : Nat → Prop) (w w' : World) : Prop := ∀ k, N k → w'.heap[k]? = w.heap[k]?
def Ou (B : Nat) (N : Nat → Prop) (v : Value) : Prop := ∀ (a : Addr) (n cap : Nat), v = .slice (some a) n cap → 0 < n → a.block < B ∨ N a.block
theorem Lo.ou {B : Nat} {N : Nat → Prop} {v : Value} (h : Lo B v) : Ou B N v := fun a n c e hn => Or.inl (h a n c e hn)
theorem D2.bel {V : Disk1} {w0 w : World} {d r : Value} {s t : Dsk} {N : Nat → Prop} (h : D2 V w0 w d r s t N) : Below w0.heap.size w0 w := by
  obtain ⟨F, G, -, -, -, -, -, -, h⟩ := h
  exact h
theorem D2.weak {V : Disk1} {w0 w : World} {d r : Value} {s t : Dsk} {N N' : Nat → Prop} (h : D2 V w0 w d r s t N) (k : ∀ k, N' k → N k) : D2 V w0 w d r s t N' := by
  obtain ⟨F, G, h1, h2, h3, h4, h5, h6, h7⟩ := h
  exact ⟨F, G, h1, h2, h3, h4, h5, fun i hi => h6 i (k i hi), h7⟩
theorem D2.later {V : Disk1} {w0 w w' : World} {d r : Value} {s t : Dsk} {N : Nat → Prop} (h : D2 V w0 w d r s t N) (k : Below w.heap.size w w') : D2 V w0 w' d r s t (fun i => N i ∨ (w.heap.size ≤ i ∧ i < w'.heap.size)) := by
  obtain ⟨F, G, h1, h2, h3, h4, h5, h6, h7⟩ := h
  have hs := k.size
  refine ⟨F, G, V.dtK h1 (fun i hi => k.block i (V.dtB h1 i hi)) k.size, h2.later k, h3, h4, h5, fun i hi => ?_, bchain h7 k⟩
  rcases hi with q | q
  · obtain ⟨a, b, c, e⟩ := h6 i q
    exact ⟨a, b, c, by omega⟩
  · exact ⟨fun e => by have := V.dtB h1 i e; omega, fun e => by have := h2.lt i e; omega, by have := h7.size; omega, q.2⟩
theorem d2Safe {V : Disk1} {w0 w : World} {d r : Value} {s t : Dsk} {N : Nat → Prop} (h : D2 V w0 w d r s t N) (i : Nat) (hi : i < s.bl.length) : Calls Tryz.prog 26 #[d, .int .i64 (i : Int)] w fun e w' => ∃ v, e = .returned (.tuple #[v, .int .i64 0]) ∧ Bs w' v (s.bl.getD i []) ∧ Ow w.heap.size v ∧ Below w.heap.size w w' := by
  obtain ⟨F, G, h1, h2, h3, h4, h5, h6, h7⟩ := h
  exact V.safeY w d F s i h1 hi
theorem d2Down {V : Disk1} {w0 w : World} {d r : Value} {s t : Dsk} {N : Nat → Prop} (h : D2 V w0 w d r s t N) : Calls Tryz.prog 25 #[d] w fun e w' => e = .returned (.bool s.dn) ∧ Below w.heap.size w w' := by
  obtain ⟨F, G, h1, h2, h3, h4, h5, h6, h7⟩ := h
  exact V.down w d F s h1
theorem D2.ref {V : Disk1} {w0 w : World} {d r : Value} {s t : Dsk} {N : Nat → Prop} (h : D2 V w0 w d r s t N) : ∃ (b : Nat) (vB vU : Value) (cs ds : List Value) (G : Nat → Prop), r = .pointer (some ⟨b, 0, none⟩) ∧ Rd5 w b vB vU cs ds G t := by
  obtain ⟨F, G, h1, h2, h3, h4, h5, h6, h7⟩ := h
  obtain ⟨b, vB, vU, cs, ds, e, hR, -⟩ := h2
  exact ⟨b, vB, vU, cs, ds, G, e, hR⟩
end Go.Proofs.YthnpdcblfocemaaGreatDoor
set_option linter.unusedVariables false
set_option linter.unusedSimpArgs false
namespace Go.Proofs.YthnpdcblfocemaaGreatDoor
open Go.RowKit

def JT (w : World) : Prop := w.cell? ⟨0, 0, none⟩ = some (.int .i64 4) ∧ w.cell? ⟨0, 1, none⟩ = some (.int .i64 2) ∧ w.cell? ⟨0, 2, none⟩ = some (.int .i64 2) ∧ w.cell? ⟨0, 3, none⟩ = some (.int .i64 8) ∧ w.cell? ⟨0, 4, none⟩ = some (.int .i64 8)
theorem JT.lt {w : World} (h : JT w) : 0 < w.heap.size := World.block_lt_of_cell? _ _ h.1
theorem JT.later {w w' : World} (h : JT w) (k : Below w.heap.size w w') : JT w' := ⟨cell_later k h.1, cell_later k h.2.1, cell_later k h.2.2.1, cell_later k h.2.2.2.1, cell_later k h.2.2.2.2⟩
theorem JT.kept {w w' : World} (h : JT w) (k : w'.heap[(0 : Nat)]? = w.heap[(0 : Nat)]?) : JT w' := by
  have kc : ∀ (i : Nat) (v : Value), w.cell? ⟨0, i, none⟩ = some v → w'.cell? ⟨0, i, none⟩ = some v := fun i v hv => (World.cell?_of_block (a := ⟨0, i, none⟩) k).trans hv
  exact ⟨kc _ _ h.1, kc _ _ h.2.1, kc _ _ h.2.2.1, kc _ _ h.2.2.2.1, kc _ _ h.2.2.2.2⟩
end Go.Proofs.YthnpdcblfocemaaGreatDoor
