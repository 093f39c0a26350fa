/-
  Texts of this proof, joined: LawMF PWalkA PWalkB PWalkC.
-/
import Derived.Test.YtdfjnbkkdgolnaaGreatDoorSU01
import Derived.Test.YtdfjnbkkdgolnaaGreatDoorSU04
import Derived.Test.YtdfjnbkkdgolnaaGreatDoorSU05
import Derived.Test.YtdfjnbkkdgolnaaGreatDoorSU06
import Derived.Test.YtdfjnbkkdgolnaaGreatDoorSU10
import Derived.Test.YtdfjnbkkdgolnaaGreatDoorSU11
import Derived.Deep.RegionHeld3
set_option linter.unusedVariables false
set_option linter.unusedSimpArgs false
namespace Go.Proofs.YtdfjnbkkdgolnaaGreatDoor
open Go.RowKit

set_option maxRecDepth 100000 in
set_option maxHeartbeats 16000000 in
theorem mlpForward_any (V2 : Mlp2) (V4 : Mlp4) (vs vp vx : Value) (m lp lx : Nat) (f P x : Nat → Int) (w : World) (hA : Ar w vs m f) (hP : Ar w vp lp P) (hX : Ar w vx lx x) (hV : MT w) :
    Calls Tryz.prog 5 #[.agg #[vs, vp], vx] w fun e w' => e = .returned (.bool true) ∧ Below w.heap.size w w' := by
  obtain ⟨z, hz⟩ := zs_ex f m
  have HZz : Hid (Zs f m z) := hz
  have HAll : Hid (Ar w vs m f ∧ Ar w vp lp P ∧ Ar w vx lx x) := ⟨hA, hP, hX⟩
  obtain ⟨adr, cap, b, o, rfl, k1, k2, -, -⟩ := id hA
  obtain ⟨adp, cpp, bp, op, rfl, j1, j2, -, -⟩ := id hP
  obtain ⟨adx, cax, bx, ox, rfl, i1, i2, -, -⟩ := id hX
  unfold maxLen at k2 j2 i2
  have HAw : Hid (∀ W : World, Below w.heap.size w W → Calls Tryz.prog 9 #[] W fun e w' => e = .returned (.bool true) ∧ Below W.heap.size W w') := fun W hb => awake7_any V4 W (hV.later hb)
  have HFw : Hid (∀ W : World, Below w.heap.size w W → Calls Tryz.prog 10 #[.agg #[.slice adr m cap, .slice adp lp cpp]] W fun e w' => Tells e (fwP f m lp z) ∧ Below W.heap.size W w') := fun W hb => few7_any _ _ m lp f P z hz W (hA.later hb) (hP.later hb)
  have HCt : Hid (∀ W : World, Below w.heap.size w W → Calls Tryz.prog 13 #[.slice adr m cap] W fun e w' => ∃ C : Int, e = .returned (.int .i64 C) ∧ ctN f m z C ∧ Below W.heap.size W w') := fun W hb => count7_any _ m f z hz W (hA.later hb)
  obtain ⟨w1, hw1⟩ : ∃ w1, w1 = w.alloc (.cells #[.slice adr m cap, .slice adp lp cpp] 25) := ⟨_, rfl⟩
  have HB1 : Hid (Below w.heap.size w w1) := by rw [hw1]; exact bel1 _ _
  have HX1 : Hid (Bx w.heap.size (.slice adr m cap) (.slice adp lp cpp) w1) := by rw [hw1]; exact Bx.new w _ _ _
  clear hA hP hX hz
  go_enter Tryz.func5, Tryz.ntmps5
  go_upto_region 1 with fail
  rw [← hw1]
  clear hw1
  go_wp2_with fail
  refine (HAw.out _ HB1.out).mono ?_
  rintro e w2 ⟨rfl, hb⟩
  have HB2 : Hid (Below w.heap.size w w2) := bchain HB1.out hb
  have HX2 : Hid (Bx w.heap.size (.slice adr m cap) (.slice adp lp cpp) w2) := HX1.out.later hb
  have x0 := HX2.out.c0
  have x1 := HX2.out.c1
  clear hb HB1 HX1 HAw
  go_wp2_with fail
  refine (HFw.out _ HB2.out).mono ?_
  rintro e w3 ⟨hT, hb⟩
  have HB3 : Hid (Below w.heap.size w w3) := bchain HB2.out hb
  have HX3 : Hid (Bx w.heap.size (.slice adr m cap) (.slice adp lp cpp) w3) := HX2.out.later hb
  clear hb HB2 HX2 HFw x0 x1
  by_cases hfw : fwP f m lp z
  · have e0 := hT.yes hfw
    subst e0
    clear hT
    have hmb : m ≤ 10 := hfw.1
    have hlb : lp ≤ 400 := hfw.2.1
    have HSh : Hid (Calls Tryz.prog 21 #[.slice (some ⟨w3.heap.size, 0, none⟩) 1 1] (w3.alloc (.cells #[.slice adx lx cax] 23)) fun e w' => e = .returned (.bool (shB (fun _ => lx) 1)) ∧ w' = w3.alloc (.cells #[.slice adx lx cax] 23)) := short_any w3.heap.size 1 1 (fun _ => lx) (by omega) (by omega) (by omega) _ (fun k hk => ⟨by unfold maxLen; omega, adx, cax, by obtain rfl : k = 0 := (by omega); exact cell_fresh w3 _ _⟩)
    go_wp2_with fail
    refine HSh.out.mono ?_
    rintro e w4 ⟨rfl, hw4⟩
    have HB4 : Hid (Below w.heap.size w w4) := by rw [hw4]; exact bchain HB3.out (bel1 _ _)
    have HX4 : Hid (Bx w.heap.size (.slice adr m cap) (.slice adp lp cpp) w4) := by rw [hw4]; exact HX3.out.later (bel1 _ _)
    clear hw4 HSh HB3 HX3
    by_cases hlx : lx ≤ 100
    · have hsh : shB (fun _ => lx) 1 = true := shB_yes _ _ (fun _ _ => hlx)
      rw [hsh]
      clear hsh
      -- the units
      obtain ⟨w5, hw5⟩ : ∃ w5, w5 = (w4.alloc (.cells #[.int .i64 0] 57)).alloc (.cells #[.int .i64 0] 60) := ⟨_, rfl⟩
      have HL5 : Hid (L2 w w4.heap.size (w4.heap.size + 1) 0 0 w5) := by rw [hw5]; exact units_new HB4.out _ _
      have HX5 : Hid (Bx w.heap.size (.slice adr m cap) (.slice adp lp cpp) w5) := by rw [hw5]; exact (HX4.out.later (bel1 _ _)).later (bel1 _ _)
      have hs5 : w5.heap.size = w4.heap.size + 1 + 1 := by rw [hw5]; simp only [World.size_alloc]
      have hs4 : w.heap.size < w4.heap.size := World.block_lt_of_cell? _ _ HX4.out.c0
      go_upto_region 6 with fail
      rw [← hw5]
      obtain ⟨du, hdu⟩ : ∃ du, w4.heap.size = du := ⟨_, rfl⟩
      obtain ⟨dv, hdv⟩ : ∃ dv, du + 1 = dv := ⟨_, rfl⟩
      rw [hdu] at HL5 hs5 hs4
      rw [hdv] at HL5
      try simp only [hdu, hdv]
      have hne : du ≠ dv := by omega
      have hdu0 : w.heap.size ≤ du := by omega
      have hdv0 : w.heap.size ≤ dv := by omega
      have hdv5 : dv < w5.heap.size := by omega
      have hwu : w.heap.size ≠ du := by omega
      have hwv : w.heap.size ≠ dv := by omega
      clear hw5 hdu hdv hs5 HB4 HX4 w4
      have y0 := HX5.out.c0
      have y1 := HX5.out.c1
      have hAu := HAll.out.1.later HL5.out.B
      have hPu := HAll.out.2.1.later HL5.out.B
      have hXu := HAll.out.2.2.later HL5.out.B
      have nSu : ∀ d', w.heap.size ≤ d' → Nb (.slice adr m cap) d' := fun d' h => HAll.out.1.nb h
      have nPu : ∀ d', w.heap.size ≤ d' → Nb (.slice adp lp cpp) d' := fun d' h => HAll.out.2.1.nb h
      have nXu : ∀ d', w.heap.size ≤ d' → Nb (.slice adx lx cax) d' := fun d' h => HAll.out.2.2.nb h
      by_cases hr : Rt f m
      · obtain ⟨hs, hfz⟩ := HZz.out hr
        by_cases hsh : lp = fsN z (m - 1) ∧ lx = z 0
        · obtain ⟨hlp, hlx0⟩ := hsh
          subst hlx0
          have CF := V2.fwdU _ _ _ m lp z P x du 0 w5 (by omega) (by omega) (hAu.congr hfz) hPu hXu hs hlp (nSu du hdu0) (nPu du hdu0) (nXu du hdu0) HL5.out.u (hV.later HL5.out.B)
          have hz0 : f 0 = ((z 0 : Nat) : Int) := hfz 0 (by have := hr.1; omega)
          obtain ⟨bs, os, caps, es, -, -, cellS, -⟩ := hAu.spot 0 (by have := hr.1; omega)
          cases es
          have hm0 : (0 : Int) < (m : Int) := by have := hr.1; omega
          have HcS : Hid (w5.cell? ⟨bs, os, none⟩ = some (.int .i64 ((z 0 : Nat) : Int)) ∧ bs < w5.heap.size) := by
            have h := cellS 0 (by have := hr.1; omega)
            rw [hz0, Nat.add_zero] at h
            exact ⟨h, World.block_lt_of_cell? _ _ h⟩
          have hbsd : bs ≠ du := nSu du hdu0 _ _ _ rfl (by have := hr.1; omega)
          have HRi : Hid (∀ W : World, Below w.heap.size w W → Calls Tryz.prog 24 #[.agg #[.slice (some ⟨bs, os, none⟩) m cap, .slice adp lp cpp]] W fun e w' => e = .returned (.bool true) ∧ Below W.heap.size W w') := fun W hb => (right7_any _ _ m lp f P z HZz.out (by omega) W (HAll.out.1.later hb) (HAll.out.2.1.later hb)).mono fun e w' h => ⟨h.1.yes ⟨hr, hlp⟩, h.2⟩
          have HNp : Hid (∀ W : World, Below w.heap.size w W → Calls Tryz.prog 14 #[.agg #[.slice (some ⟨bs, os, none⟩) m cap, .slice adp lp cpp]] W fun e w' => ∃ v', e = .returned (.agg #[.slice (some ⟨bs, os, none⟩) m cap, v']) ∧ Ar w' v' lp P ∧ Ow W.heap.size v' ∧ Below W.heap.size W w') := fun W hb => netplain_any _ _ m lp f P (by omega) W (HAll.out.1.later hb) (HAll.out.2.1.later hb)
          have HPx : Hid (∀ W : World, Below w.heap.size w W → Calls Tryz.prog 19 #[.slice adx (z 0) cax] W fun e w' => ∃ v', e = .returned v' ∧ Ar w' v' (z 0) x ∧ Ow W.heap.size v' ∧ Below W.heap.size W w') := fun W hb => plain7_any _ (z 0) x (by omega) W (HAll.out.2.2.later hb)
          have HVl : Hid (∀ (W : World) (v9 v10 : Value), Below w.heap.size w W → Ar W v9 lp P → Ar W v10 (z 0) x → Nb v9 dv → Nb v10 dv → Uc W dv 0 → Calls Tryz.prog 25 #[.agg #[.slice (some ⟨bs, os, none⟩) m cap, v9], .pointer (some ⟨dv, 0, none⟩), v10] W fun e w' => ∃ v', e = .returned v' ∧ Ls w' dv v' m z (vN z m P x) ∧ Un dv (0 + vC z m P x (m - 1)) W w') := fun W v9 v10 hb h1 h2 h3 h4 h5 => values_any _ v9 v10 m lp z P x dv 0 (by omega) (by omega) W ((HAll.out.1.later hb).congr hfz) h1 h2 hs hlp (nSu dv hdv0) h3 h4 h5.1 h5.2
          have HZ6 : Hid (∀ i, i < m → z i ≤ 64) := fun i hi => (hs.2.2 i hi).2
          have hm6 : m ≤ 6 := hs.2.1
          have Hr : Hid (Rt f m) := hr
          generalize vC z m P x (m - 1) = vc at *
          generalize vN z m P x = V at *
          have hXn := nXu dv hdv0
          clear cellS hAu hPu hXu hs hfz hz0 hr hlp
          go_wp2_with fail
          refine CF.mono ?_
          rintro e w6 ⟨v6, rfl, hLs, hU6⟩
          have HL6 : Hid (L2 w du dv (0 + vc) 0 w6) := HL5.out.unu hU6 hdu0 hne
          have HX6 : Hid (Bx w.heap.size (.slice (some ⟨bs, os, none⟩) m cap) (.slice adp lp cpp) w6) := HX5.out.un hU6 hwu
          have HcS6 : Hid (w6.cell? ⟨bs, os, none⟩ = some (.int .i64 ((z 0 : Nat) : Int))) := hU6.o _ _ hbsd HcS.out.1
          have HLs6 : Hid (Ls w6 dv v6 m z V) := hLs dv hdv5 hXn
          obtain ⟨g6, ca6, rfl, g61, g62, -⟩ := HLs6.out.spot
          unfold maxLen at g62
          have y0 := HX6.out.c0
          clear CF hU6 HL5 HX5 HcS y1 hLs
          go_wp2_with fail
          refine (HCt.out _ HL6.out.B).mono ?_
          rintro e w7 ⟨C, rfl, hC, hb7⟩
          have hC0 : ¬ C < 0 := by have := hC.1 Hr.out; omega
          have HL7 : Hid (L2 w du dv (0 + vc) 0 w7) := HL6.out.later hb7
          have HX7 : Hid (Bx w.heap.size (.slice (some ⟨bs, os, none⟩) m cap) (.slice adp lp cpp) w7) := HX6.out.later hb7
          have HcS7 : Hid (w7.cell? ⟨bs, os, none⟩ = some (.int .i64 ((z 0 : Nat) : Int))) := cell_later hb7 HcS6.out
          have HLs7 : Hid (Ls w7 dv (.slice (some ⟨g6, 0, none⟩) m ca6) m z V) := HLs6.out.later hb7
          have y0 := HX7.out.c0
          have y1 := HX7.out.c1
          clear hC hb7 HL6 HX6 HcS6 HCt HLs6
          go_wp2_with fail
          refine (HRi.out _ HL7.out.B).mono ?_
          rintro e w8 ⟨rfl, hb8⟩
          have HL8 : Hid (L2 w du dv (0 + vc) 0 w8) := HL7.out.later hb8
          have HX8 : Hid (Bx w.heap.size (.slice (some ⟨bs, os, none⟩) m cap) (.slice adp lp cpp) w8) := HX7.out.later hb8
          have HLs8 : Hid (Ls w8 dv (.slice (some ⟨g6, 0, none⟩) m ca6) m z V) := HLs7.out.later hb8
          have cS := cell_later hb8 HcS7.out
          have y0 := HX8.out.c0
          have y1 := HX8.out.c1
          clear HX7 HL7 HcS7 hb8 HRi HLs7
          go_wp2_with fail
          refine (HNp.out _ HL8.out.B).mono ?_
          rintro e w9 ⟨v9, rfl, hA9, hO9, hb9⟩
          have HL9 : Hid (L2 w du dv (0 + vc) 0 w9) := HL8.out.later hb9
          have HLs9 : Hid (Ls w9 dv (.slice (some ⟨g6, 0, none⟩) m ca6) m z V) := HLs8.out.later hb9
          have H9 : Hid (Ar w9 v9 lp P ∧ Nb v9 dv) := ⟨hA9, hO9.nb (World.block_lt_of_cell? _ _ HL8.out.v.1)⟩
          clear HX8 HL8 HLs8 hb9 HNp y0 y1 cS hA9 hO9
          go_wp2_with fail
          refine (HPx.out _ HL9.out.B).mono ?_
          rintro e w10 ⟨v10, rfl, hA10, hO10, hb10⟩
          have HL10 : Hid (L2 w du dv (0 + vc) 0 w10) := HL9.out.later hb10
          have HLs10 : Hid (Ls w10 dv (.slice (some ⟨g6, 0, none⟩) m ca6) m z V) := HLs9.out.later hb10
          have CV := HVl.out w10 v9 v10 HL10.out.B (H9.out.1.later hb10) hA10 H9.out.2 (hO10.nb (World.block_lt_of_cell? _ _ HL9.out.v.1)) HL10.out.v
          clear HL9 HLs9 hb10 HPx hA10 hO10 H9 HVl
          go_wp2_with fail
          refine CV.mono ?_
          rintro e w11 ⟨v11, rfl, hLs11, hU11⟩
          have HL11 : Hid (L2 w du dv (0 + vc) (0 + vc) w11) := HL10.out.unv hU11 hdv0 hne
          have HLs11 : Hid (Ls w11 dv (.slice (some ⟨g6, 0, none⟩) m ca6) m z V) := HLs10.out.un hU11
          obtain ⟨g11, ca11, rfl, g111, g112, -⟩ := hLs11.spot
          unfold maxLen at g112
          have HLw11 : Hid (Ls w11 dv (.slice (some ⟨g11, 0, none⟩) m ca11) m z V) := hLs11
          clear CV HL10 HLs10 hLs11 hU11
          obtain ⟨cc, hcc⟩ : ∃ cc, 0 + vc = cc := ⟨_, rfl⟩
          rw [hcc] at HL11
          clear hcc
          have cu := HL11.out.u.1
          have cv := HL11.out.v.1
          go_wp2_with fail
          have hbD : Below w11.heap.size w11 w11.drew := (Below.refl _ _).drew
          refine wp_region_held_drew (S := fun W' => W'.cell? ⟨dv, 0, none⟩ = some (.int .i64 cc)) (by kernel_rfl) cv (fun HS => ?_)
          have HLD : Hid (L2 w du dv cc cc w11.drew) := HL11.out.later hbD
          have HLsD : Hid (Ls w11.drew dv (.slice (some ⟨g6, 0, none⟩) m ca6) m z V) := HLs11.out.later hbD
          have HLwD : Hid (Ls w11.drew dv (.slice (some ⟨g11, 0, none⟩) m ca11) m z V) := HLw11.out.later hbD
          clear hbD cu cv HL11 HLs11 HLw11
          generalize w11.drew = wD at *
          refine wpAnyH_take (i := 0) (v := ?v1) rfl (by kernel_rfl) (by kernel_rfl) (by kernel_rfl) (fun _ _ _ h => h) (Or.inl ⟨by kernel_rfl, ?h1⟩) HS ?r1
          case h1 => (rintro w s1; go_simp) <;> with_reducible rfl
          try simp only [Act.put, List.getElem_toArray, List.getElem_cons_succ, List.getElem_cons_zero, List.setIfInBounds_toArray, List.set_cons_zero, List.set_cons_succ]
          refine wpAnyH_take (i := 1) (v := ?v2) rfl (by kernel_rfl) (by kernel_rfl) (by kernel_rfl) (fun _ _ _ h => h) (Or.inl ⟨by kernel_rfl, ?h2⟩) HS ?r2
          case h2 => (rintro w s1; go_simp) <;> with_reducible rfl
          try simp only [Act.put, List.getElem_toArray, List.getElem_cons_succ, List.getElem_cons_zero, List.setIfInBounds_toArray, List.set_cons_zero, List.set_cons_succ]
          refine wpAnyH_take (i := 2) (v := ?v3) rfl (by kernel_rfl) (by kernel_rfl) (by kernel_rfl) (fun _ _ _ h => h) (Or.inl ⟨by kernel_rfl, ?h3⟩) HS ?r3
          case h3 => (rintro w s1; go_simp) <;> with_reducible rfl
          try simp only [Act.put, List.getElem_toArray, List.getElem_cons_succ, List.getElem_cons_zero, List.setIfInBounds_toArray, List.set_cons_zero, List.set_cons_succ]
          refine wpAnyH_take (i := 3) (v := ?v4) rfl (by kernel_rfl) (by kernel_rfl) (by kernel_rfl) (fun _ _ _ h => h) (Or.inl ⟨by kernel_rfl, ?h4⟩) HS ?r4
          case h4 => (rintro w s1; go_simp) <;> with_reducible rfl
          try simp only [Act.put, List.getElem_toArray, List.getElem_cons_succ, List.getElem_cons_zero, List.setIfInBounds_toArray, List.set_cons_zero, List.set_cons_succ]
          refine wpAnyH_take (i := 4) (v := ?v5) rfl (by kernel_rfl) (by kernel_rfl) (by kernel_rfl) (fun _ _ _ h => h) (Or.inl ⟨by kernel_rfl, ?h5⟩) HS ?r5
          case h5 => (rintro w s1; go_simp) <;> with_reducible rfl
          try simp only [Act.put, List.getElem_toArray, List.getElem_cons_succ, List.getElem_cons_zero, List.setIfInBounds_toArray, List.set_cons_zero, List.set_cons_succ]
          refine wpAnyH_take (i := 5) (v := ?v6) rfl (by kernel_rfl) (by kernel_rfl) (by kernel_rfl) (fun _ _ _ h => h) (Or.inl ⟨by kernel_rfl, ?h6⟩) HS ?r6
          case h6 => (rintro w s1; go_simp) <;> with_reducible rfl
          try simp only [Act.put, List.getElem_toArray, List.getElem_cons_succ, List.getElem_cons_zero, List.setIfInBounds_toArray, List.set_cons_zero, List.set_cons_succ]
          refine wpAnyH_take (i := 6) (v := ?v7) rfl (by kernel_rfl) (by kernel_rfl) (by kernel_rfl) (fun _ _ _ h => h) (Or.inl ⟨by kernel_rfl, ?h7⟩) HS ?r7
          case h7 => (rintro w s1; go_simp) <;> with_reducible rfl
          try simp only [Act.put, List.getElem_toArray, List.getElem_cons_succ, List.getElem_cons_zero, List.setIfInBounds_toArray, List.set_cons_zero, List.set_cons_succ]
          refine wpAnyH_take (i := 7) (v := ?v8) rfl (by kernel_rfl) (by kernel_rfl) (by kernel_rfl) (fun _ _ _ h => h) (Or.inl ⟨by kernel_rfl, ?h8⟩) HS ?r8
          case h8 => (rintro w s1; go_simp) <;> with_reducible rfl
          try simp only [Act.put, List.getElem_toArray, List.getElem_cons_succ, List.getElem_cons_zero, List.setIfInBounds_toArray, List.set_cons_zero, List.set_cons_succ]
          refine wpAnyH_take (i := 8) (v := ?v9) rfl (by kernel_rfl) (by kernel_rfl) (by kernel_rfl) (fun _ _ _ h => h) (Or.inl ⟨by kernel_rfl, ?h9⟩) HS ?r9
          case h9 => (rintro w s1; go_simp) <;> with_reducible rfl
          try simp only [Act.put, List.getElem_toArray, List.getElem_cons_succ, List.getElem_cons_zero, List.setIfInBounds_toArray, List.set_cons_zero, List.set_cons_succ]
          refine wpAnyH_take (i := 9) (v := ?v10) rfl (by kernel_rfl) (by kernel_rfl) (by kernel_rfl) (fun _ _ _ h => h) (Or.inl ⟨by kernel_rfl, ?h10⟩) HS ?r10
          case h10 => (rintro w s1; go_simp) <;> with_reducible rfl
          try simp only [Act.put, List.getElem_toArray, List.getElem_cons_succ, List.getElem_cons_zero, List.setIfInBounds_toArray, List.set_cons_zero, List.set_cons_succ]
          refine wpAnyH_take (i := 10) (v := ?v11) rfl (by kernel_rfl) (by kernel_rfl) (by kernel_rfl) (fun _ _ _ h => h) (Or.inl ⟨by kernel_rfl, ?h11⟩) HS ?r11
          case h11 => (rintro w s1; go_simp) <;> with_reducible rfl
          try simp only [Act.put, List.getElem_toArray, List.getElem_cons_succ, List.getElem_cons_zero, List.setIfInBounds_toArray, List.set_cons_zero, List.set_cons_succ]
          refine wpAnyH_take (i := 12) (v := ?v12) rfl (by kernel_rfl) (by kernel_rfl) (by kernel_rfl) (fun _ _ _ h => h) (Or.inl ⟨by kernel_rfl, ?h12⟩) HS ?r12
          case h12 => (rintro w s1; go_simp) <;> with_reducible rfl
          try simp only [Act.put, List.getElem_toArray, List.getElem_cons_succ, List.getElem_cons_zero, List.setIfInBounds_toArray, List.set_cons_zero, List.set_cons_succ]
          refine wpAnyH_take (i := 13) (v := ?v13) rfl (by kernel_rfl) (by kernel_rfl) (by kernel_rfl) (fun _ _ _ h => h) (Or.inl ⟨by kernel_rfl, ?h13⟩) HS ?r13
          case h13 => (rintro w s1; go_simp) <;> with_reducible rfl
          try simp only [Act.put, List.getElem_toArray, List.getElem_cons_succ, List.getElem_cons_zero, List.setIfInBounds_toArray, List.set_cons_zero, List.set_cons_succ]
          refine wpAnyH_take (i := 14) (v := ?v14) rfl (by kernel_rfl) (by kernel_rfl) (by kernel_rfl) (fun _ _ _ h => h) (Or.inl ⟨by kernel_rfl, ?h14⟩) HS ?r14
          case h14 => (rintro w s1; go_simp) <;> with_reducible rfl
          try simp only [Act.put, List.getElem_toArray, List.getElem_cons_succ, List.getElem_cons_zero, List.setIfInBounds_toArray, List.set_cons_zero, List.set_cons_succ]
          refine wpAnyH_take (i := 15) (v := ?v15) rfl (by kernel_rfl) (by kernel_rfl) (by kernel_rfl) (fun _ _ _ h => h) (Or.inl ⟨by kernel_rfl, ?h15⟩) HS ?r15
          case h15 => (rintro w s1; go_simp) <;> with_reducible rfl
          try simp only [Act.put, List.getElem_toArray, List.getElem_cons_succ, List.getElem_cons_zero, List.setIfInBounds_toArray, List.set_cons_zero, List.set_cons_succ]
          refine wpAnyH_ready (rs := [11]) (by kernel_rfl) (by simp) ?_
          refine AllReadyH.cons rfl (fun K hK => ?_) AllReadyH.nil
          go_simp
          refine (count_any du cc wD HLD.out.u.1).mono ?_
          rintro e wD' ⟨rfl, rfl⟩
          refine hK.out _ _ HS (fun HS => ?_)
          clear hK K
          refine wpAnyH_take (i := 16) (v := ?v16) rfl (by kernel_rfl) (by kernel_rfl) (by kernel_rfl) (fun _ _ _ h => h) (Or.inl ⟨by kernel_rfl, ?h16⟩) HS ?r16
          case h16 => (rintro w s1; go_simp) <;> with_reducible rfl
          try simp only [Act.put, List.getElem_toArray, List.getElem_cons_succ, List.getElem_cons_zero, List.setIfInBounds_toArray, List.set_cons_zero, List.set_cons_succ]
          refine wpAnyH_take (i := 17) (v := ?v17) rfl (by kernel_rfl) (by kernel_rfl) (by kernel_rfl) (fun _ _ _ h => h) (Or.inl ⟨by kernel_rfl, ?h17⟩) HS ?r17
          case h17 => (rintro w s1; go_simp) <;> with_reducible rfl
          try simp only [Act.put, List.getElem_toArray, List.getElem_cons_succ, List.getElem_cons_zero, List.setIfInBounds_toArray, List.set_cons_zero, List.set_cons_succ]
          refine wpAnyH_done (by kernel_rfl) ?_ _
          clear HS
          go_upto_region 15 with fail
          go_loopw [103] (fun s103 wr => ∃ i : Nat, i ≤ m ∧ s103 = .int .i64 (i : Int) ∧ Hid (Below wD'.heap.size wD' wr)) (fun s103 _ => m - (intOf s103).toNat)
          case atStart => exact ⟨0, by omega, rfl, Below.refl _ _⟩
          case round =>
            obtain ⟨i, hi, rfl, hW⟩ := hrel
            by_cases hlt : i < m
            · have hiI : (i : Int) < (m : Int) := by omega
              obtain ⟨g6', ca6', e6, -, -, q6⟩ := HLsD.out.spot
              cases e6
              obtain ⟨g11', ca11', e11, -, -, q11⟩ := HLwD.out.spot
              cases e11
              obtain ⟨ad1, ca1, c1, a1⟩ := q6 i hlt
              obtain ⟨ad2, ca2, c2, a2⟩ := q11 i hlt
              have hzi := HZ6.out i hlt
              have cA := cell_later hW.out c1
              have CP := plain7_any _ _ _ (by omega) wr.drew (a1.later (bchain hW.out (Below.refl _ _).drew))
              have H2 : Hid (Ar wr.drew (.slice ad2 (z i) ca2) (z i) (V i)) := a2.later (bchain hW.out (Below.refl _ _).drew)
              have cB := cell_later hW.out c2
              clear q6 q11 c1 c2 a1 a2
              go_upto_region 17 with fail
              have HbD : Hid (Below wD'.heap.size wD' wr.drew) := bchain hW.out (Below.refl _ _).drew
              refine wp_region_held_drew (S := fun W' => W'.cell? ⟨g11, i, none⟩ = some (.slice ad2 (z i) ca2)) (by kernel_rfl) cB (fun HS => ?_)
              clear hW cA cB
              generalize wr.drew = wR at *
              refine wpAnyH_take (i := 0) (v := ?v18) rfl (by kernel_rfl) (by kernel_rfl) (by kernel_rfl) (fun _ _ _ h => h) (Or.inl ⟨by kernel_rfl, ?h18⟩) HS ?r18
              case h18 => (rintro w s1; go_simp) <;> with_reducible rfl
              try simp only [Act.put, List.getElem_toArray, List.getElem_cons_succ, List.getElem_cons_zero, List.setIfInBounds_toArray, List.set_cons_zero, List.set_cons_succ]
              refine wpAnyH_take (i := 2) (v := ?v19) rfl (by kernel_rfl) (by kernel_rfl) (by kernel_rfl) (fun _ _ _ h => h) (Or.inl ⟨by kernel_rfl, ?h19⟩) HS ?r19
              case h19 => (rintro w s1; go_simp) <;> with_reducible rfl
              try simp only [Act.put, List.getElem_toArray, List.getElem_cons_succ, List.getElem_cons_zero, List.setIfInBounds_toArray, List.set_cons_zero, List.set_cons_succ]
              refine wpAnyH_take (i := 3) (v := ?v20) rfl (by kernel_rfl) (by kernel_rfl) (by kernel_rfl) (fun _ _ _ h => h) (Or.inl ⟨by kernel_rfl, ?h20⟩) HS ?r20
              case h20 => (rintro w s1; go_simp) <;> with_reducible rfl
              try simp only [Act.put, List.getElem_toArray, List.getElem_cons_succ, List.getElem_cons_zero, List.setIfInBounds_toArray, List.set_cons_zero, List.set_cons_succ]
              refine wpAnyH_take (i := 4) (v := ?v21) rfl (by kernel_rfl) (by kernel_rfl) (by kernel_rfl) (fun _ _ _ h => h) (Or.inl ⟨by kernel_rfl, ?h21⟩) HS ?r21
              case h21 => (rintro w s1; go_simp) <;> with_reducible rfl
              try simp only [Act.put, List.getElem_toArray, List.getElem_cons_succ, List.getElem_cons_zero, List.setIfInBounds_toArray, List.set_cons_zero, List.set_cons_succ]
              refine wpAnyH_take (i := 5) (v := ?v22) rfl (by kernel_rfl) (by kernel_rfl) (by kernel_rfl) (fun _ _ _ h => h) (Or.inl ⟨by kernel_rfl, ?h22⟩) HS ?r22
              case h22 => (rintro w s1; go_simp) <;> with_reducible rfl
              try simp only [Act.put, List.getElem_toArray, List.getElem_cons_succ, List.getElem_cons_zero, List.setIfInBounds_toArray, List.set_cons_zero, List.set_cons_succ]
              refine wpAnyH_ready (rs := [1]) (by kernel_rfl) (by simp) ?_
              refine AllReadyH.cons rfl (fun K hK => ?_) AllReadyH.nil
              go_simp
              refine CP.mono ?_
              rintro e w12 ⟨v12, rfl, hA12, hO12, hb12⟩
              refine hK.out _ _ (cell_later hb12 HS) (fun HS => ?_)
              clear hK K
              have CS := same_yes _ _ _ _ (by omega) w12 hA12 (H2.out.later hb12)
              have HbE : Hid (Below wD'.heap.size wD' w12) := bchain HbD.out hb12
              clear CP H2 hA12 hO12 hb12 HbD
              refine wpAnyH_ready (rs := [6]) (by kernel_rfl) (by simp) ?_
              refine AllReadyH.cons rfl (fun K hK => ?_) AllReadyH.nil
              go_simp
              refine CS.mono ?_
              rintro e w13 ⟨rfl, hb13⟩
              refine hK.out _ _ (cell_later hb13 HS) (fun HS => ?_)
              clear hK K
              have HbF : Hid (Below wD'.heap.size wD' w13) := bchain HbE.out hb13
              clear CS HbE hb13
              refine wpAnyH_take (i := 7) (v := ?v23) rfl (by kernel_rfl) (by kernel_rfl) (by kernel_rfl) (fun _ _ _ h => h) (Or.inl ⟨by kernel_rfl, ?h23⟩) HS ?r23
              case h23 => (rintro w s1; go_simp) <;> with_reducible rfl
              try simp only [Act.put, List.getElem_toArray, List.getElem_cons_succ, List.getElem_cons_zero, List.setIfInBounds_toArray, List.set_cons_zero, List.set_cons_succ]
              refine wpAnyH_done (by kernel_rfl) ?_ _
              clear HS
              go_wp2
              go_roundw
              case rel => exact ⟨i + 1, by omega, by go_num, HbF⟩
              case measure => simp [intOf]; omega
            · obtain rfl : i = m := by omega
              go_wp2
              go_ret
              exact ⟨rfl, bchain HLD.out.B hW.out⟩
        · have CF := V2.fwdS _ _ _ m lp lx z P x du 0 w5 (hAu.congr hfz) hPu hXu hs hsh HL5.out.u (hV.later HL5.out.B)
          have hz0 : f 0 = ((z 0 : Nat) : Int) := hfz 0 (by have := hr.1; omega)
          obtain ⟨bs, os, caps, es, -, -, cellS, -⟩ := hAu.spot 0 (by have := hr.1; omega)
          cases es
          have hm0 : (0 : Int) < (m : Int) := by have := hr.1; omega
          have HcS : Hid (w5.cell? ⟨bs, os, none⟩ = some (.int .i64 ((z 0 : Nat) : Int)) ∧ bs < w5.heap.size) := by
            have h := cellS 0 (by have := hr.1; omega)
            rw [hz0, Nat.add_zero] at h
            exact ⟨h, World.block_lt_of_cell? _ _ h⟩
          have hbsd : bs ≠ du := nSu du hdu0 _ _ _ rfl (by have := hr.1; omega)
          have HRi : Hid (∀ W : World, Below w.heap.size w W → Calls Tryz.prog 24 #[.agg #[.slice (some ⟨bs, os, none⟩) m cap, .slice adp lp cpp]] W fun e w' => Tells e (rtP f m lp z) ∧ Below W.heap.size W w') := fun W hb => right7_any _ _ m lp f P z HZz.out (by omega) W (HAll.out.1.later hb) (HAll.out.2.1.later hb)
          have Hns : Hid (¬ (lp = fsN z (m - 1) ∧ lx = z 0)) := hsh
          have Hr : Hid (Rt f m) := hr
          clear cellS hAu hPu hXu hs hfz hz0 hr hsh
          go_wp2_with fail
          refine CF.mono ?_
          rintro e w6 ⟨v6, rfl, ⟨ad6, ca6, rfl⟩, hU6⟩
          have HL6 : Hid (L2 w du dv 0 0 w6) := HL5.out.unu hU6 hdu0 hne
          have HX6 : Hid (Bx w.heap.size (.slice (some ⟨bs, os, none⟩) m cap) (.slice adp lp cpp) w6) := HX5.out.un hU6 hwu
          have HcS6 : Hid (w6.cell? ⟨bs, os, none⟩ = some (.int .i64 ((z 0 : Nat) : Int))) := hU6.o _ _ hbsd HcS.out.1
          have y0 := HX6.out.c0
          clear CF hU6 HL5 HX5 HcS y1
          go_wp2_with fail
          refine (HCt.out _ HL6.out.B).mono ?_
          rintro e w7 ⟨C, rfl, hC, hb7⟩
          have hC0 : ¬ C < 0 := by have := hC.1 Hr.out; omega
          have HL7 : Hid (L2 w du dv 0 0 w7) := HL6.out.later hb7
          have HX7 : Hid (Bx w.heap.size (.slice (some ⟨bs, os, none⟩) m cap) (.slice adp lp cpp) w7) := HX6.out.later hb7
          have HcS7 : Hid (w7.cell? ⟨bs, os, none⟩ = some (.int .i64 ((z 0 : Nat) : Int))) := cell_later hb7 HcS6.out
          have y0 := HX7.out.c0
          have y1 := HX7.out.c1
          clear hC hb7 HL6 HX6 HcS6 HCt
          go_wp2_with fail
          refine (HRi.out _ HL7.out.B).mono ?_
          rintro e w8 ⟨hT, hb8⟩
          have HL8 : Hid (L2 w du dv 0 0 w8) := HL7.out.later hb8
          have y0 := cell_later hb8 HX7.out.c0
          have cS := cell_later hb8 HcS7.out
          have cu := HL8.out.u.1
          have CCn := count_any du 0 w8 cu
          clear HX7 HL7 HcS7 hb8 HRi y1
          by_cases hri : rtP f m lp z
          · have e0 := hT.yes hri
            subst e0
            have hne0 : ¬ (lx : Int) = ((z 0 : Nat) : Int) := fun e => Hns.out ⟨hri.2, by omega⟩
            have hne1 : ((lx : Int) != ((z 0 : Nat) : Int)) = true := by simp only [bne_iff_ne, ne_eq]; exact hne0
            clear hT
            go_wp2_with fail
            refine CCn.mono ?_
            rintro e w9 ⟨rfl, rfl⟩
            go_wp2
            go_ret
            exact ⟨rfl, HL8.out.B⟩
          · have e0 := hT.no hri
            subst e0
            clear hT
            go_wp2_with fail
            refine CCn.mono ?_
            rintro e w9 ⟨rfl, rfl⟩
            go_wp2
            go_ret
            exact ⟨rfl, HL8.out.B⟩
      · have CF := V2.fwdZ _ _ _ m lp lx f P x du 0 w5 (by omega) hAu hPu hXu hr HL5.out.u (hV.later HL5.out.B)
        have Hr : Hid (¬ Rt f m) := hr
        clear hAu hPu hXu hr nSu nPu nXu
        go_wp2_with fail
        refine CF.mono ?_
        rintro e w6 ⟨v6, rfl, ⟨ad6, ca6, rfl⟩, hU6⟩
        have HL6 : Hid (L2 w du dv 0 0 w6) := HL5.out.unu hU6 hdu0 hne
        have y0 := (HX5.out.un hU6 hwu).c0
        clear CF hU6 HL5 HX5 y1
        go_wp2_with fail
        refine (HCt.out _ HL6.out.B).mono ?_
        rintro e w7 ⟨C, rfl, hC, hb7⟩
        have hC0 := hC.2 Hr.out
        subst hC0
        have HL7 : Hid (L2 w du dv 0 0 w7) := HL6.out.later hb7
        have CCn := count_any du 0 w7 HL7.out.u.1
        clear hC hb7 HL6 HCt y0
        go_wp2_with fail
        refine CCn.mono ?_
        rintro e w9 ⟨rfl, rfl⟩
        go_wp2
        go_ret
        exact ⟨rfl, HL7.out.B⟩
    · have hsh : shB (fun _ => lx) 1 = false := shB_no _ _ 0 (by omega) (by omega)
      rw [hsh]
      clear hsh
      go_wp2
      go_ret
      exact ⟨rfl, HB4.out⟩
  · have e0 := hT.no hfw
    subst e0
    clear hT
    go_wp2
    go_ret
    exact ⟨rfl, HB3.out⟩
end Go.Proofs.YtdfjnbkkdgolnaaGreatDoor
set_option linter.unusedVariables false
set_option linter.unusedSimpArgs false
namespace Go.Proofs.YtdfjnbkkdgolnaaGreatDoor
open Go.RowKit

set_option maxHeartbeats 1000000 in
theorem tooLong_any (a : Option Addr) (n c : Nat) (hn : n ≤ maxLen) (w : World) :
    Calls Tryz.prog 114 #[.slice a n c] w fun e w' => e = .returned (.bool (decide (65536 < n))) ∧ w' = w := by
  unfold maxLen at hn
  by_cases h : 65536 < n
  · have h1 : (65536 : Int) < (n : Int) := by omega
    rw [decide_eq_true h]
    clear h
    go_enter Tryz.func114, Tryz.ntmps114
    go_wp2
    go_ret
    exact ⟨rfl, rfl⟩
  · have h1 : ¬ (65536 : Int) < (n : Int) := by omega
    rw [decide_eq_false h]
    clear h
    go_enter Tryz.func114, Tryz.ntmps114
    go_wp2
    go_ret
    exact ⟨rfl, rfl⟩
/-- Whether one of so many vectors is too long. -/
def longB (ns : Nat → Nat) (m : Nat) : Bool := (List.range m).any (fun k => decide (65536 < ns k))
theorem longB_yes (ns : Nat → Nat) (m k : Nat) (hk : k < m) (h : 65536 < ns k) : longB ns m = true :=
  List.any_eq_true.2 ⟨k, List.mem_range.2 hk, decide_eq_true h⟩
theorem longB_no (ns : Nat → Nat) (m : Nat) (h : ∀ k, k < m → ¬ 65536 < ns k) : longB ns m = false := by
  rw [Bool.eq_false_iff]
  intro e
  obtain ⟨k, hk, h2⟩ := List.any_eq_true.1 e
  exact h k (List.mem_range.1 hk) (of_decide_eq_true h2)
/-- A list of lists: where each is, and how long. -/
def Hs (w : World) (v : Value) (m : Nat) (ns : Nat → Nat) : Prop :=
  ∃ (adr : Option Addr) (cap g o : Nat), v = .slice adr m cap ∧ m ≤ cap ∧ cap ≤ maxLen ∧ (0 < m → adr = some ⟨g, o, none⟩) ∧ ∀ k, k < m → ns k ≤ maxLen ∧ ∃ (ad : Option Addr) (ca : Nat), w.cell? ⟨g, o + k, none⟩ = some (.slice ad (ns k) ca)
set_option maxRecDepth 100000 in
set_option maxHeartbeats 2000000 in
theorem index_any (v : Value) (m : Nat) (ns : Nat → Nat) (w : World) (hH : Hs w v m ns) :
    Calls Tryz.prog 136 #[v, .func (.func 114) #[] #[]] w fun e w' => ∃ i : Int, e = .returned (.int .i64 i) ∧ (longB ns m = true → 0 ≤ i) ∧ (longB ns m = false → i < 0) ∧ w' = w := by
  obtain ⟨adr, cap, g, o, rfl, k1, k2, k3, k4⟩ := hH
  unfold maxLen at k2
  have HC : Hid (∀ k, k < m → ns k ≤ maxLen ∧ ∃ (ad : Option Addr) (ca : Nat), w.cell? ⟨g, o + k, none⟩ = some (.slice ad (ns k) ca)) := k4
  have HK : Hid (0 < m → adr = some ⟨g, o, none⟩) := k3
  clear k3 k4
  go_enter Tryz.func136, Tryz.ntmps136
  go_wp2
  go_loopw [8] (fun s8 wr => ∃ j : Nat, j ≤ m ∧ s8 = .int .i64 (j : Int) ∧ Hid (∀ k, k < j → ¬ 65536 < ns k) ∧ wr = w) (fun s8 _ => m - (intOf s8).toNat)
  case atStart => exact ⟨0, by omega, rfl, fun k hk => by omega, rfl⟩
  case round =>
    obtain ⟨j, hj, rfl, hA, rfl⟩ := hrel
    by_cases hlt : j < m
    · have hjI : (j : Int) < (m : Int) := by omega
      have ea := HK.out (by omega)
      subst ea
      obtain ⟨hl, ad, ca, hcell⟩ := HC.out j hlt
      have CT : Hid (∀ W : World, Calls Tryz.prog 114 #[.slice ad (ns j) ca] W fun e w' => e = .returned (.bool (decide (65536 < ns j))) ∧ w' = W) := fun W => tooLong_any ad (ns j) ca hl W
      clear hl
      by_cases hlong : 65536 < ns j
      · rw [decide_eq_true hlong] at CT
        have HF : Hid (longB ns m = true) := longB_yes ns m j hlt hlong
        clear hlong hA
        go_wp2_with (go_at_call 114; refine (CT.out _).mono ?_; rintro e wz ⟨rfl, hz⟩; subst hz)
        go_ret
        exact ⟨_, rfl, fun _ => by omega, fun h => (by rw [HF.out] at h; cases h), rfl⟩
      · rw [decide_eq_false hlong] at CT
        have HA2 : Hid (∀ k, k < j + 1 → ¬ 65536 < ns k) := fun k hk => by
          rcases Nat.lt_or_ge k j with h | h
          · exact hA.out k h
          · obtain rfl : k = j := by omega
            exact hlong
        clear hlong hA
        go_wp2_with (go_at_call 114; refine (CT.out _).mono ?_; rintro e wz ⟨rfl, hz⟩; subst hz)
        go_roundw
        case rel => exact ⟨j + 1, by omega, by go_num, HA2, trivial⟩
        case measure => simp [intOf]; omega
    · have HF : Hid (longB ns m = false) := longB_no ns m (fun k hk => hA.out k (by omega))
      have hjI : ¬ (j : Int) < (m : Int) := by omega
      clear hA
      go_wp2
      go_ret
      exact ⟨_, rfl, fun h => (by rw [HF.out] at h; cases h), fun _ => by omega, rfl⟩
set_option maxHeartbeats 1000000 in
theorem contains_any (v : Value) (m : Nat) (ns : Nat → Nat) (w : World) (hH : Hs w v m ns) :
    Calls Tryz.prog 113 #[v, .func (.func 114) #[] #[]] w fun e w' => e = .returned (.bool (longB ns m)) ∧ w' = w := by
  have CI : Hid (Calls Tryz.prog 136 #[v, .func (.func 114) #[] #[]] w fun e w' => ∃ i : Int, e = .returned (.int .i64 i) ∧ (longB ns m = true → 0 ≤ i) ∧ (longB ns m = false → i < 0) ∧ w' = w) := index_any v m ns w hH
  obtain ⟨adr, cap, g, o, rfl, -, -, -, -⟩ := hH
  generalize longB ns m = B at *
  cases B
  · go_enter Tryz.func113, Tryz.ntmps113
    go_wp2_with fail
    refine CI.out.mono ?_
    rintro e wz ⟨i, rfl, -, h1, hz⟩
    subst hz
    have h2 : ¬ (0 : Int) ≤ i := by have := h1 (by trivial); omega
    clear CI h1
    go_wp2
    go_ret
    exact ⟨by simp [h2], rfl⟩
  · go_enter Tryz.func113, Tryz.ntmps113
    go_wp2_with fail
    refine CI.out.mono ?_
    rintro e wz ⟨i, rfl, h1, -, hz⟩
    subst hz
    have h2 : (0 : Int) ≤ i := h1 (by trivial)
    clear CI h1
    go_wp2
    go_ret
    exact ⟨by simp [h2], rfl⟩
/-- check's answer. -/
def ckE (b : Bool) (ns : Nat → Nat) (m : Nat) : Int := if longB ns m = true then 3 else if b = true then 0 else 40
set_option maxHeartbeats 1000000 in
theorem check_any (b : Bool) (v : Value) (m : Nat) (ns : Nat → Nat) (w : World) (hH : Hs w v m ns) :
    Calls Tryz.prog 81 #[.bool b, v] w fun e w' => e = .returned (.int .i64 (ckE b ns m)) ∧ w' = w := by
  have CI : Hid (Calls Tryz.prog 113 #[v, .func (.func 114) #[] #[]] w fun e w' => e = .returned (.bool (longB ns m)) ∧ w' = w) := contains_any v m ns w hH
  obtain ⟨adr, cap, g, o, rfl, -, -, -, -⟩ := hH
  unfold ckE
  generalize longB ns m = B at *
  cases B <;> cases b
  all_goals
    first
      | rw [if_pos rfl]
      | rw [if_neg (by decide), if_pos rfl]
      | rw [if_neg (by decide), if_neg (by decide)]
    go_enter Tryz.func81, Tryz.ntmps81
    go_wp2_with fail
    refine CI.out.mono ?_
    rintro e wz ⟨rfl, hz⟩
    subst hz
    clear CI
    go_wp2
    go_ret
    exact ⟨rfl, rfl⟩
theorem hs1 (w1 : World) (ada : Option Addr) (n ca : Nat) (k : n ≤ maxLen) : Hs (w1.alloc (.cells #[.slice ada n ca] 23)) (.slice (some ⟨w1.heap.size, 0, none⟩) 1 1) 1 (fun _ => n) := by
  refine ⟨some ⟨w1.heap.size, 0, none⟩, 1, w1.heap.size, 0, rfl, Nat.le_refl _, by unfold maxLen; omega, fun _ => rfl, fun k hk => ?_⟩
  obtain rfl : k = 0 := by omega
  exact ⟨k, ada, ca, by simp [go_sem]⟩
theorem hs2 (w1 : World) (ada adb : Option Addr) (n ca m cb : Nat) (k : n ≤ maxLen) (q : m ≤ maxLen) : Hs (w1.alloc (.cells #[.slice ada n ca, .slice adb m cb] 23)) (.slice (some ⟨w1.heap.size, 0, none⟩) 2 2) 2 (fun k => if k = 0 then n else m) := by
  refine ⟨some ⟨w1.heap.size, 0, none⟩, 2, w1.heap.size, 0, rfl, Nat.le_refl _, by unfold maxLen; omega, fun _ => rfl, fun k hk => ?_⟩
  rcases (show k = 0 ∨ k = 1 by omega) with rfl | rfl
  · exact ⟨k, ada, ca, by simp [go_sem]⟩
  · exact ⟨q, adb, cb, by simp [go_sem]⟩
theorem ckE1 (b : Bool) (n : Nat) : ckE b (fun _ => n) 1 = if 65536 < n then 3 else if b = true then 0 else 40 := by
  unfold ckE longB
  by_cases h : 65536 < n <;> simp [h, List.range_succ]
theorem ckE2 (b : Bool) (n m : Nat) : ckE b (fun k => if k = 0 then n else m) 2 = if 65536 < n ∨ 65536 < m then 3 else if b = true then 0 else 40 := by
  unfold ckE longB
  by_cases h : 65536 < n <;> by_cases h' : 65536 < m <;> simp [h, h', List.range_succ]
theorem check1_any (b : Bool) (w1 : World) (ada : Option Addr) (n ca : Nat) (k : n ≤ maxLen) :
    Calls Tryz.prog 81 #[.bool b, .slice (some ⟨w1.heap.size, 0, none⟩) 1 1] (w1.alloc (.cells #[.slice ada n ca] 23)) fun e w' => e = .returned (.int .i64 (if 65536 < n then 3 else if b = true then 0 else 40)) ∧ w' = w1.alloc (.cells #[.slice ada n ca] 23) := by
  have h := check_any b _ 1 _ _ (hs1 w1 ada n ca k)
  rw [ckE1] at h
  exact h
theorem check2_any (b : Bool) (w1 : World) (ada adb : Option Addr) (n ca m cb : Nat) (k : n ≤ maxLen) (q : m ≤ maxLen) :
    Calls Tryz.prog 81 #[.bool b, .slice (some ⟨w1.heap.size, 0, none⟩) 2 2] (w1.alloc (.cells #[.slice ada n ca, .slice adb m cb] 23)) fun e w' => e = .returned (.int .i64 (if 65536 < n ∨ 65536 < m then 3 else if b = true then 0 else 40)) ∧ w' = w1.alloc (.cells #[.slice ada n ca, .slice adb m cb] 23) := by
  have h := check_any b _ 2 _ _ (hs2 w1 ada adb n ca m cb k q)
  rw [ckE2] at h
  exact h
end Go.Proofs.YtdfjnbkkdgolnaaGreatDoor
set_option linter.unusedVariables false
set_option linter.unusedSimpArgs false
namespace Go.Proofs.YtdfjnbkkdgolnaaGreatDoor
open Go.RowKit

/-- A block of two cells. -/
structure B2 (b : Nat) (x y : Value) (w : World) : Prop where
  c0 : w.cell? ⟨b, 0, none⟩ = some x
  c1 : w.cell? ⟨b, 1, none⟩ = some y
  f0 : w.frozen? ⟨b, 0, none⟩ = false
  f1 : w.frozen? ⟨b, 1, none⟩ = false
theorem B2.new (w : World) (x y : Value) (t : TypeId) : B2 w.heap.size x y (w.alloc (.cells #[x, y] t)) where
  c0 := by simp [go_sem]
  c1 := by simp [go_sem]
  f0 := by simp [go_sem]
  f1 := by simp [go_sem]
theorem B2.later {b : Nat} {x y : Value} {w w' : World} (h : B2 b x y w) (hb : Below w.heap.size w w') : B2 b x y w' where
  c0 := cell_later hb h.c0
  c1 := cell_later hb h.c1
  f0 := frozen_later hb h.c0 h.f0
  f1 := frozen_later hb h.c1 h.f1
theorem B2.far {b : Nat} {x y : Value} {w : World} {p : Addr} (h : B2 b x y w) (u : Value) (hp : p.block ≠ b) : B2 b x y (w.setCell p u) where
  c0 := cell_set hp h.c0
  c1 := cell_set hp h.c1
  f0 := by rw [World.frozen?_setCell]; exact h.f0
  f1 := by rw [World.frozen?_setCell]; exact h.f1
theorem B2.set0 {b : Nat} {x y : Value} {w : World} (h : B2 b x y w) (u : Value) : B2 b u y (w.setCell ⟨b, 0, none⟩ u) := by
  have c0 := h.c0
  have c1 := h.c1
  have f0 := h.f0
  have f1 := h.f1
  exact ⟨by simp [go_sem, c0], by simp [go_sem, c1], by simp [go_sem, f0], by simp [go_sem, f1]⟩
theorem B2.set1 {b : Nat} {x y : Value} {w : World} (h : B2 b x y w) (u : Value) : B2 b x u (w.setCell ⟨b, 1, none⟩ u) := by
  have c0 := h.c0
  have c1 := h.c1
  have f0 := h.f0
  have f1 := h.f1
  exact ⟨by simp [go_sem, c0], by simp [go_sem, c1], by simp [go_sem, f0], by simp [go_sem, f1]⟩

set_option maxHeartbeats 2000000 in
/-- What products' closure answers, its callees' answers given. -/
theorem prod1_of (ts ms ls x y hp lp tp mp lq tr mr lr : Int) (w : World)
    (CM : Hid (∀ W : World, Calls Tryz.prog 95 #[.int .i64 x, .int .i64 y] W fun e w' => e = .returned (.agg #[.int .i64 hp, .int .u64 lp]) ∧ Below W.heap.size W w'))
    (CE : Hid (∀ W : World, Calls Tryz.prog 101 #[.agg #[.int .i64 hp, .int .u64 lp]] W fun e w' => e = .returned (.agg #[.int .i64 tp, .int .u64 mp, .int .u64 lq]) ∧ Below W.heap.size W w'))
    (CP : Hid (∀ W : World, Calls Tryz.prog 129 #[.agg #[.int .i64 ts, .int .u64 ms, .int .u64 ls], .agg #[.int .i64 tp, .int .u64 mp, .int .u64 lq]] W fun e w' => e = .returned (.agg #[.int .i64 tr, .int .u64 mr, .int .u64 lr]) ∧ Below W.heap.size W w')) :
    Calls Tryz.prog 164 #[.agg #[.int .i64 ts, .int .u64 ms, .int .u64 ls], .int .i64 x, .int .i64 y] w fun e w' => e = .returned (.agg #[.int .i64 tr, .int .u64 mr, .int .u64 lr]) ∧ Below w.heap.size w w' := by
  have A0 := (B3.new w (.int .i64 ts) (.int .u64 ms) (.int .u64 ls) 175).later (bel1 _ (.cells #[.int .i64 0, .int .u64 0, .int .u64 0] 175))
  have R0 := B3.new (w.alloc (.cells #[.int .i64 ts, .int .u64 ms, .int .u64 ls] 175)) (.int .i64 0) (.int .u64 0) (.int .u64 0) 175
  have W0 := bel2 w (.cells #[.int .i64 ts, .int .u64 ms, .int .u64 ls] 175) (.cells #[.int .i64 0, .int .u64 0, .int .u64 0] 175)
  simp only [World.size_alloc] at R0
  go_enter Tryz.func164, Tryz.ntmps164
  go_upto_region 1 with fail
  generalize (w.alloc (.cells #[.int .i64 ts, .int .u64 ms, .int .u64 ls] 175)).alloc (.cells #[.int .i64 0, .int .u64 0, .int .u64 0] 175) = w1 at *
  have hd1 : Below w1.heap.size w1 w1.drew := (Below.refl _ _).drew
  have CO := R0.later hd1
  have A := A0.later hd1
  have CW : Hid (Below w.heap.size w w1.drew) := W0.drew
  have CC0 := CO.c0
  have CC1 := CO.c1
  have CC2 := CO.c2
  have CF0 := CO.f0
  have CF1 := CO.f1
  have CF2 := CO.f2
  clear hd1 A0 R0 W0
  go_region_held3 (fun w' => w'.cell? ⟨w.heap.size, 0, none⟩ = some (.int .i64 ts) ∧ w'.cell? ⟨w.heap.size, 1, none⟩ = some (.int .u64 ms) ∧ w'.cell? ⟨w.heap.size, 2, none⟩ = some (.int .u64 ls))
    (first | exact ⟨A.c0, A.c1, A.c2⟩ | (have A' := ((A.far (p := ⟨w.heap.size + 1, 0, none⟩) (.int .i64 tr) (by dsimp only; omega)).far (p := ⟨w.heap.size + 1, 1, none⟩) (.int .u64 mr) (by dsimp only; omega)).far (p := ⟨w.heap.size + 1, 2, none⟩) (.int .u64 lr) (by dsimp only; omega); exact ⟨A'.c0, A'.c1, A'.c2⟩))
    (first
      | (go_at_call 95; refine (CM.out _).mono ?_; rintro e wz ⟨rfl, hb⟩; replace A := A.later hb; replace CC0 := cell_later hb CC0; replace CC1 := cell_later hb CC1; replace CC2 := cell_later hb CC2; replace CF0 := frozen_later hb CO.c0 CF0; replace CF1 := frozen_later hb CO.c1 CF1; replace CF2 := frozen_later hb CO.c2 CF2; replace CO := CO.later hb; replace CW := hidD CW hb; clear hb)
      | (go_at_call 101; refine (CE.out _).mono ?_; rintro e wz ⟨rfl, hb⟩; replace A := A.later hb; replace CC0 := cell_later hb CC0; replace CC1 := cell_later hb CC1; replace CC2 := cell_later hb CC2; replace CF0 := frozen_later hb CO.c0 CF0; replace CF1 := frozen_later hb CO.c1 CF1; replace CF2 := frozen_later hb CO.c2 CF2; replace CO := CO.later hb; replace CW := hidD CW hb; clear hb)
      | (go_at_call 129; refine (CP.out _).mono ?_; rintro e wz ⟨rfl, hb⟩; replace A := A.later hb; replace CC0 := cell_later hb CC0; replace CC1 := cell_later hb CC1; replace CC2 := cell_later hb CC2; replace CF0 := frozen_later hb CO.c0 CF0; replace CF1 := frozen_later hb CO.c1 CF1; replace CF2 := frozen_later hb CO.c2 CF2; replace CO := CO.later hb; replace CW := hidD CW hb; clear hb))
  have W5 := CW.out
  have S0 := ((CO.set0 (.int .i64 tr)).set1 (.int .u64 mr)).set2 (.int .u64 lr)
  have s0 := S0.c0
  have s1 := S0.c1
  have s2 := S0.c2
  clear A CC0 CC1 CC2 CF0 CF1 CF2 CO CW CM CE CP S0
  go_wp2
  exact bodyPost_ret (v := .agg #[.int .i64 tr, .int .u64 mr, .int .u64 lr]) (by simp [results, Tryz.results164, go_sem, s0, s1, s2]) rfl ⟨rfl, ((W5.setCell (by dsimp only; omega) _).setCell (by dsimp only; omega) _).setCell (by dsimp only; omega) _⟩
theorem prod1_any (s x y : Int) (x0 : -9223372036854775808 ≤ x) (x1 : x ≤ 9223372036854775807) (y0 : -9223372036854775808 ≤ y) (y1 : y ≤ 9223372036854775807) (w : World) :
    Calls Tryz.prog 164 #[.agg #[.int .i64 (t3 (s)), .int .u64 (m3 (s)), .int .u64 (lo (s))], .int .i64 x, .int .i64 y] w fun e w' => e = .returned (.agg #[.int .i64 (t3 (s + x * y)), .int .u64 (m3 (s + x * y)), .int .u64 (lo (s + x * y))]) ∧ Below w.heap.size w w' := by
  obtain ⟨p0, p1⟩ := mul_in x y x0 x1 y0 y1
  exact prod1_of _ _ _ x y _ _ _ _ _ _ _ _ w (fun W => mul_any x y x0 x1 y0 y1 W) (fun W => extend_any (x * y) (by omega) (by omega) W) (fun W => plus_any s (x * y) W)

set_option maxRecDepth 100000 in
set_option maxHeartbeats 4000000 in
theorem gatherPairs_any (va vb : Value) (n : Nat) (f g : Nat → Int) (hn : n ≤ 70000) (w : World) (hA : Ar w va n f) (hB : Ar w vb n g) :
    Calls Tryz.prog 163 #[va, vb, .agg #[.int .i64 0, .int .u64 0, .int .u64 0], .func (.func 164) #[] #[]] w fun e w' => e = .returned (.agg #[.int .i64 (t3 (dotV f g n)), .int .u64 (m3 (dotV f g n)), .int .u64 (lo (dotV f g n))]) ∧ Below w.heap.size w w' := by
  obtain ⟨adr, cap, b, o, rfl, k1, k2, k3, k4⟩ := hA
  obtain ⟨adq, caq, bq, oq, rfl, q1, q2, q3, q4⟩ := hB
  unfold maxLen at *
  have HA : Hid (∀ k, k < n → w.cell? ⟨b, o + k, none⟩ = some (.int .i64 (f k)) ∧ -9223372036854775808 ≤ f k ∧ f k ≤ 9223372036854775807) := k4
  have HK : Hid (0 < n → adr = some ⟨b, o, none⟩) := k3
  have HB : Hid (∀ k, k < n → w.cell? ⟨bq, oq + k, none⟩ = some (.int .i64 (g k)) ∧ -9223372036854775808 ≤ g k ∧ g k ≤ 9223372036854775807) := q4
  have HL : Hid (0 < n → adq = some ⟨bq, oq, none⟩) := q3
  clear k3 k4 q3 q4
  go_enter Tryz.func163, Tryz.ntmps163
  go_wp2
  go_loopw [13] (fun si wr => ∃ j : Nat, j ≤ n ∧ si = .int .i64 (j : Int) ∧ B3 w.heap.size (.int .i64 (t3 (dotV f g j))) (.int .u64 (m3 (dotV f g j))) (.int .u64 (lo (dotV f g j))) wr ∧ B3 (w.heap.size + 1) (.int .i64 0) (.int .u64 0) (.int .u64 0) wr ∧ Below w.heap.size w wr) (fun si _ => n - (intOf si).toNat)
  case atStart =>
    have R0 := B3.new (w.alloc (.cells #[.int .i64 0, .int .u64 0, .int .u64 0] 175)) (.int .i64 0) (.int .u64 0) (.int .u64 0) 175
    simp only [World.size_alloc] at R0
    exact ⟨0, by omega, rfl, (B3.new w (.int .i64 0) (.int .u64 0) (.int .u64 0) 175).later (bel1 _ _), R0, bel2 w _ _⟩
  case round =>
    obtain ⟨j, hj, rfl, hS, hR, hW⟩ := hrel
    by_cases hlt : j < n
    · have hjI : (j : Int) < (n : Int) := by omega
      have ea := HK.out (by omega)
      subst ea
      obtain ⟨ca, a0, a1⟩ := HA.out j hlt
      have cA : wr.cell? ⟨b, o + j, none⟩ = some (.int .i64 (f j)) := (hW.cell (World.block_lt_of_cell? _ _ ca)).trans ca
      clear ca
      have eb := HL.out (by omega)
      subst eb
      obtain ⟨cb, b0, b1⟩ := HB.out j hlt
      have cB : wr.cell? ⟨bq, oq + j, none⟩ = some (.int .i64 (g j)) := (hW.cell (World.block_lt_of_cell? _ _ cb)).trans cb
      clear cb
      have CM : Hid (∀ W : World, Calls Tryz.prog 164 #[.agg #[.int .i64 (t3 (dotV f g j)), .int .u64 (m3 (dotV f g j)), .int .u64 (lo (dotV f g j))], .int .i64 (f j), .int .i64 (g j)] W fun e w' => e = .returned (.agg #[.int .i64 (t3 (dotV f g (j + 1))), .int .u64 (m3 (dotV f g (j + 1))), .int .u64 (lo (dotV f g (j + 1)))]) ∧ Below W.heap.size W w') := fun W => prod1_any (dotV f g j) (f j) (g j) a0 a1 b0 b1 W
      clear a0 a1 b0 b1
      generalize t3 (dotV f g j) = tj at *
      generalize m3 (dotV f g j) = mj at *
      generalize lo (dotV f g j) = lj at *
      obtain ⟨tk, htk⟩ : ∃ x, t3 (dotV f g (j + 1)) = x := ⟨_, rfl⟩
      obtain ⟨mk, hmk⟩ : ∃ x, m3 (dotV f g (j + 1)) = x := ⟨_, rfl⟩
      obtain ⟨lk, hlk⟩ : ∃ x, lo (dotV f g (j + 1)) = x := ⟨_, rfl⟩
      rw [htk, hmk, hlk] at CM
      have HE : Hid (t3 (dotV f g (j + 1)) = tk ∧ m3 (dotV f g (j + 1)) = mk ∧ lo (dotV f g (j + 1)) = lk) := ⟨htk, hmk, hlk⟩
      clear htk hmk hlk
      go_upto_region 4 with fail
      have CD := hS.drew
      have CR := hR.drew
      have CV : Hid (Below w.heap.size w wr.drew) := hW.drew
      have xB : wr.drew.cell? ⟨bq, oq + j, none⟩ = some (.int .i64 (g j)) := cB
      have y0 := CD.c0
      have y1 := CD.c1
      have y2 := CD.c2
      clear cA cB hS hR hW
      go_region_with (first
        | (go_at_call 164; refine (CM.out _).mono ?_; rintro e wz ⟨rfl, hb⟩; clear xB y0 y1 y2; replace CD := CD.later hb; replace CR := CR.later hb; replace CV := hidD' CV hb; clear hb; have y0 := CD.c0; have y1 := CD.c1; have y2 := CD.c2; have z0 := CD.f0; have z1 := CD.f1; have z2 := CD.f2))
      all_goals
        have D5 := ((CD.set0 (.int .i64 tk)).set1 (.int .u64 mk)).set2 (.int .u64 lk)
        have R5 := ((CR.far (p := ⟨w.heap.size, 0, none⟩) (.int .i64 tk) (by dsimp only; omega)).far (p := ⟨w.heap.size, 1, none⟩) (.int .u64 mk) (by dsimp only; omega)).far (p := ⟨w.heap.size, 2, none⟩) (.int .u64 lk) (by dsimp only; omega)
        have W5 := ((CV.out.setCell (p := ⟨w.heap.size, 0, none⟩) (Nat.le_refl _) (.int .i64 tk)).setCell (p := ⟨w.heap.size, 1, none⟩) (Nat.le_refl _) (.int .u64 mk)).setCell (p := ⟨w.heap.size, 2, none⟩) (Nat.le_refl _) (.int .u64 lk)
        obtain ⟨rfl, rfl, rfl⟩ := HE.out
        clear CD CR CV CM y0 y1 y2 z0 z1 z2 HE
        go_wp2
        go_roundw
        case rel => exact ⟨j + 1, by omega, by go_num, D5, R5, W5⟩
        case measure => simp [intOf]; omega
    · obtain rfl : j = n := by omega
      have hjI : ¬ (j : Int) < (j : Int) := by omega
      have y0 := hS.c0
      have y1 := hS.c1
      have y2 := hS.c2
      have z0 := hR.c0
      have z1 := hR.c1
      have z2 := hR.c2
      have u0 := hR.f0
      have u1 := hR.f1
      have u2 := hR.f2
      have S0 := ((hR.set0 (.int .i64 (t3 (dotV f g j)))).set1 (.int .u64 (m3 (dotV f g j)))).set2 (.int .u64 (lo (dotV f g j)))
      have s0 := S0.c0
      have s1 := S0.c1
      have s2 := S0.c2
      have W5 := ((hW.setCell (p := ⟨w.heap.size + 1, 0, none⟩) (by dsimp only; omega) (.int .i64 (t3 (dotV f g j)))).setCell (p := ⟨w.heap.size + 1, 1, none⟩) (by dsimp only; omega) (.int .u64 (m3 (dotV f g j)))).setCell (p := ⟨w.heap.size + 1, 2, none⟩) (by dsimp only; omega) (.int .u64 (lo (dotV f g j)))
      clear hS hR hW S0 HA HB HK HL
      go_wp2
      exact bodyPost_ret (v := .agg #[.int .i64 (t3 (dotV f g j)), .int .u64 (m3 (dotV f g j)), .int .u64 (lo (dotV f g j))]) (by simp [results, Tryz.results163, go_sem, s0, s1, s2]) rfl ⟨rfl, W5⟩

set_option maxHeartbeats 1000000 in
theorem products_any (va vb : Value) (n : Nat) (f g : Nat → Int) (hn : n ≤ 70000) (w : World) (hA : Ar w va n f) (hB : Ar w vb n g) :
    Calls Tryz.prog 155 #[va, vb] w fun e w' => e = .returned (.agg #[.int .i64 (t3 (dotV f g n)), .int .u64 (m3 (dotV f g n)), .int .u64 (lo (dotV f g n))]) ∧ Below w.heap.size w w' := by
  have hb0 := bel1 w (.cells #[.int .i64 0, .int .u64 0, .int .u64 0] 175)
  have CG : Hid (Calls Tryz.prog 163 #[va, vb, .agg #[.int .i64 0, .int .u64 0, .int .u64 0], .func (.func 164) #[] #[]] (w.alloc (.cells #[.int .i64 0, .int .u64 0, .int .u64 0] 175)) fun e w' => e = .returned (.agg #[.int .i64 (t3 (dotV f g n)), .int .u64 (m3 (dotV f g n)), .int .u64 (lo (dotV f g n))]) ∧ Below (w.alloc (.cells #[.int .i64 0, .int .u64 0, .int .u64 0] 175)).heap.size (w.alloc (.cells #[.int .i64 0, .int .u64 0, .int .u64 0] 175)) w') := gatherPairs_any va vb n f g hn _ (hA.later hb0) (hB.later hb0)
  have R0 := B3.new w (.int .i64 0) (.int .u64 0) (.int .u64 0) 175
  obtain ⟨adr, cap, b, o, rfl, -, -, -, -⟩ := hA
  obtain ⟨adq, caq, bq, oq, rfl, -, -, -, -⟩ := hB
  generalize t3 (dotV f g n) = tj at *
  generalize m3 (dotV f g n) = mj at *
  generalize lo (dotV f g n) = lj at *
  go_enter Tryz.func155, Tryz.ntmps155
  go_wp2_with fail
  refine CG.out.mono ?_
  rintro e w1 ⟨rfl, hb⟩
  have W1 := bchain hb0 hb
  have R1 := R0.later hb
  have z0 := R1.c0
  have z1 := R1.c1
  have z2 := R1.c2
  have u0 := R1.f0
  have u1 := R1.f1
  have u2 := R1.f2
  have S0 := ((R1.set0 (.int .i64 tj)).set1 (.int .u64 mj)).set2 (.int .u64 lj)
  have s0 := S0.c0
  have s1 := S0.c1
  have s2 := S0.c2
  have W5 := ((W1.setCell (p := ⟨w.heap.size, 0, none⟩) (Nat.le_refl _) (.int .i64 tj)).setCell (p := ⟨w.heap.size, 1, none⟩) (Nat.le_refl _) (.int .u64 mj)).setCell (p := ⟨w.heap.size, 2, none⟩) (Nat.le_refl _) (.int .u64 lj)
  clear R0 R1 S0 hb hb0 W1 CG
  go_wp2
  exact bodyPost_ret (v := .agg #[.int .i64 tj, .int .u64 mj, .int .u64 lj]) (by simp [results, Tryz.results155, go_sem, s0, s1, s2]) rfl ⟨rfl, W5⟩

set_option maxHeartbeats 2000000 in
theorem plus1_of (hs ls x hp lp hr lr : Int) (w : World)
    (CM : Hid (∀ W : World, Calls Tryz.prog 98 #[.int .i64 x] W fun e w' => e = .returned (.agg #[.int .i64 hp, .int .u64 lp]) ∧ Below W.heap.size W w'))
    (CP : Hid (∀ W : World, Calls Tryz.prog 97 #[.agg #[.int .i64 hs, .int .u64 ls], .agg #[.int .i64 hp, .int .u64 lp]] W fun e w' => e = .returned (.agg #[.int .i64 hr, .int .u64 lr]) ∧ Below W.heap.size W w')) :
    Calls Tryz.prog 86 #[.agg #[.int .i64 hs, .int .u64 ls], .int .i64 x] w fun e w' => e = .returned (.agg #[.int .i64 hr, .int .u64 lr]) ∧ Below w.heap.size w w' := by
  have A0 := (B2.new w (.int .i64 hs) (.int .u64 ls) 158).later (bel1 _ (.cells #[.int .i64 0, .int .u64 0] 158))
  have R0 := B2.new (w.alloc (.cells #[.int .i64 hs, .int .u64 ls] 158)) (.int .i64 0) (.int .u64 0) 158
  have W0 := bel2 w (.cells #[.int .i64 hs, .int .u64 ls] 158) (.cells #[.int .i64 0, .int .u64 0] 158)
  simp only [World.size_alloc] at R0
  go_enter Tryz.func86, Tryz.ntmps86
  go_upto_region 1 with fail
  generalize (w.alloc (.cells #[.int .i64 hs, .int .u64 ls] 158)).alloc (.cells #[.int .i64 0, .int .u64 0] 158) = w1 at *
  have hd1 : Below w1.heap.size w1 w1.drew := (Below.refl _ _).drew
  have CO := R0.later hd1
  have A := A0.later hd1
  have CW : Hid (Below w.heap.size w w1.drew) := W0.drew
  have CC0 := CO.c0
  have CC1 := CO.c1
  have CF0 := CO.f0
  have CF1 := CO.f1
  clear hd1 A0 R0 W0
  go_region_held3 (fun w' => w'.cell? ⟨w.heap.size, 0, none⟩ = some (.int .i64 hs) ∧ w'.cell? ⟨w.heap.size, 1, none⟩ = some (.int .u64 ls))
    (first | exact ⟨A.c0, A.c1⟩ | (have A' := (A.far (p := ⟨w.heap.size + 1, 0, none⟩) (.int .i64 hr) (by dsimp only; omega)).far (p := ⟨w.heap.size + 1, 1, none⟩) (.int .u64 lr) (by dsimp only; omega); exact ⟨A'.c0, A'.c1⟩))
    (first
      | (go_at_call 98; refine (CM.out _).mono ?_; rintro e wz ⟨rfl, hb⟩; replace A := A.later hb; replace CC0 := cell_later hb CC0; replace CC1 := cell_later hb CC1; replace CF0 := frozen_later hb CO.c0 CF0; replace CF1 := frozen_later hb CO.c1 CF1; replace CO := CO.later hb; replace CW := hidD CW hb; clear hb)
      | (go_at_call 97; refine (CP.out _).mono ?_; rintro e wz ⟨rfl, hb⟩; replace A := A.later hb; replace CC0 := cell_later hb CC0; replace CC1 := cell_later hb CC1; replace CF0 := frozen_later hb CO.c0 CF0; replace CF1 := frozen_later hb CO.c1 CF1; replace CO := CO.later hb; replace CW := hidD CW hb; clear hb))
  have W5 := CW.out
  have S0 := (CO.set0 (.int .i64 hr)).set1 (.int .u64 lr)
  have s0 := S0.c0
  have s1 := S0.c1
  clear A CC0 CC1 CF0 CF1 CO CW CM CP S0
  go_wp2
  exact bodyPost_ret (v := .agg #[.int .i64 hr, .int .u64 lr]) (by simp [results, Tryz.results86, go_sem, s0, s1]) rfl ⟨rfl, (W5.setCell (by dsimp only; omega) _).setCell (by dsimp only; omega) _⟩
theorem plus1_any (s x : Int) (x0 : -9223372036854775808 ≤ x) (x1 : x ≤ 9223372036854775807) (w : World) :
    Calls Tryz.prog 86 #[.agg #[.int .i64 (hi (s)), .int .u64 (lo (s))], .int .i64 x] w fun e w' => e = .returned (.agg #[.int .i64 (hi (s + x)), .int .u64 (lo (s + x))]) ∧ Below w.heap.size w w' :=
  plus1_of _ _ x _ _ _ _ w (fun W => of_any x x0 x1 W) (fun W => add_any s x W)

set_option maxRecDepth 100000 in
set_option maxHeartbeats 4000000 in
theorem gather_any (va : Value) (n : Nat) (f : Nat → Int) (w : World) (hA : Ar w va n f) :
    Calls Tryz.prog 118 #[va, .agg #[.int .i64 0, .int .u64 0], .func (.func 86) #[] #[]] w fun e w' => e = .returned (.agg #[.int .i64 (hi (sumV f n)), .int .u64 (lo (sumV f n))]) ∧ Below w.heap.size w w' := by
  obtain ⟨adr, cap, b, o, rfl, k1, k2, k3, k4⟩ := hA
  unfold maxLen at *
  have HA : Hid (∀ k, k < n → w.cell? ⟨b, o + k, none⟩ = some (.int .i64 (f k)) ∧ -9223372036854775808 ≤ f k ∧ f k ≤ 9223372036854775807) := k4
  have HK : Hid (0 < n → adr = some ⟨b, o, none⟩) := k3
  clear k3 k4
  go_enter Tryz.func118, Tryz.ntmps118
  go_wp2
  go_loopw [11] (fun si wr => ∃ j : Nat, j ≤ n ∧ si = .int .i64 (j : Int) ∧ B2 w.heap.size (.int .i64 (hi (sumV f j))) (.int .u64 (lo (sumV f j))) wr ∧ B2 (w.heap.size + 1) (.int .i64 0) (.int .u64 0) wr ∧ Below w.heap.size w wr) (fun si _ => n - (intOf si).toNat)
  case atStart =>
    have R0 := B2.new (w.alloc (.cells #[.int .i64 0, .int .u64 0] 158)) (.int .i64 0) (.int .u64 0) 158
    simp only [World.size_alloc] at R0
    exact ⟨0, by omega, rfl, (B2.new w (.int .i64 0) (.int .u64 0) 158).later (bel1 _ _), R0, bel2 w _ _⟩
  case round =>
    obtain ⟨j, hj, rfl, hS, hR, hW⟩ := hrel
    by_cases hlt : j < n
    · have hjI : (j : Int) < (n : Int) := by omega
      have ea := HK.out (by omega)
      subst ea
      obtain ⟨ca, a0, a1⟩ := HA.out j hlt
      have cA : wr.cell? ⟨b, o + j, none⟩ = some (.int .i64 (f j)) := (hW.cell (World.block_lt_of_cell? _ _ ca)).trans ca
      clear ca
      have CM : Hid (∀ W : World, Calls Tryz.prog 86 #[.agg #[.int .i64 (hi (sumV f j)), .int .u64 (lo (sumV f j))], .int .i64 (f j)] W fun e w' => e = .returned (.agg #[.int .i64 (hi (sumV f (j + 1))), .int .u64 (lo (sumV f (j + 1)))]) ∧ Below W.heap.size W w') := fun W => plus1_any (sumV f j) (f j) a0 a1 W
      clear a0 a1
      generalize hi (sumV f j) = tj at *
      generalize lo (sumV f j) = lj at *
      obtain ⟨tk, htk⟩ : ∃ x, hi (sumV f (j + 1)) = x := ⟨_, rfl⟩
      obtain ⟨lk, hlk⟩ : ∃ x, lo (sumV f (j + 1)) = x := ⟨_, rfl⟩
      rw [htk, hlk] at CM
      have HE : Hid (hi (sumV f (j + 1)) = tk ∧ lo (sumV f (j + 1)) = lk) := ⟨htk, hlk⟩
      clear htk hlk
      have y0 := hS.c0
      have y1 := hS.c1
      have HW : Hid (Below w.heap.size w wr) := hW
      clear hW
      go_wp2_with (go_at_call 86; refine (CM.out _).mono ?_; rintro e wz ⟨rfl, hb⟩; clear cA y0 y1; replace hS := hS.later hb; replace hR := hR.later hb; replace HW := hidD' HW hb; clear hb; have y0 := hS.c0; have y1 := hS.c1; have z0 := hS.f0; have z1 := hS.f1)
      have D5 := (hS.set0 (.int .i64 tk)).set1 (.int .u64 lk)
      have R5 := (hR.far (p := ⟨w.heap.size, 0, none⟩) (.int .i64 tk) (by dsimp only; omega)).far (p := ⟨w.heap.size, 1, none⟩) (.int .u64 lk) (by dsimp only; omega)
      have W5 := (HW.out.setCell (p := ⟨w.heap.size, 0, none⟩) (Nat.le_refl _) (.int .i64 tk)).setCell (p := ⟨w.heap.size, 1, none⟩) (Nat.le_refl _) (.int .u64 lk)
      obtain ⟨rfl, rfl⟩ := HE.out
      go_roundw
      case rel => exact ⟨j + 1, by omega, by go_num, D5, R5, W5⟩
      case measure => simp [intOf]; omega
    · obtain rfl : j = n := by omega
      have hjI : ¬ (j : Int) < (j : Int) := by omega
      have y0 := hS.c0
      have y1 := hS.c1
      have z0 := hR.c0
      have z1 := hR.c1
      have u0 := hR.f0
      have u1 := hR.f1
      have S0 := (hR.set0 (.int .i64 (hi (sumV f j)))).set1 (.int .u64 (lo (sumV f j)))
      have s0 := S0.c0
      have s1 := S0.c1
      have W5 := (hW.setCell (p := ⟨w.heap.size + 1, 0, none⟩) (by dsimp only; omega) (.int .i64 (hi (sumV f j)))).setCell (p := ⟨w.heap.size + 1, 1, none⟩) (by dsimp only; omega) (.int .u64 (lo (sumV f j)))
      clear hS hR hW S0 HA HK
      go_wp2
      exact bodyPost_ret (v := .agg #[.int .i64 (hi (sumV f j)), .int .u64 (lo (sumV f j))]) (by simp [results, Tryz.results118, go_sem, s0, s1]) rfl ⟨rfl, W5⟩

set_option maxHeartbeats 1000000 in
theorem total_any (va : Value) (n : Nat) (f : Nat → Int) (w : World) (hA : Ar w va n f) :
    Calls Tryz.prog 90 #[va] w fun e w' => e = .returned (.agg #[.int .i64 (hi (sumV f n)), .int .u64 (lo (sumV f n))]) ∧ Below w.heap.size w w' := by
  have hb0 := bel1 w (.cells #[.int .i64 0, .int .u64 0] 158)
  have CG : Hid (Calls Tryz.prog 118 #[va, .agg #[.int .i64 0, .int .u64 0], .func (.func 86) #[] #[]] (w.alloc (.cells #[.int .i64 0, .int .u64 0] 158)) fun e w' => e = .returned (.agg #[.int .i64 (hi (sumV f n)), .int .u64 (lo (sumV f n))]) ∧ Below (w.alloc (.cells #[.int .i64 0, .int .u64 0] 158)).heap.size (w.alloc (.cells #[.int .i64 0, .int .u64 0] 158)) w') := gather_any va n f _ (hA.later hb0)
  have R0 := B2.new w (.int .i64 0) (.int .u64 0) 158
  obtain ⟨adr, cap, b, o, rfl, -, -, -, -⟩ := hA
  generalize hi (sumV f n) = tj at *
  generalize lo (sumV f n) = lj at *
  go_enter Tryz.func90, Tryz.ntmps90
  go_wp2_with fail
  refine CG.out.mono ?_
  rintro e w1 ⟨rfl, hb⟩
  have W1 := bchain hb0 hb
  have R1 := R0.later hb
  have z0 := R1.c0
  have z1 := R1.c1
  have u0 := R1.f0
  have u1 := R1.f1
  have S0 := (R1.set0 (.int .i64 tj)).set1 (.int .u64 lj)
  have s0 := S0.c0
  have s1 := S0.c1
  have W5 := (W1.setCell (p := ⟨w.heap.size, 0, none⟩) (Nat.le_refl _) (.int .i64 tj)).setCell (p := ⟨w.heap.size, 1, none⟩) (Nat.le_refl _) (.int .u64 lj)
  clear R0 R1 S0 hb hb0 W1 CG
  go_wp2
  exact bodyPost_ret (v := .agg #[.int .i64 tj, .int .u64 lj]) (by simp [results, Tryz.results90, go_sem, s0, s1]) rfl ⟨rfl, W5⟩

set_option maxHeartbeats 1000000 in
theorem vhold_nil (v : Int) (h0 : -170141183460469231731687303715884105728 ≤ v) (h1 : v ≤ 170141183460469231731687303715884105727) (w : World) :
    Calls Tryz.prog 117 #[.pointer none, .agg #[.int .i64 (hi (v)), .int .u64 (lo (v))]] w fun e w' => e = .returned (.int .i64 (clv v)) ∧ Below w.heap.size w w' := by
  obtain ⟨k0, k1⟩ := clv_fit v
  have CC : Hid (∀ W : World, Calls Tryz.prog 96 #[.agg #[.int .i64 (hi (v)), .int .u64 (lo (v))]] W fun e w' => e = .returned (.tuple #[.int .i64 (clv v), .bool (ovv v)]) ∧ Below W.heap.size W w') := fun W => clamp_any v h0 h1 W
  generalize clv v = x at *
  generalize ovv v = y at *
  go_enter Tryz.func117, Tryz.ntmps117
  go_wp2_with fail
  refine (CC.out _).mono ?_
  rintro e w1 ⟨rfl, hb⟩
  have W1 := bchain (bel1 w _) hb
  clear hb
  go_wp2_with fail
  refine (take_nil _ _ _).mono ?_
  rintro e w2 ⟨rfl, hz⟩
  subst hz
  clear CC
  go_wp2
  go_ret
  exact ⟨rfl, W1⟩

set_option maxHeartbeats 1000000 in
theorem vhold_un (v : Int) (h0 : -170141183460469231731687303715884105728 ≤ v) (h1 : v ≤ 170141183460469231731687303715884105727) (d : Nat) (n : Int) (n0 : 0 ≤ n) (n1 : n ≤ 1000000000) (w : World) (c : w.cell? ⟨d, 0, none⟩ = some (.int .i64 n)) (f : w.frozen? ⟨d, 0, none⟩ = false) :
    Calls Tryz.prog 117 #[.pointer (some ⟨d, 0, none⟩), .agg #[.int .i64 (hi (v)), .int .u64 (lo (v))]] w fun e w' => e = .returned (.int .i64 (clv v)) ∧ Un d (n + bi (ovv v)) w w' := by
  obtain ⟨k0, k1⟩ := clv_fit v
  have CC : Hid (∀ W : World, Calls Tryz.prog 96 #[.agg #[.int .i64 (hi (v)), .int .u64 (lo (v))]] W fun e w' => e = .returned (.tuple #[.int .i64 (clv v), .bool (ovv v)]) ∧ Below W.heap.size W w') := fun W => clamp_any v h0 h1 W
  generalize clv v = x at *
  generalize ovv v = y at *
  go_enter Tryz.func117, Tryz.ntmps117
  go_wp2_with fail
  refine (CC.out _).mono ?_
  rintro e w1 ⟨rfl, hb⟩
  have W1 := bchain (bel1 w _) hb
  clear hb
  have c1 := cell_later W1 c
  have f1 := frozen_later W1 c f
  go_wp2_with fail
  refine (take_un d n _ _ n0 n1 _ c1 f1).mono ?_
  rintro e w2 ⟨rfl, hU⟩
  have hV := Un.after W1 hU
  clear hU c1 f1 c f CC
  go_wp2
  go_ret
  exact ⟨rfl, hV⟩

theorem dotV_rng (va vb : Value) (n : Nat) (f g : Nat → Int) (hn : n ≤ 70000) (w : World) (hA : Ar w va n f) (hB : Ar w vb n g) : -3138550867693340381917894711603833208051177722232017256448 ≤ dotV f g n ∧ dotV f g n ≤ 3138550867693340381917894711603833208051177722232017256447 := by
  obtain ⟨_, _, _, _, _, _, _, _, h1⟩ := hA
  obtain ⟨_, _, _, _, _, _, _, _, h2⟩ := hB
  have key : ∀ k, k ≤ n → -((k : Int) * 85070591730234615865843651857942052864) ≤ dotV f g k ∧ dotV f g k ≤ (k : Int) * 85070591730234615865843651857942052864 := by
    intro k
    induction k with
    | zero => intro _; exact ⟨by simp [dotV], by simp [dotV]⟩
    | succ k ih =>
      intro hk
      obtain ⟨i0, i1⟩ := ih (by omega)
      obtain ⟨p0, p1⟩ := mul_in (f k) (g k) (h1 k (by omega)).2.1 (h1 k (by omega)).2.2 (h2 k (by omega)).2.1 (h2 k (by omega)).2.2
      have e : dotV f g (k + 1) = dotV f g k + f k * g k := rfl
      rw [e]
      generalize f k * g k = p at *
      constructor <;> omega
  obtain ⟨a, b⟩ := key n (Nat.le_refl _)
  constructor <;> omega
theorem sumV_small (va : Value) (n : Nat) (f : Nat → Int) (w : World) (hA : Ar w va n f) : -((n : Int) * 9223372036854775808) ≤ sumV f n ∧ sumV f n ≤ (n : Int) * 9223372036854775808 := by
  obtain ⟨_, _, _, _, _, _, _, _, h1⟩ := hA
  have key : ∀ k, k ≤ n → -((k : Int) * 9223372036854775808) ≤ sumV f k ∧ sumV f k ≤ (k : Int) * 9223372036854775808 := by
    intro k
    induction k with
    | zero => intro _; exact ⟨by simp [sumV], by simp [sumV]⟩
    | succ k ih =>
      intro hk
      obtain ⟨i0, i1⟩ := ih (by omega)
      have p0 := (h1 k (by omega)).2.1
      have p1 := (h1 k (by omega)).2.2
      have e : sumV f (k + 1) = sumV f k + f k := rfl
      rw [e]
      constructor <;> omega
  exact key n (Nat.le_refl _)
theorem sumV_rng (va : Value) (n : Nat) (f : Nat → Int) (hn : n ≤ 9223372036854775807) (w : World) (hA : Ar w va n f) : -170141183460469231731687303715884105728 ≤ sumV f n ∧ sumV f n ≤ 170141183460469231731687303715884105727 := by
  obtain ⟨a, b⟩ := sumV_small va n f w hA
  constructor <;> omega
set_option maxHeartbeats 1000000 in
theorem vdot_nil (va vb : Value) (n : Nat) (f g : Nat → Int) (hn : n ≤ 70000) (w : World) (hT : TabAt w) (hA : Ar w va n f) (hB : Ar w vb n g) :
    Calls Tryz.prog 135 #[.pointer none, va, vb] w fun e w' => e = .returned (.int .i64 (clv (rr (dotV f g n) 32))) ∧ Below w.heap.size w w' := by
  have CG : Hid (Calls Tryz.prog 155 #[va, vb] w fun e w' => e = .returned (.agg #[.int .i64 (t3 (dotV f g n)), .int .u64 (m3 (dotV f g n)), .int .u64 (lo (dotV f g n))]) ∧ Below w.heap.size w w') := products_any va vb n f g hn w hA hB
  obtain ⟨r0, r1⟩ := dotV_rng va vb n f g hn w hA hB
  have HN : Hid (∀ W : World, TabAt W → Calls Tryz.prog 103 #[.pointer none, .agg #[.int .i64 (t3 (dotV f g n)), .int .u64 (m3 (dotV f g n)), .int .u64 (lo (dotV f g n))], .int .i64 32] W fun e w' => e = .returned (.int .i64 (clv (rr (dotV f g n) 32))) ∧ Below W.heap.size W w') := fun W h => uNear_nil (dotV f g n) r0 r1 W h
  obtain ⟨k0, k1⟩ := clv_fit (rr (dotV f g n) 32)
  have HT : Hid (TabAt w) := hT
  obtain ⟨adr, cap, b, o, rfl, -, -, -, -⟩ := hA
  obtain ⟨adq, caq, bq, oq, rfl, -, -, -, -⟩ := hB
  clear hT r0 r1
  generalize clv (rr (dotV f g n) 32) = x at *
  generalize t3 (dotV f g n) = tj at *
  generalize m3 (dotV f g n) = mj at *
  generalize lo (dotV f g n) = lj at *
  go_enter Tryz.func135, Tryz.ntmps135
  go_wp2_with fail
  refine CG.out.mono ?_
  rintro e w1 ⟨rfl, W1⟩
  have T1 : Hid (TabAt w1) := HT.out.later W1
  clear CG HT
  go_wp2_with fail
  refine (HN.out _ T1.out).mono ?_
  rintro e w2 ⟨rfl, hb⟩
  have W2 := bchain W1 hb
  clear hb HN T1
  go_wp2
  go_ret
  exact ⟨rfl, W2⟩

set_option maxHeartbeats 1000000 in
theorem vdot_un (va vb : Value) (n : Nat) (f g : Nat → Int) (hn : n ≤ 70000) (d : Nat) (c : Int) (c0 : 0 ≤ c) (c1 : c ≤ 1000000000) (w : World) (hT : TabAt w) (hA : Ar w va n f) (hB : Ar w vb n g) (hc : w.cell? ⟨d, 0, none⟩ = some (.int .i64 c)) (hf : w.frozen? ⟨d, 0, none⟩ = false) :
    Calls Tryz.prog 135 #[.pointer (some ⟨d, 0, none⟩), va, vb] w fun e w' => e = .returned (.int .i64 (clv (rr (dotV f g n) 32))) ∧ Un d (c + bi (ovv (rr (dotV f g n) 32))) w w' := by
  have CG : Hid (Calls Tryz.prog 155 #[va, vb] w fun e w' => e = .returned (.agg #[.int .i64 (t3 (dotV f g n)), .int .u64 (m3 (dotV f g n)), .int .u64 (lo (dotV f g n))]) ∧ Below w.heap.size w w') := products_any va vb n f g hn w hA hB
  obtain ⟨r0, r1⟩ := dotV_rng va vb n f g hn w hA hB
  have HN : Hid (∀ W : World, TabAt W → W.cell? ⟨d, 0, none⟩ = some (.int .i64 c) → W.frozen? ⟨d, 0, none⟩ = false → Calls Tryz.prog 103 #[.pointer (some ⟨d, 0, none⟩), .agg #[.int .i64 (t3 (dotV f g n)), .int .u64 (m3 (dotV f g n)), .int .u64 (lo (dotV f g n))], .int .i64 32] W fun e w' => e = .returned (.int .i64 (clv (rr (dotV f g n) 32))) ∧ Un d (c + bi (ovv (rr (dotV f g n) 32))) W w') := fun W h hc hf => uNear_un (dotV f g n) r0 r1 d c c0 c1 W h hc hf
  obtain ⟨k0, k1⟩ := clv_fit (rr (dotV f g n) 32)
  have HT : Hid (TabAt w) := hT
  obtain ⟨adr, cap, b, o, rfl, -, -, -, -⟩ := hA
  obtain ⟨adq, caq, bq, oq, rfl, -, -, -, -⟩ := hB
  clear hT r0 r1
  generalize clv (rr (dotV f g n) 32) = x at *
  generalize bi (ovv (rr (dotV f g n) 32)) = z at *
  generalize t3 (dotV f g n) = tj at *
  generalize m3 (dotV f g n) = mj at *
  generalize lo (dotV f g n) = lj at *
  go_enter Tryz.func135, Tryz.ntmps135
  go_wp2_with fail
  refine CG.out.mono ?_
  rintro e w1 ⟨rfl, W1⟩
  have T1 : Hid (TabAt w1) := HT.out.later W1
  have x1 := cell_later W1 hc
  have y1 := frozen_later W1 hc hf
  clear CG HT
  go_wp2_with fail
  refine (HN.out _ T1.out x1 y1).mono ?_
  rintro e w2 ⟨rfl, hU⟩
  have hV := Un.after W1 hU
  clear hU HN T1 x1 y1 hc hf
  go_wp2
  go_ret
  exact ⟨rfl, hV⟩

end Go.Proofs.YtdfjnbkkdgolnaaGreatDoor
set_option linter.unusedVariables false
set_option linter.unusedSimpArgs false
namespace Go.Proofs.YtdfjnbkkdgolnaaGreatDoor
open Go.RowKit


set_option maxHeartbeats 2000000 in
theorem Dot_un (va vb : Value) (n m : Nat) (f g : Nat → Int) (d : Nat) (c : Int) (w : World) (hn : n ≤ 70000) (hm : m ≤ 70000) (c0 : 0 ≤ c) (c1 : c ≤ 900000000) (hV : VT w) (hA : Ar w va n f) (hB : Ar w vb m g) (ha : Nb va d) (hb : Nb vb d) (hU : Uc w d c) :
    Calls Tryz.prog 111 #[.pointer (some ⟨d, 0, none⟩), va, vb] w fun e w' => e = .returned (.tuple #[.int .i64 (dX n m f g), .int .i64 (dE n m)]) ∧ Un d (c + bi (dO n m f g)) w w' := by
  obtain ⟨ada, ca, ba, oa, rfl, k1, k2, -, -⟩ := id hA
  obtain ⟨adb, cb, bb, ob, rfl, q1, q2, -, -⟩ := id hB
  have hb0 := bel1 w (.cells #[.slice ada n ca, .slice adb m cb] 23)
  obtain ⟨hc, hf⟩ := hU
  have hc' := cell_later hb0 hc
  have hf' := frozen_later hb0 hc hf
  unfold maxLen at *
  rcases (show (n = m ∧ n ≤ 65536) ∨ (n = m ∧ 65536 < n) ∨ n ≠ m by omega) with ⟨hnm, hl⟩ | ⟨hnm, hl⟩ | hnm
  · subst hnm
    have hE : dE n n = 0 := by unfold dE; rw [if_neg (by omega), if_pos rfl]
    have hs1 : ¬ (65536 : Int) < (n : Int) := by omega
    have CK : Hid (Calls Tryz.prog 81 #[.bool true, .slice (some ⟨w.heap.size, 0, none⟩) 2 2] (w.alloc (.cells #[.slice ada n ca, .slice adb n cb] 23)) fun e w' => e = .returned (.int .i64 0) ∧ w' = w.alloc (.cells #[.slice ada n ca, .slice adb n cb] 23)) := by
      have h := check2_any true w ada adb n ca n cb (by unfold maxLen; omega) (by unfold maxLen; omega)
      rw [if_neg (by omega), if_pos rfl] at h
      exact h
    have CD : Hid (Calls Tryz.prog 135 #[.pointer (some ⟨d, 0, none⟩), .slice ada n ca, .slice adb n cb] (w.alloc (.cells #[.slice ada n ca, .slice adb n cb] 23)) fun e w' => e = .returned (.int .i64 (clv (rr (dotV f g n) 32))) ∧ Un d (c + bi (ovv (rr (dotV f g n) 32))) (w.alloc (.cells #[.slice ada n ca, .slice adb n cb] 23)) w') := vdot_un _ _ n f g hn d c c0 (by omega) _ (VT.later hV hb0) (hA.later hb0) (hB.later hb0) hc' hf'
    rw [show dX n n f g = clv (rr (dotV f g n) 32) by unfold dX; rw [if_pos hE], show dO n n f g = ovv (rr (dotV f g n) 32) by unfold dO; rw [if_pos hE], hE]
    generalize clv (rr (dotV f g n) 32) = x at *
    generalize bi (ovv (rr (dotV f g n) 32)) = z at *
    clear hA hB hV hc hf ha hb hE
    go_enter Tryz.func111, Tryz.ntmps111
    go_wp2_with fail
    refine CK.out.mono ?_
    rintro e w1 ⟨rfl, hz⟩
    subst hz
    clear CK
    go_wp2_with fail
    refine CD.out.mono ?_
    rintro e w3 ⟨rfl, hU⟩
    have hX := Un.after hb0 hU
    clear hU hc' hf' CD hb0
    go_wp2
    go_ret2
    exact ⟨rfl, hX⟩
  · subst hnm
    have hE : dE n n = 3 := by unfold dE; rw [if_pos (by omega)]
    have CK : Hid (Calls Tryz.prog 81 #[.bool true, .slice (some ⟨w.heap.size, 0, none⟩) 2 2] (w.alloc (.cells #[.slice ada n ca, .slice adb n cb] 23)) fun e w' => e = .returned (.int .i64 3) ∧ w' = w.alloc (.cells #[.slice ada n ca, .slice adb n cb] 23)) := by
      have h := check2_any true w ada adb n ca n cb (by unfold maxLen; omega) (by unfold maxLen; omega)
      rw [if_pos (by omega)] at h
      exact h
    rw [show dX n n f g = 0 by unfold dX; rw [if_neg (by rw [hE]; decide)], show dO n n f g = false by unfold dO; rw [if_neg (by rw [hE]; decide)], hE]
    rw [show c + bi false = c by unfold bi; simp]
    have hX := Un.after hb0 (Un.same hc' hf')
    clear hA hB hV hc hf ha hb hc' hf' hb0 hE
    go_enter Tryz.func111, Tryz.ntmps111
    go_wp2_with fail
    refine CK.out.mono ?_
    rintro e w1 ⟨rfl, hz⟩
    subst hz
    clear CK
    go_wp2
    go_ret2
    exact ⟨rfl, hX⟩
  · have hnI : ((n : Int) == (m : Int)) = false := beq_eq_false_iff_ne.2 (by omega)
    obtain ⟨E, hE⟩ : ∃ E, dE n m = E := ⟨_, rfl⟩
    have hck : (if 65536 < n ∨ 65536 < m then (3 : Int) else if false = true then 0 else 40) = E := by rw [← hE]; unfold dE; rw [if_neg (show ¬ false = true by decide), if_neg hnm]
    have hne : ¬ E = 0 := by rw [← hE]; unfold dE; split <;> simp [hnm]
    have CK : Hid (Calls Tryz.prog 81 #[.bool false, .slice (some ⟨w.heap.size, 0, none⟩) 2 2] (w.alloc (.cells #[.slice ada n ca, .slice adb m cb] 23)) fun e w' => e = .returned (.int .i64 E) ∧ w' = w.alloc (.cells #[.slice ada n ca, .slice adb m cb] 23)) := by
      have h := check2_any false w ada adb n ca m cb (by unfold maxLen; omega) (by unfold maxLen; omega)
      rw [hck] at h
      exact h
    rw [show dX n m f g = 0 by unfold dX; rw [if_neg (by rw [hE]; exact hne)], show dO n m f g = false by unfold dO; rw [if_neg (by rw [hE]; exact hne)], hE]
    rw [show c + bi false = c by unfold bi; simp]
    have hX := Un.after hb0 (Un.same hc' hf')
    clear hA hB hV hc hf ha hb hc' hf' hb0 hE
    go_enter Tryz.func111, Tryz.ntmps111
    go_wp2_with fail
    refine CK.out.mono ?_
    rintro e w1 ⟨rfl, hz⟩
    subst hz
    clear CK
    go_wp2
    go_ret2
    exact ⟨rfl, hX⟩

set_option maxHeartbeats 2000000 in
theorem Sum_un (va : Value) (n : Nat) (f : Nat → Int) (d : Nat) (c : Int) (w : World) (hn : n ≤ 70000) (c0 : 0 ≤ c) (c1 : c ≤ 900000000) (hV : VT w) (hA : Ar w va n f) (ha : Nb va d) (hU : Uc w d c) :
    Calls Tryz.prog 200 #[.pointer (some ⟨d, 0, none⟩), va] w fun e w' => e = .returned (.tuple #[.int .i64 (sX n f), .int .i64 (sE n)]) ∧ Un d (c + bi (sO n f)) w w' := by
  obtain ⟨ada, ca, ba, oa, rfl, k1, k2, -, -⟩ := id hA
  have hb0 := bel1 w (.cells #[.slice ada n ca] 23)
  obtain ⟨hc, hf⟩ := hU
  have hc' := cell_later hb0 hc
  have hf' := frozen_later hb0 hc hf
  unfold maxLen at *
  by_cases hl : n ≤ 65536
  · have hs1 : ¬ (65536 : Int) < (n : Int) := by omega
    have hE : sE n = 0 := by unfold sE; rw [if_neg (by omega)]
    have CK : Hid (Calls Tryz.prog 81 #[.bool true, .slice (some ⟨w.heap.size, 0, none⟩) 1 1] (w.alloc (.cells #[.slice ada n ca] 23)) fun e w' => e = .returned (.int .i64 0) ∧ w' = w.alloc (.cells #[.slice ada n ca] 23)) := by
      have h := check1_any true w ada n ca (by unfold maxLen; omega)
      rw [if_neg (by omega), if_pos rfl] at h
      exact h
    have CT : Hid (Calls Tryz.prog 90 #[.slice ada n ca] (w.alloc (.cells #[.slice ada n ca] 23)) fun e w' => e = .returned (.agg #[.int .i64 (hi (sumV f n)), .int .u64 (lo (sumV f n))]) ∧ Below (w.alloc (.cells #[.slice ada n ca] 23)).heap.size (w.alloc (.cells #[.slice ada n ca] 23)) w') := total_any _ n f _ (hA.later hb0)
    obtain ⟨v0, v1⟩ := sumV_rng _ n f (by omega) w hA
    have CD : Hid (∀ W : World, W.cell? ⟨d, 0, none⟩ = some (.int .i64 c) → W.frozen? ⟨d, 0, none⟩ = false → Calls Tryz.prog 117 #[.pointer (some ⟨d, 0, none⟩), .agg #[.int .i64 (hi (sumV f n)), .int .u64 (lo (sumV f n))]] W fun e w' => e = .returned (.int .i64 (clv (sumV f n))) ∧ Un d (c + bi (ovv (sumV f n))) W w') := fun W x y => vhold_un (sumV f n) v0 v1 d c c0 (by omega) W x y
    clear v0 v1
    rw [show sX n f = clv (sumV f n) by unfold sX; rw [if_pos hE], show sO n f = ovv (sumV f n) by unfold sO; rw [if_pos hE], hE]
    generalize clv (sumV f n) = x at *
    generalize bi (ovv (sumV f n)) = z at *
    generalize hi (sumV f n) = sh at *
    generalize lo (sumV f n) = sl at *
    clear hA hV hc hf ha hE
    go_enter Tryz.func200, Tryz.ntmps200
    go_wp2_with fail
    refine CK.out.mono ?_
    rintro e w1 ⟨rfl, hz⟩
    subst hz
    clear CK
    go_wp2_with fail
    refine CT.out.mono ?_
    rintro e w2 ⟨rfl, hb2⟩
    have W2 := bchain hb0 hb2
    clear CT
    have x2 := cell_later hb2 hc'
    have y2 := frozen_later hb2 hc' hf'
    clear hc' hf' hb2 hb0
    go_wp2_with fail
    refine (CD.out _ x2 y2).mono ?_
    rintro e w3 ⟨rfl, hU⟩
    have hX := Un.after W2 hU
    clear hU x2 y2 CD W2
    go_wp2
    go_ret2
    exact ⟨rfl, hX⟩
  · have hE : sE n = 3 := by unfold sE; rw [if_pos (by omega)]
    have CK : Hid (Calls Tryz.prog 81 #[.bool true, .slice (some ⟨w.heap.size, 0, none⟩) 1 1] (w.alloc (.cells #[.slice ada n ca] 23)) fun e w' => e = .returned (.int .i64 3) ∧ w' = w.alloc (.cells #[.slice ada n ca] 23)) := by
      have h := check1_any true w ada n ca (by unfold maxLen; omega)
      rw [if_pos (by omega)] at h
      exact h
    rw [show sX n f = 0 by unfold sX; rw [if_neg (by rw [hE]; decide)], show sO n f = false by unfold sO; rw [if_neg (by rw [hE]; decide)], hE]
    rw [show c + bi false = c by unfold bi; simp]
    have hX := Un.after hb0 (Un.same hc' hf')
    clear hA hV hc hf ha hc' hf' hb0 hE
    go_enter Tryz.func200, Tryz.ntmps200
    go_wp2_with fail
    refine CK.out.mono ?_
    rintro e w1 ⟨rfl, hz⟩
    subst hz
    clear CK
    go_wp2
    go_ret2
    exact ⟨rfl, hX⟩

set_option maxHeartbeats 2000000 in
theorem Dot_nil (va vb : Value) (n m : Nat) (f g : Nat → Int) (w : World) (hn : n ≤ 70000) (hm : m ≤ 70000) (hV : VT w) (hA : Ar w va n f) (hB : Ar w vb m g) :
    Calls Tryz.prog 111 #[.pointer none, va, vb] w fun e w' => e = .returned (.tuple #[.int .i64 (dX n m f g), .int .i64 (dE n m)]) ∧ Below w.heap.size w w' := by
  obtain ⟨ada, ca, ba, oa, rfl, k1, k2, -, -⟩ := id hA
  obtain ⟨adb, cb, bb, ob, rfl, q1, q2, -, -⟩ := id hB
  have hb0 := bel1 w (.cells #[.slice ada n ca, .slice adb m cb] 23)
  unfold maxLen at *
  rcases (show (n = m ∧ n ≤ 65536) ∨ (n = m ∧ 65536 < n) ∨ n ≠ m by omega) with ⟨hnm, hl⟩ | ⟨hnm, hl⟩ | hnm
  · subst hnm
    have hE : dE n n = 0 := by unfold dE; rw [if_neg (by omega), if_pos rfl]
    have hs1 : ¬ (65536 : Int) < (n : Int) := by omega
    have CK : Hid (Calls Tryz.prog 81 #[.bool true, .slice (some ⟨w.heap.size, 0, none⟩) 2 2] (w.alloc (.cells #[.slice ada n ca, .slice adb n cb] 23)) fun e w' => e = .returned (.int .i64 0) ∧ w' = w.alloc (.cells #[.slice ada n ca, .slice adb n cb] 23)) := by
      have h := check2_any true w ada adb n ca n cb (by unfold maxLen; omega) (by unfold maxLen; omega)
      rw [if_neg (by omega), if_pos rfl] at h
      exact h
    have CD : Hid (Calls Tryz.prog 135 #[.pointer none, .slice ada n ca, .slice adb n cb] (w.alloc (.cells #[.slice ada n ca, .slice adb n cb] 23)) fun e w' => e = .returned (.int .i64 (clv (rr (dotV f g n) 32))) ∧ Below (w.alloc (.cells #[.slice ada n ca, .slice adb n cb] 23)).heap.size (w.alloc (.cells #[.slice ada n ca, .slice adb n cb] 23)) w') := vdot_nil _ _ n f g hn _ (VT.later hV hb0) (hA.later hb0) (hB.later hb0)
    rw [show dX n n f g = clv (rr (dotV f g n) 32) by unfold dX; rw [if_pos hE], hE]
    generalize clv (rr (dotV f g n) 32) = x at *
    clear hA hB hV hE
    go_enter Tryz.func111, Tryz.ntmps111
    go_wp2_with fail
    refine CK.out.mono ?_
    rintro e w1 ⟨rfl, hz⟩
    subst hz
    clear CK
    go_wp2_with fail
    refine CD.out.mono ?_
    rintro e w3 ⟨rfl, hb3⟩
    have hX := bchain hb0 hb3
    clear hb3 CD hb0
    go_wp2
    go_ret2
    exact ⟨rfl, hX⟩
  · subst hnm
    have hE : dE n n = 3 := by unfold dE; rw [if_pos (by omega)]
    have CK : Hid (Calls Tryz.prog 81 #[.bool true, .slice (some ⟨w.heap.size, 0, none⟩) 2 2] (w.alloc (.cells #[.slice ada n ca, .slice adb n cb] 23)) fun e w' => e = .returned (.int .i64 3) ∧ w' = w.alloc (.cells #[.slice ada n ca, .slice adb n cb] 23)) := by
      have h := check2_any true w ada adb n ca n cb (by unfold maxLen; omega) (by unfold maxLen; omega)
      rw [if_pos (by omega)] at h
      exact h
    rw [show dX n n f g = 0 by unfold dX; rw [if_neg (by rw [hE]; decide)], hE]
    clear hA hB hV hE
    go_enter Tryz.func111, Tryz.ntmps111
    go_wp2_with fail
    refine CK.out.mono ?_
    rintro e w1 ⟨rfl, hz⟩
    subst hz
    clear CK
    go_wp2
    go_ret2
    exact ⟨rfl, hb0⟩
  · have hnI : ((n : Int) == (m : Int)) = false := beq_eq_false_iff_ne.2 (by omega)
    obtain ⟨E, hE⟩ : ∃ E, dE n m = E := ⟨_, rfl⟩
    have hck : (if 65536 < n ∨ 65536 < m then (3 : Int) else if false = true then 0 else 40) = E := by rw [← hE]; unfold dE; rw [if_neg (show ¬ false = true by decide), if_neg hnm]
    have hne : ¬ E = 0 := by rw [← hE]; unfold dE; split <;> simp [hnm]
    have CK : Hid (Calls Tryz.prog 81 #[.bool false, .slice (some ⟨w.heap.size, 0, none⟩) 2 2] (w.alloc (.cells #[.slice ada n ca, .slice adb m cb] 23)) fun e w' => e = .returned (.int .i64 E) ∧ w' = w.alloc (.cells #[.slice ada n ca, .slice adb m cb] 23)) := by
      have h := check2_any false w ada adb n ca m cb (by unfold maxLen; omega) (by unfold maxLen; omega)
      rw [hck] at h
      exact h
    rw [show dX n m f g = 0 by unfold dX; rw [if_neg (by rw [hE]; exact hne)], hE]
    clear hA hB hV hE
    go_enter Tryz.func111, Tryz.ntmps111
    go_wp2_with fail
    refine CK.out.mono ?_
    rintro e w1 ⟨rfl, hz⟩
    subst hz
    clear CK
    go_wp2
    go_ret2
    exact ⟨rfl, hb0⟩

set_option maxHeartbeats 2000000 in
theorem Sum_nil (va : Value) (n : Nat) (f : Nat → Int) (w : World) (hn : n ≤ 70000) (hV : VT w) (hA : Ar w va n f) :
    Calls Tryz.prog 200 #[.pointer none, va] w fun e w' => e = .returned (.tuple #[.int .i64 (sX n f), .int .i64 (sE n)]) ∧ Below w.heap.size w w' := by
  obtain ⟨ada, ca, ba, oa, rfl, k1, k2, -, -⟩ := id hA
  have hb0 := bel1 w (.cells #[.slice ada n ca] 23)
  unfold maxLen at *
  by_cases hl : n ≤ 65536
  · have hs1 : ¬ (65536 : Int) < (n : Int) := by omega
    have hE : sE n = 0 := by unfold sE; rw [if_neg (by omega)]
    have CK : Hid (Calls Tryz.prog 81 #[.bool true, .slice (some ⟨w.heap.size, 0, none⟩) 1 1] (w.alloc (.cells #[.slice ada n ca] 23)) fun e w' => e = .returned (.int .i64 0) ∧ w' = w.alloc (.cells #[.slice ada n ca] 23)) := by
      have h := check1_any true w ada n ca (by unfold maxLen; omega)
      rw [if_neg (by omega), if_pos rfl] at h
      exact h
    have CT : Hid (Calls Tryz.prog 90 #[.slice ada n ca] (w.alloc (.cells #[.slice ada n ca] 23)) fun e w' => e = .returned (.agg #[.int .i64 (hi (sumV f n)), .int .u64 (lo (sumV f n))]) ∧ Below (w.alloc (.cells #[.slice ada n ca] 23)).heap.size (w.alloc (.cells #[.slice ada n ca] 23)) w') := total_any _ n f _ (hA.later hb0)
    obtain ⟨v0, v1⟩ := sumV_rng _ n f (by omega) w hA
    have CD : Hid (∀ W : World, Calls Tryz.prog 117 #[.pointer none, .agg #[.int .i64 (hi (sumV f n)), .int .u64 (lo (sumV f n))]] W fun e w' => e = .returned (.int .i64 (clv (sumV f n))) ∧ Below W.heap.size W w') := fun W => vhold_nil (sumV f n) v0 v1 W
    clear v0 v1
    rw [show sX n f = clv (sumV f n) by unfold sX; rw [if_pos hE], hE]
    generalize clv (sumV f n) = x at *
    generalize hi (sumV f n) = sh at *
    generalize lo (sumV f n) = sl at *
    clear hA hV hE
    go_enter Tryz.func200, Tryz.ntmps200
    go_wp2_with fail
    refine CK.out.mono ?_
    rintro e w1 ⟨rfl, hz⟩
    subst hz
    clear CK
    go_wp2_with fail
    refine CT.out.mono ?_
    rintro e w2 ⟨rfl, hb2⟩
    have W2 := bchain hb0 hb2
    clear CT
    clear hb2 hb0
    go_wp2_with fail
    refine (CD.out _).mono ?_
    rintro e w3 ⟨rfl, hb3⟩
    have hX := bchain W2 hb3
    clear hb3 CD W2
    go_wp2
    go_ret2
    exact ⟨rfl, hX⟩
  · have hE : sE n = 3 := by unfold sE; rw [if_pos (by omega)]
    have CK : Hid (Calls Tryz.prog 81 #[.bool true, .slice (some ⟨w.heap.size, 0, none⟩) 1 1] (w.alloc (.cells #[.slice ada n ca] 23)) fun e w' => e = .returned (.int .i64 3) ∧ w' = w.alloc (.cells #[.slice ada n ca] 23)) := by
      have h := check1_any true w ada n ca (by unfold maxLen; omega)
      rw [if_pos (by omega)] at h
      exact h
    rw [show sX n f = 0 by unfold sX; rw [if_neg (by rw [hE]; decide)], hE]
    clear hA hV hE
    go_enter Tryz.func200, Tryz.ntmps200
    go_wp2_with fail
    refine CK.out.mono ?_
    rintro e w1 ⟨rfl, hz⟩
    subst hz
    clear CK
    go_wp2
    go_ret2
    exact ⟨rfl, hb0⟩

end Go.Proofs.YtdfjnbkkdgolnaaGreatDoor
