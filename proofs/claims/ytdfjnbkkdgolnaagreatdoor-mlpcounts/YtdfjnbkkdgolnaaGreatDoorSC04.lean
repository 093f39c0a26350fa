/-
  Texts of this proof, joined: LawMC PWalkA.
-/
import Derived.Test.YtdfjnbkkdgolnaaGreatDoorSC00
import Derived.Test.YtdfjnbkkdgolnaaGreatDoorSC03
set_option linter.unusedVariables false
set_option linter.unusedSimpArgs false
namespace Go.Proofs.YtdfjnbkkdgolnaaGreatDoor
open Go.RowKit

/-- Parameters, taken apart layer by layer. -/
def Spl (w : World) (gm om gb ob m : Nat) (z : Nat → Nat) (P : Nat → Int) : Prop :=
  ∀ l, l + 1 < m → ∃ (adA : Option Addr) (caA : Nat) (adB : Option Addr) (caB : Nat), w.cell? ⟨gm, om + l * 3, none⟩ = some (.int .i64 ((z (l + 1) : Nat) : Int)) ∧ w.cell? ⟨gm, om + l * 3 + 1, none⟩ = some (.int .i64 ((z l : Nat) : Int)) ∧ w.cell? ⟨gm, om + l * 3 + 2, none⟩ = some (.slice adA (z (l + 1) * z l) caA) ∧ Ar w (.slice adA (z (l + 1) * z l) caA) (z (l + 1) * z l) (fun k => P (fsN z l + k)) ∧ w.cell? ⟨gb, ob + l, none⟩ = some (.slice adB (z (l + 1)) caB) ∧ Ar w (.slice adB (z (l + 1)) caB) (z (l + 1)) (fun u => P (ofN z l u))
theorem Spl.later {w w' : World} {gm om gb ob m : Nat} {z : Nat → Nat} {P : Nat → Int} (h : Spl w gm om gb ob m z P) (hb : Below w.heap.size w w') : Spl w' gm om gb ob m z P := fun l hl => by
  obtain ⟨a, b, c, d, h1, h2, h3, h4, h5, h6⟩ := h l hl
  exact ⟨a, b, c, d, cell_later hb h1, cell_later hb h2, cell_later hb h3, h4.later hb, cell_later hb h5, h6.later hb⟩
structure Mlp6 : Prop where
  countY : ∀ (vs : Value) (m : Nat) (z : Nat → Nat) (w : World), Ar w vs m (fun i => ((z i : Nat) : Int)) → Szs z m → MT w →
    Calls Tryz.prog 11 #[vs] w fun e w' => e = .returned (.tuple #[.int .i64 ((fsN z (m - 1) : Nat) : Int), .int .i64 0]) ∧ Below w.heap.size w w'
  countN : ∀ (vs : Value) (m : Nat) (f : Nat → Int) (w : World), m ≤ 100000 → Ar w vs m f → ¬ Rt f m → MT w →
    Calls Tryz.prog 11 #[vs] w fun e w' => e = .returned (.tuple #[.int .i64 0, .int .i64 70]) ∧ Below w.heap.size w w'
  splitY : ∀ (vs vp : Value) (m cp : Nat) (z : Nat → Nat) (P : Nat → Int) (w : World), Ar w vs m (fun i => ((z i : Nat) : Int)) → Ar w vp cp P → Szs z m → cp = fsN z (m - 1) → MT w →
    Calls Tryz.prog 12 #[vs, vp] w fun e w' => ∃ gm om cm gb ob cb, e = .returned (.tuple #[.slice (some ⟨gm, om, none⟩) (m - 1) cm, .slice (some ⟨gb, ob, none⟩) (m - 1) cb, .int .i64 0]) ∧ (m - 1 ≤ cm ∧ cm ≤ maxLen) ∧ (m - 1 ≤ cb ∧ cb ≤ maxLen) ∧ Spl w' gm om gb ob m z P ∧ Below w.heap.size w w'
  splitZ : ∀ (vs vp : Value) (m lp : Nat) (f P : Nat → Int) (w : World), m ≤ 100000 → Ar w vs m f → Ar w vp lp P → ¬ Rt f m → MT w →
    Calls Tryz.prog 12 #[vs, vp] w fun e w' => ∃ v1 v2, e = .returned (.tuple #[v1, v2, .int .i64 70]) ∧ Emp v1 ∧ Emp v2 ∧ Below w.heap.size w w'
  splitS : ∀ (vs vp : Value) (m lp : Nat) (z : Nat → Nat) (P : Nat → Int) (w : World), Ar w vs m (fun i => ((z i : Nat) : Int)) → Ar w vp lp P → Szs z m → ¬ lp = fsN z (m - 1) → MT w →
    Calls Tryz.prog 12 #[vs, vp] w fun e w' => ∃ v1 v2, e = .returned (.tuple #[v1, v2, .int .i64 40]) ∧ Emp v1 ∧ Emp v2 ∧ Below w.heap.size w w'
set_option maxRecDepth 100000 in
set_option maxHeartbeats 16000000 in
theorem mlpCounts_any (V4 : Mlp4) (V6 : Mlp6) (vs vp : Value) (m lp : Nat) (f P : Nat → Int) (w : World) (hA : Ar w vs m f) (hP : Ar w vp lp P) (hV : MT w) :
    Calls Tryz.prog 3 #[.agg #[vs, vp]] w fun e w' => e = .returned (.bool true) ∧ Below w.heap.size w w' := by
  obtain ⟨z, hz⟩ := zs_ex f m
  have HZz : Hid (Zs f m z) := hz
  have HAll : Hid (Ar w vs m f ∧ Ar w vp lp P) := ⟨hA, hP⟩
  obtain ⟨adr, cap, b, o, rfl, k1, k2, -, -⟩ := id hA
  obtain ⟨adp, cpp, bp, op, rfl, j1, j2, -, -⟩ := id hP
  unfold maxLen at k2 j2
  have HAw : Hid (∀ W : World, Below w.heap.size w W → Calls Tryz.prog 9 #[] W fun e w' => e = .returned (.bool true) ∧ Below W.heap.size W w') := fun W hb => awake7_any V4 W (hV.later hb)
  have HFw : Hid (∀ W : World, Below w.heap.size w W → Calls Tryz.prog 10 #[.agg #[.slice adr m cap, .slice adp lp cpp]] W fun e w' => Tells e (fwP f m lp z) ∧ Below W.heap.size W w') := fun W hb => few7_any _ _ m lp f P z hz W (hA.later hb) (hP.later hb)
  have HCt : Hid (∀ W : World, Below w.heap.size w W → Calls Tryz.prog 13 #[.slice adr m cap] W fun e w' => ∃ C : Int, e = .returned (.int .i64 C) ∧ ctN f m z C ∧ Below W.heap.size W w') := fun W hb => count7_any _ m f z hz W (hA.later hb)
  obtain ⟨w1, hw1⟩ : ∃ w1, w1 = w.alloc (.cells #[.slice adr m cap, .slice adp lp cpp] 25) := ⟨_, rfl⟩
  have HB1 : Hid (Below w.heap.size w w1) := by rw [hw1]; exact bel1 _ _
  have HX1 : Hid (Bx w.heap.size (.slice adr m cap) (.slice adp lp cpp) w1) := by rw [hw1]; exact Bx.new w _ _ _
  clear hA hP hz
  go_enter Tryz.func3, Tryz.ntmps3
  go_upto_region 1 with fail
  rw [← hw1]
  clear hw1
  go_wp2_with fail
  refine (HAw.out _ HB1.out).mono ?_
  rintro e w2 ⟨rfl, hb⟩
  have HB2 : Hid (Below w.heap.size w w2) := bchain HB1.out hb
  have HX2 : Hid (Bx w.heap.size (.slice adr m cap) (.slice adp lp cpp) w2) := HX1.out.later hb
  have x0 := HX2.out.c0
  have x1 := HX2.out.c1
  clear hb HB1 HX1 HAw
  go_wp2_with fail
  refine (HFw.out _ HB2.out).mono ?_
  rintro e w3 ⟨hT, hb⟩
  have HB3 : Hid (Below w.heap.size w w3) := bchain HB2.out hb
  have HX3 : Hid (Bx w.heap.size (.slice adr m cap) (.slice adp lp cpp) w3) := HX2.out.later hb
  clear hb HB2 HX2 HFw x0 x1
  by_cases hfw : fwP f m lp z
  · have e0 := hT.yes hfw
    subst e0
    clear hT
    have hmb : m ≤ 10 := hfw.1
    have hlb : lp ≤ 400 := hfw.2.1
    have x0 := HX3.out.c0
    by_cases hr : Rt f m
    · obtain ⟨hs, hfz⟩ := HZz.out hr
      have hm2 : 2 ≤ m := hs.1
      have hm6 : m ≤ 6 := hs.2.1
      have CC := V6.countY _ m z w3 ((HAll.out.1.later HB3.out).congr hfz) hs (hV.later HB3.out)
      have Hr : Hid (Rt f m) := hr
      clear hr
      by_cases hlp : lp = fsN z (m - 1)
      · have CS : Hid (∀ W : World, Below w.heap.size w W → Calls Tryz.prog 12 #[.slice adr m cap, .slice adp lp cpp] W fun e w' => ∃ gm om cm gb ob cb, e = .returned (.tuple #[.slice (some ⟨gm, om, none⟩) (m - 1) cm, .slice (some ⟨gb, ob, none⟩) (m - 1) cb, .int .i64 0]) ∧ (m - 1 ≤ cm ∧ cm ≤ maxLen) ∧ (m - 1 ≤ cb ∧ cb ≤ maxLen) ∧ Spl w' gm om gb ob m z P ∧ Below W.heap.size W w') := fun W hb => V6.splitY _ _ m lp z P W ((HAll.out.1.later hb).congr hfz) (HAll.out.2.later hb) hs hlp (hV.later hb)
        have HWt : Hid (∀ (W : World) (v9 : Value) (l u i : Nat), Below w.heap.size w W → Ar W v9 lp P → l + 1 < m → u < z (l + 1) → i < z l → Calls Tryz.prog 15 #[.agg #[.slice adr m cap, v9], .int .i64 (l : Int), .int .i64 (u : Int), .int .i64 (i : Int)] W fun e w' => e = .returned (.int .i64 (P (wtN z l u i))) ∧ Below W.heap.size W w') := fun W v9 l u i hb h1 h2 h3 h4 => weight_any _ v9 m lp l u i z P W ((HAll.out.1.later hb).congr hfz) h1 hs hlp h2 h3 h4
        have HOf : Hid (∀ (W : World) (v9 : Value) (l u : Nat), Below w.heap.size w W → Ar W v9 lp P → l + 1 < m → u < z (l + 1) → Calls Tryz.prog 16 #[.agg #[.slice adr m cap, v9], .int .i64 (l : Int), .int .i64 (u : Int)] W fun e w' => e = .returned (.int .i64 (P (ofN z l u))) ∧ Below W.heap.size W w') := fun W v9 l u hb h1 h2 h3 => offset_any _ v9 m lp l u z P W ((HAll.out.1.later hb).congr hfz) h1 hs hlp h2 h3
        have HNp : Hid (∀ W : World, Below w.heap.size w W → Calls Tryz.prog 14 #[.agg #[.slice adr m cap, .slice adp lp cpp]] W fun e w' => ∃ v', e = .returned (.agg #[.slice adr m cap, v']) ∧ Ar w' v' lp P ∧ Ow W.heap.size v' ∧ Below W.heap.size W w') := fun W hb => netplain_any _ _ m lp f P (by omega) W (HAll.out.1.later hb) (HAll.out.2.later hb)
        have HSz : Hid (Szs z m ∧ ∀ i, i < m → f i = ((z i : Nat) : Int)) := ⟨hs, hfz⟩
        have Hlp : Hid (lp = fsN z (m - 1)) := hlp
        rw [← hlp] at CC
        clear hs hfz hlp
        go_wp2_with fail
        refine CC.mono ?_
        rintro e w4 ⟨rfl, hb⟩
        have HB4 : Hid (Below w.heap.size w w4) := bchain HB3.out hb
        have HX4 : Hid (Bx w.heap.size (.slice adr m cap) (.slice adp lp cpp) w4) := HX3.out.later hb
        have x0 := HX4.out.c0
        have x1 := HX4.out.c1
        clear hb CC HB3 HX3
        go_wp2_with fail
        refine (CS.out _ HB4.out).mono ?_
        rintro e w5 ⟨gm, om, cm, gb, ob, cb, rfl, ⟨q1, q2⟩, ⟨q3, q4⟩, hSp, hb⟩
        unfold maxLen at q2 q4
        have HB5 : Hid (Below w.heap.size w w5) := bchain HB4.out hb
        have HX5 : Hid (Bx w.heap.size (.slice adr m cap) (.slice adp lp cpp) w5) := HX4.out.later hb
        have HS5 : Hid (Spl w5 gm om gb ob m z P) := hSp
        have x0 := HX5.out.c0
        clear hb HB4 HX4 x1 hSp CS
        go_wp2_with fail
        refine (HCt.out _ HB5.out).mono ?_
        rintro e w6 ⟨C, rfl, hC, hb⟩
        obtain rfl : C = (lp : Int) := by have := hC.1 Hr.out; have := Hlp.out; omega
        have hC0 : ¬ (lp : Int) < 0 := by omega
        have HB6 : Hid (Below w.heap.size w w6) := bchain HB5.out hb
        have HX6 : Hid (Bx w.heap.size (.slice adr m cap) (.slice adp lp cpp) w6) := HX5.out.later hb
        have HS6 : Hid (Spl w6 gm om gb ob m z P) := HS5.out.later hb
        have x0 := HX6.out.c0
        have x1 := HX6.out.c1
        clear hb HB5 HX5 HS5 hC HCt
        go_wp2_with fail
        refine (HNp.out _ HB6.out).mono ?_
        rintro e w7 ⟨v7, rfl, hA7, hO7, hb⟩
        obtain ⟨ad7, ca7, b7, o7, rfl, -, -, -, -⟩ := id hA7
        have HB7 : Hid (Below w.heap.size w w7) := bchain HB6.out hb
        have HX7 : Hid (Bx w.heap.size (.slice adr m cap) (.slice adp lp cpp) w7) := HX6.out.later hb
        have HS7 : Hid (Spl w7 gm om gb ob m z P) := HS6.out.later hb
        have HA7 : Hid (Ar w7 (.slice ad7 lp ca7) lp P) := hA7
        clear hb HB6 HX6 HS6 HNp hA7 hO7 x0 x1
        have Y := Bx.new w7 (.slice none 0 0) (.slice none 0 0) 37
        have y0 := Y.c0
        have y1 := Y.c1
        have y2 := Y.f0
        have y3 := Y.f1
        go_upto_region 15 with fail
        obtain ⟨w8, hw8⟩ : ∃ w8, w8 = w7.alloc (.cells #[.slice adr m cap, .slice ad7 lp ca7] 37) := ⟨_, rfl⟩
        have hb8 : Below w7.heap.size w7 w8 := by rw [hw8]; exact bel1 _ _
        have HR8 : Hid (Bx w7.heap.size (.slice adr m cap) (.slice ad7 lp ca7) w8) := by rw [hw8]; exact Bx.new w7 _ _ _
        have HB8 : Hid (Below w.heap.size w w8) := bchain HB7.out hb8
        have HX8 : Hid (Bx w.heap.size (.slice adr m cap) (.slice adp lp cpp) w8) := HX7.out.later hb8
        have HS8 : Hid (Spl w8 gm om gb ob m z P) := HS7.out.later hb8
        have HA8 : Hid (Ar w8 (.slice ad7 lp ca7) lp P) := HA7.out.later hb8
        rw [← hw8]
        obtain ⟨R0, hR0⟩ : ∃ R0, w7.heap.size = R0 := ⟨_, rfl⟩
        rw [hR0] at HR8
        try simp only [hR0]
        clear hw8 hb8 HB7 HX7 HS7 HA7 Y y0 y1 y2 y3 hR0
        obtain ⟨bs, os, caps, es, -, -, cellS, -⟩ := (HAll.out.1.later HB8.out).spot 0 (by omega)
        cases es
        have HZ8 : Hid (∀ k, k < m → w8.cell? ⟨bs, os + k, none⟩ = some (.int .i64 ((z k : Nat) : Int))) := fun k hk => by
          have h := cellS k hk
          rw [HSz.out.2 k hk] at h
          exact h
        clear cellS
        obtain ⟨M, hM⟩ : ∃ M, m - 1 = M := ⟨_, rfl⟩
        have hm : m = M + 1 := by omega
        rw [hM] at q1 q3
        try rw [hM]
        have hlq : IntKind.i64.wrap ((m : Int) - 1) = (M : Int) := by rw [IntKind.wrap_i64]; omega
        have Hm : Hid (m = M + 1) := hm
        clear hM hm
        have x0 := HX8.out.c0
        go_upto_region 18 with fail
        clear x0
        go_loopw [100] (fun s100 wr => ∃ l : Nat, l ≤ M ∧ s100 = .int .i64 (l : Int) ∧ Hid (Below w8.heap.size w8 wr)) (fun s100 _ => M - (intOf s100).toNat)
        case atStart => exact ⟨0, by omega, rfl, Below.refl _ _⟩
        case round =>
          obtain ⟨l, hl, rfl, hW⟩ := hrel
          by_cases hlt : l < M
          · have hlI : (l : Int) < (M : Int) := by omega
            have hlm : l + 1 < m := by have := Hm.out; omega
            obtain ⟨adA, caA, adB, caB, d0, d1, d2, d3, d4, d5⟩ := HS8.out l hlm
            have hz1 := (HSz.out.1.2.2 (l + 1) hlm)
            have hz0 := (HSz.out.1.2.2 l (by omega))
            have hzz : z (l + 1) * z l ≤ 64 * 64 := Nat.mul_le_mul hz1.2 hz0.2
            have e0 := HZ8.out (l + 1) hlm
            have e1 := HZ8.out l (by omega)
            have HWl : Hid (∀ (W : World) (u i : Nat), Below w8.heap.size w8 W → u < z (l + 1) → i < z l → Calls Tryz.prog 15 #[.agg #[.slice (some ⟨bs, os, none⟩) m cap, .slice ad7 lp ca7], .int .i64 (l : Int), .int .i64 (u : Int), .int .i64 (i : Int)] W fun e w' => e = .returned (.int .i64 (P (fsN z l + (u * z l + i)))) ∧ Below W.heap.size W w') := fun W u i hb h3 h4 => by
              have h := HWt.out W _ l u i (bchain HB8.out hb) (HA8.out.later hb) hlm h3 h4
              rw [show wtN z l u i = fsN z l + (u * z l + i) from Nat.add_assoc _ _ _] at h
              exact h
            have HOl : Hid (∀ (W : World) (u : Nat), Below w8.heap.size w8 W → u < z (l + 1) → Calls Tryz.prog 16 #[.agg #[.slice (some ⟨bs, os, none⟩) m cap, .slice ad7 lp ca7], .int .i64 (l : Int), .int .i64 (u : Int)] W fun e w' => e = .returned (.int .i64 (P (ofN z l u))) ∧ Below W.heap.size W w') := fun W u hb h3 => HOf.out W _ l u (bchain HB8.out hb) (HA8.out.later hb) hlm h3
            have HdA : Hid (∀ k, k < z (l + 1) * z l → ∃ (bA oA : Nat), adA = some ⟨bA, oA, none⟩ ∧ w8.cell? ⟨bA, oA + k, none⟩ = some (.int .i64 (P (fsN z l + k)))) := fun k hk => by
              obtain ⟨bA, oA, ca', ee, -, -, cc, -⟩ := d3.spot k hk
              cases ee
              exact ⟨bA, oA, rfl, cc k hk⟩
            have HdB : Hid (∀ k, k < z (l + 1) → ∃ (bB oB : Nat), adB = some ⟨bB, oB, none⟩ ∧ w8.cell? ⟨bB, oB + k, none⟩ = some (.int .i64 (P (ofN z l k)))) := fun k hk => by
              obtain ⟨bB, oB, ca', ee, -, -, cc, -⟩ := d5.spot k hk
              cases ee
              exact ⟨bB, oB, rfl, cc k hk⟩
            obtain ⟨bA, oA, eA, -⟩ := HdA.out 0 (Nat.mul_pos (by omega) (by omega))
            subst eA
            obtain ⟨bB, oB, eB, -⟩ := HdB.out 0 (by omega)
            subst eB
            have HcA : Hid (∀ k, k < z (l + 1) * z l → w8.cell? ⟨bA, oA + k, none⟩ = some (.int .i64 (P (fsN z l + k)))) := fun k hk => by
              obtain ⟨bA', oA', ee, cc⟩ := HdA.out k hk
              cases ee
              exact cc
            have HcB : Hid (∀ k, k < z (l + 1) → w8.cell? ⟨bB, oB + k, none⟩ = some (.int .i64 (P (ofN z l k)))) := fun k hk => by
              obtain ⟨bB', oB', ee, cc⟩ := HdB.out k hk
              cases ee
              exact cc
            have gA : z (l + 1) * z l ≤ caA ∧ caA ≤ maxLen := by
              obtain ⟨adr', cap', b', o', e', h1, h2, -, -⟩ := d3
              cases e'
              exact ⟨h1, h2⟩
            have gB : z (l + 1) ≤ caB ∧ caB ≤ maxLen := by
              obtain ⟨adr', cap', b', o', e', h1, h2, -, -⟩ := d5
              cases e'
              exact ⟨h1, h2⟩
            obtain ⟨gA1, gA2⟩ := gA
            obtain ⟨gB1, gB2⟩ := gB
            clear HdA HdB d3 d5
            have hI : ((z (l + 1) : Nat) : Int) * ((z l : Nat) : Int) = ((z (l + 1) * z l : Nat) : Int) := (Int.natCast_mul _ _).symm
            obtain ⟨pr, hpr⟩ : ∃ pr, z (l + 1) * z l = pr := ⟨_, rfl⟩
            rw [hpr] at hI hzz d2 gA1 HcA
            have Hpr : Hid (z (l + 1) * z l = pr) := hpr
            clear hpr
            generalize z (l + 1) = za at *
            generalize z l = zb at *
            have w1' : IntKind.i64.wrap ((l : Int) + 1) = ((l + 1 : Nat) : Int) := by rw [IntKind.wrap_i64]; omega
            have w2' : IntKind.i64.wrap (pr : Int) = (pr : Int) := by rw [IntKind.wrap_i64]; omega
            have hlm1 : ((l + 1 : Nat) : Int) < (m : Int) := by omega
            have hlm2 : (l : Int) < (m : Int) := by omega
            have hlm3 : (0 : Int) ≤ (l : Int) + 1 := by omega
            have hlm5 : (l : Int) + 1 < (m : Int) := by omega
            have hlm4 : (l : Int) < (M : Int) + 1 := by omega
            have HC8 : Hid (w8.cell? ⟨w.heap.size, 0, none⟩ = some (.slice (some ⟨bs, os, none⟩) m cap) ∧ w8.cell? ⟨gm, om + l * 3, none⟩ = some (.int .i64 (za : Int)) ∧ w8.cell? ⟨gm, om + l * 3 + 1, none⟩ = some (.int .i64 (zb : Int)) ∧ w8.cell? ⟨gm, om + l * 3 + 2, none⟩ = some (.slice (some ⟨bA, oA, none⟩) pr caA) ∧ w8.cell? ⟨gb, ob + l, none⟩ = some (.slice (some ⟨bB, oB, none⟩) za caB) ∧ w8.cell? ⟨bs, os + (l + 1), none⟩ = some (.int .i64 (za : Int)) ∧ w8.cell? ⟨bs, os + l, none⟩ = some (.int .i64 (zb : Int))) := ⟨HX8.out.c0, d0, d1, d2, d4, e0, e1⟩
            clear d0 d1 d2 d4 e0 e1
            unfold maxLen at gA2 gB2
            go_upto_region 20 with fail
            have hWD : Below w8.heap.size w8 wr.drew := bchain hW.out (Below.refl _ _).drew
            have hh := HC8.out
            refine wp_region_held_drew (S := fun W' => W'.cell? ⟨w.heap.size, 0, none⟩ = some (.slice (some ⟨bs, os, none⟩) m cap) ∧ W'.cell? ⟨gm, om + l * 3, none⟩ = some (.int .i64 (za : Int)) ∧ W'.cell? ⟨gm, om + l * 3 + 1, none⟩ = some (.int .i64 (zb : Int)) ∧ W'.cell? ⟨gm, om + l * 3 + 2, none⟩ = some (.slice (some ⟨bA, oA, none⟩) pr caA) ∧ W'.cell? ⟨gb, ob + l, none⟩ = some (.slice (some ⟨bB, oB, none⟩) za caB) ∧ W'.cell? ⟨bs, os + (l + 1), none⟩ = some (.int .i64 (za : Int)) ∧ W'.cell? ⟨bs, os + l, none⟩ = some (.int .i64 (zb : Int))) (by kernel_rfl) ⟨cell_later hWD hh.1, cell_later hWD hh.2.1, cell_later hWD hh.2.2.1, cell_later hWD hh.2.2.2.1, cell_later hWD hh.2.2.2.2.1, cell_later hWD hh.2.2.2.2.2.1, cell_later hWD hh.2.2.2.2.2.2⟩ (fun HS => ?_)
            have HWD : Hid (Below w8.heap.size w8 wr.drew) := hWD
            clear hh hWD hW
            generalize wr.drew = wD at *
            refine wpAnyH_take (i := 0) (v := ?v1) rfl (by kernel_rfl) (by kernel_rfl) (by kernel_rfl) (fun _ _ _ h => h) (Or.inl ⟨by kernel_rfl, ?h1⟩) HS ?r1
            case h1 => (rintro w ⟨s0, s1, s2, s3, s4, s5, s6⟩; go_simp) <;> with_reducible rfl
            try simp only [Act.put, List.getElem_toArray, List.getElem_cons_succ, List.getElem_cons_zero, List.setIfInBounds_toArray, List.set_cons_zero, List.set_cons_succ]
            refine wpAnyH_take (i := 1) (v := ?v2) rfl (by kernel_rfl) (by kernel_rfl) (by kernel_rfl) (fun _ _ _ h => h) (Or.inl ⟨by kernel_rfl, ?h2⟩) HS ?r2
            case h2 => (rintro w ⟨s0, s1, s2, s3, s4, s5, s6⟩; go_simp) <;> with_reducible rfl
            try simp only [Act.put, List.getElem_toArray, List.getElem_cons_succ, List.getElem_cons_zero, List.setIfInBounds_toArray, List.set_cons_zero, List.set_cons_succ]
            refine wpAnyH_take (i := 2) (v := ?v3) rfl (by kernel_rfl) (by kernel_rfl) (by kernel_rfl) (fun _ _ _ h => h) (Or.inl ⟨by kernel_rfl, ?h3⟩) HS ?r3
            case h3 => (rintro w ⟨s0, s1, s2, s3, s4, s5, s6⟩; go_simp) <;> with_reducible rfl
            try simp only [Act.put, List.getElem_toArray, List.getElem_cons_succ, List.getElem_cons_zero, List.setIfInBounds_toArray, List.set_cons_zero, List.set_cons_succ]
            refine wpAnyH_take (i := 3) (v := ?v4) rfl (by kernel_rfl) (by kernel_rfl) (by kernel_rfl) (fun _ _ _ h => h) (Or.inl ⟨by kernel_rfl, ?h4⟩) HS ?r4
            case h4 => (rintro w ⟨s0, s1, s2, s3, s4, s5, s6⟩; go_simp) <;> with_reducible rfl
            try simp only [Act.put, List.getElem_toArray, List.getElem_cons_succ, List.getElem_cons_zero, List.setIfInBounds_toArray, List.set_cons_zero, List.set_cons_succ]
            refine wpAnyH_take (i := 4) (v := ?v5) rfl (by kernel_rfl) (by kernel_rfl) (by kernel_rfl) (fun _ _ _ h => h) (Or.inl ⟨by kernel_rfl, ?h5⟩) HS ?r5
            case h5 => (rintro w ⟨s0, s1, s2, s3, s4, s5, s6⟩; go_simp) <;> with_reducible rfl
            try simp only [Act.put, List.getElem_toArray, List.getElem_cons_succ, List.getElem_cons_zero, List.setIfInBounds_toArray, List.set_cons_zero, List.set_cons_succ]
            refine wpAnyH_take (i := 5) (v := ?v6) rfl (by kernel_rfl) (by kernel_rfl) (by kernel_rfl) (fun _ _ _ h => h) (Or.inl ⟨by kernel_rfl, ?h6⟩) HS ?r6
            case h6 => (rintro w ⟨s0, s1, s2, s3, s4, s5, s6⟩; go_simp) <;> with_reducible rfl
            try simp only [Act.put, List.getElem_toArray, List.getElem_cons_succ, List.getElem_cons_zero, List.setIfInBounds_toArray, List.set_cons_zero, List.set_cons_succ]
            refine wpAnyH_take (i := 6) (v := ?v7) rfl (by kernel_rfl) (by kernel_rfl) (by kernel_rfl) (fun _ _ _ h => h) (Or.inl ⟨by kernel_rfl, ?h7⟩) HS ?r7
            case h7 => (rintro w ⟨s0, s1, s2, s3, s4, s5, s6⟩; go_simp) <;> with_reducible rfl
            try simp only [Act.put, List.getElem_toArray, List.getElem_cons_succ, List.getElem_cons_zero, List.setIfInBounds_toArray, List.set_cons_zero, List.set_cons_succ]
            refine wpAnyH_take (i := 7) (v := ?v8) rfl (by kernel_rfl) (by kernel_rfl) (by kernel_rfl) (fun _ _ _ h => h) (Or.inl ⟨by kernel_rfl, ?h8⟩) HS ?r8
            case h8 => (rintro w ⟨s0, s1, s2, s3, s4, s5, s6⟩; go_simp) <;> with_reducible rfl
            try simp only [Act.put, List.getElem_toArray, List.getElem_cons_succ, List.getElem_cons_zero, List.setIfInBounds_toArray, List.set_cons_zero, List.set_cons_succ]
            refine wpAnyH_take (i := 8) (v := ?v9) rfl (by kernel_rfl) (by kernel_rfl) (by kernel_rfl) (fun _ _ _ h => h) (Or.inl ⟨by kernel_rfl, ?h9⟩) HS ?r9
            case h9 => (rintro w ⟨s0, s1, s2, s3, s4, s5, s6⟩; go_simp) <;> with_reducible rfl
            try simp only [Act.put, List.getElem_toArray, List.getElem_cons_succ, List.getElem_cons_zero, List.setIfInBounds_toArray, List.set_cons_zero, List.set_cons_succ]
            refine wpAnyH_take (i := 9) (v := ?v10) rfl (by kernel_rfl) (by kernel_rfl) (by kernel_rfl) (fun _ _ _ h => h) (Or.inl ⟨by kernel_rfl, ?h10⟩) HS ?r10
            case h10 => (rintro w ⟨s0, s1, s2, s3, s4, s5, s6⟩; go_simp) <;> with_reducible rfl
            try simp only [Act.put, List.getElem_toArray, List.getElem_cons_succ, List.getElem_cons_zero, List.setIfInBounds_toArray, List.set_cons_zero, List.set_cons_succ]
            refine wpAnyH_take (i := 10) (v := ?v11) rfl (by kernel_rfl) (by kernel_rfl) (by kernel_rfl) (fun _ _ _ h => h) (Or.inl ⟨by kernel_rfl, ?h11⟩) HS ?r11
            case h11 => (rintro w ⟨s0, s1, s2, s3, s4, s5, s6⟩; go_simp) <;> with_reducible rfl
            try simp only [Act.put, List.getElem_toArray, List.getElem_cons_succ, List.getElem_cons_zero, List.setIfInBounds_toArray, List.set_cons_zero, List.set_cons_succ]
            refine wpAnyH_take (i := 11) (v := ?v12) rfl (by kernel_rfl) (by kernel_rfl) (by kernel_rfl) (fun _ _ _ h => h) (Or.inl ⟨by kernel_rfl, ?h12⟩) HS ?r12
            case h12 => (rintro w ⟨s0, s1, s2, s3, s4, s5, s6⟩; go_simp) <;> with_reducible rfl
            try simp only [Act.put, List.getElem_toArray, List.getElem_cons_succ, List.getElem_cons_zero, List.setIfInBounds_toArray, List.set_cons_zero, List.set_cons_succ]
            refine wpAnyH_take (i := 12) (v := ?v13) rfl (by kernel_rfl) (by kernel_rfl) (by kernel_rfl) (fun _ _ _ h => h) (Or.inl ⟨by kernel_rfl, ?h13⟩) HS ?r13
            case h13 => (rintro w ⟨s0, s1, s2, s3, s4, s5, s6⟩; go_simp) <;> with_reducible rfl
            try simp only [Act.put, List.getElem_toArray, List.getElem_cons_succ, List.getElem_cons_zero, List.setIfInBounds_toArray, List.set_cons_zero, List.set_cons_succ]
            refine wpAnyH_take (i := 13) (v := ?v14) rfl (by kernel_rfl) (by kernel_rfl) (by kernel_rfl) (fun _ _ _ h => h) (Or.inl ⟨by kernel_rfl, ?h14⟩) HS ?r14
            case h14 => (rintro w ⟨s0, s1, s2, s3, s4, s5, s6⟩; go_simp) <;> with_reducible rfl
            try simp only [Act.put, List.getElem_toArray, List.getElem_cons_succ, List.getElem_cons_zero, List.setIfInBounds_toArray, List.set_cons_zero, List.set_cons_succ]
            refine wpAnyH_take (i := 14) (v := ?v15) rfl (by kernel_rfl) (by kernel_rfl) (by kernel_rfl) (fun _ _ _ h => h) (Or.inl ⟨by kernel_rfl, ?h15⟩) HS ?r15
            case h15 => (rintro w ⟨s0, s1, s2, s3, s4, s5, s6⟩; go_simp) <;> with_reducible rfl
            try simp only [Act.put, List.getElem_toArray, List.getElem_cons_succ, List.getElem_cons_zero, List.setIfInBounds_toArray, List.set_cons_zero, List.set_cons_succ]
            refine wpAnyH_take (i := 15) (v := ?v16) rfl (by kernel_rfl) (by kernel_rfl) (by kernel_rfl) (fun _ _ _ h => h) (Or.inl ⟨by kernel_rfl, ?h16⟩) HS ?r16
            case h16 => (rintro w ⟨s0, s1, s2, s3, s4, s5, s6⟩; go_simp) <;> with_reducible rfl
            try simp only [Act.put, List.getElem_toArray, List.getElem_cons_succ, List.getElem_cons_zero, List.setIfInBounds_toArray, List.set_cons_zero, List.set_cons_succ]
            refine wpAnyH_take (i := 16) (v := ?v17) rfl (by kernel_rfl) (by kernel_rfl) (by kernel_rfl) (fun _ _ _ h => h) (Or.inl ⟨by kernel_rfl, ?h17⟩) HS ?r17
            case h17 => (rintro w ⟨s0, s1, s2, s3, s4, s5, s6⟩; go_simp) <;> with_reducible rfl
            try simp only [Act.put, List.getElem_toArray, List.getElem_cons_succ, List.getElem_cons_zero, List.setIfInBounds_toArray, List.set_cons_zero, List.set_cons_succ]
            refine wpAnyH_take (i := 17) (v := ?v18) rfl (by kernel_rfl) (by kernel_rfl) (by kernel_rfl) (fun _ _ _ h => h) (Or.inl ⟨by kernel_rfl, ?h18⟩) HS ?r18
            case h18 => (rintro w ⟨s0, s1, s2, s3, s4, s5, s6⟩; go_simp) <;> with_reducible rfl
            try simp only [Act.put, List.getElem_toArray, List.getElem_cons_succ, List.getElem_cons_zero, List.setIfInBounds_toArray, List.set_cons_zero, List.set_cons_succ]
            refine wpAnyH_take (i := 18) (v := ?v19) rfl (by kernel_rfl) (by kernel_rfl) (by kernel_rfl) (fun _ _ _ h => h) (Or.inl ⟨by kernel_rfl, ?h19⟩) HS ?r19
            case h19 => (rintro w ⟨s0, s1, s2, s3, s4, s5, s6⟩; go_simp) <;> with_reducible rfl
            try simp only [Act.put, List.getElem_toArray, List.getElem_cons_succ, List.getElem_cons_zero, List.setIfInBounds_toArray, List.set_cons_zero, List.set_cons_succ]
            refine wpAnyH_take (i := 19) (v := ?v20) rfl (by kernel_rfl) (by kernel_rfl) (by kernel_rfl) (fun _ _ _ h => h) (Or.inl ⟨by kernel_rfl, ?h20⟩) HS ?r20
            case h20 => (rintro w ⟨s0, s1, s2, s3, s4, s5, s6⟩; go_simp) <;> with_reducible rfl
            try simp only [Act.put, List.getElem_toArray, List.getElem_cons_succ, List.getElem_cons_zero, List.setIfInBounds_toArray, List.set_cons_zero, List.set_cons_succ]
            refine wpAnyH_take (i := 20) (v := ?v21) rfl (by kernel_rfl) (by kernel_rfl) (by kernel_rfl) (fun _ _ _ h => h) (Or.inl ⟨by kernel_rfl, ?h21⟩) HS ?r21
            case h21 => (rintro w ⟨s0, s1, s2, s3, s4, s5, s6⟩; go_simp) <;> with_reducible rfl
            try simp only [Act.put, List.getElem_toArray, List.getElem_cons_succ, List.getElem_cons_zero, List.setIfInBounds_toArray, List.set_cons_zero, List.set_cons_succ]
            refine wpAnyH_take (i := 21) (v := ?v22) rfl (by kernel_rfl) (by kernel_rfl) (by kernel_rfl) (fun _ _ _ h => h) (Or.inl ⟨by kernel_rfl, ?h22⟩) HS ?r22
            case h22 => (rintro w ⟨s0, s1, s2, s3, s4, s5, s6⟩; go_simp) <;> with_reducible rfl
            try simp only [Act.put, List.getElem_toArray, List.getElem_cons_succ, List.getElem_cons_zero, List.setIfInBounds_toArray, List.set_cons_zero, List.set_cons_succ]
            refine wpAnyH_take (i := 22) (v := ?v23) rfl (by kernel_rfl) (by kernel_rfl) (by kernel_rfl) (fun _ _ _ h => h) (Or.inl ⟨by kernel_rfl, ?h23⟩) HS ?r23
            case h23 => (rintro w ⟨s0, s1, s2, s3, s4, s5, s6⟩; go_simp) <;> with_reducible rfl
            try simp only [Act.put, List.getElem_toArray, List.getElem_cons_succ, List.getElem_cons_zero, List.setIfInBounds_toArray, List.set_cons_zero, List.set_cons_succ]
            refine wpAnyH_take (i := 23) (v := ?v24) rfl (by kernel_rfl) (by kernel_rfl) (by kernel_rfl) (fun _ _ _ h => h) (Or.inl ⟨by kernel_rfl, ?h24⟩) HS ?r24
            case h24 => (rintro w ⟨s0, s1, s2, s3, s4, s5, s6⟩; go_simp) <;> with_reducible rfl
            try simp only [Act.put, List.getElem_toArray, List.getElem_cons_succ, List.getElem_cons_zero, List.setIfInBounds_toArray, List.set_cons_zero, List.set_cons_succ]
            refine wpAnyH_take (i := 24) (v := ?v25) rfl (by kernel_rfl) (by kernel_rfl) (by kernel_rfl) (fun _ _ _ h => h) (Or.inl ⟨by kernel_rfl, ?h25⟩) HS ?r25
            case h25 => (rintro w ⟨s0, s1, s2, s3, s4, s5, s6⟩; go_simp) <;> with_reducible rfl
            try simp only [Act.put, List.getElem_toArray, List.getElem_cons_succ, List.getElem_cons_zero, List.setIfInBounds_toArray, List.set_cons_zero, List.set_cons_succ]
            refine wpAnyH_take (i := 25) (v := ?v26) rfl (by kernel_rfl) (by kernel_rfl) (by kernel_rfl) (fun _ _ _ h => h) (Or.inl ⟨by kernel_rfl, ?h26⟩) HS ?r26
            case h26 => (rintro w ⟨s0, s1, s2, s3, s4, s5, s6⟩; go_simp) <;> with_reducible rfl
            try simp only [Act.put, List.getElem_toArray, List.getElem_cons_succ, List.getElem_cons_zero, List.setIfInBounds_toArray, List.set_cons_zero, List.set_cons_succ]
            refine wpAnyH_take (i := 26) (v := ?v27) rfl (by kernel_rfl) (by kernel_rfl) (by kernel_rfl) (fun _ _ _ h => h) (Or.inl ⟨by kernel_rfl, ?h27⟩) HS ?r27
            case h27 => (rintro w ⟨s0, s1, s2, s3, s4, s5, s6⟩; go_simp) <;> with_reducible rfl
            try simp only [Act.put, List.getElem_toArray, List.getElem_cons_succ, List.getElem_cons_zero, List.setIfInBounds_toArray, List.set_cons_zero, List.set_cons_succ]
            refine wpAnyH_take (i := 27) (v := ?v28) rfl (by kernel_rfl) (by kernel_rfl) (by kernel_rfl) (fun _ _ _ h => h) (Or.inl ⟨by kernel_rfl, ?h28⟩) HS ?r28
            case h28 => (rintro w ⟨s0, s1, s2, s3, s4, s5, s6⟩; go_simp) <;> with_reducible rfl
            try simp only [Act.put, List.getElem_toArray, List.getElem_cons_succ, List.getElem_cons_zero, List.setIfInBounds_toArray, List.set_cons_zero, List.set_cons_succ]
            refine wpAnyH_take (i := 28) (v := ?v29) rfl (by kernel_rfl) (by kernel_rfl) (by kernel_rfl) (fun _ _ _ h => h) (Or.inl ⟨by kernel_rfl, ?h29⟩) HS ?r29
            case h29 => (rintro w ⟨s0, s1, s2, s3, s4, s5, s6⟩; go_simp) <;> with_reducible rfl
            try simp only [Act.put, List.getElem_toArray, List.getElem_cons_succ, List.getElem_cons_zero, List.setIfInBounds_toArray, List.set_cons_zero, List.set_cons_succ]
            refine wpAnyH_take (i := 29) (v := ?v30) rfl (by kernel_rfl) (by kernel_rfl) (by kernel_rfl) (fun _ _ _ h => h) (Or.inl ⟨by kernel_rfl, ?h30⟩) HS ?r30
            case h30 => (rintro w ⟨s0, s1, s2, s3, s4, s5, s6⟩; go_simp) <;> with_reducible rfl
            try simp only [Act.put, List.getElem_toArray, List.getElem_cons_succ, List.getElem_cons_zero, List.setIfInBounds_toArray, List.set_cons_zero, List.set_cons_succ]
            refine wpAnyH_take (i := 30) (v := ?v31) rfl (by kernel_rfl) (by kernel_rfl) (by kernel_rfl) (fun _ _ _ h => h) (Or.inl ⟨by kernel_rfl, ?h31⟩) HS ?r31
            case h31 => (rintro w ⟨s0, s1, s2, s3, s4, s5, s6⟩; go_simp) <;> with_reducible rfl
            try simp only [Act.put, List.getElem_toArray, List.getElem_cons_succ, List.getElem_cons_zero, List.setIfInBounds_toArray, List.set_cons_zero, List.set_cons_succ]
            refine wpAnyH_take (i := 31) (v := ?v32) rfl (by kernel_rfl) (by kernel_rfl) (by kernel_rfl) (fun _ _ _ h => h) (Or.inl ⟨by kernel_rfl, ?h32⟩) HS ?r32
            case h32 => (rintro w ⟨s0, s1, s2, s3, s4, s5, s6⟩; go_simp) <;> with_reducible rfl
            try simp only [Act.put, List.getElem_toArray, List.getElem_cons_succ, List.getElem_cons_zero, List.setIfInBounds_toArray, List.set_cons_zero, List.set_cons_succ]
            refine wpAnyH_take (i := 32) (v := ?v33) rfl (by kernel_rfl) (by kernel_rfl) (by kernel_rfl) (fun _ _ _ h => h) (Or.inl ⟨by kernel_rfl, ?h33⟩) HS ?r33
            case h33 => (rintro w ⟨s0, s1, s2, s3, s4, s5, s6⟩; go_simp) <;> with_reducible rfl
            try simp only [Act.put, List.getElem_toArray, List.getElem_cons_succ, List.getElem_cons_zero, List.setIfInBounds_toArray, List.set_cons_zero, List.set_cons_succ]
            refine wpAnyH_take (i := 33) (v := ?v34) rfl (by kernel_rfl) (by kernel_rfl) (by kernel_rfl) (fun _ _ _ h => h) (Or.inl ⟨by kernel_rfl, ?h34⟩) HS ?r34
            case h34 => (rintro w ⟨s0, s1, s2, s3, s4, s5, s6⟩; go_simp) <;> with_reducible rfl
            try simp only [Act.put, List.getElem_toArray, List.getElem_cons_succ, List.getElem_cons_zero, List.setIfInBounds_toArray, List.set_cons_zero, List.set_cons_succ]
            refine wpAnyH_take (i := 34) (v := ?v35) rfl (by kernel_rfl) (by kernel_rfl) (by kernel_rfl) (fun _ _ _ h => h) (Or.inl ⟨by kernel_rfl, ?h35⟩) HS ?r35
            case h35 => (rintro w ⟨s0, s1, s2, s3, s4, s5, s6⟩; go_simp) <;> with_reducible rfl
            try simp only [Act.put, List.getElem_toArray, List.getElem_cons_succ, List.getElem_cons_zero, List.setIfInBounds_toArray, List.set_cons_zero, List.set_cons_succ]
            refine wpAnyH_take (i := 35) (v := ?v36) rfl (by kernel_rfl) (by kernel_rfl) (by kernel_rfl) (fun _ _ _ h => h) (Or.inl ⟨by kernel_rfl, ?h36⟩) HS ?r36
            case h36 => (rintro w ⟨s0, s1, s2, s3, s4, s5, s6⟩; go_simp) <;> with_reducible rfl
            try simp only [Act.put, List.getElem_toArray, List.getElem_cons_succ, List.getElem_cons_zero, List.setIfInBounds_toArray, List.set_cons_zero, List.set_cons_succ]
            refine wpAnyH_take (i := 36) (v := ?v37) rfl (by kernel_rfl) (by kernel_rfl) (by kernel_rfl) (fun _ _ _ h => h) (Or.inl ⟨by kernel_rfl, ?h37⟩) HS ?r37
            case h37 => (rintro w ⟨s0, s1, s2, s3, s4, s5, s6⟩; go_simp) <;> with_reducible rfl
            try simp only [Act.put, List.getElem_toArray, List.getElem_cons_succ, List.getElem_cons_zero, List.setIfInBounds_toArray, List.set_cons_zero, List.set_cons_succ]
            refine wpAnyH_take (i := 37) (v := ?v38) rfl (by kernel_rfl) (by kernel_rfl) (by kernel_rfl) (fun _ _ _ h => h) (Or.inl ⟨by kernel_rfl, ?h38⟩) HS ?r38
            case h38 => (rintro w ⟨s0, s1, s2, s3, s4, s5, s6⟩; go_simp) <;> with_reducible rfl
            try simp only [Act.put, List.getElem_toArray, List.getElem_cons_succ, List.getElem_cons_zero, List.setIfInBounds_toArray, List.set_cons_zero, List.set_cons_succ]
            refine wpAnyH_take (i := 38) (v := ?v39) rfl (by kernel_rfl) (by kernel_rfl) (by kernel_rfl) (fun _ _ _ h => h) (Or.inl ⟨by kernel_rfl, ?h39⟩) HS ?r39
            case h39 => (rintro w ⟨s0, s1, s2, s3, s4, s5, s6⟩; go_simp) <;> with_reducible rfl
            try simp only [Act.put, List.getElem_toArray, List.getElem_cons_succ, List.getElem_cons_zero, List.setIfInBounds_toArray, List.set_cons_zero, List.set_cons_succ]
            refine wpAnyH_take (i := 39) (v := ?v40) rfl (by kernel_rfl) (by kernel_rfl) (by kernel_rfl) (fun _ _ _ h => h) (Or.inl ⟨by kernel_rfl, ?h40⟩) HS ?r40
            case h40 => (rintro w ⟨s0, s1, s2, s3, s4, s5, s6⟩; go_simp) <;> with_reducible rfl
            try simp only [Act.put, List.getElem_toArray, List.getElem_cons_succ, List.getElem_cons_zero, List.setIfInBounds_toArray, List.set_cons_zero, List.set_cons_succ]
            refine wpAnyH_take (i := 40) (v := ?v41) rfl (by kernel_rfl) (by kernel_rfl) (by kernel_rfl) (fun _ _ _ h => h) (Or.inl ⟨by kernel_rfl, ?h41⟩) HS ?r41
            case h41 => (rintro w ⟨s0, s1, s2, s3, s4, s5, s6⟩; go_simp) <;> with_reducible rfl
            try simp only [Act.put, List.getElem_toArray, List.getElem_cons_succ, List.getElem_cons_zero, List.setIfInBounds_toArray, List.set_cons_zero, List.set_cons_succ]
            refine wpAnyH_take (i := 41) (v := ?v42) rfl (by kernel_rfl) (by kernel_rfl) (by kernel_rfl) (fun _ _ _ h => h) (Or.inl ⟨by kernel_rfl, ?h42⟩) HS ?r42
            case h42 => (rintro w ⟨s0, s1, s2, s3, s4, s5, s6⟩; go_simp) <;> with_reducible rfl
            try simp only [Act.put, List.getElem_toArray, List.getElem_cons_succ, List.getElem_cons_zero, List.setIfInBounds_toArray, List.set_cons_zero, List.set_cons_succ]
            refine wpAnyH_take (i := 42) (v := ?v43) rfl (by kernel_rfl) (by kernel_rfl) (by kernel_rfl) (fun _ _ _ h => h) (Or.inl ⟨by kernel_rfl, ?h43⟩) HS ?r43
            case h43 => (rintro w ⟨s0, s1, s2, s3, s4, s5, s6⟩; go_simp) <;> with_reducible rfl
            try simp only [Act.put, List.getElem_toArray, List.getElem_cons_succ, List.getElem_cons_zero, List.setIfInBounds_toArray, List.set_cons_zero, List.set_cons_succ]
            refine wpAnyH_take (i := 43) (v := ?v44) rfl (by kernel_rfl) (by kernel_rfl) (by kernel_rfl) (fun _ _ _ h => h) (Or.inl ⟨by kernel_rfl, ?h44⟩) HS ?r44
            case h44 => (rintro w ⟨s0, s1, s2, s3, s4, s5, s6⟩; go_simp) <;> with_reducible rfl
            try simp only [Act.put, List.getElem_toArray, List.getElem_cons_succ, List.getElem_cons_zero, List.setIfInBounds_toArray, List.set_cons_zero, List.set_cons_succ]
            refine wpAnyH_take (i := 44) (v := ?v45) rfl (by kernel_rfl) (by kernel_rfl) (by kernel_rfl) (fun _ _ _ h => h) (Or.inl ⟨by kernel_rfl, ?h45⟩) HS ?r45
            case h45 => (rintro w ⟨s0, s1, s2, s3, s4, s5, s6⟩; go_simp) <;> with_reducible rfl
            try simp only [Act.put, List.getElem_toArray, List.getElem_cons_succ, List.getElem_cons_zero, List.setIfInBounds_toArray, List.set_cons_zero, List.set_cons_succ]
            refine wpAnyH_take (i := 45) (v := ?v46) rfl (by kernel_rfl) (by kernel_rfl) (by kernel_rfl) (fun _ _ _ h => h) (Or.inl ⟨by kernel_rfl, ?h46⟩) HS ?r46
            case h46 => (rintro w ⟨s0, s1, s2, s3, s4, s5, s6⟩; go_simp) <;> with_reducible rfl
            try simp only [Act.put, List.getElem_toArray, List.getElem_cons_succ, List.getElem_cons_zero, List.setIfInBounds_toArray, List.set_cons_zero, List.set_cons_succ]
            refine wpAnyH_take (i := 46) (v := ?v47) rfl (by kernel_rfl) (by kernel_rfl) (by kernel_rfl) (fun _ _ _ h => h) (Or.inl ⟨by kernel_rfl, ?h47⟩) HS ?r47
            case h47 => (rintro w ⟨s0, s1, s2, s3, s4, s5, s6⟩; go_simp) <;> with_reducible rfl
            try simp only [Act.put, List.getElem_toArray, List.getElem_cons_succ, List.getElem_cons_zero, List.setIfInBounds_toArray, List.set_cons_zero, List.set_cons_succ]
            refine wpAnyH_take (i := 47) (v := ?v48) rfl (by kernel_rfl) (by kernel_rfl) (by kernel_rfl) (fun _ _ _ h => h) (Or.inl ⟨by kernel_rfl, ?h48⟩) HS ?r48
            case h48 => (rintro w ⟨s0, s1, s2, s3, s4, s5, s6⟩; go_simp) <;> with_reducible rfl
            try simp only [Act.put, List.getElem_toArray, List.getElem_cons_succ, List.getElem_cons_zero, List.setIfInBounds_toArray, List.set_cons_zero, List.set_cons_succ]
            refine wpAnyH_take (i := 48) (v := ?v49) rfl (by kernel_rfl) (by kernel_rfl) (by kernel_rfl) (fun _ _ _ h => h) (Or.inl ⟨by kernel_rfl, ?h49⟩) HS ?r49
            case h49 => (rintro w ⟨s0, s1, s2, s3, s4, s5, s6⟩; go_simp) <;> with_reducible rfl
            try simp only [Act.put, List.getElem_toArray, List.getElem_cons_succ, List.getElem_cons_zero, List.setIfInBounds_toArray, List.set_cons_zero, List.set_cons_succ]
            refine wpAnyH_take (i := 49) (v := ?v50) rfl (by kernel_rfl) (by kernel_rfl) (by kernel_rfl) (fun _ _ _ h => h) (Or.inl ⟨by kernel_rfl, ?h50⟩) HS ?r50
            case h50 => (rintro w ⟨s0, s1, s2, s3, s4, s5, s6⟩; go_simp) <;> with_reducible rfl
            try simp only [Act.put, List.getElem_toArray, List.getElem_cons_succ, List.getElem_cons_zero, List.setIfInBounds_toArray, List.set_cons_zero, List.set_cons_succ]
            refine wpAnyH_take (i := 50) (v := ?v51) rfl (by kernel_rfl) (by kernel_rfl) (by kernel_rfl) (fun _ _ _ h => h) (Or.inl ⟨by kernel_rfl, ?h51⟩) HS ?r51
            case h51 => (rintro w ⟨s0, s1, s2, s3, s4, s5, s6⟩; go_simp) <;> with_reducible rfl
            try simp only [Act.put, List.getElem_toArray, List.getElem_cons_succ, List.getElem_cons_zero, List.setIfInBounds_toArray, List.set_cons_zero, List.set_cons_succ]
            refine wpAnyH_take (i := 51) (v := ?v52) rfl (by kernel_rfl) (by kernel_rfl) (by kernel_rfl) (fun _ _ _ h => h) (Or.inl ⟨by kernel_rfl, ?h52⟩) HS ?r52
            case h52 => (rintro w ⟨s0, s1, s2, s3, s4, s5, s6⟩; go_simp) <;> with_reducible rfl
            try simp only [Act.put, List.getElem_toArray, List.getElem_cons_succ, List.getElem_cons_zero, List.setIfInBounds_toArray, List.set_cons_zero, List.set_cons_succ]
            refine wpAnyH_take (i := 52) (v := ?v53) rfl (by kernel_rfl) (by kernel_rfl) (by kernel_rfl) (fun _ _ _ h => h) (Or.inl ⟨by kernel_rfl, ?h53⟩) HS ?r53
            case h53 => (rintro w ⟨s0, s1, s2, s3, s4, s5, s6⟩; go_simp) <;> with_reducible rfl
            try simp only [Act.put, List.getElem_toArray, List.getElem_cons_succ, List.getElem_cons_zero, List.setIfInBounds_toArray, List.set_cons_zero, List.set_cons_succ]
            refine wpAnyH_take (i := 53) (v := ?v54) rfl (by kernel_rfl) (by kernel_rfl) (by kernel_rfl) (fun _ _ _ h => h) (Or.inl ⟨by kernel_rfl, ?h54⟩) HS ?r54
            case h54 => (rintro w ⟨s0, s1, s2, s3, s4, s5, s6⟩; go_simp) <;> with_reducible rfl
            try simp only [Act.put, List.getElem_toArray, List.getElem_cons_succ, List.getElem_cons_zero, List.setIfInBounds_toArray, List.set_cons_zero, List.set_cons_succ]
            refine wpAnyH_take (i := 54) (v := ?v55) rfl (by kernel_rfl) (by kernel_rfl) (by kernel_rfl) (fun _ _ _ h => h) (Or.inl ⟨by kernel_rfl, ?h55⟩) HS ?r55
            case h55 => (rintro w ⟨s0, s1, s2, s3, s4, s5, s6⟩; go_simp) <;> with_reducible rfl
            try simp only [Act.put, List.getElem_toArray, List.getElem_cons_succ, List.getElem_cons_zero, List.setIfInBounds_toArray, List.set_cons_zero, List.set_cons_succ]
            refine wpAnyH_take (i := 55) (v := ?v56) rfl (by kernel_rfl) (by kernel_rfl) (by kernel_rfl) (fun _ _ _ h => h) (Or.inl ⟨by kernel_rfl, ?h56⟩) HS ?r56
            case h56 => (rintro w ⟨s0, s1, s2, s3, s4, s5, s6⟩; go_simp) <;> with_reducible rfl
            try simp only [Act.put, List.getElem_toArray, List.getElem_cons_succ, List.getElem_cons_zero, List.setIfInBounds_toArray, List.set_cons_zero, List.set_cons_succ]
            refine wpAnyH_take (i := 56) (v := ?v57) rfl (by kernel_rfl) (by kernel_rfl) (by kernel_rfl) (fun _ _ _ h => h) (Or.inl ⟨by kernel_rfl, ?h57⟩) HS ?r57
            case h57 => (rintro w ⟨s0, s1, s2, s3, s4, s5, s6⟩; go_simp) <;> with_reducible rfl
            try simp only [Act.put, List.getElem_toArray, List.getElem_cons_succ, List.getElem_cons_zero, List.setIfInBounds_toArray, List.set_cons_zero, List.set_cons_succ]
            refine wpAnyH_take (i := 57) (v := ?v58) rfl (by kernel_rfl) (by kernel_rfl) (by kernel_rfl) (fun _ _ _ h => h) (Or.inl ⟨by kernel_rfl, ?h58⟩) HS ?r58
            case h58 => (rintro w ⟨s0, s1, s2, s3, s4, s5, s6⟩; go_simp) <;> with_reducible rfl
            try simp only [Act.put, List.getElem_toArray, List.getElem_cons_succ, List.getElem_cons_zero, List.setIfInBounds_toArray, List.set_cons_zero, List.set_cons_succ]
            refine wpAnyH_done (by kernel_rfl) ?_ _
            have y1 := HS.2.1
            clear HS
            go_upto_region 23 with fail
            clear y1
            go_loopw [166] (fun s166 wu => ∃ u : Nat, u ≤ za ∧ s166 = .int .i64 (u : Int) ∧ Hid (Below w8.heap.size w8 wu)) (fun s166 _ => za - (intOf s166).toNat)
            case atStart => exact ⟨0, by omega, rfl, HWD⟩
            case round =>
              obtain ⟨u, hu, rfl, hWu⟩ := hrel
              clear HWD
              by_cases hut : u < za
              · have huI : (u : Int) < (za : Int) := by omega
                have y2 := cell_later hWu.out HC8.out.2.2.1
                go_upto_region 26 with fail
                clear y2
                go_loopw [174] (fun s174 wi => ∃ i : Nat, i ≤ zb ∧ s174 = .int .i64 (i : Int) ∧ Hid (Below w8.heap.size w8 wi)) (fun s174 _ => zb - (intOf s174).toNat)
                case atStart => exact ⟨0, by omega, rfl, hWu⟩
                case round =>
                  obtain ⟨i, hi, rfl, hWi⟩ := hrel
                  clear hWu
                  by_cases hit : i < zb
                  · have hiI : (i : Int) < (zb : Int) := by omega
                    have hk : u * zb + i < pr := by
                      have h : (u + 1) * zb ≤ za * zb := Nat.mul_le_mul_right _ hut
                      rw [Nat.succ_mul] at h
                      have := Hpr.out
                      omega
                    have hWD : Below w8.heap.size w8 wr.drew := bchain hWi.out (Below.refl _ _).drew
                    have cA := cell_later hWD (HcA.out _ hk)
                    have CW := HWl.out wr.drew u i hWD hut hit
                    have hI2 : (u : Int) * (zb : Int) = ((u * zb : Nat) : Int) := (Int.natCast_mul _ _).symm
                    obtain ⟨q, hq⟩ : ∃ q, u * zb = q := ⟨_, rfl⟩
                    rw [hq] at hk cA CW hI2
                    clear hq
                    obtain ⟨pv, hpv⟩ : ∃ pv, P (fsN z l + (q + i)) = pv := ⟨_, rfl⟩
                    rw [hpv] at cA CW
                    clear hpv
                    obtain ⟨qi, hqi⟩ : ∃ qi, q + i = qi := ⟨_, rfl⟩
                    rw [hqi] at cA hk
                    have w3' : IntKind.i64.wrap (q : Int) = (q : Int) := by rw [IntKind.wrap_i64]; omega
                    have w4' : IntKind.i64.wrap ((q : Int) + (i : Int)) = (qi : Int) := by rw [IntKind.wrap_i64]; omega
                    have hk1 : (qi : Int) < (pr : Int) := by omega
                    clear hqi
                    go_upto_region 28 with fail
                    refine wp_region_held_drew (S := fun W' => W'.cell? ⟨gm, om + l * 3 + 1, none⟩ = some (.int .i64 (zb : Int)) ∧ W'.cell? ⟨gm, om + l * 3 + 2, none⟩ = some (.slice (some ⟨bA, oA, none⟩) pr caA) ∧ W'.cell? ⟨bA, oA + qi, none⟩ = some (.int .i64 pv) ∧ W'.cell? ⟨R0, 0, none⟩ = some (.slice (some ⟨bs, os, none⟩) m cap) ∧ W'.cell? ⟨R0, 1, none⟩ = some (.slice ad7 lp ca7)) (by kernel_rfl) ⟨cell_later hWD HC8.out.2.2.1, cell_later hWD HC8.out.2.2.2.1, cA, cell_later hWD HR8.out.c0, cell_later hWD HR8.out.c1⟩ (fun HS => ?_)
                    have HWD : Hid (Below w8.heap.size w8 wr.drew) := hWD
                    clear hWD cA hWi
                    generalize wr.drew = wD at *
                    refine wpAnyH_take (i := 0) (v := ?v59) rfl (by kernel_rfl) (by kernel_rfl) (by kernel_rfl) (fun _ _ _ h => h) (Or.inl ⟨by kernel_rfl, ?h59⟩) HS ?r59
                    case h59 => (rintro w ⟨s0, s1, s2, s3, s4⟩; go_simp) <;> with_reducible rfl
                    try simp only [Act.put, List.getElem_toArray, List.getElem_cons_succ, List.getElem_cons_zero, List.setIfInBounds_toArray, List.set_cons_zero, List.set_cons_succ]
                    refine wpAnyH_take (i := 1) (v := ?v60) rfl (by kernel_rfl) (by kernel_rfl) (by kernel_rfl) (fun _ _ _ h => h) (Or.inl ⟨by kernel_rfl, ?h60⟩) HS ?r60
                    case h60 => (rintro w ⟨s0, s1, s2, s3, s4⟩; go_simp) <;> with_reducible rfl
                    try simp only [Act.put, List.getElem_toArray, List.getElem_cons_succ, List.getElem_cons_zero, List.setIfInBounds_toArray, List.set_cons_zero, List.set_cons_succ]
                    refine wpAnyH_take (i := 2) (v := ?v61) rfl (by kernel_rfl) (by kernel_rfl) (by kernel_rfl) (fun _ _ _ h => h) (Or.inl ⟨by kernel_rfl, ?h61⟩) HS ?r61
                    case h61 => (rintro w ⟨s0, s1, s2, s3, s4⟩; go_simp) <;> with_reducible rfl
                    try simp only [Act.put, List.getElem_toArray, List.getElem_cons_succ, List.getElem_cons_zero, List.setIfInBounds_toArray, List.set_cons_zero, List.set_cons_succ]
                    refine wpAnyH_take (i := 3) (v := ?v62) rfl (by kernel_rfl) (by kernel_rfl) (by kernel_rfl) (fun _ _ _ h => h) (Or.inl ⟨by kernel_rfl, ?h62⟩) HS ?r62
                    case h62 => (rintro w ⟨s0, s1, s2, s3, s4⟩; go_simp) <;> with_reducible rfl
                    try simp only [Act.put, List.getElem_toArray, List.getElem_cons_succ, List.getElem_cons_zero, List.setIfInBounds_toArray, List.set_cons_zero, List.set_cons_succ]
                    refine wpAnyH_take (i := 4) (v := ?v63) rfl (by kernel_rfl) (by kernel_rfl) (by kernel_rfl) (fun _ _ _ h => h) (Or.inl ⟨by kernel_rfl, ?h63⟩) HS ?r63
                    case h63 => (rintro w ⟨s0, s1, s2, s3, s4⟩; go_simp) <;> with_reducible rfl
                    try simp only [Act.put, List.getElem_toArray, List.getElem_cons_succ, List.getElem_cons_zero, List.setIfInBounds_toArray, List.set_cons_zero, List.set_cons_succ]
                    refine wpAnyH_take (i := 5) (v := ?v64) rfl (by kernel_rfl) (by kernel_rfl) (by kernel_rfl) (fun _ _ _ h => h) (Or.inl ⟨by kernel_rfl, ?h64⟩) HS ?r64
                    case h64 => (rintro w ⟨s0, s1, s2, s3, s4⟩; go_simp) <;> with_reducible rfl
                    try simp only [Act.put, List.getElem_toArray, List.getElem_cons_succ, List.getElem_cons_zero, List.setIfInBounds_toArray, List.set_cons_zero, List.set_cons_succ]
                    refine wpAnyH_take (i := 6) (v := ?v65) rfl (by kernel_rfl) (by kernel_rfl) (by kernel_rfl) (fun _ _ _ h => h) (Or.inl ⟨by kernel_rfl, ?h65⟩) HS ?r65
                    case h65 => (rintro w ⟨s0, s1, s2, s3, s4⟩; go_simp) <;> with_reducible rfl
                    try simp only [Act.put, List.getElem_toArray, List.getElem_cons_succ, List.getElem_cons_zero, List.setIfInBounds_toArray, List.set_cons_zero, List.set_cons_succ]
                    refine wpAnyH_take (i := 7) (v := ?v66) rfl (by kernel_rfl) (by kernel_rfl) (by kernel_rfl) (fun _ _ _ h => h) (Or.inl ⟨by kernel_rfl, ?h66⟩) HS ?r66
                    case h66 => (rintro w ⟨s0, s1, s2, s3, s4⟩; go_simp) <;> with_reducible rfl
                    try simp only [Act.put, List.getElem_toArray, List.getElem_cons_succ, List.getElem_cons_zero, List.setIfInBounds_toArray, List.set_cons_zero, List.set_cons_succ]
                    refine wpAnyH_take (i := 8) (v := ?v67) rfl (by kernel_rfl) (by kernel_rfl) (by kernel_rfl) (fun _ _ _ h => h) (Or.inl ⟨by kernel_rfl, ?h67⟩) HS ?r67
                    case h67 => (rintro w ⟨s0, s1, s2, s3, s4⟩; go_simp) <;> with_reducible rfl
                    try simp only [Act.put, List.getElem_toArray, List.getElem_cons_succ, List.getElem_cons_zero, List.setIfInBounds_toArray, List.set_cons_zero, List.set_cons_succ]
                    refine wpAnyH_take (i := 9) (v := ?v68) rfl (by kernel_rfl) (by kernel_rfl) (by kernel_rfl) (fun _ _ _ h => h) (Or.inl ⟨by kernel_rfl, ?h68⟩) HS ?r68
                    case h68 => (rintro w ⟨s0, s1, s2, s3, s4⟩; go_simp) <;> with_reducible rfl
                    try simp only [Act.put, List.getElem_toArray, List.getElem_cons_succ, List.getElem_cons_zero, List.setIfInBounds_toArray, List.set_cons_zero, List.set_cons_succ]
                    refine wpAnyH_take (i := 10) (v := ?v69) rfl (by kernel_rfl) (by kernel_rfl) (by kernel_rfl) (fun _ _ _ h => h) (Or.inl ⟨by kernel_rfl, ?h69⟩) HS ?r69
                    case h69 => (rintro w ⟨s0, s1, s2, s3, s4⟩; go_simp) <;> with_reducible rfl
                    try simp only [Act.put, List.getElem_toArray, List.getElem_cons_succ, List.getElem_cons_zero, List.setIfInBounds_toArray, List.set_cons_zero, List.set_cons_succ]
                    refine wpAnyH_take (i := 11) (v := ?v70) rfl (by kernel_rfl) (by kernel_rfl) (by kernel_rfl) (fun _ _ _ h => h) (Or.inl ⟨by kernel_rfl, ?h70⟩) HS ?r70
                    case h70 => (rintro w ⟨s0, s1, s2, s3, s4⟩; go_simp) <;> with_reducible rfl
                    try simp only [Act.put, List.getElem_toArray, List.getElem_cons_succ, List.getElem_cons_zero, List.setIfInBounds_toArray, List.set_cons_zero, List.set_cons_succ]
                    refine wpAnyH_take (i := 12) (v := ?v71) rfl (by kernel_rfl) (by kernel_rfl) (by kernel_rfl) (fun _ _ _ h => h) (Or.inl ⟨by kernel_rfl, ?h71⟩) HS ?r71
                    case h71 => (rintro w ⟨s0, s1, s2, s3, s4⟩; go_simp) <;> with_reducible rfl
                    try simp only [Act.put, List.getElem_toArray, List.getElem_cons_succ, List.getElem_cons_zero, List.setIfInBounds_toArray, List.set_cons_zero, List.set_cons_succ]
                    refine wpAnyH_take (i := 13) (v := ?v72) rfl (by kernel_rfl) (by kernel_rfl) (by kernel_rfl) (fun _ _ _ h => h) (Or.inl ⟨by kernel_rfl, ?h72⟩) HS ?r72
                    case h72 => (rintro w ⟨s0, s1, s2, s3, s4⟩; go_simp) <;> with_reducible rfl
                    try simp only [Act.put, List.getElem_toArray, List.getElem_cons_succ, List.getElem_cons_zero, List.setIfInBounds_toArray, List.set_cons_zero, List.set_cons_succ]
                    refine wpAnyH_take (i := 14) (v := ?v73) rfl (by kernel_rfl) (by kernel_rfl) (by kernel_rfl) (fun _ _ _ h => h) (Or.inl ⟨by kernel_rfl, ?h73⟩) HS ?r73
                    case h73 => (rintro w ⟨s0, s1, s2, s3, s4⟩; go_simp) <;> with_reducible rfl
                    try simp only [Act.put, List.getElem_toArray, List.getElem_cons_succ, List.getElem_cons_zero, List.setIfInBounds_toArray, List.set_cons_zero, List.set_cons_succ]
                    refine wpAnyH_take (i := 15) (v := ?v74) rfl (by kernel_rfl) (by kernel_rfl) (by kernel_rfl) (fun _ _ _ h => h) (Or.inl ⟨by kernel_rfl, ?h74⟩) HS ?r74
                    case h74 => (rintro w ⟨s0, s1, s2, s3, s4⟩; go_simp) <;> with_reducible rfl
                    try simp only [Act.put, List.getElem_toArray, List.getElem_cons_succ, List.getElem_cons_zero, List.setIfInBounds_toArray, List.set_cons_zero, List.set_cons_succ]
                    refine wpAnyH_take (i := 16) (v := ?v75) rfl (by kernel_rfl) (by kernel_rfl) (by kernel_rfl) (fun _ _ _ h => h) (Or.inl ⟨by kernel_rfl, ?h75⟩) HS ?r75
                    case h75 => (rintro w ⟨s0, s1, s2, s3, s4⟩; go_simp) <;> with_reducible rfl
                    try simp only [Act.put, List.getElem_toArray, List.getElem_cons_succ, List.getElem_cons_zero, List.setIfInBounds_toArray, List.set_cons_zero, List.set_cons_succ]
                    refine wpAnyH_take (i := 17) (v := ?v76) rfl (by kernel_rfl) (by kernel_rfl) (by kernel_rfl) (fun _ _ _ h => h) (Or.inl ⟨by kernel_rfl, ?h76⟩) HS ?r76
                    case h76 => (rintro w ⟨s0, s1, s2, s3, s4⟩; go_simp) <;> with_reducible rfl
                    try simp only [Act.put, List.getElem_toArray, List.getElem_cons_succ, List.getElem_cons_zero, List.setIfInBounds_toArray, List.set_cons_zero, List.set_cons_succ]
                    refine wpAnyH_take (i := 18) (v := ?v77) rfl (by kernel_rfl) (by kernel_rfl) (by kernel_rfl) (fun _ _ _ h => h) (Or.inl ⟨by kernel_rfl, ?h77⟩) HS ?r77
                    case h77 => (rintro w ⟨s0, s1, s2, s3, s4⟩; go_simp) <;> with_reducible rfl
                    try simp only [Act.put, List.getElem_toArray, List.getElem_cons_succ, List.getElem_cons_zero, List.setIfInBounds_toArray, List.set_cons_zero, List.set_cons_succ]
                    refine wpAnyH_take (i := 19) (v := ?v78) rfl (by kernel_rfl) (by kernel_rfl) (by kernel_rfl) (fun _ _ _ h => h) (Or.inl ⟨by kernel_rfl, ?h78⟩) HS ?r78
                    case h78 => (rintro w ⟨s0, s1, s2, s3, s4⟩; go_simp) <;> with_reducible rfl
                    try simp only [Act.put, List.getElem_toArray, List.getElem_cons_succ, List.getElem_cons_zero, List.setIfInBounds_toArray, List.set_cons_zero, List.set_cons_succ]
                    refine wpAnyH_ready (rs := [20]) (by kernel_rfl) (by simp) ?_
                    refine AllReadyH.cons rfl (fun K hK => ?_) AllReadyH.nil
                    go_simp
                    refine CW.mono ?_
                    rintro e wE ⟨rfl, hbE⟩
                    refine hK.out _ _ ⟨cell_later hbE HS.1, cell_later hbE HS.2.1, cell_later hbE HS.2.2.1, cell_later hbE HS.2.2.2.1, cell_later hbE HS.2.2.2.2⟩ (fun HS => ?_)
                    clear hK K
                    have HWE : Hid (Below w8.heap.size w8 wE) := bchain HWD.out hbE
                    clear CW hbE HWD
                    refine wpAnyH_take (i := 21) (v := ?v79) rfl (by kernel_rfl) (by kernel_rfl) (by kernel_rfl) (fun _ _ _ h => h) (Or.inl ⟨by kernel_rfl, ?h79⟩) HS ?r79
                    case h79 => (rintro w ⟨s0, s1, s2, s3, s4⟩; go_simp) <;> with_reducible rfl
                    try simp only [Act.put, List.getElem_toArray, List.getElem_cons_succ, List.getElem_cons_zero, List.setIfInBounds_toArray, List.set_cons_zero, List.set_cons_succ]
                    refine wpAnyH_done (by kernel_rfl) ?_ _
                    clear HS
                    go_wp2
                    go_roundw
                    case rel => exact ⟨i + 1, by omega, by go_num, HWE⟩
                    case measure => simp [intOf]; omega
                  · have hiN : ¬ (i : Int) < (zb : Int) := by omega
                    have hWD : Below w8.heap.size w8 wr.drew := bchain hWi.out (Below.refl _ _).drew
                    have cB := cell_later hWD (HcB.out u hut)
                    have CO := HOl.out wr.drew u hWD hut
                    obtain ⟨pv, hpv⟩ : ∃ pv, P (ofN z l u) = pv := ⟨_, rfl⟩
                    rw [hpv] at cB CO
                    clear hpv
                    go_upto_region 31 with fail
                    refine wp_region_held_drew (S := fun W' => W'.cell? ⟨gb, ob + l, none⟩ = some (.slice (some ⟨bB, oB, none⟩) za caB) ∧ W'.cell? ⟨bB, oB + u, none⟩ = some (.int .i64 pv) ∧ W'.cell? ⟨R0, 0, none⟩ = some (.slice (some ⟨bs, os, none⟩) m cap) ∧ W'.cell? ⟨R0, 1, none⟩ = some (.slice ad7 lp ca7)) (by kernel_rfl) ⟨cell_later hWD HC8.out.2.2.2.2.1, cB, cell_later hWD HR8.out.c0, cell_later hWD HR8.out.c1⟩ (fun HS => ?_)
                    have HWD : Hid (Below w8.heap.size w8 wr.drew) := hWD
                    clear hWD cB hWi
                    generalize wr.drew = wD at *
                    refine wpAnyH_take (i := 0) (v := ?v80) rfl (by kernel_rfl) (by kernel_rfl) (by kernel_rfl) (fun _ _ _ h => h) (Or.inl ⟨by kernel_rfl, ?h80⟩) HS ?r80
                    case h80 => (rintro w ⟨s0, s1, s2, s3⟩; go_simp) <;> with_reducible rfl
                    try simp only [Act.put, List.getElem_toArray, List.getElem_cons_succ, List.getElem_cons_zero, List.setIfInBounds_toArray, List.set_cons_zero, List.set_cons_succ]
                    refine wpAnyH_take (i := 1) (v := ?v81) rfl (by kernel_rfl) (by kernel_rfl) (by kernel_rfl) (fun _ _ _ h => h) (Or.inl ⟨by kernel_rfl, ?h81⟩) HS ?r81
                    case h81 => (rintro w ⟨s0, s1, s2, s3⟩; go_simp) <;> with_reducible rfl
                    try simp only [Act.put, List.getElem_toArray, List.getElem_cons_succ, List.getElem_cons_zero, List.setIfInBounds_toArray, List.set_cons_zero, List.set_cons_succ]
                    refine wpAnyH_take (i := 2) (v := ?v82) rfl (by kernel_rfl) (by kernel_rfl) (by kernel_rfl) (fun _ _ _ h => h) (Or.inl ⟨by kernel_rfl, ?h82⟩) HS ?r82
                    case h82 => (rintro w ⟨s0, s1, s2, s3⟩; go_simp) <;> with_reducible rfl
                    try simp only [Act.put, List.getElem_toArray, List.getElem_cons_succ, List.getElem_cons_zero, List.setIfInBounds_toArray, List.set_cons_zero, List.set_cons_succ]
                    refine wpAnyH_take (i := 3) (v := ?v83) rfl (by kernel_rfl) (by kernel_rfl) (by kernel_rfl) (fun _ _ _ h => h) (Or.inl ⟨by kernel_rfl, ?h83⟩) HS ?r83
                    case h83 => (rintro w ⟨s0, s1, s2, s3⟩; go_simp) <;> with_reducible rfl
                    try simp only [Act.put, List.getElem_toArray, List.getElem_cons_succ, List.getElem_cons_zero, List.setIfInBounds_toArray, List.set_cons_zero, List.set_cons_succ]
                    refine wpAnyH_take (i := 4) (v := ?v84) rfl (by kernel_rfl) (by kernel_rfl) (by kernel_rfl) (fun _ _ _ h => h) (Or.inl ⟨by kernel_rfl, ?h84⟩) HS ?r84
                    case h84 => (rintro w ⟨s0, s1, s2, s3⟩; go_simp) <;> with_reducible rfl
                    try simp only [Act.put, List.getElem_toArray, List.getElem_cons_succ, List.getElem_cons_zero, List.setIfInBounds_toArray, List.set_cons_zero, List.set_cons_succ]
                    refine wpAnyH_take (i := 5) (v := ?v85) rfl (by kernel_rfl) (by kernel_rfl) (by kernel_rfl) (fun _ _ _ h => h) (Or.inl ⟨by kernel_rfl, ?h85⟩) HS ?r85
                    case h85 => (rintro w ⟨s0, s1, s2, s3⟩; go_simp) <;> with_reducible rfl
                    try simp only [Act.put, List.getElem_toArray, List.getElem_cons_succ, List.getElem_cons_zero, List.setIfInBounds_toArray, List.set_cons_zero, List.set_cons_succ]
                    refine wpAnyH_take (i := 6) (v := ?v86) rfl (by kernel_rfl) (by kernel_rfl) (by kernel_rfl) (fun _ _ _ h => h) (Or.inl ⟨by kernel_rfl, ?h86⟩) HS ?r86
                    case h86 => (rintro w ⟨s0, s1, s2, s3⟩; go_simp) <;> with_reducible rfl
                    try simp only [Act.put, List.getElem_toArray, List.getElem_cons_succ, List.getElem_cons_zero, List.setIfInBounds_toArray, List.set_cons_zero, List.set_cons_succ]
                    refine wpAnyH_take (i := 7) (v := ?v87) rfl (by kernel_rfl) (by kernel_rfl) (by kernel_rfl) (fun _ _ _ h => h) (Or.inl ⟨by kernel_rfl, ?h87⟩) HS ?r87
                    case h87 => (rintro w ⟨s0, s1, s2, s3⟩; go_simp) <;> with_reducible rfl
                    try simp only [Act.put, List.getElem_toArray, List.getElem_cons_succ, List.getElem_cons_zero, List.setIfInBounds_toArray, List.set_cons_zero, List.set_cons_succ]
                    refine wpAnyH_take (i := 8) (v := ?v88) rfl (by kernel_rfl) (by kernel_rfl) (by kernel_rfl) (fun _ _ _ h => h) (Or.inl ⟨by kernel_rfl, ?h88⟩) HS ?r88
                    case h88 => (rintro w ⟨s0, s1, s2, s3⟩; go_simp) <;> with_reducible rfl
                    try simp only [Act.put, List.getElem_toArray, List.getElem_cons_succ, List.getElem_cons_zero, List.setIfInBounds_toArray, List.set_cons_zero, List.set_cons_succ]
                    refine wpAnyH_take (i := 9) (v := ?v89) rfl (by kernel_rfl) (by kernel_rfl) (by kernel_rfl) (fun _ _ _ h => h) (Or.inl ⟨by kernel_rfl, ?h89⟩) HS ?r89
                    case h89 => (rintro w ⟨s0, s1, s2, s3⟩; go_simp) <;> with_reducible rfl
                    try simp only [Act.put, List.getElem_toArray, List.getElem_cons_succ, List.getElem_cons_zero, List.setIfInBounds_toArray, List.set_cons_zero, List.set_cons_succ]
                    refine wpAnyH_ready (rs := [10]) (by kernel_rfl) (by simp) ?_
                    refine AllReadyH.cons rfl (fun K hK => ?_) AllReadyH.nil
                    go_simp
                    refine CO.mono ?_
                    rintro e wE ⟨rfl, hbE⟩
                    refine hK.out _ _ ⟨cell_later hbE HS.1, cell_later hbE HS.2.1, cell_later hbE HS.2.2.1, cell_later hbE HS.2.2.2⟩ (fun HS => ?_)
                    clear hK K
                    have HWE : Hid (Below w8.heap.size w8 wE) := bchain HWD.out hbE
                    clear CO hbE HWD
                    refine wpAnyH_take (i := 11) (v := ?v90) rfl (by kernel_rfl) (by kernel_rfl) (by kernel_rfl) (fun _ _ _ h => h) (Or.inl ⟨by kernel_rfl, ?h90⟩) HS ?r90
                    case h90 => (rintro w ⟨s0, s1, s2, s3⟩; go_simp) <;> with_reducible rfl
                    try simp only [Act.put, List.getElem_toArray, List.getElem_cons_succ, List.getElem_cons_zero, List.setIfInBounds_toArray, List.set_cons_zero, List.set_cons_succ]
                    refine wpAnyH_done (by kernel_rfl) ?_ _
                    clear HS
                    go_wp2
                    go_roundw
                    case rel => exact ⟨u + 1, by omega, by go_num, HWE⟩
                    case measure => simp [intOf]; omega
              · have huN : ¬ (u : Int) < (za : Int) := by omega
                go_wp2
                go_roundw
                case rel => exact ⟨l + 1, by omega, by go_num, hWu⟩
                case measure => simp [intOf]; omega
          · obtain rfl : l = M := by omega
            go_wp2
            go_ret
            exact ⟨rfl, bchain HB8.out hW.out⟩
      · have CS : Hid (∀ W : World, Below w.heap.size w W → Calls Tryz.prog 12 #[.slice adr m cap, .slice adp lp cpp] W fun e w' => ∃ v1 v2, e = .returned (.tuple #[v1, v2, .int .i64 40]) ∧ Emp v1 ∧ Emp v2 ∧ Below W.heap.size W w') := fun W hb => V6.splitS _ _ m lp z P W ((HAll.out.1.later hb).congr hfz) (HAll.out.2.later hb) hs hlp (hV.later hb)
        have Hlp : Hid (¬ lp = fsN z (m - 1)) := hlp
        obtain ⟨cp, hcp⟩ : ∃ cp, fsN z (m - 1) = cp := ⟨_, rfl⟩
        have Hcp : Hid (fsN z (m - 1) = cp) := hcp
        rw [hcp] at CC hlp
        have hq1 : ¬ (lp : Int) = (cp : Int) := by omega
        have hq2 : ((lp : Int) != (cp : Int)) = true := by simp [hq1]
        clear hs hfz hlp hcp
        go_wp2_with fail
        refine CC.mono ?_
        rintro e w4 ⟨rfl, hb⟩
        have HB4 : Hid (Below w.heap.size w w4) := bchain HB3.out hb
        have HX4 : Hid (Bx w.heap.size (.slice adr m cap) (.slice adp lp cpp) w4) := HX3.out.later hb
        have x0 := HX4.out.c0
        have x1 := HX4.out.c1
        clear hb CC HB3 HX3
        go_wp2_with fail
        refine (CS.out _ HB4.out).mono ?_
        rintro e w5 ⟨v1, v2, rfl, ⟨a1, c1, rfl⟩, ⟨a2, c2, rfl⟩, hb⟩
        have HB5 : Hid (Below w.heap.size w w5) := bchain HB4.out hb
        have HX5 : Hid (Bx w.heap.size (.slice adr m cap) (.slice adp lp cpp) w5) := HX4.out.later hb
        have x0 := HX5.out.c0
        clear hb HB4 HX4 x1 CS
        go_wp2_with fail
        refine (HCt.out _ HB5.out).mono ?_
        rintro e w6 ⟨C, rfl, hC, hb⟩
        obtain rfl : C = (cp : Int) := by have := hC.1 Hr.out; have := Hcp.out; omega
        have hC0 : ¬ (cp : Int) < 0 := by omega
        have HB6 : Hid (Below w.heap.size w w6) := bchain HB5.out hb
        have x1 := (HX5.out.later hb).c1
        clear hb HB5 HX5 hC HCt x0
        go_wp2
        go_ret
        exact ⟨rfl, HB6.out⟩
    · have CC := V6.countN _ m f w3 (by omega) (HAll.out.1.later HB3.out) hr (hV.later HB3.out)
      have CS : Hid (∀ W : World, Below w.heap.size w W → Calls Tryz.prog 12 #[.slice adr m cap, .slice adp lp cpp] W fun e w' => ∃ v1 v2, e = .returned (.tuple #[v1, v2, .int .i64 70]) ∧ Emp v1 ∧ Emp v2 ∧ Below W.heap.size W w') := fun W hb => V6.splitZ _ _ m lp f P W (by omega) (HAll.out.1.later hb) (HAll.out.2.later hb) hr (hV.later hb)
      have Hr : Hid (¬ Rt f m) := hr
      clear hr
      go_wp2_with fail
      refine CC.mono ?_
      rintro e w4 ⟨rfl, hb⟩
      have HB4 : Hid (Below w.heap.size w w4) := bchain HB3.out hb
      have HX4 : Hid (Bx w.heap.size (.slice adr m cap) (.slice adp lp cpp) w4) := HX3.out.later hb
      have x0 := HX4.out.c0
      have x1 := HX4.out.c1
      clear hb CC HB3 HX3
      go_wp2_with fail
      refine (CS.out _ HB4.out).mono ?_
      rintro e w5 ⟨v1, v2, rfl, ⟨a1, c1, rfl⟩, ⟨a2, c2, rfl⟩, hb⟩
      have HB5 : Hid (Below w.heap.size w w5) := bchain HB4.out hb
      have HX5 : Hid (Bx w.heap.size (.slice adr m cap) (.slice adp lp cpp) w5) := HX4.out.later hb
      have x0 := HX5.out.c0
      clear hb HB4 HX4 x1 CS
      go_wp2_with fail
      refine (HCt.out _ HB5.out).mono ?_
      rintro e w6 ⟨C, rfl, hC, hb⟩
      have hC0 := hC.2 Hr.out
      subst hC0
      have HB6 : Hid (Below w.heap.size w w6) := bchain HB5.out hb
      clear hb HB5 HX5 hC HCt x0
      go_wp2
      go_ret
      exact ⟨rfl, HB6.out⟩
  · have e0 := hT.no hfw
    subst e0
    clear hT
    go_wp2
    go_ret
    exact ⟨rfl, HB3.out⟩
end Go.Proofs.YtdfjnbkkdgolnaaGreatDoor
set_option linter.unusedVariables false
set_option linter.unusedSimpArgs false
namespace Go.Proofs.YtdfjnbkkdgolnaaGreatDoor
open Go.RowKit

set_option maxHeartbeats 1000000 in
theorem tooLong_any (a : Option Addr) (n c : Nat) (hn : n ≤ maxLen) (w : World) :
    Calls Tryz.prog 114 #[.slice a n c] w fun e w' => e = .returned (.bool (decide (65536 < n))) ∧ w' = w := by
  unfold maxLen at hn
  by_cases h : 65536 < n
  · have h1 : (65536 : Int) < (n : Int) := by omega
    rw [decide_eq_true h]
    clear h
    go_enter Tryz.func114, Tryz.ntmps114
    go_wp2
    go_ret
    exact ⟨rfl, rfl⟩
  · have h1 : ¬ (65536 : Int) < (n : Int) := by omega
    rw [decide_eq_false h]
    clear h
    go_enter Tryz.func114, Tryz.ntmps114
    go_wp2
    go_ret
    exact ⟨rfl, rfl⟩
/-- Whether one of so many vectors is too long. -/
def longB (ns : Nat → Nat) (m : Nat) : Bool := (List.range m).any (fun k => decide (65536 < ns k))
theorem longB_yes (ns : Nat → Nat) (m k : Nat) (hk : k < m) (h : 65536 < ns k) : longB ns m = true :=
  List.any_eq_true.2 ⟨k, List.mem_range.2 hk, decide_eq_true h⟩
theorem longB_no (ns : Nat → Nat) (m : Nat) (h : ∀ k, k < m → ¬ 65536 < ns k) : longB ns m = false := by
  rw [Bool.eq_false_iff]
  intro e
  obtain ⟨k, hk, h2⟩ := List.any_eq_true.1 e
  exact h k (List.mem_range.1 hk) (of_decide_eq_true h2)
/-- A list of lists: where each is, and how long. -/
def Hs (w : World) (v : Value) (m : Nat) (ns : Nat → Nat) : Prop :=
  ∃ (adr : Option Addr) (cap g o : Nat), v = .slice adr m cap ∧ m ≤ cap ∧ cap ≤ maxLen ∧ (0 < m → adr = some ⟨g, o, none⟩) ∧ ∀ k, k < m → ns k ≤ maxLen ∧ ∃ (ad : Option Addr) (ca : Nat), w.cell? ⟨g, o + k, none⟩ = some (.slice ad (ns k) ca)
set_option maxRecDepth 100000 in
set_option maxHeartbeats 2000000 in
theorem index_any (v : Value) (m : Nat) (ns : Nat → Nat) (w : World) (hH : Hs w v m ns) :
    Calls Tryz.prog 136 #[v, .func (.func 114) #[] #[]] w fun e w' => ∃ i : Int, e = .returned (.int .i64 i) ∧ (longB ns m = true → 0 ≤ i) ∧ (longB ns m = false → i < 0) ∧ w' = w := by
  obtain ⟨adr, cap, g, o, rfl, k1, k2, k3, k4⟩ := hH
  unfold maxLen at k2
  have HC : Hid (∀ k, k < m → ns k ≤ maxLen ∧ ∃ (ad : Option Addr) (ca : Nat), w.cell? ⟨g, o + k, none⟩ = some (.slice ad (ns k) ca)) := k4
  have HK : Hid (0 < m → adr = some ⟨g, o, none⟩) := k3
  clear k3 k4
  go_enter Tryz.func136, Tryz.ntmps136
  go_wp2
  go_loopw [8] (fun s8 wr => ∃ j : Nat, j ≤ m ∧ s8 = .int .i64 (j : Int) ∧ Hid (∀ k, k < j → ¬ 65536 < ns k) ∧ wr = w) (fun s8 _ => m - (intOf s8).toNat)
  case atStart => exact ⟨0, by omega, rfl, fun k hk => by omega, rfl⟩
  case round =>
    obtain ⟨j, hj, rfl, hA, rfl⟩ := hrel
    by_cases hlt : j < m
    · have hjI : (j : Int) < (m : Int) := by omega
      have ea := HK.out (by omega)
      subst ea
      obtain ⟨hl, ad, ca, hcell⟩ := HC.out j hlt
      have CT : Hid (∀ W : World, Calls Tryz.prog 114 #[.slice ad (ns j) ca] W fun e w' => e = .returned (.bool (decide (65536 < ns j))) ∧ w' = W) := fun W => tooLong_any ad (ns j) ca hl W
      clear hl
      by_cases hlong : 65536 < ns j
      · rw [decide_eq_true hlong] at CT
        have HF : Hid (longB ns m = true) := longB_yes ns m j hlt hlong
        clear hlong hA
        go_wp2_with (go_at_call 114; refine (CT.out _).mono ?_; rintro e wz ⟨rfl, hz⟩; subst hz)
        go_ret
        exact ⟨_, rfl, fun _ => by omega, fun h => (by rw [HF.out] at h; cases h), rfl⟩
      · rw [decide_eq_false hlong] at CT
        have HA2 : Hid (∀ k, k < j + 1 → ¬ 65536 < ns k) := fun k hk => by
          rcases Nat.lt_or_ge k j with h | h
          · exact hA.out k h
          · obtain rfl : k = j := by omega
            exact hlong
        clear hlong hA
        go_wp2_with (go_at_call 114; refine (CT.out _).mono ?_; rintro e wz ⟨rfl, hz⟩; subst hz)
        go_roundw
        case rel => exact ⟨j + 1, by omega, by go_num, HA2, trivial⟩
        case measure => simp [intOf]; omega
    · have HF : Hid (longB ns m = false) := longB_no ns m (fun k hk => hA.out k (by omega))
      have hjI : ¬ (j : Int) < (m : Int) := by omega
      clear hA
      go_wp2
      go_ret
      exact ⟨_, rfl, fun h => (by rw [HF.out] at h; cases h), fun _ => by omega, rfl⟩
set_option maxHeartbeats 1000000 in
theorem contains_any (v : Value) (m : Nat) (ns : Nat → Nat) (w : World) (hH : Hs w v m ns) :
    Calls Tryz.prog 113 #[v, .func (.func 114) #[] #[]] w fun e w' => e = .returned (.bool (longB ns m)) ∧ w' = w := by
  have CI : Hid (Calls Tryz.prog 136 #[v, .func (.func 114) #[] #[]] w fun e w' => ∃ i : Int, e = .returned (.int .i64 i) ∧ (longB ns m = true → 0 ≤ i) ∧ (longB ns m = false → i < 0) ∧ w' = w) := index_any v m ns w hH
  obtain ⟨adr, cap, g, o, rfl, -, -, -, -⟩ := hH
  generalize longB ns m = B at *
  cases B
  · go_enter Tryz.func113, Tryz.ntmps113
    go_wp2_with fail
    refine CI.out.mono ?_
    rintro e wz ⟨i, rfl, -, h1, hz⟩
    subst hz
    have h2 : ¬ (0 : Int) ≤ i := by have := h1 (by trivial); omega
    clear CI h1
    go_wp2
    go_ret
    exact ⟨by simp [h2], rfl⟩
  · go_enter Tryz.func113, Tryz.ntmps113
    go_wp2_with fail
    refine CI.out.mono ?_
    rintro e wz ⟨i, rfl, h1, -, hz⟩
    subst hz
    have h2 : (0 : Int) ≤ i := h1 (by trivial)
    clear CI h1
    go_wp2
    go_ret
    exact ⟨by simp [h2], rfl⟩
/-- check's answer. -/
def ckE (b : Bool) (ns : Nat → Nat) (m : Nat) : Int := if longB ns m = true then 3 else if b = true then 0 else 40
set_option maxHeartbeats 1000000 in
theorem check_any (b : Bool) (v : Value) (m : Nat) (ns : Nat → Nat) (w : World) (hH : Hs w v m ns) :
    Calls Tryz.prog 81 #[.bool b, v] w fun e w' => e = .returned (.int .i64 (ckE b ns m)) ∧ w' = w := by
  have CI : Hid (Calls Tryz.prog 113 #[v, .func (.func 114) #[] #[]] w fun e w' => e = .returned (.bool (longB ns m)) ∧ w' = w) := contains_any v m ns w hH
  obtain ⟨adr, cap, g, o, rfl, -, -, -, -⟩ := hH
  unfold ckE
  generalize longB ns m = B at *
  cases B <;> cases b
  all_goals
    first
      | rw [if_pos rfl]
      | rw [if_neg (by decide), if_pos rfl]
      | rw [if_neg (by decide), if_neg (by decide)]
    go_enter Tryz.func81, Tryz.ntmps81
    go_wp2_with fail
    refine CI.out.mono ?_
    rintro e wz ⟨rfl, hz⟩
    subst hz
    clear CI
    go_wp2
    go_ret
    exact ⟨rfl, rfl⟩
theorem hs1 (w1 : World) (ada : Option Addr) (n ca : Nat) (k : n ≤ maxLen) : Hs (w1.alloc (.cells #[.slice ada n ca] 23)) (.slice (some ⟨w1.heap.size, 0, none⟩) 1 1) 1 (fun _ => n) := by
  refine ⟨some ⟨w1.heap.size, 0, none⟩, 1, w1.heap.size, 0, rfl, Nat.le_refl _, by unfold maxLen; omega, fun _ => rfl, fun k hk => ?_⟩
  obtain rfl : k = 0 := by omega
  exact ⟨k, ada, ca, by simp [go_sem]⟩
theorem hs2 (w1 : World) (ada adb : Option Addr) (n ca m cb : Nat) (k : n ≤ maxLen) (q : m ≤ maxLen) : Hs (w1.alloc (.cells #[.slice ada n ca, .slice adb m cb] 23)) (.slice (some ⟨w1.heap.size, 0, none⟩) 2 2) 2 (fun k => if k = 0 then n else m) := by
  refine ⟨some ⟨w1.heap.size, 0, none⟩, 2, w1.heap.size, 0, rfl, Nat.le_refl _, by unfold maxLen; omega, fun _ => rfl, fun k hk => ?_⟩
  rcases (show k = 0 ∨ k = 1 by omega) with rfl | rfl
  · exact ⟨k, ada, ca, by simp [go_sem]⟩
  · exact ⟨q, adb, cb, by simp [go_sem]⟩
theorem ckE1 (b : Bool) (n : Nat) : ckE b (fun _ => n) 1 = if 65536 < n then 3 else if b = true then 0 else 40 := by
  unfold ckE longB
  by_cases h : 65536 < n <;> simp [h, List.range_succ]
theorem ckE2 (b : Bool) (n m : Nat) : ckE b (fun k => if k = 0 then n else m) 2 = if 65536 < n ∨ 65536 < m then 3 else if b = true then 0 else 40 := by
  unfold ckE longB
  by_cases h : 65536 < n <;> by_cases h' : 65536 < m <;> simp [h, h', List.range_succ]
theorem check1_any (b : Bool) (w1 : World) (ada : Option Addr) (n ca : Nat) (k : n ≤ maxLen) :
    Calls Tryz.prog 81 #[.bool b, .slice (some ⟨w1.heap.size, 0, none⟩) 1 1] (w1.alloc (.cells #[.slice ada n ca] 23)) fun e w' => e = .returned (.int .i64 (if 65536 < n then 3 else if b = true then 0 else 40)) ∧ w' = w1.alloc (.cells #[.slice ada n ca] 23) := by
  have h := check_any b _ 1 _ _ (hs1 w1 ada n ca k)
  rw [ckE1] at h
  exact h
theorem check2_any (b : Bool) (w1 : World) (ada adb : Option Addr) (n ca m cb : Nat) (k : n ≤ maxLen) (q : m ≤ maxLen) :
    Calls Tryz.prog 81 #[.bool b, .slice (some ⟨w1.heap.size, 0, none⟩) 2 2] (w1.alloc (.cells #[.slice ada n ca, .slice adb m cb] 23)) fun e w' => e = .returned (.int .i64 (if 65536 < n ∨ 65536 < m then 3 else if b = true then 0 else 40)) ∧ w' = w1.alloc (.cells #[.slice ada n ca, .slice adb m cb] 23) := by
  have h := check_any b _ 2 _ _ (hs2 w1 ada adb n ca m cb k q)
  rw [ckE2] at h
  exact h
end Go.Proofs.YtdfjnbkkdgolnaaGreatDoor
