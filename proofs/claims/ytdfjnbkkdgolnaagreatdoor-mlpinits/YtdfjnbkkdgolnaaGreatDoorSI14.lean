/-
  Texts of this proof, joined: NWalkO NWalkP.
-/
import Derived.Test.YtdfjnbkkdgolnaaGreatDoorSI07
import Derived.Test.YtdfjnbkkdgolnaaGreatDoorSI10
import Derived.Test.YtdfjnbkkdgolnaaGreatDoorSI11
import Derived.Test.YtdfjnbkkdgolnaaGreatDoorSI13
set_option linter.unusedVariables false
set_option linter.unusedSimpArgs false
namespace Go.Proofs.YtdfjnbkkdgolnaaGreatDoor
open Go.RowKit

set_option maxRecDepth 100000 in
set_option maxHeartbeats 8000000 in
theorem draw_any (sd : Nat) (hsd : sd < 18446744073709551616) (R C g q k1 cp first : Nat) (adB : Option Addr) (nB cB : Nat) (F : Nat → Int) (hR : R ≤ 64) (hC : C ≤ 64) (hC1 : 1 ≤ C) (hR1 : 1 ≤ R) (hf : first ≤ 30000) (hq : q + R * C ≤ cp) (w : World) (hG : Rw g cp (fun j => .int .i64 (F j)) w) :
    Calls Tryz.prog 41 #[.agg #[.int .i64 (R : Int), .int .i64 (C : Int), .slice (some ⟨g, q, none⟩) (R * C) k1, .slice adB nB cB], .agg #[.int .u64 (sd : Int), .int .i64 3, .int .i64 0, .int .i64 0], .int .i64 (first : Int)] w fun e w' => e = .returned (.tuple #[]) ∧ Rw g cp (fun j => .int .i64 (if q ≤ j ∧ j < q + R * C then inW sd C (first + (j - q)) else F j)) w' ∧ Uy none 0 g w w' := by
  have hRC : R * C ≤ 64 * 64 := Nat.mul_le_mul hR hC
  have hRC1 : 1 * 1 ≤ R * C := Nat.mul_le_mul hR1 hC1
  obtain ⟨rb1, rb2⟩ := rtB_rng C hC1 hC
  have CR : Hid (∀ W : World, Calls Tryz.prog 63 #[.int .i64 1, .int .i64 (C : Int)] W fun e w' => ∃ b : Bool, e = .returned (.tuple #[.int .i64 (rtB C), .bool b]) ∧ Below W.heap.size W w') := fun W => (fratio_any 1 (C : Int) (by omega) (by omega) (by omega) (by omega) W).mono fun e w' h => ⟨_, h.1, h.2⟩
  have CB : Hid (∀ (j : Nat) (W : World), j ≤ 5000 → Calls Tryz.prog 64 #[.agg #[.int .u64 (sd : Int), .int .i64 3, .int .i64 0, .int .i64 0], .int .i64 ((first + j : Nat) : Int), .int .i64 (-rtB C), .int .i64 (rtB C)] W fun e w' => e = .returned (.int .i64 (inW sd C (first + j))) ∧ Below W.heap.size W w') := fun j W hj => pBetween_any sd 3 0 0 ((first + j : Nat) : Int) (-rtB C) (rtB C) (by constructor <;> first | omega | (constructor <;> omega)) (by omega) (by omega) (by omega) (by omega) (by omega) W
  have hglt : g < w.heap.size := World.block_lt_of_cell? _ _ (hG.c 0 (by omega))
  have hneg : IntKind.i64.wrap (-rtB C) = -rtB C := by rw [IntKind.wrap_i64]; omega
  generalize rtB C = rt' at *
  obtain ⟨w1, hw1⟩ : ∃ w1, w1 = w.alloc (.cells #[.int .i64 (R : Int), .int .i64 (C : Int), .slice (some ⟨g, q, none⟩) (R * C) k1, .slice adB nB cB] 94) := ⟨_, rfl⟩
  obtain ⟨w2, hw2⟩ : ∃ w2, w2 = w1.alloc (.cells #[.int .u64 (sd : Int), .int .i64 3, .int .i64 0, .int .i64 0] 99) := ⟨_, rfl⟩
  have hs1 : w1.heap.size = w.heap.size + 1 := by rw [hw1, World.size_alloc]
  have HL2 : B4 w.heap.size (.int .i64 (R : Int)) (.int .i64 (C : Int)) (.slice (some ⟨g, q, none⟩) (R * C) k1) (.slice adB nB cB) w2 := by rw [hw2, hw1]; exact (B4.new w _ _ _ _ _).later (bel1 _ _)
  have HK2 : B4 (w.heap.size + 1) (.int .u64 (sd : Int)) (.int .i64 3) (.int .i64 0) (.int .i64 0) w2 := by rw [hw2, ← hs1]; exact B4.new w1 _ _ _ _ _
  have hb2 : Below w.heap.size w w2 := by rw [hw2, hw1]; exact bel2 _ _ _
  have HL2' : Hid _ := HL2
  have HK2' : Hid _ := HK2
  have HB2 : Hid (Below w.heap.size w w2) := hb2
  have HG2 : Hid (Rw g cp (fun j => .int .i64 (F j)) w2) := hG.later hb2
  have x1 := HL2.c1
  rw [hw2, hw1] at x1
  clear HL2 HK2 hb2 hG
  obtain ⟨RC, hRCe⟩ : ∃ x, R * C = x := ⟨_, rfl⟩
  rw [hRCe] at hRC hRC1 hq x1 hw1 HL2' ⊢
  clear hRCe
  go_enter Tryz.func41, Tryz.ntmps41
  go_wp2_with fail
  rw [← hw1, ← hw2]
  refine (CR.out _).mono ?_
  rintro e w3 ⟨bq, rfl, h3⟩
  have HL3 : Hid (B4 w.heap.size (.int .i64 (R : Int)) (.int .i64 (C : Int)) (.slice (some ⟨g, q, none⟩) RC k1) (.slice adB nB cB) w3) := HL2'.out.later h3
  have HK3 : Hid (B4 (w.heap.size + 1) (.int .u64 (sd : Int)) (.int .i64 3) (.int .i64 0) (.int .i64 0) w3) := HK2'.out.later h3
  have HG3 : Hid (Rw g cp (fun j => .int .i64 (F j)) w3) := HG2.out.later h3
  have HY3 : Hid (Uy none 0 g w w3) := (Ux.uy (p := none) (c := 0) (Or.inl ⟨rfl, bchain HB2.out h3⟩) g)
  have y2 := HL3.out.c2
  clear hw1 hw2 h3 HL2' HK2' HB2 HG2 CR x1 hs1
  go_upto_region 3 with fail
  clear y2
  go_loopw [20] (fun si wr => ∃ j : Nat, j ≤ RC ∧ si = .int .i64 (j : Int) ∧ Hid (Rw g cp (fun k => .int .i64 (if q ≤ k ∧ k < q + j then inW sd C (first + (k - q)) else F k)) wr) ∧ Hid (B4 w.heap.size (.int .i64 (R : Int)) (.int .i64 (C : Int)) (.slice (some ⟨g, q, none⟩) RC k1) (.slice adB nB cB) wr) ∧ Hid (B4 (w.heap.size + 1) (.int .u64 (sd : Int)) (.int .i64 3) (.int .i64 0) (.int .i64 0) wr) ∧ Hid (Uy none 0 g w wr)) (fun si _ => RC - (intOf si).toNat)
  case atStart => exact ⟨0, by omega, rfl, HG3.out.congr (fun k hk => by rw [if_neg (by omega)]), HL3, HK3, HY3⟩
  case round =>
    obtain ⟨j, hj, rfl, HR, HL, HK, HY⟩ := hrel
    by_cases hlt : j < RC
    · have hjI : (j : Int) < (RC : Int) := by omega
      have hbD : Below wr.heap.size wr wr.drew := (Below.refl _ _).drew
      have HLd := HL.out.later hbD
      have HKd := HK.out.later hbD
      have HRd : Hid (Rw g cp (fun k => .int .i64 (if q ≤ k ∧ k < q + j then inW sd C (first + (k - q)) else F k)) wr.drew) := HR.out.later hbD
      have HYd : Hid (Uy none 0 g w wr.drew) := HY.out.chain (Ux.uy (Or.inl ⟨rfl, hbD⟩) g)
      obtain ⟨fj, hfj⟩ : ∃ x, first + j = x := ⟨_, rfl⟩
      have CBj : Hid (∀ W : World, Calls Tryz.prog 64 #[.agg #[.int .u64 (sd : Int), .int .i64 3, .int .i64 0, .int .i64 0], .int .i64 (fj : Int), .int .i64 (-rt'), .int .i64 rt'] W fun e w' => e = .returned (.int .i64 (inW sd C fj)) ∧ Below W.heap.size W w') := fun W => by rw [← hfj]; exact CB.out j W (by omega)
      have wf : IntKind.i64.wrap ((first : Int) + (j : Int)) = (fj : Int) := by rw [IntKind.wrap_i64]; omega
      obtain ⟨qj, hqj⟩ : ∃ x, q + j = x := ⟨_, rfl⟩
      have HE : Hid (first + j = fj ∧ q + j = qj) := ⟨hfj, hqj⟩
      have hqjlt : qj < cp := by omega
      obtain ⟨IV, hIV⟩ : ∃ x, inW sd C fj = x := ⟨_, rfl⟩
      have HIV : Hid (inW sd C fj = IV) := hIV
      rw [hIV] at CBj
      clear hfj hIV HL HK HR HY hbD hqj hqjlt
      go_upto_region 5 with fail
      refine wp_region_held_drew (S := fun W' => W'.cell? ⟨w.heap.size, 2, none⟩ = some (.slice (some ⟨g, q, none⟩) RC k1) ∧ W'.cell? ⟨w.heap.size + 1, 0, none⟩ = some (.int .u64 (sd : Int)) ∧ W'.cell? ⟨w.heap.size + 1, 1, none⟩ = some (.int .i64 3) ∧ W'.cell? ⟨w.heap.size + 1, 2, none⟩ = some (.int .i64 0) ∧ W'.cell? ⟨w.heap.size + 1, 3, none⟩ = some (.int .i64 0)) (by kernel_rfl) ⟨HLd.c2, HKd.c0, HKd.c1, HKd.c2, HKd.c3⟩ (fun HS => ?_)
      generalize wr.drew = wd at *
      refine wpAnyH_take (i := 0) (v := ?v1) rfl (by kernel_rfl) (by kernel_rfl) (by kernel_rfl) (fun _ _ _ h => h) (Or.inl ⟨by kernel_rfl, ?h1⟩) HS ?r1
      case h1 => (rintro w ⟨e0, e1, e2, e3, e4⟩; go_simp) <;> with_reducible rfl
      try simp only [Act.put, List.getElem_toArray, List.getElem_cons_succ, List.getElem_cons_zero, List.setIfInBounds_toArray, List.set_cons_zero, List.set_cons_succ]
      refine wpAnyH_take (i := 1) (v := ?v2) rfl (by kernel_rfl) (by kernel_rfl) (by kernel_rfl) (fun _ _ _ h => h) (Or.inl ⟨by kernel_rfl, ?h2⟩) HS ?r2
      case h2 => (rintro w ⟨e0, e1, e2, e3, e4⟩; go_simp) <;> with_reducible rfl
      try simp only [Act.put, List.getElem_toArray, List.getElem_cons_succ, List.getElem_cons_zero, List.setIfInBounds_toArray, List.set_cons_zero, List.set_cons_succ]
      refine wpAnyH_take (i := 2) (v := ?v3) rfl (by kernel_rfl) (by kernel_rfl) (by kernel_rfl) (fun _ _ _ h => h) (Or.inl ⟨by kernel_rfl, ?h3⟩) HS ?r3
      case h3 => (rintro w ⟨e0, e1, e2, e3, e4⟩; go_simp) <;> with_reducible rfl
      try simp only [Act.put, List.getElem_toArray, List.getElem_cons_succ, List.getElem_cons_zero, List.setIfInBounds_toArray, List.set_cons_zero, List.set_cons_succ]
      refine wpAnyH_take (i := 3) (v := ?v4) rfl (by kernel_rfl) (by kernel_rfl) (by kernel_rfl) (fun _ _ _ h => h) (Or.inl ⟨by kernel_rfl, ?h4⟩) HS ?r4
      case h4 => (rintro w ⟨e0, e1, e2, e3, e4⟩; go_simp) <;> with_reducible rfl
      try simp only [Act.put, List.getElem_toArray, List.getElem_cons_succ, List.getElem_cons_zero, List.setIfInBounds_toArray, List.set_cons_zero, List.set_cons_succ]
      refine wpAnyH_take (i := 4) (v := ?v5) rfl (by kernel_rfl) (by kernel_rfl) (by kernel_rfl) (fun _ _ _ h => h) (Or.inl ⟨by kernel_rfl, ?h5⟩) HS ?r5
      case h5 => (rintro w ⟨e0, e1, e2, e3, e4⟩; go_simp) <;> with_reducible rfl
      try simp only [Act.put, List.getElem_toArray, List.getElem_cons_succ, List.getElem_cons_zero, List.setIfInBounds_toArray, List.set_cons_zero, List.set_cons_succ]
      refine wpAnyH_take (i := 5) (v := ?v6) rfl (by kernel_rfl) (by kernel_rfl) (by kernel_rfl) (fun _ _ _ h => h) (Or.inl ⟨by kernel_rfl, ?h6⟩) HS ?r6
      case h6 => (rintro w ⟨e0, e1, e2, e3, e4⟩; go_simp) <;> with_reducible rfl
      try simp only [Act.put, List.getElem_toArray, List.getElem_cons_succ, List.getElem_cons_zero, List.setIfInBounds_toArray, List.set_cons_zero, List.set_cons_succ]
      refine wpAnyH_take (i := 6) (v := ?v7) rfl (by kernel_rfl) (by kernel_rfl) (by kernel_rfl) (fun _ _ _ h => h) (Or.inl ⟨by kernel_rfl, ?h7⟩) HS ?r7
      case h7 => (rintro w ⟨e0, e1, e2, e3, e4⟩; go_simp) <;> with_reducible rfl
      try simp only [Act.put, List.getElem_toArray, List.getElem_cons_succ, List.getElem_cons_zero, List.setIfInBounds_toArray, List.set_cons_zero, List.set_cons_succ]
      refine wpAnyH_take (i := 7) (v := ?v8) rfl (by kernel_rfl) (by kernel_rfl) (by kernel_rfl) (fun _ _ _ h => h) (Or.inl ⟨by kernel_rfl, ?h8⟩) HS ?r8
      case h8 => (rintro w ⟨e0, e1, e2, e3, e4⟩; go_simp) <;> with_reducible rfl
      try simp only [Act.put, List.getElem_toArray, List.getElem_cons_succ, List.getElem_cons_zero, List.setIfInBounds_toArray, List.set_cons_zero, List.set_cons_succ]
      refine wpAnyH_take (i := 8) (v := ?v9) rfl (by kernel_rfl) (by kernel_rfl) (by kernel_rfl) (fun _ _ _ h => h) (Or.inl ⟨by kernel_rfl, ?h9⟩) HS ?r9
      case h9 => (rintro w ⟨e0, e1, e2, e3, e4⟩; go_simp) <;> with_reducible rfl
      try simp only [Act.put, List.getElem_toArray, List.getElem_cons_succ, List.getElem_cons_zero, List.setIfInBounds_toArray, List.set_cons_zero, List.set_cons_succ]
      refine wpAnyH_take (i := 9) (v := ?v10) rfl (by kernel_rfl) (by kernel_rfl) (by kernel_rfl) (fun _ _ _ h => h) (Or.inl ⟨by kernel_rfl, ?h10⟩) HS ?r10
      case h10 => (rintro w ⟨e0, e1, e2, e3, e4⟩; go_simp) <;> with_reducible rfl
      try simp only [Act.put, List.getElem_toArray, List.getElem_cons_succ, List.getElem_cons_zero, List.setIfInBounds_toArray, List.set_cons_zero, List.set_cons_succ]
      refine wpAnyH_take (i := 10) (v := ?v11) rfl (by kernel_rfl) (by kernel_rfl) (by kernel_rfl) (fun _ _ _ h => h) (Or.inl ⟨by kernel_rfl, ?h11⟩) HS ?r11
      case h11 => (rintro w ⟨e0, e1, e2, e3, e4⟩; go_simp) <;> with_reducible rfl
      try simp only [Act.put, List.getElem_toArray, List.getElem_cons_succ, List.getElem_cons_zero, List.setIfInBounds_toArray, List.set_cons_zero, List.set_cons_succ]
      refine wpAnyH_ready (rs := [11]) (by kernel_rfl) (by simp) ?_
      refine AllReadyH.cons rfl (fun K hK => ?_) AllReadyH.nil
      go_simp
      refine (CBj.out _).mono ?_
      rintro e w5 ⟨rfl, h5⟩
      refine hK.out _ _ ⟨cell_later h5 HS.1, cell_later h5 HS.2.1, cell_later h5 HS.2.2.1, cell_later h5 HS.2.2.2.1, cell_later h5 HS.2.2.2.2⟩ (fun HS => ?_)
      clear hK K
      have HL5 := HLd.later h5
      have HK5 := HKd.later h5
      have HR5 : Hid (Rw g cp (fun k => .int .i64 (if q ≤ k ∧ k < q + j then inW sd C (first + (k - q)) else F k)) w5) := HRd.out.later h5
      have HY5 : Hid (Uy none 0 g w w5) := HYd.out.chain (Ux.uy (Or.inl ⟨rfl, h5⟩) g)
      have cz : w5.cell? ⟨g, q + j, none⟩ = some (.int .i64 (F (q + j))) := by have := HR5.out.c (q + j) (by omega); rw [if_neg (by omega)] at this; exact this
      have fz := HR5.out.f (q + j) (by omega)
      clear h5 HLd HKd HRd HYd CBj
      refine wpAnyH_take (i := 12) (v := ?v12) rfl (by kernel_rfl) (by kernel_rfl) (by kernel_rfl) (fun _ _ _ h => h) (Or.inl ⟨by kernel_rfl, ?h12⟩) HS ?r12
      case h12 => (rintro w ⟨e0, e1, e2, e3, e4⟩; go_simp) <;> with_reducible rfl
      try simp only [Act.put, List.getElem_toArray, List.getElem_cons_succ, List.getElem_cons_zero, List.setIfInBounds_toArray, List.set_cons_zero, List.set_cons_succ]
      refine wpAnyH_ready (rs := [13]) (by kernel_rfl) (by simp) ?_
      refine AllReadyH.cons rfl (fun K hK => ?_) AllReadyH.nil
      go_simp
      have HL6 := HL5.far (a := ⟨g, q + j, none⟩) (.int .i64 IV) (by dsimp only; omega)
      have HK6 := HK5.far (a := ⟨g, q + j, none⟩) (.int .i64 IV) (by dsimp only; omega)
      refine hK.out _ _ ⟨HL6.c2, HK6.c0, HK6.c1, HK6.c2, HK6.c3⟩ (fun HS => ?_)
      clear hK K HS HL5 HK5
      refine wpAnyH_done (by kernel_rfl) ?_ _
      have HR6 : Hid (Rw g cp (fun k => .int .i64 (if q ≤ k ∧ k < q + (j + 1) then inW sd C (first + (k - q)) else F k)) (w5.setCell ⟨g, q + j, none⟩ (.int .i64 IV))) := (HR5.out.set (q + j) (.int .i64 IV)).congr (fun k hk => by
        by_cases e : k = q + j
        · subst e
          rw [if_pos rfl, if_pos (by omega), show first + (q + j - q) = fj by have := HE.out.1; omega, HIV.out]
        · rw [if_neg e]
          by_cases e2 : q ≤ k ∧ k < q + j
          · rw [if_pos e2, if_pos (by omega)]
          · rw [if_neg e2, if_neg (by omega)])
      have HY6 : Hid (Uy none 0 g w (w5.setCell ⟨g, q + j, none⟩ (.int .i64 IV))) := HY5.out.set (fun d e => by cases e) _ _
      have HL7 : Hid _ := HL6
      have HK7 : Hid _ := HK6
      clear HR5 HY5 cz fz HL6 HK6
      generalize w5.setCell ⟨g, q + j, none⟩ (.int .i64 IV) = wf' at *
      go_wp2
      go_roundw
      case rel => exact ⟨j + 1, by omega, by go_num, HR6, HL7, HK7, HY6⟩
      case measure => simp [intOf]; omega
    · obtain rfl : j = RC := by omega
      have hjI : ¬ (j : Int) < (j : Int) := by omega
      go_wp2
      go_end0
      exact ⟨rfl, HR.out, HY.out⟩
end Go.Proofs.YtdfjnbkkdgolnaaGreatDoor
set_option linter.unusedVariables false
set_option linter.unusedSimpArgs false
namespace Go.Proofs.YtdfjnbkkdgolnaaGreatDoor
open Go.RowKit

set_option maxHeartbeats 2000000 in
theorem pInit_no (sd : Nat) (vs : Value) (m : Nat) (f : Nat → Int) (w : World) (hS : Ar w vs m f) (hz : ¬ Rt f m) :
    Calls Tryz.prog 17 #[.int .u64 (sd : Int), vs] w fun e w' => e = .returned (.tuple #[.slice none 0 0, .int .i64 70]) ∧ w' = w := by
  have CK := pCount_no vs m f w hS hz
  obtain ⟨ads, cas, bs, os, rfl, -, -, -, -⟩ := hS
  go_enter Tryz.func17, Tryz.ntmps17
  go_wp2_with fail
  refine CK.mono ?_
  rintro e wz ⟨rfl, hz⟩
  subst hz
  clear CK
  go_wp2
  go_ret2
  exact ⟨rfl, rfl⟩
set_option maxRecDepth 100000 in
set_option maxHeartbeats 8000000 in
theorem pInit_yes (sd : Nat) (hsd : sd < 18446744073709551616) (vs : Value) (m cp : Nat) (z : Nat → Nat) (w : World) (hS : Ar w vs m (fun i => ((z i : Nat) : Int))) (hz : Szs z m) (hcp : cp = fsN z (m - 1)) :
    Calls Tryz.prog 17 #[.int .u64 (sd : Int), vs] w fun e w' => ∃ g, e = .returned (.tuple #[.slice (some ⟨g, 0, none⟩) cp cp, .int .i64 0]) ∧ Ar w' (.slice (some ⟨g, 0, none⟩) cp cp) cp (inF z m sd) ∧ w.heap.size ≤ g ∧ Below w.heap.size w w' := by
  obtain ⟨m2, m6, hz6⟩ := id hz
  have hcpB : cp ≤ 20800 := by have := fsN_le z m (m - 1) hz6 (by omega); omega
  have hcp2 : 2 ≤ cp := by have h1 := fsN_mono z (show 1 ≤ m - 1 by omega); have h2 := (lyN_le z m 0 hz6 (by omega)).2; have h3 : fsN z 1 = 0 + lyN z 0 := rfl; omega
  have CK := pCount_yes vs m z w hS hz
  rw [← hcp] at CK
  have hb1 : Below w.heap.size w (w.alloc (.cells (madeCells #[.int .i64 0] cp) 41)) := bel1 _ _
  have CL := layersOf_any vs m w.heap.size 0 cp cp z (w.alloc (.cells (madeCells #[.int .i64 0] cp) 41)) (hS.later hb1) hz hcp (Nat.le_refl _) (by unfold maxLen; omega)
  have HR1 : Hid (Rw w.heap.size cp (fun _ => .int .i64 0) (w.alloc (.cells (madeCells #[.int .i64 0] cp) 41))) := Rw.made w (.int .i64 0) cp 41
  have HB1 : Hid (Below w.heap.size w (w.alloc (.cells (madeCells #[.int .i64 0] cp) 41))) := hb1
  have hmk := make_fx cp (by omega)
  have HZ : Hid (∀ i, i < m → 1 ≤ z i ∧ z i ≤ 64) := hz6
  have HIr : Hid (∀ j, j < cp → -9223372036854775808 ≤ inF z m sd j ∧ inF z m sd j ≤ 9223372036854775807) := fun j hj => inF_rng z m sd j hz6 (by omega)
  have HFw : Hid (∀ l j, l + 1 < m → fsN z l ≤ j → j < fsN z l + z l * z (l + 1) → inF z m sd j = inW sd (z l) j) := fun l j hl h1 h2 => inF_w z m sd l j hl h1 h2
  have HFo : Hid (∀ l j, l + 1 < m → fsN z l + z l * z (l + 1) ≤ j → j < fsN z (l + 1) → inF z m sd j = 0) := fun l j hl h1 h2 => inF_o z m sd l j hl h1 h2
  have hgs : (w.alloc (.cells (madeCells #[.int .i64 0] cp) 41)).heap.size = w.heap.size + 1 := World.size_alloc _ _
  obtain ⟨ads, cas, bs, os, rfl, -, -, -, -⟩ := hS
  generalize inF z m sd = F at *
  obtain ⟨M, hM⟩ : ∃ M, m - 1 = M := ⟨_, rfl⟩
  rw [hM] at CL hcp
  have HCP : Hid (cp = fsN z M) := hcp
  have hM1 : 1 ≤ M := by omega
  have hM5 : M ≤ 5 := by omega
  have HM : Hid (m = M + 1) := by show _ = _; omega
  clear hz hz6 hcp hb1 hM
  go_enter Tryz.func17, Tryz.ntmps17
  go_wp2_with fail
  refine CK.mono ?_
  rintro e wz ⟨rfl, hz⟩
  subst hz
  go_wp2_with fail
  generalize wz.alloc (.cells (madeCells #[.int .i64 0] cp) 41) = w1 at *
  refine CL.mono ?_
  rintro e w2 ⟨gL, cL, rfl, hL, hgL, h2⟩
  obtain ⟨g', c', e, l1, l2, hLc⟩ := id hL
  cases e
  unfold maxLen at l2
  have HLc : Hid (∀ k, k < M → w2.cell? ⟨gL, k * 4, none⟩ = some (.int .i64 ((z (k + 1) : Nat) : Int)) ∧ w2.cell? ⟨gL, k * 4 + 1, none⟩ = some (.int .i64 ((z k : Nat) : Int)) ∧ w2.cell? ⟨gL, k * 4 + 2, none⟩ = some (lyA wz.heap.size 0 cp z k) ∧ w2.cell? ⟨gL, k * 4 + 3, none⟩ = some (lyB wz.heap.size 0 cp z k)) := hLc
  have HR2 : Hid (Rw wz.heap.size cp (fun j => .int .i64 ((fun j => if j < fsN z 0 then F j else 0) j)) w2) := (HR1.out.later h2).congr (fun k hk => by show Value.int .i64 0 = .int .i64 (if k < 0 then F k else 0); rw [if_neg (by omega)])
  have HB2 : Hid (Below wz.heap.size wz w2) := bchain HB1.out h2
  have hgL2 : wz.heap.size < gL := by omega
  clear CK CL hL h2 hLc HR1 HB1 hmk hgs
  obtain ⟨gP, hgP⟩ : ∃ g, wz.heap.size = g := ⟨_, rfl⟩
  have HgP : Hid (wz.heap.size = gP ∧ Below wz.heap.size wz w2) := ⟨hgP, HB2.out⟩
  rw [hgP] at HLc HR2 hgL2
  clear HB2
  go_upto_region 7 with fail
  try simp only [hgP]
  clear hgP
  go_loopw [9, 26] (fun s9 si wr => ∃ i : Nat, i ≤ M ∧ si = .int .i64 (i : Int) ∧ s9 = .int .i64 ((fsN z i : Nat) : Int) ∧ Hid (Rw gP cp (fun j => .int .i64 (if j < fsN z i then F j else 0)) wr) ∧ Hid (Uy none 0 gP w2 wr)) (fun _ si _ => M - (intOf si).toNat)
  case atStart => exact ⟨0, by omega, rfl, rfl, HR2, (Ux.uy (Or.inl ⟨rfl, Below.refl _ _⟩) gP)⟩
  case round =>
    obtain ⟨i, hi, rfl, rfl, HR, HY⟩ := hrel
    by_cases hlt : i < M
    · have hiI : (i : Int) < (M : Int) := by omega
      obtain ⟨a0, a1, a2, a3⟩ := HLc.out i hlt
      have eA : lyA gP 0 cp z i = .slice (some ⟨gP, fsN z i, none⟩) (z (i + 1) * z i) (cp - fsN z i) := by unfold lyA; rw [Nat.zero_add]
      have eB : lyB gP 0 cp z i = .slice (some ⟨gP, fsN z i + z (i + 1) * z i, none⟩) (z (i + 1)) (cp - fsN z i - z (i + 1) * z i) := by unfold lyB; rw [Nat.zero_add]
      rw [eA] at a2
      rw [eB] at a3
      have hne : gL ≠ gP := by omega
      have nun : Nu gL none := fun d e => by cases e
      have d0 := HY.out.cell hne nun a0
      have d1 := HY.out.cell hne nun a1
      have d2 := HY.out.cell hne nun a2
      have d3 := HY.out.cell hne nun a3
      obtain ⟨z1, z2⟩ := HZ.out i (by have := HM.out; omega)
      obtain ⟨y1, y2⟩ := HZ.out (i + 1) (by have := HM.out; omega)
      have hst : fsN z (i + 1) = fsN z i + (z i * z (i + 1) + z (i + 1)) := rfl
      have hst' := hst
      rw [Nat.mul_comm (z i)] at hst'
      have hmo := fsN_mono z (show i + 1 ≤ M from hlt)
      have hcp := HCP.out
      have hnb : z (i + 1) * z i ≤ 64 * 64 := Nat.mul_le_mul y2 z2
      have HRl := fun (W : World) (h : Rw gP cp (fun j => .int .i64 (if j < fsN z i then F j else 0)) W) => draw_any sd hsd (z (i + 1)) (z i) gP (fsN z i) (cp - fsN z i) cp (fsN z i) (some ⟨gP, fsN z i + z (i + 1) * z i, none⟩) (z (i + 1)) (cp - fsN z i - z (i + 1) * z i) _ y2 z2 z1 y1 (by omega) (by omega) W h
      have HCo : Hid (∀ W : World, Calls Tryz.prog 42 #[.agg #[.int .i64 ((z (i + 1) : Nat) : Int), .int .i64 ((z i : Nat) : Int), .slice (some ⟨gP, fsN z i, none⟩) (z (i + 1) * z i) (cp - fsN z i), .slice (some ⟨gP, fsN z i + z (i + 1) * z i, none⟩) (z (i + 1)) (cp - fsN z i - z (i + 1) * z i)]] W fun e w' => e = .returned (.int .i64 ((z (i + 1) * z i + z (i + 1) : Nat) : Int)) ∧ Below W.heap.size W w') := fun W => lcount_any _ _ _ _ _ _ _ _ (by omega) y2 W
      have hEq : ∀ j, j < cp → (if fsN z i ≤ j ∧ j < fsN z i + z (i + 1) * z i then inW sd (z i) (fsN z i + (j - fsN z i)) else (if j < fsN z i then F j else 0)) = (if j < fsN z (i + 1) then F j else 0) := fun j hj => by
        have hm := HM.out
        by_cases h1 : fsN z i ≤ j ∧ j < fsN z i + z (i + 1) * z i
        · rw [if_pos h1, if_pos (by omega), HFw.out i j (by omega) h1.1 (by rw [Nat.mul_comm (z i)]; exact h1.2), show fsN z i + (j - fsN z i) = j by omega]
        · rw [if_neg h1]
          by_cases h2 : j < fsN z i
          · rw [if_pos h2, if_pos (by omega)]
          · rw [if_neg h2]
            by_cases h3 : j < fsN z (i + 1)
            · rw [if_pos h3, HFo.out i j (by omega) (by rw [Nat.mul_comm (z i)]; omega) h3]
            · rw [if_neg h3]
      have HEq : Hid _ := hEq
      obtain ⟨w3, hw3⟩ : ∃ w3, w3 = wr.alloc (.cells #[.int .i64 ((z (i + 1) : Nat) : Int), .int .i64 ((z i : Nat) : Int), .slice (some ⟨gP, fsN z i, none⟩) (z (i + 1) * z i) (cp - fsN z i), .slice (some ⟨gP, fsN z i + z (i + 1) * z i, none⟩) (z (i + 1)) (cp - fsN z i - z (i + 1) * z i)] 94) := ⟨_, rfl⟩
      have hb3 : Below wr.heap.size wr w3 := by rw [hw3]; exact bel1 _ _
      have HB3 : Hid (B4 wr.heap.size (.int .i64 ((z (i + 1) : Nat) : Int)) (.int .i64 ((z i : Nat) : Int)) (.slice (some ⟨gP, fsN z i, none⟩) (z (i + 1) * z i) (cp - fsN z i)) (.slice (some ⟨gP, fsN z i + z (i + 1) * z i, none⟩) (z (i + 1)) (cp - fsN z i - z (i + 1) * z i)) w3) := by rw [hw3]; exact B4.new wr _ _ _ _ _
      have HY3 : Hid (Uy none 0 gP w2 w3) := HY.out.chain (Ux.uy (Or.inl ⟨rfl, hb3⟩) gP)
      have CD := HRl w3 (HR.out.later hb3)
      have hgPr : gP < wr.heap.size := World.block_lt_of_cell? _ _ (HR.out.c 0 (by omega))
      have HS1 : Hid (fsN z i + (z (i + 1) * z i + z (i + 1)) = fsN z (i + 1)) := by show _ = _; omega
      clear hEq hst hst' eA eB a0 a1 a2 a3 HRl hb3 HR HY
      obtain ⟨Fi, hFi⟩ : ∃ x, fsN z i = x := ⟨_, rfl⟩
      obtain ⟨nA, hnA⟩ : ∃ x, z (i + 1) * z i = x := ⟨_, rfl⟩
      have HFi : Hid (fsN z i = Fi ∧ z (i + 1) * z i = nA) := ⟨hFi, hnA⟩
      rw [hFi, hnA] at d2 d3 HCo hw3 HB3 CD HS1 HEq
      rw [hnA] at hnb
      rw [hFi]
      clear hFi hnA
      generalize cp - Fi - nA = kB at *
      generalize cp - Fi = kA at *
      generalize Fi + nA = qB at *
      obtain ⟨cs, hcs⟩ : ∃ x, nA + z (i + 1) = x := ⟨_, rfl⟩
      rw [hcs] at HCo HS1
      have w5' : IntKind.i64.wrap ((Fi : Int) + (cs : Int)) = ((fsN z (i + 1) : Nat) : Int) := by have h1 := HS1.out; rw [IntKind.wrap_i64]; omega
      clear hcs
      clear hcp hmo
      go_upto_region 9 with fail
      rw [← hw3]
      clear hw3 d0 d1 d2 d3
      have x0 := HB3.out.c0
      have x1 := HB3.out.c1
      have x2 := HB3.out.c2
      have x3 := HB3.out.c3
      have nun2 : Nu wr.heap.size none := fun d e => by cases e
      go_wp2_with fail
      refine CD.mono ?_
      rintro e w4 ⟨rfl, hR4, hY4⟩
      have z0 := hY4.cell (by dsimp only; omega) nun2 x0
      have z1' := hY4.cell (by dsimp only; omega) nun2 x1
      have z2' := hY4.cell (by dsimp only; omega) nun2 x2
      have z3' := hY4.cell (by dsimp only; omega) nun2 x3
      have HR4 : Hid (Rw gP cp (fun j => .int .i64 (if j < fsN z (i + 1) then F j else 0)) w4) := hR4.congr (fun j hj => by rw [← HEq.out j hj])
      have HY4 : Hid (Uy none 0 gP w2 w4) := HY3.out.chain hY4
      clear x0 x1 x2 x3 CD hR4 hY4 HY3 HB3
      go_wp2_with fail
      refine (HCo.out _).mono ?_
      rintro e w5 ⟨rfl, h5⟩
      have HR5 : Hid (Rw gP cp (fun j => .int .i64 (if j < fsN z (i + 1) then F j else 0)) w5) := HR4.out.later h5
      have HY5 : Hid (Uy none 0 gP w2 w5) := HY4.out.chain (Ux.uy (Or.inl ⟨rfl, h5⟩) gP)
      clear h5 HR4 HY4 HCo z0 z1' z2' z3' HEq
      go_wp2
      go_roundw
      case rel => exact ⟨i + 1, by omega, by go_num, rfl, HR5, HY5⟩
      case measure => simp [intOf]; omega
    · obtain rfl : i = M := by omega
      have hiI : ¬ (i : Int) < (i : Int) := by omega
      have HQ : Hid (Ar wr (.slice (some ⟨gP, 0, none⟩) cp cp) cp F ∧ Below wz.heap.size wz wr ∧ wz.heap.size ≤ gP) := by
        refine ⟨(HR.out.congr (fun k hk => by rw [if_pos (by have := HCP.out; omega)])).ar (by omega) HIr.out, ux_nil (HY.out.base wz 0 (Or.inl ⟨rfl, HgP.out.2⟩) (by rw [HgP.out.1]; exact Nat.le_refl _)), by rw [HgP.out.1]; exact Nat.le_refl _⟩
      clear HR HY
      go_wp2
      go_ret2
      exact ⟨gP, rfl, HQ.out.1, HQ.out.2.2, HQ.out.2.1⟩
theorem mlp1 : Mlp1 where
  initY := fun sd vs m cp z w hsd hS hz hcp hV => (pInit_yes sd hsd vs m cp z w hS hz hcp).mono fun e w' ⟨g, h1, h2, h3, h4⟩ => ⟨_, h1, h2, fun a n cap e _ => by cases e; exact h3, h4⟩
  initN := fun sd vs m f w hm hS hz hV => (pInit_no sd vs m f w hS hz).mono fun e w' h => ⟨_, h.1, ⟨none, 0, rfl⟩, by rw [h.2]; exact Below.refl _ _⟩
end Go.Proofs.YtdfjnbkkdgolnaaGreatDoor
