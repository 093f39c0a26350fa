/-
  Texts of this proof, joined: LWalkK LBase LBase2 LAwake LawMI PWalkA PWalkB.
-/
import Derived.Test.YtdfjnbkkdgolnaaGreatDoorSI01
import Derived.Test.YtdfjnbkkdgolnaaGreatDoorSI04
import Derived.Test.YtdfjnbkkdgolnaaGreatDoorSI05
import Derived.Test.YtdfjnbkkdgolnaaGreatDoorSI06
import Derived.Deep.RegionHeld3
set_option linter.unusedVariables false
set_option linter.unusedSimpArgs false
namespace Go.Proofs.YtdfjnbkkdgolnaaGreatDoor
open Go.RowKit

/-- Half the room of a layer's weights. -/
def rtB (n : Nat) : Int := qv (1 * 2 ^ (32 * 1)) (n : Int)
theorem rtB_all : ∀ n : Fin 65, 1 ≤ n.val → 1 ≤ rtB n.val ∧ rtB n.val ≤ 4294967296 := by decide +kernel
theorem rtB_rng (n : Nat) (h1 : 1 ≤ n) (h2 : n ≤ 64) : 1 ≤ rtB n ∧ rtB n ≤ 4294967296 := rtB_all ⟨n, by omega⟩ h1
/-- A weight to begin with. -/
def inW (sd n j : Nat) : Int := -rtB n + ((bwN (rtB n - -rtB n).toNat (ptN (wdN sd 3 0 0 (j : Int))) : Nat) : Int)
/-- What is told layer by layer. -/
def byLay (z : Nat → Nat) (f : Nat → Nat → Int) : Nat → Nat → Int
  | 0, _ => 0
  | n + 1, j => if j < fsN z n then byLay z f n j else f n j
theorem byLay_at (z : Nat → Nat) (f : Nat → Nat → Int) (n l j : Nat) (hl : l < n) (h1 : fsN z l ≤ j) (h2 : j < fsN z (l + 1)) : byLay z f n j = f l j := by
  induction n with
  | zero => omega
  | succ n ih =>
    show (if j < fsN z n then byLay z f n j else f n j) = _
    rcases Nat.lt_or_ge l n with h | h
    · have hm := fsN_mono z (show l + 1 ≤ n from h)
      rw [if_pos (by omega)]
      exact ih h
    · obtain rfl : l = n := by omega
      rw [if_neg (by omega)]
/-- The parameters to begin with. -/
def inF (z : Nat → Nat) (m sd : Nat) : Nat → Int := byLay z (fun l j => if j < fsN z l + z l * z (l + 1) then inW sd (z l) j else 0) (m - 1)
theorem inW_rng (sd n j : Nat) (h1 : 1 ≤ n) (h2 : n ≤ 64) : -9223372036854775808 ≤ inW sd n j ∧ inW sd n j ≤ 9223372036854775807 := by
  have h := rtB_rng n h1 h2
  have hb := bwN_lt (rtB n - -rtB n).toNat (ptN (wdN sd 3 0 0 (j : Int))) (ptN_lt _ (wdN_lt _ _ _ _ _)) (by omega)
  unfold inW
  omega
theorem inF_w (z : Nat → Nat) (m sd l j : Nat) (hl : l + 1 < m) (h1 : fsN z l ≤ j) (h2 : j < fsN z l + z l * z (l + 1)) : inF z m sd j = inW sd (z l) j := by
  unfold inF
  have e : fsN z (l + 1) = fsN z l + (z l * z (l + 1) + z (l + 1)) := rfl
  rw [byLay_at z _ (m - 1) l j (by omega) h1 (by omega), if_pos h2]
theorem inF_o (z : Nat → Nat) (m sd l j : Nat) (hl : l + 1 < m) (h1 : fsN z l + z l * z (l + 1) ≤ j) (h2 : j < fsN z (l + 1)) : inF z m sd j = 0 := by
  unfold inF
  rw [byLay_at z _ (m - 1) l j (by omega) (by omega) h2, if_neg (by omega)]
theorem inF_rng (z : Nat → Nat) (m sd j : Nat) (hz : ∀ i, i < m → 1 ≤ z i ∧ z i ≤ 64) (hj : j < fsN z (m - 1)) : -9223372036854775808 ≤ inF z m sd j ∧ inF z m sd j ≤ 9223372036854775807 := by
  obtain ⟨l, hl, ⟨u, i, hu, hi, e⟩ | ⟨u, hu, e⟩⟩ := place_of z m j (fun i hi => (hz i hi).1) hj
  · have h := wt_rng z l u i hu hi
    rw [inF_w z m sd l j hl (by omega) (by omega)]
    exact inW_rng sd (z l) j (hz l (by omega)).1 (hz l (by omega)).2
  · have h := of_rng z l u hu
    rw [inF_o z m sd l j hl (by omega) (by omega)]
    omega
set_option maxRecDepth 100000 in
set_option maxHeartbeats 16000000 in
theorem init_any (sd : Nat) (hsd : sd < 18446744073709551616) (vs : Value) (m cp : Nat) (z : Nat → Nat) (w : World) (hS : Ar w vs m (fun i => ((z i : Nat) : Int))) (hz : Szs z m) (hcp : cp = fsN z (m - 1)) :
    Calls Tryz.prog 20 #[.int .u64 (sd : Int), vs] w fun e w' => ∃ v', e = .returned v' ∧ Ar w' v' cp (inF z m sd) ∧ Ow w.heap.size v' ∧ Below w.heap.size w w' := by
  obtain ⟨m2, m6, hz6⟩ := id hz
  have hcpB : cp ≤ 20800 := by have := fsN_le z m (m - 1) hz6 (by omega); omega
  have HZ6 : Hid (∀ i, i < m → 1 ≤ z i ∧ z i ≤ 64) := hz6
  have HSz : Hid (Szs z m ∧ cp = fsN z (m - 1)) := ⟨hz, hcp⟩
  have HSa : Hid (Ar w vs m (fun i => ((z i : Nat) : Int))) := hS
  have CC : Hid (∀ W : World, Below w.heap.size w W → Calls Tryz.prog 13 #[vs] W fun e w' => e = .returned (.int .i64 (cp : Int)) ∧ Below W.heap.size W w') := fun W hb => by rw [hcp]; exact count_yes vs m z W (hS.later hb) hz
  have HBt : Hid (∀ (n j : Nat) (W : World), 1 ≤ n → n ≤ 64 → j < cp → Calls Tryz.prog 44 #[.agg #[.int .u64 (sd : Int), .int .i64 3, .int .i64 0, .int .i64 0], .int .i64 (j : Int), .int .i64 (-rtB n), .int .i64 (rtB n)] W fun e w' => e = .returned (.int .i64 (inW sd n j)) ∧ Below W.heap.size W w') := fun n j W h1 h2 hj => by
    have h := rtB_rng n h1 h2
    exact refBetween_any sd 3 0 0 (j : Int) (-rtB n) (rtB n) ⟨hsd, by omega, by omega, by omega, by omega, by omega, by omega⟩ (by omega) (by omega) (by omega) (by omega) (by omega) W
  have HRt : Hid (∀ (n : Nat) (W : World), 1 ≤ n → n ≤ 64 → Calls Tryz.prog 43 #[.int .i64 1, .int .i64 1, .int .i64 (n : Int)] W fun e w' => ∃ ob : Bool, e = .returned (.tuple #[.int .i64 (rtB n), .bool ob]) ∧ Below W.heap.size W w') := fun n W h1 h2 => by
    refine (sratio_any 1 (n : Int) 1 (by omega) (by omega) (by omega) (by omega) (by omega) W).mono ?_
    rintro e w' ⟨rfl, hb⟩
    exact ⟨_, rfl, hb⟩
  have HFr : Hid (∀ j, j < cp → -9223372036854775808 ≤ inF z m sd j ∧ inF z m sd j ≤ 9223372036854775807) := fun j hj => inF_rng z m sd j hz6 (by omega)
  have HFw : Hid (∀ l j, l + 1 < m → fsN z l ≤ j → j < fsN z l + z l * z (l + 1) → inF z m sd j = inW sd (z l) j) := fun l j hl h1 h2 => inF_w z m sd l j hl h1 h2
  have HFo : Hid (∀ l j, l + 1 < m → fsN z l + z l * z (l + 1) ≤ j → j < fsN z (l + 1) → inF z m sd j = 0) := fun l j hl h1 h2 => inF_o z m sd l j hl h1 h2
  generalize inF z m sd = F at *
  obtain ⟨adr, cap, b, o, rfl, k1, k2, k3, k4⟩ := hS
  unfold maxLen at k2
  have ha := k3 (by omega)
  subst ha
  have HZ : Hid (∀ i, i < m → w.cell? ⟨b, o + i, none⟩ = some (.int .i64 ((z i : Nat) : Int))) := fun i hi => (k4 i hi).1
  have hbw : b < w.heap.size := World.block_lt_of_cell? _ _ (k4 0 (by omega)).1
  obtain ⟨w1, hw1⟩ : ∃ w1, w1 = w.alloc (.cells #[.slice (some ⟨b, o, none⟩) m cap, .slice none 0 0] 37) := ⟨_, rfl⟩
  have HB1 : Hid (Below w.heap.size w w1) := by rw [hw1]; exact bel1 _ _
  have HBx : Hid (Bx w.heap.size (.slice (some ⟨b, o, none⟩) m cap) (.slice none 0 0) w1) := by rw [hw1]; exact Bx.new w _ _ _
  have hmk := make_i64 cp (by omega)
  clear k3 k4 hz6 hz hcp
  go_enter Tryz.func20, Tryz.ntmps20
  go_upto_region 2 with fail
  rw [← hw1]
  clear hw1
  go_wp2_with fail
  refine (CC.out _ HB1.out).mono ?_
  rintro e w2 ⟨rfl, hb2⟩
  obtain ⟨g, hg⟩ : ∃ g, w2.heap.size = g := ⟨_, rfl⟩
  obtain ⟨w3, hw3⟩ : ∃ w3, w3 = w2.alloc (.cells (madeCells #[.int .i64 0] cp) 2) := ⟨_, rfl⟩
  have HB3 : Hid (Below w.heap.size w w3) := by rw [hw3]; exact bchain (bchain HB1.out hb2) (bel1 _ _)
  have HBx3 : Hid (Bx w.heap.size (.slice (some ⟨b, o, none⟩) m cap) (.slice none 0 0) w3) := by rw [hw3]; exact (HBx.out.later hb2).later (bel1 _ _)
  have HR3 : Hid (Rw g cp (fun j => .int .i64 (if j < fsN z 0 then F j else 0)) w3) := by
    rw [hw3, ← hg]
    exact (Rw.made w2 (.int .i64 0) cp 2).congr (fun j hj => by rw [if_neg (by show ¬ j < 0; omega)])
  have hgw : w.heap.size < g := by rw [← hg]; have := World.block_lt_of_cell? _ _ (HBx.out.later hb2).c0; exact this
  have hg3 : g < w3.heap.size := by rw [hw3, World.size_alloc]; omega
  clear hb2 HB1 HBx CC
  go_upto_region 4 with fail
  rw [← hw3]
  try simp only [hg]
  clear hw3 hmk hg w2
  go_loopw [7] (fun s7 wr => ∃ l : Nat, l + 1 ≤ m ∧ s7 = .int .i64 (l : Int) ∧ Hid (Rw g cp (fun j => .int .i64 (if j < fsN z l then F j else 0)) wr) ∧ Hid (Bx w.heap.size (.slice (some ⟨b, o, none⟩) m cap) (.slice none 0 0) wr) ∧ Hid (Below w.heap.size w wr) ∧ g < wr.heap.size) (fun s7 _ => m - (intOf s7).toNat)
  case atStart => exact ⟨0, by omega, rfl, HR3, HBx3, HB3, hg3⟩
  case round =>
    rename World => wo
    obtain ⟨l, hl, rfl, HRo, HBo, HWo, hgo⟩ := hrel
    clear HR3 HBx3 HB3 hg3
    have hwL : IntKind.i64.wrap ((l : Int) + 1) = (l : Int) + 1 := by rw [IntKind.wrap_i64]; omega
    by_cases hlt : l + 1 < m
    · have hlI : (l : Int) + 1 < (m : Int) := by omega
      have hlM : (l : Int) < (m : Int) := by omega
      have hl0 : (0 : Int) ≤ (l : Int) + 1 := by omega
      obtain ⟨za1, za2⟩ := HZ6.out l (by omega)
      obtain ⟨zb1, zb2⟩ := HZ6.out (l + 1) hlt
      have cZ := cell_later HWo.out (HZ.out l (by omega))
      obtain ⟨A, hA⟩ : ∃ A, fsN z l = A := ⟨_, rfl⟩
      obtain ⟨ZZ, hZZ⟩ : ∃ ZZ, z l * z (l + 1) = ZZ := ⟨_, rfl⟩
      have hZZb : ZZ ≤ 4096 := by rw [← hZZ]; exact Nat.mul_le_mul za2 zb2
      have eZZ : ((z l : Nat) : Int) * ((z (l + 1) : Nat) : Int) = (ZZ : Int) := by rw [← hZZ, Int.natCast_mul]
      have wZZ : IntKind.i64.wrap (ZZ : Int) = (ZZ : Int) := by rw [IntKind.wrap_i64]; omega
      have hAb : A ≤ 20800 := by rw [← hA]; have := fsN_le z m l HZ6.out (by omega); omega
      have hfs : fsN z (l + 1) = A + (ZZ + z (l + 1)) := by rw [← hA, ← hZZ]; rfl
      have Hfs : Hid (fsN z (l + 1) = A + (ZZ + z (l + 1)) ∧ A + (ZZ + z (l + 1)) ≤ cp) := ⟨hfs, by rw [← hfs, HSz.out.2]; exact fsN_mono z (by omega)⟩
      have HFw2 : Hid (∀ j, A ≤ j → j < A + ZZ → F j = inW sd (z l) j) := fun j h1 h2 => HFw.out l j hlt (by omega) (by rw [hA, hZZ]; exact h2)
      have HFo2 : Hid (∀ j, A + ZZ ≤ j → j < A + (ZZ + z (l + 1)) → F j = 0) := fun j h1 h2 => HFo.out l j hlt (by rw [hA, hZZ]; exact h1) (by rw [hfs]; exact h2)
      have HZo : Hid (wo.cell? ⟨b, o + l, none⟩ = some (.int .i64 ((z l : Nat) : Int)) ∧ wo.cell? ⟨b, o + (l + 1), none⟩ = some (.int .i64 ((z (l + 1) : Nat) : Int))) := ⟨cZ, cell_later HWo.out (HZ.out (l + 1) hlt)⟩
      have HRA : Hid (Rw g cp (fun j => .int .i64 (if j < A then F j else 0)) wo) := by rw [← hA]; exact HRo.out
      have HFi : Hid (∀ W : World, Below w.heap.size w W → Calls Tryz.prog 40 #[.agg #[.slice (some ⟨b, o, none⟩) m cap, .slice none 0 0], .int .i64 (l : Int)] W fun e w' => e = .returned (.int .i64 (A : Int)) ∧ Below W.heap.size W w') := fun W hb => by rw [← hA]; exact first_any _ _ m l z W (HSa.out.later hb) HSz.out.1 (by omega)
      have hrt := rtB_rng (z l) za1 za2
      have CRt := HRt.out (z l) wo za1 za2
      have HBt2 : Hid (∀ (j : Nat) (W : World), j < cp → Calls Tryz.prog 44 #[.agg #[.int .u64 (sd : Int), .int .i64 3, .int .i64 0, .int .i64 0], .int .i64 (j : Int), .int .i64 (-rtB (z l)), .int .i64 (rtB (z l))] W fun e w' => e = .returned (.int .i64 (inW sd (z l) j)) ∧ Below W.heap.size W w') := fun j W hj => HBt.out (z l) j W za1 za2 hj
      clear hA hZZ hfs HRo
      generalize rtB (z l) = rb at *
      have wrb : IntKind.i64.wrap (-rb) = -rb := by rw [IntKind.wrap_i64]; omega
      go_wp2_with fail
      refine CRt.mono ?_
      rintro e w4 ⟨ob, rfl, hb4⟩
      have HR4 : Hid (Rw g cp (fun j => .int .i64 (if j < A + 0 then F j else 0)) w4) := HRA.out.later hb4
      have HB4 : Hid (Bx w.heap.size (.slice (some ⟨b, o, none⟩) m cap) (.slice none 0 0) w4) := HBo.out.later hb4
      have HW4 : Hid (Below w.heap.size w w4) := bchain HWo.out hb4
      have hg4 : g < w4.heap.size := by have := hb4.size; omega
      clear CRt hb4 cZ HRA HBo
      go_upto_region 8 with fail
      go_loopw [10] (fun s10 wr => ∃ k : Nat, k ≤ ZZ ∧ s10 = .int .i64 (k : Int) ∧ Hid (Rw g cp (fun j => .int .i64 (if j < A + k then F j else 0)) wr) ∧ Hid (Bx w.heap.size (.slice (some ⟨b, o, none⟩) m cap) (.slice none 0 0) wr) ∧ Hid (Below w.heap.size w wr) ∧ g < wr.heap.size) (fun s10 _ => ZZ - (intOf s10).toNat)
      case atStart => exact ⟨0, by omega, rfl, HR4, HB4, HW4, hg4⟩
      case round =>
        rename World => wr
        obtain ⟨k, hk, rfl, HRr, HBr, HWr, hgr⟩ := hrel
        clear HR4 HB4 HW4 hg4
        have cZ0 := cell_later HWr.out (HZ.out l (by omega))
        have cZ1 := cell_later HWr.out (HZ.out (l + 1) hlt)
        have hbD : Below wr.heap.size wr wr.drew := (Below.refl _ _).drew
        by_cases hkl : k < ZZ
        · have hkI : (k : Int) < (ZZ : Int) := by omega
          go_wp2_with fail
          refine wp_region_held_drew (S := fun W' => W'.cell? ⟨b, o + l, none⟩ = some (.int .i64 ((z l : Nat) : Int)) ∧ W'.cell? ⟨b, o + (l + 1), none⟩ = some (.int .i64 ((z (l + 1) : Nat) : Int))) (by kernel_rfl) ⟨cZ0, cZ1⟩ (fun HS => ?_)
          have HR5 : Hid (Rw g cp (fun j => .int .i64 (if j < A + k then F j else 0)) wr.drew) := HRr.out.later hbD
          have HB5 : Hid (Bx w.heap.size (.slice (some ⟨b, o, none⟩) m cap) (.slice none 0 0) wr.drew) := HBr.out.later hbD
          have HW5 : Hid (Below w.heap.size w wr.drew) := bchain HWr.out hbD
          have hg5 : g < wr.drew.heap.size := hgr
          clear hbD cZ0 cZ1 HRr HBr HWr hgr
          generalize wr.drew = wD at *
          refine wpAnyH_take (i := 0) (v := ?v1) rfl (by kernel_rfl) (by kernel_rfl) (by kernel_rfl) (fun _ _ _ h => h) (Or.inl ⟨by kernel_rfl, ?h1⟩) HS ?r1
          case h1 => (rintro w ⟨s1, s2⟩; go_simp) <;> with_reducible rfl
          try simp only [Act.put, List.getElem_toArray, List.getElem_cons_succ, List.getElem_cons_zero, List.setIfInBounds_toArray, List.set_cons_zero, List.set_cons_succ]
          refine wpAnyH_take (i := 1) (v := ?v2) rfl (by kernel_rfl) (by kernel_rfl) (by kernel_rfl) (fun _ _ _ h => h) (Or.inl ⟨by kernel_rfl, ?h2⟩) HS ?r2
          case h2 => (rintro w ⟨s1, s2⟩; go_simp) <;> with_reducible rfl
          try simp only [Act.put, List.getElem_toArray, List.getElem_cons_succ, List.getElem_cons_zero, List.setIfInBounds_toArray, List.set_cons_zero, List.set_cons_succ]
          refine wpAnyH_take (i := 2) (v := ?v3) rfl (by kernel_rfl) (by kernel_rfl) (by kernel_rfl) (fun _ _ _ h => h) (Or.inl ⟨by kernel_rfl, ?h3⟩) HS ?r3
          case h3 => (rintro w ⟨s1, s2⟩; go_simp) <;> with_reducible rfl
          try simp only [Act.put, List.getElem_toArray, List.getElem_cons_succ, List.getElem_cons_zero, List.setIfInBounds_toArray, List.set_cons_zero, List.set_cons_succ]
          refine wpAnyH_take (i := 3) (v := ?v4) rfl (by kernel_rfl) (by kernel_rfl) (by kernel_rfl) (fun _ _ _ h => h) (Or.inl ⟨by kernel_rfl, ?h4⟩) HS ?r4
          case h4 => (rintro w ⟨s1, s2⟩; go_simp) <;> with_reducible rfl
          try simp only [Act.put, List.getElem_toArray, List.getElem_cons_succ, List.getElem_cons_zero, List.setIfInBounds_toArray, List.set_cons_zero, List.set_cons_succ]
          refine wpAnyH_take (i := 4) (v := ?v5) rfl (by kernel_rfl) (by kernel_rfl) (by kernel_rfl) (fun _ _ _ h => h) (Or.inl ⟨by kernel_rfl, ?h5⟩) HS ?r5
          case h5 => (rintro w ⟨s1, s2⟩; go_simp) <;> with_reducible rfl
          try simp only [Act.put, List.getElem_toArray, List.getElem_cons_succ, List.getElem_cons_zero, List.setIfInBounds_toArray, List.set_cons_zero, List.set_cons_succ]
          refine wpAnyH_take (i := 5) (v := ?v6) rfl (by kernel_rfl) (by kernel_rfl) (by kernel_rfl) (fun _ _ _ h => h) (Or.inl ⟨by kernel_rfl, ?h6⟩) HS ?r6
          case h6 => (rintro w ⟨s1, s2⟩; go_simp) <;> with_reducible rfl
          try simp only [Act.put, List.getElem_toArray, List.getElem_cons_succ, List.getElem_cons_zero, List.setIfInBounds_toArray, List.set_cons_zero, List.set_cons_succ]
          refine wpAnyH_take (i := 6) (v := ?v7) rfl (by kernel_rfl) (by kernel_rfl) (by kernel_rfl) (fun _ _ _ h => h) (Or.inl ⟨by kernel_rfl, ?h7⟩) HS ?r7
          case h7 => (rintro w ⟨s1, s2⟩; go_simp) <;> with_reducible rfl
          try simp only [Act.put, List.getElem_toArray, List.getElem_cons_succ, List.getElem_cons_zero, List.setIfInBounds_toArray, List.set_cons_zero, List.set_cons_succ]
          refine wpAnyH_take (i := 7) (v := ?v8) rfl (by kernel_rfl) (by kernel_rfl) (by kernel_rfl) (fun _ _ _ h => h) (Or.inl ⟨by kernel_rfl, ?h8⟩) HS ?r8
          case h8 => (rintro w ⟨s1, s2⟩; go_simp) <;> with_reducible rfl
          try simp only [Act.put, List.getElem_toArray, List.getElem_cons_succ, List.getElem_cons_zero, List.setIfInBounds_toArray, List.set_cons_zero, List.set_cons_succ]
          refine wpAnyH_take (i := 8) (v := ?v9) rfl (by kernel_rfl) (by kernel_rfl) (by kernel_rfl) (fun _ _ _ h => h) (Or.inl ⟨by kernel_rfl, ?h9⟩) HS ?r9
          case h9 => (rintro w ⟨s1, s2⟩; go_simp) <;> with_reducible rfl
          try simp only [Act.put, List.getElem_toArray, List.getElem_cons_succ, List.getElem_cons_zero, List.setIfInBounds_toArray, List.set_cons_zero, List.set_cons_succ]
          refine wpAnyH_take (i := 9) (v := ?v10) rfl (by kernel_rfl) (by kernel_rfl) (by kernel_rfl) (fun _ _ _ h => h) (Or.inl ⟨by kernel_rfl, ?h10⟩) HS ?r10
          case h10 => (rintro w ⟨s1, s2⟩; go_simp) <;> with_reducible rfl
          try simp only [Act.put, List.getElem_toArray, List.getElem_cons_succ, List.getElem_cons_zero, List.setIfInBounds_toArray, List.set_cons_zero, List.set_cons_succ]
          refine wpAnyH_take (i := 10) (v := ?v11) rfl (by kernel_rfl) (by kernel_rfl) (by kernel_rfl) (fun _ _ _ h => h) (Or.inl ⟨by kernel_rfl, ?h11⟩) HS ?r11
          case h11 => (rintro w ⟨s1, s2⟩; go_simp) <;> with_reducible rfl
          try simp only [Act.put, List.getElem_toArray, List.getElem_cons_succ, List.getElem_cons_zero, List.setIfInBounds_toArray, List.set_cons_zero, List.set_cons_succ]
          refine wpAnyH_take (i := 11) (v := ?v12) rfl (by kernel_rfl) (by kernel_rfl) (by kernel_rfl) (fun _ _ _ h => h) (Or.inl ⟨by kernel_rfl, ?h12⟩) HS ?r12
          case h12 => (rintro w ⟨s1, s2⟩; go_simp) <;> with_reducible rfl
          try simp only [Act.put, List.getElem_toArray, List.getElem_cons_succ, List.getElem_cons_zero, List.setIfInBounds_toArray, List.set_cons_zero, List.set_cons_succ]
          refine wpAnyH_done (by kernel_rfl) ?_ _
          clear HS
          have x0 := HB5.out.c0
          have x1 := HB5.out.c1
          have CF := HFi.out wD HW5.out
          obtain ⟨AK, hAK⟩ : ∃ AK, A + k = AK := ⟨_, rfl⟩
          have wAK : IntKind.i64.wrap ((A : Int) + (k : Int)) = (AK : Int) := by rw [IntKind.wrap_i64]; omega
          have hAKc : AK < cp := by have := Hfs.out.2; omega
          have hAKI : (AK : Int) < (cp : Int) := by omega
          have HFk : Hid (F AK = inW sd (z l) AK) := HFw2.out AK (by omega) (by omega)
          have HAK : Hid (A + k = AK) := hAK
          rw [hAK] at HR5
          clear hAK
          go_wp2_with fail
          refine CF.mono ?_
          rintro e w6 ⟨rfl, hb6⟩
          have CB := HBt2.out AK w6 hAKc
          have HR6 : Hid (Rw g cp (fun j => .int .i64 (if j < AK then F j else 0)) w6) := HR5.out.later hb6
          have HB6 : Hid (Bx w.heap.size (.slice (some ⟨b, o, none⟩) m cap) (.slice none 0 0) w6) := HB5.out.later hb6
          have HW6 : Hid (Below w.heap.size w w6) := bchain HW5.out hb6
          have hg6 : g < w6.heap.size := by have := hb6.size; omega
          clear CF hb6 x0 x1 HR5 HB5 HW5 hg5
          go_wp2_with fail
          refine CB.mono ?_
          rintro e w7 ⟨rfl, hb7⟩
          rw [← HFk.out]
          have HR7 := HR6.out.later hb7
          have cO := HR7.c AK hAKc
          rw [if_neg (by omega)] at cO
          have fO := HR7.f AK hAKc
          have HR8 : Hid (Rw g cp (fun j => .int .i64 (if j < A + (k + 1) then F j else 0)) (w7.setCell ⟨g, AK, none⟩ (.int .i64 (F AK)))) := (HR7.set AK (.int .i64 (F AK))).congr (fun j hj => by
            have hq := HAK.out
            by_cases e : j = AK
            · rw [if_pos e, e, if_pos (by omega)]
            · rw [if_neg e]
              by_cases h2 : j < AK
              · rw [if_pos h2, if_pos (by omega)]
              · rw [if_neg h2, if_neg (by omega)])
          have HB8 : Hid (Bx w.heap.size (.slice (some ⟨b, o, none⟩) m cap) (.slice none 0 0) (w7.setCell ⟨g, AK, none⟩ (.int .i64 (F AK)))) := by
            have e : (w7.setCell ⟨g, AK, none⟩ (.int .i64 (F AK))).heap[w.heap.size]? = w7.heap[w.heap.size]? := Below.heap_setCell _ _ _ _ (by dsimp only; omega)
            have h := HB6.out.later hb7
            exact ⟨(World.cell?_of_block (w := w7) e).trans h.c0, (World.cell?_of_block (w := w7) e).trans h.c1, (World.frozen?_of_block (w := w7) e).trans h.f0, (World.frozen?_of_block (w := w7) e).trans h.f1⟩
          have HW8 : Hid (Below w.heap.size w (w7.setCell ⟨g, AK, none⟩ (.int .i64 (F AK)))) := (bchain HW6.out hb7).setCell (by dsimp only; omega) _
          have hg8 : g < (w7.setCell ⟨g, AK, none⟩ (.int .i64 (F AK))).heap.size := by have := hb7.size; simp [World.setCell]; omega
          clear CB hb7 HR6 HB6 HW6 hg6 HR7 HFk HAK
          go_wp2
          go_roundw
          case rel => exact ⟨k + 1, by omega, by go_num, HR8, HB8, HW8, hg8⟩
          case measure => simp [intOf]; omega
        · obtain rfl : k = ZZ := by omega
          have hkI : ¬ (k : Int) < (k : Int) := by omega
          go_wp2_with fail
          refine wp_region_held_drew (S := fun W' => W'.cell? ⟨b, o + l, none⟩ = some (.int .i64 ((z l : Nat) : Int)) ∧ W'.cell? ⟨b, o + (l + 1), none⟩ = some (.int .i64 ((z (l + 1) : Nat) : Int))) (by kernel_rfl) ⟨cZ0, cZ1⟩ (fun HS => ?_)
          have HR5 : Hid (Rw g cp (fun j => .int .i64 (if j < A + k then F j else 0)) wr.drew) := HRr.out.later hbD
          have HB5 : Hid (Bx w.heap.size (.slice (some ⟨b, o, none⟩) m cap) (.slice none 0 0) wr.drew) := HBr.out.later hbD
          have HW5 : Hid (Below w.heap.size w wr.drew) := bchain HWr.out hbD
          have hg5 : g < wr.drew.heap.size := hgr
          clear hbD cZ0 cZ1 HRr HBr HWr hgr
          generalize wr.drew = wD at *
          refine wpAnyH_take (i := 0) (v := ?v13) rfl (by kernel_rfl) (by kernel_rfl) (by kernel_rfl) (fun _ _ _ h => h) (Or.inl ⟨by kernel_rfl, ?h13⟩) HS ?r13
          case h13 => (rintro w ⟨s1, s2⟩; go_simp) <;> with_reducible rfl
          try simp only [Act.put, List.getElem_toArray, List.getElem_cons_succ, List.getElem_cons_zero, List.setIfInBounds_toArray, List.set_cons_zero, List.set_cons_succ]
          refine wpAnyH_take (i := 1) (v := ?v14) rfl (by kernel_rfl) (by kernel_rfl) (by kernel_rfl) (fun _ _ _ h => h) (Or.inl ⟨by kernel_rfl, ?h14⟩) HS ?r14
          case h14 => (rintro w ⟨s1, s2⟩; go_simp) <;> with_reducible rfl
          try simp only [Act.put, List.getElem_toArray, List.getElem_cons_succ, List.getElem_cons_zero, List.setIfInBounds_toArray, List.set_cons_zero, List.set_cons_succ]
          refine wpAnyH_take (i := 2) (v := ?v15) rfl (by kernel_rfl) (by kernel_rfl) (by kernel_rfl) (fun _ _ _ h => h) (Or.inl ⟨by kernel_rfl, ?h15⟩) HS ?r15
          case h15 => (rintro w ⟨s1, s2⟩; go_simp) <;> with_reducible rfl
          try simp only [Act.put, List.getElem_toArray, List.getElem_cons_succ, List.getElem_cons_zero, List.setIfInBounds_toArray, List.set_cons_zero, List.set_cons_succ]
          refine wpAnyH_take (i := 3) (v := ?v16) rfl (by kernel_rfl) (by kernel_rfl) (by kernel_rfl) (fun _ _ _ h => h) (Or.inl ⟨by kernel_rfl, ?h16⟩) HS ?r16
          case h16 => (rintro w ⟨s1, s2⟩; go_simp) <;> with_reducible rfl
          try simp only [Act.put, List.getElem_toArray, List.getElem_cons_succ, List.getElem_cons_zero, List.setIfInBounds_toArray, List.set_cons_zero, List.set_cons_succ]
          refine wpAnyH_take (i := 4) (v := ?v17) rfl (by kernel_rfl) (by kernel_rfl) (by kernel_rfl) (fun _ _ _ h => h) (Or.inl ⟨by kernel_rfl, ?h17⟩) HS ?r17
          case h17 => (rintro w ⟨s1, s2⟩; go_simp) <;> with_reducible rfl
          try simp only [Act.put, List.getElem_toArray, List.getElem_cons_succ, List.getElem_cons_zero, List.setIfInBounds_toArray, List.set_cons_zero, List.set_cons_succ]
          refine wpAnyH_take (i := 5) (v := ?v18) rfl (by kernel_rfl) (by kernel_rfl) (by kernel_rfl) (fun _ _ _ h => h) (Or.inl ⟨by kernel_rfl, ?h18⟩) HS ?r18
          case h18 => (rintro w ⟨s1, s2⟩; go_simp) <;> with_reducible rfl
          try simp only [Act.put, List.getElem_toArray, List.getElem_cons_succ, List.getElem_cons_zero, List.setIfInBounds_toArray, List.set_cons_zero, List.set_cons_succ]
          refine wpAnyH_take (i := 6) (v := ?v19) rfl (by kernel_rfl) (by kernel_rfl) (by kernel_rfl) (fun _ _ _ h => h) (Or.inl ⟨by kernel_rfl, ?h19⟩) HS ?r19
          case h19 => (rintro w ⟨s1, s2⟩; go_simp) <;> with_reducible rfl
          try simp only [Act.put, List.getElem_toArray, List.getElem_cons_succ, List.getElem_cons_zero, List.setIfInBounds_toArray, List.set_cons_zero, List.set_cons_succ]
          refine wpAnyH_take (i := 7) (v := ?v20) rfl (by kernel_rfl) (by kernel_rfl) (by kernel_rfl) (fun _ _ _ h => h) (Or.inl ⟨by kernel_rfl, ?h20⟩) HS ?r20
          case h20 => (rintro w ⟨s1, s2⟩; go_simp) <;> with_reducible rfl
          try simp only [Act.put, List.getElem_toArray, List.getElem_cons_succ, List.getElem_cons_zero, List.setIfInBounds_toArray, List.set_cons_zero, List.set_cons_succ]
          refine wpAnyH_take (i := 8) (v := ?v21) rfl (by kernel_rfl) (by kernel_rfl) (by kernel_rfl) (fun _ _ _ h => h) (Or.inl ⟨by kernel_rfl, ?h21⟩) HS ?r21
          case h21 => (rintro w ⟨s1, s2⟩; go_simp) <;> with_reducible rfl
          try simp only [Act.put, List.getElem_toArray, List.getElem_cons_succ, List.getElem_cons_zero, List.setIfInBounds_toArray, List.set_cons_zero, List.set_cons_succ]
          refine wpAnyH_take (i := 9) (v := ?v22) rfl (by kernel_rfl) (by kernel_rfl) (by kernel_rfl) (fun _ _ _ h => h) (Or.inl ⟨by kernel_rfl, ?h22⟩) HS ?r22
          case h22 => (rintro w ⟨s1, s2⟩; go_simp) <;> with_reducible rfl
          try simp only [Act.put, List.getElem_toArray, List.getElem_cons_succ, List.getElem_cons_zero, List.setIfInBounds_toArray, List.set_cons_zero, List.set_cons_succ]
          refine wpAnyH_take (i := 10) (v := ?v23) rfl (by kernel_rfl) (by kernel_rfl) (by kernel_rfl) (fun _ _ _ h => h) (Or.inl ⟨by kernel_rfl, ?h23⟩) HS ?r23
          case h23 => (rintro w ⟨s1, s2⟩; go_simp) <;> with_reducible rfl
          try simp only [Act.put, List.getElem_toArray, List.getElem_cons_succ, List.getElem_cons_zero, List.setIfInBounds_toArray, List.set_cons_zero, List.set_cons_succ]
          refine wpAnyH_take (i := 11) (v := ?v24) rfl (by kernel_rfl) (by kernel_rfl) (by kernel_rfl) (fun _ _ _ h => h) (Or.inl ⟨by kernel_rfl, ?h24⟩) HS ?r24
          case h24 => (rintro w ⟨s1, s2⟩; go_simp) <;> with_reducible rfl
          try simp only [Act.put, List.getElem_toArray, List.getElem_cons_succ, List.getElem_cons_zero, List.setIfInBounds_toArray, List.set_cons_zero, List.set_cons_succ]
          refine wpAnyH_done (by kernel_rfl) ?_ _
          clear HS
          have HR8 : Hid (Rw g cp (fun j => .int .i64 (if j < fsN z (l + 1) then F j else 0)) wD) := HR5.out.congr (fun j hj => by
            rw [Hfs.out.1]
            by_cases h2 : j < A + k
            · rw [if_pos h2, if_pos (by omega)]
            · rw [if_neg h2]
              by_cases h3 : j < A + (k + z (l + 1))
              · rw [if_pos h3, HFo2.out j (by omega) h3]
              · rw [if_neg h3])
          clear HR5
          go_wp2
          go_roundw
          case rel => exact ⟨l + 1, by omega, by go_num, HR8, HB5, HW5, hg5⟩
          case measure => simp [intOf]; omega
    · have hlI : ¬ (l : Int) + 1 < (m : Int) := by omega
      have HQ : Hid (Ar wo (.slice (some ⟨g, 0, none⟩) cp cp) cp F ∧ Ow w.heap.size (.slice (some ⟨g, 0, none⟩) cp cp)) := ⟨(HRo.out.congr (fun j hj => by
        have e : l = m - 1 := by omega
        rw [if_pos (by rw [e, ← HSz.out.2]; exact hj)])).ar (by omega) (fun j hj => HFr.out j hj), fun a n' c' e _ => by cases e; dsimp only; omega⟩
      clear HRo
      go_wp2
      go_ret
      exact ⟨_, rfl, HQ.out.1, HQ.out.2, HWo.out⟩
end Go.Proofs.YtdfjnbkkdgolnaaGreatDoor
set_option linter.unusedVariables false
set_option linter.unusedSimpArgs false
namespace Go.Proofs.YtdfjnbkkdgolnaaGreatDoor
open Go.RowKit

/-- What mlp asks of the world. -/
def MT (w : World) : Prop := TabAt w
theorem MT.later {w w' : World} (h : MT w) (hb : Below w.heap.size w w') : MT w' := TabAt.later h hb
/-- Are sizes right? -/
def Rt (f : Nat → Int) (m : Nat) : Prop := 2 ≤ m ∧ m ≤ 6 ∧ szB f m
theorem Rt.szs {f : Nat → Int} {m : Nat} (h : Rt f m) : ∃ z : Nat → Nat, Szs z m ∧ ∀ i, i < m → f i = ((z i : Nat) : Int) := by
  obtain ⟨h1, h2, h3⟩ := h
  refine ⟨fun i => (f i).toNat, ⟨h1, h2, fun i hi => ?_⟩, fun i hi => ?_⟩
  · have := h3 i hi
    show 1 ≤ (f i).toNat ∧ (f i).toNat ≤ 64
    omega
  · have := h3 i hi
    show f i = (((f i).toNat : Nat) : Int)
    omega
/-- An empty answer. -/
def Emp (v : Value) : Prop := ∃ (ad : Option Addr) (cap : Nat), v = .slice ad 0 cap
structure Mlp1 : Prop where
  initY : ∀ (sd : Nat) (vs : Value) (m cp : Nat) (z : Nat → Nat) (w : World), sd < 18446744073709551616 → Ar w vs m (fun i => ((z i : Nat) : Int)) → Szs z m → cp = fsN z (m - 1) → MT w →
    Calls Tryz.prog 17 #[.int .u64 (sd : Int), vs] w fun e w' => ∃ v', e = .returned (.tuple #[v', .int .i64 0]) ∧ Ar w' v' cp (inF z m sd) ∧ Ow w.heap.size v' ∧ Below w.heap.size w w'
  initN : ∀ (sd : Nat) (vs : Value) (m : Nat) (f : Nat → Int) (w : World), m ≤ 100000 → Ar w vs m f → ¬ Rt f m → MT w →
    Calls Tryz.prog 17 #[.int .u64 (sd : Int), vs] w fun e w' => ∃ v', e = .returned (.tuple #[v', .int .i64 70]) ∧ Emp v' ∧ Below w.heap.size w w'
/-- The first error of a net, a loss and an example; 0: none. -/
def rfE (f : Nat → Int) (m lp lx lt : Nat) (L : Int) (cp z0 zl : Nat) (E : Int) : Prop := (¬ Rt f m → E = 70) ∧ (Rt f m → ¬ (L = 1 ∨ L = 2) → E = 71) ∧ (Rt f m → (L = 1 ∨ L = 2) → ¬ (lp = cp ∧ lx = z0 ∧ lt = zl) → E = 40) ∧ (Rt f m → (L = 1 ∨ L = 2) → (lp = cp ∧ lx = z0 ∧ lt = zl) → E = 0)
structure Mlp4 : Prop where
  gradU : ∀ (s : Bool) (vs vp vx vt : Value) (m cp : Nat) (z : Nat → Nat) (P x t : Nat → Int) (d : Nat) (c : Int) (w : World), 0 ≤ c → c ≤ 100000 → Ar w vs m (fun i => ((z i : Nat) : Int)) → Ar w vp cp P → Ar w vx (z 0) x → Ar w vt (z (m - 1)) t → Szs z m → cp = fsN z (m - 1) → Nb vs d → Nb vp d → Nb vx d → Nb vt d → Uc w d c → MT w →
    Calls Tryz.prog 30 #[.pointer (some ⟨d, 0, none⟩), .int .i64 (lsK s), vs, vp, .agg #[vx, vt]] w fun e w' => ∃ v', e = .returned (.tuple #[v', .int .i64 (gdX s z m P x t), .int .i64 0]) ∧ Ar w' v' cp (gdG s z m P x t) ∧ Ow w.heap.size v' ∧ Un d (c + gdC s z m P x t) w w'
  gradN : ∀ (s : Bool) (vs vp vx vt : Value) (m cp : Nat) (z : Nat → Nat) (P x t : Nat → Int) (w : World), Ar w vs m (fun i => ((z i : Nat) : Int)) → Ar w vp cp P → Ar w vx (z 0) x → Ar w vt (z (m - 1)) t → Szs z m → cp = fsN z (m - 1) → MT w →
    Calls Tryz.prog 30 #[.pointer none, .int .i64 (lsK s), vs, vp, .agg #[vx, vt]] w fun e w' => ∃ v', e = .returned (.tuple #[v', .int .i64 (gdX s z m P x t), .int .i64 0]) ∧ Ar w' v' cp (gdG s z m P x t) ∧ Ow w.heap.size v' ∧ Below w.heap.size w w'
  gradE : ∀ (L : Int) (vs vp vx vt : Value) (m lp lx lt : Nat) (f P x t : Nat → Int) (z : Nat → Nat) (E : Int) (d : Nat) (c : Int) (w : World), m ≤ 100000 → Ar w vs m f → Ar w vp lp P → Ar w vx lx x → Ar w vt lt t → (∀ i, i < m → Rt f m → f i = ((z i : Nat) : Int)) → rfE f m lp lx lt L (fsN z (m - 1)) (z 0) (z (m - 1)) E → E ≠ 0 → Uc w d c → MT w →
    Calls Tryz.prog 30 #[.pointer (some ⟨d, 0, none⟩), .int .i64 L, vs, vp, .agg #[vx, vt]] w fun e w' => ∃ v', e = .returned (.tuple #[v', .int .i64 0, .int .i64 E]) ∧ Emp v' ∧ Un d c w w'
set_option maxRecDepth 100000 in
set_option maxHeartbeats 4000000 in
theorem plain7_any (va : Value) (n : Nat) (f : Nat → Int) (hn : n ≤ 70000) (w : World) (hA : Ar w va n f) :
    Calls Tryz.prog 19 #[va] w fun e w' => ∃ v', e = .returned v' ∧ Ar w' v' n f ∧ Ow w.heap.size v' ∧ Below w.heap.size w w' := by
  obtain ⟨i0, hi, hz0, hz1, hz2⟩ := info_parts dinfo_i64
  obtain ⟨adr, cap, b, o, rfl, k1, k2, k3, k4⟩ := hA
  unfold maxLen at k2
  have HA : Hid (∀ k, k < n → w.cell? ⟨b, o + k, none⟩ = some (.int .i64 (f k)) ∧ -9223372036854775808 ≤ f k ∧ f k ≤ 9223372036854775807) := k4
  have HK : Hid (0 < n → adr = some ⟨b, o, none⟩) := k3
  clear k3 k4
  go_enter Tryz.func19, Tryz.ntmps19
  go_wp2_with (at_make; refine wpList_make_own _ rfl _ _ 35 rfl w.heap.size 2 i0 (.int .i64 0) 1 Tryz.underlying35 hi hz0 hz1 .i64 .i64 (n : Int) n rfl rfl rfl (by rw [hz2]; omega) (by unfold maxLen; omega) (Nat.le_refl _) ?_; intro w1 hown hgrow)
  have hW1 : Below w.heap.size w w1 := (Below.refl _ w).grown hgrow (Nat.le_refl _) (fun k hk => by cases hk)
  clear hgrow
  go_wp2
  go_loopw [3, 11] (fun s3 s11 wr => ∃ j : Nat, j ≤ n ∧ s3 = .slice (some ⟨w.heap.size, 0, none⟩) j n ∧ s11 = .int .i64 (j : Int) ∧ wr.ownsRow w.heap.size 2 1 (.slice (some ⟨w.heap.size, 0, none⟩) j n) j (il f j) ∧ Below w.heap.size w wr) (fun _ s11 _ => n - (intOf s11).toNat)
  case atStart => exact ⟨0, by omega, rfl, rfl, hown, hW1⟩
  case round =>
    clear hown hW1
    obtain ⟨j, hj, rfl, rfl, hown, hW⟩ := hrel
    by_cases hlt : j < n
    · have hjI : (j : Int) < (n : Int) := by omega
      have ea := HK.out (by omega)
      subst ea
      obtain ⟨ca, a0, a1⟩ := HA.out j hlt
      have cA : wr.cell? ⟨b, o + j, none⟩ = some (.int .i64 (f j)) := (hW.cell (World.block_lt_of_cell? _ _ ca)).trans ca
      have bA := World.block_lt_of_cell? _ _ ca
      clear ca
      go_wp2_with (at_builtin; refine wpList_append_fits _ rfl _ _ 35 rfl w.heap.size 2 i0 1 Tryz.underlying35 hi hz1 w.heap.size j n _ rfl (hown.alloc _) ⟨wr.heap.size, 0, none⟩ 1 1 [.int .i64 (f j)] rfl rfl (cell_one_new _ _ _) (ints_oneCell .i64 [f j]) (by omega) ?_; intro w2 hown' hgrow)
      have hown3 : w2.ownsRow w.heap.size 2 1 (.slice (some ⟨w.heap.size, 0, none⟩) (j + 1) n) (j + 1) (il f (j + 1)) := by rw [il_succ]; exact hown'
      have hW3 : Below w.heap.size w w2 := dbelow_grown' hown hW hgrow rfl
      clear hown' hgrow hown hW
      go_wp2
      go_roundw
      case rel => exact ⟨j + 1, by omega, rfl, by go_num, hown3, hW3⟩
      case measure => simp [intOf]; omega
    · obtain rfl : j = n := by omega
      have HR : Hid (Ar wr (.slice (some ⟨w.heap.size, 0, none⟩) j j) j f ∧ Ow w.heap.size (.slice (some ⟨w.heap.size, 0, none⟩) j j)) := ar_of_own hown (fun k hk => (HA.out k hk).2)
      have HW : Hid (Below w.heap.size w wr) := hW
      clear hown hW
      go_wp2
      go_ret
      exact ⟨_, rfl, HR.out.1, HR.out.2, HW.out⟩
end Go.Proofs.YtdfjnbkkdgolnaaGreatDoor
set_option linter.unusedVariables false
set_option linter.unusedSimpArgs false
namespace Go.Proofs.YtdfjnbkkdgolnaaGreatDoor
open Go.RowKit

/-- A yes or no. -/
def Tells (e : Ending) (p : Prop) : Prop := ∃ B : Bool, e = .returned (.bool B) ∧ (B = true ↔ p)
theorem Tells.yes {e : Ending} {p : Prop} (h : Tells e p) (hp : p) : e = .returned (.bool true) := by
  obtain ⟨B, rfl, hB⟩ := h
  rw [hB.2 hp]
theorem Tells.no {e : Ending} {p : Prop} (h : Tells e p) (hp : ¬ p) : e = .returned (.bool false) := by
  obtain ⟨B, rfl, hB⟩ := h
  cases B
  · rfl
  · exact absurd (hB.1 rfl) hp
/-- Sizes as whole numbers from 0 on, where they are right. -/
def Zs (f : Nat → Int) (m : Nat) (z : Nat → Nat) : Prop := Rt f m → Szs z m ∧ ∀ i, i < m → f i = ((z i : Nat) : Int)
theorem zs_ex (f : Nat → Int) (m : Nat) : ∃ z, Zs f m z := by
  by_cases h : Rt f m
  · obtain ⟨z, h1, h2⟩ := h.szs
    exact ⟨z, fun _ => ⟨h1, h2⟩⟩
  · exact ⟨fun _ => 0, fun h' => absurd h' h⟩
/-- The count of parameters; -1 where sizes aren't right. -/
def ctN (f : Nat → Int) (m : Nat) (z : Nat → Nat) (C : Int) : Prop := (Rt f m → C = ((fsN z (m - 1) : Nat) : Int)) ∧ (¬ Rt f m → C = -1)
theorem count7_any (vs : Value) (m : Nat) (f : Nat → Int) (z : Nat → Nat) (hz : Zs f m z) (w : World) (hA : Ar w vs m f) : Calls Tryz.prog 13 #[vs] w fun e w' => ∃ C : Int, e = .returned (.int .i64 C) ∧ ctN f m z C ∧ Below w.heap.size w w' := by
  by_cases h : Rt f m
  · obtain ⟨h1, h2⟩ := hz h
    refine (count_yes vs m z w (hA.congr h2) h1).mono ?_
    rintro e w' ⟨rfl, hb⟩
    exact ⟨_, rfl, ⟨fun _ => rfl, fun h' => absurd h h'⟩, hb⟩
  · refine (count_no vs m f w hA h).mono ?_
    rintro e w' ⟨rfl, hb⟩
    exact ⟨_, rfl, ⟨fun h' => absurd h' h, fun _ => rfl⟩, hb⟩
end Go.Proofs.YtdfjnbkkdgolnaaGreatDoor
set_option linter.unusedVariables false
set_option linter.unusedSimpArgs false
namespace Go.Proofs.YtdfjnbkkdgolnaaGreatDoor
open Go.RowKit

def zA (i : Nat) : Nat := if i = 0 then 2 else 1
def pA (_ : Nat) : Int := 4294967296
def xA (i : Nat) : Int := if i = 0 then 8589934592 else 12884901888
def tA (_ : Nat) : Int := 17179869184
theorem aw7 : gdX true zA 2 pA xA tA = 8589934592 ∧ gdG true zA 2 pA xA tA 0 = 17179869184 ∧ gdG true zA 2 pA xA tA 1 = 25769803776 ∧ gdG true zA 2 pA xA tA 2 = 8589934592 := by decide +kernel
theorem awz : Szs zA 2 := ⟨by omega, by omega, fun i hi => by unfold zA; split <;> omega⟩
theorem ar_c3 (w : World) (x : Int) (h0 : -9223372036854775808 ≤ x) (h1 : x ≤ 9223372036854775807) (t : TypeId) : Ar (w.alloc (.cells #[.int .i64 x, .int .i64 x, .int .i64 x] t)) (.slice (some ⟨w.heap.size, 0, none⟩) 3 3) 3 (fun _ => x) :=
  ⟨_, 3, w.heap.size, 0, rfl, Nat.le_refl _, by unfold maxLen; omega, fun _ => rfl, fun k hk => ⟨by
    match k, hk with
    | 0, _ => simp [go_sem]
    | 1, _ => simp [go_sem]
    | 2, _ => simp [go_sem], h0, h1⟩⟩
theorem ar_c1 (w : World) (x : Int) (h0 : -9223372036854775808 ≤ x) (h1 : x ≤ 9223372036854775807) (t : TypeId) : Ar (w.alloc (.cells #[.int .i64 x] t)) (.slice (some ⟨w.heap.size, 0, none⟩) 1 1) 1 (fun _ => x) :=
  ⟨_, 1, w.heap.size, 0, rfl, Nat.le_refl _, by unfold maxLen; omega, fun _ => rfl, fun k hk => ⟨by
    match k, hk with
    | 0, _ => simp [go_sem], h0, h1⟩⟩
theorem ar_c2 (w : World) (x y : Int) (hx : -9223372036854775808 ≤ x ∧ x ≤ 9223372036854775807) (hy : -9223372036854775808 ≤ y ∧ y ≤ 9223372036854775807) (t : TypeId) : Ar (w.alloc (.cells #[.int .i64 x, .int .i64 y] t)) (.slice (some ⟨w.heap.size, 0, none⟩) 2 2) 2 (fun i => if i = 0 then x else y) :=
  ⟨_, 2, w.heap.size, 0, rfl, Nat.le_refl _, by unfold maxLen; omega, fun _ => rfl, fun k hk => by
    match k, hk with
    | 0, _ => exact ⟨by simp [go_sem], by simpa using hx⟩
    | 1, _ => exact ⟨by simp [go_sem], by simpa using hy⟩⟩
set_option maxRecDepth 100000 in
set_option maxHeartbeats 4000000 in
theorem awake7_any (V4 : Mlp4) (w : World) (hV : MT w) : Calls Tryz.prog 9 #[] w fun e w' => e = .returned (.bool true) ∧ Below w.heap.size w w' := by
  obtain ⟨w1, hw1⟩ : ∃ w1, w1 = w.alloc (.cells #[.int .i64 4294967296, .int .i64 4294967296, .int .i64 4294967296] 41) := ⟨_, rfl⟩
  obtain ⟨w2, hw2⟩ : ∃ w2, w2 = w1.alloc (.cells #[.int .i64 2, .int .i64 1] 3) := ⟨_, rfl⟩
  obtain ⟨w3, hw3⟩ : ∃ w3, w3 = w2.alloc (.cells #[.int .i64 8589934592, .int .i64 12884901888] 41) := ⟨_, rfl⟩
  obtain ⟨w4, hw4⟩ : ∃ w4, w4 = w3.alloc (.cells #[.int .i64 17179869184] 41) := ⟨_, rfl⟩
  have b1 : Below w.heap.size w w1 := by rw [hw1]; exact bel1 _ _
  have b2 : Below w1.heap.size w1 w2 := by rw [hw2]; exact bel1 _ _
  have b3 : Below w2.heap.size w2 w3 := by rw [hw3]; exact bel1 _ _
  have b4 : Below w3.heap.size w3 w4 := by rw [hw4]; exact bel1 _ _
  have s1 : w1.heap.size = w.heap.size + 1 := by rw [hw1, World.size_alloc]
  have s2 : w2.heap.size = w.heap.size + 1 + 1 := by rw [hw2, World.size_alloc, s1]
  have s3 : w3.heap.size = w.heap.size + 1 + 1 + 1 := by rw [hw3, World.size_alloc, s2]
  have a1 : Ar w4 (.slice (some ⟨w.heap.size, 0, none⟩) 3 3) 3 pA := by
    have h := ar_c3 w 4294967296 (by omega) (by omega) 41
    rw [← hw1] at h
    exact ((h.later b2).later b3).later b4
  have a2 : Ar w4 (.slice (some ⟨w.heap.size + 1, 0, none⟩) 2 2) 2 (fun i => ((zA i : Nat) : Int)) := by
    have h := ar_c2 w1 2 1 (by omega) (by omega) 3
    rw [← hw2, s1] at h
    exact ((h.later b3).later b4).congr (fun k hk => by unfold zA; split <;> rfl)
  have a3 : Ar w4 (.slice (some ⟨w.heap.size + 1 + 1, 0, none⟩) 2 2) 2 xA := by
    have h := ar_c2 w2 8589934592 12884901888 (by omega) (by omega) 41
    rw [← hw3, s2] at h
    exact h.later b4
  have a4 : Ar w4 (.slice (some ⟨w.heap.size + 1 + 1 + 1, 0, none⟩) 1 1) 1 tA := by
    have h := ar_c1 w3 17179869184 (by omega) (by omega) 41
    rw [← hw4, s3] at h
    exact h
  have HB : Hid (Below w.heap.size w w4) := bchain (bchain (bchain b1 b2) b3) b4
  have CG : Hid (Calls Tryz.prog 30 #[.pointer none, .int .i64 1, .slice (some ⟨w.heap.size + 1, 0, none⟩) 2 2, .slice (some ⟨w.heap.size, 0, none⟩) 3 3, .agg #[.slice (some ⟨w.heap.size + 1 + 1, 0, none⟩) 2 2, .slice (some ⟨w.heap.size + 1 + 1 + 1, 0, none⟩) 1 1]] w4 fun e w' => ∃ v', e = .returned (.tuple #[v', .int .i64 8589934592, .int .i64 0]) ∧ Ar w' v' 3 (gdG true zA 2 pA xA tA) ∧ Below w4.heap.size w4 w') := by
    refine (V4.gradN true _ _ _ _ 2 3 zA pA xA tA w4 a2 a1 a3 a4 awz rfl (hV.later HB.out)).mono ?_
    rintro e w' ⟨v', rfl, hA, -, hb⟩
    rw [aw7.1]
    exact ⟨v', rfl, hA, hb⟩
  have Hw : Hid (w4 = (((w.alloc (.cells #[.int .i64 4294967296, .int .i64 4294967296, .int .i64 4294967296] 41)).alloc (.cells #[.int .i64 2, .int .i64 1] 3)).alloc (.cells #[.int .i64 8589934592, .int .i64 12884901888] 41)).alloc (.cells #[.int .i64 17179869184] 41)) := by show _ = _; rw [hw4, hw3, hw2, hw1]
  clear hw1 hw2 hw3 hw4 b1 b2 b3 b4 s1 s2 s3 a1 a2 a3 a4
  go_enter Tryz.func9, Tryz.ntmps9
  go_wp2_with fail
  rw [← Hw.out]
  refine CG.out.mono ?_
  rintro e w5 ⟨v', rfl, hA, hb⟩
  obtain ⟨b, o, cap, rfl, k1, k2, k3, k4⟩ := hA.spot 0 (by omega)
  unfold maxLen at k1
  have c0 := k3 0 (by omega)
  have c1 := k3 1 (by omega)
  have c2 := k3 2 (by omega)
  rw [aw7.2.1] at c0
  rw [aw7.2.2.1] at c1
  rw [aw7.2.2.2] at c2
  rw [Nat.add_zero] at c0
  have HB5 : Hid (Below w.heap.size w w5) := bchain HB.out hb
  clear CG Hw hA k3 k4 hb HB
  go_wp2
  go_ret
  exact ⟨by first | rfl | simp, HB5.out⟩
end Go.Proofs.YtdfjnbkkdgolnaaGreatDoor
set_option linter.unusedVariables false
set_option linter.unusedSimpArgs false
namespace Go.Proofs.YtdfjnbkkdgolnaaGreatDoor
open Go.RowKit

set_option maxRecDepth 100000 in
set_option maxHeartbeats 8000000 in
theorem mlpInits_any (V1 : Mlp1) (V4 : Mlp4) (sd : Nat) (vs : Value) (m : Nat) (f : Nat → Int) (hsd : sd < 18446744073709551616) (w : World) (hA : Ar w vs m f) (hV : MT w) :
    Calls Tryz.prog 4 #[.int .u64 (sd : Int), vs] w fun e w' => e = .returned (.bool true) ∧ Below w.heap.size w w' := by
  obtain ⟨z, hz⟩ := zs_ex f m
  have HAw : Hid (Calls Tryz.prog 9 #[] w fun e w' => e = .returned (.bool true) ∧ Below w.heap.size w w') := awake7_any V4 w hV
  have HC : Hid (∀ W : World, Below w.heap.size w W → Calls Tryz.prog 13 #[vs] W fun e w' => ∃ C : Int, e = .returned (.int .i64 C) ∧ ctN f m z C ∧ Below W.heap.size W w') := fun W hb => count7_any vs m f z hz W (hA.later hb)
  have HA : Hid (Ar w vs m f) := hA
  have HCu : Hid (∀ C C', ctN f m z C → ctN f m z C' → C = C') := fun C C' h h' => by
    by_cases hr : Rt f m
    · rw [h.1 hr, h'.1 hr]
    · rw [h.2 hr, h'.2 hr]
  obtain ⟨adr, cap, b, o, rfl, k1, k2, -, -⟩ := id hA
  unfold maxLen at k2
  clear hA
  by_cases hm : m ≤ 10
  · have hmI : ¬ (10 : Int) < (m : Int) := by omega
    go_enter Tryz.func4, Tryz.ntmps4
    go_wp2_with fail
    refine HAw.out.mono ?_
    rintro e w1 ⟨rfl, hb1⟩
    have B1 : Hid (Below w.heap.size w w1) := hb1
    clear hb1 HAw
    go_wp2_with fail
    refine (HC.out _ B1.out).mono ?_
    rintro e w2 ⟨C, rfl, hC, hb2⟩
    have B2 : Hid (Below w.heap.size w w2) := bchain B1.out hb2
    have HCt : Hid (ctN f m z C) := hC
    clear hb2 hC B1
    by_cases hq : C ≤ 400
    · have hqI : ¬ (400 : Int) < C := by omega
      by_cases hr : Rt f m
      · have eC := HCt.out.1 hr
        obtain ⟨hs, hf⟩ := hz hr
        have hAz := (HA.out.congr hf).later B2.out
        have CI := V1.initY sd (.slice adr m cap) m (fsN z (m - 1)) z w2 hsd hAz hs rfl (hV.later B2.out)
        have HRI : Hid (∀ W : World, Below w.heap.size w W → Calls Tryz.prog 20 #[.int .u64 (sd : Int), .slice adr m cap] W fun e w' => ∃ v', e = .returned v' ∧ Ar w' v' (fsN z (m - 1)) (inF z m sd) ∧ Ow W.heap.size v' ∧ Below W.heap.size W w') := fun W hb => init_any sd hsd _ m _ z W ((HA.out.congr hf).later hb) hs rfl
        obtain ⟨cp, hcp⟩ : ∃ cp, fsN z (m - 1) = cp := ⟨_, rfl⟩
        rw [hcp] at CI HRI eC
        have hcpb : cp ≤ 400 := by omega
        have hC0 : ¬ C < 0 := by omega
        generalize inF z m sd = F at *
        clear hcp eC hs hf hAz
        go_wp2_with fail
        refine CI.mono ?_
        rintro e w3 ⟨v3, rfl, hA3, -, hb3⟩
        have B3 : Hid (Below w.heap.size w w3) := bchain B2.out hb3
        have HA3 : Hid (Ar w3 v3 cp F) := hA3
        obtain ⟨ad3, ca3, b3, o3, rfl, -, -, -, -⟩ := hA3
        clear CI hb3 B2
        go_wp2_with fail
        refine (HC.out _ B3.out).mono ?_
        rintro e w4 ⟨C', rfl, hC', hb4⟩
        have hCC := HCu.out C' C hC' HCt.out
        subst hCC
        have B4 : Hid (Below w.heap.size w w4) := bchain B3.out hb4
        have HA4 : Hid (Ar w4 (.slice ad3 cp ca3) cp F) := HA3.out.later hb4
        clear hC' hb4 B3 HA3 HC HCu HCt
        have CP := plain7_any (.slice ad3 cp ca3) cp F (by omega) w4 HA4.out
        go_wp2_with fail
        refine CP.mono ?_
        rintro e w5 ⟨v5, rfl, hA5, -, hb5⟩
        have B5 : Hid (Below w.heap.size w w5) := bchain B4.out hb5
        have HA5 : Hid (Ar w5 v5 cp F) := hA5
        clear CP hA5 hb5 B4 HA4
        go_wp2_with fail
        refine (HRI.out _ B5.out).mono ?_
        rintro e w6 ⟨v6, rfl, hA6, -, hb6⟩
        have B6 : Hid (Below w.heap.size w w6) := bchain B5.out hb6
        have CS := same_yes v5 v6 cp F (by omega) w6 (HA5.out.later hb6) hA6
        clear HRI hA6 hb6 B5 HA5
        go_wp2_with fail
        refine CS.mono ?_
        rintro e w7 ⟨rfl, hb7⟩
        have B7 : Hid (Below w.heap.size w w7) := bchain B6.out hb7
        clear CS hb7 B6
        go_wp2
        go_ret
        exact ⟨rfl, B7.out⟩
      · have eC := HCt.out.2 hr
        subst eC
        have CI := V1.initN sd (.slice adr m cap) m f w2 (by omega) (HA.out.later B2.out) hr (hV.later B2.out)
        go_wp2_with fail
        refine CI.mono ?_
        rintro e w3 ⟨v3, rfl, ⟨ad3, ca3, rfl⟩, hb3⟩
        have B3 : Hid (Below w.heap.size w w3) := bchain B2.out hb3
        clear CI hb3 B2
        go_wp2_with fail
        refine (HC.out _ B3.out).mono ?_
        rintro e w4 ⟨C', rfl, hC', hb4⟩
        have hCC := HCu.out C' (-1) hC' HCt.out
        subst hCC
        have B4 : Hid (Below w.heap.size w w4) := bchain B3.out hb4
        clear hC' hb4 B3 HC HCu HCt
        go_wp2
        go_ret
        exact ⟨rfl, B4.out⟩
    · have hqI : (400 : Int) < C := by omega
      clear HC HCu HCt
      go_wp2
      go_ret
      exact ⟨rfl, B2.out⟩
  · have hmI : (10 : Int) < (m : Int) := by omega
    go_enter Tryz.func4, Tryz.ntmps4
    go_wp2_with fail
    refine HAw.out.mono ?_
    rintro e w1 ⟨rfl, hb1⟩
    have B1 : Hid (Below w.heap.size w w1) := hb1
    clear hb1 HAw HC
    go_wp2
    go_ret
    exact ⟨rfl, B1.out⟩
end Go.Proofs.YtdfjnbkkdgolnaaGreatDoor
set_option linter.unusedVariables false
set_option linter.unusedSimpArgs false
namespace Go.Proofs.YtdfjnbkkdgolnaaGreatDoor
open Go.RowKit

set_option maxHeartbeats 1000000 in
theorem tooLong_any (a : Option Addr) (n c : Nat) (hn : n ≤ maxLen) (w : World) :
    Calls Tryz.prog 114 #[.slice a n c] w fun e w' => e = .returned (.bool (decide (65536 < n))) ∧ w' = w := by
  unfold maxLen at hn
  by_cases h : 65536 < n
  · have h1 : (65536 : Int) < (n : Int) := by omega
    rw [decide_eq_true h]
    clear h
    go_enter Tryz.func114, Tryz.ntmps114
    go_wp2
    go_ret
    exact ⟨rfl, rfl⟩
  · have h1 : ¬ (65536 : Int) < (n : Int) := by omega
    rw [decide_eq_false h]
    clear h
    go_enter Tryz.func114, Tryz.ntmps114
    go_wp2
    go_ret
    exact ⟨rfl, rfl⟩
/-- Whether one of so many vectors is too long. -/
def longB (ns : Nat → Nat) (m : Nat) : Bool := (List.range m).any (fun k => decide (65536 < ns k))
theorem longB_yes (ns : Nat → Nat) (m k : Nat) (hk : k < m) (h : 65536 < ns k) : longB ns m = true :=
  List.any_eq_true.2 ⟨k, List.mem_range.2 hk, decide_eq_true h⟩
theorem longB_no (ns : Nat → Nat) (m : Nat) (h : ∀ k, k < m → ¬ 65536 < ns k) : longB ns m = false := by
  rw [Bool.eq_false_iff]
  intro e
  obtain ⟨k, hk, h2⟩ := List.any_eq_true.1 e
  exact h k (List.mem_range.1 hk) (of_decide_eq_true h2)
/-- A list of lists: where each is, and how long. -/
def Hs (w : World) (v : Value) (m : Nat) (ns : Nat → Nat) : Prop :=
  ∃ (adr : Option Addr) (cap g o : Nat), v = .slice adr m cap ∧ m ≤ cap ∧ cap ≤ maxLen ∧ (0 < m → adr = some ⟨g, o, none⟩) ∧ ∀ k, k < m → ns k ≤ maxLen ∧ ∃ (ad : Option Addr) (ca : Nat), w.cell? ⟨g, o + k, none⟩ = some (.slice ad (ns k) ca)
set_option maxRecDepth 100000 in
set_option maxHeartbeats 2000000 in
theorem index_any (v : Value) (m : Nat) (ns : Nat → Nat) (w : World) (hH : Hs w v m ns) :
    Calls Tryz.prog 136 #[v, .func (.func 114) #[] #[]] w fun e w' => ∃ i : Int, e = .returned (.int .i64 i) ∧ (longB ns m = true → 0 ≤ i) ∧ (longB ns m = false → i < 0) ∧ w' = w := by
  obtain ⟨adr, cap, g, o, rfl, k1, k2, k3, k4⟩ := hH
  unfold maxLen at k2
  have HC : Hid (∀ k, k < m → ns k ≤ maxLen ∧ ∃ (ad : Option Addr) (ca : Nat), w.cell? ⟨g, o + k, none⟩ = some (.slice ad (ns k) ca)) := k4
  have HK : Hid (0 < m → adr = some ⟨g, o, none⟩) := k3
  clear k3 k4
  go_enter Tryz.func136, Tryz.ntmps136
  go_wp2
  go_loopw [8] (fun s8 wr => ∃ j : Nat, j ≤ m ∧ s8 = .int .i64 (j : Int) ∧ Hid (∀ k, k < j → ¬ 65536 < ns k) ∧ wr = w) (fun s8 _ => m - (intOf s8).toNat)
  case atStart => exact ⟨0, by omega, rfl, fun k hk => by omega, rfl⟩
  case round =>
    obtain ⟨j, hj, rfl, hA, rfl⟩ := hrel
    by_cases hlt : j < m
    · have hjI : (j : Int) < (m : Int) := by omega
      have ea := HK.out (by omega)
      subst ea
      obtain ⟨hl, ad, ca, hcell⟩ := HC.out j hlt
      have CT : Hid (∀ W : World, Calls Tryz.prog 114 #[.slice ad (ns j) ca] W fun e w' => e = .returned (.bool (decide (65536 < ns j))) ∧ w' = W) := fun W => tooLong_any ad (ns j) ca hl W
      clear hl
      by_cases hlong : 65536 < ns j
      · rw [decide_eq_true hlong] at CT
        have HF : Hid (longB ns m = true) := longB_yes ns m j hlt hlong
        clear hlong hA
        go_wp2_with (go_at_call 114; refine (CT.out _).mono ?_; rintro e wz ⟨rfl, hz⟩; subst hz)
        go_ret
        exact ⟨_, rfl, fun _ => by omega, fun h => (by rw [HF.out] at h; cases h), rfl⟩
      · rw [decide_eq_false hlong] at CT
        have HA2 : Hid (∀ k, k < j + 1 → ¬ 65536 < ns k) := fun k hk => by
          rcases Nat.lt_or_ge k j with h | h
          · exact hA.out k h
          · obtain rfl : k = j := by omega
            exact hlong
        clear hlong hA
        go_wp2_with (go_at_call 114; refine (CT.out _).mono ?_; rintro e wz ⟨rfl, hz⟩; subst hz)
        go_roundw
        case rel => exact ⟨j + 1, by omega, by go_num, HA2, trivial⟩
        case measure => simp [intOf]; omega
    · have HF : Hid (longB ns m = false) := longB_no ns m (fun k hk => hA.out k (by omega))
      have hjI : ¬ (j : Int) < (m : Int) := by omega
      clear hA
      go_wp2
      go_ret
      exact ⟨_, rfl, fun h => (by rw [HF.out] at h; cases h), fun _ => by omega, rfl⟩
set_option maxHeartbeats 1000000 in
theorem contains_any (v : Value) (m : Nat) (ns : Nat → Nat) (w : World) (hH : Hs w v m ns) :
    Calls Tryz.prog 113 #[v, .func (.func 114) #[] #[]] w fun e w' => e = .returned (.bool (longB ns m)) ∧ w' = w := by
  have CI : Hid (Calls Tryz.prog 136 #[v, .func (.func 114) #[] #[]] w fun e w' => ∃ i : Int, e = .returned (.int .i64 i) ∧ (longB ns m = true → 0 ≤ i) ∧ (longB ns m = false → i < 0) ∧ w' = w) := index_any v m ns w hH
  obtain ⟨adr, cap, g, o, rfl, -, -, -, -⟩ := hH
  generalize longB ns m = B at *
  cases B
  · go_enter Tryz.func113, Tryz.ntmps113
    go_wp2_with fail
    refine CI.out.mono ?_
    rintro e wz ⟨i, rfl, -, h1, hz⟩
    subst hz
    have h2 : ¬ (0 : Int) ≤ i := by have := h1 (by trivial); omega
    clear CI h1
    go_wp2
    go_ret
    exact ⟨by simp [h2], rfl⟩
  · go_enter Tryz.func113, Tryz.ntmps113
    go_wp2_with fail
    refine CI.out.mono ?_
    rintro e wz ⟨i, rfl, h1, -, hz⟩
    subst hz
    have h2 : (0 : Int) ≤ i := h1 (by trivial)
    clear CI h1
    go_wp2
    go_ret
    exact ⟨by simp [h2], rfl⟩
/-- check's answer. -/
def ckE (b : Bool) (ns : Nat → Nat) (m : Nat) : Int := if longB ns m = true then 3 else if b = true then 0 else 40
set_option maxHeartbeats 1000000 in
theorem check_any (b : Bool) (v : Value) (m : Nat) (ns : Nat → Nat) (w : World) (hH : Hs w v m ns) :
    Calls Tryz.prog 81 #[.bool b, v] w fun e w' => e = .returned (.int .i64 (ckE b ns m)) ∧ w' = w := by
  have CI : Hid (Calls Tryz.prog 113 #[v, .func (.func 114) #[] #[]] w fun e w' => e = .returned (.bool (longB ns m)) ∧ w' = w) := contains_any v m ns w hH
  obtain ⟨adr, cap, g, o, rfl, -, -, -, -⟩ := hH
  unfold ckE
  generalize longB ns m = B at *
  cases B <;> cases b
  all_goals
    first
      | rw [if_pos rfl]
      | rw [if_neg (by decide), if_pos rfl]
      | rw [if_neg (by decide), if_neg (by decide)]
    go_enter Tryz.func81, Tryz.ntmps81
    go_wp2_with fail
    refine CI.out.mono ?_
    rintro e wz ⟨rfl, hz⟩
    subst hz
    clear CI
    go_wp2
    go_ret
    exact ⟨rfl, rfl⟩
theorem hs1 (w1 : World) (ada : Option Addr) (n ca : Nat) (k : n ≤ maxLen) : Hs (w1.alloc (.cells #[.slice ada n ca] 23)) (.slice (some ⟨w1.heap.size, 0, none⟩) 1 1) 1 (fun _ => n) := by
  refine ⟨some ⟨w1.heap.size, 0, none⟩, 1, w1.heap.size, 0, rfl, Nat.le_refl _, by unfold maxLen; omega, fun _ => rfl, fun k hk => ?_⟩
  obtain rfl : k = 0 := by omega
  exact ⟨k, ada, ca, by simp [go_sem]⟩
theorem hs2 (w1 : World) (ada adb : Option Addr) (n ca m cb : Nat) (k : n ≤ maxLen) (q : m ≤ maxLen) : Hs (w1.alloc (.cells #[.slice ada n ca, .slice adb m cb] 23)) (.slice (some ⟨w1.heap.size, 0, none⟩) 2 2) 2 (fun k => if k = 0 then n else m) := by
  refine ⟨some ⟨w1.heap.size, 0, none⟩, 2, w1.heap.size, 0, rfl, Nat.le_refl _, by unfold maxLen; omega, fun _ => rfl, fun k hk => ?_⟩
  rcases (show k = 0 ∨ k = 1 by omega) with rfl | rfl
  · exact ⟨k, ada, ca, by simp [go_sem]⟩
  · exact ⟨q, adb, cb, by simp [go_sem]⟩
theorem ckE1 (b : Bool) (n : Nat) : ckE b (fun _ => n) 1 = if 65536 < n then 3 else if b = true then 0 else 40 := by
  unfold ckE longB
  by_cases h : 65536 < n <;> simp [h, List.range_succ]
theorem ckE2 (b : Bool) (n m : Nat) : ckE b (fun k => if k = 0 then n else m) 2 = if 65536 < n ∨ 65536 < m then 3 else if b = true then 0 else 40 := by
  unfold ckE longB
  by_cases h : 65536 < n <;> by_cases h' : 65536 < m <;> simp [h, h', List.range_succ]
theorem check1_any (b : Bool) (w1 : World) (ada : Option Addr) (n ca : Nat) (k : n ≤ maxLen) :
    Calls Tryz.prog 81 #[.bool b, .slice (some ⟨w1.heap.size, 0, none⟩) 1 1] (w1.alloc (.cells #[.slice ada n ca] 23)) fun e w' => e = .returned (.int .i64 (if 65536 < n then 3 else if b = true then 0 else 40)) ∧ w' = w1.alloc (.cells #[.slice ada n ca] 23) := by
  have h := check_any b _ 1 _ _ (hs1 w1 ada n ca k)
  rw [ckE1] at h
  exact h
theorem check2_any (b : Bool) (w1 : World) (ada adb : Option Addr) (n ca m cb : Nat) (k : n ≤ maxLen) (q : m ≤ maxLen) :
    Calls Tryz.prog 81 #[.bool b, .slice (some ⟨w1.heap.size, 0, none⟩) 2 2] (w1.alloc (.cells #[.slice ada n ca, .slice adb m cb] 23)) fun e w' => e = .returned (.int .i64 (if 65536 < n ∨ 65536 < m then 3 else if b = true then 0 else 40)) ∧ w' = w1.alloc (.cells #[.slice ada n ca, .slice adb m cb] 23) := by
  have h := check_any b _ 2 _ _ (hs2 w1 ada adb n ca m cb k q)
  rw [ckE2] at h
  exact h
end Go.Proofs.YtdfjnbkkdgolnaaGreatDoor
set_option linter.unusedVariables false
set_option linter.unusedSimpArgs false
namespace Go.Proofs.YtdfjnbkkdgolnaaGreatDoor
open Go.RowKit

/-- A block of two cells. -/
structure B2 (b : Nat) (x y : Value) (w : World) : Prop where
  c0 : w.cell? ⟨b, 0, none⟩ = some x
  c1 : w.cell? ⟨b, 1, none⟩ = some y
  f0 : w.frozen? ⟨b, 0, none⟩ = false
  f1 : w.frozen? ⟨b, 1, none⟩ = false
theorem B2.new (w : World) (x y : Value) (t : TypeId) : B2 w.heap.size x y (w.alloc (.cells #[x, y] t)) where
  c0 := by simp [go_sem]
  c1 := by simp [go_sem]
  f0 := by simp [go_sem]
  f1 := by simp [go_sem]
theorem B2.later {b : Nat} {x y : Value} {w w' : World} (h : B2 b x y w) (hb : Below w.heap.size w w') : B2 b x y w' where
  c0 := cell_later hb h.c0
  c1 := cell_later hb h.c1
  f0 := frozen_later hb h.c0 h.f0
  f1 := frozen_later hb h.c1 h.f1
theorem B2.far {b : Nat} {x y : Value} {w : World} {p : Addr} (h : B2 b x y w) (u : Value) (hp : p.block ≠ b) : B2 b x y (w.setCell p u) where
  c0 := cell_set hp h.c0
  c1 := cell_set hp h.c1
  f0 := by rw [World.frozen?_setCell]; exact h.f0
  f1 := by rw [World.frozen?_setCell]; exact h.f1
theorem B2.set0 {b : Nat} {x y : Value} {w : World} (h : B2 b x y w) (u : Value) : B2 b u y (w.setCell ⟨b, 0, none⟩ u) := by
  have c0 := h.c0
  have c1 := h.c1
  have f0 := h.f0
  have f1 := h.f1
  exact ⟨by simp [go_sem, c0], by simp [go_sem, c1], by simp [go_sem, f0], by simp [go_sem, f1]⟩
theorem B2.set1 {b : Nat} {x y : Value} {w : World} (h : B2 b x y w) (u : Value) : B2 b x u (w.setCell ⟨b, 1, none⟩ u) := by
  have c0 := h.c0
  have c1 := h.c1
  have f0 := h.f0
  have f1 := h.f1
  exact ⟨by simp [go_sem, c0], by simp [go_sem, c1], by simp [go_sem, f0], by simp [go_sem, f1]⟩

set_option maxHeartbeats 2000000 in
/-- What products' closure answers, its callees' answers given. -/
theorem prod1_of (ts ms ls x y hp lp tp mp lq tr mr lr : Int) (w : World)
    (CM : Hid (∀ W : World, Calls Tryz.prog 95 #[.int .i64 x, .int .i64 y] W fun e w' => e = .returned (.agg #[.int .i64 hp, .int .u64 lp]) ∧ Below W.heap.size W w'))
    (CE : Hid (∀ W : World, Calls Tryz.prog 101 #[.agg #[.int .i64 hp, .int .u64 lp]] W fun e w' => e = .returned (.agg #[.int .i64 tp, .int .u64 mp, .int .u64 lq]) ∧ Below W.heap.size W w'))
    (CP : Hid (∀ W : World, Calls Tryz.prog 129 #[.agg #[.int .i64 ts, .int .u64 ms, .int .u64 ls], .agg #[.int .i64 tp, .int .u64 mp, .int .u64 lq]] W fun e w' => e = .returned (.agg #[.int .i64 tr, .int .u64 mr, .int .u64 lr]) ∧ Below W.heap.size W w')) :
    Calls Tryz.prog 164 #[.agg #[.int .i64 ts, .int .u64 ms, .int .u64 ls], .int .i64 x, .int .i64 y] w fun e w' => e = .returned (.agg #[.int .i64 tr, .int .u64 mr, .int .u64 lr]) ∧ Below w.heap.size w w' := by
  have A0 := (B3.new w (.int .i64 ts) (.int .u64 ms) (.int .u64 ls) 175).later (bel1 _ (.cells #[.int .i64 0, .int .u64 0, .int .u64 0] 175))
  have R0 := B3.new (w.alloc (.cells #[.int .i64 ts, .int .u64 ms, .int .u64 ls] 175)) (.int .i64 0) (.int .u64 0) (.int .u64 0) 175
  have W0 := bel2 w (.cells #[.int .i64 ts, .int .u64 ms, .int .u64 ls] 175) (.cells #[.int .i64 0, .int .u64 0, .int .u64 0] 175)
  simp only [World.size_alloc] at R0
  go_enter Tryz.func164, Tryz.ntmps164
  go_upto_region 1 with fail
  generalize (w.alloc (.cells #[.int .i64 ts, .int .u64 ms, .int .u64 ls] 175)).alloc (.cells #[.int .i64 0, .int .u64 0, .int .u64 0] 175) = w1 at *
  have hd1 : Below w1.heap.size w1 w1.drew := (Below.refl _ _).drew
  have CO := R0.later hd1
  have A := A0.later hd1
  have CW : Hid (Below w.heap.size w w1.drew) := W0.drew
  have CC0 := CO.c0
  have CC1 := CO.c1
  have CC2 := CO.c2
  have CF0 := CO.f0
  have CF1 := CO.f1
  have CF2 := CO.f2
  clear hd1 A0 R0 W0
  go_region_held3 (fun w' => w'.cell? ⟨w.heap.size, 0, none⟩ = some (.int .i64 ts) ∧ w'.cell? ⟨w.heap.size, 1, none⟩ = some (.int .u64 ms) ∧ w'.cell? ⟨w.heap.size, 2, none⟩ = some (.int .u64 ls))
    (first | exact ⟨A.c0, A.c1, A.c2⟩ | (have A' := ((A.far (p := ⟨w.heap.size + 1, 0, none⟩) (.int .i64 tr) (by dsimp only; omega)).far (p := ⟨w.heap.size + 1, 1, none⟩) (.int .u64 mr) (by dsimp only; omega)).far (p := ⟨w.heap.size + 1, 2, none⟩) (.int .u64 lr) (by dsimp only; omega); exact ⟨A'.c0, A'.c1, A'.c2⟩))
    (first
      | (go_at_call 95; refine (CM.out _).mono ?_; rintro e wz ⟨rfl, hb⟩; replace A := A.later hb; replace CC0 := cell_later hb CC0; replace CC1 := cell_later hb CC1; replace CC2 := cell_later hb CC2; replace CF0 := frozen_later hb CO.c0 CF0; replace CF1 := frozen_later hb CO.c1 CF1; replace CF2 := frozen_later hb CO.c2 CF2; replace CO := CO.later hb; replace CW := hidD CW hb; clear hb)
      | (go_at_call 101; refine (CE.out _).mono ?_; rintro e wz ⟨rfl, hb⟩; replace A := A.later hb; replace CC0 := cell_later hb CC0; replace CC1 := cell_later hb CC1; replace CC2 := cell_later hb CC2; replace CF0 := frozen_later hb CO.c0 CF0; replace CF1 := frozen_later hb CO.c1 CF1; replace CF2 := frozen_later hb CO.c2 CF2; replace CO := CO.later hb; replace CW := hidD CW hb; clear hb)
      | (go_at_call 129; refine (CP.out _).mono ?_; rintro e wz ⟨rfl, hb⟩; replace A := A.later hb; replace CC0 := cell_later hb CC0; replace CC1 := cell_later hb CC1; replace CC2 := cell_later hb CC2; replace CF0 := frozen_later hb CO.c0 CF0; replace CF1 := frozen_later hb CO.c1 CF1; replace CF2 := frozen_later hb CO.c2 CF2; replace CO := CO.later hb; replace CW := hidD CW hb; clear hb))
  have W5 := CW.out
  have S0 := ((CO.set0 (.int .i64 tr)).set1 (.int .u64 mr)).set2 (.int .u64 lr)
  have s0 := S0.c0
  have s1 := S0.c1
  have s2 := S0.c2
  clear A CC0 CC1 CC2 CF0 CF1 CF2 CO CW CM CE CP S0
  go_wp2
  exact bodyPost_ret (v := .agg #[.int .i64 tr, .int .u64 mr, .int .u64 lr]) (by simp [results, Tryz.results164, go_sem, s0, s1, s2]) rfl ⟨rfl, ((W5.setCell (by dsimp only; omega) _).setCell (by dsimp only; omega) _).setCell (by dsimp only; omega) _⟩
theorem prod1_any (s x y : Int) (x0 : -9223372036854775808 ≤ x) (x1 : x ≤ 9223372036854775807) (y0 : -9223372036854775808 ≤ y) (y1 : y ≤ 9223372036854775807) (w : World) :
    Calls Tryz.prog 164 #[.agg #[.int .i64 (t3 (s)), .int .u64 (m3 (s)), .int .u64 (lo (s))], .int .i64 x, .int .i64 y] w fun e w' => e = .returned (.agg #[.int .i64 (t3 (s + x * y)), .int .u64 (m3 (s + x * y)), .int .u64 (lo (s + x * y))]) ∧ Below w.heap.size w w' := by
  obtain ⟨p0, p1⟩ := mul_in x y x0 x1 y0 y1
  exact prod1_of _ _ _ x y _ _ _ _ _ _ _ _ w (fun W => mul_any x y x0 x1 y0 y1 W) (fun W => extend_any (x * y) (by omega) (by omega) W) (fun W => plus_any s (x * y) W)

set_option maxRecDepth 100000 in
set_option maxHeartbeats 4000000 in
theorem gatherPairs_any (va vb : Value) (n : Nat) (f g : Nat → Int) (hn : n ≤ 70000) (w : World) (hA : Ar w va n f) (hB : Ar w vb n g) :
    Calls Tryz.prog 163 #[va, vb, .agg #[.int .i64 0, .int .u64 0, .int .u64 0], .func (.func 164) #[] #[]] w fun e w' => e = .returned (.agg #[.int .i64 (t3 (dotV f g n)), .int .u64 (m3 (dotV f g n)), .int .u64 (lo (dotV f g n))]) ∧ Below w.heap.size w w' := by
  obtain ⟨adr, cap, b, o, rfl, k1, k2, k3, k4⟩ := hA
  obtain ⟨adq, caq, bq, oq, rfl, q1, q2, q3, q4⟩ := hB
  unfold maxLen at *
  have HA : Hid (∀ k, k < n → w.cell? ⟨b, o + k, none⟩ = some (.int .i64 (f k)) ∧ -9223372036854775808 ≤ f k ∧ f k ≤ 9223372036854775807) := k4
  have HK : Hid (0 < n → adr = some ⟨b, o, none⟩) := k3
  have HB : Hid (∀ k, k < n → w.cell? ⟨bq, oq + k, none⟩ = some (.int .i64 (g k)) ∧ -9223372036854775808 ≤ g k ∧ g k ≤ 9223372036854775807) := q4
  have HL : Hid (0 < n → adq = some ⟨bq, oq, none⟩) := q3
  clear k3 k4 q3 q4
  go_enter Tryz.func163, Tryz.ntmps163
  go_wp2
  go_loopw [13] (fun si wr => ∃ j : Nat, j ≤ n ∧ si = .int .i64 (j : Int) ∧ B3 w.heap.size (.int .i64 (t3 (dotV f g j))) (.int .u64 (m3 (dotV f g j))) (.int .u64 (lo (dotV f g j))) wr ∧ B3 (w.heap.size + 1) (.int .i64 0) (.int .u64 0) (.int .u64 0) wr ∧ Below w.heap.size w wr) (fun si _ => n - (intOf si).toNat)
  case atStart =>
    have R0 := B3.new (w.alloc (.cells #[.int .i64 0, .int .u64 0, .int .u64 0] 175)) (.int .i64 0) (.int .u64 0) (.int .u64 0) 175
    simp only [World.size_alloc] at R0
    exact ⟨0, by omega, rfl, (B3.new w (.int .i64 0) (.int .u64 0) (.int .u64 0) 175).later (bel1 _ _), R0, bel2 w _ _⟩
  case round =>
    obtain ⟨j, hj, rfl, hS, hR, hW⟩ := hrel
    by_cases hlt : j < n
    · have hjI : (j : Int) < (n : Int) := by omega
      have ea := HK.out (by omega)
      subst ea
      obtain ⟨ca, a0, a1⟩ := HA.out j hlt
      have cA : wr.cell? ⟨b, o + j, none⟩ = some (.int .i64 (f j)) := (hW.cell (World.block_lt_of_cell? _ _ ca)).trans ca
      clear ca
      have eb := HL.out (by omega)
      subst eb
      obtain ⟨cb, b0, b1⟩ := HB.out j hlt
      have cB : wr.cell? ⟨bq, oq + j, none⟩ = some (.int .i64 (g j)) := (hW.cell (World.block_lt_of_cell? _ _ cb)).trans cb
      clear cb
      have CM : Hid (∀ W : World, Calls Tryz.prog 164 #[.agg #[.int .i64 (t3 (dotV f g j)), .int .u64 (m3 (dotV f g j)), .int .u64 (lo (dotV f g j))], .int .i64 (f j), .int .i64 (g j)] W fun e w' => e = .returned (.agg #[.int .i64 (t3 (dotV f g (j + 1))), .int .u64 (m3 (dotV f g (j + 1))), .int .u64 (lo (dotV f g (j + 1)))]) ∧ Below W.heap.size W w') := fun W => prod1_any (dotV f g j) (f j) (g j) a0 a1 b0 b1 W
      clear a0 a1 b0 b1
      generalize t3 (dotV f g j) = tj at *
      generalize m3 (dotV f g j) = mj at *
      generalize lo (dotV f g j) = lj at *
      obtain ⟨tk, htk⟩ : ∃ x, t3 (dotV f g (j + 1)) = x := ⟨_, rfl⟩
      obtain ⟨mk, hmk⟩ : ∃ x, m3 (dotV f g (j + 1)) = x := ⟨_, rfl⟩
      obtain ⟨lk, hlk⟩ : ∃ x, lo (dotV f g (j + 1)) = x := ⟨_, rfl⟩
      rw [htk, hmk, hlk] at CM
      have HE : Hid (t3 (dotV f g (j + 1)) = tk ∧ m3 (dotV f g (j + 1)) = mk ∧ lo (dotV f g (j + 1)) = lk) := ⟨htk, hmk, hlk⟩
      clear htk hmk hlk
      go_upto_region 4 with fail
      have CD := hS.drew
      have CR := hR.drew
      have CV : Hid (Below w.heap.size w wr.drew) := hW.drew
      have xB : wr.drew.cell? ⟨bq, oq + j, none⟩ = some (.int .i64 (g j)) := cB
      have y0 := CD.c0
      have y1 := CD.c1
      have y2 := CD.c2
      clear cA cB hS hR hW
      go_region_with (first
        | (go_at_call 164; refine (CM.out _).mono ?_; rintro e wz ⟨rfl, hb⟩; clear xB y0 y1 y2; replace CD := CD.later hb; replace CR := CR.later hb; replace CV := hidD' CV hb; clear hb; have y0 := CD.c0; have y1 := CD.c1; have y2 := CD.c2; have z0 := CD.f0; have z1 := CD.f1; have z2 := CD.f2))
      all_goals
        have D5 := ((CD.set0 (.int .i64 tk)).set1 (.int .u64 mk)).set2 (.int .u64 lk)
        have R5 := ((CR.far (p := ⟨w.heap.size, 0, none⟩) (.int .i64 tk) (by dsimp only; omega)).far (p := ⟨w.heap.size, 1, none⟩) (.int .u64 mk) (by dsimp only; omega)).far (p := ⟨w.heap.size, 2, none⟩) (.int .u64 lk) (by dsimp only; omega)
        have W5 := ((CV.out.setCell (p := ⟨w.heap.size, 0, none⟩) (Nat.le_refl _) (.int .i64 tk)).setCell (p := ⟨w.heap.size, 1, none⟩) (Nat.le_refl _) (.int .u64 mk)).setCell (p := ⟨w.heap.size, 2, none⟩) (Nat.le_refl _) (.int .u64 lk)
        obtain ⟨rfl, rfl, rfl⟩ := HE.out
        clear CD CR CV CM y0 y1 y2 z0 z1 z2 HE
        go_wp2
        go_roundw
        case rel => exact ⟨j + 1, by omega, by go_num, D5, R5, W5⟩
        case measure => simp [intOf]; omega
    · obtain rfl : j = n := by omega
      have hjI : ¬ (j : Int) < (j : Int) := by omega
      have y0 := hS.c0
      have y1 := hS.c1
      have y2 := hS.c2
      have z0 := hR.c0
      have z1 := hR.c1
      have z2 := hR.c2
      have u0 := hR.f0
      have u1 := hR.f1
      have u2 := hR.f2
      have S0 := ((hR.set0 (.int .i64 (t3 (dotV f g j)))).set1 (.int .u64 (m3 (dotV f g j)))).set2 (.int .u64 (lo (dotV f g j)))
      have s0 := S0.c0
      have s1 := S0.c1
      have s2 := S0.c2
      have W5 := ((hW.setCell (p := ⟨w.heap.size + 1, 0, none⟩) (by dsimp only; omega) (.int .i64 (t3 (dotV f g j)))).setCell (p := ⟨w.heap.size + 1, 1, none⟩) (by dsimp only; omega) (.int .u64 (m3 (dotV f g j)))).setCell (p := ⟨w.heap.size + 1, 2, none⟩) (by dsimp only; omega) (.int .u64 (lo (dotV f g j)))
      clear hS hR hW S0 HA HB HK HL
      go_wp2
      exact bodyPost_ret (v := .agg #[.int .i64 (t3 (dotV f g j)), .int .u64 (m3 (dotV f g j)), .int .u64 (lo (dotV f g j))]) (by simp [results, Tryz.results163, go_sem, s0, s1, s2]) rfl ⟨rfl, W5⟩

set_option maxHeartbeats 1000000 in
theorem products_any (va vb : Value) (n : Nat) (f g : Nat → Int) (hn : n ≤ 70000) (w : World) (hA : Ar w va n f) (hB : Ar w vb n g) :
    Calls Tryz.prog 155 #[va, vb] w fun e w' => e = .returned (.agg #[.int .i64 (t3 (dotV f g n)), .int .u64 (m3 (dotV f g n)), .int .u64 (lo (dotV f g n))]) ∧ Below w.heap.size w w' := by
  have hb0 := bel1 w (.cells #[.int .i64 0, .int .u64 0, .int .u64 0] 175)
  have CG : Hid (Calls Tryz.prog 163 #[va, vb, .agg #[.int .i64 0, .int .u64 0, .int .u64 0], .func (.func 164) #[] #[]] (w.alloc (.cells #[.int .i64 0, .int .u64 0, .int .u64 0] 175)) fun e w' => e = .returned (.agg #[.int .i64 (t3 (dotV f g n)), .int .u64 (m3 (dotV f g n)), .int .u64 (lo (dotV f g n))]) ∧ Below (w.alloc (.cells #[.int .i64 0, .int .u64 0, .int .u64 0] 175)).heap.size (w.alloc (.cells #[.int .i64 0, .int .u64 0, .int .u64 0] 175)) w') := gatherPairs_any va vb n f g hn _ (hA.later hb0) (hB.later hb0)
  have R0 := B3.new w (.int .i64 0) (.int .u64 0) (.int .u64 0) 175
  obtain ⟨adr, cap, b, o, rfl, -, -, -, -⟩ := hA
  obtain ⟨adq, caq, bq, oq, rfl, -, -, -, -⟩ := hB
  generalize t3 (dotV f g n) = tj at *
  generalize m3 (dotV f g n) = mj at *
  generalize lo (dotV f g n) = lj at *
  go_enter Tryz.func155, Tryz.ntmps155
  go_wp2_with fail
  refine CG.out.mono ?_
  rintro e w1 ⟨rfl, hb⟩
  have W1 := bchain hb0 hb
  have R1 := R0.later hb
  have z0 := R1.c0
  have z1 := R1.c1
  have z2 := R1.c2
  have u0 := R1.f0
  have u1 := R1.f1
  have u2 := R1.f2
  have S0 := ((R1.set0 (.int .i64 tj)).set1 (.int .u64 mj)).set2 (.int .u64 lj)
  have s0 := S0.c0
  have s1 := S0.c1
  have s2 := S0.c2
  have W5 := ((W1.setCell (p := ⟨w.heap.size, 0, none⟩) (Nat.le_refl _) (.int .i64 tj)).setCell (p := ⟨w.heap.size, 1, none⟩) (Nat.le_refl _) (.int .u64 mj)).setCell (p := ⟨w.heap.size, 2, none⟩) (Nat.le_refl _) (.int .u64 lj)
  clear R0 R1 S0 hb hb0 W1 CG
  go_wp2
  exact bodyPost_ret (v := .agg #[.int .i64 tj, .int .u64 mj, .int .u64 lj]) (by simp [results, Tryz.results155, go_sem, s0, s1, s2]) rfl ⟨rfl, W5⟩

set_option maxHeartbeats 2000000 in
theorem plus1_of (hs ls x hp lp hr lr : Int) (w : World)
    (CM : Hid (∀ W : World, Calls Tryz.prog 98 #[.int .i64 x] W fun e w' => e = .returned (.agg #[.int .i64 hp, .int .u64 lp]) ∧ Below W.heap.size W w'))
    (CP : Hid (∀ W : World, Calls Tryz.prog 97 #[.agg #[.int .i64 hs, .int .u64 ls], .agg #[.int .i64 hp, .int .u64 lp]] W fun e w' => e = .returned (.agg #[.int .i64 hr, .int .u64 lr]) ∧ Below W.heap.size W w')) :
    Calls Tryz.prog 86 #[.agg #[.int .i64 hs, .int .u64 ls], .int .i64 x] w fun e w' => e = .returned (.agg #[.int .i64 hr, .int .u64 lr]) ∧ Below w.heap.size w w' := by
  have A0 := (B2.new w (.int .i64 hs) (.int .u64 ls) 158).later (bel1 _ (.cells #[.int .i64 0, .int .u64 0] 158))
  have R0 := B2.new (w.alloc (.cells #[.int .i64 hs, .int .u64 ls] 158)) (.int .i64 0) (.int .u64 0) 158
  have W0 := bel2 w (.cells #[.int .i64 hs, .int .u64 ls] 158) (.cells #[.int .i64 0, .int .u64 0] 158)
  simp only [World.size_alloc] at R0
  go_enter Tryz.func86, Tryz.ntmps86
  go_upto_region 1 with fail
  generalize (w.alloc (.cells #[.int .i64 hs, .int .u64 ls] 158)).alloc (.cells #[.int .i64 0, .int .u64 0] 158) = w1 at *
  have hd1 : Below w1.heap.size w1 w1.drew := (Below.refl _ _).drew
  have CO := R0.later hd1
  have A := A0.later hd1
  have CW : Hid (Below w.heap.size w w1.drew) := W0.drew
  have CC0 := CO.c0
  have CC1 := CO.c1
  have CF0 := CO.f0
  have CF1 := CO.f1
  clear hd1 A0 R0 W0
  go_region_held3 (fun w' => w'.cell? ⟨w.heap.size, 0, none⟩ = some (.int .i64 hs) ∧ w'.cell? ⟨w.heap.size, 1, none⟩ = some (.int .u64 ls))
    (first | exact ⟨A.c0, A.c1⟩ | (have A' := (A.far (p := ⟨w.heap.size + 1, 0, none⟩) (.int .i64 hr) (by dsimp only; omega)).far (p := ⟨w.heap.size + 1, 1, none⟩) (.int .u64 lr) (by dsimp only; omega); exact ⟨A'.c0, A'.c1⟩))
    (first
      | (go_at_call 98; refine (CM.out _).mono ?_; rintro e wz ⟨rfl, hb⟩; replace A := A.later hb; replace CC0 := cell_later hb CC0; replace CC1 := cell_later hb CC1; replace CF0 := frozen_later hb CO.c0 CF0; replace CF1 := frozen_later hb CO.c1 CF1; replace CO := CO.later hb; replace CW := hidD CW hb; clear hb)
      | (go_at_call 97; refine (CP.out _).mono ?_; rintro e wz ⟨rfl, hb⟩; replace A := A.later hb; replace CC0 := cell_later hb CC0; replace CC1 := cell_later hb CC1; replace CF0 := frozen_later hb CO.c0 CF0; replace CF1 := frozen_later hb CO.c1 CF1; replace CO := CO.later hb; replace CW := hidD CW hb; clear hb))
  have W5 := CW.out
  have S0 := (CO.set0 (.int .i64 hr)).set1 (.int .u64 lr)
  have s0 := S0.c0
  have s1 := S0.c1
  clear A CC0 CC1 CF0 CF1 CO CW CM CP S0
  go_wp2
  exact bodyPost_ret (v := .agg #[.int .i64 hr, .int .u64 lr]) (by simp [results, Tryz.results86, go_sem, s0, s1]) rfl ⟨rfl, (W5.setCell (by dsimp only; omega) _).setCell (by dsimp only; omega) _⟩
theorem plus1_any (s x : Int) (x0 : -9223372036854775808 ≤ x) (x1 : x ≤ 9223372036854775807) (w : World) :
    Calls Tryz.prog 86 #[.agg #[.int .i64 (hi (s)), .int .u64 (lo (s))], .int .i64 x] w fun e w' => e = .returned (.agg #[.int .i64 (hi (s + x)), .int .u64 (lo (s + x))]) ∧ Below w.heap.size w w' :=
  plus1_of _ _ x _ _ _ _ w (fun W => of_any x x0 x1 W) (fun W => add_any s x W)

set_option maxRecDepth 100000 in
set_option maxHeartbeats 4000000 in
theorem gather_any (va : Value) (n : Nat) (f : Nat → Int) (w : World) (hA : Ar w va n f) :
    Calls Tryz.prog 118 #[va, .agg #[.int .i64 0, .int .u64 0], .func (.func 86) #[] #[]] w fun e w' => e = .returned (.agg #[.int .i64 (hi (sumV f n)), .int .u64 (lo (sumV f n))]) ∧ Below w.heap.size w w' := by
  obtain ⟨adr, cap, b, o, rfl, k1, k2, k3, k4⟩ := hA
  unfold maxLen at *
  have HA : Hid (∀ k, k < n → w.cell? ⟨b, o + k, none⟩ = some (.int .i64 (f k)) ∧ -9223372036854775808 ≤ f k ∧ f k ≤ 9223372036854775807) := k4
  have HK : Hid (0 < n → adr = some ⟨b, o, none⟩) := k3
  clear k3 k4
  go_enter Tryz.func118, Tryz.ntmps118
  go_wp2
  go_loopw [11] (fun si wr => ∃ j : Nat, j ≤ n ∧ si = .int .i64 (j : Int) ∧ B2 w.heap.size (.int .i64 (hi (sumV f j))) (.int .u64 (lo (sumV f j))) wr ∧ B2 (w.heap.size + 1) (.int .i64 0) (.int .u64 0) wr ∧ Below w.heap.size w wr) (fun si _ => n - (intOf si).toNat)
  case atStart =>
    have R0 := B2.new (w.alloc (.cells #[.int .i64 0, .int .u64 0] 158)) (.int .i64 0) (.int .u64 0) 158
    simp only [World.size_alloc] at R0
    exact ⟨0, by omega, rfl, (B2.new w (.int .i64 0) (.int .u64 0) 158).later (bel1 _ _), R0, bel2 w _ _⟩
  case round =>
    obtain ⟨j, hj, rfl, hS, hR, hW⟩ := hrel
    by_cases hlt : j < n
    · have hjI : (j : Int) < (n : Int) := by omega
      have ea := HK.out (by omega)
      subst ea
      obtain ⟨ca, a0, a1⟩ := HA.out j hlt
      have cA : wr.cell? ⟨b, o + j, none⟩ = some (.int .i64 (f j)) := (hW.cell (World.block_lt_of_cell? _ _ ca)).trans ca
      clear ca
      have CM : Hid (∀ W : World, Calls Tryz.prog 86 #[.agg #[.int .i64 (hi (sumV f j)), .int .u64 (lo (sumV f j))], .int .i64 (f j)] W fun e w' => e = .returned (.agg #[.int .i64 (hi (sumV f (j + 1))), .int .u64 (lo (sumV f (j + 1)))]) ∧ Below W.heap.size W w') := fun W => plus1_any (sumV f j) (f j) a0 a1 W
      clear a0 a1
      generalize hi (sumV f j) = tj at *
      generalize lo (sumV f j) = lj at *
      obtain ⟨tk, htk⟩ : ∃ x, hi (sumV f (j + 1)) = x := ⟨_, rfl⟩
      obtain ⟨lk, hlk⟩ : ∃ x, lo (sumV f (j + 1)) = x := ⟨_, rfl⟩
      rw [htk, hlk] at CM
      have HE : Hid (hi (sumV f (j + 1)) = tk ∧ lo (sumV f (j + 1)) = lk) := ⟨htk, hlk⟩
      clear htk hlk
      have y0 := hS.c0
      have y1 := hS.c1
      have HW : Hid (Below w.heap.size w wr) := hW
      clear hW
      go_wp2_with (go_at_call 86; refine (CM.out _).mono ?_; rintro e wz ⟨rfl, hb⟩; clear cA y0 y1; replace hS := hS.later hb; replace hR := hR.later hb; replace HW := hidD' HW hb; clear hb; have y0 := hS.c0; have y1 := hS.c1; have z0 := hS.f0; have z1 := hS.f1)
      have D5 := (hS.set0 (.int .i64 tk)).set1 (.int .u64 lk)
      have R5 := (hR.far (p := ⟨w.heap.size, 0, none⟩) (.int .i64 tk) (by dsimp only; omega)).far (p := ⟨w.heap.size, 1, none⟩) (.int .u64 lk) (by dsimp only; omega)
      have W5 := (HW.out.setCell (p := ⟨w.heap.size, 0, none⟩) (Nat.le_refl _) (.int .i64 tk)).setCell (p := ⟨w.heap.size, 1, none⟩) (Nat.le_refl _) (.int .u64 lk)
      obtain ⟨rfl, rfl⟩ := HE.out
      go_roundw
      case rel => exact ⟨j + 1, by omega, by go_num, D5, R5, W5⟩
      case measure => simp [intOf]; omega
    · obtain rfl : j = n := by omega
      have hjI : ¬ (j : Int) < (j : Int) := by omega
      have y0 := hS.c0
      have y1 := hS.c1
      have z0 := hR.c0
      have z1 := hR.c1
      have u0 := hR.f0
      have u1 := hR.f1
      have S0 := (hR.set0 (.int .i64 (hi (sumV f j)))).set1 (.int .u64 (lo (sumV f j)))
      have s0 := S0.c0
      have s1 := S0.c1
      have W5 := (hW.setCell (p := ⟨w.heap.size + 1, 0, none⟩) (by dsimp only; omega) (.int .i64 (hi (sumV f j)))).setCell (p := ⟨w.heap.size + 1, 1, none⟩) (by dsimp only; omega) (.int .u64 (lo (sumV f j)))
      clear hS hR hW S0 HA HK
      go_wp2
      exact bodyPost_ret (v := .agg #[.int .i64 (hi (sumV f j)), .int .u64 (lo (sumV f j))]) (by simp [results, Tryz.results118, go_sem, s0, s1]) rfl ⟨rfl, W5⟩

set_option maxHeartbeats 1000000 in
theorem total_any (va : Value) (n : Nat) (f : Nat → Int) (w : World) (hA : Ar w va n f) :
    Calls Tryz.prog 90 #[va] w fun e w' => e = .returned (.agg #[.int .i64 (hi (sumV f n)), .int .u64 (lo (sumV f n))]) ∧ Below w.heap.size w w' := by
  have hb0 := bel1 w (.cells #[.int .i64 0, .int .u64 0] 158)
  have CG : Hid (Calls Tryz.prog 118 #[va, .agg #[.int .i64 0, .int .u64 0], .func (.func 86) #[] #[]] (w.alloc (.cells #[.int .i64 0, .int .u64 0] 158)) fun e w' => e = .returned (.agg #[.int .i64 (hi (sumV f n)), .int .u64 (lo (sumV f n))]) ∧ Below (w.alloc (.cells #[.int .i64 0, .int .u64 0] 158)).heap.size (w.alloc (.cells #[.int .i64 0, .int .u64 0] 158)) w') := gather_any va n f _ (hA.later hb0)
  have R0 := B2.new w (.int .i64 0) (.int .u64 0) 158
  obtain ⟨adr, cap, b, o, rfl, -, -, -, -⟩ := hA
  generalize hi (sumV f n) = tj at *
  generalize lo (sumV f n) = lj at *
  go_enter Tryz.func90, Tryz.ntmps90
  go_wp2_with fail
  refine CG.out.mono ?_
  rintro e w1 ⟨rfl, hb⟩
  have W1 := bchain hb0 hb
  have R1 := R0.later hb
  have z0 := R1.c0
  have z1 := R1.c1
  have u0 := R1.f0
  have u1 := R1.f1
  have S0 := (R1.set0 (.int .i64 tj)).set1 (.int .u64 lj)
  have s0 := S0.c0
  have s1 := S0.c1
  have W5 := (W1.setCell (p := ⟨w.heap.size, 0, none⟩) (Nat.le_refl _) (.int .i64 tj)).setCell (p := ⟨w.heap.size, 1, none⟩) (Nat.le_refl _) (.int .u64 lj)
  clear R0 R1 S0 hb hb0 W1 CG
  go_wp2
  exact bodyPost_ret (v := .agg #[.int .i64 tj, .int .u64 lj]) (by simp [results, Tryz.results90, go_sem, s0, s1]) rfl ⟨rfl, W5⟩

set_option maxHeartbeats 1000000 in
theorem vhold_nil (v : Int) (h0 : -170141183460469231731687303715884105728 ≤ v) (h1 : v ≤ 170141183460469231731687303715884105727) (w : World) :
    Calls Tryz.prog 117 #[.pointer none, .agg #[.int .i64 (hi (v)), .int .u64 (lo (v))]] w fun e w' => e = .returned (.int .i64 (clv v)) ∧ Below w.heap.size w w' := by
  obtain ⟨k0, k1⟩ := clv_fit v
  have CC : Hid (∀ W : World, Calls Tryz.prog 96 #[.agg #[.int .i64 (hi (v)), .int .u64 (lo (v))]] W fun e w' => e = .returned (.tuple #[.int .i64 (clv v), .bool (ovv v)]) ∧ Below W.heap.size W w') := fun W => clamp_any v h0 h1 W
  generalize clv v = x at *
  generalize ovv v = y at *
  go_enter Tryz.func117, Tryz.ntmps117
  go_wp2_with fail
  refine (CC.out _).mono ?_
  rintro e w1 ⟨rfl, hb⟩
  have W1 := bchain (bel1 w _) hb
  clear hb
  go_wp2_with fail
  refine (take_nil _ _ _).mono ?_
  rintro e w2 ⟨rfl, hz⟩
  subst hz
  clear CC
  go_wp2
  go_ret
  exact ⟨rfl, W1⟩

set_option maxHeartbeats 1000000 in
theorem vhold_un (v : Int) (h0 : -170141183460469231731687303715884105728 ≤ v) (h1 : v ≤ 170141183460469231731687303715884105727) (d : Nat) (n : Int) (n0 : 0 ≤ n) (n1 : n ≤ 1000000000) (w : World) (c : w.cell? ⟨d, 0, none⟩ = some (.int .i64 n)) (f : w.frozen? ⟨d, 0, none⟩ = false) :
    Calls Tryz.prog 117 #[.pointer (some ⟨d, 0, none⟩), .agg #[.int .i64 (hi (v)), .int .u64 (lo (v))]] w fun e w' => e = .returned (.int .i64 (clv v)) ∧ Un d (n + bi (ovv v)) w w' := by
  obtain ⟨k0, k1⟩ := clv_fit v
  have CC : Hid (∀ W : World, Calls Tryz.prog 96 #[.agg #[.int .i64 (hi (v)), .int .u64 (lo (v))]] W fun e w' => e = .returned (.tuple #[.int .i64 (clv v), .bool (ovv v)]) ∧ Below W.heap.size W w') := fun W => clamp_any v h0 h1 W
  generalize clv v = x at *
  generalize ovv v = y at *
  go_enter Tryz.func117, Tryz.ntmps117
  go_wp2_with fail
  refine (CC.out _).mono ?_
  rintro e w1 ⟨rfl, hb⟩
  have W1 := bchain (bel1 w _) hb
  clear hb
  have c1 := cell_later W1 c
  have f1 := frozen_later W1 c f
  go_wp2_with fail
  refine (take_un d n _ _ n0 n1 _ c1 f1).mono ?_
  rintro e w2 ⟨rfl, hU⟩
  have hV := Un.after W1 hU
  clear hU c1 f1 c f CC
  go_wp2
  go_ret
  exact ⟨rfl, hV⟩

theorem dotV_rng (va vb : Value) (n : Nat) (f g : Nat → Int) (hn : n ≤ 70000) (w : World) (hA : Ar w va n f) (hB : Ar w vb n g) : -3138550867693340381917894711603833208051177722232017256448 ≤ dotV f g n ∧ dotV f g n ≤ 3138550867693340381917894711603833208051177722232017256447 := by
  obtain ⟨_, _, _, _, _, _, _, _, h1⟩ := hA
  obtain ⟨_, _, _, _, _, _, _, _, h2⟩ := hB
  have key : ∀ k, k ≤ n → -((k : Int) * 85070591730234615865843651857942052864) ≤ dotV f g k ∧ dotV f g k ≤ (k : Int) * 85070591730234615865843651857942052864 := by
    intro k
    induction k with
    | zero => intro _; exact ⟨by simp [dotV], by simp [dotV]⟩
    | succ k ih =>
      intro hk
      obtain ⟨i0, i1⟩ := ih (by omega)
      obtain ⟨p0, p1⟩ := mul_in (f k) (g k) (h1 k (by omega)).2.1 (h1 k (by omega)).2.2 (h2 k (by omega)).2.1 (h2 k (by omega)).2.2
      have e : dotV f g (k + 1) = dotV f g k + f k * g k := rfl
      rw [e]
      generalize f k * g k = p at *
      constructor <;> omega
  obtain ⟨a, b⟩ := key n (Nat.le_refl _)
  constructor <;> omega
theorem sumV_small (va : Value) (n : Nat) (f : Nat → Int) (w : World) (hA : Ar w va n f) : -((n : Int) * 9223372036854775808) ≤ sumV f n ∧ sumV f n ≤ (n : Int) * 9223372036854775808 := by
  obtain ⟨_, _, _, _, _, _, _, _, h1⟩ := hA
  have key : ∀ k, k ≤ n → -((k : Int) * 9223372036854775808) ≤ sumV f k ∧ sumV f k ≤ (k : Int) * 9223372036854775808 := by
    intro k
    induction k with
    | zero => intro _; exact ⟨by simp [sumV], by simp [sumV]⟩
    | succ k ih =>
      intro hk
      obtain ⟨i0, i1⟩ := ih (by omega)
      have p0 := (h1 k (by omega)).2.1
      have p1 := (h1 k (by omega)).2.2
      have e : sumV f (k + 1) = sumV f k + f k := rfl
      rw [e]
      constructor <;> omega
  exact key n (Nat.le_refl _)
theorem sumV_rng (va : Value) (n : Nat) (f : Nat → Int) (hn : n ≤ 9223372036854775807) (w : World) (hA : Ar w va n f) : -170141183460469231731687303715884105728 ≤ sumV f n ∧ sumV f n ≤ 170141183460469231731687303715884105727 := by
  obtain ⟨a, b⟩ := sumV_small va n f w hA
  constructor <;> omega
set_option maxHeartbeats 1000000 in
theorem vdot_nil (va vb : Value) (n : Nat) (f g : Nat → Int) (hn : n ≤ 70000) (w : World) (hT : TabAt w) (hA : Ar w va n f) (hB : Ar w vb n g) :
    Calls Tryz.prog 135 #[.pointer none, va, vb] w fun e w' => e = .returned (.int .i64 (clv (rr (dotV f g n) 32))) ∧ Below w.heap.size w w' := by
  have CG : Hid (Calls Tryz.prog 155 #[va, vb] w fun e w' => e = .returned (.agg #[.int .i64 (t3 (dotV f g n)), .int .u64 (m3 (dotV f g n)), .int .u64 (lo (dotV f g n))]) ∧ Below w.heap.size w w') := products_any va vb n f g hn w hA hB
  obtain ⟨r0, r1⟩ := dotV_rng va vb n f g hn w hA hB
  have HN : Hid (∀ W : World, TabAt W → Calls Tryz.prog 103 #[.pointer none, .agg #[.int .i64 (t3 (dotV f g n)), .int .u64 (m3 (dotV f g n)), .int .u64 (lo (dotV f g n))], .int .i64 32] W fun e w' => e = .returned (.int .i64 (clv (rr (dotV f g n) 32))) ∧ Below W.heap.size W w') := fun W h => uNear_nil (dotV f g n) r0 r1 W h
  obtain ⟨k0, k1⟩ := clv_fit (rr (dotV f g n) 32)
  have HT : Hid (TabAt w) := hT
  obtain ⟨adr, cap, b, o, rfl, -, -, -, -⟩ := hA
  obtain ⟨adq, caq, bq, oq, rfl, -, -, -, -⟩ := hB
  clear hT r0 r1
  generalize clv (rr (dotV f g n) 32) = x at *
  generalize t3 (dotV f g n) = tj at *
  generalize m3 (dotV f g n) = mj at *
  generalize lo (dotV f g n) = lj at *
  go_enter Tryz.func135, Tryz.ntmps135
  go_wp2_with fail
  refine CG.out.mono ?_
  rintro e w1 ⟨rfl, W1⟩
  have T1 : Hid (TabAt w1) := HT.out.later W1
  clear CG HT
  go_wp2_with fail
  refine (HN.out _ T1.out).mono ?_
  rintro e w2 ⟨rfl, hb⟩
  have W2 := bchain W1 hb
  clear hb HN T1
  go_wp2
  go_ret
  exact ⟨rfl, W2⟩

set_option maxHeartbeats 1000000 in
theorem vdot_un (va vb : Value) (n : Nat) (f g : Nat → Int) (hn : n ≤ 70000) (d : Nat) (c : Int) (c0 : 0 ≤ c) (c1 : c ≤ 1000000000) (w : World) (hT : TabAt w) (hA : Ar w va n f) (hB : Ar w vb n g) (hc : w.cell? ⟨d, 0, none⟩ = some (.int .i64 c)) (hf : w.frozen? ⟨d, 0, none⟩ = false) :
    Calls Tryz.prog 135 #[.pointer (some ⟨d, 0, none⟩), va, vb] w fun e w' => e = .returned (.int .i64 (clv (rr (dotV f g n) 32))) ∧ Un d (c + bi (ovv (rr (dotV f g n) 32))) w w' := by
  have CG : Hid (Calls Tryz.prog 155 #[va, vb] w fun e w' => e = .returned (.agg #[.int .i64 (t3 (dotV f g n)), .int .u64 (m3 (dotV f g n)), .int .u64 (lo (dotV f g n))]) ∧ Below w.heap.size w w') := products_any va vb n f g hn w hA hB
  obtain ⟨r0, r1⟩ := dotV_rng va vb n f g hn w hA hB
  have HN : Hid (∀ W : World, TabAt W → W.cell? ⟨d, 0, none⟩ = some (.int .i64 c) → W.frozen? ⟨d, 0, none⟩ = false → Calls Tryz.prog 103 #[.pointer (some ⟨d, 0, none⟩), .agg #[.int .i64 (t3 (dotV f g n)), .int .u64 (m3 (dotV f g n)), .int .u64 (lo (dotV f g n))], .int .i64 32] W fun e w' => e = .returned (.int .i64 (clv (rr (dotV f g n) 32))) ∧ Un d (c + bi (ovv (rr (dotV f g n) 32))) W w') := fun W h hc hf => uNear_un (dotV f g n) r0 r1 d c c0 c1 W h hc hf
  obtain ⟨k0, k1⟩ := clv_fit (rr (dotV f g n) 32)
  have HT : Hid (TabAt w) := hT
  obtain ⟨adr, cap, b, o, rfl, -, -, -, -⟩ := hA
  obtain ⟨adq, caq, bq, oq, rfl, -, -, -, -⟩ := hB
  clear hT r0 r1
  generalize clv (rr (dotV f g n) 32) = x at *
  generalize bi (ovv (rr (dotV f g n) 32)) = z at *
  generalize t3 (dotV f g n) = tj at *
  generalize m3 (dotV f g n) = mj at *
  generalize lo (dotV f g n) = lj at *
  go_enter Tryz.func135, Tryz.ntmps135
  go_wp2_with fail
  refine CG.out.mono ?_
  rintro e w1 ⟨rfl, W1⟩
  have T1 : Hid (TabAt w1) := HT.out.later W1
  have x1 := cell_later W1 hc
  have y1 := frozen_later W1 hc hf
  clear CG HT
  go_wp2_with fail
  refine (HN.out _ T1.out x1 y1).mono ?_
  rintro e w2 ⟨rfl, hU⟩
  have hV := Un.after W1 hU
  clear hU HN T1 x1 y1 hc hf
  go_wp2
  go_ret
  exact ⟨rfl, hV⟩

end Go.Proofs.YtdfjnbkkdgolnaaGreatDoor
