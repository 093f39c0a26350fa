/-
  The document's sum (regattaref11): Of, Over.
-/
import Derived.Test.YtghbmokhilfjcaaDoorCRefC
import Derived.Test.YtghbmokhilfjcaaDoorCRefB
set_option linter.unusedVariables false
set_option linter.unusedSimpArgs false
namespace Go.Proofs.YtghbmokhilfjcaaDoor
open Go.RowKit

theorem tail_num (f : Nat → Nat) (hf : ∀ k, f k < 2) (g N cap : Nat) (w : World) (hr : Rw g (N + 32) (nt (lF f N)) w) (h1 : N + 32 ≤ cap) (h2 : cap ≤ maxLen) : Ls w (.slice (some ⟨g, N, none⟩) 32 (cap - N)) 32 (nt (fun k => ((lR f N).testBit k).toNat)) := by
  refine (hr.ls N 32 (cap - N) (Nat.le_refl _) (by omega) (by omega)).congr (fun k hk => ?_)
  unfold nt lF
  rw [if_neg (by omega), if_pos (by omega), Nat.add_sub_cancel_left]
/-- So many of the first coefficients are turned. -/
def tF (t : Nat → Nat) (N m : Nat) : Nat → Nat := fun k => if k < m then 1 - oT t N k else oT t N k
theorem tF_lt (t : Nat → Nat) (ht : ∀ k, t k < 2) (N m k : Nat) : tF t N m k < 2 := by
  have := oT_lt t ht N k
  unfold tF
  split <;> omega
theorem tF_step (t : Nat → Nat) (N m k : Nat) : (if k = m then 1 - tF t N m m else tF t N m k) = tF t N (m + 1) k := by
  unfold tF
  by_cases e : k = m
  · subst e
    rw [if_pos rfl, if_neg (by omega), if_pos (by omega)]
  · rw [if_neg e]
    by_cases h : k < m
    · rw [if_pos h, if_pos (by omega)]
    · rw [if_neg h, if_neg (by omega)]
set_option maxRecDepth 100000 in
set_option maxHeartbeats 8000000 in
theorem refOf (v : Value) (n : Nat) (f : Nat → Nat) (hn : n ≤ 100000) (hf : ∀ k, f k < 256) (w : World) (hl : Ls w v n (by8 f)) (hP : PwAt w) :
    Calls Tryd.prog 11 #[v] w fun e w' => e = .returned (.int .u32 ((4294967295 - cR (cBt f) 4294967295 (8 * n) : Nat) : Int)) ∧ Below w.heap.size w w' := by
  obtain ⟨i0, hti, hi0, hi1, hi2⟩ := info_parts dinfo_int
  have CB : Hid (Calls Tryd.prog 17 #[v] w fun e w' => ∃ v', e = .returned v' ∧ Ls w' v' (8 * n) (nt (cBt f)) ∧ w'.ownsRow w.heap.size 3 1 v' (8 * n) (vl (nt (cBt f)) (8 * n)) ∧ Below w.heap.size w w') := refBits v n f hn hf w hl
  obtain ⟨ad, cap, rfl, l1, l2⟩ := hl.len
  have ht : ∀ k, cBt f k < 2 := cBt_lt f
  generalize cBt f = t at *
  obtain ⟨N, hN⟩ : ∃ N, 8 * n = N := ⟨_, rfl⟩
  rw [hN] at CB ⊢
  have hN1 : N ≤ 800000 := by omega
  have hrt := cR_lt t 4294967295 (by omega) ht N
  have hpw : 1 < w.heap.size := World.block_lt_of_cell? _ _ (hP 0 (by omega))
  have HP : Hid (PwAt w) := hP
  have HEnd : Hid (lR (oF t N) N = cR t 4294967295 N ∧ cN (fun k => ((lR (oF t N) N).testBit k).toNat) 0 32 = lR (oF t N) N) := ⟨lR_of t ht N, cN_bits 32 _ (lR_lt _ (oF_lt t ht N) N)⟩
  clear hl hN hP
  go_enter Tryd.func11, Tryd.ntmps11
  go_wp2_with fail
  refine CB.out.mono ?_
  rintro e w1 ⟨v1, rfl, hL, hown, hb⟩
  have HB1 : Hid (Below w.heap.size w w1) := hb
  have HO1 : Hid (w1.ownsRow w.heap.size 3 1 v1 (N + 0) (vl (nt (oT t N)) (N + 0))) := by
    show w1.ownsRow w.heap.size 3 1 v1 N (vl (nt (oT t N)) N)
    rw [vl_congr (nt (oT t N)) (nt t) N (fun k hk => by unfold nt oT; rw [if_pos hk])]
    exact hown
  obtain ⟨ad1, cap1, rfl, m1, m2⟩ := hL.len
  clear hL hown hb CB
  go_upto_region 3 with fail
  go_loopw [3, 4] (fun s3 s4 wr => ∃ k : Nat, k ≤ 32 ∧ s4 = .int .i64 (k : Int) ∧ wr.ownsRow w.heap.size 3 1 s3 (N + k) (vl (nt (oT t N)) (N + k)) ∧ Hid (Below w.heap.size w wr)) (fun _ s4 _ => 32 - (intOf s4).toNat)
  case atStart => exact ⟨0, by omega, rfl, HO1.out, HB1⟩
  case round =>
    clear HO1 HB1
    obtain ⟨k, hk, rfl, hown, HW⟩ := hrel
    by_cases hk2 : k < 32
    · have hkI : (k : Int) < 32 := by omega
      have HO : Hid (wr.ownsRow w.heap.size 3 1 u3 (N + k) (vl (nt (oT t N)) (N + k))) := hown
      have hsz := HW.out.size
      have HZ : Hid (nt (oT t N) (N + k) = .int .i64 0) := by
        show Value.int .i64 ((oT t N (N + k) : Nat) : Int) = _
        unfold oT
        rw [if_neg (by omega)]
        rfl
      go_wp2_with (at_builtin; refine wpList_append_own _ rfl _ _ 42 rfl w.heap.size 3 i0 (.int .i64 0) 1 8 Tryd.underlying42 hti hi0 hi1 hi2 rfl (by decide) _ _ _ rfl (hown.alloc _) ⟨wr.heap.size, 0, none⟩ 1 1 [.int .i64 0] rfl rfl (cell_one _ _ _ rfl) (ints_oneCell .i64 [0]) (by unfold maxLen; omega) (by omega) (by simp; omega) ?_; intro v' w3 hown' hgrow hnil)
      have hown3 : w3.ownsRow w.heap.size 3 1 v' (N + (k + 1)) (vl (nt (oT t N)) (N + (k + 1))) := by rw [← Nat.add_assoc, vl_succ, HZ.out]; exact hown'
      have HW3 : Hid (Below w.heap.size w w3) := below_grow HO.out HW.out hgrow
      clear hown' hgrow hnil hown HO HW
      go_wp2
      go_roundw
      case rel => exact ⟨k + 1, by omega, by go_num, hown3, HW3⟩
      case measure => simp [intOf]; omega
    · obtain rfl : k = 32 := by omega
      have hkI : ¬ ((32 : Nat) : Int) < 32 := by omega
      obtain ⟨g, cap2, rfl, hg, hc1, hc2, hrow⟩ := own_row hown (by omega)
      have HR0 : Hid (Rw g (N + 32) (nt (tF t N 0)) wr) := nt_congr hrow (fun k _ => by unfold tF; rw [if_neg (by omega)])
      have hgw := hrow.lt (by omega)
      clear hown hrow
      unfold maxLen at hc2
      obtain ⟨M, hM⟩ : ∃ M, N + 32 = M := ⟨_, rfl⟩
      have HM : Hid (N + 32 = M) := hM
      have hM1 : 32 ≤ M := by omega
      have hM2 : M ≤ 900000 := by omega
      rw [hM] at HR0 hc1 ⊢
      clear hM
      rename World => w4
      go_upto_region 7 with fail
      go_loopw [5] (fun s5 wr => ∃ k : Nat, k ≤ 32 ∧ s5 = .int .i64 (k : Int) ∧ Hid (Rw g M (nt (tF t N k)) wr ∧ Wr g w4 wr)) (fun s5 _ => 32 - (intOf s5).toNat)
      case atStart => exact ⟨0, by omega, rfl, ⟨HR0.out, Wr.same g w4⟩⟩
      case round =>
        clear HR0
        obtain ⟨k, hk, rfl, HR⟩ := hrel
        by_cases hk2 : k < 32
        · have hkI : (k : Int) < 32 := by omega
          have hck : wr.cell? ⟨g, k, none⟩ = some (.int .i64 ((tF t N k k : Nat) : Int)) := HR.out.1.c k (by omega)
          have hfk := HR.out.1.f k (by omega)
          have hlt2 := tF_lt t ht N k k
          have hone : (1 : Int) - ((tF t N k k : Nat) : Int) = ((1 - tF t N k k : Nat) : Int) := by omega
          have hkM : (k : Int) < (M : Int) := by omega
          have HR1 : Hid (Rw g M (nt (tF t N (k + 1))) (wr.setCell ⟨g, k, none⟩ (.int .i64 ((1 - tF t N k k : Nat) : Int))) ∧ Wr g w4 (wr.setCell ⟨g, k, none⟩ (.int .i64 ((1 - tF t N k k : Nat) : Int)))) := ⟨nt_congr (nt_set HR.out.1 k _) (fun q _ => tF_step t N k q), HR.out.2.set k _⟩
          generalize tF t N k k = y at *
          clear HR
          go_wp2
          go_roundw
          case rel => exact ⟨k + 1, by omega, by go_num, HR1⟩
          case measure => simp [intOf]; omega
        · obtain rfl : k = 32 := by omega
          have hkI : ¬ ((32 : Nat) : Int) < 32 := by omega
          have hgp : 1 ≠ g := by omega
          have HR2 : Hid (Rw g (N + 32) (nt (oF t N)) wr) := by show Rw _ _ _ _; rw [HM.out]; exact nt_congr HR.out.1 (fun q _ => rfl)
          have CL : Hid (Calls Tryd.prog 19 #[.slice (some ⟨g, 0, none⟩) M cap2] wr fun e w' => e = .returned (.slice (some ⟨g, N, none⟩) 32 (cap2 - N)) ∧ Rw g M (nt (lF (oF t N) N)) w' ∧ Wr g wr w') := by
            have h := refLeft g N cap2 (oF t N) (oF_lt t ht N) (by omega) wr HR2.out (by rw [HM.out]; exact hc1) (by unfold maxLen; omega) ((HP.out.later HW.out).wr HR.out.2 hgp) hgp
            rw [HM.out] at h
            exact h
          clear HR2
          go_wp2_with fail
          refine CL.out.mono ?_
          rintro e w5 ⟨rfl, hR5, hW5⟩
          have HB5 : Hid (Below w.heap.size w w5) := hW5.B _ _ hg (HR.out.2.B _ _ hg HW.out)
          have CN : Hid (Calls Tryd.prog 18 #[.slice (some ⟨g, N, none⟩) 32 (cap2 - N)] w5 fun e w' => e = .returned (.int .u32 ((cR t 4294967295 N : Nat) : Int)) ∧ w' = w5) := by
            have h := refNumber _ (fun k => ((lR (oF t N) N).testBit k).toNat) (fun k => Bool.toNat_lt _) w5 (tail_num (oF t N) (oF_lt t ht N) g N cap2 w5 (by rw [HM.out]; exact hR5) (by rw [HM.out]; exact hc1) (by unfold maxLen; omega))
            rw [HEnd.out.2, HEnd.out.1] at h
            exact h
          have hnot := not32 _ hrt
          clear CL hR5 hW5 HR HEnd
          go_wp2_with fail
          refine CN.out.mono ?_
          rintro e w6 ⟨rfl, rfl⟩
          clear CN
          go_wp2
          go_ret
          exact ⟨by first | rfl | rw [← hnot], HB5.out⟩
end Go.Proofs.YtghbmokhilfjcaaDoor
