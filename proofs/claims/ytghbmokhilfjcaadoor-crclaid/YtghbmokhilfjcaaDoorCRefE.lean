/-
  The document's sum (regattaref11): Over, Join.
-/
import Derived.Test.YtghbmokhilfjcaaDoorCRefD
set_option linter.unusedVariables false
set_option linter.unusedSimpArgs false
namespace Go.Proofs.YtghbmokhilfjcaaDoor
open Go.RowKit

set_option maxRecDepth 100000 in
set_option maxHeartbeats 8000000 in
theorem refOver (a n : Nat) (ha : a < 4294967296) (hn : n ≤ 100000) (w : World) (hP : PwAt w) :
    Calls Tryd.prog 15 #[.int .u32 (a : Int), .int .i64 (n : Int)] w fun e w' => e = .returned (.int .u32 ((cZs (8 * n) a : Nat) : Int)) ∧ Below w.heap.size w w' := by
  obtain ⟨i0, hti, hi0, hi1, hi2⟩ := info_parts dinfo_int
  obtain ⟨N, hN⟩ : ∃ N, 8 * n = N := ⟨_, rfl⟩
  rw [hN]
  have hN1 : N ≤ 800000 := by omega
  have hpw : 1 < w.heap.size := World.block_lt_of_cell? _ _ (hP 0 (by omega))
  have HP : Hid (PwAt w) := hP
  have HEnd : Hid (lR (aF a) N = cZs N a ∧ cN (fun k => ((lR (aF a) N).testBit k).toNat) 0 32 = lR (aF a) N) := ⟨lR_over a ha N, cN_bits 32 _ (lR_lt _ (aF_lt a) N)⟩
  have hNI : (8 : Int) * (n : Int) = (N : Int) := by omega
  have hwr : IntKind.i64.wrap (8 * (n : Int)) = (N : Int) := by rw [IntKind.wrap_i64]; omega
  clear hN hP
  go_enter Tryd.func15, Tryd.ntmps15
  go_upto_region 3 with fail
  go_loopw [5, 6] (fun s5 s6 wr => ∃ k : Nat, k ≤ 32 ∧ s6 = .int .i64 (k : Int) ∧ wr.ownsRow w.heap.size 3 1 s5 k (vl (nt (aF a)) k) ∧ Hid (Below w.heap.size w wr)) (fun _ s6 _ => 32 - (intOf s6).toNat)
  case atStart => exact ⟨0, by omega, rfl, World.ownsRow_nil _ _ _ _, Below.refl _ _⟩
  case round =>
    obtain ⟨k, hk, rfl, hown, HW⟩ := hrel
    by_cases hk2 : k < 32
    · have hkI : (k : Int) < 32 := by omega
      have HO : Hid (wr.ownsRow w.heap.size 3 1 u5 k (vl (nt (aF a)) k)) := hown
      have hsz := HW.out.size
      obtain ⟨y, hy⟩ : ∃ y : Nat, a / 2 ^ k % 2 = y := ⟨_, rfl⟩
      have hy2 : y < 2 := by rw [← hy]; exact Nat.mod_lt _ (by omega)
      have HZ : Hid (nt (aF a) k = .int .i64 (y : Int)) := by
        show Value.int .i64 ((aF a k : Nat) : Int) = _
        unfold aF
        rw [if_pos hk2, Nat.testBit_eq_decide_div_mod_eq, hy]
        have : y = 0 ∨ y = 1 := by omega
        rcases this with rfl | rfl <;> rfl
      have hbit : bits BinOp.and IntKind.u32 ((a : Int) / 2 ^ k) 1 = (y : Int) := by
        have h1 : ((a : Int) / 2 ^ k) = ((a / 2 ^ k : Nat) : Int) := by rw [Int.natCast_ediv, Int.natCast_pow]; rfl
        rw [h1, show (1 : Int) = ((1 : Nat) : Int) from rfl, and32 _ _ (Nat.lt_of_le_of_lt (Nat.div_le_self _ _) ha) (by omega), Nat.and_one_is_mod, hy]
      have hw64 : wrap64 (y : Int) = (y : Int) := by unfold wrap64; omega
      clear hy
      go_wp2_with (at_builtin; refine wpList_append_own _ rfl _ _ 42 rfl w.heap.size 3 i0 (.int .i64 0) 1 8 Tryd.underlying42 hti hi0 hi1 hi2 rfl (by decide) _ _ _ rfl (hown.alloc _) ⟨wr.heap.size, 0, none⟩ 1 1 [.int .i64 (y : Int)] rfl rfl (cell_one _ _ _ rfl) (ints_oneCell .i64 [(y : Int)]) (by unfold maxLen; omega) (by omega) (by simp; omega) ?_; intro v' w3 hown' hgrow hnil)
      have hown3 : w3.ownsRow w.heap.size 3 1 v' (k + 1) (vl (nt (aF a)) (k + 1)) := by rw [vl_succ, HZ.out]; exact hown'
      have HW3 : Hid (Below w.heap.size w w3) := below_grow HO.out HW.out hgrow
      clear hown' hgrow hnil hown HO HW
      go_wp2
      go_roundw
      case rel => exact ⟨k + 1, by omega, by go_num, hown3, HW3⟩
      case measure => simp [intOf]; omega
    · obtain rfl : k = 32 := by omega
      have hkI : ¬ ((32 : Nat) : Int) < 32 := by omega
      have HO0 : Hid (wr.ownsRow w.heap.size 3 1 u5 (32 + 0) (vl (nt (aF a)) (32 + 0))) := hown
      clear hown
      rename World => w4
      go_upto_region 7 with fail
      go_loopw [5, 7] (fun s5 s7 wr => ∃ k : Nat, k ≤ N ∧ s7 = .int .i64 (k : Int) ∧ wr.ownsRow w.heap.size 3 1 s5 (32 + k) (vl (nt (aF a)) (32 + k)) ∧ Hid (Below w.heap.size w wr)) (fun _ s7 _ => N - (intOf s7).toNat)
      case atStart => exact ⟨0, by omega, rfl, HO0.out, HW⟩
      case round =>
        clear HO0 HW
        obtain ⟨k, hk, rfl, hown, HW⟩ := hrel
        by_cases hk2 : k < N
        · have hkI : (k : Int) < (N : Int) := by omega
          have HO : Hid (wr.ownsRow w.heap.size 3 1 u5 (32 + k) (vl (nt (aF a)) (32 + k))) := hown
          have hsz := HW.out.size
          have HZ : Hid (nt (aF a) (32 + k) = .int .i64 0) := by
            show Value.int .i64 ((aF a (32 + k) : Nat) : Int) = _
            unfold aF
            rw [if_neg (by omega)]
            rfl
          go_wp2_with (at_builtin; refine wpList_append_own _ rfl _ _ 42 rfl w.heap.size 3 i0 (.int .i64 0) 1 8 Tryd.underlying42 hti hi0 hi1 hi2 rfl (by decide) _ _ _ rfl (hown.alloc _) ⟨wr.heap.size, 0, none⟩ 1 1 [.int .i64 0] rfl rfl (cell_one _ _ _ rfl) (ints_oneCell .i64 [0]) (by unfold maxLen; omega) (by omega) (by simp; omega) ?_; intro v' w3 hown' hgrow hnil)
          have hown3 : w3.ownsRow w.heap.size 3 1 v' (32 + (k + 1)) (vl (nt (aF a)) (32 + (k + 1))) := by rw [← Nat.add_assoc, vl_succ, HZ.out]; exact hown'
          have HW3 : Hid (Below w.heap.size w w3) := below_grow HO.out HW.out hgrow
          clear hown' hgrow hnil hown HO HW
          go_wp2
          go_roundw
          case rel => exact ⟨k + 1, by omega, by go_num, hown3, HW3⟩
          case measure => simp [intOf]; omega
        · obtain rfl : k = N := by omega
          have hkI : ¬ (k : Int) < (k : Int) := by omega
          obtain ⟨g, cap2, rfl, hg, hc1, hc2, hrow⟩ := own_row hown (by omega)
          have hgw := hrow.lt (by omega)
          have hgp : 1 ≠ g := by omega
          have CL : Hid (Calls Tryd.prog 19 #[.slice (some ⟨g, 0, none⟩) (32 + k) cap2] wr fun e w' => e = .returned (.slice (some ⟨g, k, none⟩) 32 (cap2 - k)) ∧ Rw g (k + 32) (nt (lF (aF a) k)) w' ∧ Wr g wr w') := by
            have h := refLeft g k cap2 (aF a) (aF_lt a) (by omega) wr (by rw [Nat.add_comm k 32]; exact hrow) (by omega) hc2 (HP.out.later HW.out) hgp
            rw [Nat.add_comm k 32] at h ⊢
            exact h
          clear hown hrow
          unfold maxLen at hc2
          go_wp2_with fail
          refine CL.out.mono ?_
          rintro e w5 ⟨rfl, hR5, hW5⟩
          have HB5 : Hid (Below w.heap.size w w5) := hW5.B _ _ hg HW.out
          have CN : Hid (Calls Tryd.prog 18 #[.slice (some ⟨g, k, none⟩) 32 (cap2 - k)] w5 fun e w' => e = .returned (.int .u32 ((cZs k a : Nat) : Int)) ∧ w' = w5) := by
            have h := refNumber _ (fun q => ((lR (aF a) k).testBit q).toNat) (fun q => Bool.toNat_lt _) w5 (tail_num (aF a) (aF_lt a) g k cap2 w5 hR5 (by omega) (by unfold maxLen; omega))
            rw [HEnd.out.2, HEnd.out.1] at h
            exact h
          clear CL hR5 hW5 HEnd
          go_wp2_with fail
          refine CN.out.mono ?_
          rintro e w6 ⟨rfl, rfl⟩
          clear CN
          go_wp2
          go_ret
          exact ⟨rfl, HB5.out⟩
end Go.Proofs.YtghbmokhilfjcaaDoor
