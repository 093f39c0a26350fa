/-
  The document's sum (regattaref11): number, bits.
-/
import Derived.Test.YtfcbgkcclganmaaDoorCBase
set_option linter.unusedVariables false
set_option linter.unusedSimpArgs false
namespace Go.Proofs.YtfcbgkcclganmaaDoor
open Go.RowKit

set_option maxRecDepth 100000 in
set_option maxHeartbeats 4000000 in
theorem refBits (v : Value) (n : Nat) (f : Nat → Nat) (hn : n ≤ 100000) (hf : ∀ k, f k < 256) (w : World) (hl : Ls w v n (by8 f)) :
    Calls Tryd.prog 54 #[v] w fun e w' => ∃ v', e = .returned v' ∧ Ls w' v' (8 * n) (nt (cBt f)) ∧ w'.ownsRow w.heap.size 3 1 v' (8 * n) (vl (nt (cBt f)) (8 * n)) ∧ Below w.heap.size w w' := by
  obtain ⟨i0, hti, hi0, hi1, hi2⟩ := info_parts dinfo_int
  have HL : Hid (Ls w v n (by8 f)) := hl
  obtain ⟨ad, cap, rfl, l1, l2⟩ := hl.len
  unfold maxLen at l2
  clear hl
  go_enter Tryd.func54, Tryd.ntmps54
  go_upto_region 3 with fail
  go_loopw [3, 4] (fun s3 s4 wr => ∃ j : Nat, j ≤ n ∧ s4 = .int .i64 (j : Int) ∧ wr.ownsRow w.heap.size 3 1 s3 (8 * j) (vl (nt (cBt f)) (8 * j)) ∧ Hid (Below w.heap.size w wr)) (fun _ s4 _ => n - (intOf s4).toNat)
  case atStart => exact ⟨0, by omega, rfl, World.ownsRow_nil _ _ _ _, Below.refl _ _⟩
  case round =>
    obtain ⟨j, hj, rfl, hown, HW⟩ := hrel
    by_cases hlt : j < n
    · have hjI : (j : Int) < (n : Int) := by omega
      have HO : Hid (wr.ownsRow w.heap.size 3 1 u3 (8 * j) (vl (nt (cBt f)) (8 * j))) := hown
      clear hown
      rename World => wo
      go_upto_region 6 with fail
      go_loopw [3, 5] (fun s3 s5 wr => ∃ k : Nat, k ≤ 8 ∧ s5 = .int .i64 (k : Int) ∧ wr.ownsRow w.heap.size 3 1 s3 (8 * j + k) (vl (nt (cBt f)) (8 * j + k)) ∧ Hid (Below w.heap.size w wr)) (fun _ s5 _ => 8 - (intOf s5).toNat)
      case atStart => exact ⟨0, by omega, rfl, HO.out, HW⟩
      case round =>
        clear HO HW
        obtain ⟨k, hk, rfl, hown, HW⟩ := hrel
        by_cases hk8 : k < 8
        · have hkI : (k : Int) < 8 := by omega
          obtain ⟨b, o, cp, e1, hc⟩ := (HL.out.later HW.out).spot j hlt
          cases e1
          have hc' : wr.cell? ⟨b, o + j, none⟩ = some (.int .u8 ((f j : Nat) : Int)) := hc
          have hfj := hf j
          have HB : Hid (nt (cBt f) (8 * j + k) = .int .i64 ((f j / 2 ^ k % 2 : Nat) : Int)) := by
            show Value.int .i64 ((cBt f (8 * j + k) : Nat) : Int) = _
            unfold cBt
            rw [show (8 * j + k) / 8 = j by omega, show (8 * j + k) % 8 = k by omega]
          obtain ⟨y, hy⟩ : ∃ y : Nat, f j / 2 ^ k % 2 = y := ⟨_, rfl⟩
          have hy2 : y < 2 := by rw [← hy]; exact Nat.mod_lt _ (by omega)
          have hbit : bits BinOp.and IntKind.u8 (((f j : Nat) : Int) / 2 ^ k) 1 = (y : Int) := by
            have h1 : (((f j : Nat) : Int) / 2 ^ k) = ((f j / 2 ^ k : Nat) : Int) := by rw [Int.natCast_ediv, Int.natCast_pow]; rfl
            rw [h1, show (1 : Int) = ((1 : Nat) : Int) from rfl, and8 _ _ (Nat.lt_of_le_of_lt (Nat.div_le_self _ _) hfj) (by omega), Nat.and_one_is_mod, hy]
          have hw64 : wrap64 (y : Int) = (y : Int) := by unfold wrap64; omega
          rw [hy] at HB
          have HO : Hid (wr.ownsRow w.heap.size 3 1 u3 (8 * j + k) (vl (nt (cBt f)) (8 * j + k))) := hown
          have hsz := HW.out.size
          clear hc hy
          go_wp2_with (at_builtin; refine wpList_append_own _ rfl _ _ 88 rfl w.heap.size 3 i0 (.int .i64 0) 1 8 Tryd.underlying88 hti hi0 hi1 hi2 rfl (by decide) _ _ _ rfl (hown.alloc _) ⟨wr.heap.size, 0, none⟩ 1 1 [.int .i64 (y : Int)] rfl rfl (cell_one _ _ _ rfl) (ints_oneCell .i64 [(y : Int)]) (by unfold maxLen; omega) (by omega) (by simp; omega) ?_; intro v' w3 hown' hgrow hnil)
          have hown3 : w3.ownsRow w.heap.size 3 1 v' (8 * j + (k + 1)) (vl (nt (cBt f)) (8 * j + (k + 1))) := by rw [← Nat.add_assoc, vl_succ, HB.out]; exact hown'
          have HW3 : Hid (Below w.heap.size w w3) := below_grow HO.out HW.out hgrow
          clear hown' hgrow hnil hown HO HW
          go_wp2
          go_roundw
          case rel => exact ⟨k + 1, by omega, by go_num, hown3, HW3⟩
          case measure => simp [intOf]; omega
        · obtain rfl : k = 8 := by omega
          have hkI : ¬ ((8 : Nat) : Int) < 8 := by omega
          have HO : Hid (wr.ownsRow w.heap.size 3 1 u3 (8 * (j + 1)) (vl (nt (cBt f)) (8 * (j + 1)))) := by rw [show 8 * (j + 1) = 8 * j + 8 by omega]; exact hown
          clear hown
          go_wp2
          go_roundw
          case rel => exact ⟨j + 1, by omega, by go_num, HO.out, HW⟩
          case measure => simp [intOf]; omega
    · obtain rfl : j = n := by omega
      have hjI : ¬ (j : Int) < (j : Int) := by omega
      have HO : Hid (wr.ownsRow w.heap.size 3 1 u3 (8 * j) (vl (nt (cBt f)) (8 * j))) := hown
      clear hown
      go_wp2
      go_ret
      exact ⟨_, rfl, (ls_of_own HO.out).1, HO.out, HW.out⟩
end Go.Proofs.YtfcbgkcclganmaaDoor
