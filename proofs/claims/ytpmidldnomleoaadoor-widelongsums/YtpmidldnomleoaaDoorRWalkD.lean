/-
  Contracts of regattaref01's Add and Neg.
-/
import Derived.Test.YtpmidldnomleoaaDoorRWalkC
set_option linter.unusedVariables false
set_option linter.unusedSimpArgs false
namespace Go.Proofs.YtpmidldnomleoaaDoor
open Go.RowKit

theorem mod_succ (a : Int) (k : Nat) : a % 2 ^ (k + 1) = a / 2 ^ k % 2 * 2 ^ k + a % 2 ^ k := by
  have hp := pow_pos' k
  have h1 := Int.mul_ediv_add_emod a (2 ^ k)
  have h2 := Int.mul_ediv_add_emod (a / 2 ^ k) 2
  have m0 := Int.emod_nonneg a (show (2 : Int) ^ k ≠ 0 by omega)
  have m1 := Int.emod_lt_of_pos a (show (0 : Int) < 2 ^ k by omega)
  have e2 := pow_two k
  have e : a = (a / 2 ^ k % 2 * 2 ^ k + a % 2 ^ k) + 2 ^ (k + 1) * (a / 2 ^ k / 2) := by
    have e3 : 2 ^ k * (a / 2 ^ k) = 2 ^ (k + 1) * (a / 2 ^ k / 2) + a / 2 ^ k % 2 * 2 ^ k := by
      rw [Int.pow_succ, Int.mul_assoc, Int.mul_comm (a / 2 ^ k % 2), ← Int.mul_add, h2]
    omega
  have b0 : 0 ≤ a / 2 ^ k % 2 * 2 ^ k := Int.mul_nonneg (by omega) (by omega)
  have b1 : a / 2 ^ k % 2 * 2 ^ k ≤ 2 ^ k := by
    have := Int.mul_le_mul_of_nonneg_right (show a / 2 ^ k % 2 ≤ 1 by omega) (show 0 ≤ (2 : Int) ^ k by omega)
    omega
  have e4 : (a / 2 ^ k % 2 * 2 ^ k + a % 2 ^ k) % 2 ^ (k + 1) = a / 2 ^ k % 2 * 2 ^ k + a % 2 ^ k := Int.emod_eq_of_lt (by omega) (by omega)
  have e5 : a % 2 ^ (k + 1) = ((a / 2 ^ k % 2 * 2 ^ k + a % 2 ^ k) + 2 ^ (k + 1) * (a / 2 ^ k / 2)) % 2 ^ (k + 1) := congrArg (· % 2 ^ (k + 1)) e
  rw [e5, Int.add_mul_emod_self_left, e4]
theorem not_bit (a : Int) (k : Nat) : (-a - 1) / 2 ^ k % 2 = 1 - a / 2 ^ k % 2 := by
  have hp := pow_pos' k
  have h1 := Int.mul_ediv_add_emod a (2 ^ k)
  have m0 := Int.emod_nonneg a (show (2 : Int) ^ k ≠ 0 by omega)
  have m1 := Int.emod_lt_of_pos a (show (0 : Int) < 2 ^ k by omega)
  have e : -a - 1 = (2 ^ k - 1 - a % 2 ^ k) + 2 ^ k * (-(a / 2 ^ k) - 1) := by rw [Int.mul_sub, Int.mul_neg]; omega
  rw [e, Int.add_mul_ediv_left _ _ (by omega), Int.ediv_eq_zero_of_lt (by omega) (by omega)]
  omega
/-- The carry into bit k. -/
def cy (a b : Int) (k : Nat) : Int := (a % 2 ^ k + b % 2 ^ k) / 2 ^ k
theorem cy_01 (a b : Int) (k : Nat) : 0 ≤ cy a b k ∧ cy a b k ≤ 1 := by
  have hp := pow_pos' k
  have m0 := Int.emod_nonneg a (show (2 : Int) ^ k ≠ 0 by omega)
  have m1 := Int.emod_lt_of_pos a (show (0 : Int) < 2 ^ k by omega)
  have n0 := Int.emod_nonneg b (show (2 : Int) ^ k ≠ 0 by omega)
  have n1 := Int.emod_lt_of_pos b (show (0 : Int) < 2 ^ k by omega)
  unfold cy
  have : (a % 2 ^ k + b % 2 ^ k) / 2 ^ k < 2 := Int.ediv_lt_of_lt_mul (by omega) (by omega)
  have : 0 ≤ (a % 2 ^ k + b % 2 ^ k) / 2 ^ k := Int.ediv_nonneg (by omega) (by omega)
  omega
theorem cy_zero (a b : Int) : cy a b 0 = 0 := by unfold cy; rw [Int.pow_zero, Int.emod_one, Int.emod_one]; rfl
theorem add_bit (a b : Int) (k : Nat) : (a + b) / 2 ^ k % 2 = (a / 2 ^ k % 2 + b / 2 ^ k % 2 + cy a b k) % 2 := by
  have hp := pow_pos' k
  have h1 := Int.mul_ediv_add_emod a (2 ^ k)
  have h2 := Int.mul_ediv_add_emod b (2 ^ k)
  have e : a + b = (a % 2 ^ k + b % 2 ^ k) + 2 ^ k * (a / 2 ^ k + b / 2 ^ k) := by rw [Int.mul_add]; omega
  have e2 : (a + b) / 2 ^ k = cy a b k + (a / 2 ^ k + b / 2 ^ k) := by
    rw [e, Int.add_mul_ediv_left _ _ (by omega)]; rfl
  rw [e2]
  omega
theorem cy_succ (a b : Int) (k : Nat) : cy a b (k + 1) = (a / 2 ^ k % 2 + b / 2 ^ k % 2 + cy a b k) / 2 := by
  have hp := pow_pos' k
  unfold cy
  rw [mod_succ a k, mod_succ b k]
  have e : a / 2 ^ k % 2 * 2 ^ k + a % 2 ^ k + (b / 2 ^ k % 2 * 2 ^ k + b % 2 ^ k) = (a % 2 ^ k + b % 2 ^ k) + 2 ^ k * (a / 2 ^ k % 2 + b / 2 ^ k % 2) := by
    rw [Int.mul_add, Int.mul_comm (2 ^ k), Int.mul_comm (2 ^ k)]; omega
  rw [e, Int.pow_succ, ← Int.ediv_ediv_of_nonneg (by omega), Int.add_mul_ediv_left _ _ (by omega), Int.add_comm]

set_option maxHeartbeats 1000000 in
theorem radd_any (va vb : Value) (m : Nat) (a b : Int) (m0 : 1 ≤ m) (hm : m ≤ 1000) (w : World) (hA : Bt w va m a) (hB : Bt w vb m b) :
    Calls Tryd.prog 8 #[va, vb] w fun e w' => ∃ v, e = .returned v ∧ w'.ownsRow w.heap.size 3 1 v m ((bl m (a + b)).map (Value.int .i64)) ∧ Below w.heap.size w w' := by
  obtain ⟨i0, hi, hz0, hz1, hz2⟩ := info_parts info_int
  obtain ⟨g1, cap1, rfl, p1, p2, ha⟩ := hA
  obtain ⟨g2, cap2, rfl, p3, p4, hb⟩ := hB
  unfold maxLen at p2 p4
  have HA : Hid (∀ k, k < m → w.cell? ⟨g1, k, none⟩ = some (.int .i64 (a / 2 ^ k % 2))) := ha
  have HB : Hid (∀ k, k < m → w.cell? ⟨g2, k, none⟩ = some (.int .i64 (b / 2 ^ k % 2))) := hb
  clear ha hb
  go_enter Tryd.func8, Tryd.ntmps8
  go_wp2
  go_loopw [5, 6, 7] (fun v c i wr => ∃ k : Nat, k ≤ m ∧ i = .int .i64 k ∧ c = .int .i64 (cy a b k) ∧ wr.ownsRow w.heap.size 3 1 v k ((bl k (a + b)).map (Value.int .i64)) ∧ Below w.heap.size w wr) (fun _ _ i _ => m - (intOf i).toNat)
  case atStart => exact ⟨0, Nat.zero_le _, rfl, by rw [cy_zero], World.ownsRow_nil _ _ _ _, Below.refl _ _⟩
  case round =>
    obtain ⟨k, hk, rfl, rfl, hown, hW⟩ := hrel
    by_cases hlt : k < m
    · have ha := (hW.cell (World.block_lt_of_cell? _ _ (HA.out k hlt))).trans (HA.out k hlt)
      have hb := (hW.cell (World.block_lt_of_cell? _ _ (HB.out k hlt))).trans (HB.out k hlt)
      obtain ⟨y0, y1⟩ := cy_01 a b k
      have ab1 := add_bit a b k
      have cs1 := cy_succ a b k
      have x0 : 0 ≤ a / 2 ^ k % 2 ∧ a / 2 ^ k % 2 ≤ 1 := by omega
      have x1 : 0 ≤ b / 2 ^ k % 2 ∧ b / 2 ^ k % 2 ≤ 1 := by omega
      obtain ⟨x00, x01⟩ := x0
      obtain ⟨x10, x11⟩ := x1
      generalize a / 2 ^ k % 2 = x at *
      generalize b / 2 ^ k % 2 = y at *
      generalize cy a b k = c at *
      have HZ : Hid ((x + y + c) % 2 = (a + b) / 2 ^ k % 2) := ab1.symm
      have HCS : Hid (cy a b (k + 1) = (x + y + c) / 2) := cs1
      have h0I : (0 : Int) ≤ (k : Int) := by omega
      have hltI : (k : Int) < (m : Int) := by omega
      clear ab1 cs1
      go_wp2_with fail
      go_quiet (fail)
      have hb0 : Below wr.heap.size wr (wr.drewN nq) := below_drewN (Below.refl _ _) nq
      have hownq := own_later hown hb0
      have hWq := bchain hW hb0
      clear hown hW hb0 ha hb
      generalize wr.drewN nq = wq at *
      go_wp2_with (at_builtin; refine wpList_append_own _ rfl _ _ 27 rfl w.heap.size 3 i0 (.int .i64 0) 1 8 Tryd.underlying27 hi hz0 hz1 hz2 rfl (by decide) _ _ _ rfl (hownq.alloc _) ⟨wq.heap.size, 0, none⟩ 1 1 [.int .i64 ((x + y + c) % 2)] rfl rfl (cell_one_new _ _ _) (ints_oneCell .i64 [(x + y + c) % 2]) (by unfold maxLen; omega) (by omega) (by have := hWq.size; simp; omega) ?_; intro v' w1 hown' hgrow hnil)
      have hown3 : w1.ownsRow w.heap.size 3 1 v' (k + 1) ((bl (k + 1) (a + b)).map (Value.int .i64)) := by rw [← snoc_bits k (a + b) _ HZ.out]; exact hown'
      have hW3 : Below w.heap.size w w1 := below_grown hownq hWq hgrow
      clear hown' hgrow hnil hownq hWq
      go_wp2
      go_roundw
      case rel => exact ⟨k + 1, by omega, by go_num, by rw [HCS.out], hown3, hW3⟩
      case measure => simp [intOf]; omega
    · have ek : k = m := by omega
      subst ek
      go_wp2
      go_ret
      exact ⟨_, rfl, hown, hW⟩

theorem bt_own {w : World} {v : Value} {m : Nat} {a : Int} {base : Nat} (h : w.ownsRow base 3 1 v m ((bl m a).map (Value.int .i64))) (m0 : 1 ≤ m) : Bt w v m a := Bt.of_own h (by omega)

set_option maxHeartbeats 1000000 in
theorem rneg_any (va : Value) (m : Nat) (a : Int) (m0 : 1 ≤ m) (hm : m ≤ 1000) (w : World) (hA : Bt w va m a) :
    Calls Tryd.prog 30 #[va] w fun e w' => ∃ v, e = .returned v ∧ w'.ownsRow w.heap.size 3 1 v m ((bl m (-a)).map (Value.int .i64)) ∧ Below w.heap.size w w' := by
  obtain ⟨i0, hi, hz0, hz1, hz2⟩ := info_parts info_int
  obtain ⟨g1, cap1, rfl, p1, p2, ha⟩ := hA
  unfold maxLen at p2
  have HA : Hid (∀ k, k < m → w.cell? ⟨g1, k, none⟩ = some (.int .i64 (a / 2 ^ k % 2))) := ha
  clear ha
  go_enter Tryd.func30, Tryd.ntmps30
  go_wp2
  go_loopw [3, 4] (fun v i wr => ∃ k : Nat, k ≤ m ∧ i = .int .i64 k ∧ wr.ownsRow w.heap.size 3 1 v k ((bl k (-a - 1)).map (Value.int .i64)) ∧ Below w.heap.size w wr) (fun _ i _ => m - (intOf i).toNat)
  case atStart => exact ⟨0, Nat.zero_le _, rfl, World.ownsRow_nil _ _ _ _, Below.refl _ _⟩
  case round =>
    obtain ⟨k, hk, rfl, hown, hW⟩ := hrel
    by_cases hlt : k < m
    · have ha := (hW.cell (World.block_lt_of_cell? _ _ (HA.out k hlt))).trans (HA.out k hlt)
      have nb := not_bit a k
      have x0 : 0 ≤ a / 2 ^ k % 2 ∧ a / 2 ^ k % 2 ≤ 1 := by omega
      obtain ⟨x00, x01⟩ := x0
      generalize a / 2 ^ k % 2 = x at *
      have HZ : Hid (1 - x = (-a - 1) / 2 ^ k % 2) := nb.symm
      have h0I : (0 : Int) ≤ (k : Int) := by omega
      have hltI : (k : Int) < (m : Int) := by omega
      clear nb
      go_wp2_with (at_builtin; refine wpList_append_own _ rfl _ _ 27 rfl w.heap.size 3 i0 (.int .i64 0) 1 8 Tryd.underlying27 hi hz0 hz1 hz2 rfl (by decide) _ _ _ rfl (hown.alloc _) ⟨wr.heap.size, 0, none⟩ 1 1 [.int .i64 (1 - x)] rfl rfl (cell_one_new _ _ _) (ints_oneCell .i64 [1 - x]) (by unfold maxLen; omega) (by omega) (by have := hW.size; simp; omega) ?_; intro v' w1 hown' hgrow hnil)
      have hown3 : w1.ownsRow w.heap.size 3 1 v' (k + 1) ((bl (k + 1) (-a - 1)).map (Value.int .i64)) := by rw [← snoc_bits k (-a - 1) _ HZ.out]; exact hown'
      have hW3 : Below w.heap.size w w1 := below_grown hown hW hgrow
      clear hown' hgrow hnil hown hW ha
      go_wp2
      go_roundw
      case rel => exact ⟨k + 1, by omega, by go_num, hown3, hW3⟩
      case measure => simp [intOf]; omega
    · have ek : k = m := by omega
      subst ek
      go_wp2_with fail
      refine (int_any 1 k (by omega) (by omega) hm _).mono ?_
      rintro e w2 ⟨v2, rfl, hown2, hb2⟩
      have A1 := (bt_own hown m0).later hb2
      have A2 := bt_own hown2 m0
      have W2 := bchain hW hb2
      clear hown hown2 hb2 hW
      go_wp2_with fail
      refine (radd_any _ _ k _ _ m0 hm _ A1 A2).mono ?_
      rintro e w3 ⟨v3, rfl, hown3, hb3⟩
      rw [show -a - 1 + 1 = -a by omega] at hown3
      have W3 := bchain W2 hb3
      have O3 := own_base hown3 W2.size
      clear hown3 hb3 W2 A1 A2
      go_wp2
      go_ret
      exact ⟨_, rfl, O3, W3⟩
end Go.Proofs.YtpmidldnomleoaaDoor
