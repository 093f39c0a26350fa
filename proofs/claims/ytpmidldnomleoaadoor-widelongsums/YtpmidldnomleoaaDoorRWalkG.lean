/-
  Contracts of regattaref01's Shl, Shr, Wider, Size.
-/
import Derived.Test.YtpmidldnomleoaaDoorRWalkE
set_option linter.unusedVariables false
set_option linter.unusedSimpArgs false
namespace Go.Proofs.YtpmidldnomleoaaDoor
open Go.RowKit

theorem shl_bit0 (a : Int) (n k : Nat) (h : k < n) : a * 2 ^ n / 2 ^ k % 2 = 0 := by
  have hp := pow_pos' k
  rw [show (2 : Int) ^ n = 2 ^ (n - k) * 2 ^ k by rw [← Int.pow_add]; congr 1; omega, ← Int.mul_assoc, Int.mul_ediv_cancel _ (by omega), show n - k = n - k - 1 + 1 by omega, Int.pow_succ, ← Int.mul_assoc, Int.mul_emod_left]
theorem shl_bit1 (a : Int) (n k : Nat) (h : n ≤ k) : a * 2 ^ n / 2 ^ k % 2 = a / 2 ^ (k - n) % 2 := by
  have hp := pow_pos' n
  have hq := pow_pos' (k - n)
  rw [show (2 : Int) ^ k = 2 ^ (k - n) * 2 ^ n by rw [← Int.pow_add]; congr 1; omega, Int.mul_ediv_mul_of_pos_left _ _ (by omega)]
theorem shr_bit (a : Int) (n k : Nat) : a / 2 ^ n / 2 ^ k % 2 = a / 2 ^ (k + n) % 2 := by rw [bit_at, Nat.add_comm]
theorem sign_bit (m j : Nat) (a : Int) (h : InR m a) (hj : m - 1 ≤ j) : a / 2 ^ j % 2 = a / 2 ^ (m - 1) % 2 := by
  have hp := pow_pos' (m - 1)
  have hq := pow_pos' (j - (m - 1))
  have e : (2 : Int) ^ j = 2 ^ (m - 1) * 2 ^ (j - (m - 1)) := by rw [← Int.pow_add]; congr 1; omega
  obtain ⟨h0, h1⟩ := h
  rw [e, ← Int.ediv_ediv_of_nonneg (by omega)]
  by_cases hn : a < 0
  · have e1 : a / 2 ^ (m - 1) = -1 := Int.ediv_eq_neg_one_of_neg_of_le (by omega) (by omega)
    rw [e1, Int.ediv_eq_neg_one_of_neg_of_le (by omega) (by omega)]
  · rw [Int.ediv_eq_zero_of_lt (by omega) h1, Int.zero_ediv]

set_option maxHeartbeats 1000000 in
theorem rshl_any (va : Value) (m n : Nat) (a : Int) (m0 : 1 ≤ m) (hm : m ≤ 1000) (hn : n ≤ 1000) (w : World) (hA : Bt w va m a) :
    Calls Tryd.prog 31 #[va, .int .i64 n] w fun e w' => ∃ v, e = .returned v ∧ w'.ownsRow w.heap.size 3 1 v m ((bl m (a * 2 ^ n)).map (Value.int .i64)) ∧ Below w.heap.size w w' := by
  obtain ⟨i0, hi, hz0, hz1, hz2⟩ := info_parts info_int
  obtain ⟨g1, cap1, rfl, p1, p2, ha⟩ := hA
  unfold maxLen at p2
  have HA : Hid (∀ k, k < m → w.cell? ⟨g1, k, none⟩ = some (.int .i64 (a / 2 ^ k % 2))) := ha
  clear ha
  go_enter Tryd.func31, Tryd.ntmps31
  go_wp2
  go_loopw [5, 6] (fun v i wr => ∃ k : Nat, k ≤ m ∧ i = .int .i64 k ∧ wr.ownsRow w.heap.size 3 1 v k ((bl k (a * 2 ^ n)).map (Value.int .i64)) ∧ Below w.heap.size w wr) (fun _ i _ => m - (intOf i).toNat)
  case atStart => exact ⟨0, Nat.zero_le _, rfl, World.ownsRow_nil _ _ _ _, Below.refl _ _⟩
  case round =>
    obtain ⟨k, hk, rfl, hown, hW⟩ := hrel
    by_cases hlt : k < m
    · have h0I : (0 : Int) ≤ (k : Int) := by omega
      have hltI : (k : Int) < (m : Int) := by omega
      by_cases hkn : k < n
      · have hknI : (k : Int) < (n : Int) := by omega
        have HZ : Hid ((0 : Int) = a * 2 ^ n / 2 ^ k % 2) := (shl_bit0 a n k hkn).symm
        go_wp2_with (at_builtin; refine wpList_append_own _ rfl _ _ 27 rfl w.heap.size 3 i0 (.int .i64 0) 1 8 Tryd.underlying27 hi hz0 hz1 hz2 rfl (by decide) _ _ _ rfl (hown.alloc _) ⟨wr.heap.size, 0, none⟩ 1 1 [.int .i64 (0)] rfl rfl (cell_one_new _ _ _) (ints_oneCell .i64 [0]) (by unfold maxLen; omega) (by omega) (by have := hW.size; simp; omega) ?_; intro v' w1 hown' hgrow hnil)
        have hown3 : w1.ownsRow w.heap.size 3 1 v' (k + 1) ((bl (k + 1) (a * 2 ^ n)).map (Value.int .i64)) := by rw [← snoc_bits k (a * 2 ^ n) _ HZ.out]; exact hown'
        have hW3 : Below w.heap.size w w1 := below_grown hown hW hgrow
        clear hown' hgrow hnil hown hW
        go_wp2
        go_roundw
        case rel => exact ⟨k + 1, by omega, by go_num, hown3, hW3⟩
        case measure => simp [intOf]; omega
      · have hknI : (n : Int) ≤ (k : Int) := by omega
        have hc := (hW.cell (World.block_lt_of_cell? _ _ (HA.out (k - n) (by omega)))).trans (HA.out (k - n) (by omega))
        have hb := shl_bit1 a n k (by omega)
        obtain ⟨z, hz⟩ : ∃ z, a / 2 ^ (k - n) % 2 = z := ⟨_, rfl⟩
        rw [hz] at hb hc
        have HZ : Hid (z = a * 2 ^ n / 2 ^ k % 2) := hb.symm
        clear hb hz
        go_wp2_with (at_builtin; refine wpList_append_own _ rfl _ _ 27 rfl w.heap.size 3 i0 (.int .i64 0) 1 8 Tryd.underlying27 hi hz0 hz1 hz2 rfl (by decide) _ _ _ rfl (hown.alloc _) ⟨wr.heap.size, 0, none⟩ 1 1 [.int .i64 (z)] rfl rfl (cell_one_new _ _ _) (ints_oneCell .i64 [z]) (by unfold maxLen; omega) (by omega) (by have := hW.size; simp; omega) ?_; intro v' w1 hown' hgrow hnil)
        have hown3 : w1.ownsRow w.heap.size 3 1 v' (k + 1) ((bl (k + 1) (a * 2 ^ n)).map (Value.int .i64)) := by rw [← snoc_bits k (a * 2 ^ n) _ HZ.out]; exact hown'
        have hW3 : Below w.heap.size w w1 := below_grown hown hW hgrow
        clear hown' hgrow hnil hown hW hc
        go_wp2
        go_roundw
        case rel => exact ⟨k + 1, by omega, by go_num, hown3, hW3⟩
        case measure => simp [intOf]; omega
    · have ek : k = m := by omega
      subst ek
      go_wp2
      go_ret
      exact ⟨_, rfl, hown, hW⟩

set_option maxHeartbeats 1000000 in
theorem rshr_any (va : Value) (m n : Nat) (a : Int) (m0 : 1 ≤ m) (hm : m ≤ 1000) (hn : n ≤ 1000) (hr : InR m a) (w : World) (hA : Bt w va m a) :
    Calls Tryd.prog 29 #[va, .int .i64 n] w fun e w' => ∃ v, e = .returned v ∧ w'.ownsRow w.heap.size 3 1 v m ((bl m (a / 2 ^ n)).map (Value.int .i64)) ∧ Below w.heap.size w w' := by
  have SB := fun j hj => sign_bit m j a hr hj
  have HSB : Hid (∀ j : Nat, m - 1 ≤ j → a / 2 ^ j % 2 = a / 2 ^ (m - 1) % 2) := SB
  clear SB hr
  obtain ⟨i0, hi, hz0, hz1, hz2⟩ := info_parts info_int
  obtain ⟨g1, cap1, rfl, p1, p2, ha⟩ := hA
  unfold maxLen at p2
  have HA : Hid (∀ k, k < m → w.cell? ⟨g1, k, none⟩ = some (.int .i64 (a / 2 ^ k % 2))) := ha
  clear ha
  go_enter Tryd.func29, Tryd.ntmps29
  go_wp2
  go_loopw [5, 6] (fun v i wr => ∃ k : Nat, k ≤ m ∧ i = .int .i64 k ∧ wr.ownsRow w.heap.size 3 1 v k ((bl k (a / 2 ^ n)).map (Value.int .i64)) ∧ Below w.heap.size w wr) (fun _ i _ => m - (intOf i).toNat)
  case atStart => exact ⟨0, Nat.zero_le _, rfl, World.ownsRow_nil _ _ _ _, Below.refl _ _⟩
  case round =>
    obtain ⟨k, hk, rfl, hown, hW⟩ := hrel
    by_cases hlt : k < m
    · have h0I : (0 : Int) ≤ (k : Int) := by omega
      have hltI : (k : Int) < (m : Int) := by omega
      by_cases hkn : k + n < m
      · have hknI : (n : Int) < (m : Int) - (k : Int) := by omega
        have hc := (hW.cell (World.block_lt_of_cell? _ _ (HA.out (k + n) hkn))).trans (HA.out (k + n) hkn)
        have hb := shr_bit a n k
        obtain ⟨z, hz⟩ : ∃ z, a / 2 ^ (k + n) % 2 = z := ⟨_, rfl⟩
        rw [hz] at hb hc
        have HZ : Hid (z = a / 2 ^ n / 2 ^ k % 2) := hb.symm
        clear hb hz
        go_wp2_with (at_builtin; refine wpList_append_own _ rfl _ _ 27 rfl w.heap.size 3 i0 (.int .i64 0) 1 8 Tryd.underlying27 hi hz0 hz1 hz2 rfl (by decide) _ _ _ rfl (hown.alloc _) ⟨wr.heap.size, 0, none⟩ 1 1 [.int .i64 (z)] rfl rfl (cell_one_new _ _ _) (ints_oneCell .i64 [z]) (by unfold maxLen; omega) (by omega) (by have := hW.size; simp; omega) ?_; intro v' w1 hown' hgrow hnil)
        have hown3 : w1.ownsRow w.heap.size 3 1 v' (k + 1) ((bl (k + 1) (a / 2 ^ n)).map (Value.int .i64)) := by rw [← snoc_bits k (a / 2 ^ n) _ HZ.out]; exact hown'
        have hW3 : Below w.heap.size w w1 := below_grown hown hW hgrow
        clear hown' hgrow hnil hown hW hc
        go_wp2
        go_roundw
        case rel => exact ⟨k + 1, by omega, by go_num, hown3, hW3⟩
        case measure => simp [intOf]; omega
      · have hknI : ¬ (n : Int) < (m : Int) - (k : Int) := by omega
        have hc := (hW.cell (World.block_lt_of_cell? _ _ (HA.out (m - 1) (by omega)))).trans (HA.out (m - 1) (by omega))
        have hb := shr_bit a n k
        rw [HSB.out (k + n) (by omega)] at hb
        obtain ⟨z, hz⟩ : ∃ z, a / 2 ^ (m - 1) % 2 = z := ⟨_, rfl⟩
        rw [hz] at hb hc
        have HZ : Hid (z = a / 2 ^ n / 2 ^ k % 2) := hb.symm
        have i1 : ((m : Int) - 1).toNat = m - 1 := by omega
        have i2 : (0 : Int) ≤ (m : Int) - 1 := by omega
        have i3 : (m : Int) - 1 < (m : Int) := by omega
        clear hb hz
        go_wp2_with (at_builtin; refine wpList_append_own _ rfl _ _ 27 rfl w.heap.size 3 i0 (.int .i64 0) 1 8 Tryd.underlying27 hi hz0 hz1 hz2 rfl (by decide) _ _ _ rfl (hown.alloc _) ⟨wr.heap.size, 0, none⟩ 1 1 [.int .i64 (z)] rfl rfl (cell_one_new _ _ _) (ints_oneCell .i64 [z]) (by unfold maxLen; omega) (by omega) (by have := hW.size; simp; omega) ?_; intro v' w1 hown' hgrow hnil)
        have hown3 : w1.ownsRow w.heap.size 3 1 v' (k + 1) ((bl (k + 1) (a / 2 ^ n)).map (Value.int .i64)) := by rw [← snoc_bits k (a / 2 ^ n) _ HZ.out]; exact hown'
        have hW3 : Below w.heap.size w w1 := below_grown hown hW hgrow
        clear hown' hgrow hnil hown hW hc
        go_wp2
        go_roundw
        case rel => exact ⟨k + 1, by omega, by go_num, hown3, hW3⟩
        case measure => simp [intOf]; omega
    · have ek : k = m := by omega
      subst ek
      go_wp2
      go_ret
      exact ⟨_, rfl, hown, hW⟩

set_option maxHeartbeats 1000000 in
theorem rwider_any (va : Value) (m n : Nat) (a : Int) (m0 : 1 ≤ m) (hm : m ≤ 1000) (hn : n ≤ 1000) (hr : InR m a) (w : World) (hA : Bt w va m a) :
    Calls Tryd.prog 9 #[va, .int .i64 n] w fun e w' => ∃ v, e = .returned v ∧ w'.ownsRow w.heap.size 3 1 v n ((bl n a).map (Value.int .i64)) ∧ Below w.heap.size w w' := by
  have SB := fun j hj => sign_bit m j a hr hj
  have HSB : Hid (∀ j : Nat, m - 1 ≤ j → a / 2 ^ j % 2 = a / 2 ^ (m - 1) % 2) := SB
  clear SB hr
  obtain ⟨i0, hi, hz0, hz1, hz2⟩ := info_parts info_int
  obtain ⟨g1, cap1, rfl, p1, p2, ha⟩ := hA
  unfold maxLen at p2
  have HA : Hid (∀ k, k < m → w.cell? ⟨g1, k, none⟩ = some (.int .i64 (a / 2 ^ k % 2))) := ha
  clear ha
  go_enter Tryd.func9, Tryd.ntmps9
  go_wp2
  go_loopw [5, 6] (fun v i wr => ∃ k : Nat, k ≤ n ∧ i = .int .i64 k ∧ wr.ownsRow w.heap.size 3 1 v k ((bl k (a)).map (Value.int .i64)) ∧ Below w.heap.size w wr) (fun _ i _ => n - (intOf i).toNat)
  case atStart => exact ⟨0, Nat.zero_le _, rfl, World.ownsRow_nil _ _ _ _, Below.refl _ _⟩
  case round =>
    obtain ⟨k, hk, rfl, hown, hW⟩ := hrel
    by_cases hlt : k < n
    · have h0I : (0 : Int) ≤ (k : Int) := by omega
      by_cases hkn : k < m
      · have hltI : (k : Int) < (m : Int) := by omega
        have hc := (hW.cell (World.block_lt_of_cell? _ _ (HA.out k hkn))).trans (HA.out k hkn)
        obtain ⟨z, hz⟩ : ∃ z, a / 2 ^ k % 2 = z := ⟨_, rfl⟩
        rw [hz] at hc
        have HZ : Hid (z = a / 2 ^ k % 2) := hz.symm
        clear hz
        go_wp2_with (at_builtin; refine wpList_append_own _ rfl _ _ 27 rfl w.heap.size 3 i0 (.int .i64 0) 1 8 Tryd.underlying27 hi hz0 hz1 hz2 rfl (by decide) _ _ _ rfl (hown.alloc _) ⟨wr.heap.size, 0, none⟩ 1 1 [.int .i64 (z)] rfl rfl (cell_one_new _ _ _) (ints_oneCell .i64 [z]) (by unfold maxLen; omega) (by omega) (by have := hW.size; simp; omega) ?_; intro v' w1 hown' hgrow hnil)
        have hown3 : w1.ownsRow w.heap.size 3 1 v' (k + 1) ((bl (k + 1) (a)).map (Value.int .i64)) := by rw [← snoc_bits k (a) _ HZ.out]; exact hown'
        have hW3 : Below w.heap.size w w1 := below_grown hown hW hgrow
        clear hown' hgrow hnil hown hW hc
        go_wp2
        go_roundw
        case rel => exact ⟨k + 1, by omega, by go_num, hown3, hW3⟩
        case measure => simp [intOf]; omega
      · have hknI : ¬ (k : Int) < (m : Int) := by omega
        have hc := (hW.cell (World.block_lt_of_cell? _ _ (HA.out (m - 1) (by omega)))).trans (HA.out (m - 1) (by omega))
        have hb := HSB.out k (by omega)
        obtain ⟨z, hz⟩ : ∃ z, a / 2 ^ (m - 1) % 2 = z := ⟨_, rfl⟩
        rw [hz] at hb hc
        have HZ : Hid (z = a / 2 ^ k % 2) := hb.symm
        have i1 : ((m : Int) - 1).toNat = m - 1 := by omega
        have i2 : (0 : Int) ≤ (m : Int) - 1 := by omega
        have i3 : (m : Int) - 1 < (m : Int) := by omega
        clear hb hz
        go_wp2_with (at_builtin; refine wpList_append_own _ rfl _ _ 27 rfl w.heap.size 3 i0 (.int .i64 0) 1 8 Tryd.underlying27 hi hz0 hz1 hz2 rfl (by decide) _ _ _ rfl (hown.alloc _) ⟨wr.heap.size, 0, none⟩ 1 1 [.int .i64 (z)] rfl rfl (cell_one_new _ _ _) (ints_oneCell .i64 [z]) (by unfold maxLen; omega) (by omega) (by have := hW.size; simp; omega) ?_; intro v' w1 hown' hgrow hnil)
        have hown3 : w1.ownsRow w.heap.size 3 1 v' (k + 1) ((bl (k + 1) (a)).map (Value.int .i64)) := by rw [← snoc_bits k (a) _ HZ.out]; exact hown'
        have hW3 : Below w.heap.size w w1 := below_grown hown hW hgrow
        clear hown' hgrow hnil hown hW hc
        go_wp2
        go_roundw
        case rel => exact ⟨k + 1, by omega, by go_num, hown3, hW3⟩
        case measure => simp [intOf]; omega
    · have ek : k = n := by omega
      subst ek
      go_wp2
      go_ret
      exact ⟨_, rfl, hown, hW⟩

theorem inr_succ (m : Nat) (a : Int) (m0 : 1 ≤ m) (h : InR m a) : InR (m + 1) a ∧ InR (m + 1) (-a) := by
  have hp := pow_pos' (m - 1)
  obtain ⟨h0, h1⟩ := h
  have e : (2 : Int) ^ (m + 1 - 1) = 2 ^ (m - 1) + 2 ^ (m - 1) := by rw [← pow_two]; congr 1; omega
  unfold InR
  rw [e]
  omega

end Go.Proofs.YtpmidldnomleoaaDoor
