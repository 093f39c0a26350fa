/-
  The contract of regattaref01's Mul.
-/
import Derived.Test.YtpmidldnomleoabRWalkG
set_option linter.unusedVariables false
set_option linter.unusedSimpArgs false
namespace Go.Proofs.Ytpmidldnomleoab
open Go.RowKit

theorem inr_64 (x : Int) (x0 : -9223372036854775808 ≤ x) (x1 : x ≤ 9223372036854775807) : InR 64 x := by
  unfold InR
  rw [show (2 : Int) ^ (64 - 1) = 9223372036854775808 from rfl]
  omega
theorem mul_bit (A Y : Int) (k : Nat) : A * (Y % 2 ^ (k + 1)) = A * (Y % 2 ^ k) + A * 2 ^ k * (Y / 2 ^ k % 2) := by
  rw [mod_succ, Int.mul_add, Int.add_comm, Int.mul_assoc A, Int.mul_comm (2 ^ k) (Y / 2 ^ k % 2)]
theorem sgn_mul (x y : Int) : (if y < 0 then -x else x) * ab y = x * y := by
  by_cases h : y < 0
  · rw [if_pos h, ab_neg y h, Int.neg_mul_neg]
  · rw [if_neg h, ab_pos y (by omega)]

theorem ab_rng (y : Int) (y0 : -9223372036854775808 ≤ y) (y1 : y ≤ 9223372036854775807) : 0 ≤ ab y ∧ ab y ≤ 9223372036854775808 := by unfold ab; split <;> omega

set_option maxHeartbeats 1000000 in
theorem rmul_any (x y : Int) (n : Nat) (x0 : -9223372036854775808 ≤ x) (x1 : x ≤ 9223372036854775807) (y0 : -9223372036854775808 ≤ y) (y1 : y ≤ 9223372036854775807) (n0 : 1 ≤ n) (hn : n ≤ 900) (w : World) :
    Calls Try.prog 28 #[.int .i64 x, .int .i64 y, .int .i64 n] w fun e w' => ∃ v, e = .returned v ∧ Bt w' v n (x * y) ∧ Below w.heap.size w w' := by
  have HX : Hid ((if y < 0 then -x else x) * ab y = x * y) := sgn_mul x y
  go_enter Try.func28, Try.ntmps28
  go_wp2_with fail
  refine (int_any x n x0 x1 (by omega) _).mono ?_
  rintro e w1 ⟨v1, rfl, hown, hb⟩
  have A1 := bt_own hown n0
  have W1 : Below w.heap.size w w1 := hb
  clear hown hb
  go_upto_if 15 with fail
  go_cut [7] (fun s7 wc => Bt wc s7 n (if y < 0 then -x else x) ∧ Below w.heap.size w wc)
  case first =>
    by_cases hy : y < 0
    · go_wp2_with fail
      refine (rneg_any v1 n x n0 (by omega) _ A1).mono ?_
      rintro e w2 ⟨v2, rfl, hown, hb⟩
      have A2 := bt_own hown n0
      have W2 := bchain W1 hb
      clear hown hb A1 W1
      go_wp2_with fail
      go_meet
      exact ⟨by rw [if_pos hy]; exact A2, W2⟩
    · go_wp2_with fail
      go_meet
      exact ⟨by rw [if_neg (by omega)]; exact A1, W1⟩
  case rest =>
    obtain ⟨A2, W2⟩ := hcut
    clear A1 W1
    generalize (if y < 0 then -x else x) = A at *
    go_wp2_with fail
    refine (int_any y 64 y0 y1 (by omega) _).mono ?_
    rintro e w3 ⟨v3, rfl, hown, hb⟩
    have Y3 := bt_own hown (by omega)
    have A3 := A2.later hb
    have W3 := bchain W2 hb
    clear hown hb A2 W2
    go_wp2_with fail
    refine (rsize_any v3 64 y (by omega) (by omega) (inr_64 y y0 y1) _ Y3).mono ?_
    rintro e w4 ⟨v4, rfl, hown, hb⟩
    have S4 := bt_own hown (by omega)
    have A4 := A3.later hb
    have W4 := bchain W3 hb
    clear hown hb A3 W3 Y3
    go_wp2_with fail
    refine (int_any 0 n (by omega) (by omega) (by omega) _).mono ?_
    rintro e w5 ⟨v5, rfl, hown, hb⟩
    have O5 := bt_own hown n0
    have A5 := A4.later hb
    have S5 := S4.later hb
    have W5 := bchain W4 hb
    clear hown hb A4 W4 S4
    have yr := ab_rng y y0 y1
    generalize ab y = Y at *
    obtain ⟨g, cap, rfl, p1, p2, hc⟩ := S5
    unfold maxLen at p2
    have HC : Hid (∀ k, k < 65 → w5.cell? ⟨g, k, none⟩ = some (.int .i64 (Y / 2 ^ k % 2))) := hc
    clear hc
    go_wp2_with fail
    go_loopw [9, 10] (fun v i wr => ∃ k : Nat, k ≤ 65 ∧ i = .int .i64 k ∧ Bt wr v n (A * (Y % 2 ^ k)) ∧ Below w5.heap.size w5 wr) (fun _ i _ => 65 - (intOf i).toNat)
    case atStart => exact ⟨0, Nat.zero_le _, rfl, by rw [Int.pow_zero, Int.emod_one, Int.mul_zero]; exact O5, Below.refl _ _⟩
    case round =>
      obtain ⟨k, hk, rfl, hO, hW⟩ := hrel
      by_cases hlt : k < 65
      · have h0I : (0 : Int) ≤ (k : Int) := by omega
        have hltI : (k : Int) < 65 := by omega
        have hcell := (hW.cell (World.block_lt_of_cell? _ _ (HC.out k hlt))).trans (HC.out k hlt)
        have mb := mul_bit A Y k
        rcases bit_01 (Y / 2 ^ k) with hz | hz
        · rw [hz, Int.mul_zero, Int.add_zero] at mb
          rw [hz] at hcell
          have O2 := hO
          rw [← mb] at O2
          clear mb hz hO
          go_wp2
          go_roundw
          case rel => exact ⟨k + 1, by omega, by go_num, O2, hW⟩
          case measure => simp [intOf]; omega
        · rw [hz, Int.mul_one] at mb
          rw [hz] at hcell
          have A6 := A5.later hW
          have MB : Hid (A * (Y % 2 ^ (k + 1)) = A * (Y % 2 ^ k) + A * 2 ^ k) := mb
          clear mb hz
          go_wp2_with fail
          refine (rshl_any _ n k A n0 (by omega) (by omega) _ A6).mono ?_
          rintro e w7 ⟨v7, rfl, hown, hb⟩
          have T7 := bt_own hown n0
          have O7 := hO.later hb
          have W7 := bchain hW hb
          clear hown hb hW hO A6 hcell
          go_wp2_with fail
          refine (radd_any _ _ n _ _ n0 (by omega) _ O7 T7).mono ?_
          rintro e w8 ⟨v8, rfl, hown, hb⟩
          rw [← MB.out] at hown
          have O8 := bt_own hown n0
          have W8 := bchain W7 hb
          clear hown hb W7 O7 T7
          go_wp2
          go_roundw
          case rel => exact ⟨k + 1, by omega, by go_num, O8, W8⟩
          case measure => simp [intOf]; omega
      · have ek : k = 65 := by omega
        subst ek
        have HF : Hid (x * y = A * (Y % 2 ^ 65)) := by
          show x * y = A * (Y % 2 ^ 65)
          rw [Int.emod_eq_of_lt yr.1 (by show Y < 36893488147419103232; omega), HX.out]
        clear O5
        go_wp2
        go_ret
        exact ⟨_, rfl, by rw [HF.out]; exact hO, bchain W5 hW⟩
end Go.Proofs.Ytpmidldnomleoab
