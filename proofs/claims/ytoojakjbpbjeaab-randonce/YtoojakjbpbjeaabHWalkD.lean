/-
  The contracts of rand's within, halfBits, lowest, swapped and of a round.
-/
import Derived.Test.YtoojakjbpbjeaabHWalkC
import Derived.Laws.Bits64b
import Derived.Deep.DeepFit
set_option linter.unusedVariables false
set_option linter.unusedSimpArgs false
namespace Go.Proofs.Ytoojakjbpbjeaab
open Go.RowKit

set_option maxHeartbeats 1000000 in
theorem within_yes (n i : Int) (n1 : 1 ≤ n) (n2 : n ≤ 65536) (i0 : 0 ≤ i) (i1 : i < n) (w : World) :
    Calls Try.prog 10 #[.int .i64 n, .int .i64 i] w fun e w' => e = .returned (.bool true) ∧ w' = w := by
  go_enter Try.func10, Try.ntmps10
  go_wp2
  go_ret
  exact ⟨rfl, rfl⟩
set_option maxHeartbeats 1000000 in
theorem within_no (n i : Int) (h : n < 1 ∨ 65536 < n ∨ i < 0 ∨ n ≤ i) (w : World) :
    Calls Try.prog 10 #[.int .i64 n, .int .i64 i] w fun e w' => e = .returned (.bool false) ∧ w' = w := by
  have H4 : Hid (n < 1 ∨ (¬ n < 1 ∧ 65536 < n) ∨ (¬ n < 1 ∧ ¬ 65536 < n ∧ i < 0) ∨ (¬ n < 1 ∧ ¬ 65536 < n ∧ ¬ i < 0 ∧ n ≤ i)) := by show _ ∨ _; omega
  clear h
  rcases H4.out with h | ⟨h1, h⟩ | ⟨h1, h2, h⟩ | ⟨h1, h2, h3, h⟩
  all_goals
    clear H4
    go_enter Try.func10, Try.ntmps10
    go_wp2
    go_ret
    exact ⟨by first | rfl | (simp; omega) | simp, rfl⟩
set_option maxHeartbeats 1000000 in
theorem swapped_any (x y : Int) (w : World) :
    Calls Try.prog 21 #[.agg #[.int .i64 x, .int .i64 y]] w fun e w' => e = .returned (.agg #[.int .i64 y, .int .i64 x]) ∧ Below w.heap.size w w' := by
  have hb0 := bel2 w (.cells #[.int .i64 x, .int .i64 y] 48) (.cells #[.int .i64 y, .int .i64 x] 48)
  go_enter Try.func21, Try.ntmps21
  go_wp2
  exact bodyPost_ret (v := .agg #[.int .i64 y, .int .i64 x]) (by simp [results, Try.results21, go_sem]) rfl ⟨rfl, hb0⟩
theorem and_low (X k : Nat) (hX : X < 18446744073709551616) (hk : k ≤ 8) : bits .and .u64 (X : Int) ((2 ^ k - 1 : Nat) : Int) = ((X % 2 ^ k : Nat) : Int) := by
  have h2 : 2 ^ k ≤ 2 ^ 8 := Nat.pow_le_pow_right (by omega) hk
  rw [bits_and_u64_nat _ _ hX (by omega), Nat.and_two_pow_sub_one_eq_mod]
set_option maxHeartbeats 1000000 in
theorem lowest_any (k X : Nat) (hk : k ≤ 8) (hX : X < 18446744073709551616) (w : World) :
    Calls Try.prog 19 #[.int .i64 (k : Int), .int .u64 (X : Int)] w fun e w' => e = .returned (.int .i64 ((X % 2 ^ k : Nat) : Int)) ∧ w' = w := by
  have h2 : 2 ^ k ≤ 2 ^ 8 := Nat.pow_le_pow_right (by omega) hk
  have h3 : 0 < 2 ^ k := Nat.two_pow_pos k
  have e0 : min k 64 = k := by omega
  have hA := and_low X k hX hk
  have hlt : X % 2 ^ k < 2 ^ k := Nat.mod_lt _ h3
  have hk0 : (0 : Int) ≤ (k : Int) := by omega
  have e1 : IntKind.u64.wrap ((2 : Int) ^ k) = (2 : Int) ^ k := by rw [IntKind.wrap_u64, show (2 : Int) ^ k = ((2 ^ k : Nat) : Int) by rw [Int.natCast_pow]; rfl]; omega
  have e2 : IntKind.u64.wrap ((2 : Int) ^ k - 1) = ((2 ^ k - 1 : Nat) : Int) := by rw [IntKind.wrap_u64, show (2 : Int) ^ k = ((2 ^ k : Nat) : Int) by rw [Int.natCast_pow]; rfl]; omega
  obtain ⟨Y, hY⟩ : ∃ Y, 2 ^ k - 1 = Y := ⟨_, rfl⟩
  obtain ⟨M, hM⟩ : ∃ M, X % 2 ^ k = M := ⟨_, rfl⟩
  rw [hY] at hA e2
  rw [hM] at hA hlt
  rw [hM]
  have e3 : Hid (wrap64 (M : Int) = (M : Int)) := by show _ = _; rw [w64, sg_id _ (by omega) (by omega)]
  clear hY hM h2 h3 hlt
  go_enter Try.func19, Try.ntmps19
  go_wp2
  go_ret
  exact ⟨by show Ending.returned (Value.int .i64 (wrap64 (M : Int))) = _; rw [e3.out], rfl⟩
theorem pow4 (k : Nat) : 2 ^ (2 * k) = 2 ^ k * 2 ^ k := by rw [Nat.two_mul, Nat.pow_add]
set_option maxRecDepth 100000 in
set_option maxHeartbeats 2000000 in
theorem halfBits_any (n : Nat) (n0 : 1 ≤ n) (n1 : n ≤ 65536) (w : World) :
    Calls Try.prog 11 #[.int .i64 (n : Int)] w fun e w' => ∃ k : Nat, e = .returned (.int .i64 (k : Int)) ∧ k ≤ 8 ∧ Hf n k ∧ w' = w := by
  go_enter Try.func11, Try.ntmps11
  go_upto_region 2 with fail
  go_loopw [3] (fun s3 wr => ∃ k : Nat, 1 ≤ k ∧ k ≤ 8 ∧ s3 = .int .i64 (k : Int) ∧ Hid (k = 1 ∨ 2 ^ (k - 1) * 2 ^ (k - 1) < n) ∧ wr = w) (fun s3 _ => 9 - (intOf s3).toNat)
  case atStart => exact ⟨1, by omega, by omega, rfl, Or.inl rfl, rfl⟩
  case round =>
    obtain ⟨k, k1, k8, rfl, HP, rfl⟩ := hrel
    have h256 : 2 ^ k ≤ 2 ^ 8 := Nat.pow_le_pow_right (by omega) k8
    have hpp : 2 ^ k * 2 ^ k ≤ 65536 := Nat.mul_le_mul h256 h256
    have eW : Hid (wrap64 ((2 : Int) ^ (2 * k)) = ((2 ^ k * 2 ^ k : Nat) : Int)) := by
      show _ = _
      rw [w64, show (2 : Int) ^ (2 * k) = ((2 ^ (2 * k) : Nat) : Int) by rw [Int.natCast_pow]; rfl, pow4, sg_id _ (by omega) (by omega)]
    have Hpp : Hid (2 ^ k * 2 ^ k ≤ 65536) := hpp
    clear h256 hpp
    go_wp2
    · rename_i hlt
      rw [eW.out] at hlt
      have hlt2 : 2 ^ k * 2 ^ k < n := by omega
      have hk8 : k ≠ 8 := fun e => by subst e; omega
      exact ⟨⟨k + 1, by omega, by omega, by go_num, Or.inr (by rw [Nat.add_sub_cancel]; exact hlt2), trivial⟩, by simp [intOf]; omega⟩
    · rename_i hge
      rw [eW.out] at hge
      go_ret
      exact ⟨k, rfl, k8, ⟨k1, by omega, HP.out⟩, rfl⟩
end Go.Proofs.Ytoojakjbpbjeaab
