/-
  The contract of slices.Clone.
-/
import Derived.Test.YtfcneciknldohaaPWalkE
import Derived.Lib.SliceRun
set_option linter.unusedVariables false
set_option linter.unusedSimpArgs false
namespace Go.Proofs.Ytfcneciknldohaa
open Go.RowKit

set_option maxRecDepth 100000 in
set_option maxHeartbeats 2000000 in
theorem clone_any (va : Value) (n : Nat) (f : Nat → Int) (hn : n ≤ 70000) (w : World) (hA : Ar w va n f) :
    Calls Try.prog 28 #[va] w fun e w' => ∃ (ad : Option Addr) (cap : Nat), e = .returned (.slice ad n cap) ∧ Ar w' (.slice ad n cap) n f ∧ Ow w.heap.size (.slice ad n cap) ∧ Below w.heap.size w w' := by
  obtain ⟨i0, hi, hz0, hz1, hz2⟩ := info_parts dinfo_fx
  have qT : ∀ (w : World) (a : Option Addr) (n c n' c' : Nat), (binOp .eql 25 (.slice a n c) (.slice none n' c')).run Try.prog w = .ok (.bool a.isNone) w := fun w a n c n' c' => Lib.run_eql_slice_nil w _ _ a n c n' c' Try.underlying25
  obtain ⟨adr, cap, b, o, rfl, k1, k2, k3, k4⟩ := hA
  unfold maxLen at k2
  have HB : Hid (∀ k, k < n → -9223372036854775808 ≤ f k ∧ f k ≤ 9223372036854775807) := fun k hk => (k4 k hk).2
  cases adr with
  | none =>
    obtain rfl : n = 0 := by
      rcases Nat.eq_zero_or_pos n with h | h
      · exact h
      · cases k3 h
    clear k3 k4
    go_enter Try.func28, Try.ntmps28
    go_wp2
    go_ret
    exact ⟨none, 0, rfl, ⟨none, 0, 0, 0, rfl, by omega, by unfold maxLen; omega, fun h => by omega, fun k hk => by omega⟩, fun a n cap e => (by cases e), Below.refl _ _⟩
  | some a =>
    have HC : Hid (∀ (j : Nat) (u : Value), (il f n)[j]? = some u → w.cell? (a.add j) = some u) := fun j u hj => by
      have hjn : j < n := by
        have := (List.getElem?_eq_some_iff.1 hj).1
        rw [il_len] at this
        exact this
      have e := Option.some.inj (k3 (by omega))
      subst e
      rw [il_get f n j hjn] at hj
      rw [Addr.add_lit, ← hj]
      exact (k4 j hjn).1
    clear k3 k4
    go_enter Try.func28, Try.ntmps28
    go_wp2_with (at_builtin; refine wpList_append_own _ rfl _ _ 25 rfl w.heap.size 22 i0 (.int .i64 0) 1 8 Try.underlying25 hi hz0 hz1 hz2 rfl (by decide) _ _ _ rfl (World.ownsRow_made w #[] 0 (Nat.le_refl _) (Nat.zero_le _) (by simp)) a n cap (il f n) rfl ?qc1 ?qc2 ?qc3 ?qc4 ?qc5 ?qc6 ?_)
    case qc1 => rw [il_len, Nat.mul_one]
    case qc2 =>
      intro j u hj
      exact cell_later (bel1 w _) (HC.out j u hj)
    case qc3 =>
      intro u hu
      unfold il at hu
      obtain ⟨k, _, rfl⟩ := List.mem_map.1 hu
      rfl
    case qc4 => unfold maxLen; omega
    case qc5 => omega
    case qc6 => simp
    intro v' w1 hown hgrow hnil
    have HO : Hid (Ar w1 v' n f ∧ Ow w.heap.size v') := ar_of_own (by simpa using hown) HB.out
    have HW : Hid (Below w.heap.size w w1) := ((Below.refl _ w).alloc (Nat.le_refl _) _).grown hgrow (by simp) (by intro k hk; simp [Value.ownBlock] at hk; omega)
    clear hown hgrow hnil HC
    obtain ⟨ad', cap', -, -, rfl, -, -, -, -⟩ := id HO.out.1
    go_wp2
    go_ret
    exact ⟨ad', cap', rfl, HO.out.1, HO.out.2, HW.out⟩
end Go.Proofs.Ytfcneciknldohaa
