/-
  The chapter's examples: regattalaw08's awake.
-/
import Derived.Test.YtbblcecfdlmfmabQWalkD
set_option linter.unusedVariables false
set_option linter.unusedSimpArgs false
namespace Go.Proofs.Ytbblcecfdlmfmab
open Go.RowKit

theorem aw8a : rtV 4294967296 4 0 (fun _ => 0) (fun _ => 0) 3 = 3221225472 := by decide +kernel
theorem aw8b : pwA 2147483648 3 = 536870912 ∧ pwE 2147483648 3 = 0 := by decide +kernel
theorem aw8c : stV 2 8 4 1 (msV (fun _ => 1) (fun _ => 1)) 1 = 5 := by decide +kernel
theorem drp_none (w : World) (at' fa : Nat → Int) : Drp w (.slice none 0 0) 0 at' fa := ⟨none, 0, 0, 0, rfl, Nat.le_refl _, Nat.zero_le _, fun h => by omega, fun k hk => by omega⟩
set_option maxRecDepth 100000 in
set_option maxHeartbeats 4000000 in
theorem awake8_any (w : World) : Calls Try.prog 4 #[] w fun e w' => e = .returned (.bool true) ∧ Below w.heap.size w w' := by
  have CR : Hid (∀ W : World, Calls Try.prog 8 #[.agg #[.int .i64 4294967296, .int .i64 4, .slice none 0 0], .int .i64 3] W fun e w' => e = .returned (.tuple #[.int .i64 3221225472, .int .i64 0]) ∧ Below W.heap.size W w') := fun W => by
    have h := rate_ok 4294967296 4 (.slice none 0 0) 0 (fun _ => 0) (fun _ => 0) 3 W (drp_none W _ _) ⟨by omega, by omega, by omega, by omega, fun k hk => by omega⟩ (by omega) (by omega) (by omega)
    rw [aw8a] at h
    exact h
  have CP : Hid (∀ W : World, Calls Try.prog 9 #[.int .i64 2147483648, .int .i64 3] W fun e w' => e = .returned (.tuple #[.int .i64 536870912, .int .i64 0]) ∧ Below W.heap.size W w') := fun W => by
    have h := powerW_any 2147483648 3 W
    rw [aw8b.1, aw8b.2] at h
    exact h
  have CS : Hid (∀ W : World, Calls Try.prog 6 #[.agg #[.int .i64 2, .int .i64 8, .int .i64 4, .int .i64 1], .slice (some ⟨W.heap.size + 1, 0, none⟩) 1 1] ((W.alloc (.cells #[.int .i64 1] 3)).alloc (.cells #[.int .i64 0, .int .i64 0, .int .i64 1, .slice (some ⟨W.heap.size, 0, none⟩) 1 1, .int .i64 0] 32)) fun e w' => e = .returned (.tuple #[.int .i64 5, .int .i64 0]) ∧ Below W.heap.size W w') := fun W => by
    have hE : Ens ((W.alloc (.cells #[.int .i64 1] 3)).alloc (.cells #[.int .i64 0, .int .i64 0, .int .i64 1, .slice (some ⟨W.heap.size, 0, none⟩) 1 1, .int .i64 0] 32)) (.slice (some ⟨W.heap.size + 1, 0, none⟩) 1 1) 1 (fun _ => 1) (fun _ => 1) := by
      have h5 := Q5.new (W.alloc (.cells #[.int .i64 1] 3)) (.int .i64 0) (.int .i64 0) (.int .i64 1) (.slice (some ⟨W.heap.size, 0, none⟩) 1 1) (.int .i64 0) 32
      rw [World.size_alloc] at h5
      refine ⟨_, 1, W.heap.size + 1, 0, rfl, Nat.le_refl _, by unfold maxLen; omega, fun _ => rfl, fun k hk => ⟨⟨0, 0, 0, some ⟨W.heap.size, 0, none⟩, 1, ?_, ?_, ?_, ?_, ?_⟩, ⟨by dsimp only; omega, by dsimp only; omega⟩, by unfold maxLen; dsimp only; omega⟩⟩
      all_goals obtain rfl : k = 0 := by omega
      · exact h5.c0
      · exact h5.c1
      · exact h5.c2
      · exact h5.c3
      · exact h5.c4
    refine (pSteps_any 2 8 4 1 _ 1 (fun _ => 1) (fun _ => 1) _ hE).mono ?_
    rintro e w' ⟨X, E, rfl, hs, hb⟩
    obtain ⟨e1, e2⟩ := hs.2.2.2 ⟨by omega, by omega, by omega, by omega, by omega, by omega⟩ (by omega) (fun k hk => by show ((1 : Nat) : Int) ≤ 1; omega)
    rw [aw8c] at e1
    subst e1 e2
    exact ⟨rfl, bchain (bel2 _ _ _) hb⟩
  go_enter Try.func4, Try.ntmps4
  go_wp2_with fail
  refine (CR.out _).mono ?_
  rintro e w1 ⟨rfl, hb⟩
  have HB1 : Hid (Below w.heap.size w w1) := hb
  clear hb CR
  go_wp2_with fail
  refine (CP.out _).mono ?_
  rintro e w2 ⟨rfl, hb⟩
  have HB2 : Hid (Below w.heap.size w w2) := bchain HB1.out hb
  clear hb CP HB1
  go_wp2_with fail
  refine (CS.out w2).mono ?_
  rintro e w3 ⟨rfl, hb⟩
  have HB3 : Hid (Below w.heap.size w w3) := bchain HB2.out hb
  clear hb CS HB2
  go_wp2
  go_ret
  exact ⟨rfl, HB3.out⟩
end Go.Proofs.Ytbblcecfdlmfmab
