/-
  The contracts of regattaref06's Right, Asked and Same.
-/
import Derived.Test.YtaifihfiompgaaaJMath
import Derived.Test.YtaifihfiompgaaaEWalkD
set_option linter.unusedVariables false
set_option linter.unusedSimpArgs false
namespace Go.Proofs.Ytaifihfiompgaaa
open Go.RowKit

/-- May so many workers have so many examples? -/
def Rgt (W n : Int) : Prop := 1 ≤ W ∧ W ≤ 64 ∧ W ≤ n ∧ n ≤ 4096
set_option maxHeartbeats 1000000 in
theorem right_yes (W n : Int) (h : Rgt W n) (w : World) : Calls Try.prog 10 #[.int .i64 W, .int .i64 n] w fun e w' => e = .returned (.bool true) ∧ w' = w := by
  obtain ⟨h1, h2, h3, h4⟩ := h
  go_enter Try.func10, Try.ntmps10
  go_wp2
  go_ret
  exact ⟨rfl, rfl⟩
set_option maxHeartbeats 1000000 in
theorem right_no (W n : Int) (h : ¬ Rgt W n) (w : World) : Calls Try.prog 10 #[.int .i64 W, .int .i64 n] w fun e w' => e = .returned (.bool false) ∧ w' = w := by
  have H4 : Hid (W < 1 ∨ (¬ W < 1 ∧ 64 < W) ∨ (¬ W < 1 ∧ ¬ 64 < W ∧ n < W) ∨ (¬ W < 1 ∧ ¬ 64 < W ∧ ¬ n < W ∧ 4096 < n)) := by unfold Rgt at h; show _ ∨ _; omega
  clear h
  rcases H4.out with h | ⟨h1, h⟩ | ⟨h1, h2, h⟩ | ⟨h1, h2, h3, h⟩
  all_goals
    clear H4
    go_enter Try.func10, Try.ntmps10
    go_wp2
    go_ret
    exact ⟨by first | rfl | (simp; omega) | simp, rfl⟩
/-- May a batch be asked for? -/
def Akd (x r t z m : Int) : Prop := 0 ≤ x ∧ x < 64 ∧ 0 ≤ r ∧ r ≤ 256 ∧ 0 ≤ t ∧ t < 64 ∧ 1 ≤ z ∧ z ≤ 64 ∧ 1 ≤ m ∧ m ≤ 4096
set_option maxRecDepth 100000 in
set_option maxHeartbeats 4000000 in
theorem isame_yes (va vb : Value) (n : Nat) (f : Nat → Int) (hn : n ≤ 70000) (w : World) (hA : Ar w va n f) (hB : Ar w vb n f) :
    Calls Try.prog 11 #[va, vb] w fun e w' => e = .returned (.bool true) ∧ Below w.heap.size w w' := by
  obtain ⟨adr, cap, b, o, rfl, k1, k2, k3, k4⟩ := hA
  obtain ⟨adq, caq, bq, oq, rfl, q1, q2, q3, q4⟩ := hB
  have HA : Hid (∀ k, k < n → w.cell? ⟨b, o + k, none⟩ = some (.int .i64 (f k)) ∧ w.cell? ⟨bq, oq + k, none⟩ = some (.int .i64 (f k))) := fun k hk => ⟨(k4 k hk).1, (q4 k hk).1⟩
  have HK : Hid (0 < n → adr = some ⟨b, o, none⟩ ∧ adq = some ⟨bq, oq, none⟩) := fun h => ⟨k3 h, q3 h⟩
  clear k3 k4 q3 q4
  go_enter Try.func11, Try.ntmps11
  go_wp2
  go_loopw [5] (fun s5 wr => ∃ j : Nat, j ≤ n ∧ s5 = .int .i64 (j : Int) ∧ Below w.heap.size w wr) (fun s5 _ => n - (intOf s5).toNat)
  case atStart => exact ⟨0, by omega, rfl, Below.refl _ _⟩
  case round =>
    obtain ⟨j, hj, rfl, hW⟩ := hrel
    by_cases hlt : j < n
    · have hjI : (j : Int) < (n : Int) := by omega
      obtain ⟨ea, eb⟩ := HK.out (by omega)
      subst ea eb
      obtain ⟨ca, cb⟩ := HA.out j hlt
      have cA : wr.cell? ⟨b, o + j, none⟩ = some (.int .i64 (f j)) := (hW.cell (World.block_lt_of_cell? _ _ ca)).trans ca
      have cB : wr.cell? ⟨bq, oq + j, none⟩ = some (.int .i64 (f j)) := (hW.cell (World.block_lt_of_cell? _ _ cb)).trans cb
      have hne : ((f j) != (f j)) = false := by simp
      have HW : Hid (Below w.heap.size w wr) := hW
      clear ca cb hW
      go_wp2
      go_quiet (fail)
      go_wp2
      go_roundw
      case rel => exact ⟨j + 1, by omega, by go_num, below_drewN HW.out _⟩
      case measure => simp [intOf]; omega
    · have HW : Hid (Below w.heap.size w wr) := hW
      have hjI : ¬ (j : Int) < (n : Int) := by omega
      clear hW
      go_wp2
      go_ret
      exact ⟨rfl, HW.out⟩
end Go.Proofs.Ytaifihfiompgaaa
