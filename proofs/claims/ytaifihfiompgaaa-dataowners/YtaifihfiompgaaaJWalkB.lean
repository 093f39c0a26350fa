/-
  The contract of regattaref06's Asked.
-/
import Derived.Test.YtaifihfiompgaaaJWalkA
set_option linter.unusedVariables false
set_option linter.unusedSimpArgs false
namespace Go.Proofs.Ytaifihfiompgaaa
open Go.RowKit

set_option maxHeartbeats 1000000 in
theorem asked_yes (x r t z m : Int) (h : Akd x r t z m) (w : World) : Calls Try.prog 14 #[.int .i64 x, .int .i64 r, .int .i64 t, .int .i64 z, .int .i64 m] w fun e w' => e = .returned (.bool true) ∧ w' = w := by
  obtain ⟨h1, h2, h3, h4, h5, h6, h7, h8, h9, h10⟩ := h
  go_enter Try.func14, Try.ntmps14
  go_wp2
  go_ret
  exact ⟨rfl, rfl⟩
set_option maxHeartbeats 4000000 in
theorem asked_no (x r t z m : Int) (h : ¬ Akd x r t z m) (w : World) : Calls Try.prog 14 #[.int .i64 x, .int .i64 r, .int .i64 t, .int .i64 z, .int .i64 m] w fun e w' => e = .returned (.bool false) ∧ w' = w := by
  have H : Hid (¬ Akd x r t z m) := h
  clear h
  by_cases h1 : 0 ≤ x
  rotate_left 1
  · clear H
    go_enter Try.func14, Try.ntmps14
    go_wp2
    go_ret
    exact ⟨by first | rfl | simp | (simp; omega), rfl⟩
  by_cases h2 : x < 64
  rotate_left 1
  · clear H
    go_enter Try.func14, Try.ntmps14
    go_wp2
    go_ret
    exact ⟨by first | rfl | simp | (simp; omega), rfl⟩
  by_cases h3 : 0 ≤ r
  rotate_left 1
  · clear H
    go_enter Try.func14, Try.ntmps14
    go_wp2
    go_ret
    exact ⟨by first | rfl | simp | (simp; omega), rfl⟩
  by_cases h4 : r ≤ 256
  rotate_left 1
  · clear H
    go_enter Try.func14, Try.ntmps14
    go_wp2
    go_ret
    exact ⟨by first | rfl | simp | (simp; omega), rfl⟩
  by_cases h5 : 0 ≤ t
  rotate_left 1
  · clear H
    go_enter Try.func14, Try.ntmps14
    go_wp2
    go_ret
    exact ⟨by first | rfl | simp | (simp; omega), rfl⟩
  by_cases h6 : t < 64
  rotate_left 1
  · clear H
    go_enter Try.func14, Try.ntmps14
    go_wp2
    go_ret
    exact ⟨by first | rfl | simp | (simp; omega), rfl⟩
  by_cases h7 : 1 ≤ z
  rotate_left 1
  · clear H
    go_enter Try.func14, Try.ntmps14
    go_wp2
    go_ret
    exact ⟨by first | rfl | simp | (simp; omega), rfl⟩
  by_cases h8 : z ≤ 64
  rotate_left 1
  · clear H
    go_enter Try.func14, Try.ntmps14
    go_wp2
    go_ret
    exact ⟨by first | rfl | simp | (simp; omega), rfl⟩
  by_cases h9 : 1 ≤ m
  rotate_left 1
  · clear H
    go_enter Try.func14, Try.ntmps14
    go_wp2
    go_ret
    exact ⟨by first | rfl | simp | (simp; omega), rfl⟩
  by_cases h10 : m ≤ 4096
  rotate_left 1
  · clear H
    go_enter Try.func14, Try.ntmps14
    go_wp2
    go_ret
    exact ⟨by first | rfl | simp | (simp; omega), rfl⟩
  exact absurd ⟨h1, h2, h3, h4, h5, h6, h7, h8, h9, h10⟩ H.out
end Go.Proofs.Ytaifihfiompgaaa
