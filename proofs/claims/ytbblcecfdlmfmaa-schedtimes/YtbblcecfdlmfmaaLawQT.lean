/-
  SchedTimes: a power is the one ahead times beta; it never rises, and never is below nought.
-/
import Derived.Test.YtbblcecfdlmfmaaQAwake
set_option linter.unusedVariables false
set_option linter.unusedSimpArgs false
namespace Go.Proofs.Ytbblcecfdlmfmaa
open Go.RowKit

set_option maxRecDepth 100000 in
set_option maxHeartbeats 8000000 in
theorem schedTimes_any (b t : Int) (w : World) :
    Calls Try.prog 8 #[.int .i64 b, .int .i64 t] w fun e w' => e = .returned (.bool true) ∧ Below w.heap.size w w' := by
  have CA : Hid (∀ W : World, Calls Try.prog 9 #[] W fun e w' => e = .returned (.bool true) ∧ Below W.heap.size W w') := awake8_any
  go_enter Try.func8, Try.ntmps8
  go_wp2_with fail
  refine (CA.out _).mono ?_
  rintro e w1 ⟨rfl, hb⟩
  have HB1 : Hid (Below w.heap.size w w1) := hb
  clear hb CA
  by_cases h1 : b < 0
  · go_wp2
    go_ret
    exact ⟨rfl, HB1.out⟩
  by_cases h2 : 4294967296 ≤ b
  · go_wp2
    go_ret
    exact ⟨rfl, HB1.out⟩
  by_cases h3 : t < 0
  · go_wp2
    go_ret
    exact ⟨rfl, HB1.out⟩
  by_cases h4 : 3000 < t
  · go_wp2
    go_ret
    exact ⟨rfl, HB1.out⟩
  have hb0 : 0 ≤ b ∧ b < 4294967296 := by omega
  have ht0 : 0 ≤ t ∧ t ≤ 1048576 := by omega
  have ht1 : 0 ≤ t + 1 ∧ t + 1 ≤ 1048576 := by omega
  have CP : Hid (∀ W' : World, Calls Try.prog 15 #[.int .i64 b, .int .i64 t] W' fun e w' => e = .returned (.tuple #[.int .i64 (pwN b t.toNat), .int .i64 0]) ∧ Below W'.heap.size W' w') := fun W' => by
    have h' := powerW_any b t W'
    unfold pwA pwE at h'
    rw [if_pos hb0, if_pos hb0, if_pos ht0, if_pos ht0] at h'
    exact h'
  have CQ : Hid (∀ W' : World, Calls Try.prog 15 #[.int .i64 b, .int .i64 (t + 1)] W' fun e w' => e = .returned (.tuple #[.int .i64 (pwN b (t.toNat + 1)), .int .i64 0]) ∧ Below W'.heap.size W' w') := fun W' => by
    have h' := powerW_any b (t + 1) W'
    unfold pwA pwE at h'
    rw [if_pos hb0, if_pos hb0, if_pos ht1, if_pos ht1, show (t + 1).toNat = t.toNat + 1 by omega] at h'
    exact h'
  have hin := pwN_in b hb0.1 hb0.2 t.toNat
  have hin2 := pwN_in b hb0.1 hb0.2 (t.toNat + 1)
  have hfall := pwN_fall b hb0.1 hb0.2 t.toNat
  have hone : t.toNat = 0 → pwN b t.toNat = 4294967296 := fun h => by rw [h]; rfl
  have CM : Hid (∀ W' : World, Calls Try.prog 25 #[.int .i64 (pwN b t.toNat), .int .i64 b] W' fun e w' => e = .returned (.tuple #[.int .i64 (pwN b (t.toNat + 1)), .bool (ovv (rnd (pwN b t.toNat * b) 32))]) ∧ Below W'.heap.size W' w') := fun W' => fmul_any (pwN b t.toNat) b (by omega) (by omega) (by omega) (by omega) W'
  have ww : IntKind.i64.wrap (t + 1) = t + 1 := by rw [IntKind.wrap_i64]; omega
  generalize ovv (rnd (pwN b t.toNat * b) 32) = ob at *
  generalize pwN b (t.toNat + 1) = Y at *
  generalize pwN b t.toNat = X at *
  have hX0 : t ≤ 0 → X = 4294967296 := fun h => hone (by omega)
  clear hone hb0 ht0 ht1
  have HXH : Hid (t ≤ 0 → X = 4294967296) := hX0
  have hY0 : 0 ≤ Y := hin2.1
  clear hX0 hin hin2
  go_wp2_with fail
  refine (CP.out _).mono ?_
  rintro e w2 ⟨rfl, hb⟩
  have HB2 : Hid (Below w.heap.size w w2) := bchain HB1.out hb
  clear hb CP HB1
  go_wp2_with fail
  refine (CQ.out _).mono ?_
  rintro e w3 ⟨rfl, hb⟩
  have HB3 : Hid (Below w.heap.size w w3) := bchain HB2.out hb
  clear hb CQ HB2
  go_wp2_with fail
  refine (CM.out _).mono ?_
  rintro e w4 ⟨rfl, hb⟩
  have HB4 : Hid (Below w.heap.size w w4) := bchain HB3.out hb
  clear hb CM HB3
  by_cases h5 : 0 < t
  · clear HXH
    go_wp2
    go_ret
    exact ⟨rfl, HB4.out⟩
  · have e1 := HXH.out (by omega)
    subst e1
    go_wp2
    go_ret
    exact ⟨rfl, HB4.out⟩
end Go.Proofs.Ytbblcecfdlmfmaa
