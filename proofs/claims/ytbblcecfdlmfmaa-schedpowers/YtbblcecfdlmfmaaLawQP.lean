/-
  SchedPowers: powers, and what they lack to one, are the document's.
-/
import Derived.Test.YtbblcecfdlmfmaaQAwake
import Derived.Test.YtbblcecfdlmfmaaQRefA
set_option linter.unusedVariables false
set_option linter.unusedSimpArgs false
namespace Go.Proofs.Ytbblcecfdlmfmaa
open Go.RowKit

set_option maxRecDepth 100000 in
set_option maxHeartbeats 8000000 in
theorem schedPowers_any (b t : Int) (w : World) :
    Calls Try.prog 4 #[.int .i64 b, .int .i64 t] w fun e w' => e = .returned (.bool true) ∧ Below w.heap.size w w' := by
  have CA : Hid (∀ W : World, Calls Try.prog 9 #[] W fun e w' => e = .returned (.bool true) ∧ Below W.heap.size W w') := awake8_any
  have CP : Hid (∀ W' : World, Calls Try.prog 15 #[.int .i64 b, .int .i64 t] W' fun e w' => e = .returned (.tuple #[.int .i64 (pwA b t), .int .i64 (pwE b t)]) ∧ Below W'.heap.size W' w') := fun W' => powerW_any b t W'
  have CB : Hid (∀ W' : World, Calls Try.prog 16 #[.int .i64 b, .int .i64 t] W' fun e w' => e = .returned (.tuple #[.int .i64 (bsA b t), .int .i64 (pwE b t)]) ∧ Below W'.heap.size W' w') := fun W' => bias_any b t W'
  unfold pwA pwE at CP
  unfold bsA pwE at CB
  go_enter Try.func4, Try.ntmps4
  go_wp2_with fail
  refine (CA.out _).mono ?_
  rintro e w1 ⟨rfl, hb⟩
  have HB1 : Hid (Below w.heap.size w w1) := hb
  clear hb CA
  by_cases h0 : 3000 < t ∧ t ≤ 1048576
  · obtain ⟨h1, h2⟩ := h0
    clear CP CB
    go_wp2
    go_ret
    exact ⟨rfl, HB1.out⟩
  have HT : Hid (¬ (3000 < t ∧ t ≤ 1048576)) := h0
  clear h0
  by_cases h1 : b < 0
  · have hb0 : ¬ (0 ≤ b ∧ b < 4294967296) := by omega
    rw [if_neg hb0, if_neg hb0] at CP
    rw [if_neg hb0, if_neg hb0] at CB
    clear hb0
    by_cases g0 : 3000 < t
    · have g1 : ¬ t ≤ 1048576 := by have := HT.out; omega
      clear HT
      go_wp2_with (first
        | (go_at_call 15; refine (CP.out _).mono ?_; rintro e w2 ⟨rfl, hb⟩; have HB2 : Hid (Below w.heap.size w w2) := bchain HB1.out hb; clear hb)
        | (go_at_call 16; refine (CB.out _).mono ?_; rintro e w3 ⟨rfl, hb⟩; have HB3 : Hid (Below w.heap.size w w3) := bchain HB2.out hb; clear hb))
      go_ret
      exact ⟨rfl, HB3.out⟩
    · clear HT
      go_wp2_with (first
        | (go_at_call 15; refine (CP.out _).mono ?_; rintro e w2 ⟨rfl, hb⟩; have HB2 : Hid (Below w.heap.size w w2) := bchain HB1.out hb; clear hb)
        | (go_at_call 16; refine (CB.out _).mono ?_; rintro e w3 ⟨rfl, hb⟩; have HB3 : Hid (Below w.heap.size w w3) := bchain HB2.out hb; clear hb))
      go_ret
      exact ⟨rfl, HB3.out⟩
  by_cases h2 : 4294967296 ≤ b
  · have hb0 : ¬ (0 ≤ b ∧ b < 4294967296) := by omega
    rw [if_neg hb0, if_neg hb0] at CP
    rw [if_neg hb0, if_neg hb0] at CB
    clear hb0
    by_cases g0 : 3000 < t
    · have g1 : ¬ t ≤ 1048576 := by have := HT.out; omega
      clear HT
      go_wp2_with (first
        | (go_at_call 15; refine (CP.out _).mono ?_; rintro e w2 ⟨rfl, hb⟩; have HB2 : Hid (Below w.heap.size w w2) := bchain HB1.out hb; clear hb)
        | (go_at_call 16; refine (CB.out _).mono ?_; rintro e w3 ⟨rfl, hb⟩; have HB3 : Hid (Below w.heap.size w w3) := bchain HB2.out hb; clear hb))
      go_ret
      exact ⟨rfl, HB3.out⟩
    · clear HT
      go_wp2_with (first
        | (go_at_call 15; refine (CP.out _).mono ?_; rintro e w2 ⟨rfl, hb⟩; have HB2 : Hid (Below w.heap.size w w2) := bchain HB1.out hb; clear hb)
        | (go_at_call 16; refine (CB.out _).mono ?_; rintro e w3 ⟨rfl, hb⟩; have HB3 : Hid (Below w.heap.size w w3) := bchain HB2.out hb; clear hb))
      go_ret
      exact ⟨rfl, HB3.out⟩
  have hb0 : 0 ≤ b ∧ b < 4294967296 := by omega
  rw [if_pos hb0, if_pos hb0] at CP
  rw [if_pos hb0, if_pos hb0] at CB
  by_cases h3 : t < 0
  · have g0 : ¬ 3000 < t := by omega
    have ht0 : ¬ (0 ≤ t ∧ t ≤ 1048576) := by omega
    rw [if_neg ht0, if_neg ht0] at CP
    rw [if_neg ht0, if_neg ht0] at CB
    clear ht0 hb0
    clear HT
    go_wp2_with (first
      | (go_at_call 15; refine (CP.out _).mono ?_; rintro e w2 ⟨rfl, hb⟩; have HB2 : Hid (Below w.heap.size w w2) := bchain HB1.out hb; clear hb)
      | (go_at_call 16; refine (CB.out _).mono ?_; rintro e w3 ⟨rfl, hb⟩; have HB3 : Hid (Below w.heap.size w w3) := bchain HB2.out hb; clear hb))
    go_ret
    exact ⟨rfl, HB3.out⟩
  by_cases h4 : 1048576 < t
  · have g0 : 3000 < t := by omega
    have g1 : ¬ t ≤ 1048576 := by omega
    have ht0 : ¬ (0 ≤ t ∧ t ≤ 1048576) := by omega
    rw [if_neg ht0, if_neg ht0] at CP
    rw [if_neg ht0, if_neg ht0] at CB
    clear ht0 hb0
    clear HT
    go_wp2_with (first
      | (go_at_call 15; refine (CP.out _).mono ?_; rintro e w2 ⟨rfl, hb⟩; have HB2 : Hid (Below w.heap.size w w2) := bchain HB1.out hb; clear hb)
      | (go_at_call 16; refine (CB.out _).mono ?_; rintro e w3 ⟨rfl, hb⟩; have HB3 : Hid (Below w.heap.size w w3) := bchain HB2.out hb; clear hb))
    go_ret
    exact ⟨rfl, HB3.out⟩
  have ht0 : 0 ≤ t ∧ t ≤ 1048576 := by omega
  rw [if_pos ht0, if_pos ht0] at CP
  rw [if_pos ht0, if_pos ht0] at CB
  have g0 : ¬ 3000 < t := by have := HT.out; omega
  have CR : Hid (∀ W' : World, Calls Try.prog 17 #[.int .i64 b, .int .i64 t] W' fun e w' => e = .returned (.int .i64 (pwN b t.toNat)) ∧ Below W'.heap.size W' w') := fun W' => by
    have h' := refPower_any b t.toNat W' hb0.1 hb0.2 (by omega)
    rw [show ((t.toNat : Nat) : Int) = t by omega] at h'
    exact h'
  have hin := pwN_in b hb0.1 hb0.2 t.toNat
  generalize pwN b t.toNat = R at *
  have hw : IntKind.i64.wrap (4294967296 - R) = 4294967296 - R := by rw [IntKind.wrap_i64]; omega
  clear hb0 ht0 HT
  go_wp2_with (first
    | (go_at_call 15; refine (CP.out _).mono ?_; rintro e w2 ⟨rfl, hb⟩; have HB2 : Hid (Below w.heap.size w w2) := bchain HB1.out hb; clear hb)
    | (go_at_call 16; refine (CB.out _).mono ?_; rintro e w3 ⟨rfl, hb⟩; have HB3 : Hid (Below w.heap.size w w3) := bchain HB2.out hb; clear hb)
    | (go_at_call 17; refine (CR.out _).mono ?_; rintro e w4 ⟨rfl, hb⟩; have HB4 : Hid (Below w.heap.size w w4) := bchain HB3.out hb; clear hb))
  go_ret
  exact ⟨rfl, HB4.out⟩
end Go.Proofs.Ytbblcecfdlmfmaa
