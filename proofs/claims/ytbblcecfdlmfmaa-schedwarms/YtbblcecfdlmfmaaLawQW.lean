/-
  SchedWarms: up to the last warm step rates never fall, and never are above the base; behind it they never rise.
-/
import Derived.Test.YtbblcecfdlmfmaaQAwake
set_option linter.unusedVariables false
set_option linter.unusedSimpArgs false
namespace Go.Proofs.Ytbblcecfdlmfmaa
open Go.RowKit

set_option maxRecDepth 100000 in
set_option maxHeartbeats 8000000 in
theorem schedWarms_any (B W : Int) (v : Value) (n : Nat) (at' fa : Nat → Int) (t : Int) (w : World) (hA : Drp w v n at' fa) (B1 : B ≤ 9223372036854775807) :
    Calls Try.prog 7 #[.agg #[.int .i64 B, .int .i64 W, v], .int .i64 t] w fun e w' => e = .returned (.bool true) ∧ Below w.heap.size w w' := by
  have CA : Hid (∀ W : World, Calls Try.prog 9 #[] W fun e w' => e = .returned (.bool true) ∧ Below W.heap.size W w') := awake8_any
  have CR : Hid (RO B W n at' fa → ∀ s : Int, 1 ≤ s → s ≤ 1048576 → ∀ W' : World, Below w.heap.size w W' → Calls Try.prog 11 #[.agg #[.int .i64 B, .int .i64 W, v], .int .i64 s] W' fun e w' => e = .returned (.tuple #[.int .i64 (rtV B W n at' fa s), .int .i64 0]) ∧ Below W'.heap.size W' w') := fun h s s0 s1 W' hb => rate_ok B W v n at' fa s W' (hA.later hb) h B1 s0 s1
  have CY : Hid (RO B W n at' fa → ∀ W' : World, Below w.heap.size w W' → Calls Try.prog 13 #[.agg #[.int .i64 B, .int .i64 W, v]] W' fun e w' => e = .returned (.int .i64 0) ∧ Below W'.heap.size W' w') := fun h W' hb => checkRates_yes B W v n at' fa W' (hA.later hb) h
  have CN : Hid (¬ RO B W n at' fa → ∀ W' : World, Below w.heap.size w W' → Calls Try.prog 13 #[.agg #[.int .i64 B, .int .i64 W, v]] W' fun e w' => e = .returned (.int .i64 80) ∧ Below W'.heap.size W' w') := fun h W' hb => checkRates_no B W v n at' fa W' (hA.later hb) h
  obtain ⟨adr, cap, b, o, rfl, k1, k2, -, -⟩ := hA
  unfold maxLen at k2
  obtain ⟨w1, hw1⟩ : ∃ w1, w1 = w.alloc (.cells #[.int .i64 B, .int .i64 W, .slice adr n cap] 25) := ⟨_, rfl⟩
  have HB1 : Hid (Below w.heap.size w w1) := by rw [hw1]; exact bel1 _ _
  have HQ := Q3.new w (.int .i64 B) (.int .i64 W) (.slice adr n cap) 25
  rw [← hw1] at HQ
  go_enter Try.func7, Try.ntmps7
  go_upto_region 1 with fail
  rw [← hw1]
  clear hw1
  go_wp2_with fail
  refine (CA.out _).mono ?_
  rintro e w2 ⟨rfl, hb⟩
  have HB2 : Hid (Below w.heap.size w w2) := bchain HB1.out hb
  replace HQ := HQ.later hb
  have x0 := HQ.c0
  have x1 := HQ.c1
  have x2 := HQ.c2
  clear hb CA HB1
  by_cases hn : 40 < n
  · have hnI : (40 : Int) < (n : Int) := by omega
    go_wp2
    go_ret
    exact ⟨rfl, HB2.out⟩
  have hnI : ¬ (40 : Int) < (n : Int) := by omega
  by_cases hp : RO B W n at' fa
  · have CC : Hid (∀ W' : World, Below w.heap.size w W' → Calls Try.prog 13 #[.agg #[.int .i64 B, .int .i64 W, .slice adr n cap]] W' fun e w' => e = .returned (.int .i64 0) ∧ Below W'.heap.size W' w') := CY.out hp
    have CR2 := CR.out hp
    have CR3 : Hid (∀ s : Int, 1 ≤ s → s ≤ 1048576 → ∀ W' : World, Below w.heap.size w W' → Calls Try.prog 11 #[.agg #[.int .i64 B, .int .i64 W, .slice adr n cap], .int .i64 s] W' fun e w' => e = .returned (.tuple #[.int .i64 (rtV B W n at' fa s), .int .i64 0]) ∧ Below W'.heap.size W' w') := CR2
    have HPO : Hid (RO B W n at' fa) := hp
    clear CY CN CR CR2 hp
    go_wp2_with fail
    refine (CC.out _ HB2.out).mono ?_
    rintro e w3 ⟨rfl, hb⟩
    have HB3 : Hid (Below w.heap.size w w3) := bchain HB2.out hb
    replace HQ := HQ.later hb
    replace x0 := HQ.c0
    replace x1 := HQ.c1
    replace x2 := HQ.c2
    clear hb HB2 CC
    by_cases q1 : t < 1
    · go_wp2
      go_ret
      exact ⟨rfl, HB3.out⟩
    by_cases q2 : 1048576 ≤ t
    · go_wp2
      go_ret
      exact ⟨rfl, HB3.out⟩
    have C1 := CR3.out t (by omega) (by omega)
    have C2 := CR3.out (t + 1) (by omega) (by omega)
    obtain ⟨r0, r1⟩ := rtV_in B W t HPO.out B1 (by omega)
    obtain ⟨s0, s1⟩ := rtV_in B W (t + 1) HPO.out B1 (by omega)
    have HF : Hid (W ≤ t → rtV B W n at' fa (t + 1) ≤ rtV B W n at' fa t) := fun h => rtV_fall B W t HPO.out B1 (by omega) h
    have HG : Hid (t < W → n = 0 → rtV B W n at' fa t ≤ rtV B W n at' fa (t + 1)) := fun h h0 => by
      subst h0
      exact rtV_rise B W t HPO.out (by omega) h
    have D1 : Hid (∀ W' : World, Below w.heap.size w W' → Calls Try.prog 11 #[.agg #[.int .i64 B, .int .i64 W, .slice adr n cap], .int .i64 t] W' fun e w' => e = .returned (.tuple #[.int .i64 (rtV B W n at' fa t), .int .i64 0]) ∧ Below W'.heap.size W' w') := C1
    have D2 : Hid (∀ W' : World, Below w.heap.size w W' → Calls Try.prog 11 #[.agg #[.int .i64 B, .int .i64 W, .slice adr n cap], .int .i64 (t + 1)] W' fun e w' => e = .returned (.tuple #[.int .i64 (rtV B W n at' fa (t + 1)), .int .i64 0]) ∧ Below W'.heap.size W' w') := C2
    have ww : IntKind.i64.wrap (t + 1) = t + 1 := by rw [IntKind.wrap_i64]; omega
    clear C1 C2 CR3
    generalize rtV B W n at' fa (t + 1) = Y at *
    generalize rtV B W n at' fa t = X at *
    go_wp2_with fail
    refine (D1.out _ HB3.out).mono ?_
    rintro e w4 ⟨rfl, hb⟩
    have HB4 : Hid (Below w.heap.size w w4) := bchain HB3.out hb
    replace HQ := HQ.later hb
    replace x0 := HQ.c0
    replace x1 := HQ.c1
    replace x2 := HQ.c2
    clear hb HB3 D1
    go_wp2_with fail
    refine (D2.out _ HB4.out).mono ?_
    rintro e w5 ⟨rfl, hb⟩
    have HB5 : Hid (Below w.heap.size w w5) := bchain HB4.out hb
    replace HQ := HQ.later hb
    replace x0 := HQ.c0
    replace x1 := HQ.c1
    replace x2 := HQ.c2
    clear hb HB4 D2
    have g1 : ¬ X < 0 := by omega
    have g2 : ¬ Y < 0 := by omega
    have g3 : ¬ B < X := by omega
    have g4 : ¬ B < Y := by omega
    by_cases q3 : W ≤ t
    · have hf := HF.out q3
      clear HF HG
      go_wp2
      go_ret
      exact ⟨rfl, HB5.out⟩
    · by_cases q4 : 0 < n
      · have q4I : (0 : Int) < (n : Int) := by omega
        clear HF HG
        go_wp2
        go_ret
        exact ⟨rfl, HB5.out⟩
      · have q4I : ¬ (0 : Int) < (n : Int) := by omega
        have hf := HG.out (by omega) (by omega)
        clear HF HG
        go_wp2
        go_ret
        exact ⟨rfl, HB5.out⟩
  · have CC : Hid (∀ W' : World, Below w.heap.size w W' → Calls Try.prog 13 #[.agg #[.int .i64 B, .int .i64 W, .slice adr n cap]] W' fun e w' => e = .returned (.int .i64 80) ∧ Below W'.heap.size W' w') := CN.out hp
    clear CY CN CR hp
    go_wp2_with fail
    refine (CC.out _ HB2.out).mono ?_
    rintro e w3 ⟨rfl, hb⟩
    have HB3 : Hid (Below w.heap.size w w3) := bchain HB2.out hb
    clear hb HB2 CC
    go_wp2
    go_ret
    exact ⟨rfl, HB3.out⟩
end Go.Proofs.Ytbblcecfdlmfmaa
