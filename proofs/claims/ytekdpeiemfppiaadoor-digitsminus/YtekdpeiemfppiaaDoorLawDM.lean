/-
  DigitsMinus: for every text s the law regattalaw03.DigitsMinus returns true: a minus sign ahead turns a number about nought: exactly, but for the end that has no other side. No condition.
-/
import Derived.Test.YtekdpeiemfppiaaDoorDAwake
import Derived.Test.YtekdpeiemfppiaaDoorDMathD
set_option linter.unusedVariables false
set_option linter.unusedSimpArgs false
namespace Go.Proofs.YtekdpeiemfppiaaDoor
open Go.RowKit

/-- What Parts answers, its four parts apart. -/
theorem sparts_four (l : List UInt8) (hl : l.length ≤ 9223372036854775807) : ∃ (B : Bool) (A E : List UInt8) (K : Bool), K = pOk l ∧ (K = true → B = pB l ∧ A = pA l ∧ E = bE l) ∧ ∀ W : World, Calls Tryd.prog 18 #[.string (bs l)] W fun e w' => e = .returned (.tuple #[.bool B, .string (bs A), .string (bs E), .bool K]) ∧ Below W.heap.size W w' := by
  have PT := sparts_any l hl
  cases hO : pO l
  · rw [hO] at PT
    exact ⟨false, [], [], false, by unfold pOk; rw [hO]; rfl, (fun h => by cases h), PT⟩
  · refine ⟨pB l, pA l, bE l, pOk l, rfl, fun _ => ⟨rfl, rfl, rfl⟩, ?_⟩
    intro W
    have h := PT W
    rw [if_pos hO] at h
    unfold pOk
    rw [hO]
    exact h
set_option maxHeartbeats 2000000 in
theorem digitsMinus_walk (l : List UInt8) (hl : l.length ≤ maxLen) (w : World) :
    Calls Tryd.prog 8 #[.string (bs l)] w fun e w' => e = .returned (.bool true) ∧ Below w.heap.size w w' := by
  have z := bs_size l
  unfold maxLen at hl
  obtain ⟨B, A, E, K, hK, hBAE, PT⟩ := sparts_four l (by omega)
  have P0 : Hid (∀ W : World, Calls Tryd.prog 18 #[.string (bs l)] W fun e w' => e = .returned (.tuple #[.bool B, .string (bs A), .string (bs E), .bool K]) ∧ Below W.heap.size W w') := PT
  clear PT
  cases K
  · clear hBAE hK
    go_enter Tryd.func8, Tryd.ntmps8
    go_wp2_with fail
    refine (dawake_any _).mono ?_
    rintro e w1 ⟨rfl, W1⟩
    go_wp2_with fail
    refine (P0.out _).mono ?_
    rintro e w2 ⟨rfl, hb⟩
    have W2 := bchain W1 hb
    clear hb W1 P0
    go_wp2
    go_ret
    exact ⟨rfl, W2⟩
  · obtain ⟨hB, -, -⟩ := hBAE rfl
    clear hBAE
    cases B
    · by_cases h300 : (300 : Int) < (l.length : Int)
      · clear hK hB
        go_enter Tryd.func8, Tryd.ntmps8
        go_wp2_with fail
        refine (dawake_any _).mono ?_
        rintro e w1 ⟨rfl, W1⟩
        go_wp2_with fail
        refine (P0.out _).mono ?_
        rintro e w2 ⟨rfl, hb⟩
        have W2 := bchain W1 hb
        clear hb W1 P0
        go_wp2
        go_ret
        exact ⟨rfl, W2⟩
      · obtain ⟨m1, m2, m3, m4⟩ := minus_parts l hK.symm hB.symm
        have z2 : (ByteArray.mk #[45]).size = 1 := rfl
        have e0 : ByteArray.mk #[45] ++ bs l = bs (45 :: l) := bs_app [45] l
        have P1 := fun W => gparse_any l (by omega) W
        have P2 := fun W => gparse_any (45 :: l) (by rw [List.length_cons]; omega) W
        cases hL : pL l
        · obtain ⟨a1, a2, a3⟩ := pOk_good l hK.symm hL
          obtain ⟨b1, b2, b3⟩ := pOk_good (45 :: l) m1 (by rw [m2]; exact hL)
          rw [a1, a2, a3] at P1
          rw [b1, b2, b3, m3] at P2
          cases ho : ovv (pV l)
          · have hin : pV l ≤ 9223372036854775807 := by
              unfold ovv at ho
              simp at ho
              exact ho.2
            have hc := clv_in (pV l) (by omega) hin
            have hc2 := clv_in (-(pV l)) (by omega) (by omega)
            rw [hc.1, ho] at P1
            rw [hc2.1, hc2.2] at P2
            generalize pV l = V at *
            have Q1 : Hid (∀ W : World, Calls Tryd.prog 12 #[.string (bs l)] W fun e w' => e = .returned (.tuple #[.int .i64 V, .bool false, .int .i64 0]) ∧ Below W.heap.size W w') := P1
            have Q2 : Hid (∀ W : World, Calls Tryd.prog 12 #[.string (bs (45 :: l))] W fun e w' => e = .returned (.tuple #[.int .i64 (-V), .bool false, .int .i64 0]) ∧ Below W.heap.size W w') := P2
            clear P1 P2 hc hc2 ho hL hK hB m1 m2 m3 a1 a2 a3 b1 b2 b3
            go_enter Tryd.func8, Tryd.ntmps8
            go_wp2_with fail
            refine (dawake_any _).mono ?_
            rintro e w1 ⟨rfl, W1⟩
            go_wp2_with fail
            refine (P0.out _).mono ?_
            rintro e w2 ⟨rfl, hb⟩
            have W2 := bchain W1 hb
            clear hb W1 P0
            go_wp2_with fail
            refine (Q1.out _).mono ?_
            rintro e w3 ⟨rfl, hb⟩
            have W3 := bchain W2 hb
            clear hb W2 Q1
            go_wp2_with fail
            refine (Q2.out _).mono ?_
            rintro e w4 ⟨rfl, hb⟩
            have W4 := bchain W3 hb
            clear hb W3 Q2
            go_wp2
            go_ret
            exact ⟨rfl, W4⟩
          · have hout : 9223372036854775807 < pV l := by
              unfold ovv at ho
              simp at ho
              omega
            have hc2 : clv (-(pV l)) = -9223372036854775808 := by
              unfold clv
              split
              · rfl
              · split <;> omega
            rw [ho] at P1
            rw [hc2] at P2
            generalize clv (pV l) = V1 at *
            generalize ovv (-(pV l)) = o2 at *
            have Q1 : Hid (∀ W : World, Calls Tryd.prog 12 #[.string (bs l)] W fun e w' => e = .returned (.tuple #[.int .i64 V1, .bool true, .int .i64 0]) ∧ Below W.heap.size W w') := P1
            have Q2 : Hid (∀ W : World, Calls Tryd.prog 12 #[.string (bs (45 :: l))] W fun e w' => e = .returned (.tuple #[.int .i64 (-9223372036854775808), .bool o2, .int .i64 0]) ∧ Below W.heap.size W w') := P2
            clear P1 P2 hc2 ho hL hK hB m1 m2 m3 a1 a2 a3 b1 b2 b3 hout m4
            go_enter Tryd.func8, Tryd.ntmps8
            go_wp2_with fail
            refine (dawake_any _).mono ?_
            rintro e w1 ⟨rfl, W1⟩
            go_wp2_with fail
            refine (P0.out _).mono ?_
            rintro e w2 ⟨rfl, hb⟩
            have W2 := bchain W1 hb
            clear hb W1 P0
            go_wp2_with fail
            refine (Q1.out _).mono ?_
            rintro e w3 ⟨rfl, hb⟩
            have W3 := bchain W2 hb
            clear hb W2 Q1
            go_wp2_with fail
            refine (Q2.out _).mono ?_
            rintro e w4 ⟨rfl, hb⟩
            have W4 := bchain W3 hb
            clear hb W3 Q2
            go_wp2
            go_ret
            exact ⟨rfl, W4⟩
        · obtain ⟨a1, a2, a3⟩ := pOk_long l hK.symm hL
          obtain ⟨b1, b2, b3⟩ := pOk_long (45 :: l) m1 (by rw [m2]; exact hL)
          rw [a1, a2, a3] at P1
          rw [b1, b2, b3] at P2
          have Q1 : Hid (∀ W : World, Calls Tryd.prog 12 #[.string (bs l)] W fun e w' => e = .returned (.tuple #[.int .i64 0, .bool false, .int .i64 31]) ∧ Below W.heap.size W w') := P1
          have Q2 : Hid (∀ W : World, Calls Tryd.prog 12 #[.string (bs (45 :: l))] W fun e w' => e = .returned (.tuple #[.int .i64 0, .bool false, .int .i64 31]) ∧ Below W.heap.size W w') := P2
          clear P1 P2 hL hK hB m1 m2 m3 a1 a2 a3 b1 b2 b3 m4
          go_enter Tryd.func8, Tryd.ntmps8
          go_wp2_with fail
          refine (dawake_any _).mono ?_
          rintro e w1 ⟨rfl, W1⟩
          go_wp2_with fail
          refine (P0.out _).mono ?_
          rintro e w2 ⟨rfl, hb⟩
          have W2 := bchain W1 hb
          clear hb W1 P0
          go_wp2_with fail
          refine (Q1.out _).mono ?_
          rintro e w3 ⟨rfl, hb⟩
          have W3 := bchain W2 hb
          clear hb W2 Q1
          go_wp2_with fail
          refine (Q2.out _).mono ?_
          rintro e w4 ⟨rfl, hb⟩
          have W4 := bchain W3 hb
          clear hb W3 Q2
          go_wp2
          go_ret
          exact ⟨rfl, W4⟩
    · clear hK hB
      go_enter Tryd.func8, Tryd.ntmps8
      go_wp2_with fail
      refine (dawake_any _).mono ?_
      rintro e w1 ⟨rfl, W1⟩
      go_wp2_with fail
      refine (P0.out _).mono ?_
      rintro e w2 ⟨rfl, hb⟩
      have W2 := bchain W1 hb
      clear hb W1 P0
      go_wp2
      go_ret
      exact ⟨rfl, W2⟩
end Go.Proofs.YtekdpeiemfppiaaDoor
