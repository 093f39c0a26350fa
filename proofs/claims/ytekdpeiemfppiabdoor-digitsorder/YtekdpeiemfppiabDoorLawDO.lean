/-
  DigitsOrder: for all texts s, t the law regattalaw03.DigitsOrder returns true: of two texts with as many digits ahead of the point and behind it the one that is greater as a text is no less as a number. No condition.
-/
import Derived.Test.YtekdpeiemfppiabDoorLawDM
import Derived.Test.YtekdpeiemfppiabDoorDMathE
set_option linter.unusedVariables false
set_option linter.unusedSimpArgs false
namespace Go.Proofs.YtekdpeiemfppiabDoor
open Go.RowKit

theorem ok_len (l : List UInt8) (h : pOk l = true) (hB : pB l = false) : l.length ≤ (pA l).length + (bE l).length + 1 ∧ (pA l).length ≤ l.length ∧ (bE l).length ≤ l.length := by
  obtain ⟨-, -, -, -, h5⟩ := ok_parts l h
  have e := congrArg List.length h5
  unfold mk at e
  rw [hB] at e
  simp only [Bool.false_eq_true, if_false, List.nil_append, List.length_append] at e
  cases hw : (!pW l)
  · rw [hw] at e
    simp at e
    have hb : bE l = [] := (ok_parts l h).2.2.2.1 hw
    rw [hb]
    simp
    omega
  · rw [hw] at e
    simp at e
    omega
set_option maxRecDepth 100000 in
set_option maxHeartbeats 4000000 in
theorem digitsOrder_walk (l t : List UInt8) (hl : l.length ≤ maxLen) (ht : t.length ≤ maxLen) (w : World) :
    Calls Tryd.prog 3 #[.string (bs l), .string (bs t)] w fun e w' => e = .returned (.bool true) ∧ Below w.heap.size w w' := by
  have z := bs_size l
  have zt := bs_size t
  have el := bs_toList l
  have et := bs_toList t
  unfold maxLen at hl ht
  obtain ⟨B, A, E, K, hK, hBAE, PT⟩ := sparts_four l (by omega)
  obtain ⟨B', A', E', K', hK', hBAE', PT'⟩ := sparts_four t (by omega)
  have zA := bs_size A
  have zA' := bs_size A'
  have zE := bs_size E
  have zE' := bs_size E'
  have P0 : Hid (∀ W : World, Calls Tryd.prog 5 #[.string (bs l)] W fun e w' => e = .returned (.tuple #[.bool B, .string (bs A), .string (bs E), .bool K]) ∧ Below W.heap.size W w') := PT
  have R0 : Hid (∀ W : World, Calls Tryd.prog 5 #[.string (bs t)] W fun e w' => e = .returned (.tuple #[.bool B', .string (bs A'), .string (bs E'), .bool K']) ∧ Below W.heap.size W w') := PT'
  clear PT PT'
  cases K
  · clear hBAE hK hBAE' hK'
    go_enter Tryd.func3, Tryd.ntmps3
    go_wp2_with fail
    refine (dawake_any _).mono ?_
    rintro e w1 ⟨rfl, W1⟩
    go_wp2_with fail
    refine (P0.out _).mono ?_
    rintro e w2 ⟨rfl, hb⟩
    have W2 := bchain W1 hb
    clear hb W1 P0
    go_wp2_with fail
    refine (R0.out _).mono ?_
    rintro e w3 ⟨rfl, hb⟩
    have W3 := bchain W2 hb
    clear hb W2 R0
    go_wp2
    go_ret
    exact ⟨rfl, W3⟩
  · cases K'
    · clear hBAE hK hBAE' hK'
      go_enter Tryd.func3, Tryd.ntmps3
      go_wp2_with fail
      refine (dawake_any _).mono ?_
      rintro e w1 ⟨rfl, W1⟩
      go_wp2_with fail
      refine (P0.out _).mono ?_
      rintro e w2 ⟨rfl, hb⟩
      have W2 := bchain W1 hb
      clear hb W1 P0
      go_wp2_with fail
      refine (R0.out _).mono ?_
      rintro e w3 ⟨rfl, hb⟩
      have W3 := bchain W2 hb
      clear hb W2 R0
      go_wp2
      go_ret
      exact ⟨rfl, W3⟩
    · obtain ⟨hB, hA, hE⟩ := hBAE rfl
      obtain ⟨hB', hA', hE'⟩ := hBAE' rfl
      clear hBAE hBAE'
      cases B
      · cases B'
        · by_cases c1 : (A.length : Int) = (A'.length : Int)
          · by_cases c2 : (E.length : Int) = (E'.length : Int)
            · by_cases c3 : (300 : Int) < (l.length : Int)
              · have c1b : ((A.length : Int) != (A'.length : Int)) = false := by simpa using c1
                have c2b : ((E.length : Int) != (E'.length : Int)) = false := by simpa using c2
                clear hK hK' hB hB' hA hA' hE hE' c1 c2
                go_enter Tryd.func3, Tryd.ntmps3
                go_wp2_with fail
                refine (dawake_any _).mono ?_
                rintro e w1 ⟨rfl, W1⟩
                go_wp2_with fail
                refine (P0.out _).mono ?_
                rintro e w2 ⟨rfl, hb⟩
                have W2 := bchain W1 hb
                clear hb W1 P0
                go_wp2_with fail
                refine (R0.out _).mono ?_
                rintro e w3 ⟨rfl, hb⟩
                have W3 := bchain W2 hb
                clear hb W2 R0
                go_wp2
                go_ret
                exact ⟨rfl, W3⟩
              · have hlA : (pA l).length = (pA t).length := by rw [← hA, ← hA']; omega
                have hlE : (bE l).length = (bE t).length := by rw [← hE, ← hE']; omega
                obtain ⟨o1, o2⟩ := order_read l t hK.symm hK'.symm hB.symm hB'.symm hlA hlE
                obtain ⟨-, o3⟩ := order_read t l hK'.symm hK.symm hB'.symm hB.symm hlA.symm hlE.symm
                have s1 := ok_len l hK.symm hB.symm
                have s2 := ok_len t hK'.symm hB'.symm
                have P1 := fun W => gparse_any l (by omega) W
                have P2 := fun W => gparse_any t (by omega) W
                rw [← o1] at P2
                have c1b : ((A.length : Int) != (A'.length : Int)) = false := by simpa using c1
                have c2b : ((E.length : Int) != (E'.length : Int)) = false := by simpa using c2
                have hx := congrArg prX (show l = l from rfl)
                have hxe : l = t → prX l = prX t := fun h => by rw [h]
                have htri : Op.bytesLess l t = false → l ≠ t → Op.bytesLess t l = true := less_tri l t
                generalize prX l = X at *
                generalize prX t = Y at *
                generalize prH l = H1 at *
                generalize prH t = H2 at *
                generalize prE l = F at *
                have Q1 : Hid (∀ W : World, Calls Tryd.prog 6 #[.string (bs l)] W fun e w' => e = .returned (.tuple #[.int .i64 X, .bool H1, .int .i64 F]) ∧ Below W.heap.size W w') := P1
                have Q2 : Hid (∀ W : World, Calls Tryd.prog 6 #[.string (bs t)] W fun e w' => e = .returned (.tuple #[.int .i64 Y, .bool H2, .int .i64 F]) ∧ Below W.heap.size W w') := P2
                clear P1 P2 hK hK' hB hB' hA hA' hE hE' c1 c2 o1 s1 s2 hx hlA hlE
                by_cases hF : F = 0
                · have hFb : (F == 0) = true := by simpa using hF
                  have hFn : (F != 0) = false := by simp [hF]
                  by_cases heq : l = t
                  · have hXY := hxe heq
                    have hb : (l == t) = true := by simpa using heq
                    have hxb : (X == Y) = true := by simpa using hXY
                    clear o2 o3 hxe htri heq hXY hF
                    go_enter Tryd.func3, Tryd.ntmps3
                    go_wp2_with fail
                    refine (dawake_any _).mono ?_
                    rintro e w1 ⟨rfl, W1⟩
                    go_wp2_with fail
                    refine (P0.out _).mono ?_
                    rintro e w2 ⟨rfl, hb⟩
                    have W2 := bchain W1 hb
                    clear hb W1 P0
                    go_wp2_with fail
                    refine (R0.out _).mono ?_
                    rintro e w3 ⟨rfl, hb⟩
                    have W3 := bchain W2 hb
                    clear hb W2 R0
                    go_wp2_with fail
                    refine (Q1.out _).mono ?_
                    rintro e w4 ⟨rfl, hb⟩
                    have W4 := bchain W3 hb
                    clear hb W3 Q1
                    go_wp2_with fail
                    refine (Q2.out _).mono ?_
                    rintro e w5 ⟨rfl, hb⟩
                    have W5 := bchain W4 hb
                    clear hb W4 Q2
                    go_wp2
                    go_ret
                    exact ⟨rfl, W5⟩
                  · have hb : (l == t) = false := by simpa using heq
                    cases hless : Op.bytesLess l t
                    · have hYX : Y ≤ X := o3 (htri hless heq)
                      clear o2 o3 hxe htri heq hF
                      go_enter Tryd.func3, Tryd.ntmps3
                      go_wp2_with fail
                      refine (dawake_any _).mono ?_
                      rintro e w1 ⟨rfl, W1⟩
                      go_wp2_with fail
                      refine (P0.out _).mono ?_
                      rintro e w2 ⟨rfl, hb⟩
                      have W2 := bchain W1 hb
                      clear hb W1 P0
                      go_wp2_with fail
                      refine (R0.out _).mono ?_
                      rintro e w3 ⟨rfl, hb⟩
                      have W3 := bchain W2 hb
                      clear hb W2 R0
                      go_wp2_with fail
                      refine (Q1.out _).mono ?_
                      rintro e w4 ⟨rfl, hb⟩
                      have W4 := bchain W3 hb
                      clear hb W3 Q1
                      go_wp2_with fail
                      refine (Q2.out _).mono ?_
                      rintro e w5 ⟨rfl, hb⟩
                      have W5 := bchain W4 hb
                      clear hb W4 Q2
                      go_wp2
                      go_ret
                      exact ⟨rfl, W5⟩
                    · have hXY : X ≤ Y := o2 hless
                      clear o2 o3 hxe htri heq hF
                      go_enter Tryd.func3, Tryd.ntmps3
                      go_wp2_with fail
                      refine (dawake_any _).mono ?_
                      rintro e w1 ⟨rfl, W1⟩
                      go_wp2_with fail
                      refine (P0.out _).mono ?_
                      rintro e w2 ⟨rfl, hb⟩
                      have W2 := bchain W1 hb
                      clear hb W1 P0
                      go_wp2_with fail
                      refine (R0.out _).mono ?_
                      rintro e w3 ⟨rfl, hb⟩
                      have W3 := bchain W2 hb
                      clear hb W2 R0
                      go_wp2_with fail
                      refine (Q1.out _).mono ?_
                      rintro e w4 ⟨rfl, hb⟩
                      have W4 := bchain W3 hb
                      clear hb W3 Q1
                      go_wp2_with fail
                      refine (Q2.out _).mono ?_
                      rintro e w5 ⟨rfl, hb⟩
                      have W5 := bchain W4 hb
                      clear hb W4 Q2
                      go_wp2
                      go_ret
                      exact ⟨rfl, W5⟩
                · have hFb : (F == 0) = false := by simpa using hF
                  have hFn : (F != 0) = true := by simpa using hF
                  clear o2 o3 hxe htri
                  go_enter Tryd.func3, Tryd.ntmps3
                  go_wp2_with fail
                  refine (dawake_any _).mono ?_
                  rintro e w1 ⟨rfl, W1⟩
                  go_wp2_with fail
                  refine (P0.out _).mono ?_
                  rintro e w2 ⟨rfl, hb⟩
                  have W2 := bchain W1 hb
                  clear hb W1 P0
                  go_wp2_with fail
                  refine (R0.out _).mono ?_
                  rintro e w3 ⟨rfl, hb⟩
                  have W3 := bchain W2 hb
                  clear hb W2 R0
                  go_wp2_with fail
                  refine (Q1.out _).mono ?_
                  rintro e w4 ⟨rfl, hb⟩
                  have W4 := bchain W3 hb
                  clear hb W3 Q1
                  go_wp2_with fail
                  refine (Q2.out _).mono ?_
                  rintro e w5 ⟨rfl, hb⟩
                  have W5 := bchain W4 hb
                  clear hb W4 Q2
                  go_wp2
                  go_ret
                  exact ⟨rfl, W5⟩
            · have c1b : ((A.length : Int) != (A'.length : Int)) = false := by simpa using c1
              have c2b : ((E.length : Int) != (E'.length : Int)) = true := by simpa using c2
              clear hK hK' hB hB' hA hA' hE hE' c1 c2
              go_enter Tryd.func3, Tryd.ntmps3
              go_wp2_with fail
              refine (dawake_any _).mono ?_
              rintro e w1 ⟨rfl, W1⟩
              go_wp2_with fail
              refine (P0.out _).mono ?_
              rintro e w2 ⟨rfl, hb⟩
              have W2 := bchain W1 hb
              clear hb W1 P0
              go_wp2_with fail
              refine (R0.out _).mono ?_
              rintro e w3 ⟨rfl, hb⟩
              have W3 := bchain W2 hb
              clear hb W2 R0
              go_wp2
              go_ret
              exact ⟨rfl, W3⟩
          · have c1b : ((A.length : Int) != (A'.length : Int)) = true := by simpa using c1
            clear hK hK' hB hB' hA hA' hE hE' c1
            go_enter Tryd.func3, Tryd.ntmps3
            go_wp2_with fail
            refine (dawake_any _).mono ?_
            rintro e w1 ⟨rfl, W1⟩
            go_wp2_with fail
            refine (P0.out _).mono ?_
            rintro e w2 ⟨rfl, hb⟩
            have W2 := bchain W1 hb
            clear hb W1 P0
            go_wp2_with fail
            refine (R0.out _).mono ?_
            rintro e w3 ⟨rfl, hb⟩
            have W3 := bchain W2 hb
            clear hb W2 R0
            go_wp2
            go_ret
            exact ⟨rfl, W3⟩
        · clear hK hK' hB hB' hA hA' hE hE'
          go_enter Tryd.func3, Tryd.ntmps3
          go_wp2_with fail
          refine (dawake_any _).mono ?_
          rintro e w1 ⟨rfl, W1⟩
          go_wp2_with fail
          refine (P0.out _).mono ?_
          rintro e w2 ⟨rfl, hb⟩
          have W2 := bchain W1 hb
          clear hb W1 P0
          go_wp2_with fail
          refine (R0.out _).mono ?_
          rintro e w3 ⟨rfl, hb⟩
          have W3 := bchain W2 hb
          clear hb W2 R0
          go_wp2
          go_ret
          exact ⟨rfl, W3⟩
      · clear hK hK' hB hB' hA hA' hE hE'
        go_enter Tryd.func3, Tryd.ntmps3
        go_wp2_with fail
        refine (dawake_any _).mono ?_
        rintro e w1 ⟨rfl, W1⟩
        go_wp2_with fail
        refine (P0.out _).mono ?_
        rintro e w2 ⟨rfl, hb⟩
        have W2 := bchain W1 hb
        clear hb W1 P0
        go_wp2_with fail
        refine (R0.out _).mono ?_
        rintro e w3 ⟨rfl, hb⟩
        have W3 := bchain W2 hb
        clear hb W2 R0
        go_wp2
        go_ret
        exact ⟨rfl, W3⟩
end Go.Proofs.YtekdpeiemfppiabDoor
