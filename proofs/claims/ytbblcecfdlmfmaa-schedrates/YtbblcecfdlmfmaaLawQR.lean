/-
  SchedRates: any rates are right just if the document says so, and any step has the document's rate.
-/
import Derived.Test.YtbblcecfdlmfmaaQAwake
import Derived.Test.YtbblcecfdlmfmaaQRefD
set_option linter.unusedVariables false
set_option linter.unusedSimpArgs false
namespace Go.Proofs.Ytbblcecfdlmfmaa
open Go.RowKit

/-- What Rate answers. -/
def rgE (B W : Int) (n : Nat) (at' fa : Nat → Int) (t X E : Int) : Prop :=
  (¬ RO B W n at' fa → X = 0 ∧ E = 80) ∧ (RO B W n at' fa → ¬ (1 ≤ t ∧ t ≤ 1048576) → X = 0 ∧ E = 2) ∧ (RO B W n at' fa → (1 ≤ t ∧ t ≤ 1048576) → X = rtV B W n at' fa t ∧ E = 0)
theorem rateW_any (B W : Int) (v : Value) (n : Nat) (at' fa : Nat → Int) (t : Int) (w : World) (hA : Drp w v n at' fa) (B1 : B ≤ 9223372036854775807) :
    Calls Try.prog 11 #[.agg #[.int .i64 B, .int .i64 W, v], .int .i64 t] w fun e w' => ∃ X E : Int, e = .returned (.tuple #[.int .i64 X, .int .i64 E]) ∧ rgE B W n at' fa t X E ∧ Below w.heap.size w w' := by
  by_cases h : RO B W n at' fa
  · by_cases ht : 1 ≤ t ∧ t ≤ 1048576
    · refine (rate_ok B W v n at' fa t w hA h B1 ht.1 ht.2).mono ?_
      rintro e w' ⟨rfl, hb⟩
      exact ⟨_, _, rfl, ⟨fun h' => absurd h h', fun _ h' => absurd ht h', fun _ _ => ⟨rfl, rfl⟩⟩, hb⟩
    · refine (rate_arg B W v n at' fa t w hA h ht).mono ?_
      rintro e w' ⟨rfl, hb⟩
      exact ⟨_, _, rfl, ⟨fun h' => absurd h h', fun _ _ => ⟨rfl, rfl⟩, fun _ h' => absurd h' ht⟩, hb⟩
  · refine (rate_rule B W v n at' fa t w hA h).mono ?_
    rintro e w' ⟨rfl, hb⟩
    exact ⟨_, _, rfl, ⟨fun _ => ⟨rfl, rfl⟩, fun h' => absurd h' h, fun h' => absurd h' h⟩, hb⟩
set_option maxRecDepth 100000 in
set_option maxHeartbeats 8000000 in
theorem schedRates_any (B W : Int) (v : Value) (n : Nat) (at' fa : Nat → Int) (t : Int) (w : World) (hA : Drp w v n at' fa) (B1 : B ≤ 9223372036854775807) :
    Calls Try.prog 3 #[.agg #[.int .i64 B, .int .i64 W, v], .int .i64 t] w fun e w' => e = .returned (.bool true) ∧ Below w.heap.size w w' := by
  have CA : Hid (∀ W : World, Calls Try.prog 9 #[] W fun e w' => e = .returned (.bool true) ∧ Below W.heap.size W w') := awake8_any
  have CL : Hid (n ≤ 1000 → ∀ W' : World, Below w.heap.size w W' → Calls Try.prog 10 #[.agg #[.int .i64 B, .int .i64 W, v]] W' fun e w' => ∃ v', e = .returned (.agg #[.int .i64 B, .int .i64 W, v']) ∧ Drp w' v' n at' fa ∧ Below W'.heap.size W' w') := fun hn W' hb => rates8_any B W v n at' fa hn W' (hA.later hb)
  have CR : Hid (∀ W' : World, Below w.heap.size w W' → Calls Try.prog 11 #[.agg #[.int .i64 B, .int .i64 W, v], .int .i64 t] W' fun e w' => ∃ X E : Int, e = .returned (.tuple #[.int .i64 X, .int .i64 E]) ∧ rgE B W n at' fa t X E ∧ Below W'.heap.size W' w') := fun W' hb => rateW_any B W v n at' fa t W' (hA.later hb) B1
  have CY : Hid (RO B W n at' fa → ∀ W' : World, Below w.heap.size w W' → Calls Try.prog 13 #[.agg #[.int .i64 B, .int .i64 W, v]] W' fun e w' => e = .returned (.int .i64 0) ∧ Below W'.heap.size W' w') := fun h W' hb => checkRates_yes B W v n at' fa W' (hA.later hb) h
  have CN : Hid (¬ RO B W n at' fa → ∀ W' : World, Below w.heap.size w W' → Calls Try.prog 13 #[.agg #[.int .i64 B, .int .i64 W, v]] W' fun e w' => e = .returned (.int .i64 80) ∧ Below W'.heap.size W' w') := fun h W' hb => checkRates_no B W v n at' fa W' (hA.later hb) h
  obtain ⟨adr, cap, b, o, rfl, k1, k2, -, -⟩ := hA
  unfold maxLen at k2
  obtain ⟨w1, hw1⟩ : ∃ w1, w1 = w.alloc (.cells #[.int .i64 B, .int .i64 W, .slice adr n cap] 25) := ⟨_, rfl⟩
  have HB1 : Hid (Below w.heap.size w w1) := by rw [hw1]; exact bel1 _ _
  have HQ := Q3.new w (.int .i64 B) (.int .i64 W) (.slice adr n cap) 25
  rw [← hw1] at HQ
  go_enter Try.func3, Try.ntmps3
  go_upto_region 1 with fail
  rw [← hw1]
  clear hw1
  go_wp2_with fail
  refine (CA.out _).mono ?_
  rintro e w2 ⟨rfl, hb⟩
  have HB2 : Hid (Below w.heap.size w w2) := bchain HB1.out hb
  replace HQ := HQ.later hb
  have x0 := HQ.c0
  have x1 := HQ.c1
  have x2 := HQ.c2
  clear hb CA HB1
  by_cases hn : 40 < n
  · have hnI : (40 : Int) < (n : Int) := by omega
    go_wp2
    go_ret
    exact ⟨rfl, HB2.out⟩
  have hnI : ¬ (40 : Int) < (n : Int) := by omega
  have CL2 := CL.out (by omega)
  have CL3 : Hid (∀ W' : World, Below w.heap.size w W' → Calls Try.prog 10 #[.agg #[.int .i64 B, .int .i64 W, .slice adr n cap]] W' fun e w' => ∃ v', e = .returned (.agg #[.int .i64 B, .int .i64 W, v']) ∧ Drp w' v' n at' fa ∧ Below W'.heap.size W' w') := CL2
  clear CL CL2
  go_wp2_with fail
  refine (CL3.out _ HB2.out).mono ?_
  rintro e w3 ⟨v3, rfl, hD, hb⟩
  obtain ⟨ad3, ca3, b3, o3, rfl, l1, l2, -, -⟩ := id hD
  obtain ⟨w4, hw4⟩ : ∃ w4, w4 = w3.alloc (.cells #[.int .i64 B, .int .i64 W, .slice ad3 n ca3] 29) := ⟨_, rfl⟩
  have HB4 : Hid (Below w.heap.size w w4) := by rw [hw4]; exact bchain (bchain HB2.out hb) (bel1 _ _)
  have HQ4 : Q3 w.heap.size (.int .i64 B) (.int .i64 W) (.slice adr n cap) w4 := by rw [hw4]; exact (HQ.later hb).later (bel1 _ _)
  have HP4 := Q3.new w3 (.int .i64 B) (.int .i64 W) (.slice ad3 n ca3) 29
  rw [← hw4] at HP4
  have HD4 : Hid (Drp w4 (.slice ad3 n ca3) n at' fa) := by rw [hw4]; exact hD.later (bel1 _ _)
  clear HQ hb x0 x1 x2 CL3 HB2 hD
  have x0 := HQ4.c0
  have x1 := HQ4.c1
  have x2 := HQ4.c2
  go_upto_region 6 with fail
  rw [← hw4]
  clear hw4
  obtain ⟨bp, hbp⟩ : ∃ bp, w3.heap.size = bp := ⟨_, rfl⟩
  rw [hbp] at HP4
  try simp only [hbp]
  clear hbp
  go_wp2_with fail
  refine (CR.out _ HB4.out).mono ?_
  rintro e w5 ⟨X, E, rfl, hR, hb⟩
  have HR : Hid (rgE B W n at' fa t X E) := hR
  have HB5 : Hid (Below w.heap.size w w5) := bchain HB4.out hb
  replace HQ4 := HQ4.later hb
  replace HP4 := HP4.later hb
  replace HD4 : Hid (Drp w5 (.slice ad3 n ca3) n at' fa) := HD4.out.later hb
  replace x0 := HQ4.c0
  replace x1 := HQ4.c1
  replace x2 := HQ4.c2
  have p0 := HP4.c0
  have p1 := HP4.c1
  have p2 := HP4.c2
  clear hb HB4 CR hR
  go_wp2_with fail
  refine (refRight_any B W _ n at' fa _ HD4.out).mono ?_
  rintro e w6 ⟨hT, hb⟩
  have HB6 : Hid (Below w.heap.size w w6) := bchain HB5.out hb
  replace HQ4 := HQ4.later hb
  replace HP4 := HP4.later hb
  replace HD4 : Hid (Drp w6 (.slice ad3 n ca3) n at' fa) := HD4.out.later hb
  replace x0 := HQ4.c0
  replace x1 := HQ4.c1
  replace x2 := HQ4.c2
  replace p0 := HP4.c0
  replace p1 := HP4.c1
  replace p2 := HP4.c2
  clear hb HB5
  by_cases hp : RO B W n at' fa
  · have e1 := hT.yes hp
    subst e1
    have CC : Hid (∀ W' : World, Below w.heap.size w W' → Calls Try.prog 13 #[.agg #[.int .i64 B, .int .i64 W, .slice adr n cap]] W' fun e w' => e = .returned (.int .i64 0) ∧ Below W'.heap.size W' w') := CY.out hp
    have HPO : Hid (RO B W n at' fa) := hp
    clear hT CY CN hp
    go_wp2_with fail
    refine (CC.out _ HB6.out).mono ?_
    rintro e w7 ⟨rfl, hb⟩
    have HB7 : Hid (Below w.heap.size w w7) := bchain HB6.out hb
    replace HQ4 := HQ4.later hb
    replace HP4 := HP4.later hb
    replace HD4 : Hid (Drp w7 (.slice ad3 n ca3) n at' fa) := HD4.out.later hb
    replace x0 := HQ4.c0
    replace x1 := HQ4.c1
    replace x2 := HQ4.c2
    replace p0 := HP4.c0
    replace p1 := HP4.c1
    replace p2 := HP4.c2
    clear hb HB6 CC
    by_cases q1 : t < 1
    · obtain ⟨e1, e2⟩ := HR.out.2.1 HPO.out (by omega)
      subst e1 e2
      clear HR
      go_wp2
      go_ret
      exact ⟨rfl, HB7.out⟩
    by_cases q2 : 1048576 < t
    · obtain ⟨e1, e2⟩ := HR.out.2.1 HPO.out (by omega)
      subst e1 e2
      clear HR
      go_wp2
      go_ret
      exact ⟨rfl, HB7.out⟩
    obtain ⟨e1, e2⟩ := HR.out.2.2 HPO.out (by omega)
    have CX : Hid (Calls Try.prog 14 #[.agg #[.int .i64 B, .int .i64 W, .slice ad3 n ca3], .int .i64 t] w7 fun e w' => e = .returned (.int .i64 X) ∧ Below w7.heap.size w7 w') := by
      have h := refRate_any B W _ n at' fa t w7 HD4.out HPO.out B1 (by omega) (by omega)
      rw [← e1] at h
      exact h
    subst e2
    clear HR e1
    go_wp2_with fail
    refine CX.out.mono ?_
    rintro e w8 ⟨rfl, hb⟩
    have HB8 : Hid (Below w.heap.size w w8) := bchain HB7.out hb
    clear hb CX
    go_wp2
    go_ret
    exact ⟨by first | rfl | simp, HB8.out⟩
  · have e1 := hT.no hp
    subst e1
    have CC : Hid (∀ W' : World, Below w.heap.size w W' → Calls Try.prog 13 #[.agg #[.int .i64 B, .int .i64 W, .slice adr n cap]] W' fun e w' => e = .returned (.int .i64 80) ∧ Below W'.heap.size W' w') := CN.out hp
    obtain ⟨e1, e2⟩ := HR.out.1 hp
    subst e1 e2
    clear hT CY CN hp HR
    go_wp2_with fail
    refine (CC.out _ HB6.out).mono ?_
    rintro e w7 ⟨rfl, hb⟩
    have HB7 : Hid (Below w.heap.size w w7) := bchain HB6.out hb
    clear hb CC
    go_wp2
    go_ret
    exact ⟨rfl, HB7.out⟩
end Go.Proofs.Ytbblcecfdlmfmaa
