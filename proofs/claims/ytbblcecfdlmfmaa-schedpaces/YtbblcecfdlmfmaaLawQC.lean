/-
  SchedPaces: any pace is right just if the document says so, and the next number of inner steps is the document's.
-/
import Derived.Test.YtbblcecfdlmfmaaQAwake
import Derived.Test.YtbblcecfdlmfmaaQRefD
set_option linter.unusedVariables false
set_option linter.unusedSimpArgs false
namespace Go.Proofs.Ytbblcecfdlmfmaa
open Go.RowKit

set_option maxRecDepth 100000 in
set_option maxHeartbeats 8000000 in
theorem schedPaces_any (l m f g x z : Int) (w : World) :
    Calls Try.prog 5 #[.agg #[.int .i64 l, .int .i64 m, .int .i64 f, .int .i64 g], .int .i64 x, .int .i64 z] w fun e w' => e = .returned (.bool true) ∧ Below w.heap.size w w' := by
  have CA : Hid (∀ W : World, Calls Try.prog 9 #[] W fun e w' => e = .returned (.bool true) ∧ Below W.heap.size W w') := awake8_any
  have CL : Hid (∀ W : World, Calls Try.prog 18 #[.agg #[.int .i64 l, .int .i64 m, .int .i64 f, .int .i64 g]] W fun e w' => e = .returned (.agg #[.int .i64 l, .int .i64 m, .int .i64 f, .int .i64 g]) ∧ Below W.heap.size W w') := pace8_any l m f g
  obtain ⟨w1, hw1⟩ : ∃ w1, w1 = w.alloc (.cells #[.int .i64 l, .int .i64 m, .int .i64 f, .int .i64 g] 41) := ⟨_, rfl⟩
  have HB1 : Hid (Below w.heap.size w w1) := by rw [hw1]; exact bel1 _ _
  have HQ := Q4.new w (.int .i64 l) (.int .i64 m) (.int .i64 f) (.int .i64 g) 41
  rw [← hw1] at HQ
  have HN : Hid (∀ W : World, ∃ X E : Int, ((¬ PO l m f g → X = 0 ∧ E = 80) ∧ (PO l m f g → ¬ (l ≤ x ∧ x ≤ m ∧ 0 ≤ z) → X = 0 ∧ E = 2) ∧ (PO l m f g → (l ≤ x ∧ x ≤ m ∧ 0 ≤ z) → X = nxV l m g x z ∧ E = 0)) ∧ Calls Try.prog 19 #[.agg #[.int .i64 l, .int .i64 m, .int .i64 f, .int .i64 g], .int .i64 x, .int .i64 z] W fun e w' => e = .returned (.tuple #[.int .i64 X, .int .i64 E]) ∧ Below W.heap.size W w') := fun W => by
    by_cases hp : PO l m f g
    · by_cases hx : l ≤ x ∧ x ≤ m ∧ 0 ≤ z
      · exact ⟨_, _, ⟨fun h => absurd hp h, fun _ h => absurd hx h, fun _ _ => ⟨rfl, rfl⟩⟩, nextW_ok l m f g x z W hp hx.1 hx.2.1 hx.2.2⟩
      · exact ⟨_, _, ⟨fun h => absurd hp h, fun _ _ => ⟨rfl, rfl⟩, fun _ h => absurd h hx⟩, nextW_arg l m f g x z W hp hx⟩
    · exact ⟨_, _, ⟨fun _ => ⟨rfl, rfl⟩, fun h => absurd h hp, fun h => absurd h hp⟩, nextW_rule l m f g x z W hp⟩
  have CY : Hid (∀ W : World, PO l m f g → Calls Try.prog 21 #[.agg #[.int .i64 l, .int .i64 m, .int .i64 f, .int .i64 g]] W fun e w' => e = .returned (.int .i64 0) ∧ Below W.heap.size W w') := fun W h => checkPace_yes l m f g W h
  have CN : Hid (∀ W : World, ¬ PO l m f g → Calls Try.prog 21 #[.agg #[.int .i64 l, .int .i64 m, .int .i64 f, .int .i64 g]] W fun e w' => e = .returned (.int .i64 80) ∧ Below W.heap.size W w') := fun W h => checkPace_no l m f g W h
  go_enter Try.func5, Try.ntmps5
  go_upto_region 1 with fail
  rw [← hw1]
  clear hw1
  go_wp2_with fail
  refine (CA.out _).mono ?_
  rintro e w2 ⟨rfl, hb⟩
  have HB2 : Hid (Below w.heap.size w w2) := bchain HB1.out hb
  replace HQ := HQ.later hb
  have y0 := HQ.c0
  have y1 := HQ.c1
  have y2 := HQ.c2
  have y3 := HQ.c3
  clear hb CA HB1
  go_wp2_with fail
  refine (CL.out _).mono ?_
  rintro e w3 ⟨rfl, hb⟩
  obtain ⟨w4, hw4⟩ : ∃ w4, w4 = w3.alloc (.cells #[.int .i64 l, .int .i64 m, .int .i64 f, .int .i64 g] 42) := ⟨_, rfl⟩
  have HB4 : Hid (Below w.heap.size w w4) := by rw [hw4]; exact bchain (bchain HB2.out hb) (bel1 _ _)
  have HQ4 : Q4 w.heap.size (.int .i64 l) (.int .i64 m) (.int .i64 f) (.int .i64 g) w4 := by rw [hw4]; exact (HQ.later hb).later (bel1 _ _)
  have HP4 := Q4.new w3 (.int .i64 l) (.int .i64 m) (.int .i64 f) (.int .i64 g) 42
  rw [← hw4] at HP4
  clear HQ hb y0 y1 y2 y3 CL HB2
  have y0 := HQ4.c0
  have y1 := HQ4.c1
  have y2 := HQ4.c2
  have y3 := HQ4.c3
  go_upto_region 4 with fail
  rw [← hw4]
  clear hw4
  obtain ⟨bp, hbp⟩ : ∃ bp, w3.heap.size = bp := ⟨_, rfl⟩
  rw [hbp] at HP4
  try simp only [hbp]
  clear hbp
  obtain ⟨X, E, hXE, hC⟩ := HN.out w4
  have HXE : Hid ((¬ PO l m f g → X = 0 ∧ E = 80) ∧ (PO l m f g → ¬ (l ≤ x ∧ x ≤ m ∧ 0 ≤ z) → X = 0 ∧ E = 2) ∧ (PO l m f g → (l ≤ x ∧ x ≤ m ∧ 0 ≤ z) → X = nxV l m g x z ∧ E = 0)) := hXE
  clear hXE HN
  go_wp2_with fail
  refine hC.mono ?_
  rintro e w5 ⟨rfl, hb⟩
  have HB5 : Hid (Below w.heap.size w w5) := bchain HB4.out hb
  replace HQ4 := HQ4.later hb
  replace HP4 := HP4.later hb
  replace y0 := HQ4.c0
  replace y1 := HQ4.c1
  replace y2 := HQ4.c2
  replace y3 := HQ4.c3
  have p0 := HP4.c0
  have p1 := HP4.c1
  have p2 := HP4.c2
  have p3 := HP4.c3
  clear hb HB4 hC
  go_wp2_with fail
  refine (refPace_any l m f g _).mono ?_
  rintro e w6 ⟨hT, hb⟩
  have HB6 : Hid (Below w.heap.size w w6) := bchain HB5.out hb
  replace HQ4 := HQ4.later hb
  replace HP4 := HP4.later hb
  replace y0 := HQ4.c0
  replace y1 := HQ4.c1
  replace y2 := HQ4.c2
  replace y3 := HQ4.c3
  replace p0 := HP4.c0
  replace p1 := HP4.c1
  replace p2 := HP4.c2
  replace p3 := HP4.c3
  clear hb HB5
  by_cases hp : PO l m f g
  · have e1 := hT.yes hp
    subst e1
    have CC : Hid (∀ W : World, Calls Try.prog 21 #[.agg #[.int .i64 l, .int .i64 m, .int .i64 f, .int .i64 g]] W fun e w' => e = .returned (.int .i64 0) ∧ Below W.heap.size W w') := fun W => CY.out W hp
    have HPO : Hid (PO l m f g) := hp
    clear hT CY CN hp
    go_wp2_with fail
    refine (CC.out _).mono ?_
    rintro e w7 ⟨rfl, hb⟩
    have HB7 : Hid (Below w.heap.size w w7) := bchain HB6.out hb
    replace HQ4 := HQ4.later hb
    replace HP4 := HP4.later hb
    replace y0 := HQ4.c0
    replace y1 := HQ4.c1
    replace y2 := HQ4.c2
    replace y3 := HQ4.c3
    replace p0 := HP4.c0
    replace p1 := HP4.c1
    replace p2 := HP4.c2
    replace p3 := HP4.c3
    clear hb HB6 CC
    by_cases q1 : x < l
    · obtain ⟨e1, e2⟩ := HXE.out.2.1 HPO.out (by omega)
      subst e1 e2
      clear HXE
      go_wp2
      go_ret
      exact ⟨rfl, HB7.out⟩
    by_cases q2 : m < x
    · obtain ⟨e1, e2⟩ := HXE.out.2.1 HPO.out (by omega)
      subst e1 e2
      clear HXE
      go_wp2
      go_ret
      exact ⟨rfl, HB7.out⟩
    by_cases q3 : z < 0
    · obtain ⟨e1, e2⟩ := HXE.out.2.1 HPO.out (by omega)
      subst e1 e2
      clear HXE
      go_wp2
      go_ret
      exact ⟨rfl, HB7.out⟩
    obtain ⟨e1, e2⟩ := HXE.out.2.2 HPO.out (by omega)
    have CX : Hid (∀ W : World, Calls Try.prog 22 #[.agg #[.int .i64 l, .int .i64 m, .int .i64 f, .int .i64 g], .int .i64 x, .int .i64 z] W fun e w' => e = .returned (.int .i64 X) ∧ Below W.heap.size W w') := fun W => by
      have h := refNext_any l m f g x z W HPO.out (by omega) (by omega)
      rw [← e1] at h
      exact h
    subst e2
    clear HXE e1
    go_wp2_with fail
    refine (CX.out _).mono ?_
    rintro e w8 ⟨rfl, hb⟩
    have HB8 : Hid (Below w.heap.size w w8) := bchain HB7.out hb
    clear hb CX
    go_wp2
    go_ret
    exact ⟨by first | rfl | simp, HB8.out⟩
  · have e1 := hT.no hp
    subst e1
    have CC : Hid (∀ W : World, Calls Try.prog 21 #[.agg #[.int .i64 l, .int .i64 m, .int .i64 f, .int .i64 g]] W fun e w' => e = .returned (.int .i64 80) ∧ Below W.heap.size W w') := fun W => CN.out W hp
    obtain ⟨e1, e2⟩ := HXE.out.1 hp
    subst e1 e2
    clear hT CY CN hp HXE
    go_wp2_with fail
    refine (CC.out _).mono ?_
    rintro e w7 ⟨rfl, hb⟩
    have HB7 : Hid (Below w.heap.size w w7) := bchain HB6.out hb
    clear hb CC
    go_wp2
    go_ret
    exact ⟨rfl, HB7.out⟩
end Go.Proofs.Ytbblcecfdlmfmaa
