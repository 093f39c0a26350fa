/-
  AdamwChecks: for every inner and every number the law regattalaw09.AdamwChecks returns true: an inner is right just if the document says so, and a state begins with noughts.
-/
import Derived.Test.YtcdehbhdloaieaaDoorAAwake
import Derived.Test.YtcdehbhdloaieaaDoorAInner
set_option linter.unusedVariables false
set_option linter.unusedSimpArgs false
namespace Go.Proofs.YtcdehbhdloaieaaDoor
open Go.RowKit

set_option maxRecDepth 100000 in
set_option maxHeartbeats 16000000 in
theorem adamwChecks_any (B W : Int) (vD : Value) (nD : Nat) (at' fa : Nat → Int) (b1 b2 ep dc cl n : Int) (w : World) (hD : Drp w vD nD at' fa) (hT : TabAt w) :
    Calls Tryd.prog 3 #[.agg #[.int .i64 B, .int .i64 W, vD, .int .i64 b1, .int .i64 b2, .int .i64 ep, .int .i64 dc, .int .i64 cl], .int .i64 n] w fun e w' => e = .returned (.bool true) ∧ Below w.heap.size w w' := by
  have CA : Hid (∀ W' : World, Below w.heap.size w W' → Calls Tryd.prog 7 #[] W' fun e w' => e = .returned (.bool true) ∧ Below W'.heap.size W' w') := fun W' hb => awake9_any W' (hT.later hb)
  have HC0' : Hid (InR9 B W nD at' fa b1 b2 ep dc cl → ∀ W' : World, Below w.heap.size w W' → Calls Tryd.prog 11 #[.agg #[.int .i64 B, .int .i64 W, vD, .int .i64 b1, .int .i64 b2, .int .i64 ep, .int .i64 dc, .int .i64 cl]] W' fun e w' => e = .returned (.int .i64 0) ∧ Below W'.heap.size W' w') := fun h W' hb => check9_ok B W vD nD at' fa b1 b2 ep dc cl W' (hD.later hb) h
  have HC80' : Hid (¬ InR9 B W nD at' fa b1 b2 ep dc cl → ∀ W' : World, Below w.heap.size w W' → Calls Tryd.prog 11 #[.agg #[.int .i64 B, .int .i64 W, vD, .int .i64 b1, .int .i64 b2, .int .i64 ep, .int .i64 dc, .int .i64 cl]] W' fun e w' => e = .returned (.int .i64 80) ∧ Below W'.heap.size W' w') := fun h W' hb => check9_no B W vD nD at' fa b1 b2 ep dc cl W' (hD.later hb) h
  have CI : Hid (nD ≤ 1000 → ∀ W' : World, Below w.heap.size w W' → Calls Tryd.prog 8 #[.agg #[.int .i64 B, .int .i64 W, vD, .int .i64 b1, .int .i64 b2, .int .i64 ep, .int .i64 dc, .int .i64 cl]] W' fun e w' => ∃ v', e = .returned (.agg #[.int .i64 B, .int .i64 W, v', .int .i64 b1, .int .i64 b2, .int .i64 ep, .int .i64 dc, .int .i64 cl]) ∧ Drp w' v' nD at' fa ∧ Below W'.heap.size W' w') := fun hn W' hb => inner9_any B W _ nD at' fa b1 b2 ep dc cl hn W' (hD.later hb)
  obtain ⟨adr, cap, bD, oD, rfl, d1, d2, -, -⟩ := hD
  clear hT
  obtain ⟨w1, hw1⟩ : ∃ w1, w1 = w.alloc (.cells #[.int .i64 B, .int .i64 W, .slice adr nD cap, .int .i64 b1, .int .i64 b2, .int .i64 ep, .int .i64 dc, .int .i64 cl] 27) := ⟨_, rfl⟩
  have HB1 : Hid (Below w.heap.size w w1) := by rw [hw1]; exact bel1 _ _
  have HX : Q8 w.heap.size (.int .i64 B) (.int .i64 W) (.slice adr nD cap) (.int .i64 b1) (.int .i64 b2) (.int .i64 ep) (.int .i64 dc) (.int .i64 cl) w1 := by rw [hw1]; exact Q8.new w _ _ _ _ _ _ _ _ _
  go_enter Tryd.func3, Tryd.ntmps3
  go_upto_region 1 with fail
  rw [← hw1]
  clear hw1
  go_wp2_with fail
  refine (CA.out _ HB1.out).mono ?_
  rintro e w2 ⟨rfl, hb⟩
  have HB2 : Hid (Below w.heap.size w w2) := bchain HB1.out hb
  replace HX := HX.later hb
  clear hb CA HB1
  have x0 := HX.c0
  have x1 := HX.c1
  have x2 := HX.c2
  have x3 := HX.c3
  have x4 := HX.c4
  have x5 := HX.c5
  have x6 := HX.c6
  have x7 := HX.c7
  by_cases hnD : 40 < nD
  · have hnI : (40 : Int) < (nD : Int) := by omega
    go_wp2
    go_ret
    exact ⟨rfl, HB2.out⟩
  have hnI : ¬ (40 : Int) < (nD : Int) := by omega
  have CI2 : Hid (∀ W' : World, Below w.heap.size w W' → Calls Tryd.prog 8 #[.agg #[.int .i64 B, .int .i64 W, .slice adr nD cap, .int .i64 b1, .int .i64 b2, .int .i64 ep, .int .i64 dc, .int .i64 cl]] W' fun e w' => ∃ v', e = .returned (.agg #[.int .i64 B, .int .i64 W, v', .int .i64 b1, .int .i64 b2, .int .i64 ep, .int .i64 dc, .int .i64 cl]) ∧ Drp w' v' nD at' fa ∧ Below W'.heap.size W' w') := CI.out (by omega)
  clear CI
  by_cases q1 : 1000 < n
  · by_cases q2 : n < 65534
    · go_wp2
      go_ret
      exact ⟨rfl, HB2.out⟩
    go_wp2_with fail
    refine (CI2.out _ HB2.out).mono ?_
    rintro e w3' ⟨v3, rfl, hD3, hb⟩
    obtain ⟨ad3, ca3, b3, o3, rfl, -, -, -, -⟩ := id hD3
    have HB3' : Hid (Below w.heap.size w w3') := bchain HB2.out hb
    replace HX := HX.later hb
    clear hb HB2 CI2 x0 x1 x2 x3 x4 x5 x6 x7
    go_wp2_with fail
    refine (refInner_any B W _ nD at' fa b1 b2 ep dc cl _ hD3).mono ?_
    rintro e w3 ⟨hTl, hb⟩
    have HB3 : Hid (Below w.heap.size w w3) := bchain HB3'.out hb
    have HX3 : Hid (Q8 w.heap.size (.int .i64 B) (.int .i64 W) (.slice adr nD cap) (.int .i64 b1) (.int .i64 b2) (.int .i64 ep) (.int .i64 dc) (.int .i64 cl) w3) := HX.later hb
    clear hb HB3' hD3 HX
    by_cases hI : InR9 B W nD at' fa b1 b2 ep dc cl
    · have e0 := hTl.yes hI
      subst e0
      have HC0 : Hid (∀ W' : World, Below w.heap.size w W' → Calls Tryd.prog 11 #[.agg #[.int .i64 B, .int .i64 W, .slice adr nD cap, .int .i64 b1, .int .i64 b2, .int .i64 ep, .int .i64 dc, .int .i64 cl]] W' fun e w' => e = .returned (.int .i64 0) ∧ Below W'.heap.size W' w') := HC0'.out hI
      clear hTl hI HC0' HC80'
      by_cases hn : 0 ≤ n ∧ n ≤ 65536
      · obtain ⟨m, rfl⟩ : ∃ m : Nat, n = (m : Int) := ⟨n.toNat, by omega⟩
        have hm : m ≤ 65536 := by omega
        have hm0 : ¬ (m : Int) < 0 := by omega
        have hm1 : ¬ (65536 : Int) < (m : Int) := by omega
        clear hn
        go_wp2_with fail
        refine (begin9_ok m hm _).mono ?_
        rintro e w4 ⟨g1, g2, rfl, hN⟩
        obtain ⟨w5, hw5⟩ : ∃ w5, w5 = w4.alloc (.cells #[.slice (some ⟨g1, 0, none⟩) m m, .slice (some ⟨g2, 0, none⟩) m m, .int .i64 0] 38) := ⟨_, rfl⟩
        have HB5 : Hid (Below w.heap.size w w5) := by rw [hw5]; exact bchain (bchain HB3.out hN.b) (bel1 _ _)
        have HX : Q8 w.heap.size (.int .i64 B) (.int .i64 W) (.slice adr nD cap) (.int .i64 b1) (.int .i64 b2) (.int .i64 ep) (.int .i64 dc) (.int .i64 cl) w5 := by rw [hw5]; exact (HX3.out.later hN.b).later (bel1 _ _)
        have HS : Hid (Y3 w4.heap.size (.slice (some ⟨g1, 0, none⟩) m m) (.slice (some ⟨g2, 0, none⟩) m m) (.int .i64 0) w5) := by rw [hw5]; exact Y3.new _ _ _ _ _
        have HR : Hid (Rw g1 m (fun _ => .int .i64 0) w5 ∧ Rw g2 m (fun _ => .int .i64 0) w5) := by rw [hw5]; exact ⟨hN.r1.later (bel1 _ _), hN.r2.later (bel1 _ _)⟩
        have CC := HC0.out w5 HB5.out
        clear hN HB3 HX3 HC0
        have HXh : Hid (Q8 w.heap.size (.int .i64 B) (.int .i64 W) (.slice adr nD cap) (.int .i64 b1) (.int .i64 b2) (.int .i64 ep) (.int .i64 dc) (.int .i64 cl) w5) := HX
        clear HX
        go_upto_region 9 with fail
        rw [← hw5]
        clear hw5
        generalize w4.heap.size = bs at *
        have s0 := HS.out.c0
        have s1 := HS.out.c1
        go_wp2
        go_loopw [60] (fun si wr => ∃ j : Nat, j ≤ m ∧ si = .int .i64 (j : Int) ∧ wr = w5) (fun si _ => m - (intOf si).toNat)
        case atStart => exact ⟨0, by omega, rfl, rfl⟩
        case round =>
          obtain ⟨j, hj, rfl, hwr⟩ := hrel
          subst hwr
          by_cases hlt : j < m
          · have hjI : (j : Int) < (m : Int) := by omega
            have c1 := HR.out.1.c j hlt
            have c2 := HR.out.2.c j hlt
            clear CC
            go_wp2
            go_roundw
            case rel => exact ⟨j + 1, by omega, by go_num, by first | rfl | trivial⟩
            case measure => simp [intOf]; omega
          · obtain rfl : j = m := by omega
            have hjI : ¬ (j : Int) < (j : Int) := by omega
            have HX := HXh.out
            have x0 := HX.c0
            have x1 := HX.c1
            have x2 := HX.c2
            have x3 := HX.c3
            have x4 := HX.c4
            have x5 := HX.c5
            have x6 := HX.c6
            have x7 := HX.c7
            go_wp2_with fail
            refine CC.mono ?_
            rintro e w6 ⟨rfl, hb⟩
            have HB6 : Hid (Below w.heap.size w w6) := bchain HB5.out hb
            have hS6 := HS.out.later hb
            clear hb CC s0 s1 HX x0 x1 x2 x3 x4 x5 x6 x7
            have s0 := hS6.c0
            have s2 := hS6.c2
            clear hS6
            go_wp2
            go_ret
            exact ⟨rfl, HB6.out⟩
      · have CN : Calls Tryd.prog 10 #[.int .i64 n] w3 fun e w' => ∃ (p1 p2 : Option Addr) (k1 k2 : Nat), e = .returned (.tuple #[.agg #[.slice p1 0 k1, .slice p2 0 k2, .int .i64 0], .int .i64 2]) ∧ Below w3.heap.size w3 w' := (begin9_no n hn w3).mono fun e w' h => ⟨none, none, 0, 0, h.1, h.2⟩
        by_cases q0 : n < 0
        · skip
          exfalso
          omega
        · have q1 : (65536 : Int) < n := by omega
          go_wp2_with fail
          refine CN.mono ?_
          rintro e w4 ⟨p1, p2, k1, k2, rfl, hb⟩
          have HB5 : Hid (Below w.heap.size w (w4.alloc (.cells #[.slice p1 0 k1, .slice p2 0 k2, .int .i64 0] 38))) := bchain (bchain HB3.out hb) (bel1 _ _)
          have HX : Q8 w.heap.size (.int .i64 B) (.int .i64 W) (.slice adr nD cap) (.int .i64 b1) (.int .i64 b2) (.int .i64 ep) (.int .i64 dc) (.int .i64 cl) (w4.alloc (.cells #[.slice p1 0 k1, .slice p2 0 k2, .int .i64 0] 38)) := (HX3.out.later hb).later (bel1 _ _)
          have HS : Hid (Y3 w4.heap.size (.slice p1 0 k1) (.slice p2 0 k2) (.int .i64 0) (w4.alloc (.cells #[.slice p1 0 k1, .slice p2 0 k2, .int .i64 0] 38))) := Y3.new _ _ _ _ _
          have CC := HC0.out (w4.alloc (.cells #[.slice p1 0 k1, .slice p2 0 k2, .int .i64 0] 38)) HB5.out
          clear hb HB3 HX3 CN hn
          have x0 := HX.c0
          have x1 := HX.c1
          have x2 := HX.c2
          have x3 := HX.c3
          have x4 := HX.c4
          have x5 := HX.c5
          have x6 := HX.c6
          have x7 := HX.c7
          go_wp2_with fail
          refine CC.mono ?_
          rintro e w6 ⟨rfl, hb⟩
          have HB6 : Hid (Below w.heap.size w w6) := bchain HB5.out hb
          have hS6 := HS.out.later hb
          clear hb CC HX x0 x1 x2 x3 x4 x5 x6 x7
          have s0 := hS6.c0
          have s1 := hS6.c1
          clear hS6
          go_wp2
          go_ret
          exact ⟨rfl, HB6.out⟩
    · have e0 := hTl.no hI
      subst e0
      have HC80 : Hid (∀ W' : World, Below w.heap.size w W' → Calls Tryd.prog 11 #[.agg #[.int .i64 B, .int .i64 W, .slice adr nD cap, .int .i64 b1, .int .i64 b2, .int .i64 ep, .int .i64 dc, .int .i64 cl]] W' fun e w' => e = .returned (.int .i64 80) ∧ Below W'.heap.size W' w') := HC80'.out hI
      clear hTl hI HC0' HC80'
      by_cases hn : 0 ≤ n ∧ n ≤ 65536
      · obtain ⟨m, rfl⟩ : ∃ m : Nat, n = (m : Int) := ⟨n.toNat, by omega⟩
        have hm : m ≤ 65536 := by omega
        have hm0 : ¬ (m : Int) < 0 := by omega
        have hm1 : ¬ (65536 : Int) < (m : Int) := by omega
        clear hn
        go_wp2_with fail
        refine (begin9_ok m hm _).mono ?_
        rintro e w4 ⟨g1, g2, rfl, hN⟩
        obtain ⟨w5, hw5⟩ : ∃ w5, w5 = w4.alloc (.cells #[.slice (some ⟨g1, 0, none⟩) m m, .slice (some ⟨g2, 0, none⟩) m m, .int .i64 0] 38) := ⟨_, rfl⟩
        have HB5 : Hid (Below w.heap.size w w5) := by rw [hw5]; exact bchain (bchain HB3.out hN.b) (bel1 _ _)
        have HX : Q8 w.heap.size (.int .i64 B) (.int .i64 W) (.slice adr nD cap) (.int .i64 b1) (.int .i64 b2) (.int .i64 ep) (.int .i64 dc) (.int .i64 cl) w5 := by rw [hw5]; exact (HX3.out.later hN.b).later (bel1 _ _)
        have HS : Hid (Y3 w4.heap.size (.slice (some ⟨g1, 0, none⟩) m m) (.slice (some ⟨g2, 0, none⟩) m m) (.int .i64 0) w5) := by rw [hw5]; exact Y3.new _ _ _ _ _
        have HR : Hid (Rw g1 m (fun _ => .int .i64 0) w5 ∧ Rw g2 m (fun _ => .int .i64 0) w5) := by rw [hw5]; exact ⟨hN.r1.later (bel1 _ _), hN.r2.later (bel1 _ _)⟩
        have CC := HC80.out w5 HB5.out
        clear hN HB3 HX3 HC80
        have HXh : Hid (Q8 w.heap.size (.int .i64 B) (.int .i64 W) (.slice adr nD cap) (.int .i64 b1) (.int .i64 b2) (.int .i64 ep) (.int .i64 dc) (.int .i64 cl) w5) := HX
        clear HX
        go_upto_region 9 with fail
        rw [← hw5]
        clear hw5
        generalize w4.heap.size = bs at *
        have s0 := HS.out.c0
        have s1 := HS.out.c1
        go_wp2
        go_loopw [60] (fun si wr => ∃ j : Nat, j ≤ m ∧ si = .int .i64 (j : Int) ∧ wr = w5) (fun si _ => m - (intOf si).toNat)
        case atStart => exact ⟨0, by omega, rfl, rfl⟩
        case round =>
          obtain ⟨j, hj, rfl, hwr⟩ := hrel
          subst hwr
          by_cases hlt : j < m
          · have hjI : (j : Int) < (m : Int) := by omega
            have c1 := HR.out.1.c j hlt
            have c2 := HR.out.2.c j hlt
            clear CC
            go_wp2
            go_roundw
            case rel => exact ⟨j + 1, by omega, by go_num, by first | rfl | trivial⟩
            case measure => simp [intOf]; omega
          · obtain rfl : j = m := by omega
            have hjI : ¬ (j : Int) < (j : Int) := by omega
            have HX := HXh.out
            have x0 := HX.c0
            have x1 := HX.c1
            have x2 := HX.c2
            have x3 := HX.c3
            have x4 := HX.c4
            have x5 := HX.c5
            have x6 := HX.c6
            have x7 := HX.c7
            go_wp2_with fail
            refine CC.mono ?_
            rintro e w6 ⟨rfl, hb⟩
            have HB6 : Hid (Below w.heap.size w w6) := bchain HB5.out hb
            have hS6 := HS.out.later hb
            clear hb CC s0 s1 HX x0 x1 x2 x3 x4 x5 x6 x7
            have s0 := hS6.c0
            have s2 := hS6.c2
            clear hS6
            go_wp2
            go_ret
            exact ⟨rfl, HB6.out⟩
      · have CN : Calls Tryd.prog 10 #[.int .i64 n] w3 fun e w' => ∃ (p1 p2 : Option Addr) (k1 k2 : Nat), e = .returned (.tuple #[.agg #[.slice p1 0 k1, .slice p2 0 k2, .int .i64 0], .int .i64 2]) ∧ Below w3.heap.size w3 w' := (begin9_no n hn w3).mono fun e w' h => ⟨none, none, 0, 0, h.1, h.2⟩
        by_cases q0 : n < 0
        · skip
          exfalso
          omega
        · have q1 : (65536 : Int) < n := by omega
          go_wp2_with fail
          refine CN.mono ?_
          rintro e w4 ⟨p1, p2, k1, k2, rfl, hb⟩
          have HB5 : Hid (Below w.heap.size w (w4.alloc (.cells #[.slice p1 0 k1, .slice p2 0 k2, .int .i64 0] 38))) := bchain (bchain HB3.out hb) (bel1 _ _)
          have HX : Q8 w.heap.size (.int .i64 B) (.int .i64 W) (.slice adr nD cap) (.int .i64 b1) (.int .i64 b2) (.int .i64 ep) (.int .i64 dc) (.int .i64 cl) (w4.alloc (.cells #[.slice p1 0 k1, .slice p2 0 k2, .int .i64 0] 38)) := (HX3.out.later hb).later (bel1 _ _)
          have HS : Hid (Y3 w4.heap.size (.slice p1 0 k1) (.slice p2 0 k2) (.int .i64 0) (w4.alloc (.cells #[.slice p1 0 k1, .slice p2 0 k2, .int .i64 0] 38))) := Y3.new _ _ _ _ _
          have CC := HC80.out (w4.alloc (.cells #[.slice p1 0 k1, .slice p2 0 k2, .int .i64 0] 38)) HB5.out
          clear hb HB3 HX3 CN hn
          have x0 := HX.c0
          have x1 := HX.c1
          have x2 := HX.c2
          have x3 := HX.c3
          have x4 := HX.c4
          have x5 := HX.c5
          have x6 := HX.c6
          have x7 := HX.c7
          go_wp2_with fail
          refine CC.mono ?_
          rintro e w6 ⟨rfl, hb⟩
          have HB6 : Hid (Below w.heap.size w w6) := bchain HB5.out hb
          have hS6 := HS.out.later hb
          clear hb CC HX x0 x1 x2 x3 x4 x5 x6 x7
          have s0 := hS6.c0
          have s1 := hS6.c1
          clear hS6
          go_wp2
          go_ret
          exact ⟨rfl, HB6.out⟩
  · skip
    go_wp2_with fail
    refine (CI2.out _ HB2.out).mono ?_
    rintro e w3' ⟨v3, rfl, hD3, hb⟩
    obtain ⟨ad3, ca3, b3, o3, rfl, -, -, -, -⟩ := id hD3
    have HB3' : Hid (Below w.heap.size w w3') := bchain HB2.out hb
    replace HX := HX.later hb
    clear hb HB2 CI2 x0 x1 x2 x3 x4 x5 x6 x7
    go_wp2_with fail
    refine (refInner_any B W _ nD at' fa b1 b2 ep dc cl _ hD3).mono ?_
    rintro e w3 ⟨hTl, hb⟩
    have HB3 : Hid (Below w.heap.size w w3) := bchain HB3'.out hb
    have HX3 : Hid (Q8 w.heap.size (.int .i64 B) (.int .i64 W) (.slice adr nD cap) (.int .i64 b1) (.int .i64 b2) (.int .i64 ep) (.int .i64 dc) (.int .i64 cl) w3) := HX.later hb
    clear hb HB3' hD3 HX
    by_cases hI : InR9 B W nD at' fa b1 b2 ep dc cl
    · have e0 := hTl.yes hI
      subst e0
      have HC0 : Hid (∀ W' : World, Below w.heap.size w W' → Calls Tryd.prog 11 #[.agg #[.int .i64 B, .int .i64 W, .slice adr nD cap, .int .i64 b1, .int .i64 b2, .int .i64 ep, .int .i64 dc, .int .i64 cl]] W' fun e w' => e = .returned (.int .i64 0) ∧ Below W'.heap.size W' w') := HC0'.out hI
      clear hTl hI HC0' HC80'
      by_cases hn : 0 ≤ n ∧ n ≤ 65536
      · obtain ⟨m, rfl⟩ : ∃ m : Nat, n = (m : Int) := ⟨n.toNat, by omega⟩
        have hm : m ≤ 65536 := by omega
        have hm0 : ¬ (m : Int) < 0 := by omega
        have hm1 : ¬ (65536 : Int) < (m : Int) := by omega
        clear hn
        go_wp2_with fail
        refine (begin9_ok m hm _).mono ?_
        rintro e w4 ⟨g1, g2, rfl, hN⟩
        obtain ⟨w5, hw5⟩ : ∃ w5, w5 = w4.alloc (.cells #[.slice (some ⟨g1, 0, none⟩) m m, .slice (some ⟨g2, 0, none⟩) m m, .int .i64 0] 38) := ⟨_, rfl⟩
        have HB5 : Hid (Below w.heap.size w w5) := by rw [hw5]; exact bchain (bchain HB3.out hN.b) (bel1 _ _)
        have HX : Q8 w.heap.size (.int .i64 B) (.int .i64 W) (.slice adr nD cap) (.int .i64 b1) (.int .i64 b2) (.int .i64 ep) (.int .i64 dc) (.int .i64 cl) w5 := by rw [hw5]; exact (HX3.out.later hN.b).later (bel1 _ _)
        have HS : Hid (Y3 w4.heap.size (.slice (some ⟨g1, 0, none⟩) m m) (.slice (some ⟨g2, 0, none⟩) m m) (.int .i64 0) w5) := by rw [hw5]; exact Y3.new _ _ _ _ _
        have HR : Hid (Rw g1 m (fun _ => .int .i64 0) w5 ∧ Rw g2 m (fun _ => .int .i64 0) w5) := by rw [hw5]; exact ⟨hN.r1.later (bel1 _ _), hN.r2.later (bel1 _ _)⟩
        have CC := HC0.out w5 HB5.out
        clear hN HB3 HX3 HC0
        have HXh : Hid (Q8 w.heap.size (.int .i64 B) (.int .i64 W) (.slice adr nD cap) (.int .i64 b1) (.int .i64 b2) (.int .i64 ep) (.int .i64 dc) (.int .i64 cl) w5) := HX
        clear HX
        go_upto_region 9 with fail
        rw [← hw5]
        clear hw5
        generalize w4.heap.size = bs at *
        have s0 := HS.out.c0
        have s1 := HS.out.c1
        go_wp2
        go_loopw [60] (fun si wr => ∃ j : Nat, j ≤ m ∧ si = .int .i64 (j : Int) ∧ wr = w5) (fun si _ => m - (intOf si).toNat)
        case atStart => exact ⟨0, by omega, rfl, rfl⟩
        case round =>
          obtain ⟨j, hj, rfl, hwr⟩ := hrel
          subst hwr
          by_cases hlt : j < m
          · have hjI : (j : Int) < (m : Int) := by omega
            have c1 := HR.out.1.c j hlt
            have c2 := HR.out.2.c j hlt
            clear CC
            go_wp2
            go_roundw
            case rel => exact ⟨j + 1, by omega, by go_num, by first | rfl | trivial⟩
            case measure => simp [intOf]; omega
          · obtain rfl : j = m := by omega
            have hjI : ¬ (j : Int) < (j : Int) := by omega
            have HX := HXh.out
            have x0 := HX.c0
            have x1 := HX.c1
            have x2 := HX.c2
            have x3 := HX.c3
            have x4 := HX.c4
            have x5 := HX.c5
            have x6 := HX.c6
            have x7 := HX.c7
            go_wp2_with fail
            refine CC.mono ?_
            rintro e w6 ⟨rfl, hb⟩
            have HB6 : Hid (Below w.heap.size w w6) := bchain HB5.out hb
            have hS6 := HS.out.later hb
            clear hb CC s0 s1 HX x0 x1 x2 x3 x4 x5 x6 x7
            have s0 := hS6.c0
            have s2 := hS6.c2
            clear hS6
            go_wp2
            go_ret
            exact ⟨rfl, HB6.out⟩
      · have CN : Calls Tryd.prog 10 #[.int .i64 n] w3 fun e w' => ∃ (p1 p2 : Option Addr) (k1 k2 : Nat), e = .returned (.tuple #[.agg #[.slice p1 0 k1, .slice p2 0 k2, .int .i64 0], .int .i64 2]) ∧ Below w3.heap.size w3 w' := (begin9_no n hn w3).mono fun e w' h => ⟨none, none, 0, 0, h.1, h.2⟩
        by_cases q0 : n < 0
        · skip
          go_wp2_with fail
          refine CN.mono ?_
          rintro e w4 ⟨p1, p2, k1, k2, rfl, hb⟩
          have HB5 : Hid (Below w.heap.size w (w4.alloc (.cells #[.slice p1 0 k1, .slice p2 0 k2, .int .i64 0] 38))) := bchain (bchain HB3.out hb) (bel1 _ _)
          have HX : Q8 w.heap.size (.int .i64 B) (.int .i64 W) (.slice adr nD cap) (.int .i64 b1) (.int .i64 b2) (.int .i64 ep) (.int .i64 dc) (.int .i64 cl) (w4.alloc (.cells #[.slice p1 0 k1, .slice p2 0 k2, .int .i64 0] 38)) := (HX3.out.later hb).later (bel1 _ _)
          have HS : Hid (Y3 w4.heap.size (.slice p1 0 k1) (.slice p2 0 k2) (.int .i64 0) (w4.alloc (.cells #[.slice p1 0 k1, .slice p2 0 k2, .int .i64 0] 38))) := Y3.new _ _ _ _ _
          have CC := HC0.out (w4.alloc (.cells #[.slice p1 0 k1, .slice p2 0 k2, .int .i64 0] 38)) HB5.out
          clear hb HB3 HX3 CN hn
          have x0 := HX.c0
          have x1 := HX.c1
          have x2 := HX.c2
          have x3 := HX.c3
          have x4 := HX.c4
          have x5 := HX.c5
          have x6 := HX.c6
          have x7 := HX.c7
          go_wp2_with fail
          refine CC.mono ?_
          rintro e w6 ⟨rfl, hb⟩
          have HB6 : Hid (Below w.heap.size w w6) := bchain HB5.out hb
          have hS6 := HS.out.later hb
          clear hb CC HX x0 x1 x2 x3 x4 x5 x6 x7
          have s0 := hS6.c0
          have s1 := hS6.c1
          clear hS6
          go_wp2
          go_ret
          exact ⟨rfl, HB6.out⟩
        · have q1 : (65536 : Int) < n := by omega
          exfalso
          omega
    · have e0 := hTl.no hI
      subst e0
      have HC80 : Hid (∀ W' : World, Below w.heap.size w W' → Calls Tryd.prog 11 #[.agg #[.int .i64 B, .int .i64 W, .slice adr nD cap, .int .i64 b1, .int .i64 b2, .int .i64 ep, .int .i64 dc, .int .i64 cl]] W' fun e w' => e = .returned (.int .i64 80) ∧ Below W'.heap.size W' w') := HC80'.out hI
      clear hTl hI HC0' HC80'
      by_cases hn : 0 ≤ n ∧ n ≤ 65536
      · obtain ⟨m, rfl⟩ : ∃ m : Nat, n = (m : Int) := ⟨n.toNat, by omega⟩
        have hm : m ≤ 65536 := by omega
        have hm0 : ¬ (m : Int) < 0 := by omega
        have hm1 : ¬ (65536 : Int) < (m : Int) := by omega
        clear hn
        go_wp2_with fail
        refine (begin9_ok m hm _).mono ?_
        rintro e w4 ⟨g1, g2, rfl, hN⟩
        obtain ⟨w5, hw5⟩ : ∃ w5, w5 = w4.alloc (.cells #[.slice (some ⟨g1, 0, none⟩) m m, .slice (some ⟨g2, 0, none⟩) m m, .int .i64 0] 38) := ⟨_, rfl⟩
        have HB5 : Hid (Below w.heap.size w w5) := by rw [hw5]; exact bchain (bchain HB3.out hN.b) (bel1 _ _)
        have HX : Q8 w.heap.size (.int .i64 B) (.int .i64 W) (.slice adr nD cap) (.int .i64 b1) (.int .i64 b2) (.int .i64 ep) (.int .i64 dc) (.int .i64 cl) w5 := by rw [hw5]; exact (HX3.out.later hN.b).later (bel1 _ _)
        have HS : Hid (Y3 w4.heap.size (.slice (some ⟨g1, 0, none⟩) m m) (.slice (some ⟨g2, 0, none⟩) m m) (.int .i64 0) w5) := by rw [hw5]; exact Y3.new _ _ _ _ _
        have HR : Hid (Rw g1 m (fun _ => .int .i64 0) w5 ∧ Rw g2 m (fun _ => .int .i64 0) w5) := by rw [hw5]; exact ⟨hN.r1.later (bel1 _ _), hN.r2.later (bel1 _ _)⟩
        have CC := HC80.out w5 HB5.out
        clear hN HB3 HX3 HC80
        have HXh : Hid (Q8 w.heap.size (.int .i64 B) (.int .i64 W) (.slice adr nD cap) (.int .i64 b1) (.int .i64 b2) (.int .i64 ep) (.int .i64 dc) (.int .i64 cl) w5) := HX
        clear HX
        go_upto_region 9 with fail
        rw [← hw5]
        clear hw5
        generalize w4.heap.size = bs at *
        have s0 := HS.out.c0
        have s1 := HS.out.c1
        go_wp2
        go_loopw [60] (fun si wr => ∃ j : Nat, j ≤ m ∧ si = .int .i64 (j : Int) ∧ wr = w5) (fun si _ => m - (intOf si).toNat)
        case atStart => exact ⟨0, by omega, rfl, rfl⟩
        case round =>
          obtain ⟨j, hj, rfl, hwr⟩ := hrel
          subst hwr
          by_cases hlt : j < m
          · have hjI : (j : Int) < (m : Int) := by omega
            have c1 := HR.out.1.c j hlt
            have c2 := HR.out.2.c j hlt
            clear CC
            go_wp2
            go_roundw
            case rel => exact ⟨j + 1, by omega, by go_num, by first | rfl | trivial⟩
            case measure => simp [intOf]; omega
          · obtain rfl : j = m := by omega
            have hjI : ¬ (j : Int) < (j : Int) := by omega
            have HX := HXh.out
            have x0 := HX.c0
            have x1 := HX.c1
            have x2 := HX.c2
            have x3 := HX.c3
            have x4 := HX.c4
            have x5 := HX.c5
            have x6 := HX.c6
            have x7 := HX.c7
            go_wp2_with fail
            refine CC.mono ?_
            rintro e w6 ⟨rfl, hb⟩
            have HB6 : Hid (Below w.heap.size w w6) := bchain HB5.out hb
            have hS6 := HS.out.later hb
            clear hb CC s0 s1 HX x0 x1 x2 x3 x4 x5 x6 x7
            have s0 := hS6.c0
            have s2 := hS6.c2
            clear hS6
            go_wp2
            go_ret
            exact ⟨rfl, HB6.out⟩
      · have CN : Calls Tryd.prog 10 #[.int .i64 n] w3 fun e w' => ∃ (p1 p2 : Option Addr) (k1 k2 : Nat), e = .returned (.tuple #[.agg #[.slice p1 0 k1, .slice p2 0 k2, .int .i64 0], .int .i64 2]) ∧ Below w3.heap.size w3 w' := (begin9_no n hn w3).mono fun e w' h => ⟨none, none, 0, 0, h.1, h.2⟩
        by_cases q0 : n < 0
        · skip
          go_wp2_with fail
          refine CN.mono ?_
          rintro e w4 ⟨p1, p2, k1, k2, rfl, hb⟩
          have HB5 : Hid (Below w.heap.size w (w4.alloc (.cells #[.slice p1 0 k1, .slice p2 0 k2, .int .i64 0] 38))) := bchain (bchain HB3.out hb) (bel1 _ _)
          have HX : Q8 w.heap.size (.int .i64 B) (.int .i64 W) (.slice adr nD cap) (.int .i64 b1) (.int .i64 b2) (.int .i64 ep) (.int .i64 dc) (.int .i64 cl) (w4.alloc (.cells #[.slice p1 0 k1, .slice p2 0 k2, .int .i64 0] 38)) := (HX3.out.later hb).later (bel1 _ _)
          have HS : Hid (Y3 w4.heap.size (.slice p1 0 k1) (.slice p2 0 k2) (.int .i64 0) (w4.alloc (.cells #[.slice p1 0 k1, .slice p2 0 k2, .int .i64 0] 38))) := Y3.new _ _ _ _ _
          have CC := HC80.out (w4.alloc (.cells #[.slice p1 0 k1, .slice p2 0 k2, .int .i64 0] 38)) HB5.out
          clear hb HB3 HX3 CN hn
          have x0 := HX.c0
          have x1 := HX.c1
          have x2 := HX.c2
          have x3 := HX.c3
          have x4 := HX.c4
          have x5 := HX.c5
          have x6 := HX.c6
          have x7 := HX.c7
          go_wp2_with fail
          refine CC.mono ?_
          rintro e w6 ⟨rfl, hb⟩
          have HB6 : Hid (Below w.heap.size w w6) := bchain HB5.out hb
          have hS6 := HS.out.later hb
          clear hb CC HX x0 x1 x2 x3 x4 x5 x6 x7
          have s0 := hS6.c0
          have s1 := hS6.c1
          clear hS6
          go_wp2
          go_ret
          exact ⟨rfl, HB6.out⟩
        · have q1 : (65536 : Int) < n := by omega
          exfalso
          omega
end Go.Proofs.YtcdehbhdloaieaaDoor
