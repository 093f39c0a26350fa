/-
  The contracts of adamw's Check, Begin, check and stepOf, and of slices.Max and slices.Min.
-/
import Derived.Test.YtcdehbhdloaieaaGreatDoorADefs
import Derived.Test.YtcdehbhdloaieaaGreatDoorAWalkB
import Derived.Test.YtcdehbhdloaieaaGreatDoorQWalkC
set_option linter.unusedVariables false
set_option linter.unusedSimpArgs false
namespace Go.Proofs.YtcdehbhdloaieaaGreatDoor
open Go.RowKit

theorem rbeta_any (b : Int) (w : World) :
    Calls Tryz.prog 60 #[.int .i64 b] w fun e w' => Tel e (0 ≤ b ∧ b < 4294967296) ∧ w' = w := by
  by_cases q0 : 0 ≤ b
  · by_cases q1 : b < 4294967296
    · go_enter Tryz.func60, Tryz.ntmps60
      go_wp2
      go_ret
      exact ⟨tel_yes ⟨q0, q1⟩, rfl⟩
    · go_enter Tryz.func60, Tryz.ntmps60
      go_wp2
      go_ret
      exact ⟨tel_no (by omega), rfl⟩
  · go_enter Tryz.func60, Tryz.ntmps60
    go_wp2
    go_ret
    exact ⟨tel_no (by omega), rfl⟩
set_option maxRecDepth 100000 in
set_option maxHeartbeats 4000000 in
theorem check9_any (B W : Int) (v : Value) (n : Nat) (at' fa : Nat → Int) (b1 b2 ep dc cl : Int) (w : World) (hA : Drp w v n at' fa) (E : Int) (hE : (InR9 B W n at' fa b1 b2 ep dc cl → E = 0) ∧ (¬ InR9 B W n at' fa b1 b2 ep dc cl → E = 80)) :
    Calls Tryz.prog 36 #[.agg #[.int .i64 B, .int .i64 W, v, .int .i64 b1, .int .i64 b2, .int .i64 ep, .int .i64 dc, .int .i64 cl]] w fun e w' => e = .returned (.int .i64 E) ∧ Below w.heap.size w w' := by
  have HR1 : Hid (RO B W n at' fa → ∀ W' : World, Below w.heap.size w W' → Calls Tryz.prog 59 #[.agg #[.int .i64 B, .int .i64 W, v]] W' fun e w' => e = .returned (.int .i64 0) ∧ Below W'.heap.size W' w') := fun h W' hb => checkRates_yes B W v n at' fa W' (hA.later hb) h
  have HR2 : Hid (¬ RO B W n at' fa → ∀ W' : World, Below w.heap.size w W' → Calls Tryz.prog 59 #[.agg #[.int .i64 B, .int .i64 W, v]] W' fun e w' => e = .returned (.int .i64 80) ∧ Below W'.heap.size W' w') := fun h W' hb => checkRates_no B W v n at' fa W' (hA.later hb) h
  have HE : Hid ((InR9 B W n at' fa b1 b2 ep dc cl → E = 0) ∧ (¬ InR9 B W n at' fa b1 b2 ep dc cl → E = 80)) := hE
  have HD : Hid (InR9 B W n at' fa b1 b2 ep dc cl ↔ RO B W n at' fa ∧ (0 ≤ b1 ∧ b1 < 4294967296) ∧ (0 ≤ b2 ∧ b2 < 4294967296) ∧ 1 ≤ ep ∧ 0 ≤ dc ∧ 0 ≤ cl) := Iff.rfl
  obtain ⟨adr, cap, b, o, rfl, k1, k2, -, -⟩ := hA
  clear hE
  obtain ⟨w1, hw1⟩ : ∃ w1, w1 = w.alloc (.cells #[.int .i64 B, .int .i64 W, .slice adr n cap, .int .i64 b1, .int .i64 b2, .int .i64 ep, .int .i64 dc, .int .i64 cl] 27) := ⟨_, rfl⟩
  have HB1 : Hid (Below w.heap.size w w1) := by rw [hw1]; exact bel1 _ _
  have HQ := Q8.new w (.int .i64 B) (.int .i64 W) (.slice adr n cap) (.int .i64 b1) (.int .i64 b2) (.int .i64 ep) (.int .i64 dc) (.int .i64 cl) 27
  rw [← hw1] at HQ
  go_enter Tryz.func36, Tryz.ntmps36
  go_upto_region 1 with fail
  rw [← hw1]
  clear hw1
  have x0 := HQ.c0
  have x1 := HQ.c1
  have x2 := HQ.c2
  by_cases hr : RO B W n at' fa
  · have CR := HR1.out hr w1 HB1.out
    have HR : Hid (RO B W n at' fa) := hr
    clear HR1 HR2 hr
    go_wp2_with fail
    refine CR.mono ?_
    rintro e w2 ⟨rfl, hb⟩
    have HB2 : Hid (Below w.heap.size w w2) := bchain HB1.out hb
    replace HQ := HQ.later hb
    clear hb CR HB1 x0 x1 x2
    have x3 := HQ.c3
    go_wp2_with fail
    refine (rbeta_any b1 _).mono ?_
    rintro e wz ⟨hT, hz⟩
    subst hz
    clear x3
    by_cases q1 : 0 ≤ b1 ∧ b1 < 4294967296
    · have e0 := hT.yes q1
      subst e0
      have Q1 : Hid (0 ≤ b1 ∧ b1 < 4294967296) := q1
      clear hT q1
      have x4 := HQ.c4
      go_wp2_with fail
      refine (rbeta_any b2 _).mono ?_
      rintro e wz ⟨hT, hz⟩
      subst hz
      clear x4
      by_cases q2 : 0 ≤ b2 ∧ b2 < 4294967296
      · have e0 := hT.yes q2
        subst e0
        have Q2 : Hid (0 ≤ b2 ∧ b2 < 4294967296) := q2
        clear hT q2
        have x5 := HQ.c5
        have x6 := HQ.c6
        have x7 := HQ.c7
        by_cases q5 : ep ≤ 0
        · have e1 := HE.out.2 (fun h => by have := (HD.out.1 h).2; omega)
          subst e1
          go_wp2
          go_ret
          exact ⟨rfl, HB2.out⟩
        by_cases q6 : dc < 0
        · have e1 := HE.out.2 (fun h => by have := (HD.out.1 h).2; omega)
          subst e1
          go_wp2
          go_ret
          exact ⟨rfl, HB2.out⟩
        by_cases q7 : cl < 0
        · have e1 := HE.out.2 (fun h => by have := (HD.out.1 h).2; omega)
          subst e1
          go_wp2
          go_ret
          exact ⟨rfl, HB2.out⟩
        have e1 := HE.out.1 ⟨HR.out, Q1.out, Q2.out, by omega, by omega, by omega⟩
        subst e1
        go_wp2
        go_ret
        exact ⟨rfl, HB2.out⟩
      · have e0 := hT.no q2
        subst e0
        have e1 := HE.out.2 (fun h => q2 (HD.out.1 h).2.2.1)
        subst e1
        clear hT q2
        go_wp2
        go_ret
        exact ⟨rfl, HB2.out⟩
    · have e0 := hT.no q1
      subst e0
      have e1 := HE.out.2 (fun h => q1 (HD.out.1 h).2.1)
      subst e1
      clear hT q1
      go_wp2
      go_ret
      exact ⟨rfl, HB2.out⟩
  · have CR := HR2.out hr w1 HB1.out
    have e1 := HE.out.2 (fun h => hr (HD.out.1 h).1)
    subst e1
    clear HR1 HR2 hr
    go_wp2_with fail
    refine CR.mono ?_
    rintro e w2 ⟨rfl, hb⟩
    have HB2 : Hid (Below w.heap.size w w2) := bchain HB1.out hb
    clear hb CR HB1 x0 x1 x2
    go_wp2
    go_ret
    exact ⟨rfl, HB2.out⟩
theorem check9_ok (B W : Int) (v : Value) (n : Nat) (at' fa : Nat → Int) (b1 b2 ep dc cl : Int) (w : World) (hA : Drp w v n at' fa) (h : InR9 B W n at' fa b1 b2 ep dc cl) :
    Calls Tryz.prog 36 #[.agg #[.int .i64 B, .int .i64 W, v, .int .i64 b1, .int .i64 b2, .int .i64 ep, .int .i64 dc, .int .i64 cl]] w fun e w' => e = .returned (.int .i64 0) ∧ Below w.heap.size w w' := check9_any B W v n at' fa b1 b2 ep dc cl w hA 0 ⟨fun _ => rfl, fun h' => absurd h h'⟩
theorem check9_no (B W : Int) (v : Value) (n : Nat) (at' fa : Nat → Int) (b1 b2 ep dc cl : Int) (w : World) (hA : Drp w v n at' fa) (h : ¬ InR9 B W n at' fa b1 b2 ep dc cl) :
    Calls Tryz.prog 36 #[.agg #[.int .i64 B, .int .i64 W, v, .int .i64 b1, .int .i64 b2, .int .i64 ep, .int .i64 dc, .int .i64 cl]] w fun e w' => e = .returned (.int .i64 80) ∧ Below w.heap.size w w' := check9_any B W v n at' fa b1 b2 ep dc cl w hA 80 ⟨fun h' => absurd h' h, fun _ => rfl⟩
/-- The greatest and the least of numbers. -/
def mxU (f : Nat → Int) : Nat → Int
  | 0 => f 0
  | k + 1 => max (mxU f k) (f (k + 1))
def mnU (f : Nat → Int) : Nat → Int
  | 0 => f 0
  | k + 1 => min (mnU f k) (f (k + 1))

set_option maxRecDepth 100000 in
set_option maxHeartbeats 4000000 in
theorem sMax_any (va : Value) (n : Nat) (f : Nat → Int) (h1 : 1 ≤ n) (w : World) (hA : Ar w va n f) :
    Calls Tryz.prog 34 #[va] w fun e w' => e = .returned (.int .i64 (mxU f (n - 1))) ∧ w' = w := by
  obtain ⟨adr, cap, b, o, rfl, k1, k2, k3, k4⟩ := hA
  unfold maxLen at k2
  have HA : Hid (∀ k, k < n → w.cell? ⟨b, o + k, none⟩ = some (.int .i64 (f k)) ∧ -9223372036854775808 ≤ f k ∧ f k ≤ 9223372036854775807) := k4
  have ea := k3 (by omega)
  subst ea
  clear k3 k4
  have hn1 : ¬ (n : Int) < 1 := by omega
  have hn0 : (0 : Int) < (n : Int) := by omega
  have c0 := (HA.out 0 (by omega)).1
  rw [Nat.add_zero] at c0
  go_enter Tryz.func34, Tryz.ntmps34
  go_wp2
  clear c0
  go_loopw [3, 4] (fun s3 s4 wr => ∃ j : Nat, 1 ≤ j ∧ j ≤ n ∧ s3 = .int .i64 (mxU f (j - 1)) ∧ s4 = .int .i64 (j : Int) ∧ wr = w) (fun _ s4 _ => n - (intOf s4).toNat)
  case atStart => exact ⟨1, by omega, by omega, rfl, rfl, rfl⟩
  case round =>
    obtain ⟨j, hj1, hj, rfl, rfl, rfl⟩ := hrel
    by_cases hlt : j < n
    · have hjI : (j : Int) < (n : Int) := by omega
      obtain ⟨ca, -, -⟩ := HA.out j hlt
      have HE : Hid (max (mxU f (j - 1)) (f j) = mxU f (j + 1 - 1)) := by
        show _ = _
        obtain ⟨i, rfl⟩ : ∃ i, j = i + 1 := ⟨j - 1, by omega⟩
        rfl
      generalize mxU f (j - 1) = M at *
      generalize f j = x at *
      go_wp2
      go_roundw
      case rel => exact ⟨j + 1, by omega, by omega, by rw [← HE.out], by go_num, trivial⟩
      case measure => simp [intOf]; omega
    · obtain rfl : j = n := by omega
      go_wp2
      go_ret
      exact ⟨rfl, rfl⟩
set_option maxRecDepth 100000 in
set_option maxHeartbeats 4000000 in
theorem sMin_any (va : Value) (n : Nat) (f : Nat → Int) (h1 : 1 ≤ n) (w : World) (hA : Ar w va n f) :
    Calls Tryz.prog 35 #[va] w fun e w' => e = .returned (.int .i64 (mnU f (n - 1))) ∧ w' = w := by
  obtain ⟨adr, cap, b, o, rfl, k1, k2, k3, k4⟩ := hA
  unfold maxLen at k2
  have HA : Hid (∀ k, k < n → w.cell? ⟨b, o + k, none⟩ = some (.int .i64 (f k)) ∧ -9223372036854775808 ≤ f k ∧ f k ≤ 9223372036854775807) := k4
  have ea := k3 (by omega)
  subst ea
  clear k3 k4
  have hn1 : ¬ (n : Int) < 1 := by omega
  have hn0 : (0 : Int) < (n : Int) := by omega
  have c0 := (HA.out 0 (by omega)).1
  rw [Nat.add_zero] at c0
  go_enter Tryz.func35, Tryz.ntmps35
  go_wp2
  clear c0
  go_loopw [3, 4] (fun s3 s4 wr => ∃ j : Nat, 1 ≤ j ∧ j ≤ n ∧ s3 = .int .i64 (mnU f (j - 1)) ∧ s4 = .int .i64 (j : Int) ∧ wr = w) (fun _ s4 _ => n - (intOf s4).toNat)
  case atStart => exact ⟨1, by omega, by omega, rfl, rfl, rfl⟩
  case round =>
    obtain ⟨j, hj1, hj, rfl, rfl, rfl⟩ := hrel
    by_cases hlt : j < n
    · have hjI : (j : Int) < (n : Int) := by omega
      obtain ⟨ca, -, -⟩ := HA.out j hlt
      have HE : Hid (min (mnU f (j - 1)) (f j) = mnU f (j + 1 - 1)) := by
        show _ = _
        obtain ⟨i, rfl⟩ : ∃ i, j = i + 1 := ⟨j - 1, by omega⟩
        rfl
      generalize mnU f (j - 1) = M at *
      generalize f j = x at *
      go_wp2
      go_roundw
      case rel => exact ⟨j + 1, by omega, by omega, by rw [← HE.out], by go_num, trivial⟩
      case measure => simp [intOf]; omega
    · obtain rfl : j = n := by omega
      go_wp2
      go_ret
      exact ⟨rfl, rfl⟩
/-- Four numbers. -/
def lf4 (x y z u : Int) : Nat → Int
  | 0 => x
  | 1 => y
  | 2 => z
  | _ => u
theorem lf4_ar (w : World) (x y z u : Nat) (t : TypeId) (hx : x ≤ maxLen) (hy : y ≤ maxLen) (hz : z ≤ maxLen) (hu : u ≤ maxLen) : Ar (w.alloc (.cells #[.int .i64 (x : Int), .int .i64 (y : Int), .int .i64 (z : Int), .int .i64 (u : Int)] t)) (.slice (some ⟨w.heap.size, 0, none⟩) 4 4) 4 (lf4 x y z u) := by
  unfold maxLen at *
  refine ⟨_, 4, w.heap.size, 0, rfl, Nat.le_refl _, by unfold maxLen; omega, fun _ => rfl, fun k hk => ?_⟩
  rcases (show k = 0 ∨ k = 1 ∨ k = 2 ∨ k = 3 by omega) with rfl | rfl | rfl | rfl
  · exact ⟨by simp [go_sem, lf4], by simp only [lf4]; omega⟩
  · exact ⟨by simp [go_sem, lf4], by simp only [lf4]; omega⟩
  · exact ⟨by simp [go_sem, lf4], by simp only [lf4]; omega⟩
  · exact ⟨by simp [go_sem, lf4], by simp only [lf4]; omega⟩
theorem mx4_ln (nM nV nP nG : Nat) : mxU (lf4 nM nV nP nG) 3 ≤ 65536 ↔ lnP nM nV nP nG := by
  show max (max (max (nM : Int) (nV : Int)) (nP : Int)) (nG : Int) ≤ 65536 ↔ _
  unfold lnP
  omega
theorem mx4_sm (nM nV nP nG : Nat) : mxU (lf4 nM nV nP nG) 3 = mnU (lf4 nM nV nP nG) 3 ↔ smP nM nV nP nG := by
  show max (max (max (nM : Int) (nV : Int)) (nP : Int)) (nG : Int) = min (min (min (nM : Int) (nV : Int)) (nP : Int)) (nG : Int) ↔ _
  unfold smP
  omega
set_option maxRecDepth 100000 in
set_option maxHeartbeats 8000000 in
theorem chk9_any (B W : Int) (v : Value) (n : Nat) (at' fa : Nat → Int) (b1 b2 ep dc cl : Int) (T : Int) (vM vV vp vg : Value) (nM nV nP nG : Nat) (M V P G : Nat → Int) (w : World) (hA : Drp w v n at' fa) (hM : Ar w vM nM M) (hV : Ar w vV nV V) (hP : Ar w vp nP P) (hG : Ar w vg nG G) (E : Int) (hE0 : stG (InR9 B W n at' fa b1 b2 ep dc cl) nM nV nP nG T → E = 0) (hE1 : ¬ stG (InR9 B W n at' fa b1 b2 ep dc cl) nM nV nP nG T → stE (InR9 B W n at' fa b1 b2 ep dc cl) nM nV nP nG T E) :
    Calls Tryz.prog 18 #[.agg #[.int .i64 B, .int .i64 W, v, .int .i64 b1, .int .i64 b2, .int .i64 ep, .int .i64 dc, .int .i64 cl], .agg #[vM, vV, .int .i64 T], vp, vg] w fun e w' => e = .returned (.int .i64 E) ∧ Below w.heap.size w w' := by
  have HC1 : Hid (InR9 B W n at' fa b1 b2 ep dc cl → ∀ W' : World, Below w.heap.size w W' → Calls Tryz.prog 36 #[.agg #[.int .i64 B, .int .i64 W, v, .int .i64 b1, .int .i64 b2, .int .i64 ep, .int .i64 dc, .int .i64 cl]] W' fun e w' => e = .returned (.int .i64 0) ∧ Below W'.heap.size W' w') := fun h W' hb => check9_ok B W v n at' fa b1 b2 ep dc cl W' (hA.later hb) h
  have HC2 : Hid (¬ InR9 B W n at' fa b1 b2 ep dc cl → ∀ W' : World, Below w.heap.size w W' → Calls Tryz.prog 36 #[.agg #[.int .i64 B, .int .i64 W, v, .int .i64 b1, .int .i64 b2, .int .i64 ep, .int .i64 dc, .int .i64 cl]] W' fun e w' => e = .returned (.int .i64 80) ∧ Below W'.heap.size W' w') := fun h W' hb => check9_no B W v n at' fa b1 b2 ep dc cl W' (hA.later hb) h
  have HE : Hid ((stG (InR9 B W n at' fa b1 b2 ep dc cl) nM nV nP nG T → E = 0) ∧ (¬ stG (InR9 B W n at' fa b1 b2 ep dc cl) nM nV nP nG T → stE (InR9 B W n at' fa b1 b2 ep dc cl) nM nV nP nG T E)) := ⟨hE0, hE1⟩
  have HG9 : Hid (∀ h : stG (InR9 B W n at' fa b1 b2 ep dc cl) nM nV nP nG T, InR9 B W n at' fa b1 b2 ep dc cl ∧ lnP nM nV nP nG ∧ smP nM nV nP nG ∧ 0 ≤ T ∧ T < 1048576) := fun h => h
  clear hE0 hE1
  generalize hI : (InR9 B W n at' fa b1 b2 ep dc cl) = I at *
  obtain ⟨adr, cap, b, o, rfl, -, -, -, -⟩ := hA
  obtain ⟨adM, caM, bM, oM, rfl, m1, m2, -, -⟩ := hM
  obtain ⟨adV, caV, bV, oV, rfl, v1, v2, -, -⟩ := hV
  obtain ⟨adP, caP, bP, oP, rfl, p1, p2, -, -⟩ := hP
  obtain ⟨adG, caG, bG, oG, rfl, g1, g2, -, -⟩ := hG
  clear hI
  obtain ⟨w1, hw1⟩ : ∃ w1, w1 = (w.alloc (.cells #[.int .i64 B, .int .i64 W, .slice adr n cap, .int .i64 b1, .int .i64 b2, .int .i64 ep, .int .i64 dc, .int .i64 cl] 27)).alloc (.cells #[.slice adM nM caM, .slice adV nV caV, .int .i64 T] 30) := ⟨_, rfl⟩
  have hb1 : Below w.heap.size w w1 := by rw [hw1]; exact bel2 _ _ _
  have HX : Q8 w.heap.size (.int .i64 B) (.int .i64 W) (.slice adr n cap) (.int .i64 b1) (.int .i64 b2) (.int .i64 ep) (.int .i64 dc) (.int .i64 cl) w1 := by rw [hw1]; exact (Q8.new w _ _ _ _ _ _ _ _ _).later (bel1 _ _)
  have HN : Y3 (w.heap.size + 1) (.slice adM nM caM) (.slice adV nV caV) (.int .i64 T) w1 := by rw [hw1]; have h := Y3.new (w.alloc (.cells #[.int .i64 B, .int .i64 W, .slice adr n cap, .int .i64 b1, .int .i64 b2, .int .i64 ep, .int .i64 dc, .int .i64 cl] 27)) (.slice adM nM caM) (.slice adV nV caV) (.int .i64 T) 30; rw [World.size_alloc] at h; exact h
  obtain ⟨w2, hw2⟩ : ∃ w2, w2 = w1.alloc (.cells #[.int .i64 (nM : Int), .int .i64 (nV : Int), .int .i64 (nP : Int), .int .i64 (nG : Int)] 3) := ⟨_, rfl⟩
  have hA4 : Ar w2 (.slice (some ⟨w1.heap.size, 0, none⟩) 4 4) 4 (lf4 nM nV nP nG) := by rw [hw2]; exact lf4_ar w1 nM nV nP nG _ (by omega) (by omega) (by omega) (by omega)
  have HB2 : Hid (Below w.heap.size w w2) := by rw [hw2]; exact bchain hb1 (bel1 _ _)
  have HX2 : Q8 w.heap.size (.int .i64 B) (.int .i64 W) (.slice adr n cap) (.int .i64 b1) (.int .i64 b2) (.int .i64 ep) (.int .i64 dc) (.int .i64 cl) w2 := by rw [hw2]; exact HX.later (bel1 _ _)
  have HN2 : Y3 (w.heap.size + 1) (.slice adM nM caM) (.slice adV nV caV) (.int .i64 T) w2 := by rw [hw2]; exact HN.later (bel1 _ _)
  have CX := sMax_any _ 4 (lf4 nM nV nP nG) (by omega) w2 hA4
  have CY := sMin_any _ 4 (lf4 nM nV nP nG) (by omega) w2 hA4
  rw [show (4 : Nat) - 1 = 3 from rfl] at CX CY
  have H1 := mx4_ln nM nV nP nG
  have H2 := mx4_sm nM nV nP nG
  have HH : Hid ((mxU (lf4 nM nV nP nG) 3 ≤ 65536 ↔ lnP nM nV nP nG) ∧ (mxU (lf4 nM nV nP nG) 3 = mnU (lf4 nM nV nP nG) 3 ↔ smP nM nV nP nG)) := ⟨H1, H2⟩
  generalize mxU (lf4 nM nV nP nG) 3 = mx at *
  generalize mnU (lf4 nM nV nP nG) 3 = mn at *
  have x0 := HN.c0
  have x1 := HN.c1
  clear hA4 hb1 HX H1 H2
  go_enter Tryz.func18, Tryz.ntmps18
  go_upto_region 1 with fail
  rw [← hw1]
  clear hw1
  go_upto_region 2 with fail
  rw [← hw2]
  clear hw2 x0 x1 HN
  generalize w1.heap.size = gl at *
  go_wp2_with fail
  refine CX.mono ?_
  rintro e wz ⟨rfl, hz⟩
  subst hz
  clear CX
  go_wp2_with fail
  refine CY.mono ?_
  rintro e wz ⟨rfl, hz⟩
  subst hz
  clear CY
  have x0 := HX2.c0
  have x1 := HX2.c1
  have x2 := HX2.c2
  have x3 := HX2.c3
  have x4 := HX2.c4
  have x5 := HX2.c5
  have x6 := HX2.c6
  have x7 := HX2.c7
  clear HX2
  by_cases hI : I
  · have CC := HC1.out hI _ HB2.out
    clear HC1 HC2
    go_wp2_with fail
    refine CC.mono ?_
    rintro e w3 ⟨rfl, hb⟩
    have HB3 : Hid (Below w.heap.size w w3) := bchain HB2.out hb
    replace HN2 := HN2.later hb
    clear hb CC HB2 x0 x1 x2 x3 x4 x5 x6 x7
    have y2 := HN2.c2
    by_cases s1 : mx ≤ 65536
    · have s1' : ¬ 65536 < mx := by omega
      have l1 := HH.out.1.1 s1
      by_cases s2 : mx = mn
      · have s2b : (mx != mn) = false := by simp [s2]
        have l2 := HH.out.2.1 s2
        have HS2 : Hid (mx = mn) := s2
        clear s2
        by_cases t0 : T < 0
        · have e1 := (HE.out.2 (fun h => by have := HG9.out h; omega)).2.2.2 hI l1 l2 (by omega)
          subst e1
          clear HE HG9 HH hI
          go_wp2
          go_ret
          exact ⟨rfl, HB3.out⟩
        by_cases t1 : 1048576 ≤ T
        · have e1 := (HE.out.2 (fun h => by have := HG9.out h; omega)).2.2.2 hI l1 l2 (by omega)
          subst e1
          clear HE HG9 HH hI
          go_wp2
          go_ret
          exact ⟨rfl, HB3.out⟩
        have e1 := HE.out.1 ⟨hI, l1, l2, by omega, by omega⟩
        subst e1
        clear HE HG9 HH hI
        go_wp2
        go_ret
        exact ⟨rfl, HB3.out⟩
      · have s2b : (mx != mn) = true := by simp [s2]
        have l2 : ¬ smP nM nV nP nG := fun h => s2 (HH.out.2.2 h)
        have e1 := (HE.out.2 (fun h => l2 (HG9.out h).2.2.1)).2.2.1 hI l1 l2
        subst e1
        clear HE HG9 HH hI s2 l2
        go_wp2
        go_ret
        exact ⟨rfl, HB3.out⟩
    · have s1' : 65536 < mx := by omega
      have l1 : ¬ lnP nM nV nP nG := fun h => s1 (HH.out.1.2 h)
      have e1 := (HE.out.2 (fun h => l1 (HG9.out h).2.1)).2.1 hI l1
      subst e1
      clear HE HG9 HH hI l1
      go_wp2
      go_ret
      exact ⟨rfl, HB3.out⟩
  · have CC := HC2.out hI _ HB2.out
    have e1 := (HE.out.2 (fun h => hI (HG9.out h).1)).1 hI
    subst e1
    clear HC1 HC2 HE HG9 HH hI
    go_wp2_with fail
    refine CC.mono ?_
    rintro e w3 ⟨rfl, hb⟩
    have HB3 : Hid (Below w.heap.size w w3) := bchain HB2.out hb
    clear hb CC HB2 x0 x1 x2 x3 x4 x5 x6 x7
    go_wp2
    go_ret
    exact ⟨rfl, HB3.out⟩
end Go.Proofs.YtcdehbhdloaieaaGreatDoor
