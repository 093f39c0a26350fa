/-
The document's Right (regattaref14), some kinds.
The document's Right (regattaref14), some kinds.
The document's Right (regattaref14), some kinds.
The document's messages (regattaref14): Right of any message; payload.
The document's payload (regattaref14), some kinds.
-/
import Derived.Test.YtfcbgkcclganmaaDoorZ07
import Derived.Test.YtfcbgkcclganmaaDoorZ03

set_option linter.unusedVariables false
set_option linter.unusedSimpArgs false
namespace Go.Proofs.YtfcbgkcclganmaaDoor
open Go.RowKit

set_option maxRecDepth 100000 in
set_option maxHeartbeats 4000000 in
theorem refRight5 (fr inc rd h pt ps : Int) (d : List Nat) (ad : Option Addr) (n cap : Nat) (hn : d.length = n) (hn2 : n ≤ 9223372036854775807) (w : World) :
    Calls Tryd.prog 10 #[msV ⟨5, fr, inc, rd, h, pt, ps, d⟩ (.slice ad n cap)] w fun e w' => RgE ⟨5, fr, inc, rd, h, pt, ps, d⟩ w e w' := by
  have HD : Hid (d.length = n) := hn
  have HK : Hid (∀ W, Calls Tryd.prog 24 #[.agg #[.int .i64 5, .int .i64 fr, .int .i64 inc, .int .i64 rd, .int .i64 h, .int .i64 pt, .int .i64 ps, .slice ad n cap]] W fun e w' => e = .returned (.tuple #[.agg #[.int .i64 5, .int .i64 fr, .int .i64 inc, .int .i64 rd, .int .i64 0, .int .i64 pt, .int .i64 ps, .slice ad n cap], .bool true]) ∧ Below W.heap.size W w') := fun W => refKept5 ⟨5, fr, inc, rd, h, pt, ps, d⟩ ad n cap rfl W
  obtain ⟨wA, hwA⟩ : ∃ wA, wA = w.alloc (.cells #[.int .i64 5, .int .i64 fr, .int .i64 inc, .int .i64 rd, .int .i64 h, .int .i64 pt, .int .i64 ps, .slice ad n cap] 26) := ⟨_, rfl⟩
  have HA : Hid (B8 w.heap.size ⟨5, fr, inc, rd, h, pt, ps, d⟩ (.slice ad n cap) wA ∧ Below w.heap.size w wA) := by rw [hwA]; exact ⟨B8.new _ _ _ _, bel1 _ _⟩
  clear hn
  show Calls Tryd.prog 10 #[.agg #[.int .i64 5, .int .i64 fr, .int .i64 inc, .int .i64 rd, .int .i64 h, .int .i64 pt, .int .i64 ps, .slice ad n cap]] w _
  go_enter Tryd.func10, Tryd.ntmps10
  go_upto_region 1 with fail
  rw [← hwA]
  clear hwA
  have x0 := HA.out.1.c0
  have x1 := HA.out.1.c1
  have x2 := HA.out.1.c2
  have x3 := HA.out.1.c3
  have x4 := HA.out.1.c4
  have x5 := HA.out.1.c5
  have x6 := HA.out.1.c6
  have x7 := HA.out.1.c7
  dsimp only at x0 x1 x2 x3 x4 x5 x6 x7
  go_wp2_with fail
  refine (HK.out wA).mono ?_
  rintro e w1 ⟨rfl, hb1⟩
  obtain ⟨w2, hw2⟩ : ∃ w2, w2 = w1.alloc (.cells #[.int .i64 5, .int .i64 fr, .int .i64 inc, .int .i64 rd, .int .i64 0, .int .i64 pt, .int .i64 ps, .slice ad n cap] 26) := ⟨_, rfl⟩
  have hb2 : Below wA.heap.size wA w2 := by rw [hw2]; exact bchain hb1 (bel1 _ _)
  have HB : Hid (Below w.heap.size w w2) := bchain HA.out.2 hb2
  have y0 := cell_later hb2 x0
  have y1 := cell_later hb2 x1
  have y2 := cell_later hb2 x2
  have y3 := cell_later hb2 x3
  have y4 := cell_later hb2 x4
  have y5 := cell_later hb2 x5
  have y6 := cell_later hb2 x6
  have y7 := cell_later hb2 x7
  have z1 : w2.cell? ⟨w1.heap.size, 1, none⟩ = some (.int .i64 fr) := by rw [hw2]; simp [go_sem]
  have z2 : w2.cell? ⟨w1.heap.size, 2, none⟩ = some (.int .i64 inc) := by rw [hw2]; simp [go_sem]
  have z3 : w2.cell? ⟨w1.heap.size, 3, none⟩ = some (.int .i64 rd) := by rw [hw2]; simp [go_sem]
  have z4 : w2.cell? ⟨w1.heap.size, 4, none⟩ = some (.int .i64 0) := by rw [hw2]; simp [go_sem]
  have z5 : w2.cell? ⟨w1.heap.size, 5, none⟩ = some (.int .i64 pt) := by rw [hw2]; simp [go_sem]
  have z6 : w2.cell? ⟨w1.heap.size, 6, none⟩ = some (.int .i64 ps) := by rw [hw2]; simp [go_sem]
  have z7 : w2.cell? ⟨w1.heap.size, 7, none⟩ = some (.slice ad n cap) := by rw [hw2]; simp [go_sem]
  clear hb1 hb2 x0 x1 x2 x3 x4 x5 x6 x7 HA HK
  go_upto_region 2 with fail
  rw [← hw2]
  clear hw2
  generalize w1.heap.size = bk at *
  generalize w.heap.size = bm at y0 y1 y2 y3 y4 y5 y6 y7 ⊢
  by_cases hZ : h = 0
  rotate_left
  · have hN : ¬ Rgt ⟨5, fr, inc, rd, h, pt, ps, d⟩ := fun r => hZ (r.nH (by simp [uH]))
    have HNR : Hid (¬ Rgt ⟨5, fr, inc, rd, h, pt, ps, d⟩) := hN
    clear hN
    go_upto_if 64 with fail
    all_goals first | (exfalso; simp at *; omega) | (exfalso; omega) | (go_wp2; go_ret; exact RgE.no HNR.out HB.out)
  obtain rfl := hZ
  cases qF : inB fr 1 64 with
  | false =>
    go_wp2_with (go_at_call 25; refine (refIn _ _ _ _).mono ?_; rintro e w9 ⟨rfl, rfl⟩)
    go_ret
    exact RgE.no (fun r => inB_no qF (r.fr (by simp [uF])).1 (r.fr (by simp [uF])).2) HB.out
  | true =>
    cases qI : inB inc 0 2147483647 with
    | false =>
      go_wp2_with (go_at_call 25; refine (refIn _ _ _ _).mono ?_; rintro e w9 ⟨rfl, rfl⟩)
      go_ret
      exact RgE.no (fun r => inB_no qI r.inc.1 r.inc.2) HB.out
    | true =>
      cases qR : inB rd 0 256 with
      | false =>
        go_wp2_with (go_at_call 25; refine (refIn _ _ _ _).mono ?_; rintro e w9 ⟨rfl, rfl⟩)
        go_ret
        exact RgE.no (fun r => inB_no qR r.rd.1 r.rd.2) HB.out
      | true =>
        cases qP : inB pt 0 1023 with
        | false =>
          go_wp2_with (go_at_call 25; refine (refIn _ _ _ _).mono ?_; rintro e w9 ⟨rfl, rfl⟩)
          go_ret
          exact RgE.no (fun r => inB_no qP r.pt.1 r.pt.2) HB.out
        | true =>
          cases qS : inB ps 1 1024 with
          | false =>
            go_wp2_with (go_at_call 25; refine (refIn _ _ _ _).mono ?_; rintro e w9 ⟨rfl, rfl⟩)
            go_ret
            exact RgE.no (fun r => inB_no qS (r.ps (by simp [uS])).1 (r.ps (by simp [uS])).2.1) HB.out
          | true =>
            by_cases qL : pt < ps
            rotate_left
            · have qLI : ps ≤ pt := by omega
              go_wp2_with (go_at_call 25; refine (refIn _ _ _ _).mono ?_; rintro e w9 ⟨rfl, rfl⟩)
              go_ret
              exact RgE.no (fun r : Rgt ⟨5, fr, inc, rd, 0, pt, ps, d⟩ => by have h1 := (r.ps (by simp [uS])).2.2; dsimp only at h1; omega) HB.out
            have qLI : ¬ ps ≤ pt := by omega
            by_cases qD : n ≤ 32768
            rotate_left
            · have qDI : ¬ (n : Int) ≤ 32768 := by omega
              have qDB : decide ((n : Int) ≤ 32768) = false := by simp; omega
              have qDC : decide (n ≤ 32768) = false := by simp; omega
              go_wp2_with (go_at_call 25; refine (refIn _ _ _ _).mono ?_; rintro e w9 ⟨rfl, rfl⟩)
              go_ret
              exact RgE.no (fun r : Rgt ⟨5, fr, inc, rd, 0, pt, ps, d⟩ => by have h1 := r.d; have h2 := HD.out; dsimp only at h1; omega) HB.out
            have qDI : (n : Int) ≤ 32768 := by omega
            have qDB : decide ((n : Int) ≤ 32768) = true := by simp; omega
            have qDC : decide (n ≤ 32768) = true := by simp; omega
            have HR : Hid (Rgt ⟨5, fr, inc, rd, 0, pt, ps, d⟩) := ⟨by show (1 : Int) ≤ 5; decide, by show (5 : Int) ≤ 8; decide, fun q => absurd q (by simp [uF]), fun q => absurd q (by simp [uI]), fun q => absurd q (by simp [uR]), fun _ => rfl, fun q => absurd q (by simp [uP]), fun q => absurd q (by simp [uS]), fun q => absurd q (by simp [uD]), fun _ => inB_of qF, inB_of qI, inB_of qR, inB_of qP, fun q => by simp [uH] at q, fun _ => ⟨(inB_of qS).1, (inB_of qS).2, qL⟩, by show d.length ≤ 32768; rw [HD.out]; exact qD⟩
            go_wp2_with (go_at_call 25; refine (refIn _ _ _ _).mono ?_; rintro e w9 ⟨rfl, rfl⟩)
            go_ret
            exact RgE.yes HR.out HB.out
end Go.Proofs.YtfcbgkcclganmaaDoor
set_option linter.unusedVariables false
set_option linter.unusedSimpArgs false
namespace Go.Proofs.YtfcbgkcclganmaaDoor
open Go.RowKit

set_option maxRecDepth 100000 in
set_option maxHeartbeats 4000000 in
theorem refRight7 (fr inc rd h pt ps : Int) (d : List Nat) (ad : Option Addr) (n cap : Nat) (hn : d.length = n) (hn2 : n ≤ 9223372036854775807) (w : World) :
    Calls Tryd.prog 10 #[msV ⟨7, fr, inc, rd, h, pt, ps, d⟩ (.slice ad n cap)] w fun e w' => RgE ⟨7, fr, inc, rd, h, pt, ps, d⟩ w e w' := by
  have HD : Hid (d.length = n) := hn
  have HK : Hid (∀ W, Calls Tryd.prog 24 #[.agg #[.int .i64 7, .int .i64 fr, .int .i64 inc, .int .i64 rd, .int .i64 h, .int .i64 pt, .int .i64 ps, .slice ad n cap]] W fun e w' => e = .returned (.tuple #[.agg #[.int .i64 7, .int .i64 0, .int .i64 inc, .int .i64 rd, .int .i64 0, .int .i64 0, .int .i64 0, .slice none 0 0], .bool true]) ∧ Below W.heap.size W w') := fun W => refKept7 ⟨7, fr, inc, rd, h, pt, ps, d⟩ ad n cap rfl W
  obtain ⟨wA, hwA⟩ : ∃ wA, wA = w.alloc (.cells #[.int .i64 7, .int .i64 fr, .int .i64 inc, .int .i64 rd, .int .i64 h, .int .i64 pt, .int .i64 ps, .slice ad n cap] 26) := ⟨_, rfl⟩
  have HA : Hid (B8 w.heap.size ⟨7, fr, inc, rd, h, pt, ps, d⟩ (.slice ad n cap) wA ∧ Below w.heap.size w wA) := by rw [hwA]; exact ⟨B8.new _ _ _ _, bel1 _ _⟩
  clear hn
  show Calls Tryd.prog 10 #[.agg #[.int .i64 7, .int .i64 fr, .int .i64 inc, .int .i64 rd, .int .i64 h, .int .i64 pt, .int .i64 ps, .slice ad n cap]] w _
  go_enter Tryd.func10, Tryd.ntmps10
  go_upto_region 1 with fail
  rw [← hwA]
  clear hwA
  have x0 := HA.out.1.c0
  have x1 := HA.out.1.c1
  have x2 := HA.out.1.c2
  have x3 := HA.out.1.c3
  have x4 := HA.out.1.c4
  have x5 := HA.out.1.c5
  have x6 := HA.out.1.c6
  have x7 := HA.out.1.c7
  dsimp only at x0 x1 x2 x3 x4 x5 x6 x7
  go_wp2_with fail
  refine (HK.out wA).mono ?_
  rintro e w1 ⟨rfl, hb1⟩
  obtain ⟨w2, hw2⟩ : ∃ w2, w2 = w1.alloc (.cells #[.int .i64 7, .int .i64 0, .int .i64 inc, .int .i64 rd, .int .i64 0, .int .i64 0, .int .i64 0, .slice none 0 0] 26) := ⟨_, rfl⟩
  have hb2 : Below wA.heap.size wA w2 := by rw [hw2]; exact bchain hb1 (bel1 _ _)
  have HB : Hid (Below w.heap.size w w2) := bchain HA.out.2 hb2
  have y0 := cell_later hb2 x0
  have y1 := cell_later hb2 x1
  have y2 := cell_later hb2 x2
  have y3 := cell_later hb2 x3
  have y4 := cell_later hb2 x4
  have y5 := cell_later hb2 x5
  have y6 := cell_later hb2 x6
  have y7 := cell_later hb2 x7
  have z1 : w2.cell? ⟨w1.heap.size, 1, none⟩ = some (.int .i64 0) := by rw [hw2]; simp [go_sem]
  have z2 : w2.cell? ⟨w1.heap.size, 2, none⟩ = some (.int .i64 inc) := by rw [hw2]; simp [go_sem]
  have z3 : w2.cell? ⟨w1.heap.size, 3, none⟩ = some (.int .i64 rd) := by rw [hw2]; simp [go_sem]
  have z4 : w2.cell? ⟨w1.heap.size, 4, none⟩ = some (.int .i64 0) := by rw [hw2]; simp [go_sem]
  have z5 : w2.cell? ⟨w1.heap.size, 5, none⟩ = some (.int .i64 0) := by rw [hw2]; simp [go_sem]
  have z6 : w2.cell? ⟨w1.heap.size, 6, none⟩ = some (.int .i64 0) := by rw [hw2]; simp [go_sem]
  have z7 : w2.cell? ⟨w1.heap.size, 7, none⟩ = some (.slice none 0 0) := by rw [hw2]; simp [go_sem]
  clear hb1 hb2 x0 x1 x2 x3 x4 x5 x6 x7 HA HK
  go_upto_region 2 with fail
  rw [← hw2]
  clear hw2
  generalize w1.heap.size = bk at *
  generalize w.heap.size = bm at y0 y1 y2 y3 y4 y5 y6 y7 ⊢
  by_cases hZ : fr = 0 ∧ h = 0 ∧ pt = 0 ∧ ps = 0 ∧ n = 0
  rotate_left
  · have hN : ¬ Rgt ⟨7, fr, inc, rd, h, pt, ps, d⟩ := fun r => hZ ⟨r.nF (by simp [uF]), r.nH (by simp [uH]), r.nP (by simp [uP]), r.nS (by simp [uS]), (by have h1 := r.nD (by simp [uD]); have h2 := HD.out; dsimp only at h1; rw [h1] at h2; exact h2.symm)⟩
    have HNR : Hid (¬ Rgt ⟨7, fr, inc, rd, h, pt, ps, d⟩) := hN
    clear hN
    go_upto_if 64 with fail
    all_goals first | (exfalso; simp at *; omega) | (exfalso; omega) | (go_wp2; go_ret; exact RgE.no HNR.out HB.out)
  obtain ⟨rfl, rfl, rfl, rfl, rfl⟩ := hZ
  have qP : inB 0 0 1023 = true := rfl
  cases qI : inB inc 0 2147483647 with
  | false =>
    go_wp2_with (go_at_call 25; refine (refIn _ _ _ _).mono ?_; rintro e w9 ⟨rfl, rfl⟩)
    go_ret
    exact RgE.no (fun r => inB_no qI r.inc.1 r.inc.2) HB.out
  | true =>
    cases qR : inB rd 0 256 with
    | false =>
      go_wp2_with (go_at_call 25; refine (refIn _ _ _ _).mono ?_; rintro e w9 ⟨rfl, rfl⟩)
      go_ret
      exact RgE.no (fun r => inB_no qR r.rd.1 r.rd.2) HB.out
    | true =>
      have HR : Hid (Rgt ⟨7, 0, inc, rd, 0, 0, 0, d⟩) := ⟨by show (1 : Int) ≤ 7; decide, by show (7 : Int) ≤ 8; decide, fun _ => rfl, fun q => absurd q (by simp [uI]), fun q => absurd q (by simp [uR]), fun _ => rfl, fun _ => rfl, fun _ => rfl, fun _ => List.eq_nil_of_length_eq_zero HD.out, fun q => by simp [uF] at q, inB_of qI, inB_of qR, (show (0 : Int) ≤ 0 ∧ (0 : Int) ≤ 1023 by omega), fun q => by simp [uH] at q, fun q => by simp [uS] at q, by show d.length ≤ 32768; rw [HD.out]; omega⟩
      go_wp2_with (go_at_call 25; refine (refIn _ _ _ _).mono ?_; rintro e w9 ⟨rfl, rfl⟩)
      go_ret
      exact RgE.yes HR.out HB.out
end Go.Proofs.YtfcbgkcclganmaaDoor
set_option linter.unusedVariables false
set_option linter.unusedSimpArgs false
namespace Go.Proofs.YtfcbgkcclganmaaDoor
open Go.RowKit

set_option maxRecDepth 100000 in
set_option maxHeartbeats 4000000 in
theorem refRight8 (fr inc rd h pt ps : Int) (d : List Nat) (ad : Option Addr) (n cap : Nat) (hn : d.length = n) (hn2 : n ≤ 9223372036854775807) (w : World) :
    Calls Tryd.prog 10 #[msV ⟨8, fr, inc, rd, h, pt, ps, d⟩ (.slice ad n cap)] w fun e w' => RgE ⟨8, fr, inc, rd, h, pt, ps, d⟩ w e w' := by
  have HD : Hid (d.length = n) := hn
  have HK : Hid (∀ W, Calls Tryd.prog 24 #[.agg #[.int .i64 8, .int .i64 fr, .int .i64 inc, .int .i64 rd, .int .i64 h, .int .i64 pt, .int .i64 ps, .slice ad n cap]] W fun e w' => e = .returned (.tuple #[.agg #[.int .i64 8, .int .i64 fr, .int .i64 inc, .int .i64 0, .int .i64 0, .int .i64 0, .int .i64 0, .slice none 0 0], .bool true]) ∧ Below W.heap.size W w') := fun W => refKept8 ⟨8, fr, inc, rd, h, pt, ps, d⟩ ad n cap rfl W
  obtain ⟨wA, hwA⟩ : ∃ wA, wA = w.alloc (.cells #[.int .i64 8, .int .i64 fr, .int .i64 inc, .int .i64 rd, .int .i64 h, .int .i64 pt, .int .i64 ps, .slice ad n cap] 26) := ⟨_, rfl⟩
  have HA : Hid (B8 w.heap.size ⟨8, fr, inc, rd, h, pt, ps, d⟩ (.slice ad n cap) wA ∧ Below w.heap.size w wA) := by rw [hwA]; exact ⟨B8.new _ _ _ _, bel1 _ _⟩
  clear hn
  show Calls Tryd.prog 10 #[.agg #[.int .i64 8, .int .i64 fr, .int .i64 inc, .int .i64 rd, .int .i64 h, .int .i64 pt, .int .i64 ps, .slice ad n cap]] w _
  go_enter Tryd.func10, Tryd.ntmps10
  go_upto_region 1 with fail
  rw [← hwA]
  clear hwA
  have x0 := HA.out.1.c0
  have x1 := HA.out.1.c1
  have x2 := HA.out.1.c2
  have x3 := HA.out.1.c3
  have x4 := HA.out.1.c4
  have x5 := HA.out.1.c5
  have x6 := HA.out.1.c6
  have x7 := HA.out.1.c7
  dsimp only at x0 x1 x2 x3 x4 x5 x6 x7
  go_wp2_with fail
  refine (HK.out wA).mono ?_
  rintro e w1 ⟨rfl, hb1⟩
  obtain ⟨w2, hw2⟩ : ∃ w2, w2 = w1.alloc (.cells #[.int .i64 8, .int .i64 fr, .int .i64 inc, .int .i64 0, .int .i64 0, .int .i64 0, .int .i64 0, .slice none 0 0] 26) := ⟨_, rfl⟩
  have hb2 : Below wA.heap.size wA w2 := by rw [hw2]; exact bchain hb1 (bel1 _ _)
  have HB : Hid (Below w.heap.size w w2) := bchain HA.out.2 hb2
  have y0 := cell_later hb2 x0
  have y1 := cell_later hb2 x1
  have y2 := cell_later hb2 x2
  have y3 := cell_later hb2 x3
  have y4 := cell_later hb2 x4
  have y5 := cell_later hb2 x5
  have y6 := cell_later hb2 x6
  have y7 := cell_later hb2 x7
  have z1 : w2.cell? ⟨w1.heap.size, 1, none⟩ = some (.int .i64 fr) := by rw [hw2]; simp [go_sem]
  have z2 : w2.cell? ⟨w1.heap.size, 2, none⟩ = some (.int .i64 inc) := by rw [hw2]; simp [go_sem]
  have z3 : w2.cell? ⟨w1.heap.size, 3, none⟩ = some (.int .i64 0) := by rw [hw2]; simp [go_sem]
  have z4 : w2.cell? ⟨w1.heap.size, 4, none⟩ = some (.int .i64 0) := by rw [hw2]; simp [go_sem]
  have z5 : w2.cell? ⟨w1.heap.size, 5, none⟩ = some (.int .i64 0) := by rw [hw2]; simp [go_sem]
  have z6 : w2.cell? ⟨w1.heap.size, 6, none⟩ = some (.int .i64 0) := by rw [hw2]; simp [go_sem]
  have z7 : w2.cell? ⟨w1.heap.size, 7, none⟩ = some (.slice none 0 0) := by rw [hw2]; simp [go_sem]
  clear hb1 hb2 x0 x1 x2 x3 x4 x5 x6 x7 HA HK
  go_upto_region 2 with fail
  rw [← hw2]
  clear hw2
  generalize w1.heap.size = bk at *
  generalize w.heap.size = bm at y0 y1 y2 y3 y4 y5 y6 y7 ⊢
  by_cases hZ : rd = 0 ∧ h = 0 ∧ pt = 0 ∧ ps = 0 ∧ n = 0
  rotate_left
  · have hN : ¬ Rgt ⟨8, fr, inc, rd, h, pt, ps, d⟩ := fun r => hZ ⟨r.nR (by simp [uR]), r.nH (by simp [uH]), r.nP (by simp [uP]), r.nS (by simp [uS]), (by have h1 := r.nD (by simp [uD]); have h2 := HD.out; dsimp only at h1; rw [h1] at h2; exact h2.symm)⟩
    have HNR : Hid (¬ Rgt ⟨8, fr, inc, rd, h, pt, ps, d⟩) := hN
    clear hN
    go_upto_if 64 with fail
    all_goals first | (exfalso; simp at *; omega) | (exfalso; omega) | (go_wp2; go_ret; exact RgE.no HNR.out HB.out)
  obtain ⟨rfl, rfl, rfl, rfl, rfl⟩ := hZ
  have qR : inB 0 0 256 = true := rfl
  have qP : inB 0 0 1023 = true := rfl
  cases qF : inB fr 1 64 with
  | false =>
    go_wp2_with (go_at_call 25; refine (refIn _ _ _ _).mono ?_; rintro e w9 ⟨rfl, rfl⟩)
    go_ret
    exact RgE.no (fun r => inB_no qF (r.fr (by simp [uF])).1 (r.fr (by simp [uF])).2) HB.out
  | true =>
    cases qI : inB inc 0 2147483647 with
    | false =>
      go_wp2_with (go_at_call 25; refine (refIn _ _ _ _).mono ?_; rintro e w9 ⟨rfl, rfl⟩)
      go_ret
      exact RgE.no (fun r => inB_no qI r.inc.1 r.inc.2) HB.out
    | true =>
      have HR : Hid (Rgt ⟨8, fr, inc, 0, 0, 0, 0, d⟩) := ⟨by show (1 : Int) ≤ 8; decide, by show (8 : Int) ≤ 8; decide, fun q => absurd q (by simp [uF]), fun q => absurd q (by simp [uI]), fun _ => rfl, fun _ => rfl, fun _ => rfl, fun _ => rfl, fun _ => List.eq_nil_of_length_eq_zero HD.out, fun _ => inB_of qF, inB_of qI, (show (0 : Int) ≤ 0 ∧ (0 : Int) ≤ 256 by omega), (show (0 : Int) ≤ 0 ∧ (0 : Int) ≤ 1023 by omega), fun q => by simp [uH] at q, fun q => by simp [uS] at q, by show d.length ≤ 32768; rw [HD.out]; omega⟩
      go_wp2_with (go_at_call 25; refine (refIn _ _ _ _).mono ?_; rintro e w9 ⟨rfl, rfl⟩)
      go_ret
      exact RgE.yes HR.out HB.out
end Go.Proofs.YtfcbgkcclganmaaDoor
set_option linter.unusedVariables false
set_option linter.unusedSimpArgs false
namespace Go.Proofs.YtfcbgkcclganmaaDoor
open Go.RowKit

set_option maxRecDepth 100000 in
set_option maxHeartbeats 4000000 in
theorem refRight0 (k fr inc rd h pt ps : Int) (d : List Nat) (ad : Option Addr) (n cap : Nat) (hk : k < 1 ∨ 8 < k) (w : World) :
    Calls Tryd.prog 10 #[msV ⟨k, fr, inc, rd, h, pt, ps, d⟩ (.slice ad n cap)] w fun e w' => RgE ⟨k, fr, inc, rd, h, pt, ps, d⟩ w e w' := by
  have HN : Hid (¬ Rgt ⟨k, fr, inc, rd, h, pt, ps, d⟩) := fun r => by have h1 := r.k1; have h2 := r.k8; dsimp only at h1 h2; omega
  have HK : Hid (∀ W, Calls Tryd.prog 24 #[.agg #[.int .i64 k, .int .i64 fr, .int .i64 inc, .int .i64 rd, .int .i64 h, .int .i64 pt, .int .i64 ps, .slice ad n cap]] W fun e w' => e = .returned (.tuple #[.agg #[.int .i64 k, .int .i64 0, .int .i64 0, .int .i64 0, .int .i64 0, .int .i64 0, .int .i64 0, .slice none 0 0], .bool false]) ∧ Below W.heap.size W w') := fun W => by
    refine (refKept0 ⟨k, fr, inc, rd, h, pt, ps, d⟩ ad n cap hk W).mono fun e w' h => ⟨?_, h.2⟩
    rw [h.1]
    unfold kpt kpv
    dsimp only
    rw [if_neg (by omega), if_neg (by omega), if_neg (by omega), if_neg (by omega), if_neg (by omega), if_neg (by omega), if_neg (by omega), if_neg (by omega)]
    rfl
  obtain ⟨wA, hwA⟩ : ∃ wA, wA = w.alloc (.cells #[.int .i64 k, .int .i64 fr, .int .i64 inc, .int .i64 rd, .int .i64 h, .int .i64 pt, .int .i64 ps, .slice ad n cap] 26) := ⟨_, rfl⟩
  have HA : Hid (B8 w.heap.size ⟨k, fr, inc, rd, h, pt, ps, d⟩ (.slice ad n cap) wA ∧ Below w.heap.size w wA) := by rw [hwA]; exact ⟨B8.new _ _ _ _, bel1 _ _⟩
  clear hk
  show Calls Tryd.prog 10 #[.agg #[.int .i64 k, .int .i64 fr, .int .i64 inc, .int .i64 rd, .int .i64 h, .int .i64 pt, .int .i64 ps, .slice ad n cap]] w _
  go_enter Tryd.func10, Tryd.ntmps10
  go_upto_region 1 with fail
  rw [← hwA]
  clear hwA
  have x0 := HA.out.1.c0
  have x1 := HA.out.1.c1
  have x2 := HA.out.1.c2
  have x3 := HA.out.1.c3
  have x4 := HA.out.1.c4
  have x5 := HA.out.1.c5
  have x6 := HA.out.1.c6
  have x7 := HA.out.1.c7
  dsimp only at x0 x1 x2 x3 x4 x5 x6 x7
  go_wp2_with fail
  refine (HK.out wA).mono ?_
  rintro e w1 ⟨rfl, hb1⟩
  have HB : Hid (∀ o : Obj, Below w.heap.size w (w1.alloc o)) := fun o => bchain HA.out.2 (bchain hb1 (bel1 _ _))
  clear hb1 HA HK
  go_wp2
  go_ret
  exact RgE.no HN.out (HB.out _)
/-- The document's Right. -/
theorem refRight14 (m : Ms) (v : Value) (w : World) (h : Bs w v m.d) :
    Calls Tryd.prog 10 #[msV m v] w fun e w' => RgE m w e w' := by
  obtain ⟨ad, cap, rfl, h1, h2⟩ := h.len
  unfold maxLen at h2
  obtain ⟨k, fr, inc, rd, hh, pt, ps, d⟩ := m
  dsimp only at h1 ⊢
  by_cases hk : k < 1 ∨ 8 < k
  · exact refRight0 k fr inc rd hh pt ps d ad _ cap hk w
  · rcases kind8 (k := k) (by omega) (by omega) with rfl | rfl | rfl | rfl | rfl | rfl | rfl | rfl
    · exact refRight1 fr inc rd hh pt ps d ad _ cap rfl (by omega) w
    · exact refRight2 fr inc rd hh pt ps d ad _ cap rfl (by omega) w
    · exact refRight3 fr inc rd hh pt ps d ad _ cap rfl (by omega) w
    · exact refRight4 fr inc rd hh pt ps d ad _ cap rfl (by omega) w
    · exact refRight5 fr inc rd hh pt ps d ad _ cap rfl (by omega) w
    · exact refRight6 fr inc rd hh pt ps d ad _ cap rfl (by omega) w
    · exact refRight7 fr inc rd hh pt ps d ad _ cap rfl (by omega) w
    · exact refRight8 fr inc rd hh pt ps d ad _ cap rfl (by omega) w
theorem is_list (w : World) (l : List Int) (t : TypeId) (vs : Array Value) (hv : vs = (l.map fun x => Value.int .i64 x).toArray) (hl : l.length ≤ 100) : Is (w.alloc (.cells vs t)) (.slice (some ⟨w.heap.size, 0, none⟩) l.length l.length) l := by
  refine ⟨_, l.length, w.heap.size, 0, rfl, Nat.le_refl _, ⟨by unfold maxLen; omega, fun e => by cases e⟩, fun _ => rfl, fun k hk => ?_⟩
  subst hv
  rw [Nat.zero_add]
  simp [go_sem, i6f, List.getD, hk]
end Go.Proofs.YtfcbgkcclganmaaDoor
set_option linter.unusedVariables false
set_option linter.unusedSimpArgs false
namespace Go.Proofs.YtfcbgkcclganmaaDoor
open Go.RowKit

set_option maxRecDepth 100000 in
set_option maxHeartbeats 4000000 in
theorem refPayload1 (fr inc rd h pt ps : Int) (d : List Nat) (ad : Option Addr) (n cap : Nat) (w : World) (hn : d.length = n) (r : Rgt ⟨1, fr, inc, rd, h, pt, ps, d⟩) (hb : Bs w (.slice ad n cap) d) :
    Calls Tryd.prog 29 #[msV ⟨1, fr, inc, rd, h, pt, ps, d⟩ (.slice ad n cap)] w fun e w' => ∃ v', e = .returned v' ∧ Bs w' v' (pay ⟨1, fr, inc, rd, h, pt, ps, d⟩) ∧ Below w.heap.size w w' := by
  obtain ⟨L, hL⟩ : ∃ L, ([fr, inc] : List Int) = L := ⟨_, rfl⟩
  have HL : Hid (L.length = 2 ∧ (∀ x ∈ L, okI x) ∧ pay ⟨1, fr, inc, rd, h, pt, ps, d⟩ = L.flatMap enI ++ [] ∧ (pay ⟨1, fr, inc, rd, h, pt, ps, d⟩).length ≤ 40000) := by
    refine ⟨by rw [← hL]; rfl, ?_, by rw [← hL]; rfl, pay_len r⟩
    have := ints_ok r
    rw [← hL]
    exact this
  have HN : Hid (d.length = n ∧ n ≤ 32768) := ⟨hn, by have h1 := r.d; dsimp only at h1; omega⟩
  have hcnt : IntKind.u64.wrap (n : Int) = (n : Int) := by rw [IntKind.wrap_u64]; have := HN.out; omega
  obtain ⟨wX, hwX⟩ : ∃ wX, wX = (w.alloc (.cells #[.int .i64 1, .int .i64 fr, .int .i64 inc, .int .i64 rd, .int .i64 h, .int .i64 pt, .int .i64 ps, .slice ad n cap] 26)).alloc (.cells #[.int .i64 fr, .int .i64 inc] 3) := ⟨_, rfl⟩
  have HX : Hid (B8 w.heap.size ⟨1, fr, inc, rd, h, pt, ps, d⟩ (.slice ad n cap) wX ∧ Below w.heap.size w wX ∧ Bs wX (.slice ad n cap) d ∧ Is wX (.slice (some ⟨w.heap.size + 1, 0, none⟩) 2 2) L ∧ wX.heap.size = w.heap.size + 2) := by
    rw [hwX, ← hL]
    refine ⟨(B8.new _ _ _ _).later (bel1 _ _), bel2 _ _ _, hb.later (bel2 _ _ _), ?_, by simp⟩
    have := is_list (w.alloc (.cells #[.int .i64 1, .int .i64 fr, .int .i64 inc, .int .i64 rd, .int .i64 h, .int .i64 pt, .int .i64 ps, .slice ad n cap] 26)) [fr, inc] 3 #[.int .i64 fr, .int .i64 inc] rfl (by simp)
    simpa [World.size_alloc] using this
  clear hn r hb hL
  show Calls Tryd.prog 29 #[.agg #[.int .i64 1, .int .i64 fr, .int .i64 inc, .int .i64 rd, .int .i64 h, .int .i64 pt, .int .i64 ps, .slice ad n cap]] w _
  go_enter Tryd.func29, Tryd.ntmps29
  go_upto_region 20 with fail
  rw [← hwX]
  clear hwX
  generalize hbm : w.heap.size = bm at *
  have HBm : Hid (w.heap.size = bm) := hbm
  clear hbm
  go_loopw [4, 5] (fun s4 s5 wr => ∃ (j : Nat), j ≤ 2 ∧ s5 = .int .i64 ((j : Nat) : Int) ∧ Hid (Ob wX.heap.size wr s4 ((L.take j).flatMap enI)) ∧ Hid (Below wX.heap.size wX wr)) (fun _ s5 _ => 2 - (intOf s5).toNat)
  case atStart => exact ⟨0, by omega, rfl, by show Ob wX.heap.size wX _ []; exact ob_nil _ _, Below.refl _ _⟩
  case round =>
    obtain ⟨j, hj, rfl, HO, HB⟩ := hrel
    by_cases hjn : j < 2
    · have hjI : (j : Int) < 2 := by omega
      have hj1 : IntKind.i64.wrap ((j : Int) + 1) = ((j + 1 : Nat) : Int) := by rw [IntKind.wrap_i64]; omega
      have hjL : j < L.length := by rw [HL.out.1]; exact hjn
      obtain ⟨g0, o0, e0, x0⟩ := (HX.out.2.2.2.1.later HB.out).cel j hjL
      cases e0
      rw [Nat.zero_add] at x0
      have HE : Hid ((L.take (j + 1)).flatMap enI = (L.take j).flatMap enI ++ enU (ctI (L.getD j 0))) := by
        show _ = _
        have e : L.getD j 0 = L[j] := by simp [List.getD, hjL]
        rw [List.take_add_one, List.flatMap_append, e]
        simp [hjL, enI]
      have HXj : Hid (okI (L.getD j 0)) := HL.out.2.1 _ (by
        have e : L.getD j 0 = L[j] := by simp [List.getD, hjL]
        rw [e]
        exact List.getElem_mem hjL)
      have HPl : Hid (((L.take j).flatMap enI).length ≤ 40000) := by
        have h1 := HL.out.2.2.2
        have h2 : ((L.take j).flatMap enI).length ≤ (L.flatMap enI).length := by
          conv => rhs; rw [← List.take_append_drop j L, List.flatMap_append, List.length_append]
          omega
        rw [HL.out.2.2.1, List.length_append] at h1
        show _ ≤ _
        omega
      generalize L.getD j 0 = x at *
      go_wp2_with fail
      refine (refCount x HXj.out.1 HXj.out.2 wr).mono ?_
      rintro e w3 ⟨rfl, rfl⟩
      go_wp2_with fail
      refine (refUint (ctI x) (ctI_lt HXj.out.1 HXj.out.2) w3).mono ?_
      rintro e w4 ⟨v4, rfl, hO4, hB4⟩
      have HO4 : Hid (Bs w4 v4 (enU (ctI x)) ∧ Ob wX.heap.size w4 u4 ((L.take j).flatMap enI) ∧ Below wX.heap.size wX w4) := ⟨hO4.bs.1, HO.out.later hB4, bchain HB.out hB4⟩
      obtain ⟨a4, p4, rfl⟩ := hO4.sl
      have H10 : Hid ((enU (ctI x)).length ≤ 10) := enU_ten (ctI_lt HXj.out.1 HXj.out.2)
      generalize enU (ctI x) = S at *
      clear hO4 hB4 x0 HO HB
      go_wp2_with (at_builtin; refine apB rfl _ _ rfl wX.heap.size _ _ rfl HO4.out.2.1 _ S rfl HO4.out.1 (by have := HPl.out; have := H10.out; omega) HO4.out.2.2.size ?_; intro v5 w5 hO5 hg5)
      have HO5 : Hid (Ob wX.heap.size w5 v5 ((L.take (j + 1)).flatMap enI)) := by rw [HE.out]; exact hO5
      have HB5 : Hid (Below wX.heap.size wX w5) := hg5.1 _ HO4.out.2.2
      clear hO5 hg5 HO4
      go_wp2
      go_roundw
      case rel => exact ⟨j + 1, by omega, rfl, HO5, HB5⟩
      case measure => simp only [intOf]; omega
    · have hjI : ¬ (j : Int) < 2 := by omega
      have HO2 : Hid (Ob wX.heap.size wr u4 (L.flatMap enI)) := by have h := HO.out; rw [List.take_of_length_le (by rw [HL.out.1]; omega)] at h; exact h
      obtain ⟨a4, p4, rfl⟩ := HO2.out.sl
      have y := HX.out.1.later HB.out
      have y0 := y.c0
      have y7 := y.c7
      dsimp only at y0 y7
      have HBw : Hid (Below bm w wr) := HX.out.2.1.trans (HB.out.mono (by have := HX.out.2.2.2.2; omega))
      have HF : Hid (pay ⟨1, fr, inc, rd, h, pt, ps, d⟩ = L.flatMap enI) := by show _ = _; rw [HL.out.2.2.1, List.append_nil]
      generalize L.flatMap enI = S at *
      clear HO y
      go_wp2
      go_ret
      refine ⟨_, rfl, by rw [HF.out]; exact HO2.out.bs.1, ?_⟩
      rw [HBm.out]
      exact HBw.out
set_option maxRecDepth 100000 in
set_option maxHeartbeats 4000000 in
theorem refPayload2 (fr inc rd h pt ps : Int) (d : List Nat) (ad : Option Addr) (n cap : Nat) (w : World) (hn : d.length = n) (r : Rgt ⟨2, fr, inc, rd, h, pt, ps, d⟩) (hb : Bs w (.slice ad n cap) d) :
    Calls Tryd.prog 29 #[msV ⟨2, fr, inc, rd, h, pt, ps, d⟩ (.slice ad n cap)] w fun e w' => ∃ v', e = .returned v' ∧ Bs w' v' (pay ⟨2, fr, inc, rd, h, pt, ps, d⟩) ∧ Below w.heap.size w w' := by
  obtain ⟨L, hL⟩ : ∃ L, ([rd, h, ps] : List Int) = L := ⟨_, rfl⟩
  have HL : Hid (L.length = 3 ∧ (∀ x ∈ L, okI x) ∧ pay ⟨2, fr, inc, rd, h, pt, ps, d⟩ = L.flatMap enI ++ [] ∧ (pay ⟨2, fr, inc, rd, h, pt, ps, d⟩).length ≤ 40000) := by
    refine ⟨by rw [← hL]; rfl, ?_, by rw [← hL]; rfl, pay_len r⟩
    have := ints_ok r
    rw [← hL]
    exact this
  have HN : Hid (d.length = n ∧ n ≤ 32768) := ⟨hn, by have h1 := r.d; dsimp only at h1; omega⟩
  have hcnt : IntKind.u64.wrap (n : Int) = (n : Int) := by rw [IntKind.wrap_u64]; have := HN.out; omega
  obtain ⟨wX, hwX⟩ : ∃ wX, wX = (w.alloc (.cells #[.int .i64 2, .int .i64 fr, .int .i64 inc, .int .i64 rd, .int .i64 h, .int .i64 pt, .int .i64 ps, .slice ad n cap] 26)).alloc (.cells #[.int .i64 rd, .int .i64 h, .int .i64 ps] 3) := ⟨_, rfl⟩
  have HX : Hid (B8 w.heap.size ⟨2, fr, inc, rd, h, pt, ps, d⟩ (.slice ad n cap) wX ∧ Below w.heap.size w wX ∧ Bs wX (.slice ad n cap) d ∧ Is wX (.slice (some ⟨w.heap.size + 1, 0, none⟩) 3 3) L ∧ wX.heap.size = w.heap.size + 2) := by
    rw [hwX, ← hL]
    refine ⟨(B8.new _ _ _ _).later (bel1 _ _), bel2 _ _ _, hb.later (bel2 _ _ _), ?_, by simp⟩
    have := is_list (w.alloc (.cells #[.int .i64 2, .int .i64 fr, .int .i64 inc, .int .i64 rd, .int .i64 h, .int .i64 pt, .int .i64 ps, .slice ad n cap] 26)) [rd, h, ps] 3 #[.int .i64 rd, .int .i64 h, .int .i64 ps] rfl (by simp)
    simpa [World.size_alloc] using this
  clear hn r hb hL
  show Calls Tryd.prog 29 #[.agg #[.int .i64 2, .int .i64 fr, .int .i64 inc, .int .i64 rd, .int .i64 h, .int .i64 pt, .int .i64 ps, .slice ad n cap]] w _
  go_enter Tryd.func29, Tryd.ntmps29
  go_upto_region 20 with fail
  rw [← hwX]
  clear hwX
  generalize hbm : w.heap.size = bm at *
  have HBm : Hid (w.heap.size = bm) := hbm
  clear hbm
  go_loopw [4, 5] (fun s4 s5 wr => ∃ (j : Nat), j ≤ 3 ∧ s5 = .int .i64 ((j : Nat) : Int) ∧ Hid (Ob wX.heap.size wr s4 ((L.take j).flatMap enI)) ∧ Hid (Below wX.heap.size wX wr)) (fun _ s5 _ => 3 - (intOf s5).toNat)
  case atStart => exact ⟨0, by omega, rfl, by show Ob wX.heap.size wX _ []; exact ob_nil _ _, Below.refl _ _⟩
  case round =>
    obtain ⟨j, hj, rfl, HO, HB⟩ := hrel
    by_cases hjn : j < 3
    · have hjI : (j : Int) < 3 := by omega
      have hj1 : IntKind.i64.wrap ((j : Int) + 1) = ((j + 1 : Nat) : Int) := by rw [IntKind.wrap_i64]; omega
      have hjL : j < L.length := by rw [HL.out.1]; exact hjn
      obtain ⟨g0, o0, e0, x0⟩ := (HX.out.2.2.2.1.later HB.out).cel j hjL
      cases e0
      rw [Nat.zero_add] at x0
      have HE : Hid ((L.take (j + 1)).flatMap enI = (L.take j).flatMap enI ++ enU (ctI (L.getD j 0))) := by
        show _ = _
        have e : L.getD j 0 = L[j] := by simp [List.getD, hjL]
        rw [List.take_add_one, List.flatMap_append, e]
        simp [hjL, enI]
      have HXj : Hid (okI (L.getD j 0)) := HL.out.2.1 _ (by
        have e : L.getD j 0 = L[j] := by simp [List.getD, hjL]
        rw [e]
        exact List.getElem_mem hjL)
      have HPl : Hid (((L.take j).flatMap enI).length ≤ 40000) := by
        have h1 := HL.out.2.2.2
        have h2 : ((L.take j).flatMap enI).length ≤ (L.flatMap enI).length := by
          conv => rhs; rw [← List.take_append_drop j L, List.flatMap_append, List.length_append]
          omega
        rw [HL.out.2.2.1, List.length_append] at h1
        show _ ≤ _
        omega
      generalize L.getD j 0 = x at *
      go_wp2_with fail
      refine (refCount x HXj.out.1 HXj.out.2 wr).mono ?_
      rintro e w3 ⟨rfl, rfl⟩
      go_wp2_with fail
      refine (refUint (ctI x) (ctI_lt HXj.out.1 HXj.out.2) w3).mono ?_
      rintro e w4 ⟨v4, rfl, hO4, hB4⟩
      have HO4 : Hid (Bs w4 v4 (enU (ctI x)) ∧ Ob wX.heap.size w4 u4 ((L.take j).flatMap enI) ∧ Below wX.heap.size wX w4) := ⟨hO4.bs.1, HO.out.later hB4, bchain HB.out hB4⟩
      obtain ⟨a4, p4, rfl⟩ := hO4.sl
      have H10 : Hid ((enU (ctI x)).length ≤ 10) := enU_ten (ctI_lt HXj.out.1 HXj.out.2)
      generalize enU (ctI x) = S at *
      clear hO4 hB4 x0 HO HB
      go_wp2_with (at_builtin; refine apB rfl _ _ rfl wX.heap.size _ _ rfl HO4.out.2.1 _ S rfl HO4.out.1 (by have := HPl.out; have := H10.out; omega) HO4.out.2.2.size ?_; intro v5 w5 hO5 hg5)
      have HO5 : Hid (Ob wX.heap.size w5 v5 ((L.take (j + 1)).flatMap enI)) := by rw [HE.out]; exact hO5
      have HB5 : Hid (Below wX.heap.size wX w5) := hg5.1 _ HO4.out.2.2
      clear hO5 hg5 HO4
      go_wp2
      go_roundw
      case rel => exact ⟨j + 1, by omega, rfl, HO5, HB5⟩
      case measure => simp only [intOf]; omega
    · have hjI : ¬ (j : Int) < 3 := by omega
      have HO2 : Hid (Ob wX.heap.size wr u4 (L.flatMap enI)) := by have h := HO.out; rw [List.take_of_length_le (by rw [HL.out.1]; omega)] at h; exact h
      obtain ⟨a4, p4, rfl⟩ := HO2.out.sl
      have y := HX.out.1.later HB.out
      have y0 := y.c0
      have y7 := y.c7
      dsimp only at y0 y7
      have HBw : Hid (Below bm w wr) := HX.out.2.1.trans (HB.out.mono (by have := HX.out.2.2.2.2; omega))
      have HF : Hid (pay ⟨2, fr, inc, rd, h, pt, ps, d⟩ = L.flatMap enI) := by show _ = _; rw [HL.out.2.2.1, List.append_nil]
      generalize L.flatMap enI = S at *
      clear HO y
      go_wp2
      go_ret
      refine ⟨_, rfl, by rw [HF.out]; exact HO2.out.bs.1, ?_⟩
      rw [HBm.out]
      exact HBw.out
end Go.Proofs.YtfcbgkcclganmaaDoor
