/-
  The document's Right (regattaref14), some kinds.
-/
import Derived.Test.YtfcbgkcclganmaaDoorMgRefB
set_option linter.unusedVariables false
set_option linter.unusedSimpArgs false
namespace Go.Proofs.YtfcbgkcclganmaaDoor
open Go.RowKit

set_option maxRecDepth 100000 in
set_option maxHeartbeats 4000000 in
theorem refRight4 (fr inc rd h pt ps : Int) (d : List Nat) (ad : Option Addr) (n cap : Nat) (hn : d.length = n) (hn2 : n ≤ 9223372036854775807) (w : World) :
    Calls Tryd.prog 10 #[msV ⟨4, fr, inc, rd, h, pt, ps, d⟩ (.slice ad n cap)] w fun e w' => RgE ⟨4, fr, inc, rd, h, pt, ps, d⟩ w e w' := by
  have HD : Hid (d.length = n) := hn
  have HK : Hid (∀ W, Calls Tryd.prog 24 #[.agg #[.int .i64 4, .int .i64 fr, .int .i64 inc, .int .i64 rd, .int .i64 h, .int .i64 pt, .int .i64 ps, .slice ad n cap]] W fun e w' => e = .returned (.tuple #[.agg #[.int .i64 4, .int .i64 0, .int .i64 0, .int .i64 rd, .int .i64 0, .int .i64 pt, .int .i64 ps, .slice ad n cap], .bool true]) ∧ Below W.heap.size W w') := fun W => refKept4 ⟨4, fr, inc, rd, h, pt, ps, d⟩ ad n cap rfl W
  obtain ⟨wA, hwA⟩ : ∃ wA, wA = w.alloc (.cells #[.int .i64 4, .int .i64 fr, .int .i64 inc, .int .i64 rd, .int .i64 h, .int .i64 pt, .int .i64 ps, .slice ad n cap] 26) := ⟨_, rfl⟩
  have HA : Hid (B8 w.heap.size ⟨4, fr, inc, rd, h, pt, ps, d⟩ (.slice ad n cap) wA ∧ Below w.heap.size w wA) := by rw [hwA]; exact ⟨B8.new _ _ _ _, bel1 _ _⟩
  clear hn
  show Calls Tryd.prog 10 #[.agg #[.int .i64 4, .int .i64 fr, .int .i64 inc, .int .i64 rd, .int .i64 h, .int .i64 pt, .int .i64 ps, .slice ad n cap]] w _
  go_enter Tryd.func10, Tryd.ntmps10
  go_upto_region 1 with fail
  rw [← hwA]
  clear hwA
  have x0 := HA.out.1.c0
  have x1 := HA.out.1.c1
  have x2 := HA.out.1.c2
  have x3 := HA.out.1.c3
  have x4 := HA.out.1.c4
  have x5 := HA.out.1.c5
  have x6 := HA.out.1.c6
  have x7 := HA.out.1.c7
  dsimp only at x0 x1 x2 x3 x4 x5 x6 x7
  go_wp2_with fail
  refine (HK.out wA).mono ?_
  rintro e w1 ⟨rfl, hb1⟩
  obtain ⟨w2, hw2⟩ : ∃ w2, w2 = w1.alloc (.cells #[.int .i64 4, .int .i64 0, .int .i64 0, .int .i64 rd, .int .i64 0, .int .i64 pt, .int .i64 ps, .slice ad n cap] 26) := ⟨_, rfl⟩
  have hb2 : Below wA.heap.size wA w2 := by rw [hw2]; exact bchain hb1 (bel1 _ _)
  have HB : Hid (Below w.heap.size w w2) := bchain HA.out.2 hb2
  have y0 := cell_later hb2 x0
  have y1 := cell_later hb2 x1
  have y2 := cell_later hb2 x2
  have y3 := cell_later hb2 x3
  have y4 := cell_later hb2 x4
  have y5 := cell_later hb2 x5
  have y6 := cell_later hb2 x6
  have y7 := cell_later hb2 x7
  have z1 : w2.cell? ⟨w1.heap.size, 1, none⟩ = some (.int .i64 0) := by rw [hw2]; simp [go_sem]
  have z2 : w2.cell? ⟨w1.heap.size, 2, none⟩ = some (.int .i64 0) := by rw [hw2]; simp [go_sem]
  have z3 : w2.cell? ⟨w1.heap.size, 3, none⟩ = some (.int .i64 rd) := by rw [hw2]; simp [go_sem]
  have z4 : w2.cell? ⟨w1.heap.size, 4, none⟩ = some (.int .i64 0) := by rw [hw2]; simp [go_sem]
  have z5 : w2.cell? ⟨w1.heap.size, 5, none⟩ = some (.int .i64 pt) := by rw [hw2]; simp [go_sem]
  have z6 : w2.cell? ⟨w1.heap.size, 6, none⟩ = some (.int .i64 ps) := by rw [hw2]; simp [go_sem]
  have z7 : w2.cell? ⟨w1.heap.size, 7, none⟩ = some (.slice ad n cap) := by rw [hw2]; simp [go_sem]
  clear hb1 hb2 x0 x1 x2 x3 x4 x5 x6 x7 HA HK
  go_upto_region 2 with fail
  rw [← hw2]
  clear hw2
  generalize w1.heap.size = bk at *
  generalize w.heap.size = bm at y0 y1 y2 y3 y4 y5 y6 y7 ⊢
  by_cases hZ : fr = 0 ∧ inc = 0 ∧ h = 0
  rotate_left
  · have hN : ¬ Rgt ⟨4, fr, inc, rd, h, pt, ps, d⟩ := fun r => hZ ⟨r.nF (by simp [uF]), r.nI (by simp [uI]), r.nH (by simp [uH])⟩
    have HNR : Hid (¬ Rgt ⟨4, fr, inc, rd, h, pt, ps, d⟩) := hN
    clear hN
    go_upto_if 64 with fail
    all_goals first | (exfalso; simp at *; omega) | (exfalso; omega) | (go_wp2; go_ret; exact RgE.no HNR.out HB.out)
  obtain ⟨rfl, rfl, rfl⟩ := hZ
  have qI : inB 0 0 2147483647 = true := rfl
  cases qR : inB rd 0 256 with
  | false =>
    go_wp2_with (go_at_call 25; refine (refIn _ _ _ _).mono ?_; rintro e w9 ⟨rfl, rfl⟩)
    go_ret
    exact RgE.no (fun r => inB_no qR r.rd.1 r.rd.2) HB.out
  | true =>
    cases qP : inB pt 0 1023 with
    | false =>
      go_wp2_with (go_at_call 25; refine (refIn _ _ _ _).mono ?_; rintro e w9 ⟨rfl, rfl⟩)
      go_ret
      exact RgE.no (fun r => inB_no qP r.pt.1 r.pt.2) HB.out
    | true =>
      cases qS : inB ps 1 1024 with
      | false =>
        go_wp2_with (go_at_call 25; refine (refIn _ _ _ _).mono ?_; rintro e w9 ⟨rfl, rfl⟩)
        go_ret
        exact RgE.no (fun r => inB_no qS (r.ps (by simp [uS])).1 (r.ps (by simp [uS])).2.1) HB.out
      | true =>
        by_cases qL : pt < ps
        rotate_left
        · have qLI : ps ≤ pt := by omega
          go_wp2_with (go_at_call 25; refine (refIn _ _ _ _).mono ?_; rintro e w9 ⟨rfl, rfl⟩)
          go_ret
          exact RgE.no (fun r : Rgt ⟨4, 0, 0, rd, 0, pt, ps, d⟩ => by have h1 := (r.ps (by simp [uS])).2.2; dsimp only at h1; omega) HB.out
        have qLI : ¬ ps ≤ pt := by omega
        by_cases qD : n ≤ 32768
        rotate_left
        · have qDI : ¬ (n : Int) ≤ 32768 := by omega
          have qDB : decide ((n : Int) ≤ 32768) = false := by simp; omega
          have qDC : decide (n ≤ 32768) = false := by simp; omega
          go_wp2_with (go_at_call 25; refine (refIn _ _ _ _).mono ?_; rintro e w9 ⟨rfl, rfl⟩)
          go_ret
          exact RgE.no (fun r : Rgt ⟨4, 0, 0, rd, 0, pt, ps, d⟩ => by have h1 := r.d; have h2 := HD.out; dsimp only at h1; omega) HB.out
        have qDI : (n : Int) ≤ 32768 := by omega
        have qDB : decide ((n : Int) ≤ 32768) = true := by simp; omega
        have qDC : decide (n ≤ 32768) = true := by simp; omega
        have HR : Hid (Rgt ⟨4, 0, 0, rd, 0, pt, ps, d⟩) := ⟨by show (1 : Int) ≤ 4; decide, by show (4 : Int) ≤ 8; decide, fun _ => rfl, fun _ => rfl, fun q => absurd q (by simp [uR]), fun _ => rfl, fun q => absurd q (by simp [uP]), fun q => absurd q (by simp [uS]), fun q => absurd q (by simp [uD]), fun q => by simp [uF] at q, (show (0 : Int) ≤ 0 ∧ (0 : Int) ≤ 2147483647 by omega), inB_of qR, inB_of qP, fun q => by simp [uH] at q, fun _ => ⟨(inB_of qS).1, (inB_of qS).2, qL⟩, by show d.length ≤ 32768; rw [HD.out]; exact qD⟩
        go_wp2_with (go_at_call 25; refine (refIn _ _ _ _).mono ?_; rintro e w9 ⟨rfl, rfl⟩)
        go_ret
        exact RgE.yes HR.out HB.out
end Go.Proofs.YtfcbgkcclganmaaDoor
