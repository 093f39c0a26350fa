/-
  The document's Right (regattaref14), some kinds.
-/
import Derived.Test.YtfcbgkcclganmaaDoorMgRefB
set_option linter.unusedVariables false
set_option linter.unusedSimpArgs false
namespace Go.Proofs.YtfcbgkcclganmaaDoor
open Go.RowKit

set_option maxRecDepth 100000 in
set_option maxHeartbeats 4000000 in
theorem refRight7 (fr inc rd h pt ps : Int) (d : List Nat) (ad : Option Addr) (n cap : Nat) (hn : d.length = n) (hn2 : n ≤ 9223372036854775807) (w : World) :
    Calls Tryd.prog 10 #[msV ⟨7, fr, inc, rd, h, pt, ps, d⟩ (.slice ad n cap)] w fun e w' => RgE ⟨7, fr, inc, rd, h, pt, ps, d⟩ w e w' := by
  have HD : Hid (d.length = n) := hn
  have HK : Hid (∀ W, Calls Tryd.prog 24 #[.agg #[.int .i64 7, .int .i64 fr, .int .i64 inc, .int .i64 rd, .int .i64 h, .int .i64 pt, .int .i64 ps, .slice ad n cap]] W fun e w' => e = .returned (.tuple #[.agg #[.int .i64 7, .int .i64 0, .int .i64 inc, .int .i64 rd, .int .i64 0, .int .i64 0, .int .i64 0, .slice none 0 0], .bool true]) ∧ Below W.heap.size W w') := fun W => refKept7 ⟨7, fr, inc, rd, h, pt, ps, d⟩ ad n cap rfl W
  obtain ⟨wA, hwA⟩ : ∃ wA, wA = w.alloc (.cells #[.int .i64 7, .int .i64 fr, .int .i64 inc, .int .i64 rd, .int .i64 h, .int .i64 pt, .int .i64 ps, .slice ad n cap] 26) := ⟨_, rfl⟩
  have HA : Hid (B8 w.heap.size ⟨7, fr, inc, rd, h, pt, ps, d⟩ (.slice ad n cap) wA ∧ Below w.heap.size w wA) := by rw [hwA]; exact ⟨B8.new _ _ _ _, bel1 _ _⟩
  clear hn
  show Calls Tryd.prog 10 #[.agg #[.int .i64 7, .int .i64 fr, .int .i64 inc, .int .i64 rd, .int .i64 h, .int .i64 pt, .int .i64 ps, .slice ad n cap]] w _
  go_enter Tryd.func10, Tryd.ntmps10
  go_upto_region 1 with fail
  rw [← hwA]
  clear hwA
  have x0 := HA.out.1.c0
  have x1 := HA.out.1.c1
  have x2 := HA.out.1.c2
  have x3 := HA.out.1.c3
  have x4 := HA.out.1.c4
  have x5 := HA.out.1.c5
  have x6 := HA.out.1.c6
  have x7 := HA.out.1.c7
  dsimp only at x0 x1 x2 x3 x4 x5 x6 x7
  go_wp2_with fail
  refine (HK.out wA).mono ?_
  rintro e w1 ⟨rfl, hb1⟩
  obtain ⟨w2, hw2⟩ : ∃ w2, w2 = w1.alloc (.cells #[.int .i64 7, .int .i64 0, .int .i64 inc, .int .i64 rd, .int .i64 0, .int .i64 0, .int .i64 0, .slice none 0 0] 26) := ⟨_, rfl⟩
  have hb2 : Below wA.heap.size wA w2 := by rw [hw2]; exact bchain hb1 (bel1 _ _)
  have HB : Hid (Below w.heap.size w w2) := bchain HA.out.2 hb2
  have y0 := cell_later hb2 x0
  have y1 := cell_later hb2 x1
  have y2 := cell_later hb2 x2
  have y3 := cell_later hb2 x3
  have y4 := cell_later hb2 x4
  have y5 := cell_later hb2 x5
  have y6 := cell_later hb2 x6
  have y7 := cell_later hb2 x7
  have z1 : w2.cell? ⟨w1.heap.size, 1, none⟩ = some (.int .i64 0) := by rw [hw2]; simp [go_sem]
  have z2 : w2.cell? ⟨w1.heap.size, 2, none⟩ = some (.int .i64 inc) := by rw [hw2]; simp [go_sem]
  have z3 : w2.cell? ⟨w1.heap.size, 3, none⟩ = some (.int .i64 rd) := by rw [hw2]; simp [go_sem]
  have z4 : w2.cell? ⟨w1.heap.size, 4, none⟩ = some (.int .i64 0) := by rw [hw2]; simp [go_sem]
  have z5 : w2.cell? ⟨w1.heap.size, 5, none⟩ = some (.int .i64 0) := by rw [hw2]; simp [go_sem]
  have z6 : w2.cell? ⟨w1.heap.size, 6, none⟩ = some (.int .i64 0) := by rw [hw2]; simp [go_sem]
  have z7 : w2.cell? ⟨w1.heap.size, 7, none⟩ = some (.slice none 0 0) := by rw [hw2]; simp [go_sem]
  clear hb1 hb2 x0 x1 x2 x3 x4 x5 x6 x7 HA HK
  go_upto_region 2 with fail
  rw [← hw2]
  clear hw2
  generalize w1.heap.size = bk at *
  generalize w.heap.size = bm at y0 y1 y2 y3 y4 y5 y6 y7 ⊢
  by_cases hZ : fr = 0 ∧ h = 0 ∧ pt = 0 ∧ ps = 0 ∧ n = 0
  rotate_left
  · have hN : ¬ Rgt ⟨7, fr, inc, rd, h, pt, ps, d⟩ := fun r => hZ ⟨r.nF (by simp [uF]), r.nH (by simp [uH]), r.nP (by simp [uP]), r.nS (by simp [uS]), (by have h1 := r.nD (by simp [uD]); have h2 := HD.out; dsimp only at h1; rw [h1] at h2; exact h2.symm)⟩
    have HNR : Hid (¬ Rgt ⟨7, fr, inc, rd, h, pt, ps, d⟩) := hN
    clear hN
    go_upto_if 64 with fail
    all_goals first | (exfalso; simp at *; omega) | (exfalso; omega) | (go_wp2; go_ret; exact RgE.no HNR.out HB.out)
  obtain ⟨rfl, rfl, rfl, rfl, rfl⟩ := hZ
  have qP : inB 0 0 1023 = true := rfl
  cases qI : inB inc 0 2147483647 with
  | false =>
    go_wp2_with (go_at_call 25; refine (refIn _ _ _ _).mono ?_; rintro e w9 ⟨rfl, rfl⟩)
    go_ret
    exact RgE.no (fun r => inB_no qI r.inc.1 r.inc.2) HB.out
  | true =>
    cases qR : inB rd 0 256 with
    | false =>
      go_wp2_with (go_at_call 25; refine (refIn _ _ _ _).mono ?_; rintro e w9 ⟨rfl, rfl⟩)
      go_ret
      exact RgE.no (fun r => inB_no qR r.rd.1 r.rd.2) HB.out
    | true =>
      have HR : Hid (Rgt ⟨7, 0, inc, rd, 0, 0, 0, d⟩) := ⟨by show (1 : Int) ≤ 7; decide, by show (7 : Int) ≤ 8; decide, fun _ => rfl, fun q => absurd q (by simp [uI]), fun q => absurd q (by simp [uR]), fun _ => rfl, fun _ => rfl, fun _ => rfl, fun _ => List.eq_nil_of_length_eq_zero HD.out, fun q => by simp [uF] at q, inB_of qI, inB_of qR, (show (0 : Int) ≤ 0 ∧ (0 : Int) ≤ 1023 by omega), fun q => by simp [uH] at q, fun q => by simp [uS] at q, by show d.length ≤ 32768; rw [HD.out]; omega⟩
      go_wp2_with (go_at_call 25; refine (refIn _ _ _ _).mono ?_; rintro e w9 ⟨rfl, rfl⟩)
      go_ret
      exact RgE.yes HR.out HB.out
end Go.Proofs.YtfcbgkcclganmaaDoor
