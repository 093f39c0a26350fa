/-
  The laws of layer 14: MsgEncodes, MsgDecodes.
-/
import Derived.Test.YtfcbgkcclganmaaDoorZ14

set_option linter.unusedVariables false
set_option linter.unusedSimpArgs false
namespace Go.Proofs.YtfcbgkcclganmaaDoor
open Go.RowKit

set_option maxRecDepth 100000 in
set_option maxHeartbeats 8000000 in
theorem msgEncodes_any (V : Mg1) (m : Ms) (v : Value) (hb : ∀ c ∈ m.d, c < 256) (w : World) (h : Bs w v m.d) (hT : FT w) :
    Calls Tryd.prog 3 #[msV m v] w fun e w' => e = .returned (.bool true) ∧ Below w.heap.size w w' := by
  obtain ⟨k, fr, inc, rd, hh, pt, ps, d⟩ := m
  dsimp only at h hb
  obtain ⟨M, hM⟩ : ∃ M : Ms, M = ⟨k, fr, inc, rd, hh, pt, ps, d⟩ := ⟨_, rfl⟩
  have HY : Hid (∀ c ∈ M.d, c < 256) := by rw [hM]; exact hb
  have HT : Hid (FT w) := hT
  obtain ⟨wA, hwA⟩ : ∃ wA, wA = w.alloc (.cells #[.int .i64 k, .int .i64 fr, .int .i64 inc, .int .i64 rd, .int .i64 hh, .int .i64 pt, .int .i64 ps, v] 24) := ⟨_, rfl⟩
  have HA : Hid (B8 w.heap.size ⟨k, fr, inc, rd, hh, pt, ps, d⟩ v wA ∧ Below w.heap.size w wA ∧ Bs wA v M.d) := by
    rw [hwA, hM]
    exact ⟨B8.new w ⟨k, fr, inc, rd, hh, pt, ps, d⟩ _ _, bel1 _ _, h.later (bel1 _ _)⟩
  obtain ⟨ad, cap, rfl, k1, k2⟩ := h.len
  unfold maxLen at k2
  obtain ⟨n, hn⟩ : ∃ n, d.length = n := ⟨_, rfl⟩
  rw [hn] at k1 HA hwA ⊢
  have HV : Hid (msV M (.slice ad n cap) = .agg #[.int .i64 k, .int .i64 fr, .int .i64 inc, .int .i64 rd, .int .i64 hh, .int .i64 pt, .int .i64 ps, .slice ad n cap]) := by rw [hM]; rfl
  have HN : Hid (M.d.length = n) := by rw [hM]; exact hn
  show Calls Tryd.prog 3 #[.agg #[.int .i64 k, .int .i64 fr, .int .i64 inc, .int .i64 rd, .int .i64 hh, .int .i64 pt, .int .i64 ps, .slice ad n cap]] w _
  clear h hn hb hT hM
  go_enter Tryd.func3, Tryd.ntmps3
  go_wp2_with fail
  rw [← hwA]
  clear hwA
  refine (awake14 V wA (HT.out.later HA.out.2.1)).mono ?_
  rintro e w1 ⟨rfl, hb1⟩
  have HB1 : Hid (B8 w.heap.size ⟨k, fr, inc, rd, hh, pt, ps, d⟩ (.slice ad n cap) w1 ∧ Below w.heap.size w w1 ∧ Bs w1 (.slice ad n cap) M.d) := ⟨HA.out.1.later hb1, bchain HA.out.2.1 hb1, HA.out.2.2.later hb1⟩
  clear hb1 HA
  have x0 := HB1.out.1.c0
  have x1 := HB1.out.1.c1
  have x2 := HB1.out.1.c2
  have x3 := HB1.out.1.c3
  have x4 := HB1.out.1.c4
  have x5 := HB1.out.1.c5
  have x6 := HB1.out.1.c6
  have x7 := HB1.out.1.c7
  dsimp only at x0 x1 x2 x3 x4 x5 x6 x7
  by_cases q1 : 2000 < n ∧ n ≤ 32768
  · have q1I : (2000 : Int) < (n : Int) := by omega
    have q2I : (n : Int) ≤ 32768 := by omega
    clear x0 x1 x2 x3 x4 x5 x6
    go_wp2
    go_ret
    exact ⟨rfl, HB1.out.2.1⟩
  have hq : ¬ (2000 : Int) < (n : Int) ∨ ((2000 : Int) < (n : Int) ∧ ¬ (n : Int) ≤ 32768) := by omega
  have HRE : Hid (∀ W, Bs W (.slice ad n cap) M.d → Calls Tryd.prog 10 #[.agg #[.int .i64 k, .int .i64 fr, .int .i64 inc, .int .i64 rd, .int .i64 hh, .int .i64 pt, .int .i64 ps, .slice ad n cap]] W fun e w' => RgE M W e w') := fun W hW => by rw [← HV.out]; exact refRight14 M _ W hW
  have HPL : Hid (∀ W, Calls Tryd.prog 8 #[.agg #[.int .i64 k, .int .i64 fr, .int .i64 inc, .int .i64 rd, .int .i64 hh, .int .i64 pt, .int .i64 ps, .slice ad n cap]] W fun e w' => e = .returned (.agg #[.int .i64 k, .int .i64 fr, .int .i64 inc, .int .i64 rd, .int .i64 hh, .int .i64 pt, .int .i64 ps, .slice ad n cap]) ∧ Below W.heap.size W w') := fun W => by rw [← HV.out]; exact plain14 M ad n cap W
  have HRG : Hid (∀ W, Bs W (.slice ad n cap) M.d → FT W → Calls Tryd.prog 11 #[.agg #[.int .i64 k, .int .i64 fr, .int .i64 inc, .int .i64 rd, .int .i64 hh, .int .i64 pt, .int .i64 ps, .slice ad n cap]] W fun e w' => RgE M W e w') := fun W hW hF => by rw [← HV.out]; exact V.rgt W M _ hW hF
  clear q1
  by_cases hR : Rgt M
  · have HR : Hid (Rgt M) := hR
    have HEN : Hid (∀ W, Bs W (.slice ad n cap) M.d → FT W → Calls Tryd.prog 9 #[.agg #[.int .i64 k, .int .i64 fr, .int .i64 inc, .int .i64 rd, .int .i64 hh, .int .i64 pt, .int .i64 ps, .slice ad n cap]] W fun e w' => ∃ v', e = .returned (.tuple #[v', .int .i64 0]) ∧ Ob W.heap.size w' v' (fsl M.k.toNat (pay M)) ∧ Below W.heap.size W w') := fun W hW hF => by rw [← HV.out]; exact V.encY W M _ hW HY.out HR.out hF
    have HER : Hid (∀ W, Bs W (.slice ad n cap) M.d → Calls Tryd.prog 13 #[.agg #[.int .i64 k, .int .i64 fr, .int .i64 inc, .int .i64 rd, .int .i64 hh, .int .i64 pt, .int .i64 ps, .slice ad n cap]] W fun e w' => ∃ v', e = .returned v' ∧ Bs w' v' (fsl M.k.toNat (pay M)) ∧ Below W.heap.size W w') := fun W hW => by rw [← HV.out]; exact refEncode14 M _ W HR.out HY.out hW
    have q1I : ¬ (2000 : Int) < (n : Int) := by
      have := hR.d
      have := HN.out
      omega
    clear hR hq HV
    generalize fsl M.k.toNat (pay M) = S at *
    go_wp2_with fail
    refine (HPL.out w1).mono ?_
    rintro e w2 ⟨rfl, hb2⟩
    obtain ⟨wB, hwB⟩ : ∃ wB, wB = w2.alloc (.cells #[.int .i64 k, .int .i64 fr, .int .i64 inc, .int .i64 rd, .int .i64 hh, .int .i64 pt, .int .i64 ps, .slice ad n cap] 26) := ⟨_, rfl⟩
    have HB2 : Hid (B8 w.heap.size ⟨k, fr, inc, rd, hh, pt, ps, d⟩ (.slice ad n cap) wB ∧ B8 w2.heap.size ⟨k, fr, inc, rd, hh, pt, ps, d⟩ (.slice ad n cap) wB ∧ Below w.heap.size w wB ∧ Bs wB (.slice ad n cap) M.d) := by
      rw [hwB]
      have hb3 := fun o => bchain hb2 (bel1 w2 o)
      exact ⟨HB1.out.1.later (hb3 _), B8.new w2 ⟨k, fr, inc, rd, hh, pt, ps, d⟩ _ _, bchain HB1.out.2.1 (hb3 _), HB1.out.2.2.later (hb3 _)⟩
    clear hb2 HB1 x0 x1 x2 x3 x4 x5 x6 x7
    go_upto_region 6 with fail
    rw [← hwB]
    clear hwB
    generalize hg : w2.heap.size = g at *
    clear hg w2
    have x0 := HB2.out.1.c0
    have x1 := HB2.out.1.c1
    have x2 := HB2.out.1.c2
    have x3 := HB2.out.1.c3
    have x4 := HB2.out.1.c4
    have x5 := HB2.out.1.c5
    have x6 := HB2.out.1.c6
    have x7 := HB2.out.1.c7
    dsimp only at x0 x1 x2 x3 x4 x5 x6 x7
    go_wp2_with fail
    refine (HEN.out wB HB2.out.2.2.2 (HT.out.later HB2.out.2.2.1)).mono ?_
    rintro e w3 ⟨v3, rfl, hO3, hb3⟩
    have HB3 : Hid (B8 w.heap.size ⟨k, fr, inc, rd, hh, pt, ps, d⟩ (.slice ad n cap) w3 ∧ B8 g ⟨k, fr, inc, rd, hh, pt, ps, d⟩ (.slice ad n cap) w3 ∧ Below w.heap.size w w3 ∧ Bs w3 (.slice ad n cap) M.d ∧ Bs w3 v3 S) := ⟨HB2.out.1.later hb3, HB2.out.2.1.later hb3, bchain HB2.out.2.2.1 hb3, HB2.out.2.2.2.later hb3, hO3.bs.1⟩
    obtain ⟨a3, p3, rfl⟩ := hO3.sl
    clear hO3 hb3 HB2 x0 x1 x2 x3 x4 x5 x6 x7 HEN
    have x0 := HB3.out.2.1.c0
    have x1 := HB3.out.2.1.c1
    have x2 := HB3.out.2.1.c2
    have x3 := HB3.out.2.1.c3
    have x4 := HB3.out.2.1.c4
    have x5 := HB3.out.2.1.c5
    have x6 := HB3.out.2.1.c6
    have x7 := HB3.out.2.1.c7
    dsimp only at x0 x1 x2 x3 x4 x5 x6 x7
    go_wp2_with fail
    refine (HRE.out w3 HB3.out.2.2.2.1).mono ?_
    rintro e w4 ⟨B, rfl, hBB, hb4⟩
    obtain rfl : B = true := hBB.2 HR.out
    have HB4 : Hid (B8 w.heap.size ⟨k, fr, inc, rd, hh, pt, ps, d⟩ (.slice ad n cap) w4 ∧ B8 g ⟨k, fr, inc, rd, hh, pt, ps, d⟩ (.slice ad n cap) w4 ∧ Below w.heap.size w w4 ∧ Bs w4 (.slice ad n cap) M.d ∧ Bs w4 (.slice a3 S.length p3) S) := ⟨HB3.out.1.later hb4, HB3.out.2.1.later hb4, bchain HB3.out.2.2.1 hb4, HB3.out.2.2.2.1.later hb4, HB3.out.2.2.2.2.later hb4⟩
    clear hBB hb4 HB3 x0 x1 x2 x3 x4 x5 x6 x7 HRE
    have x0 := HB4.out.1.c0
    have x1 := HB4.out.1.c1
    have x2 := HB4.out.1.c2
    have x3 := HB4.out.1.c3
    have x4 := HB4.out.1.c4
    have x5 := HB4.out.1.c5
    have x6 := HB4.out.1.c6
    have x7 := HB4.out.1.c7
    dsimp only at x0 x1 x2 x3 x4 x5 x6 x7
    go_wp2_with fail
    refine (HRG.out w4 HB4.out.2.2.2.1 (HT.out.later HB4.out.2.2.1)).mono ?_
    rintro e w5 ⟨B, rfl, hBB, hb5⟩
    obtain rfl : B = true := hBB.2 HR.out
    have HB5 : Hid (B8 g ⟨k, fr, inc, rd, hh, pt, ps, d⟩ (.slice ad n cap) w5 ∧ Below w.heap.size w w5 ∧ Bs w5 (.slice ad n cap) M.d ∧ Bs w5 (.slice a3 S.length p3) S) := ⟨HB4.out.2.1.later hb5, bchain HB4.out.2.2.1 hb5, HB4.out.2.2.2.1.later hb5, HB4.out.2.2.2.2.later hb5⟩
    clear hBB hb5 HB4 x0 x1 x2 x3 x4 x5 x6 x7 HRG
    have x0 := HB5.out.1.c0
    have x1 := HB5.out.1.c1
    have x2 := HB5.out.1.c2
    have x3 := HB5.out.1.c3
    have x4 := HB5.out.1.c4
    have x5 := HB5.out.1.c5
    have x6 := HB5.out.1.c6
    have x7 := HB5.out.1.c7
    dsimp only at x0 x1 x2 x3 x4 x5 x6 x7
    go_wp2_with fail
    refine (HER.out w5 HB5.out.2.2.1).mono ?_
    rintro e w6 ⟨v6, rfl, hL6, hb6⟩
    have HB6 : Hid (Below w.heap.size w w6 ∧ Bs w6 v6 S ∧ Bs w6 (.slice a3 S.length p3) S) := ⟨bchain HB5.out.2.1 hb6, hL6, HB5.out.2.2.2.later hb6⟩
    obtain ⟨a6, p6, rfl, -, -⟩ := hL6.len
    clear hL6 hb6 HB5 x0 x1 x2 x3 x4 x5 x6 x7 HER
    go_wp2_with fail
    refine (sameB _ _ _ _ _ HB6.out.2.2 HB6.out.2.1).mono ?_
    rintro e w7 ⟨rfl, hb7⟩
    have HB7 : Hid (Below w.heap.size w w7) := bchain HB6.out.1 hb7
    rw [decide_eq_true rfl]
    clear hb7 HB6
    go_wp2
    go_ret
    exact ⟨rfl, HB7.out⟩
  · have HR : Hid (¬ Rgt M) := hR
    have HEN : Hid (∀ W, Bs W (.slice ad n cap) M.d → FT W → Calls Tryd.prog 9 #[.agg #[.int .i64 k, .int .i64 fr, .int .i64 inc, .int .i64 rd, .int .i64 hh, .int .i64 pt, .int .i64 ps, .slice ad n cap]] W fun e w' => ∃ v', e = .returned (.tuple #[v', .int .i64 140]) ∧ Bs w' v' [] ∧ Below W.heap.size W w') := fun W hW hF => by rw [← HV.out]; exact V.encN W M _ hW HY.out HR.out hF
    clear hR HV
    rcases hq with q1I | ⟨q1I, q2I⟩
    all_goals (
      go_wp2_with fail
      refine (HPL.out w1).mono ?_
      rintro e w2 ⟨rfl, hb2⟩
      obtain ⟨wB, hwB⟩ : ∃ wB, wB = w2.alloc (.cells #[.int .i64 k, .int .i64 fr, .int .i64 inc, .int .i64 rd, .int .i64 hh, .int .i64 pt, .int .i64 ps, .slice ad n cap] 26) := ⟨_, rfl⟩
      have HB2 : Hid (B8 w.heap.size ⟨k, fr, inc, rd, hh, pt, ps, d⟩ (.slice ad n cap) wB ∧ B8 w2.heap.size ⟨k, fr, inc, rd, hh, pt, ps, d⟩ (.slice ad n cap) wB ∧ Below w.heap.size w wB ∧ Bs wB (.slice ad n cap) M.d) := by
        rw [hwB]
        have hb3 := fun o => bchain hb2 (bel1 w2 o)
        exact ⟨HB1.out.1.later (hb3 _), B8.new w2 ⟨k, fr, inc, rd, hh, pt, ps, d⟩ _ _, bchain HB1.out.2.1 (hb3 _), HB1.out.2.2.later (hb3 _)⟩
      clear hb2 HB1 x0 x1 x2 x3 x4 x5 x6 x7
      go_upto_region 6 with fail
      rw [← hwB]
      clear hwB
      generalize hg : w2.heap.size = g at *
      clear hg w2
      have x0 := HB2.out.1.c0
      have x1 := HB2.out.1.c1
      have x2 := HB2.out.1.c2
      have x3 := HB2.out.1.c3
      have x4 := HB2.out.1.c4
      have x5 := HB2.out.1.c5
      have x6 := HB2.out.1.c6
      have x7 := HB2.out.1.c7
      dsimp only at x0 x1 x2 x3 x4 x5 x6 x7
      go_wp2_with fail
      refine (HEN.out wB HB2.out.2.2.2 (HT.out.later HB2.out.2.2.1)).mono ?_
      rintro e w3 ⟨v3, rfl, hO3, hb3⟩
      have HB3 : Hid (B8 w.heap.size ⟨k, fr, inc, rd, hh, pt, ps, d⟩ (.slice ad n cap) w3 ∧ B8 g ⟨k, fr, inc, rd, hh, pt, ps, d⟩ (.slice ad n cap) w3 ∧ Below w.heap.size w w3 ∧ Bs w3 (.slice ad n cap) M.d) := ⟨HB2.out.1.later hb3, HB2.out.2.1.later hb3, bchain HB2.out.2.2.1 hb3, HB2.out.2.2.2.later hb3⟩
      obtain ⟨a3, p3, rfl, -, -⟩ := hO3.len
      clear hO3 hb3 HB2 x0 x1 x2 x3 x4 x5 x6 x7 HEN
      have x0 := HB3.out.2.1.c0
      have x1 := HB3.out.2.1.c1
      have x2 := HB3.out.2.1.c2
      have x3 := HB3.out.2.1.c3
      have x4 := HB3.out.2.1.c4
      have x5 := HB3.out.2.1.c5
      have x6 := HB3.out.2.1.c6
      have x7 := HB3.out.2.1.c7
      dsimp only at x0 x1 x2 x3 x4 x5 x6 x7
      go_wp2_with fail
      refine (HRE.out w3 HB3.out.2.2.2).mono ?_
      rintro e w4 ⟨B, rfl, hBB, hb4⟩
      obtain rfl : B = false := by
        cases B with
        | true => exact absurd (hBB.1 rfl) HR.out
        | false => rfl
      have HB4 : Hid (B8 w.heap.size ⟨k, fr, inc, rd, hh, pt, ps, d⟩ (.slice ad n cap) w4 ∧ Below w.heap.size w w4 ∧ Bs w4 (.slice ad n cap) M.d) := ⟨HB3.out.1.later hb4, bchain HB3.out.2.2.1 hb4, HB3.out.2.2.2.later hb4⟩
      clear hBB hb4 HB3 x0 x1 x2 x3 x4 x5 x6 x7 HRE
      have x0 := HB4.out.1.c0
      have x1 := HB4.out.1.c1
      have x2 := HB4.out.1.c2
      have x3 := HB4.out.1.c3
      have x4 := HB4.out.1.c4
      have x5 := HB4.out.1.c5
      have x6 := HB4.out.1.c6
      have x7 := HB4.out.1.c7
      dsimp only at x0 x1 x2 x3 x4 x5 x6 x7
      go_wp2_with fail
      refine (HRG.out w4 HB4.out.2.2 (HT.out.later HB4.out.2.1)).mono ?_
      rintro e w5 ⟨B, rfl, hBB, hb5⟩
      obtain rfl : B = false := by
        cases B with
        | true => exact absurd (hBB.1 rfl) HR.out
        | false => rfl
      have HB5 : Hid (Below w.heap.size w w5) := bchain HB4.out.2.1 hb5
      clear hBB hb5 HB4 x0 x1 x2 x3 x4 x5 x6 x7 HRG
      go_wp2
      go_ret
      exact ⟨rfl, HB5.out⟩)
end Go.Proofs.YtfcbgkcclganmaaDoor
