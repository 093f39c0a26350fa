/-
  The laws of layer 14: MsgOne.
-/
import Derived.Test.YtfcbgkcclganmaaDoorZ14

set_option linter.unusedVariables false
set_option linter.unusedSimpArgs false
namespace Go.Proofs.YtfcbgkcclganmaaDoor
open Go.RowKit

set_option maxRecDepth 100000 in
set_option maxHeartbeats 8000000 in
theorem msgOne_any (F : Fr1) (V : Mg1) (k : Int) (v : Value) (l : List Nat) (hb : ∀ c ∈ l, c < 256) (w : World) (h : Bs w v l) (hT : FT w) :
    Calls Tryd.prog 6 #[.int .i64 k, v] w fun e w' => e = .returned (.bool true) ∧ Below w.heap.size w w' := by
  have HL : Hid (Bs w v l) := h
  have HY : Hid (∀ c ∈ l, c < 256) := hb
  have HT : Hid (FT w) := hT
  obtain ⟨ad, cap, rfl, k1, k2⟩ := h.len
  unfold maxLen at k2
  obtain ⟨n, hn⟩ : ∃ n, l.length = n := ⟨_, rfl⟩
  have HN : Hid (l.length = n) := hn
  rw [hn] at k1 HL ⊢
  clear h hn hb hT
  go_enter Tryd.func6, Tryd.ntmps6
  go_wp2_with fail
  refine (awake14 V w HT.out).mono ?_
  rintro e w1 ⟨rfl, hb1⟩
  have HB1 : Hid (Below w.heap.size w w1) := hb1
  clear hb1
  by_cases q1 : 1000 < n
  · have q1I : (1000 : Int) < (n : Int) := by omega
    go_wp2
    go_ret
    exact ⟨rfl, HB1.out⟩
  have q1I : ¬ (1000 : Int) < (n : Int) := by omega
  by_cases hk : k < 1 ∨ 255 < k
  · go_wp2_with fail
    refine (F.sealKind _ k _ l hk (HL.out.later HB1.out) (HT.out.later HB1.out)).mono ?_
    rintro e w2 ⟨v2, rfl, hL2, hB2⟩
    obtain ⟨ad2, cap2, rfl, -, -⟩ := hL2.len
    have HB2 : Hid (Below w.heap.size w w2) := bchain HB1.out hB2
    clear hL2 hB2
    rcases hk with hk | hk
    · go_wp2
      go_ret
      exact ⟨rfl, HB2.out⟩
    · have hk2 : ¬ k < 1 := by omega
      go_wp2
      go_ret
      exact ⟨rfl, HB2.out⟩
  obtain ⟨K, rfl⟩ : ∃ K : Nat, k = (K : Int) := ⟨k.toNat, by omega⟩
  have HK : Hid (1 ≤ K ∧ K ≤ 255) := ⟨by omega, by omega⟩
  clear hk
  go_wp2_with fail
  refine (F.sealOk _ K _ l HK.out.1 HK.out.2 (HL.out.later HB1.out) HY.out (by have := HN.out; omega) (HT.out.later HB1.out)).mono ?_
  rintro e w2 ⟨v2, rfl, hO2, hB2⟩
  have HL2 : Hid (Bs w2 v2 (fsl K l) ∧ Below w.heap.size w w2) := ⟨hO2.bs.1, bchain HB1.out hB2⟩
  obtain ⟨ad2, cap2, rfl⟩ := hO2.sl
  have HS : Hid ((fsl K l).length ≤ 90000 ∧ ∀ c ∈ fsl K l, c < 256) := ⟨by rw [seal_len]; have := HN.out; omega, seal_byte (by have := HK.out; omega) HY.out (by have := HN.out; omega)⟩
  have HD := dc_pay HK.out.1 l (by have := HN.out; omega) HY.out
  clear hO2 hB2 HB1
  generalize fsl K l = S at *
  have HD' : Hid ((dcE S = 140 ∧ dcM S = ms0) ∨ (dcE S = 0 ∧ Rgt (dcM S) ∧ (∀ c ∈ (dcM S).d, c < 256) ∧ fsl (dcM S).k.toNat (pay (dcM S)) = S)) := HD
  clear HD
  go_wp2_with fail
  refine (V.dec _ _ S HL2.out.1 HS.out.2 HS.out.1 (HT.out.later HL2.out.2)).mono ?_
  rintro e w3 ⟨v3, rfl, hL3, -, hB3⟩
  generalize dcE S = E at *
  generalize dcM S = M at *
  rcases HD'.out with ⟨rfl, rfl⟩ | ⟨rfl, hR, hY, hF⟩
  · obtain ⟨ad3, cap3, rfl, -, -⟩ := hL3.len
    have HB3 : Hid (∀ o : Obj, Below w.heap.size w (w3.alloc o)) := fun o => bchain (bchain HL2.out.2 hB3) (bel1 _ _)
    clear hL3 hB3 HD' HL2
    unfold msV ms0
    dsimp only
    go_wp2
    go_ret
    exact ⟨rfl, HB3.out _⟩
  · have HEN : Hid (∀ W v, Bs W v M.d → FT W → Calls Tryd.prog 9 #[msV M v] W fun e w' => ∃ v', e = .returned (.tuple #[v', .int .i64 0]) ∧ Ob W.heap.size w' v' S ∧ Below W.heap.size W w') := fun W v hW hT => by rw [← hF]; exact V.encY W M v hW hY hR hT
    have HRG : Hid (∀ W v, Bs W v M.d → FT W → Calls Tryd.prog 11 #[msV M v] W fun e w' => e = .returned (.bool true) ∧ Below W.heap.size W w') := fun W v hW hT => (V.rgt W M v hW hT).mono (by
      rintro e w' ⟨B, rfl, hB, hb⟩
      exact ⟨by rw [hB.2 hR], hb⟩)
    clear HD' hR hY hF
    obtain ⟨k, fr, inc, rd, hh, pt, ps, d⟩ := M
    unfold msV at HEN HRG ⊢
    dsimp only at HEN HRG hL3 ⊢
    obtain ⟨ad3, cap3, rfl, -, -⟩ := hL3.len
    obtain ⟨nd, hnd⟩ : ∃ nd, d.length = nd := ⟨_, rfl⟩
    rw [hnd] at hL3 ⊢
    clear hnd
    obtain ⟨wB, hwB⟩ : ∃ wB, wB = w3.alloc (.cells #[.int .i64 k, .int .i64 fr, .int .i64 inc, .int .i64 rd, .int .i64 hh, .int .i64 pt, .int .i64 ps, .slice ad3 nd cap3] 24) := ⟨_, rfl⟩
    have HB3 : Hid (B8 w3.heap.size ⟨k, fr, inc, rd, hh, pt, ps, d⟩ (.slice ad3 nd cap3) wB ∧ Below w.heap.size w wB ∧ Bs wB (.slice ad3 nd cap3) d ∧ Bs wB (.slice ad2 S.length cap2) S) := by
      rw [hwB]
      have hb := fun o => bchain hB3 (bel1 w3 o)
      exact ⟨B8.new w3 ⟨k, fr, inc, rd, hh, pt, ps, d⟩ _ _, bchain HL2.out.2 (hb _), hL3.later (bel1 _ _), HL2.out.1.later (hb _)⟩
    clear hL3 hB3 HL2
    go_upto_region 9 with fail
    rw [← hwB]
    clear hwB
    generalize hg : w3.heap.size = g at *
    clear hg w3
    have x0 := HB3.out.1.c0
    have x1 := HB3.out.1.c1
    have x2 := HB3.out.1.c2
    have x3 := HB3.out.1.c3
    have x4 := HB3.out.1.c4
    have x5 := HB3.out.1.c5
    have x6 := HB3.out.1.c6
    have x7 := HB3.out.1.c7
    dsimp only at x0 x1 x2 x3 x4 x5 x6 x7
    go_wp2_with fail
    refine (HEN.out wB _ HB3.out.2.2.1 (HT.out.later HB3.out.2.1)).mono ?_
    rintro e w4 ⟨v4, rfl, hO4, hB4⟩
    have HB4 : Hid (B8 g ⟨k, fr, inc, rd, hh, pt, ps, d⟩ (.slice ad3 nd cap3) w4 ∧ Below w.heap.size w w4 ∧ Bs w4 (.slice ad3 nd cap3) d ∧ Bs w4 (.slice ad2 S.length cap2) S ∧ Bs w4 v4 S) := ⟨HB3.out.1.later hB4, bchain HB3.out.2.1 hB4, HB3.out.2.2.1.later hB4, HB3.out.2.2.2.later hB4, hO4.bs.1⟩
    obtain ⟨ad4, cap4, rfl⟩ := hO4.sl
    clear hO4 hB4 HB3 HEN x0 x1 x2 x3 x4 x5 x6 x7
    have x0 := HB4.out.1.c0
    have x1 := HB4.out.1.c1
    have x2 := HB4.out.1.c2
    have x3 := HB4.out.1.c3
    have x4 := HB4.out.1.c4
    have x5 := HB4.out.1.c5
    have x6 := HB4.out.1.c6
    have x7 := HB4.out.1.c7
    dsimp only at x0 x1 x2 x3 x4 x5 x6 x7
    go_wp2_with fail
    refine (HRG.out w4 _ HB4.out.2.2.1 (HT.out.later HB4.out.2.1)).mono ?_
    rintro e w5 ⟨rfl, hB5⟩
    have HB5 : Hid (Below w.heap.size w w5 ∧ Bs w5 (.slice ad2 S.length cap2) S ∧ Bs w5 (.slice ad4 S.length cap4) S) := ⟨bchain HB4.out.2.1 hB5, HB4.out.2.2.2.1.later hB5, HB4.out.2.2.2.2.later hB5⟩
    clear hB5 HB4 HRG x0 x1 x2 x3 x4 x5 x6 x7
    go_wp2_with fail
    refine (sameB _ _ _ _ _ HB5.out.2.2 HB5.out.2.1).mono ?_
    rintro e w6 ⟨rfl, hB6⟩
    have HB6 : Hid (Below w.heap.size w w6) := bchain HB5.out.1 hB6
    rw [decide_eq_true rfl]
    clear hB6 HB5
    go_wp2
    go_ret
    exact ⟨rfl, HB6.out⟩
end Go.Proofs.YtfcbgkcclganmaaDoor
