/-
The document's sum (regattaref11): More.
The document's frames (regattaref13): Four, Seal.
-/
import Derived.Test.YtfcbgkcclganmaaDoorZ04
import Derived.Test.YtfcbgkcclganmaaDoorZ02

set_option linter.unusedVariables false
set_option linter.unusedSimpArgs false
namespace Go.Proofs.YtfcbgkcclganmaaDoor
open Go.RowKit

theorem cB_eq (r b : Nat) (hb : b < 2) : cB r b = if r % 2 = b then r / 2 else (r / 2) ^^^ 3988292384 := by
  have h1 : (r ^^^ b) / 2 = r / 2 := by rw [Nat.xor_div_two, show b / 2 = 0 by omega, Nat.xor_zero]
  have h2 : (r ^^^ b) % 2 = (r + b) % 2 := xm2 r b
  unfold cB cZ
  rw [h1, h2]
  by_cases h : r % 2 = b
  · rw [if_neg (by omega), if_pos h]
  · rw [if_pos (by omega), if_neg h]; rfl
theorem xor_ones32 (b : Nat) (hb : b < 4294967296) : 4294967295 ^^^ b = 4294967295 - b := by
  have h : ∀ (k : Nat) (b : Nat), b < 2 ^ k → (2 ^ k - 1) ^^^ b = 2 ^ k - 1 - b := by
    intro k
    induction k with
    | zero => intro b hb; obtain rfl : b = 0 := by simpa using hb
              rfl
    | succ k ih =>
      intro b hb
      have hp : 0 < 2 ^ k := Nat.two_pow_pos k
      rw [Nat.pow_succ] at hb ⊢
      have h1 := ih (b / 2) (by omega)
      have d : ((2 ^ k * 2 - 1) ^^^ b) / 2 = (2 ^ k - 1) ^^^ (b / 2) := by rw [Nat.xor_div_two]; congr 1; omega
      have m : ((2 ^ k * 2 - 1) ^^^ b) % 2 = (2 ^ k * 2 - 1 + b) % 2 := xm2 _ _
      rw [h1] at d
      omega
  exact h 32 b hb
theorem not32 (s : Nat) (hs : s < 4294967296) : bits .xor .u32 IntKind.u32.max (s : Int) = ((4294967295 - s : Nat) : Int) := by
  rw [show IntKind.u32.max = ((4294967295 : Nat) : Int) from rfl, xor32 _ _ (by omega) hs, xor_ones32 s hs]
set_option maxRecDepth 100000 in
set_option maxHeartbeats 4000000 in
theorem refMore (s : Nat) (hs : s < 4294967296) (v : Value) (n : Nat) (f : Nat → Nat) (hn : n ≤ 100000) (hf : ∀ k, f k < 256) (w : World) (hl : Ls w v n (by8 f)) :
    Calls Tryd.prog 43 #[.int .u32 (s : Int), v] w fun e w' => e = .returned (.int .u32 ((4294967295 - cR (cBt f) (4294967295 - s) (8 * n) : Nat) : Int)) ∧ Below w.heap.size w w' := by
  have CB : Hid (Calls Tryd.prog 54 #[v] w fun e w' => ∃ v', e = .returned v' ∧ Ls w' v' (8 * n) (nt (cBt f)) ∧ w'.ownsRow w.heap.size 3 1 v' (8 * n) (vl (nt (cBt f)) (8 * n)) ∧ Below w.heap.size w w') := refBits v n f hn hf w hl
  obtain ⟨ad, cap, rfl, l1, l2⟩ := hl.len
  have ht : ∀ k, cBt f k < 2 := cBt_lt f
  generalize cBt f = t at *
  have hrt := cR_lt t (4294967295 - s) (by omega) ht
  have hnot := not32 s hs
  obtain ⟨r0, hr0⟩ : ∃ r0, 4294967295 - s = r0 := ⟨_, rfl⟩
  obtain ⟨N, hN⟩ : ∃ N, 8 * n = N := ⟨_, rfl⟩
  rw [hr0] at hrt hnot ⊢
  rw [hN] at CB ⊢
  have hN1 : N ≤ 800000 := by omega
  clear hl hr0 hN
  go_enter Tryd.func43, Tryd.ntmps43
  go_wp2_with fail
  refine CB.out.mono ?_
  rintro e w1 ⟨v1, rfl, hL, hown, hb⟩
  have HB : Hid (Below w.heap.size w w1) := hb
  have HL : Hid (Ls w1 v1 N (nt t)) := hL
  obtain ⟨ad1, cap1, rfl, m1, m2⟩ := hL.len
  unfold maxLen at m2
  clear hL hown hb CB
  go_upto_region 4 with fail
  go_loopw [5, 7] (fun s5 s7 wr => ∃ j : Nat, j ≤ N ∧ s7 = .int .i64 (j : Int) ∧ s5 = .int .u32 ((cR t r0 j : Nat) : Int) ∧ wr = w1) (fun _ s7 _ => N - (intOf s7).toNat)
  case atStart => exact ⟨0, by omega, rfl, rfl, rfl⟩
  case round =>
    obtain ⟨j, hj, rfl, rfl, rfl⟩ := hrel
    have hr := hrt j
    by_cases hlt : j < N
    · have hjI : (j : Int) < (N : Int) := by omega
      obtain ⟨b, o, cp, e1, hc⟩ := HL.out.spot j hlt
      cases e1
      have hc' : wr.cell? ⟨b, o + j, none⟩ = some (.int .i64 ((t j : Nat) : Int)) := hc
      have htj := ht j
      have HS : Hid (cR t r0 (j + 1) = if cR t r0 j % 2 = t j then cR t r0 j / 2 else (cR t r0 j / 2) ^^^ 3988292384) := by
        show cB (cR t r0 j) (t j) = _
        exact cB_eq _ _ htj
      have hw : IntKind.u32.wrap ((t j : Nat) : Int) = ((t j : Nat) : Int) := by rw [IntKind.wrap_u32]; omega
      have hx : bits .xor .u32 (((cR t r0 j : Nat) : Int) / 2) 3988292384 = ((cR t r0 j / 2 ^^^ 3988292384 : Nat) : Int) := by rw [show (((cR t r0 j : Nat) : Int) / 2) = ((cR t r0 j / 2 : Nat) : Int) by omega]; exact xor32 (cR t r0 j / 2) 3988292384 (by omega) (by omega)
      generalize cR t r0 j = r at *
      generalize t j = x at *
      clear hc
      by_cases hu : r % 2 = x
      · have HS2 : Hid (cR t r0 (j + 1) = r / 2) := by show _ = _; rw [HS.out, if_pos hu]
        have hb : ((r : Int) % 2 != (x : Int)) = false := by simp; omega
        go_wp2
        go_roundw
        case rel => exact ⟨j + 1, by omega, by go_num, by rw [HS2.out]; congr 1, trivial⟩
        case measure => simp [intOf]; omega
      · have HS2 : Hid (cR t r0 (j + 1) = (r / 2) ^^^ 3988292384) := by show _ = _; rw [HS.out, if_neg hu]
        have hb : ((r : Int) % 2 != (x : Int)) = true := by simp; omega
        go_wp2
        go_roundw
        case rel => exact ⟨j + 1, by omega, by go_num, by rw [HS2.out, ← hx], trivial⟩
        case measure => simp [intOf]; omega
    · obtain rfl : j = N := by omega
      have hjI : ¬ (j : Int) < (j : Int) := by omega
      have hnot2 := not32 (cR t r0 j) hr
      go_wp2
      go_ret
      exact ⟨by first | rfl | rw [← hnot2], HB.out⟩
end Go.Proofs.YtfcbgkcclganmaaDoor
set_option linter.unusedVariables false
set_option linter.unusedSimpArgs false
namespace Go.Proofs.YtfcbgkcclganmaaDoor
open Go.RowKit

theorem hidI {p : Prop} (h : p) : Hid p := h
/-- Four bytes, new. -/
theorem ob_four (w : World) (a b c d : Nat) : Ob w.heap.size (w.alloc (.cells #[.int .u8 (a : Int), .int .u8 (b : Int), .int .u8 (c : Int), .int .u8 (d : Int)] 5)) (.slice (some ⟨w.heap.size, 0, none⟩) 4 4) [a, b, c, d] := by
  refine ⟨rfl, Or.inr ⟨w.heap.size, 4, #[.int .u8 (a : Int), .int .u8 (b : Int), .int .u8 (c : Int), .int .u8 (d : Int)], rfl, Nat.le_refl _, ?_, Nat.le_refl _, by unfold maxLen; omega, rfl, rfl⟩⟩
  show (w.heap.push _)[w.heap.size]? = _
  simp
set_option maxRecDepth 100000 in
set_option maxHeartbeats 4000000 in
theorem refFour (n : Nat) (hn : n < 4294967296) (w : World) :
    Calls Tryd.prog 42 #[.int .u32 (n : Int)] w fun e w' => ∃ v, e = .returned v ∧ Ob w.heap.size w' v (four n) ∧ Below w.heap.size w w' := by
  have HF : Hid (four n = [n % 256, n / 256 % 256, n / 65536 % 256, n / 16777216]) := rfl
  obtain ⟨a, ha⟩ : ∃ a, n % 256 = a := ⟨_, rfl⟩
  obtain ⟨b1, hb1⟩ : ∃ b, n / 256 = b := ⟨_, rfl⟩
  obtain ⟨b, hb⟩ : ∃ b, b1 % 256 = b := ⟨_, rfl⟩
  obtain ⟨c1, hc1⟩ : ∃ b, n / 65536 = b := ⟨_, rfl⟩
  obtain ⟨c, hc⟩ : ∃ b, c1 % 256 = b := ⟨_, rfl⟩
  obtain ⟨d, hd⟩ : ∃ d, n / 16777216 = d := ⟨_, rfl⟩
  rw [ha, hb1, hb, hc1, hc, hd] at HF
  have r1 : (n : Int).tmod 256 = (a : Int) := by rw [Int.tmod_eq_emod_of_nonneg (by omega)]; omega
  have r2 : (n : Int).tdiv 256 = (b1 : Int) := by rw [Int.tdiv_eq_ediv_of_nonneg (by omega)]; omega
  have r3 : (b1 : Int).tmod 256 = (b : Int) := by rw [Int.tmod_eq_emod_of_nonneg (by omega)]; omega
  have r4 : (n : Int).tdiv 65536 = (c1 : Int) := by rw [Int.tdiv_eq_ediv_of_nonneg (by omega)]; omega
  have r5 : (c1 : Int).tmod 256 = (c : Int) := by rw [Int.tmod_eq_emod_of_nonneg (by omega)]; omega
  have r6 : (n : Int).tdiv 16777216 = (d : Int) := by rw [Int.tdiv_eq_ediv_of_nonneg (by omega)]; omega
  have w1 : IntKind.u32.wrap (a : Int) = (a : Int) := by rw [IntKind.wrap_u32]; omega
  have w2 : IntKind.u32.wrap (b1 : Int) = (b1 : Int) := by rw [IntKind.wrap_u32]; omega
  have w3 : IntKind.u32.wrap (b : Int) = (b : Int) := by rw [IntKind.wrap_u32]; omega
  have w4 : IntKind.u32.wrap (c1 : Int) = (c1 : Int) := by rw [IntKind.wrap_u32]; omega
  have w5 : IntKind.u32.wrap (c : Int) = (c : Int) := by rw [IntKind.wrap_u32]; omega
  have w6 : IntKind.u32.wrap (d : Int) = (d : Int) := by rw [IntKind.wrap_u32]; omega
  have y1 : IntKind.u8.wrap (a : Int) = (a : Int) := by rw [IntKind.wrap_u8]; omega
  have y2 : IntKind.u8.wrap (b : Int) = (b : Int) := by rw [IntKind.wrap_u8]; omega
  have y3 : IntKind.u8.wrap (c : Int) = (c : Int) := by rw [IntKind.wrap_u8]; omega
  have y4 : IntKind.u8.wrap (d : Int) = (d : Int) := by rw [IntKind.wrap_u8]; omega
  clear ha hb1 hb hc1 hc hd
  go_enter Tryd.func42, Tryd.ntmps42
  go_wp2
  go_ret
  exact ⟨_, rfl, by rw [HF.out]; exact ob_four w a b c d, bel1 _ _⟩
theorem bs_ls {w : World} {v : Value} {l : List Nat} (h : Bs w v l) : Ls w v l.length (by8 (fun k => l.getD k 0)) := h
theorem refSum (l : List Nat) (hb : ∀ c ∈ l, c < 256) (hl : l.length ≤ 100000) (v : Value) (w : World) (h : Bs w v l) :
    Calls Tryd.prog 43 #[.int .u32 0, v] w fun e w' => e = .returned (.int .u32 ((sm l : Nat) : Int)) ∧ Below w.heap.size w w' :=
  refMore 0 (by omega) v l.length (fun k => l.getD k 0) hl (fun k => getD_byte hb k) w (bs_ls h)
set_option maxRecDepth 100000 in
set_option maxHeartbeats 4000000 in
theorem refSeal (k : Nat) (hk : k < 256) (v : Value) (l : List Nat) (hb : ∀ c ∈ l, c < 256) (hl : l.length ≤ 70000) (w : World) (h : Bs w v l) :
    Calls Tryd.prog 28 #[.int .i64 (k : Int), v] w fun e w' => ∃ v', e = .returned v' ∧ Bs w' v' (fsl k l) ∧ Below w.heap.size w w' := by
  have HL : Hid (Bs w v l) := h
  obtain ⟨ad, cap, rfl, k1, k2⟩ := h.len
  unfold maxLen at k2
  have HB : Hid (∀ c ∈ l, c < 256) := hb
  obtain ⟨n, hn⟩ : ∃ n, l.length = n := ⟨_, rfl⟩
  have HN : Hid (l.length = n) := hn
  rw [hn] at k1 hl HL ⊢
  have hwk : IntKind.u8.wrap (k : Int) = (k : Int) := by rw [IntKind.wrap_u8]; omega
  have hwn : IntKind.u32.wrap (n : Int) = (n : Int) := by rw [IntKind.wrap_u32]; omega
  clear h hn hb
  go_enter Tryd.func28, Tryd.ntmps28
  go_wp2_with fail
  refine (refFour n (by omega) _).mono ?_
  rintro e w1 ⟨v1, rfl, hO1, hB1⟩
  have hb1 := bchain (bel1 w _) hB1
  have HO1 : Hid (Ob w.heap.size w1 (.slice (some ⟨w.heap.size, 0, none⟩) 4 4) [82, 71, 1, k] ∧ Bs w1 v1 (four n) ∧ Below w.heap.size w w1) := ⟨(ob_four w 82 71 1 k).later hB1, hO1.bs.1, hb1⟩
  obtain ⟨ad1, cap1, rfl⟩ := hO1.sl
  clear hO1 hB1 hb1
  obtain ⟨X, hX⟩ : ∃ X, [82, 71, 1, k] ++ four n = X := ⟨_, rfl⟩
  have HX : Hid ([82, 71, 1, k] ++ four n = X) := hX
  have HXl : Hid (X.length = 8) := by
    show _ = _
    rw [← hX]
    rfl
  have HE : Hid (X ++ l = hd k l) := by
    show _ = _
    rw [← hX]
    unfold hd
    rw [HN.out]
    simp
  clear hX
  go_upto_region 3 with (at_builtin; refine apB rfl _ _ rfl w.heap.size _ [82, 71, 1, k] rfl HO1.out.1 _ (four n) rfl HO1.out.2.1 (by simp [four]) HO1.out.2.2.size ?_; intro v2 w2 hO2 hg2; rw [HX.out] at hO2; obtain ⟨ad2, cap2, rfl⟩ := hO2.sl)
  have HO2 : Hid (Ob w.heap.size w2 (.slice ad2 X.length cap2) X ∧ Below w.heap.size w w2) := ⟨hO2, hg2.1 _ HO1.out.2.2⟩
  clear hO2 hg2 HO1
  go_upto_region 4 with (at_builtin; refine apB rfl _ _ rfl w.heap.size _ X rfl HO2.out.1 _ l rfl (HL.out.later HO2.out.2) (by have := HN.out; have := HXl.out; omega) HO2.out.2.size ?_; intro v3 w3 hO3 hg3; rw [HE.out] at hO3; obtain ⟨ad3, cap3, rfl⟩ := hO3.sl)
  have HO3 : Hid (Ob w.heap.size w3 (.slice ad3 (hd k l).length cap3) (hd k l) ∧ Below w.heap.size w w3) := ⟨hO3, hg3.1 _ HO2.out.2⟩
  clear hO3 hg3 HO2
  have HLH : Hid ((hd k l).length ≤ 80000) := by
    show _ ≤ _
    rw [hd_len, HN.out]
    omega
  go_wp2_with fail
  refine (refSum (hd k l) (hd_byte hk HB.out (by have := HN.out; omega)) (by have := HLH.out; omega) _ _ HO3.out.1.bs.1).mono ?_
  rintro e w4 ⟨rfl, hB4⟩
  have HO4 : Hid (Ob w.heap.size w4 (.slice ad3 (hd k l).length cap3) (hd k l) ∧ Below w.heap.size w w4) := ⟨HO3.out.1.later hB4, bchain HO3.out.2 hB4⟩
  clear hB4 HO3
  go_wp2_with fail
  refine (refFour (sm (hd k l)) (sm_lt _) _).mono ?_
  rintro e w5 ⟨v5, rfl, hO5, hB5⟩
  have HO5 : Hid (Ob w.heap.size w5 (.slice ad3 (hd k l).length cap3) (hd k l) ∧ Below w.heap.size w w5 ∧ Bs w5 v5 (four (sm (hd k l)))) := ⟨HO4.out.1.later hB5, bchain HO4.out.2 hB5, hO5.bs.1⟩
  obtain ⟨ad5, cap5, rfl⟩ := hO5.sl
  have HFS : Hid (hd k l ++ four (sm (hd k l)) = fsl k l) := rfl
  clear hO5 hB5 HO4
  go_wp2_with (at_builtin; refine apB rfl _ _ rfl w.heap.size _ _ rfl HO5.out.1 _ _ rfl HO5.out.2.2 (by have := HLH.out; rw [four_len]; omega) HO5.out.2.1.size ?_; intro v6 w6 hO6 hg6; rw [HFS.out] at hO6; obtain ⟨ad6, cap6, rfl⟩ := hO6.sl)
  have HO6 : Hid (Bs w6 (.slice ad6 (fsl k l).length cap6) (fsl k l) ∧ Below w.heap.size w w6) := ⟨hO6.bs.1, hg6.1 _ HO5.out.2.1⟩
  clear hO6 hg6 HO5
  go_wp2
  go_ret
  exact ⟨_, rfl, HO6.out.1, HO6.out.2⟩
end Go.Proofs.YtfcbgkcclganmaaDoor
