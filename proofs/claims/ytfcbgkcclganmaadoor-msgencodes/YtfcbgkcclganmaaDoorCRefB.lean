/-
  The document's sum (regattaref11): More.
-/
import Derived.Test.YtfcbgkcclganmaaDoorCRefA
set_option linter.unusedVariables false
set_option linter.unusedSimpArgs false
namespace Go.Proofs.YtfcbgkcclganmaaDoor
open Go.RowKit

theorem cB_eq (r b : Nat) (hb : b < 2) : cB r b = if r % 2 = b then r / 2 else (r / 2) ^^^ 3988292384 := by
  have h1 : (r ^^^ b) / 2 = r / 2 := by rw [Nat.xor_div_two, show b / 2 = 0 by omega, Nat.xor_zero]
  have h2 : (r ^^^ b) % 2 = (r + b) % 2 := xm2 r b
  unfold cB cZ
  rw [h1, h2]
  by_cases h : r % 2 = b
  · rw [if_neg (by omega), if_pos h]
  · rw [if_pos (by omega), if_neg h]; rfl
theorem xor_ones32 (b : Nat) (hb : b < 4294967296) : 4294967295 ^^^ b = 4294967295 - b := by
  have h : ∀ (k : Nat) (b : Nat), b < 2 ^ k → (2 ^ k - 1) ^^^ b = 2 ^ k - 1 - b := by
    intro k
    induction k with
    | zero => intro b hb; obtain rfl : b = 0 := by simpa using hb
              rfl
    | succ k ih =>
      intro b hb
      have hp : 0 < 2 ^ k := Nat.two_pow_pos k
      rw [Nat.pow_succ] at hb ⊢
      have h1 := ih (b / 2) (by omega)
      have d : ((2 ^ k * 2 - 1) ^^^ b) / 2 = (2 ^ k - 1) ^^^ (b / 2) := by rw [Nat.xor_div_two]; congr 1; omega
      have m : ((2 ^ k * 2 - 1) ^^^ b) % 2 = (2 ^ k * 2 - 1 + b) % 2 := xm2 _ _
      rw [h1] at d
      omega
  exact h 32 b hb
theorem not32 (s : Nat) (hs : s < 4294967296) : bits .xor .u32 IntKind.u32.max (s : Int) = ((4294967295 - s : Nat) : Int) := by
  rw [show IntKind.u32.max = ((4294967295 : Nat) : Int) from rfl, xor32 _ _ (by omega) hs, xor_ones32 s hs]
set_option maxRecDepth 100000 in
set_option maxHeartbeats 4000000 in
theorem refMore (s : Nat) (hs : s < 4294967296) (v : Value) (n : Nat) (f : Nat → Nat) (hn : n ≤ 100000) (hf : ∀ k, f k < 256) (w : World) (hl : Ls w v n (by8 f)) :
    Calls Tryd.prog 43 #[.int .u32 (s : Int), v] w fun e w' => e = .returned (.int .u32 ((4294967295 - cR (cBt f) (4294967295 - s) (8 * n) : Nat) : Int)) ∧ Below w.heap.size w w' := by
  have CB : Hid (Calls Tryd.prog 54 #[v] w fun e w' => ∃ v', e = .returned v' ∧ Ls w' v' (8 * n) (nt (cBt f)) ∧ w'.ownsRow w.heap.size 3 1 v' (8 * n) (vl (nt (cBt f)) (8 * n)) ∧ Below w.heap.size w w') := refBits v n f hn hf w hl
  obtain ⟨ad, cap, rfl, l1, l2⟩ := hl.len
  have ht : ∀ k, cBt f k < 2 := cBt_lt f
  generalize cBt f = t at *
  have hrt := cR_lt t (4294967295 - s) (by omega) ht
  have hnot := not32 s hs
  obtain ⟨r0, hr0⟩ : ∃ r0, 4294967295 - s = r0 := ⟨_, rfl⟩
  obtain ⟨N, hN⟩ : ∃ N, 8 * n = N := ⟨_, rfl⟩
  rw [hr0] at hrt hnot ⊢
  rw [hN] at CB ⊢
  have hN1 : N ≤ 800000 := by omega
  clear hl hr0 hN
  go_enter Tryd.func43, Tryd.ntmps43
  go_wp2_with fail
  refine CB.out.mono ?_
  rintro e w1 ⟨v1, rfl, hL, hown, hb⟩
  have HB : Hid (Below w.heap.size w w1) := hb
  have HL : Hid (Ls w1 v1 N (nt t)) := hL
  obtain ⟨ad1, cap1, rfl, m1, m2⟩ := hL.len
  unfold maxLen at m2
  clear hL hown hb CB
  go_upto_region 4 with fail
  go_loopw [5, 7] (fun s5 s7 wr => ∃ j : Nat, j ≤ N ∧ s7 = .int .i64 (j : Int) ∧ s5 = .int .u32 ((cR t r0 j : Nat) : Int) ∧ wr = w1) (fun _ s7 _ => N - (intOf s7).toNat)
  case atStart => exact ⟨0, by omega, rfl, rfl, rfl⟩
  case round =>
    obtain ⟨j, hj, rfl, rfl, rfl⟩ := hrel
    have hr := hrt j
    by_cases hlt : j < N
    · have hjI : (j : Int) < (N : Int) := by omega
      obtain ⟨b, o, cp, e1, hc⟩ := HL.out.spot j hlt
      cases e1
      have hc' : wr.cell? ⟨b, o + j, none⟩ = some (.int .i64 ((t j : Nat) : Int)) := hc
      have htj := ht j
      have HS : Hid (cR t r0 (j + 1) = if cR t r0 j % 2 = t j then cR t r0 j / 2 else (cR t r0 j / 2) ^^^ 3988292384) := by
        show cB (cR t r0 j) (t j) = _
        exact cB_eq _ _ htj
      have hw : IntKind.u32.wrap ((t j : Nat) : Int) = ((t j : Nat) : Int) := by rw [IntKind.wrap_u32]; omega
      have hx : bits .xor .u32 (((cR t r0 j : Nat) : Int) / 2) 3988292384 = ((cR t r0 j / 2 ^^^ 3988292384 : Nat) : Int) := by rw [show (((cR t r0 j : Nat) : Int) / 2) = ((cR t r0 j / 2 : Nat) : Int) by omega]; exact xor32 (cR t r0 j / 2) 3988292384 (by omega) (by omega)
      generalize cR t r0 j = r at *
      generalize t j = x at *
      clear hc
      by_cases hu : r % 2 = x
      · have HS2 : Hid (cR t r0 (j + 1) = r / 2) := by show _ = _; rw [HS.out, if_pos hu]
        have hb : ((r : Int) % 2 != (x : Int)) = false := by simp; omega
        go_wp2
        go_roundw
        case rel => exact ⟨j + 1, by omega, by go_num, by rw [HS2.out]; congr 1, trivial⟩
        case measure => simp [intOf]; omega
      · have HS2 : Hid (cR t r0 (j + 1) = (r / 2) ^^^ 3988292384) := by show _ = _; rw [HS.out, if_neg hu]
        have hb : ((r : Int) % 2 != (x : Int)) = true := by simp; omega
        go_wp2
        go_roundw
        case rel => exact ⟨j + 1, by omega, by go_num, by rw [HS2.out, ← hx], trivial⟩
        case measure => simp [intOf]; omega
    · obtain rfl : j = N := by omega
      have hjI : ¬ (j : Int) < (j : Int) := by omega
      have hnot2 := not32 (cR t r0 j) hr
      go_wp2
      go_ret
      exact ⟨by first | rfl | rw [← hnot2], HB.out⟩
end Go.Proofs.YtfcbgkcclganmaaDoor
