/-
  The program's contracts: More, Of.
-/
import Derived.Test.YtfcbgkcclganmaaDoorCDefs
import Derived.Test.YtfcbgkcclganmaaDoorCMath5
import Derived.Test.YtfcbgkcclganmaaDoorCRefB
set_option linter.unusedVariables false
set_option linter.unusedSimpArgs false
namespace Go.Proofs.YtfcbgkcclganmaaDoor
open Go.RowKit

/-- A half byte's step, as its operations reckon it. -/
theorem half_facts (r : Nat) (hr : r < 4294967296) (w : World) (hT : TbAt w) : ∃ q d z : Nat, q < 16 ∧ bits .and .u32 (r : Int) 15 = (q : Int) ∧ (r : Int) / 16 = (d : Int) ∧ w.cell? ⟨1, q, none⟩ = some (.int .u32 (z : Int)) ∧ bits .xor .u32 (d : Int) (z : Int) = ((cZs 4 r : Nat) : Int) := by
  refine ⟨r % 16, r / 16, cZs 4 (r % 16), by omega, ?_, by omega, hT _ (by omega), ?_⟩
  · have h := and32 r 15 hr (by omega)
    rw [show r &&& 15 = r % 16 from Nat.and_two_pow_sub_one_eq_mod r 4] at h
    exact h
  · rw [xor32 _ _ (by omega) (cZs_lt 4 _ (by omega)), half_eq r]
set_option maxRecDepth 100000 in
set_option maxHeartbeats 4000000 in
theorem more11 (s : Nat) (v : Value) (n : Nat) (f : Nat → Nat) (w : World) (hs : s < 4294967296) (hn : n ≤ 100000) (hf : ∀ k, f k < 256) (hT : TbAt w) (hl : Ls w v n (by8 f)) :
    Calls Tryd.prog 53 #[.int .u32 (s : Int), v] w fun e w' => e = .returned (.int .u32 ((4294967295 - cR (cBt f) (4294967295 - s) (8 * n) : Nat) : Int)) ∧ Below w.heap.size w w' := by
  obtain ⟨ad, cap, rfl, l1, l2⟩ := hl.len
  unfold maxLen at l2
  have HL : Hid (Ls w (.slice ad n cap) n (by8 f)) := hl
  have CH : Hid (∀ r : Nat, r < 4294967296 → ∃ q d z : Nat, q < 16 ∧ bits .and .u32 (r : Int) 15 = (q : Int) ∧ (r : Int) / 16 = (d : Int) ∧ w.cell? ⟨1, q, none⟩ = some (.int .u32 (z : Int)) ∧ bits .xor .u32 (d : Int) (z : Int) = ((cZs 4 r : Nat) : Int)) := fun r hr => half_facts r hr w hT
  have hnot := not32 s hs
  obtain ⟨r0, hr0⟩ : ∃ r0, 4294967295 - s = r0 := ⟨_, rfl⟩
  have hrt := cR_lt (cBt f) r0 (by omega) (cBt_lt f)
  rw [hr0] at hnot ⊢
  clear hl hT hr0
  go_enter Tryd.func53, Tryd.ntmps53
  go_upto_region 3 with fail
  go_loopw [5, 12] (fun s5 s12 wr => ∃ j : Nat, j ≤ n ∧ s12 = .int .i64 (j : Int) ∧ s5 = .int .u32 ((cR (cBt f) r0 (8 * j) : Nat) : Int) ∧ wr = w) (fun _ s12 _ => n - (intOf s12).toNat)
  case atStart => exact ⟨0, by omega, rfl, by first | rfl | (rw [← hnot]; rfl), rfl⟩
  case round =>
    obtain ⟨j, hj, rfl, rfl, rfl⟩ := hrel
    have hr := hrt (8 * j)
    by_cases hlt : j < n
    · have hjI : (j : Int) < (n : Int) := by omega
      obtain ⟨b, o, cp, e1, hc⟩ := HL.out.spot j hlt
      cases e1
      unfold by8 at hc
      have hfj := hf j
      have HS : Hid (cR (cBt f) r0 (8 * (j + 1)) = cZs 4 (cZs 4 (cR (cBt f) r0 (8 * j) ^^^ f j))) := by
        show _ = _
        rw [cR_byte f r0 j hfj, ← cZs_add]
      have hw : IntKind.u32.wrap ((f j : Nat) : Int) = ((f j : Nat) : Int) := by rw [IntKind.wrap_u32]; omega
      have hx := xor32 (cR (cBt f) r0 (8 * j)) (f j) hr (by omega)
      have hy : cR (cBt f) r0 (8 * j) ^^^ f j < 4294967296 := Nat.xor_lt_two_pow (n := 32) hr (by omega)
      have hy2 := cZs_lt 4 _ hy
      obtain ⟨q1, d1, z1, a1, a2, a3, a4, a5⟩ := CH.out _ hy
      obtain ⟨q2, d2, z2, b1, b2, b3, b4, b5⟩ := CH.out _ hy2
      have a1I : (q1 : Int) < 16 := by omega
      have b1I : (q2 : Int) < 16 := by omega
      generalize cR (cBt f) r0 (8 * j) = r at *
      generalize f j = x at *
      generalize r ^^^ x = y at *
      generalize cZs 4 y = y2 at *
      generalize cZs 4 y2 = y3 at *
      clear hrt CH
      go_wp2
      go_roundw
      case rel => exact ⟨j + 1, by omega, by go_num, by rw [HS.out], trivial⟩
      case measure => simp [intOf]; omega
    · obtain rfl : j = n := by omega
      have hjI : ¬ (j : Int) < (j : Int) := by omega
      have hnot2 := not32 (cR (cBt f) r0 (8 * j)) hr
      go_wp2
      go_ret
      exact ⟨by first | rfl | rw [← hnot2], Below.refl _ _⟩
theorem cF_zero (ns : Nat → Nat) (fs : Nat → Nat → Nat) (r : Nat) : cF ns fs r 0 = r := rfl
theorem cF_succ (ns : Nat → Nat) (fs : Nat → Nat → Nat) (r j : Nat) : cF ns fs r (j + 1) = cR (cBt (fs j)) (cF ns fs r j) (8 * ns j) := rfl
set_option maxRecDepth 100000 in
set_option maxHeartbeats 4000000 in
theorem of11 (v : Value) (K : Nat) (ns : Nat → Nat) (fs : Nat → Nat → Nat) (w : World) (hK : K ≤ 1000) (hn : ∀ j, ns j ≤ 100000) (hf : ∀ j k, fs j k < 256) (hT : TbAt w) (hl : Lb w v K ns fs) :
    Calls Tryd.prog 37 #[v] w fun e w' => e = .returned (.int .u32 ((4294967295 - cF ns fs 4294967295 K : Nat) : Int)) ∧ Below w.heap.size w w' := by
  obtain ⟨ad, cap, rfl, l1, l2⟩ := hl.len
  unfold maxLen at l2
  have HL : Hid (Lb w (.slice ad K cap) K ns fs) := hl
  have CM : Hid (∀ (W : World) (s j : Nat) (u : Value), Below w.heap.size w W → s < 4294967296 → Ls w u (ns j) (by8 (fs j)) → Calls Tryd.prog 53 #[.int .u32 (s : Int), u] W fun e w' => e = .returned (.int .u32 ((4294967295 - cR (cBt (fs j)) (4294967295 - s) (8 * ns j) : Nat) : Int)) ∧ Below W.heap.size W w') := fun W s j u hb h1 h2 => more11 s u (ns j) (fs j) W h1 (hn j) (hf j) (hT.later hb) (h2.later hb)
  have hlt := cF_lt ns fs 4294967295 (by omega)
  clear hl hT
  go_enter Tryd.func37, Tryd.ntmps37
  go_upto_region 3 with fail
  go_loopw [3, 8] (fun s3 s8 wr => ∃ j : Nat, j ≤ K ∧ s8 = .int .i64 (j : Int) ∧ s3 = .int .u32 ((4294967295 - cF ns fs 4294967295 j : Nat) : Int) ∧ Hid (Below w.heap.size w wr)) (fun _ s8 _ => K - (intOf s8).toNat)
  case atStart => exact ⟨0, by omega, rfl, by rw [cF_zero, Nat.sub_self]; rfl, Below.refl _ _⟩
  case round =>
    obtain ⟨j, hj, rfl, rfl, HB⟩ := hrel
    have hr := hlt j
    by_cases hjK : j < K
    · have hjI : (j : Int) < (K : Int) := by omega
      obtain ⟨b, o, cp, ad2, ca2, e1, hc, hls⟩ := HL.out.spot j hjK
      cases e1
      have hc2 := cell_later HB.out hc
      have C1 := CM.out wr (4294967295 - cF ns fs 4294967295 j) j _ HB.out (by omega) hls
      rw [show 4294967295 - (4294967295 - cF ns fs 4294967295 j) = cF ns fs 4294967295 j by omega] at C1
      have HS : Hid (cF ns fs 4294967295 (j + 1) = cR (cBt (fs j)) (cF ns fs 4294967295 j) (8 * ns j)) := cF_succ ns fs _ j
      clear hc hls CM
      generalize cF ns fs 4294967295 j = r at *
      go_wp2_with fail
      refine C1.mono ?_
      rintro e w1 ⟨rfl, hb⟩
      have HB1 : Hid (Below w.heap.size w w1) := bchain HB.out hb
      clear hb C1
      go_wp2
      go_roundw
      case rel => exact ⟨j + 1, by omega, by go_num, by rw [HS.out], HB1⟩
      case measure => simp [intOf]; omega
    · obtain rfl : j = K := by omega
      have hjI : ¬ (j : Int) < (j : Int) := by omega
      go_wp2
      go_ret
      exact ⟨rfl, HB.out⟩
end Go.Proofs.YtfcbgkcclganmaaDoor
