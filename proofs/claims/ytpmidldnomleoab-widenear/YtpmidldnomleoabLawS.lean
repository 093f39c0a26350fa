/-
  WideNear: for all numbers a, b, d of 64 bits the law regattalaw01.WideNear returns true: a quotient times its divisor is no farther from the number than half the divisor, and just so far only of an even one. No condition.
-/
import Derived.Test.YtpmidldnomleoabWalkL
import Derived.Test.YtpmidldnomleoabMath8
set_option linter.unusedVariables false
set_option linter.unusedSimpArgs false
namespace Go.Proofs.Ytpmidldnomleoab
open Go.RowKit

set_option maxHeartbeats 4000000 in
theorem wideNear_walk (a b d : Int) (a0 : -9223372036854775808 ≤ a) (a1 : a ≤ 9223372036854775807) (b0 : -9223372036854775808 ≤ b) (b1 : b ≤ 9223372036854775807) (d0 : -9223372036854775808 ≤ d) (d1 : d ≤ 9223372036854775807) (w : World) :
    Calls Try.prog 6 #[.int .i64 a, .int .i64 b, .int .i64 d] w fun e w' => e = .returned (.bool true) ∧ Below w.heap.size w w' := by
  have pr := prod_small (a / 2) (b / 2) (by omega) (by omega) (by omega) (by omega)
  have M := fun W => mul_any (a / 2) (b / 2) (by omega) (by omega) (by omega) (by omega) W
  obtain ⟨p, hp⟩ : ∃ p, a / 2 * (b / 2) = p := ⟨_, rfl⟩
  rw [hp] at pr M
  obtain ⟨p0, p1⟩ := pr
  clear hp
  go_enter Try.func6, Try.ntmps6
  go_wp2_with fail
  refine (awake_any _).mono ?_
  rintro e w1 ⟨rfl, hb⟩
  have W1 : Below w.heap.size w w1 := hb
  clear hb
  go_wp2_with fail
  refine (M _).mono ?_
  rintro e w2 ⟨rfl, hb⟩
  have W2 : Below w.heap.size w w2 := bchain W1 hb
  clear hb W1 M
  go_wp2_with fail
  refine (of_any a a0 a1 _).mono ?_
  rintro e w3 ⟨rfl, hb⟩
  have W3 : Below w.heap.size w w3 := bchain W2 hb
  clear hb W2
  go_wp2_with fail
  refine (add_any p a _).mono ?_
  rintro e w4 ⟨rfl, hb⟩
  have W4 : Below w.heap.size w w4 := bchain W3 hb
  clear hb W3
  obtain ⟨v, hv⟩ : ∃ v, p + a = v := ⟨_, rfl⟩
  rw [hv]
  have v0 : -42535295865117307932921825928971026432 ≤ v := by omega
  have v1 : v ≤ 42535295865117307932921825928971026432 := by omega
  clear hv p0 p1
  go_wp2_with fail
  have B4 := Bx.new w4 (.int .i64 (hi v)) (.int .u64 (lo v)) 33
  have W5 : Below w.heap.size w (w4.alloc (.cells #[.int .i64 (hi v), .int .u64 (lo v)] 33)) := bchain W4 (bel1 _ _)
  clear W4
  generalize w4.alloc (.cells #[.int .i64 (hi v), .int .u64 (lo v)] 33) = w5 at *
  generalize w4.heap.size = bn at *
  by_cases hd : d = 0
  · subst hd
    refine (quo_zero _ _ _).mono ?_
    rintro e w6 ⟨rfl, hb⟩
    have W6 : Below w.heap.size w w6 := bchain W5 hb
    clear hb W5 B4
    go_wp2
    go_ret
    exact ⟨rfl, bchain W6 (bel1 _ _)⟩
  · have hd' : (d == 0) = false := beq_eq_false_iff_ne.2 hd
    refine (quo_any v d (by omega) (by omega) d0 d1 hd _).mono ?_
    rintro e w6 ⟨rfl, hb⟩
    have W6 : Below w.heap.size w w6 := bchain W5 hb
    have B6 := B4.later hb
    clear hb W5 B4
    obtain ⟨nr1, nr2⟩ := quo_near v d hd
    have qr := quo_rng v d (by omega) (by omega) hd
    generalize quo v d = k at *
    obtain ⟨qr0, qr1⟩ := qr
    go_wp2_with fail
    refine (clamp_any k qr0 qr1 _).mono ?_
    rintro e w7 ⟨rfl, hb⟩
    have W7 : Below w.heap.size w w7 := bchain (bchain W6 (bel1 _ _)) hb
    have B7 := (B6.later (bel1 _ _)).later hb
    clear hb W6 B6
    by_cases hk : -9223372036854775808 ≤ k ∧ k ≤ 9223372036854775807
    · obtain ⟨k0, k1⟩ := hk
      obtain ⟨e1, e2⟩ := clv_in k k0 k1
      rw [e1, e2]
      clear e1 e2 qr0 qr1
      have ML := fun W => mul_any k d k0 k1 d0 d1 W
      have NR1 : Hid (2 * ab (v - k * d) ≤ ab d) := nr1
      have NR2 : Hid (2 * ab (v - k * d) = ab d → k % 2 = 0) := nr2
      have ad := ab_d d d0 d1 hd
      clear nr1 nr2
      obtain ⟨m, hm⟩ : ∃ m, k * d = m := ⟨_, rfl⟩
      rw [hm] at ML NR1 NR2
      clear hm
      have c0 := B7.c0
      have c1 := B7.c1
      have MLH : Hid (∀ W : World, Calls Try.prog 15 #[.int .i64 k, .int .i64 d] W fun e w' => e = .returned (.agg #[.int .i64 (hi m), .int .u64 (lo m)]) ∧ Below W.heap.size W w') := ML
      clear ML
      have hz := W7.size
      have hbn := World.block_lt_of_cell? _ _ c0
      go_upto_region 10 with fail
      go_cut [12] (fun s12 wc => ∃ b12 : Nat, s12 = .pointer (some ⟨b12, 0, none⟩) ∧ Bx b12 (.int .i64 (hi (v - m))) (.int .u64 (lo (v - m))) wc ∧ Below w.heap.size w wc ∧ w.heap.size ≤ b12)
      case first =>
        go_region_held3 (fun w' => w'.cell? ⟨bn, 0, none⟩ = some (.int .i64 (hi v)) ∧ w'.cell? ⟨bn, 1, none⟩ = some (.int .u64 (lo v))) (refine ⟨?_, ?_⟩ <;> (repeat (first | assumption | refine cell_later (by assumption) ?_ | refine cell_alloc ?_ | refine cell_drew ?_ | refine cell_set (by dsimp only; omega) ?_))) (first | (go_at_call 15; refine (MLH.out _).mono ?_; rintro e w8 ⟨rfl, hb8⟩; obtain ⟨hc8, hf8⟩ := bcell hb8; (try simp at hc8 hf8); have hz8 := hb8.size; (try simp at hz8); (try have hy8 : w7.heap.size < w8.heap.size := (by omega))) | (go_at_call 13; refine (sub_any v m _).mono ?_; rintro e w9 ⟨rfl, hb9⟩; obtain ⟨hc9, hf9⟩ := bcell hb9; (try simp at hc9 hf9); have hz9 := hb9.size; (try simp at hz9); (try have hy9 : w7.heap.size < w9.heap.size := (by omega))))
        all_goals (go_wp2_with fail)
        all_goals go_meet
        all_goals (refine ⟨_, rfl, ?_, ?_, ?_⟩)
        all_goals first | omega | (constructor <;> (simp [go_sem, *]; done)) | (repeat (first | assumption | exact Below.refl _ _ | refine Below.setCell ?_ (by dsimp only; omega) _ | refine Below.alloc ?_ (by first | omega | (simp <;> omega)) _ | refine Below.drew ?_ | refine Below.trans ?_ (Below.mono (by assumption) (by first | omega | (simp <;> omega)))))
      case rest =>
        obtain ⟨b12, rfl, B8, W8, hb12⟩ := hcut
        clear c0 c1 B7 W7 hz hbn MLH
        obtain ⟨X, hX⟩ : ∃ X, v - m = X := ⟨_, rfl⟩
        rw [hX] at NR1 NR2 B8
        clear hX v0 v1
        have xr : -9223372036854775808 ≤ X ∧ X ≤ 9223372036854775808 := by
          have := NR1.out; have := ad.2; unfold ab at *; split at * <;> split at * <;> omega
        have ar : 0 ≤ ab X ∧ ab X ≤ 9223372036854775808 := by have := NR1.out; have := ab_ge X; omega
        have c0 := B8.c0
        go_upto_if 56 with fail
        go_cut [] (fun we => Bx b12 (.int .i64 (hi (ab X))) (.int .u64 (lo (ab X))) we ∧ Below w.heap.size w we)
        case first =>
          by_cases hx : X < 0
          · have hh := hi_neg X (by omega) hx
            have c1 := B8.c1
            go_wp2_with fail
            refine (neg_any X _).mono ?_
            rintro e w9 ⟨rfl, hb⟩
            have W9 := bchain W8 hb
            have B9 := B8.later hb
            have y0 := B9.c0
            have y1 := B9.c1
            have y2 := B9.f0
            have y3 := B9.f1
            clear hb W8 B8 c0 c1
            go_wp2_with fail
            go_meet
            exact ⟨by rw [ab_neg X hx]; exact B9.set _ _, (W9.setCell (by dsimp only; omega) _).setCell (by dsimp only; omega) _⟩
          · have hh := hi_pos X (by omega) (by omega)
            go_wp2_with fail
            go_meet
            exact ⟨by rw [ab_pos X (by omega)]; exact B8, W8⟩
        case rest =>
          obtain ⟨B9, W9⟩ := hcut
          clear B8 W8 c0 xr
          generalize ab X = R at *
          go_wp2_with fail
          refine (of_any d d0 d1 _).mono ?_
          rintro e w10 ⟨rfl, hb⟩
          have W10 := bchain W9 hb
          have B10 := B9.later hb
          clear hb W9 B9
          go_upto_if 62 with fail
          have Y0 := Bx.new w10 (.int .i64 (hi d)) (.int .u64 (lo d)) 33
          have B11 := B10.later (bel1 w10 (.cells #[.int .i64 (hi d), .int .u64 (lo d)] 33))
          have W11 := bchain W10 (bel1 w10 (.cells #[.int .i64 (hi d), .int .u64 (lo d)] 33))
          have hb13 : b12 ≠ w10.heap.size := by have := World.block_lt_of_cell? _ _ B10.c0; dsimp only at this; omega
          have hs13 := W10.size
          clear B10 W10
          generalize w10.alloc (.cells #[.int .i64 (hi d), .int .u64 (lo d)] 33) = w11 at *
          generalize w10.heap.size = b13 at *
          go_cut [] (fun we => Bx b12 (.int .i64 (hi R)) (.int .u64 (lo R)) we ∧ Bx b13 (.int .i64 (hi (ab d))) (.int .u64 (lo (ab d))) we ∧ Below w.heap.size w we)
          case first =>
            by_cases hx : d < 0
            · have c0 := Y0.c0
              have c1 := Y0.c1
              go_wp2_with fail
              refine (neg_any d _).mono ?_
              rintro e w12 ⟨rfl, hb⟩
              have W12 := bchain W11 hb
              have B12 := B11.later hb
              have Y12 := Y0.later hb
              have y0 := Y12.c0
              have y1 := Y12.c1
              have y2 := Y12.f0
              have y3 := Y12.f1
              clear hb W11 B11 Y0 c0 c1
              go_wp2_with fail
              go_meet
              exact ⟨⟨cell_set (by dsimp only; omega) (cell_set (by dsimp only; omega) B12.c0), cell_set (by dsimp only; omega) (cell_set (by dsimp only; omega) B12.c1), frozen_set (frozen_set B12.f0), frozen_set (frozen_set B12.f1)⟩, by rw [ab_neg d hx]; exact Y12.set _ _, (W12.setCell (by dsimp only; omega) _).setCell (by dsimp only; omega) _⟩
            · go_wp2_with fail
              go_meet
              exact ⟨B11, by rw [ab_pos d (by omega)]; exact Y0, W11⟩
          case rest =>
            obtain ⟨B13, Y13, W13⟩ := hcut
            clear B11 Y0 W11 hb13
            obtain ⟨ad0, ad1⟩ := ad
            obtain ⟨ar0, ar1⟩ := ar
            generalize ab d = D at *
            have z0 := fun x y => cell_regrown B13.c0 x y
            have z1 := fun x y => cell_regrown B13.c1 x y
            have z2 := fun x y => cell_regrown Y13.c0 x y
            have z3 := fun x y => cell_regrown Y13.c1 x y
            go_upto_region 16 with fail
            refine wp_region_quiet_below (by kernel_rfl) (by kernel_rfl) ?_
            repeat (quiet_step (first | (go_at_call 12; exact Calls.regrown_of (add_any R R _)) | (go_at_call 19; exact Calls.regrown_of (cmp_any (R + R) D (by omega) (by omega) (by omega) (by omega) _))))
            refine wpQuiet_nil ?_
            intro wd hw'
            have hB2 : Below wc.heap.size wc wd := by obtain ⟨⟨dq, osq⟩, rfl⟩ := hw'; exact below_regrown _ dq osq
            have W14 := bchain W13 hB2
            clear hw' hB2 z0 z1 z2 z3 B13 Y13 W13
            have nr := NR1.out
            by_cases c : R + R < D
            · have hc : c3 (R + R) D = -1 := c3_lt _ _ c
              rw [hc]
              go_wp2
              go_ret
              exact ⟨rfl, W14⟩
            · have hc : c3 (R + R) D = 0 := by rw [show R + R = D by omega]; exact c3_self _
              have hk2 : Hid (k % 2 = 0) := NR2.out (by omega)
              have hk3 : (k.tmod 2 == 0) = true := by
                rw [beq_iff_eq]
                exact Int.tmod_eq_zero_of_dvd (Int.dvd_of_emod_eq_zero hk2.out)
              rw [hc]
              go_wp2
              go_ret
              exact ⟨rfl, W14⟩
    · have e2 := ovv_out k hk
      rw [e2]
      clear hk qr0 qr1
      go_wp2
      go_ret
      exact ⟨rfl, W7⟩
end Go.Proofs.Ytpmidldnomleoab
