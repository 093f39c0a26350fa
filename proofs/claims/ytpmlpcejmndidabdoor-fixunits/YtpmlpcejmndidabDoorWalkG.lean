/-
  The contract of regatta/wide's Quo, over what Div64 gives at the two calls.
-/
import Derived.Test.YtpmlpcejmndidabDoorWalkF
set_option linter.unusedVariables false
set_option linter.unusedSimpArgs false
namespace Go.Proofs.YtpmlpcejmndidabDoor
open Go.RowKit

/-- A function's first two blocks, the argument's box and the result's variable, are as they were laid. -/
structure Kp (w : World) (a0 a1 : Value) (w' : World) : Prop where
  bel : Below w.heap.size w w'
  ca0 : w'.cell? ⟨w.heap.size, 0, none⟩ = some a0
  ca1 : w'.cell? ⟨w.heap.size, 1, none⟩ = some a1
  cr0 : w'.cell? ⟨w.heap.size + 1, 0, none⟩ = some (.int .i64 0)
  cr1 : w'.cell? ⟨w.heap.size + 1, 1, none⟩ = some (.int .u64 0)
  fr0 : w'.frozen? ⟨w.heap.size + 1, 0, none⟩ = false
  fr1 : w'.frozen? ⟨w.heap.size + 1, 1, none⟩ = false
theorem Kp.start (w : World) (a0 a1 : Value) (t : TypeId) : Kp w a0 a1 ((w.alloc (.cells #[a0, a1] t)).alloc (.cells #[.int .i64 0, .int .u64 0] t)) where
  bel := bel2 _ _ _
  ca0 := cell_alloc (by simp [go_sem])
  ca1 := cell_alloc (by simp [go_sem])
  cr0 := by simp [go_sem]
  cr1 := by simp [go_sem]
  fr0 := by simp [go_sem]
  fr1 := by simp [go_sem]
theorem Kp.later {w w1 w2 : World} {a0 a1 : Value} (h : Kp w a0 a1 w1) (hb : Below w1.heap.size w1 w2) : Kp w a0 a1 w2 where
  bel := h.bel.trans (hb.mono h.bel.size)
  ca0 := cell_later hb h.ca0
  ca1 := cell_later hb h.ca1
  cr0 := cell_later hb h.cr0
  cr1 := cell_later hb h.cr1
  fr0 := frozen_later hb h.cr0 h.fr0
  fr1 := frozen_later hb h.cr1 h.fr1
theorem Kp.lt {w w1 : World} {a0 a1 : Value} (h : Kp w a0 a1 w1) : w.heap.size + 1 < w1.heap.size := World.block_lt_of_cell? _ _ h.cr0
theorem Kp.alloc {w w1 : World} {a0 a1 : Value} (h : Kp w a0 a1 w1) (o : Obj) : Kp w a0 a1 (w1.alloc o) := h.later (bel1 w1 o)

/-- A variable of two words. -/
structure Bx (b : Nat) (x y : Value) (w : World) : Prop where
  c0 : w.cell? ⟨b, 0, none⟩ = some x
  c1 : w.cell? ⟨b, 1, none⟩ = some y
  f0 : w.frozen? ⟨b, 0, none⟩ = false
  f1 : w.frozen? ⟨b, 1, none⟩ = false
theorem Bx.new (w : World) (x y : Value) (t : TypeId) : Bx w.heap.size x y (w.alloc (.cells #[x, y] t)) where
  c0 := by simp [go_sem]
  c1 := by simp [go_sem]
  f0 := by simp [go_sem]
  f1 := by simp [go_sem]
theorem Bx.later {b : Nat} {x y : Value} {w w' : World} (h : Bx b x y w) (hb : Below w.heap.size w w') : Bx b x y w' where
  c0 := cell_later hb h.c0
  c1 := cell_later hb h.c1
  f0 := frozen_later hb h.c0 h.f0
  f1 := frozen_later hb h.c1 h.f1
theorem Bx.set {b : Nat} {x y : Value} {w : World} (h : Bx b x y w) (x' y' : Value) : Bx b x' y' ((w.setCell ⟨b, 0, none⟩ x').setCell ⟨b, 1, none⟩ y') := by
  have c0 := h.c0
  have c1 := h.c1
  have f0 := h.f0
  have f1 := h.f1
  constructor <;> simp [go_sem, c0, c1, f0, f1]
theorem frozen_set {W : World} {p a : Addr} {x : Value} (h : W.frozen? a = false) : (W.setCell p x).frozen? a = false := by simpa [go_sem] using h
theorem Kp.set {w w1 : World} {a0 a1 : Value} (h : Kp w a0 a1 w1) {b : Nat} (hb : w.heap.size + 1 < b) (x y : Value) : Kp w a0 a1 ((w1.setCell ⟨b, 0, none⟩ x).setCell ⟨b, 1, none⟩ y) where
  bel := (h.bel.setCell (by dsimp only; omega) _).setCell (by dsimp only; omega) _
  ca0 := cell_set (by dsimp only; omega) (cell_set (by dsimp only; omega) h.ca0)
  ca1 := cell_set (by dsimp only; omega) (cell_set (by dsimp only; omega) h.ca1)
  cr0 := cell_set (by dsimp only; omega) (cell_set (by dsimp only; omega) h.cr0)
  cr1 := cell_set (by dsimp only; omega) (cell_set (by dsimp only; omega) h.cr1)
  fr0 := frozen_set (frozen_set h.fr0)
  fr1 := frozen_set (frozen_set h.fr1)

theorem run_field_lo (x y : Value) (w : World) : (Instr.field 57 (.agg #[x, y]) 1).run Tryd.prog w = .ok y w := by kernel_rfl

set_option maxHeartbeats 400000 in
theorem quo_zero (v0 v1 : Int) (w : World) :
    Calls Tryd.prog 76 #[.agg #[.int .i64 v0, .int .u64 v1], .int .i64 0] w fun e w' => e = .returned (.tuple #[.agg #[.int .i64 0, .int .u64 0], .bool false]) ∧ Below w.heap.size w w' := by
  go_enter Tryd.func76, Tryd.ntmps76
  go_wp2
  exact bodyPost_ret (v := .tuple #[.agg #[.int .i64 0, .int .u64 0], .bool false]) (by simp [results, Tryd.results76, go_sem]) rfl ⟨rfl, bel2 _ _ _⟩

set_option maxHeartbeats 1000000 in
theorem quo_of (v d : Int) (v0 : -170141183460469231731687303715884105728 ≤ v) (v1 : v ≤ 170141183460469231731687303715884105727) (d0 : -9223372036854775808 ≤ d) (d1 : d ≤ 9223372036854775807) (hd : d ≠ 0) (D1 : DivAt 0 (ab v / 18446744073709551616) (ab d)) (D2 : DivAt (ab v / 18446744073709551616 % ab d) (lo (ab v)) (ab d)) (w : World) :
    Calls Tryd.prog 76 #[.agg #[.int .i64 (hi v), .int .u64 (lo v)], .int .i64 d] w fun e w' => e = .returned (.tuple #[.agg #[.int .i64 (hi (quo v d)), .int .u64 (lo (quo v d))], .bool true]) ∧ Below w.heap.size w w' := by
  have hd' : (d == 0) = false := beq_eq_false_iff_ne.2 hd
  obtain ⟨b0, b1⟩ := ab_d d d0 d1 hd
  have hlo : lo (ab d) = ab d := lo_small _ (by omega) (by omega)
  have a0 := ab_ge v
  have a1 := ab_le v v0 v1
  have DD := divide_of (ab v) (ab d) a0 a1 b0 (by omega) D1 D2
  have r0 := Int.emod_nonneg (ab v) (show ab d ≠ 0 by omega)
  have r1 := Int.emod_lt_of_pos (ab v) (show 0 < ab d by omega)
  clear D1 D2 hd
  have HQ : Hid (quo v d = if (decide (v < 0) != decide (d < 0)) = true then -(if gu (c3 (2 * (ab v % ab d)) (ab d)) (lo (ab v / ab d)) = true then ab v / ab d + 1 else ab v / ab d) else (if gu (c3 (2 * (ab v % ab d)) (ab d)) (lo (ab v / ab d)) = true then ab v / ab d + 1 else ab v / ab d)) := by
    show quo v d = _
    rfl
  have hs : decide (hi v < 0) = decide (v < 0) := by
    by_cases h : v < 0
    · rw [decide_eq_true h, decide_eq_true (hi_neg v v0 h)]
    · rw [decide_eq_false h, decide_eq_false (hi_pos v (by omega) v1)]
  have HS : Hid (decide (hi v < 0) = decide (v < 0)) := hs
  clear hs
  have hfd := run_field_lo
  go_enter Tryd.func76, Tryd.ntmps76
  go_wp2_with fail
  refine (of_any d d0 d1 _).mono ?_
  rintro e w1 ⟨rfl, hb⟩
  have K1 := (Kp.start w _ _ _).later hb
  clear hb
  go_wp2_with fail
  refine (size_any d (by omega) (by omega) _).mono ?_
  rintro e w2 ⟨rfl, hb⟩
  have K2 := K1.later hb
  clear hb K1
  have ca0 := K2.ca0
  have ca1 := K2.ca1
  go_wp2_with fail
  refine (size_any v v0 v1 _).mono ?_
  rintro e w3 ⟨rfl, hb⟩
  have K3 := K2.later hb
  clear hb K2 ca0 ca1
  go_wp2_with fail
  refine (DD _).mono ?_
  rintro e w4 ⟨rfl, hb⟩
  have K4 := K3.later hb
  clear hb K3 DD hlo
  generalize ab v / ab d = Q at *
  generalize ab v % ab d = R at *
  generalize ab d = D at *
  have hw2 : IntKind.u64.wrap (2 * R) = 2 * R := by rw [IntKind.wrap_u64]; omega
  have hlq := lo_ge Q
  go_upto_region 5 with fail
  have B4 := Bx.new w4 (.int .i64 (hi Q)) (.int .u64 (lo Q)) 57
  have K5 := K4.alloc (.cells #[.int .i64 (hi Q), .int .u64 (lo Q)] 57)
  have hlt := K4.lt
  clear K4
  generalize w4.alloc (.cells #[.int .i64 (hi Q), .int .u64 (lo Q)] 57) = W5 at *
  generalize w4.heap.size = b7 at *
  have q1 := fun x y => cell_regrown B4.c1 x y
  refine wp_region_quiet_below (by kernel_rfl) (by kernel_rfl) ?_
  repeat (quiet_step (first | (go_at_call 74; exact Calls.regrown_same (cmpu_any (2 * R) D _)) | (go_at_call 56; exact Calls.regrown_same (goesUp_any _ _ hlq _))))
  refine wpQuiet_nil ?_
  intro wd hw'
  have hB2 : Below W5.heap.size W5 wd := by obtain ⟨⟨dq, osq⟩, rfl⟩ := hw'; exact below_regrown W5 dq osq
  have B5 := B4.later hB2
  have K6 := K5.later hB2
  clear hw' hB2 B4 K5 q1 hw2
  go_upto_if 29 with fail
  go_cut [] (fun wc => ∃ Q' : Int, Hid (Q' = if gu (c3 (2 * R) D) (lo Q) = true then Q + 1 else Q) ∧ Kp w (.int .i64 (hi v)) (.int .u64 (lo v)) wc ∧ Bx b7 (.int .i64 (hi Q')) (.int .u64 (lo Q')) wc)
  case first =>
    by_cases hG : gu (c3 (2 * R) D) (lo Q) = true
    · have x0 := B5.c0
      have x1 := B5.c1
      rw [hG]
      have B5d : Bx b7 (.int .i64 (hi Q)) (.int .u64 (lo Q)) wd.drew := ⟨x0, x1, B5.f0, B5.f1⟩
      go_wp2_with fail
      go_region_with (first | (go_at_call 38; refine (of_any 1 (by omega) (by omega) _).mono ?_; rintro e w2 ⟨rfl, hb2⟩; have B6 := B5d.later hb2; have y0 := B6.c0; have y1 := B6.c1; have y2 := B6.f0; have y3 := B6.f1) | (go_at_call 30; refine (add_any Q 1 _).mono ?_; rintro e w3 ⟨rfl, hb3⟩; have B7 := B6.later hb3; have z0 := B7.c0; have z1 := B7.c1; have z2 := B7.f0; have z3 := B7.f1))
      all_goals (go_wp2_with fail)
      all_goals go_meet
      all_goals exact ⟨Q + 1, by show Q + 1 = _; rw [if_pos hG], ((K6.later (w2 := wd.drew) ((Below.refl _ _).drew)).later hb2 |>.later hb3).set hlt _ _, B7.set _ _⟩
    · have hG' : gu (c3 (2 * R) D) (lo Q) = false := by simpa using hG
      rw [hG']
      go_wp2_with fail
      go_meet
      exact ⟨Q, by show Q = _; rw [if_neg hG], K6, B5⟩
  case rest =>
    obtain ⟨Q', HQ', K7, B7⟩ := hcut
    have ca0 := K7.ca0
    have x0 := B7.c0
    have x1 := B7.c1
    have cr0 := K7.cr0
    have cr1 := K7.cr1
    have fr0 := K7.fr0
    have fr1 := K7.fr1
    by_cases hT : (decide (v < 0) != decide (d < 0)) = true
    · have hT' : (decide (hi v < 0) == decide (d < 0)) = false := by rw [HS.out]; simpa using hT
      have HV : Hid (quo v d = -Q') := by show quo v d = -Q'; rw [HQ.out, if_pos hT, HQ'.out]
      clear HQ HQ' hT
      go_wp2_with fail
      refine (neg_any Q' _).mono ?_
      rintro e w8 ⟨rfl, hb⟩
      have K8 := K7.later hb
      have B8 := B7.later hb
      clear hb K7 B7 ca0 x0 x1 cr0 cr1 fr0 fr1
      have x0 := B8.c0
      have x1 := B8.c1
      have x2 := B8.f0
      have x3 := B8.f1
      have cr0 := K8.cr0
      have cr1 := K8.cr1
      have fr0 := K8.fr0
      have fr1 := K8.fr1
      have hne : w.heap.size + 1 ≠ b7 := by omega
      have hne' : b7 ≠ w.heap.size + 1 := by omega
      go_wp2_with fail
      exact bodyPost_ret (v := .tuple #[.agg #[.int .i64 (hi (quo v d)), .int .u64 (lo (quo v d))], .bool true]) (by rw [HV.out]; simp [results, Tryd.results76, go_sem, cr0, cr1]) rfl ⟨rfl, ((K8.set hlt _ _).bel.setCell (by dsimp only; omega) _).setCell (by dsimp only; omega) _⟩
    · have hT' : (decide (hi v < 0) == decide (d < 0)) = true := by rw [HS.out]; simpa using hT
      have HV : Hid (quo v d = Q') := by show quo v d = Q'; rw [HQ.out, if_neg hT, HQ'.out]
      clear HQ HQ' hT
      go_wp2_with fail
      exact bodyPost_ret (v := .tuple #[.agg #[.int .i64 (hi (quo v d)), .int .u64 (lo (quo v d))], .bool true]) (by rw [HV.out]; simp [results, Tryd.results76, go_sem, cr0, cr1]) rfl ⟨rfl, (K7.bel.setCell (by dsimp only; omega) _).setCell (by dsimp only; omega) _⟩

end Go.Proofs.YtpmlpcejmndidabDoor
