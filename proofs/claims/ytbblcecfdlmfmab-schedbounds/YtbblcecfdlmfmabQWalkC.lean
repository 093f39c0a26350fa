/-
  The contracts of sched: Rate, Power, Bias; paces.
-/
import Derived.Test.YtbblcecfdlmfmabQWalkB
import Derived.Test.YtbblcecfdlmfmabBH
set_option linter.unusedVariables false
set_option linter.unusedSimpArgs false
namespace Go.Proofs.Ytbblcecfdlmfmab
open Go.RowKit

set_option maxRecDepth 100000 in
set_option maxHeartbeats 4000000 in
theorem rate_rule (B W : Int) (v : Value) (n : Nat) (at' fa : Nat → Int) (t : Int) (w : World) (hA : Drp w v n at' fa) (h : ¬ RO B W n at' fa) :
    Calls Try.prog 8 #[.agg #[.int .i64 B, .int .i64 W, v], .int .i64 t] w fun e w' => e = .returned (.tuple #[.int .i64 0, .int .i64 80]) ∧ Below w.heap.size w w' := by
  have CC : Hid (∀ W' : World, Below w.heap.size w W' → Calls Try.prog 13 #[.agg #[.int .i64 B, .int .i64 W, v]] W' fun e w' => e = .returned (.int .i64 80) ∧ Below W'.heap.size W' w') := fun W' hb => checkRates_no B W v n at' fa W' (hA.later hb) h
  obtain ⟨adr, cap, b, o, rfl, k1, k2, -, -⟩ := hA
  clear h
  obtain ⟨w1, hw1⟩ : ∃ w1, w1 = w.alloc (.cells #[.int .i64 B, .int .i64 W, .slice adr n cap] 40) := ⟨_, rfl⟩
  have HB1 : Hid (Below w.heap.size w w1) := by rw [hw1]; exact bel1 _ _
  have HQ := Q3.new w (.int .i64 B) (.int .i64 W) (.slice adr n cap) 40
  rw [← hw1] at HQ
  go_enter Try.func8, Try.ntmps8
  go_upto_region 1 with fail
  rw [← hw1]
  clear hw1
  have x0 := HQ.c0
  have x1 := HQ.c1
  have x2 := HQ.c2
  go_wp2_with (go_at_call 13; refine (CC.out _ HB1.out).mono ?_; rintro e wz ⟨rfl, hb⟩; have HB2 : Hid (Below w.heap.size w wz) := bchain HB1.out hb; clear hb HQ x0 x1 x2)
  go_ret2
  exact ⟨rfl, HB2.out⟩
set_option maxRecDepth 100000 in
set_option maxHeartbeats 4000000 in
theorem rate_arg (B W : Int) (v : Value) (n : Nat) (at' fa : Nat → Int) (t : Int) (w : World) (hA : Drp w v n at' fa) (h : RO B W n at' fa) (ht : ¬ (1 ≤ t ∧ t ≤ 1048576)) :
    Calls Try.prog 8 #[.agg #[.int .i64 B, .int .i64 W, v], .int .i64 t] w fun e w' => e = .returned (.tuple #[.int .i64 0, .int .i64 2]) ∧ Below w.heap.size w w' := by
  have CC : Hid (∀ W' : World, Below w.heap.size w W' → Calls Try.prog 13 #[.agg #[.int .i64 B, .int .i64 W, v]] W' fun e w' => e = .returned (.int .i64 0) ∧ Below W'.heap.size W' w') := fun W' hb => checkRates_yes B W v n at' fa W' (hA.later hb) h
  have CW : Hid (∀ W' : World, Calls Try.prog 10 #[.int .i64 t, .int .i64 1, .int .i64 1048576] W' fun e w' => e = .returned (.bool false) ∧ w' = W') := fun W' => by
    have h' := within_any t 1 1048576 W'
    rw [wiB_no ht] at h'
    exact h'
  obtain ⟨adr, cap, b, o, rfl, k1, k2, -, -⟩ := hA
  clear h ht
  obtain ⟨w1, hw1⟩ : ∃ w1, w1 = w.alloc (.cells #[.int .i64 B, .int .i64 W, .slice adr n cap] 40) := ⟨_, rfl⟩
  have HB1 : Hid (Below w.heap.size w w1) := by rw [hw1]; exact bel1 _ _
  have HQ := Q3.new w (.int .i64 B) (.int .i64 W) (.slice adr n cap) 40
  rw [← hw1] at HQ
  go_enter Try.func8, Try.ntmps8
  go_upto_region 1 with fail
  rw [← hw1]
  clear hw1
  have x0 := HQ.c0
  have x1 := HQ.c1
  have x2 := HQ.c2
  go_wp2_with (first
    | (go_at_call 13; refine (CC.out _ HB1.out).mono ?_; rintro e wz ⟨rfl, hb⟩; have HB2 : Hid (Below w.heap.size w wz) := bchain HB1.out hb; clear hb HQ x0 x1 x2)
    | (go_at_call 10; refine (CW.out _).mono ?_; rintro e wy ⟨rfl, hz⟩; subst hz))
  go_ret2
  exact ⟨rfl, HB2.out⟩
set_option maxRecDepth 100000 in
set_option maxHeartbeats 4000000 in
theorem rate_ok (B W : Int) (v : Value) (n : Nat) (at' fa : Nat → Int) (t : Int) (w : World) (hA : Drp w v n at' fa) (h : RO B W n at' fa) (B1 : B ≤ 9223372036854775807) (t0 : 1 ≤ t) (t1 : t ≤ 1048576) :
    Calls Try.prog 8 #[.agg #[.int .i64 B, .int .i64 W, v], .int .i64 t] w fun e w' => e = .returned (.tuple #[.int .i64 (rtV B W n at' fa t), .int .i64 0]) ∧ Below w.heap.size w w' := by
  have CC : Hid (∀ W' : World, Below w.heap.size w W' → Calls Try.prog 13 #[.agg #[.int .i64 B, .int .i64 W, v]] W' fun e w' => e = .returned (.int .i64 0) ∧ Below W'.heap.size W' w') := fun W' hb => checkRates_yes B W v n at' fa W' (hA.later hb) h
  have CW : Hid (∀ W' : World, Calls Try.prog 10 #[.int .i64 t, .int .i64 1, .int .i64 1048576] W' fun e w' => e = .returned (.bool true) ∧ w' = W') := fun W' => by
    have h' := within_any t 1 1048576 W'
    rw [wiB_yes ⟨t0, t1⟩] at h'
    exact h'
  have hin := bsV_in B W t h.1 t0
  have CD : Hid (∀ W' : World, Below w.heap.size w W' → Calls Try.prog 15 #[.int .i64 (bsV B W t), v, .int .i64 t] W' fun e w' => e = .returned (.int .i64 (rtV B W n at' fa t)) ∧ Below W'.heap.size W' w') := fun W' hb => dropped_any (bsV B W t) v n at' fa t W' (hA.later hb) h.2.2.2 hin.1 (by omega)
  obtain ⟨adr, cap, b, o, rfl, k1, k2, -, -⟩ := hA
  obtain ⟨w1, hw1⟩ : ∃ w1, w1 = w.alloc (.cells #[.int .i64 B, .int .i64 W, .slice adr n cap] 40) := ⟨_, rfl⟩
  have HB1 : Hid (Below w.heap.size w w1) := by rw [hw1]; exact bel1 _ _
  have HQ := Q3.new w (.int .i64 B) (.int .i64 W) (.slice adr n cap) 40
  rw [← hw1] at HQ
  by_cases htW : t ≤ W
  · have CM : Hid (∀ W' : World, Calls Try.prog 14 #[.agg #[.int .i64 B, .int .i64 W, .slice adr n cap], .int .i64 t] W' fun e w' => e = .returned (.int .i64 (bsV B W t)) ∧ Below W'.heap.size W' w') := fun W' => by
      have h' := warm_any B W (.slice adr n cap) t W' adr n cap rfl h.1 B1 t0 htW h.2.2.1
      rw [show wmV B W t = bsV B W t from (if_pos htW).symm] at h'
      exact h'
    generalize rtV B W n at' fa t = R at *
    generalize bsV B W t = X at *
    clear h hin
    go_enter Try.func8, Try.ntmps8
    go_upto_region 1 with fail
    rw [← hw1]
    clear hw1
    have x0 := HQ.c0
    have x1 := HQ.c1
    have x2 := HQ.c2
    go_wp2_with (first
      | (go_at_call 13; refine (CC.out _ HB1.out).mono ?_; rintro e wz ⟨rfl, hb⟩; have HB2 : Hid (Below w.heap.size w wz) := bchain HB1.out hb; replace HQ := HQ.later hb; replace x0 := HQ.c0; replace x1 := HQ.c1; replace x2 := HQ.c2; clear hb)
      | (go_at_call 10; refine (CW.out _).mono ?_; rintro e wy ⟨rfl, hz⟩; subst hz)
      | (go_at_call 14; refine (CM.out _).mono ?_; rintro e wx ⟨rfl, hb⟩; have HB3 : Hid (Below w.heap.size w wx) := bchain HB2.out hb; replace HQ := HQ.later hb; replace x0 := HQ.c0; replace x1 := HQ.c1; replace x2 := HQ.c2; clear hb)
      | (go_at_call 15; refine (CD.out _ HB3.out).mono ?_; rintro e wu ⟨rfl, hb⟩; have HB4 : Hid (Below w.heap.size w wu) := bchain HB3.out hb; clear hb HQ x0 x1 x2))
    go_ret2
    exact ⟨rfl, HB4.out⟩
  · have e0 : bsV B W t = B := if_neg htW
    rw [e0] at CD
    generalize rtV B W n at' fa t = R at *
    clear h hin e0
    go_enter Try.func8, Try.ntmps8
    go_upto_region 1 with fail
    rw [← hw1]
    clear hw1
    have x0 := HQ.c0
    have x1 := HQ.c1
    have x2 := HQ.c2
    go_wp2_with (first
      | (go_at_call 13; refine (CC.out _ HB1.out).mono ?_; rintro e wz ⟨rfl, hb⟩; have HB2 : Hid (Below w.heap.size w wz) := bchain HB1.out hb; replace HQ := HQ.later hb; replace x0 := HQ.c0; replace x1 := HQ.c1; replace x2 := HQ.c2; clear hb)
      | (go_at_call 10; refine (CW.out _).mono ?_; rintro e wy ⟨rfl, hz⟩; subst hz)
      | (go_at_call 15; refine (CD.out _ HB2.out).mono ?_; rintro e wu ⟨rfl, hb⟩; have HB4 : Hid (Below w.heap.size w wu) := bchain HB2.out hb; clear hb HQ x0 x1 x2))
    go_ret2
    exact ⟨rfl, HB4.out⟩
/-- What Power answers: the power and the error. -/
def pwA (b t : Int) : Int := if 0 ≤ b ∧ b < 4294967296 then (if 0 ≤ t ∧ t ≤ 1048576 then pwN b t.toNat else 0) else 0
def pwE (b t : Int) : Int := if 0 ≤ b ∧ b < 4294967296 then (if 0 ≤ t ∧ t ≤ 1048576 then 0 else 2) else 80
def bsA (b t : Int) : Int := if 0 ≤ b ∧ b < 4294967296 then (if 0 ≤ t ∧ t ≤ 1048576 then 4294967296 - pwN b t.toNat else 0) else 0
set_option maxRecDepth 100000 in
set_option maxHeartbeats 4000000 in
theorem powerW_any (b t : Int) (w : World) :
    Calls Try.prog 9 #[.int .i64 b, .int .i64 t] w fun e w' => e = .returned (.tuple #[.int .i64 (pwA b t), .int .i64 (pwE b t)]) ∧ Below w.heap.size w w' := by
  unfold pwA pwE
  have CW : Hid (∀ W' : World, Calls Try.prog 10 #[.int .i64 t, .int .i64 0, .int .i64 1048576] W' fun e w' => e = .returned (.bool (wiB t 0 1048576)) ∧ w' = W') := fun W' => within_any t 0 1048576 W'
  by_cases h1 : b < 0
  · have hb0 : ¬ (0 ≤ b ∧ b < 4294967296) := by omega
    rw [if_neg hb0, if_neg hb0]
    clear hb0
    go_enter Try.func9, Try.ntmps9
    go_wp2
    go_ret2
    exact ⟨rfl, Below.refl _ _⟩
  by_cases h2 : 4294967296 ≤ b
  · have hb0 : ¬ (0 ≤ b ∧ b < 4294967296) := by omega
    rw [if_neg hb0, if_neg hb0]
    clear hb0
    go_enter Try.func9, Try.ntmps9
    go_wp2
    go_ret2
    exact ⟨rfl, Below.refl _ _⟩
  have hb0 : 0 ≤ b ∧ b < 4294967296 := by omega
  rw [if_pos hb0, if_pos hb0]
  clear hb0
  by_cases h3 : 0 ≤ t ∧ t ≤ 1048576
  · rw [if_pos h3, if_pos h3]
    rw [wiB_yes h3] at CW
    have CP : Hid (∀ W' : World, Calls Try.prog 16 #[.int .i64 b, .int .i64 t] W' fun e w' => e = .returned (.int .i64 (pwN b t.toNat)) ∧ Below W'.heap.size W' w') := fun W' => by
      have h' := power_any b t.toNat W' (by omega) (by omega) (by omega)
      rw [show ((t.toNat : Nat) : Int) = t by omega] at h'
      exact h'
    generalize pwN b t.toNat = R at *
    clear h3
    go_enter Try.func9, Try.ntmps9
    go_wp2_with (first
      | (go_at_call 10; refine (CW.out _).mono ?_; rintro e wy ⟨rfl, hz⟩; subst hz)
      | (go_at_call 16; refine (CP.out _).mono ?_; rintro e wx ⟨rfl, hb⟩))
    go_ret2
    exact ⟨rfl, hb⟩
  · rw [if_neg h3, if_neg h3]
    rw [wiB_no h3] at CW
    clear h3
    go_enter Try.func9, Try.ntmps9
    go_wp2_with (go_at_call 10; refine (CW.out _).mono ?_; rintro e wy ⟨rfl, hz⟩; subst hz)
    go_ret2
    exact ⟨rfl, Below.refl _ _⟩
/-- A pace as a value. -/
def pcV (l m f g : Int) : Value := .agg #[.int .i64 l, .int .i64 m, .int .i64 f, .int .i64 g]
set_option maxRecDepth 100000 in
set_option maxHeartbeats 4000000 in
theorem checkPace_yes (l m f g : Int) (w : World) (h : PO l m f g) :
    Calls Try.prog 5 #[.agg #[.int .i64 l, .int .i64 m, .int .i64 f, .int .i64 g]] w fun e w' => e = .returned (.int .i64 0) ∧ Below w.heap.size w w' := by
  obtain ⟨p1, p2, p3, p4, p5, p6⟩ := h
  have CW : Hid (∀ W' : World, Calls Try.prog 10 #[.int .i64 f, .int .i64 l, .int .i64 m] W' fun e w' => e = .returned (.bool true) ∧ w' = W') := fun W' => by
    have h' := within_any f l m W'
    rw [wiB_yes ⟨p2, p3⟩] at h'
    exact h'
  have CX : Hid (∀ W' : World, Calls Try.prog 10 #[.int .i64 g, .int .i64 0, .int .i64 64] W' fun e w' => e = .returned (.bool true) ∧ w' = W') := fun W' => by
    have h' := within_any g 0 64 W'
    rw [wiB_yes ⟨p5, p6⟩] at h'
    exact h'
  obtain ⟨w1, hw1⟩ : ∃ w1, w1 = w.alloc (.cells #[.int .i64 l, .int .i64 m, .int .i64 f, .int .i64 g] 23) := ⟨_, rfl⟩
  have HB1 : Hid (Below w.heap.size w w1) := by rw [hw1]; exact bel1 _ _
  have HQ := Q4.new w (.int .i64 l) (.int .i64 m) (.int .i64 f) (.int .i64 g) 23
  rw [← hw1] at HQ
  have q1 : ¬ l < 1 := by omega
  have q2 : ¬ 64 < m := by omega
  clear p1 p2 p3 p4 p5 p6
  go_enter Try.func5, Try.ntmps5
  go_upto_region 1 with fail
  rw [← hw1]
  clear hw1
  have x0 := HQ.c0
  have x1 := HQ.c1
  have x2 := HQ.c2
  have x3 := HQ.c3
  go_wp2_with fail
  refine (CW.out _).mono ?_
  rintro e wz ⟨rfl, hz⟩
  subst hz
  go_wp2_with fail
  refine (CX.out _).mono ?_
  rintro e wz ⟨rfl, hz⟩
  subst hz
  go_wp2
  go_ret
  exact ⟨rfl, HB1.out⟩
set_option maxRecDepth 100000 in
set_option maxHeartbeats 4000000 in
theorem checkPace_no (l m f g : Int) (w : World) (h : ¬ PO l m f g) :
    Calls Try.prog 5 #[.agg #[.int .i64 l, .int .i64 m, .int .i64 f, .int .i64 g]] w fun e w' => e = .returned (.int .i64 80) ∧ Below w.heap.size w w' := by
  have CW : Hid (∀ W' : World, Calls Try.prog 10 #[.int .i64 f, .int .i64 l, .int .i64 m] W' fun e w' => e = .returned (.bool (wiB f l m)) ∧ w' = W') := fun W' => within_any f l m W'
  have CX : Hid (∀ W' : World, Calls Try.prog 10 #[.int .i64 g, .int .i64 0, .int .i64 64] W' fun e w' => e = .returned (.bool (wiB g 0 64)) ∧ w' = W') := fun W' => within_any g 0 64 W'
  obtain ⟨w1, hw1⟩ : ∃ w1, w1 = w.alloc (.cells #[.int .i64 l, .int .i64 m, .int .i64 f, .int .i64 g] 23) := ⟨_, rfl⟩
  have HB1 : Hid (Below w.heap.size w w1) := by rw [hw1]; exact bel1 _ _
  have HQ := Q4.new w (.int .i64 l) (.int .i64 m) (.int .i64 f) (.int .i64 g) 23
  rw [← hw1] at HQ
  have HN : Hid (¬ PO l m f g) := h
  clear h
  go_enter Try.func5, Try.ntmps5
  go_upto_region 1 with fail
  rw [← hw1]
  clear hw1
  have x0 := HQ.c0
  have x1 := HQ.c1
  have x2 := HQ.c2
  have x3 := HQ.c3
  by_cases q1 : l < 1
  · go_wp2
    go_ret
    exact ⟨rfl, HB1.out⟩
  by_cases q2 : l ≤ f ∧ f ≤ m
  · rw [wiB_yes q2] at CW
    by_cases q3 : 64 < m
    · clear q2 HN
      go_wp2_with (go_at_call 10; refine (CW.out _).mono ?_; rintro e wz ⟨rfl, hz⟩; subst hz)
      go_ret
      exact ⟨rfl, HB1.out⟩
    · have q4 : ¬ (0 ≤ g ∧ g ≤ 64) := fun hc => HN.out ⟨by omega, q2.1, q2.2, by omega, hc.1, hc.2⟩
      rw [wiB_no q4] at CX
      clear q4 q2 HN
      go_wp2_with fail
      refine (CW.out _).mono ?_
      rintro e wz ⟨rfl, hz⟩
      subst hz
      go_wp2_with fail
      refine (CX.out _).mono ?_
      rintro e wz ⟨rfl, hz⟩
      subst hz
      go_wp2
      go_ret
      exact ⟨rfl, HB1.out⟩
  · rw [wiB_no q2] at CW
    clear q2 HN CX
    go_wp2_with (go_at_call 10; refine (CW.out _).mono ?_; rintro e wz ⟨rfl, hz⟩; subst hz)
    go_ret
    exact ⟨rfl, HB1.out⟩
set_option maxRecDepth 100000 in
set_option maxHeartbeats 4000000 in
theorem next_any (l m f g x z : Int) (w : World) (h : PO l m f g) (x0 : l ≤ x) (x1 : x ≤ m) :
    Calls Try.prog 12 #[.agg #[.int .i64 l, .int .i64 m, .int .i64 f, .int .i64 g], .int .i64 x, .int .i64 z] w fun e w' => e = .returned (.int .i64 (nxV l m g x z)) ∧ Below w.heap.size w w' := by
  obtain ⟨p1, p2, p3, p4, p5, p6⟩ := h
  unfold nxV
  obtain ⟨w1, hw1⟩ : ∃ w1, w1 = w.alloc (.cells #[.int .i64 l, .int .i64 m, .int .i64 f, .int .i64 g] 23) := ⟨_, rfl⟩
  have HB1 : Hid (Below w.heap.size w w1) := by rw [hw1]; exact bel1 _ _
  have HQ := Q4.new w (.int .i64 l) (.int .i64 m) (.int .i64 f) (.int .i64 g) 23
  rw [← hw1] at HQ
  have y0 := HQ.c0
  have y1 := HQ.c1
  have y3 := HQ.c3
  have ww : IntKind.i64.wrap (x + g) = x + g := by rw [IntKind.wrap_i64]; omega
  by_cases hz : z = 0
  · subst hz
    rw [if_pos rfl]
    have hm : min (x + g) m = (if m < x + g then m else x + g) := by split <;> omega
    rw [← hm]
    clear hm
    go_enter Try.func12, Try.ntmps12
    go_upto_region 1 with fail
    rw [← hw1]
    clear hw1 HQ
    go_wp2
    go_ret
    exact ⟨rfl, HB1.out⟩
  · rw [if_neg hz]
    have hd : x.tdiv 2 = x / 2 := Int.tdiv_eq_ediv_of_nonneg (by omega)
    have wd : IntKind.i64.wrap (x / 2) = x / 2 := by rw [IntKind.wrap_i64]; omega
    have hm : max (x / 2) l = (if x / 2 < l then l else x / 2) := by split <;> omega
    rw [← hm]
    clear hm
    go_enter Try.func12, Try.ntmps12
    go_upto_region 1 with fail
    rw [← hw1]
    clear hw1 HQ
    go_wp2
    go_ret
    exact ⟨rfl, HB1.out⟩
end Go.Proofs.Ytbblcecfdlmfmab
