/-
  The contracts of sched: Rate, Power, Bias; paces.
-/
import Derived.Test.YtcdehbhdloaieaaGreatDoorQWalkB
import Derived.Test.YtcdehbhdloaieaaGreatDoorBH
set_option linter.unusedVariables false
set_option linter.unusedSimpArgs false
namespace Go.Proofs.YtcdehbhdloaieaaGreatDoor
open Go.RowKit

set_option maxRecDepth 100000 in
set_option maxHeartbeats 4000000 in
theorem rate_rule (B W : Int) (v : Value) (n : Nat) (at' fa : Nat → Int) (t : Int) (w : World) (hA : Drp w v n at' fa) (h : ¬ RO B W n at' fa) :
    Calls Tryz.prog 37 #[.agg #[.int .i64 B, .int .i64 W, v], .int .i64 t] w fun e w' => e = .returned (.tuple #[.int .i64 0, .int .i64 80]) ∧ Below w.heap.size w w' := by
  have CC : Hid (∀ W' : World, Below w.heap.size w W' → Calls Tryz.prog 59 #[.agg #[.int .i64 B, .int .i64 W, v]] W' fun e w' => e = .returned (.int .i64 80) ∧ Below W'.heap.size W' w') := fun W' hb => checkRates_no B W v n at' fa W' (hA.later hb) h
  obtain ⟨adr, cap, b, o, rfl, k1, k2, -, -⟩ := hA
  clear h
  obtain ⟨w1, hw1⟩ : ∃ w1, w1 = w.alloc (.cells #[.int .i64 B, .int .i64 W, .slice adr n cap] 25) := ⟨_, rfl⟩
  have HB1 : Hid (Below w.heap.size w w1) := by rw [hw1]; exact bel1 _ _
  have HQ := Q3.new w (.int .i64 B) (.int .i64 W) (.slice adr n cap) 25
  rw [← hw1] at HQ
  go_enter Tryz.func37, Tryz.ntmps37
  go_upto_region 1 with fail
  rw [← hw1]
  clear hw1
  have x0 := HQ.c0
  have x1 := HQ.c1
  have x2 := HQ.c2
  go_wp2_with (go_at_call 59; refine (CC.out _ HB1.out).mono ?_; rintro e wz ⟨rfl, hb⟩; have HB2 : Hid (Below w.heap.size w wz) := bchain HB1.out hb; clear hb HQ x0 x1 x2)
  go_ret2
  exact ⟨rfl, HB2.out⟩
set_option maxRecDepth 100000 in
set_option maxHeartbeats 4000000 in
theorem rate_arg (B W : Int) (v : Value) (n : Nat) (at' fa : Nat → Int) (t : Int) (w : World) (hA : Drp w v n at' fa) (h : RO B W n at' fa) (ht : ¬ (1 ≤ t ∧ t ≤ 1048576)) :
    Calls Tryz.prog 37 #[.agg #[.int .i64 B, .int .i64 W, v], .int .i64 t] w fun e w' => e = .returned (.tuple #[.int .i64 0, .int .i64 2]) ∧ Below w.heap.size w w' := by
  have CC : Hid (∀ W' : World, Below w.heap.size w W' → Calls Tryz.prog 59 #[.agg #[.int .i64 B, .int .i64 W, v]] W' fun e w' => e = .returned (.int .i64 0) ∧ Below W'.heap.size W' w') := fun W' hb => checkRates_yes B W v n at' fa W' (hA.later hb) h
  have CW : Hid (∀ W' : World, Calls Tryz.prog 61 #[.int .i64 t, .int .i64 1, .int .i64 1048576] W' fun e w' => e = .returned (.bool false) ∧ w' = W') := fun W' => by
    have h' := within_any t 1 1048576 W'
    rw [wiB_no ht] at h'
    exact h'
  obtain ⟨adr, cap, b, o, rfl, k1, k2, -, -⟩ := hA
  clear h ht
  obtain ⟨w1, hw1⟩ : ∃ w1, w1 = w.alloc (.cells #[.int .i64 B, .int .i64 W, .slice adr n cap] 25) := ⟨_, rfl⟩
  have HB1 : Hid (Below w.heap.size w w1) := by rw [hw1]; exact bel1 _ _
  have HQ := Q3.new w (.int .i64 B) (.int .i64 W) (.slice adr n cap) 25
  rw [← hw1] at HQ
  go_enter Tryz.func37, Tryz.ntmps37
  go_upto_region 1 with fail
  rw [← hw1]
  clear hw1
  have x0 := HQ.c0
  have x1 := HQ.c1
  have x2 := HQ.c2
  go_wp2_with (first
    | (go_at_call 59; refine (CC.out _ HB1.out).mono ?_; rintro e wz ⟨rfl, hb⟩; have HB2 : Hid (Below w.heap.size w wz) := bchain HB1.out hb; clear hb HQ x0 x1 x2)
    | (go_at_call 61; refine (CW.out _).mono ?_; rintro e wy ⟨rfl, hz⟩; subst hz))
  go_ret2
  exact ⟨rfl, HB2.out⟩
set_option maxRecDepth 100000 in
set_option maxHeartbeats 4000000 in
theorem rate_ok (B W : Int) (v : Value) (n : Nat) (at' fa : Nat → Int) (t : Int) (w : World) (hA : Drp w v n at' fa) (h : RO B W n at' fa) (B1 : B ≤ 9223372036854775807) (t0 : 1 ≤ t) (t1 : t ≤ 1048576) :
    Calls Tryz.prog 37 #[.agg #[.int .i64 B, .int .i64 W, v], .int .i64 t] w fun e w' => e = .returned (.tuple #[.int .i64 (rtV B W n at' fa t), .int .i64 0]) ∧ Below w.heap.size w w' := by
  have CC : Hid (∀ W' : World, Below w.heap.size w W' → Calls Tryz.prog 59 #[.agg #[.int .i64 B, .int .i64 W, v]] W' fun e w' => e = .returned (.int .i64 0) ∧ Below W'.heap.size W' w') := fun W' hb => checkRates_yes B W v n at' fa W' (hA.later hb) h
  have CW : Hid (∀ W' : World, Calls Tryz.prog 61 #[.int .i64 t, .int .i64 1, .int .i64 1048576] W' fun e w' => e = .returned (.bool true) ∧ w' = W') := fun W' => by
    have h' := within_any t 1 1048576 W'
    rw [wiB_yes ⟨t0, t1⟩] at h'
    exact h'
  have hin := bsV_in B W t h.1 t0
  have CD : Hid (∀ W' : World, Below w.heap.size w W' → Calls Tryz.prog 63 #[.int .i64 (bsV B W t), v, .int .i64 t] W' fun e w' => e = .returned (.int .i64 (rtV B W n at' fa t)) ∧ Below W'.heap.size W' w') := fun W' hb => dropped_any (bsV B W t) v n at' fa t W' (hA.later hb) h.2.2.2 hin.1 (by omega)
  obtain ⟨adr, cap, b, o, rfl, k1, k2, -, -⟩ := hA
  obtain ⟨w1, hw1⟩ : ∃ w1, w1 = w.alloc (.cells #[.int .i64 B, .int .i64 W, .slice adr n cap] 25) := ⟨_, rfl⟩
  have HB1 : Hid (Below w.heap.size w w1) := by rw [hw1]; exact bel1 _ _
  have HQ := Q3.new w (.int .i64 B) (.int .i64 W) (.slice adr n cap) 25
  rw [← hw1] at HQ
  by_cases htW : t ≤ W
  · have CM : Hid (∀ W' : World, Calls Tryz.prog 62 #[.agg #[.int .i64 B, .int .i64 W, .slice adr n cap], .int .i64 t] W' fun e w' => e = .returned (.int .i64 (bsV B W t)) ∧ Below W'.heap.size W' w') := fun W' => by
      have h' := warm_any B W (.slice adr n cap) t W' adr n cap rfl h.1 B1 t0 htW h.2.2.1
      rw [show wmV B W t = bsV B W t from (if_pos htW).symm] at h'
      exact h'
    generalize rtV B W n at' fa t = R at *
    generalize bsV B W t = X at *
    clear h hin
    go_enter Tryz.func37, Tryz.ntmps37
    go_upto_region 1 with fail
    rw [← hw1]
    clear hw1
    have x0 := HQ.c0
    have x1 := HQ.c1
    have x2 := HQ.c2
    go_wp2_with (first
      | (go_at_call 59; refine (CC.out _ HB1.out).mono ?_; rintro e wz ⟨rfl, hb⟩; have HB2 : Hid (Below w.heap.size w wz) := bchain HB1.out hb; replace HQ := HQ.later hb; replace x0 := HQ.c0; replace x1 := HQ.c1; replace x2 := HQ.c2; clear hb)
      | (go_at_call 61; refine (CW.out _).mono ?_; rintro e wy ⟨rfl, hz⟩; subst hz)
      | (go_at_call 62; refine (CM.out _).mono ?_; rintro e wx ⟨rfl, hb⟩; have HB3 : Hid (Below w.heap.size w wx) := bchain HB2.out hb; replace HQ := HQ.later hb; replace x0 := HQ.c0; replace x1 := HQ.c1; replace x2 := HQ.c2; clear hb)
      | (go_at_call 63; refine (CD.out _ HB3.out).mono ?_; rintro e wu ⟨rfl, hb⟩; have HB4 : Hid (Below w.heap.size w wu) := bchain HB3.out hb; clear hb HQ x0 x1 x2))
    go_ret2
    exact ⟨rfl, HB4.out⟩
  · have e0 : bsV B W t = B := if_neg htW
    rw [e0] at CD
    generalize rtV B W n at' fa t = R at *
    clear h hin e0
    go_enter Tryz.func37, Tryz.ntmps37
    go_upto_region 1 with fail
    rw [← hw1]
    clear hw1
    have x0 := HQ.c0
    have x1 := HQ.c1
    have x2 := HQ.c2
    go_wp2_with (first
      | (go_at_call 59; refine (CC.out _ HB1.out).mono ?_; rintro e wz ⟨rfl, hb⟩; have HB2 : Hid (Below w.heap.size w wz) := bchain HB1.out hb; replace HQ := HQ.later hb; replace x0 := HQ.c0; replace x1 := HQ.c1; replace x2 := HQ.c2; clear hb)
      | (go_at_call 61; refine (CW.out _).mono ?_; rintro e wy ⟨rfl, hz⟩; subst hz)
      | (go_at_call 63; refine (CD.out _ HB2.out).mono ?_; rintro e wu ⟨rfl, hb⟩; have HB4 : Hid (Below w.heap.size w wu) := bchain HB2.out hb; clear hb HQ x0 x1 x2))
    go_ret2
    exact ⟨rfl, HB4.out⟩
/-- What Power answers: the power and the error. -/
def pwA (b t : Int) : Int := if 0 ≤ b ∧ b < 4294967296 then (if 0 ≤ t ∧ t ≤ 1048576 then pwN b t.toNat else 0) else 0
def pwE (b t : Int) : Int := if 0 ≤ b ∧ b < 4294967296 then (if 0 ≤ t ∧ t ≤ 1048576 then 0 else 2) else 80
def bsA (b t : Int) : Int := if 0 ≤ b ∧ b < 4294967296 then (if 0 ≤ t ∧ t ≤ 1048576 then 4294967296 - pwN b t.toNat else 0) else 0
set_option maxRecDepth 100000 in
set_option maxHeartbeats 4000000 in
theorem powerW_any (b t : Int) (w : World) :
    Calls Tryz.prog 64 #[.int .i64 b, .int .i64 t] w fun e w' => e = .returned (.tuple #[.int .i64 (pwA b t), .int .i64 (pwE b t)]) ∧ Below w.heap.size w w' := by
  unfold pwA pwE
  have CW : Hid (∀ W' : World, Calls Tryz.prog 61 #[.int .i64 t, .int .i64 0, .int .i64 1048576] W' fun e w' => e = .returned (.bool (wiB t 0 1048576)) ∧ w' = W') := fun W' => within_any t 0 1048576 W'
  by_cases h1 : b < 0
  · have hb0 : ¬ (0 ≤ b ∧ b < 4294967296) := by omega
    rw [if_neg hb0, if_neg hb0]
    clear hb0
    go_enter Tryz.func64, Tryz.ntmps64
    go_wp2
    go_ret2
    exact ⟨rfl, Below.refl _ _⟩
  by_cases h2 : 4294967296 ≤ b
  · have hb0 : ¬ (0 ≤ b ∧ b < 4294967296) := by omega
    rw [if_neg hb0, if_neg hb0]
    clear hb0
    go_enter Tryz.func64, Tryz.ntmps64
    go_wp2
    go_ret2
    exact ⟨rfl, Below.refl _ _⟩
  have hb0 : 0 ≤ b ∧ b < 4294967296 := by omega
  rw [if_pos hb0, if_pos hb0]
  clear hb0
  by_cases h3 : 0 ≤ t ∧ t ≤ 1048576
  · rw [if_pos h3, if_pos h3]
    rw [wiB_yes h3] at CW
    have CP : Hid (∀ W' : World, Calls Tryz.prog 93 #[.int .i64 b, .int .i64 t] W' fun e w' => e = .returned (.int .i64 (pwN b t.toNat)) ∧ Below W'.heap.size W' w') := fun W' => by
      have h' := power_any b t.toNat W' (by omega) (by omega) (by omega)
      rw [show ((t.toNat : Nat) : Int) = t by omega] at h'
      exact h'
    generalize pwN b t.toNat = R at *
    clear h3
    go_enter Tryz.func64, Tryz.ntmps64
    go_wp2_with (first
      | (go_at_call 61; refine (CW.out _).mono ?_; rintro e wy ⟨rfl, hz⟩; subst hz)
      | (go_at_call 93; refine (CP.out _).mono ?_; rintro e wx ⟨rfl, hb⟩))
    go_ret2
    exact ⟨rfl, hb⟩
  · rw [if_neg h3, if_neg h3]
    rw [wiB_no h3] at CW
    clear h3
    go_enter Tryz.func64, Tryz.ntmps64
    go_wp2_with (go_at_call 61; refine (CW.out _).mono ?_; rintro e wy ⟨rfl, hz⟩; subst hz)
    go_ret2
    exact ⟨rfl, Below.refl _ _⟩
set_option maxRecDepth 100000 in
set_option maxHeartbeats 4000000 in
theorem bias_any (b t : Int) (w : World) :
    Calls Tryz.prog 38 #[.int .i64 b, .int .i64 t] w fun e w' => e = .returned (.tuple #[.int .i64 (bsA b t), .int .i64 (pwE b t)]) ∧ Below w.heap.size w w' := by
  have CP : Hid (∀ W' : World, Calls Tryz.prog 64 #[.int .i64 b, .int .i64 t] W' fun e w' => e = .returned (.tuple #[.int .i64 (pwA b t), .int .i64 (pwE b t)]) ∧ Below W'.heap.size W' w') := fun W' => powerW_any b t W'
  unfold pwA pwE at CP
  unfold bsA pwE
  by_cases h1 : 0 ≤ b ∧ b < 4294967296
  · rw [if_pos h1, if_pos h1] at CP
    rw [if_pos h1, if_pos h1]
    by_cases h3 : 0 ≤ t ∧ t ≤ 1048576
    · rw [if_pos h3, if_pos h3] at CP
      rw [if_pos h3, if_pos h3]
      have hin := pwN_in b h1.1 h1.2 t.toNat
      generalize pwN b t.toNat = R at *
      have hw : IntKind.i64.wrap (4294967296 - R) = 4294967296 - R := by rw [IntKind.wrap_i64]; omega
      clear h1 h3
      go_enter Tryz.func38, Tryz.ntmps38
      go_wp2_with (go_at_call 64; refine (CP.out _).mono ?_; rintro e wx ⟨rfl, hb⟩)
      go_ret2
      exact ⟨rfl, hb⟩
    · rw [if_neg h3, if_neg h3] at CP
      rw [if_neg h3, if_neg h3]
      clear h1 h3
      go_enter Tryz.func38, Tryz.ntmps38
      go_wp2_with (go_at_call 64; refine (CP.out _).mono ?_; rintro e wx ⟨rfl, hb⟩)
      go_ret2
      exact ⟨rfl, hb⟩
  · rw [if_neg h1, if_neg h1] at CP
    rw [if_neg h1, if_neg h1]
    clear h1
    go_enter Tryz.func38, Tryz.ntmps38
    go_wp2_with (go_at_call 64; refine (CP.out _).mono ?_; rintro e wx ⟨rfl, hb⟩)
    go_ret2
    exact ⟨rfl, hb⟩
/-- A pace as a value. -/
def pcV (l m f g : Int) : Value := .agg #[.int .i64 l, .int .i64 m, .int .i64 f, .int .i64 g]
end Go.Proofs.YtcdehbhdloaieaaGreatDoor
