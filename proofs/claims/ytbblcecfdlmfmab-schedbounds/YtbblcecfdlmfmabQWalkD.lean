/-
  The contracts of sched: Next, Steps.
-/
import Derived.Test.YtbblcecfdlmfmabQWalkC
set_option linter.unusedVariables false
set_option linter.unusedSimpArgs false
namespace Go.Proofs.Ytbblcecfdlmfmab
open Go.RowKit

set_option maxRecDepth 100000 in
set_option maxHeartbeats 4000000 in
theorem nextW_rule (l m f g x z : Int) (w : World) (h : ¬ PO l m f g) :
    Calls Try.prog 7 #[.agg #[.int .i64 l, .int .i64 m, .int .i64 f, .int .i64 g], .int .i64 x, .int .i64 z] w fun e w' => e = .returned (.tuple #[.int .i64 0, .int .i64 80]) ∧ Below w.heap.size w w' := by
  have CC : Hid (∀ W' : World, Calls Try.prog 5 #[.agg #[.int .i64 l, .int .i64 m, .int .i64 f, .int .i64 g]] W' fun e w' => e = .returned (.int .i64 80) ∧ Below W'.heap.size W' w') := fun W' => checkPace_no l m f g W' h
  obtain ⟨w1, hw1⟩ : ∃ w1, w1 = w.alloc (.cells #[.int .i64 l, .int .i64 m, .int .i64 f, .int .i64 g] 23) := ⟨_, rfl⟩
  have HB1 : Hid (Below w.heap.size w w1) := by rw [hw1]; exact bel1 _ _
  have HQ := Q4.new w (.int .i64 l) (.int .i64 m) (.int .i64 f) (.int .i64 g) 23
  rw [← hw1] at HQ
  clear h
  go_enter Try.func7, Try.ntmps7
  go_upto_region 1 with fail
  rw [← hw1]
  clear hw1
  have y0 := HQ.c0
  have y1 := HQ.c1
  have y2 := HQ.c2
  have y3 := HQ.c3
  go_wp2_with (go_at_call 5; refine (CC.out _).mono ?_; rintro e wz ⟨rfl, hb⟩; have HB2 : Hid (Below w.heap.size w wz) := bchain HB1.out hb; clear hb HQ y0 y1 y2 y3)
  go_ret2
  exact ⟨rfl, HB2.out⟩
set_option maxRecDepth 100000 in
set_option maxHeartbeats 4000000 in
theorem nextW_arg (l m f g x z : Int) (w : World) (h : PO l m f g) (hx : ¬ (l ≤ x ∧ x ≤ m ∧ 0 ≤ z)) :
    Calls Try.prog 7 #[.agg #[.int .i64 l, .int .i64 m, .int .i64 f, .int .i64 g], .int .i64 x, .int .i64 z] w fun e w' => e = .returned (.tuple #[.int .i64 0, .int .i64 2]) ∧ Below w.heap.size w w' := by
  have CC : Hid (∀ W' : World, Calls Try.prog 5 #[.agg #[.int .i64 l, .int .i64 m, .int .i64 f, .int .i64 g]] W' fun e w' => e = .returned (.int .i64 0) ∧ Below W'.heap.size W' w') := fun W' => checkPace_yes l m f g W' h
  have CW : Hid (∀ W' : World, Calls Try.prog 10 #[.int .i64 x, .int .i64 l, .int .i64 m] W' fun e w' => e = .returned (.bool (wiB x l m)) ∧ w' = W') := fun W' => within_any x l m W'
  obtain ⟨w1, hw1⟩ : ∃ w1, w1 = w.alloc (.cells #[.int .i64 l, .int .i64 m, .int .i64 f, .int .i64 g] 23) := ⟨_, rfl⟩
  have HB1 : Hid (Below w.heap.size w w1) := by rw [hw1]; exact bel1 _ _
  have HQ := Q4.new w (.int .i64 l) (.int .i64 m) (.int .i64 f) (.int .i64 g) 23
  rw [← hw1] at HQ
  have HX : Hid (¬ (l ≤ x ∧ x ≤ m ∧ 0 ≤ z)) := hx
  clear h hx
  go_enter Try.func7, Try.ntmps7
  go_upto_region 1 with fail
  rw [← hw1]
  clear hw1
  have y0 := HQ.c0
  have y1 := HQ.c1
  have y2 := HQ.c2
  have y3 := HQ.c3
  go_wp2_with fail
  refine (CC.out _).mono ?_
  rintro e wz ⟨rfl, hb⟩
  have HB2 : Hid (Below w.heap.size w wz) := bchain HB1.out hb
  replace HQ := HQ.later hb
  replace y0 := HQ.c0
  replace y1 := HQ.c1
  replace y2 := HQ.c2
  replace y3 := HQ.c3
  clear hb CC HB1
  by_cases q : l ≤ x ∧ x ≤ m
  · rw [wiB_yes q] at CW
    have hz : z < 0 := by have := HX.out; omega
    clear q HX
    go_wp2_with (go_at_call 10; refine (CW.out _).mono ?_; rintro e wy ⟨rfl, hz⟩; subst hz)
    go_ret2
    exact ⟨rfl, HB2.out⟩
  · rw [wiB_no q] at CW
    clear q HX
    go_wp2_with (go_at_call 10; refine (CW.out _).mono ?_; rintro e wy ⟨rfl, hz⟩; subst hz)
    go_ret2
    exact ⟨rfl, HB2.out⟩
set_option maxRecDepth 100000 in
set_option maxHeartbeats 4000000 in
theorem nextW_ok (l m f g x z : Int) (w : World) (h : PO l m f g) (x0 : l ≤ x) (x1 : x ≤ m) (z0 : 0 ≤ z) :
    Calls Try.prog 7 #[.agg #[.int .i64 l, .int .i64 m, .int .i64 f, .int .i64 g], .int .i64 x, .int .i64 z] w fun e w' => e = .returned (.tuple #[.int .i64 (nxV l m g x z), .int .i64 0]) ∧ Below w.heap.size w w' := by
  have CC : Hid (∀ W' : World, Calls Try.prog 5 #[.agg #[.int .i64 l, .int .i64 m, .int .i64 f, .int .i64 g]] W' fun e w' => e = .returned (.int .i64 0) ∧ Below W'.heap.size W' w') := fun W' => checkPace_yes l m f g W' h
  have CW : Hid (∀ W' : World, Calls Try.prog 10 #[.int .i64 x, .int .i64 l, .int .i64 m] W' fun e w' => e = .returned (.bool true) ∧ w' = W') := fun W' => by
    have h' := within_any x l m W'
    rw [wiB_yes ⟨x0, x1⟩] at h'
    exact h'
  have CN : Hid (∀ W' : World, Calls Try.prog 12 #[.agg #[.int .i64 l, .int .i64 m, .int .i64 f, .int .i64 g], .int .i64 x, .int .i64 z] W' fun e w' => e = .returned (.int .i64 (nxV l m g x z)) ∧ Below W'.heap.size W' w') := fun W' => next_any l m f g x z W' h x0 x1
  generalize nxV l m g x z = R at *
  obtain ⟨w1, hw1⟩ : ∃ w1, w1 = w.alloc (.cells #[.int .i64 l, .int .i64 m, .int .i64 f, .int .i64 g] 23) := ⟨_, rfl⟩
  have HB1 : Hid (Below w.heap.size w w1) := by rw [hw1]; exact bel1 _ _
  have HQ := Q4.new w (.int .i64 l) (.int .i64 m) (.int .i64 f) (.int .i64 g) 23
  rw [← hw1] at HQ
  have hz : ¬ z < 0 := by omega
  clear h
  go_enter Try.func7, Try.ntmps7
  go_upto_region 1 with fail
  rw [← hw1]
  clear hw1
  have y0 := HQ.c0
  have y1 := HQ.c1
  have y2 := HQ.c2
  have y3 := HQ.c3
  go_wp2_with (first
    | (go_at_call 5; refine (CC.out _).mono ?_; rintro e wz ⟨rfl, hb⟩; have HB2 : Hid (Below w.heap.size w wz) := bchain HB1.out hb; replace HQ := HQ.later hb; replace y0 := HQ.c0; replace y1 := HQ.c1; replace y2 := HQ.c2; replace y3 := HQ.c3; clear hb)
    | (go_at_call 10; refine (CW.out _).mono ?_; rintro e wy ⟨rfl, hz⟩; subst hz)
    | (go_at_call 12; refine (CN.out _).mono ?_; rintro e wx ⟨rfl, hb⟩; have HB3 : Hid (Below w.heap.size w wx) := bchain HB2.out hb; clear hb HQ y0 y1 y2 y3))
  go_ret2
  exact ⟨rfl, HB3.out⟩
/-- Five cells of a struct. -/
structure Q5 (b : Nat) (x y z u v : Value) (w : World) : Prop where
  c0 : w.cell? ⟨b, 0, none⟩ = some x
  c1 : w.cell? ⟨b, 1, none⟩ = some y
  c2 : w.cell? ⟨b, 2, none⟩ = some z
  c3 : w.cell? ⟨b, 3, none⟩ = some u
  c4 : w.cell? ⟨b, 4, none⟩ = some v
theorem Q5.later {b : Nat} {x y z u v : Value} {w w' : World} (h : Q5 b x y z u v w) (hb : Below w.heap.size w w') : Q5 b x y z u v w' := ⟨cell_later hb h.c0, cell_later hb h.c1, cell_later hb h.c2, cell_later hb h.c3, cell_later hb h.c4⟩
theorem Q5.new (w : World) (x y z u v : Value) (t : TypeId) : Q5 w.heap.size x y z u v (w.alloc (.cells #[x, y, z, u, v] t)) := ⟨by simp [go_sem], by simp [go_sem], by simp [go_sem], by simp [go_sem], by simp [go_sem]⟩
theorem Q4.un {b d : Nat} {x y z u : Value} {n : Int} {w w' : World} (h : Q4 b x y z u w) (hU : Un d n w w') (hd : b ≠ d) : Q4 b x y z u w' := ⟨hU.o _ _ hd h.c0, hU.o _ _ hd h.c1, hU.o _ _ hd h.c2, hU.o _ _ hd h.c3⟩
set_option maxRecDepth 100000 in
set_option maxHeartbeats 4000000 in
theorem step1_bad (r hh mb sa : Int) (ad : Option Addr) (wh cp bp bh : Nat) (w : World) (hm : mb < (wh : Int)) :
    Calls Try.prog 11 #[.agg #[.int .i64 r, .int .i64 hh, .int .i64 mb, .slice ad wh cp, .int .i64 sa], .pointer (some ⟨bp, 0, none⟩), .pointer (some ⟨bh, 0, none⟩)] w fun e w' => e = .returned (.bool false) ∧ Below w.heap.size w w' := by
  obtain ⟨w1, hw1⟩ : ∃ w1, w1 = w.alloc (.cells #[.int .i64 r, .int .i64 hh, .int .i64 mb, .slice ad wh cp, .int .i64 sa] 32) := ⟨_, rfl⟩
  have HB1 : Hid (Below w.heap.size w w1) := by rw [hw1]; exact bel1 _ _
  have HQ := Q5.new w (.int .i64 r) (.int .i64 hh) (.int .i64 mb) (.slice ad wh cp) (.int .i64 sa) 32
  rw [← hw1] at HQ
  go_enter Try.func11, Try.ntmps11
  go_upto_region 1 with fail
  rw [← hw1]
  clear hw1
  have y2 := HQ.c2
  have y3 := HQ.c3
  go_wp2
  go_ret
  exact ⟨rfl, HB1.out⟩
set_option maxRecDepth 100000 in
set_option maxHeartbeats 4000000 in
theorem step1_go (r hh mb sa : Int) (ad : Option Addr) (wh cp bp bh : Nat) (l m f g x : Int) (w : World) (hm : (wh : Int) ≤ mb) (hm1 : mb ≤ 9223372036854775807) (h : PO l m f g) (x0 : l ≤ x) (x1 : x ≤ m) (hP : Q4 bp (.int .i64 l) (.int .i64 m) (.int .i64 f) (.int .i64 g) w) (hc : w.cell? ⟨bh, 0, none⟩ = some (.int .i64 x)) (hf : w.frozen? ⟨bh, 0, none⟩ = false) :
    Calls Try.prog 11 #[.agg #[.int .i64 r, .int .i64 hh, .int .i64 mb, .slice ad wh cp, .int .i64 sa], .pointer (some ⟨bp, 0, none⟩), .pointer (some ⟨bh, 0, none⟩)] w fun e w' => e = .returned (.bool true) ∧ Un bh (nxV l m g x (mb - (wh : Int))) w w' := by
  have CN : Hid (∀ W' : World, Calls Try.prog 12 #[.agg #[.int .i64 l, .int .i64 m, .int .i64 f, .int .i64 g], .int .i64 x, .int .i64 (mb - (wh : Int))] W' fun e w' => e = .returned (.int .i64 (nxV l m g x (mb - (wh : Int)))) ∧ Below W'.heap.size W' w') := fun W' => next_any l m f g x _ W' h x0 x1
  generalize nxV l m g x (mb - (wh : Int)) = R at *
  obtain ⟨w1, hw1⟩ : ∃ w1, w1 = w.alloc (.cells #[.int .i64 r, .int .i64 hh, .int .i64 mb, .slice ad wh cp, .int .i64 sa] 32) := ⟨_, rfl⟩
  have hb1 : Below w.heap.size w w1 := by rw [hw1]; exact bel1 _ _
  have HB1 : Hid (Below w.heap.size w w1) := hb1
  have HQ := Q5.new w (.int .i64 r) (.int .i64 hh) (.int .i64 mb) (.slice ad wh cp) (.int .i64 sa) 32
  rw [← hw1] at HQ
  have HP := hP.later hb1
  have z0 := cell_later hb1 hc
  have z1 := frozen_later hb1 hc hf
  have ww : IntKind.i64.wrap (mb - (wh : Int)) = mb - (wh : Int) := by rw [IntKind.wrap_i64]; omega
  have hmI : ¬ mb < (wh : Int) := by omega
  clear h hP hc hf hb1
  go_enter Try.func11, Try.ntmps11
  go_upto_region 1 with fail
  rw [← hw1]
  clear hw1
  have y2 := HQ.c2
  have y3 := HQ.c3
  have p0 := HP.c0
  have p1 := HP.c1
  have p2 := HP.c2
  have p3 := HP.c3
  go_wp2_with (go_at_call 12; refine (CN.out _).mono ?_; rintro e wx ⟨rfl, hb⟩; replace z1 := frozen_later hb z0 z1; replace z0 := cell_later hb z0; have HU : Hid (Un bh R w (wx.setCell ⟨bh, 0, none⟩ (.int .i64 R))) := Un.after (bchain HB1.out hb) (Un.set z0 z1); clear hb HQ HP y2 y3 p0 p1 p2 p3)
  go_ret
  exact ⟨rfl, HU.out⟩
/-- A list of entries in memory: how many members, and how many stand in Who. -/
def Ens (w : World) (v : Value) (n : Nat) (mb : Nat → Int) (wh : Nat → Nat) : Prop :=
  ∃ (adr : Option Addr) (cap b o : Nat), v = .slice adr n cap ∧ n ≤ cap ∧ cap ≤ maxLen ∧ (0 < n → adr = some ⟨b, o, none⟩) ∧ ∀ k, k < n → (∃ (r hh sa : Int) (ad : Option Addr) (cp : Nat), w.cell? ⟨b, o + k * 5, none⟩ = some (.int .i64 r) ∧ w.cell? ⟨b, o + k * 5 + 1, none⟩ = some (.int .i64 hh) ∧ w.cell? ⟨b, o + k * 5 + 2, none⟩ = some (.int .i64 (mb k)) ∧ w.cell? ⟨b, o + k * 5 + 3, none⟩ = some (.slice ad (wh k) cp) ∧ w.cell? ⟨b, o + k * 5 + 4, none⟩ = some (.int .i64 sa)) ∧ (-9223372036854775808 ≤ mb k ∧ mb k ≤ 9223372036854775807) ∧ wh k ≤ maxLen
theorem Ens.later {w w' : World} {v : Value} {n : Nat} {mb : Nat → Int} {wh : Nat → Nat} (h : Ens w v n mb wh) (hb : Below w.heap.size w w') : Ens w' v n mb wh := by
  obtain ⟨adr, cap, b, o, e, h1, h2, h3, h4⟩ := h
  exact ⟨adr, cap, b, o, e, h1, h2, h3, fun k hk => by obtain ⟨⟨r, hh, sa, ad, cp, a1, a2, a3, a4, a5⟩, a6⟩ := h4 k hk; exact ⟨⟨r, hh, sa, ad, cp, cell_later hb a1, cell_later hb a2, cell_later hb a3, cell_later hb a4, cell_later hb a5⟩, a6⟩⟩
/-- How many were missing. -/
def msV (mb : Nat → Int) (wh : Nat → Nat) (k : Nat) : Int := mb k - (wh k : Int)
/-- Entries that are right: nobody stands in Who beyond the members. -/
def EO (n : Nat) (mb : Nat → Int) (wh : Nat → Nat) : Prop := ∀ k, k < n → (wh k : Int) ≤ mb k
/-- What Steps answers. -/
def sgE (l m f g : Int) (n : Nat) (mb : Nat → Int) (wh : Nat → Nat) (X E : Int) : Prop :=
  (¬ PO l m f g → X = 0 ∧ E = 80) ∧ (PO l m f g → 256 < n → X = 0 ∧ E = 3) ∧ (PO l m f g → n ≤ 256 → ¬ EO n mb wh → X = 0 ∧ E = 2) ∧ (PO l m f g → n ≤ 256 → EO n mb wh → X = stV l m f g (msV mb wh) n ∧ E = 0)
set_option maxRecDepth 100000 in
set_option maxHeartbeats 8000000 in
theorem pSteps_any (l m f g : Int) (v : Value) (n : Nat) (mb : Nat → Int) (wh : Nat → Nat) (w : World) (hA : Ens w v n mb wh) :
    Calls Try.prog 6 #[.agg #[.int .i64 l, .int .i64 m, .int .i64 f, .int .i64 g], v] w fun e w' => ∃ X E : Int, e = .returned (.tuple #[.int .i64 X, .int .i64 E]) ∧ sgE l m f g n mb wh X E ∧ Below w.heap.size w w' := by
  obtain ⟨w1, hw1⟩ : ∃ w1, w1 = w.alloc (.cells #[.int .i64 l, .int .i64 m, .int .i64 f, .int .i64 g] 23) := ⟨_, rfl⟩
  have HB1 : Hid (Below w.heap.size w w1) := by rw [hw1]; exact bel1 _ _
  have HQ := Q4.new w (.int .i64 l) (.int .i64 m) (.int .i64 f) (.int .i64 g) 23
  rw [← hw1] at HQ
  obtain ⟨adr, cap, b, o, rfl, k1, k2, k3, k4⟩ := hA
  unfold maxLen at k2
  have HC : Hid (∀ k, k < n → (∃ (r hh sa : Int) (ad : Option Addr) (cp : Nat), w.cell? ⟨b, o + k * 5, none⟩ = some (.int .i64 r) ∧ w.cell? ⟨b, o + k * 5 + 1, none⟩ = some (.int .i64 hh) ∧ w.cell? ⟨b, o + k * 5 + 2, none⟩ = some (.int .i64 (mb k)) ∧ w.cell? ⟨b, o + k * 5 + 3, none⟩ = some (.slice ad (wh k) cp) ∧ w.cell? ⟨b, o + k * 5 + 4, none⟩ = some (.int .i64 sa)) ∧ (-9223372036854775808 ≤ mb k ∧ mb k ≤ 9223372036854775807) ∧ wh k ≤ maxLen) := k4
  have HK : Hid (0 < n → adr = some ⟨b, o, none⟩) := k3
  clear k3 k4
  by_cases hp : PO l m f g
  · have CC : Hid (∀ W' : World, Calls Try.prog 5 #[.agg #[.int .i64 l, .int .i64 m, .int .i64 f, .int .i64 g]] W' fun e w' => e = .returned (.int .i64 0) ∧ Below W'.heap.size W' w') := fun W' => checkPace_yes l m f g W' hp
    have HPO : Hid (PO l m f g) := hp
    clear hp
    go_enter Try.func6, Try.ntmps6
    go_upto_region 1 with fail
    rw [← hw1]
    clear hw1
    have y0 := HQ.c0
    have y1 := HQ.c1
    have y2 := HQ.c2
    have y3 := HQ.c3
    go_wp2_with fail
    refine (CC.out _).mono ?_
    rintro e w2 ⟨rfl, hb⟩
    have HB2 : Hid (Below w.heap.size w w2) := bchain HB1.out hb
    replace HQ := HQ.later hb
    replace y0 := HQ.c0
    replace y1 := HQ.c1
    replace y2 := HQ.c2
    replace y3 := HQ.c3
    clear hb CC HB1
    by_cases hn : 256 < n
    · have hnI : (256 : Int) < (n : Int) := by omega
      have HE : Hid (sgE l m f g n mb wh 0 3) := ⟨fun h => absurd HPO.out h, fun _ _ => ⟨rfl, rfl⟩, fun _ h => by omega, fun _ h => by omega⟩
      go_wp2
      go_ret2
      exact ⟨_, _, rfl, HE.out, HB2.out⟩
    · have hnI : ¬ (256 : Int) < (n : Int) := by omega
      obtain ⟨w3, hw3⟩ : ∃ w3, w3 = w2.alloc (.cells #[.int .i64 f] 3) := ⟨_, rfl⟩
      have HB3 : Hid (Below w.heap.size w w3) := by rw [hw3]; exact bchain HB2.out (bel1 _ _)
      have HQ3 : Hid (Q4 w.heap.size (.int .i64 l) (.int .i64 m) (.int .i64 f) (.int .i64 g) w3) := by rw [hw3]; exact HQ.later (bel1 _ _)
      have HH3 : Hid (w3.cell? ⟨w2.heap.size, 0, none⟩ = some (.int .i64 f) ∧ w3.frozen? ⟨w2.heap.size, 0, none⟩ = false) := by rw [hw3]; exact ⟨by simp [go_sem], by simp [go_sem]⟩
      have hbh : w.heap.size < w2.heap.size := World.block_lt_of_cell? _ _ y0
      have HV : Hid (∀ k, l ≤ stV l m f g (msV mb wh) k ∧ stV l m f g (msV mb wh) k ≤ m) := fun k => stV_in HPO.out _ k
      go_upto_region 8 with fail
      rw [← hw3]
      clear hw3
      obtain ⟨bh, hbhd⟩ : ∃ bh, w2.heap.size = bh := ⟨_, rfl⟩
      rw [hbhd] at HH3 hbh
      try simp only [hbhd]
      clear hbhd y0 y1 y2 y3 HQ HB2
      go_upto_region 9 with fail
      go_loopw [24] (fun si wr => ∃ (j : Nat) (x : Int), j ≤ n ∧ si = .int .i64 (j : Int) ∧ Hid (x = stV l m f g (msV mb wh) j) ∧ Hid (∀ k, k < j → (wh k : Int) ≤ mb k) ∧ Hid (wr.cell? ⟨bh, 0, none⟩ = some (.int .i64 x) ∧ wr.frozen? ⟨bh, 0, none⟩ = false) ∧ Hid (Q4 w.heap.size (.int .i64 l) (.int .i64 m) (.int .i64 f) (.int .i64 g) wr) ∧ Hid (Below w.heap.size w wr)) (fun si _ => n - (intOf si).toNat)
      case atStart => exact ⟨0, f, by omega, rfl, rfl, fun k hk => by omega, HH3, HQ3, HB3⟩
      case round =>
        obtain ⟨j, x, hj, rfl, HX, HO, HH, HQr, HW⟩ := hrel
        by_cases hlt : j < n
        · have hjI : (j : Int) < (n : Int) := by omega
          have ea := HK.out (by omega)
          subst ea
          obtain ⟨⟨r, hh, sa, ad, cp, a1, a2, a3, a4, a5⟩, ⟨mb0, mb1⟩, wh1⟩ := HC.out j hlt
          replace a1 := cell_later HW.out a1
          replace a2 := cell_later HW.out a2
          replace a3 := cell_later HW.out a3
          replace a4 := cell_later HW.out a4
          replace a5 := cell_later HW.out a5
          obtain ⟨we, hwe⟩ : ∃ we, we = wr.alloc (.cells #[.int .i64 r, .int .i64 hh, .int .i64 (mb j), .slice ad (wh j) cp, .int .i64 sa] 32) := ⟨_, rfl⟩
          have hbe : Below wr.heap.size wr we := by rw [hwe]; exact bel1 _ _
          have HE5 := Q5.new wr (.int .i64 r) (.int .i64 hh) (.int .i64 (mb j)) (.slice ad (wh j) cp) (.int .i64 sa) 32
          rw [← hwe] at HE5
          have HWe : Hid (Below w.heap.size w we) := bchain HW.out hbe
          have HQe : Hid (Q4 w.heap.size (.int .i64 l) (.int .i64 m) (.int .i64 f) (.int .i64 g) we) := HQr.out.later hbe
          have HHe : Hid (we.cell? ⟨bh, 0, none⟩ = some (.int .i64 x) ∧ we.frozen? ⟨bh, 0, none⟩ = false) := ⟨cell_later hbe HH.out.1, frozen_later hbe HH.out.1 HH.out.2⟩
          clear hbe
          have hx := HV.out j
          rw [← HX.out] at hx
          by_cases hmw : mb j < ((wh j : Nat) : Int)
          · have CB : Hid (Calls Try.prog 11 #[.agg #[.int .i64 r, .int .i64 hh, .int .i64 (mb j), .slice ad (wh j) cp, .int .i64 sa], .pointer (some ⟨w.heap.size, 0, none⟩), .pointer (some ⟨bh, 0, none⟩)] we fun e w' => e = .returned (.bool false) ∧ Below we.heap.size we w') := step1_bad r hh (mb j) sa ad (wh j) cp w.heap.size bh we hmw
            have HE : Hid (sgE l m f g n mb wh 0 2) := ⟨fun h => absurd HPO.out h, fun _ h => by omega, fun _ _ _ => ⟨rfl, rfl⟩, fun _ _ h => by have := h j hlt; omega⟩
            clear HX HO HH HQr HQe HHe hx hmw
            generalize mb j = mj at *
            generalize wh j = wj at *
            go_upto_region 11 with fail
            rw [← hwe]
            clear hwe
            have e0 := HE5.c0
            have e1 := HE5.c1
            have e2 := HE5.c2
            have e3 := HE5.c3
            have e4 := HE5.c4
            go_wp2_with (go_at_call 11; refine CB.out.mono ?_; rintro e wz ⟨rfl, hb⟩; have HB5 : Hid (Below w.heap.size w wz) := bchain HWe.out hb; clear hb HE5 e0 e1 e2 e3 e4)
            go_ret2
            exact ⟨_, _, rfl, HE.out, HB5.out⟩
          · have CG : Hid (Calls Try.prog 11 #[.agg #[.int .i64 r, .int .i64 hh, .int .i64 (mb j), .slice ad (wh j) cp, .int .i64 sa], .pointer (some ⟨w.heap.size, 0, none⟩), .pointer (some ⟨bh, 0, none⟩)] we fun e w' => e = .returned (.bool true) ∧ Un bh (nxV l m g x (mb j - ((wh j : Nat) : Int))) we w') := step1_go r hh (mb j) sa ad (wh j) cp w.heap.size bh l m f g x we (by omega) mb1 HPO.out hx.1 hx.2 HQe.out HHe.out.1 HHe.out.2
            have HX2 : Hid (nxV l m g x (mb j - ((wh j : Nat) : Int)) = stV l m f g (msV mb wh) (j + 1)) := by show nxV l m g x (mb j - ((wh j : Nat) : Int)) = nxV l m g (stV l m f g (msV mb wh) j) (msV mb wh j); rw [← HX.out]; rfl
            have HO2 : Hid (∀ k, k < j + 1 → (wh k : Int) ≤ mb k) := fun k hk => by
              rcases Nat.lt_or_ge k j with h | h
              · exact HO.out k h
              · obtain rfl : k = j := by omega
                omega
            clear HX HO HH HQr HHe hx hmw
            generalize nxV l m g x (mb j - ((wh j : Nat) : Int)) = R at *
            generalize mb j = mj at *
            generalize wh j = wj at *
            go_upto_region 11 with fail
            rw [← hwe]
            clear hwe
            have e0 := HE5.c0
            have e1 := HE5.c1
            have e2 := HE5.c2
            have e3 := HE5.c3
            have e4 := HE5.c4
            go_wp2_with (go_at_call 11; refine CG.out.mono ?_; rintro e wz ⟨rfl, hU⟩; have HB5 : Hid (Below w.heap.size w wz) := hU.b _ _ (by omega) HWe.out.size HWe.out; have HQ5 : Hid (Q4 w.heap.size (.int .i64 l) (.int .i64 m) (.int .i64 f) (.int .i64 g) wz) := HQe.out.un hU (by omega); have HH5 : Hid (wz.cell? ⟨bh, 0, none⟩ = some (.int .i64 R) ∧ wz.frozen? ⟨bh, 0, none⟩ = false) := ⟨hU.c, hU.f⟩; clear hU HE5 e0 e1 e2 e3 e4)
            go_roundw
            case rel => exact ⟨j + 1, R, by omega, by go_num, HX2, HO2, HH5, HQ5, HB5⟩
            case measure => simp [intOf]; omega
        · obtain rfl : j = n := by omega
          have hjI : ¬ (j : Int) < (j : Int) := by omega
          have c0 := HH.out.1
          have HE : Hid (sgE l m f g j mb wh x 0) := ⟨fun h => absurd HPO.out h, fun _ h => by omega, fun _ _ h => absurd HO.out h, fun _ _ _ => ⟨HX.out, rfl⟩⟩
          clear HX HO HH HQr
          go_wp2
          go_ret2
          exact ⟨_, _, rfl, HE.out, HW.out⟩
  · have CC : Hid (∀ W' : World, Calls Try.prog 5 #[.agg #[.int .i64 l, .int .i64 m, .int .i64 f, .int .i64 g]] W' fun e w' => e = .returned (.int .i64 80) ∧ Below W'.heap.size W' w') := fun W' => checkPace_no l m f g W' hp
    have HE : Hid (sgE l m f g n mb wh 0 80) := ⟨fun _ => ⟨rfl, rfl⟩, fun h => absurd h hp, fun h => absurd h hp, fun h => absurd h hp⟩
    clear hp HC HK
    go_enter Try.func6, Try.ntmps6
    go_upto_region 1 with fail
    rw [← hw1]
    clear hw1
    have y0 := HQ.c0
    have y1 := HQ.c1
    have y2 := HQ.c2
    have y3 := HQ.c3
    go_wp2_with (go_at_call 5; refine (CC.out _).mono ?_; rintro e wz ⟨rfl, hb⟩; have HB2 : Hid (Below w.heap.size w wz) := bchain HB1.out hb; clear hb HQ y0 y1 y2 y3)
    go_ret2
    exact ⟨_, _, rfl, HE.out, HB2.out⟩
end Go.Proofs.Ytbblcecfdlmfmab
