/-
  Texts of this proof, joined: BH BG BI VFrame VDoor LFrame EMathA LMath.
-/
import Derived.Test.YtdfjnbkkdgolnaaGreatDoorProg
import Derived.Test.YtdfjnbkkdgolnaaGreatDoorSI00
import Derived.Test.YtdfjnbkkdgolnaaGreatDoorSI01
import Derived.Test.YtdfjnbkkdgolnaaGreatDoorSI02
import Derived.Test.YtdfjnbkkdgolnaaGreatDoorSI03
import Derived.Test.YtdfjnbkkdgolnaaGreatDoorSI04
import Derived.Test.YtdfjnbkkdgolnaaGreatDoorTie
import Derived.WalkLawsBesides
import Derived.OwnWalk
import Derived.Deep.RegionHeld3
import Derived.Deep.SlicePairs
import Derived.Carry
import Derived.Lib.LaidTab
import Derived.LaidMore
import Derived.Stop.Joined
import Derived.ChangeSame
set_option linter.unusedVariables false
set_option linter.unusedSimpArgs false
namespace Go.Proofs.YtdfjnbkkdgolnaaGreatDoor
open Go.RowKit

/-- What a number by 0 comes to. -/
def zv (v : Int) : Int := if 0 < v then 9223372036854775807 else if v < 0 then -9223372036854775808 else 0
/-- A quotient, held, or by 0. -/
def qv (v d : Int) : Int := if d = 0 then zv v else clv (quo v d)
def qo (v d : Int) : Bool := if d = 0 then true else ovv (quo v d)
theorem zv_pos (v : Int) (k : Nat) : zv (v * 2 ^ k) = zv v := by
  have hp := pow_pos' k
  unfold zv
  rcases (show 0 < v ∨ v = 0 ∨ v < 0 by omega) with h | h | h
  · have := Int.mul_pos h (show (0 : Int) < 2 ^ k by omega)
    rw [if_pos this, if_pos h]
  · subst h; rw [Int.zero_mul]
  · have := Int.mul_neg_of_neg_of_pos h (show (0 : Int) < 2 ^ k by omega)
    rw [if_neg (by omega), if_pos this, if_neg (by omega), if_pos h]

theorem clv_fit (v : Int) : -9223372036854775808 ≤ clv v ∧ clv v ≤ 9223372036854775807 := by
  unfold clv
  split
  · omega
  · split <;> omega
set_option maxHeartbeats 1000000 in
theorem steps_any (a : Int) (a0 : -9223372036854775808 ≤ a) (a1 : a ≤ 9223372036854775807) (w : World) :
    Calls Tryz.prog 196 #[.int .i64 a] w fun e w' => e = .returned (.agg #[.int .i64 (hi a), .int .u64 (lo a)]) ∧ Below w.heap.size w w' := by
  go_enter Tryz.func196, Tryz.ntmps196
  go_wp2_with fail
  refine (of_any a a0 a1 _).mono ?_
  rintro e w1 ⟨rfl, hb⟩
  obtain ⟨hc, hf⟩ := bcell hb
  have hz := hb.size
  simp at hc hf hz
  go_wp2_with fail
  exact bodyPost_ret (v := .agg #[.int .i64 (hi a), .int .u64 (lo a)]) (by simp [results, Tryz.results196, go_sem, hc]) rfl ⟨rfl, ((((bel1 w _).trans (hb.mono (by simp))).setCell (by simp) _).setCell (by simp) _)⟩
set_option maxHeartbeats 1000000 in
theorem hold_any (v : Int) (h0 : -170141183460469231731687303715884105728 ≤ v) (h1 : v ≤ 170141183460469231731687303715884105727) (w : World) :
    Calls Tryz.prog 119 #[.agg #[.int .i64 (hi v), .int .u64 (lo v)]] w fun e w' => e = .returned (.tuple #[.int .i64 (clv v), .bool (ovv v)]) ∧ Below w.heap.size w w' := by
  obtain ⟨c0, c1⟩ := clv_fit v
  go_enter Tryz.func119, Tryz.ntmps119
  go_wp2_with fail
  refine (clamp_any v h0 h1 _).mono ?_
  rintro e w1 ⟨rfl, hb⟩
  have W1 := bchain (bel1 w _) hb
  clear hb
  go_wp2
  go_ret2
  exact ⟨rfl, W1⟩
set_option maxHeartbeats 1000000 in
theorem fsub_any (a b : Int) (a0 : -9223372036854775808 ≤ a) (a1 : a ≤ 9223372036854775807) (b0 : -9223372036854775808 ≤ b) (b1 : b ≤ 9223372036854775807) (w : World) :
    Calls Tryz.prog 195 #[.int .i64 a, .int .i64 b] w fun e w' => e = .returned (.tuple #[.int .i64 (clv (a - b)), .bool (ovv (a - b))]) ∧ Below w.heap.size w w' := by
  go_enter Tryz.func195, Tryz.ntmps195
  go_wp2_with fail
  refine (steps_any a a0 a1 _).mono ?_
  rintro e w1 ⟨rfl, W1⟩
  go_wp2_with fail
  refine (steps_any b b0 b1 _).mono ?_
  rintro e w2 ⟨rfl, hb⟩
  have W2 := bchain W1 hb
  clear hb W1
  go_wp2_with fail
  refine (sub_any a b _).mono ?_
  rintro e w3 ⟨rfl, hb⟩
  have W3 := bchain W2 hb
  clear hb W2
  go_wp2_with fail
  refine (hold_any (a - b) (by omega) (by omega) _).mono ?_
  rintro e w4 ⟨rfl, hb⟩
  have W4 := bchain W3 hb
  clear hb W3
  go_wp2
  go_ret2
  exact ⟨rfl, W4⟩
set_option maxHeartbeats 1000000 in
theorem fneg_any (a : Int) (a0 : -9223372036854775808 ≤ a) (a1 : a ≤ 9223372036854775807) (w : World) :
    Calls Tryz.prog 201 #[.int .i64 a] w fun e w' => e = .returned (.tuple #[.int .i64 (clv (-a)), .bool (ovv (-a))]) ∧ Below w.heap.size w w' := by
  go_enter Tryz.func201, Tryz.ntmps201
  go_wp2_with fail
  have h := fsub_any 0 a (by omega) (by omega) a0 a1 w
  rw [Int.zero_sub] at h
  refine h.mono ?_
  clear h
  rintro e w1 ⟨rfl, W1⟩
  go_wp2
  go_ret2
  exact ⟨rfl, W1⟩
theorem mul_in (a b : Int) (a0 : -9223372036854775808 ≤ a) (a1 : a ≤ 9223372036854775807) (b0 : -9223372036854775808 ≤ b) (b1 : b ≤ 9223372036854775807) : -85070591730234615865843651857942052864 ≤ a * b ∧ a * b ≤ 85070591730234615865843651857942052864 := by
  by_cases ha : a < 0
  · have h1 := Int.mul_le_mul_of_nonneg_left b0 (show 0 ≤ -a by omega)
    have h2 := Int.mul_le_mul_of_nonneg_left b1 (show 0 ≤ -a by omega)
    rw [Int.neg_mul a b] at h1 h2
    omega
  · have h1 := Int.mul_le_mul_of_nonneg_left b0 (show 0 ≤ a by omega)
    have h2 := Int.mul_le_mul_of_nonneg_left b1 (show 0 ≤ a by omega)
    omega
theorem rnd_in (v : Int) (k : Nat) (B : Int) (B0 : 1 ≤ B) (v0 : -B ≤ v) (v1 : v ≤ B) : -B - 1 ≤ rnd v k ∧ rnd v k ≤ B + 1 := by
  have hp := pow_pos' k
  have h1 : -B ≤ v / 2 ^ k := by
    rw [Int.le_ediv_iff_mul_le (by omega)]
    have := Int.mul_le_mul_of_nonneg_left (show (1 : Int) ≤ 2 ^ k by omega) (show 0 ≤ B by omega)
    rw [Int.neg_mul]; omega
  have h2 : v / 2 ^ k ≤ B := by
    by_cases h : 0 ≤ v
    · have := Int.ediv_le_self (2 ^ k) h; omega
    · have := Int.ediv_neg_of_neg_of_pos (show v < 0 by omega) (show (0 : Int) < 2 ^ k by omega); omega
  unfold rnd
  split <;> omega
set_option maxHeartbeats 1000000 in
theorem fmul_any (a b : Int) (a0 : -9223372036854775808 ≤ a) (a1 : a ≤ 9223372036854775807) (b0 : -9223372036854775808 ≤ b) (b1 : b ≤ 9223372036854775807) (w : World) :
    Calls Tryz.prog 162 #[.int .i64 a, .int .i64 b] w fun e w' => e = .returned (.tuple #[.int .i64 (clv (rnd (a * b) 32)), .bool (ovv (rnd (a * b) 32))]) ∧ Below w.heap.size w w' := by
  obtain ⟨m0, m1⟩ := mul_in a b a0 a1 b0 b1
  obtain ⟨r0, r1⟩ := rnd_in (a * b) 32 85070591730234615865843651857942052864 (by omega) m0 m1
  have MU : Hid (∀ W : World, Calls Tryz.prog 95 #[.int .i64 a, .int .i64 b] W fun e w' => e = .returned (.agg #[.int .i64 (hi (a * b)), .int .u64 (lo (a * b))]) ∧ Below W.heap.size W w') := fun W => mul_any a b a0 a1 b0 b1 W
  generalize a * b = p at *
  go_enter Tryz.func162, Tryz.ntmps162
  go_wp2_with fail
  refine (MU.out _).mono ?_
  rintro e w1 ⟨rfl, W1⟩
  clear MU
  go_wp2_with fail
  refine (round_mid p 32 (by omega) (by omega) (by omega) (by omega) _).mono ?_
  rintro e w2 ⟨rfl, hb⟩
  have W2 := bchain W1 hb
  clear hb W1
  go_wp2_with fail
  refine (hold_any (rnd p 32) (by omega) (by omega) _).mono ?_
  rintro e w3 ⟨rfl, hb⟩
  have W3 := bchain W2 hb
  clear hb W2
  go_wp2
  go_ret2
  exact ⟨rfl, W3⟩
end Go.Proofs.YtdfjnbkkdgolnaaGreatDoor
set_option linter.unusedVariables false
set_option linter.unusedSimpArgs false
namespace Go.Proofs.YtdfjnbkkdgolnaaGreatDoor
open Go.RowKit

set_option maxHeartbeats 1000000 in
theorem whole_any (a : Int) (a0 : -9223372036854775808 ≤ a) (a1 : a ≤ 9223372036854775807) (w : World) :
    Calls Tryz.prog 92 #[.int .i64 a] w fun e w' => e = .returned (.agg #[.int .i64 (hi (a * 4294967296)), .int .u64 (lo (a * 4294967296))]) ∧ Below w.heap.size w w' := by
  have SH : Hid (∀ W : World, Calls Tryz.prog 102 #[.agg #[.int .i64 (hi a), .int .u64 (lo a)], .int .i64 32] W fun e w' => e = .returned (.agg #[.int .i64 (hi (a * 4294967296)), .int .u64 (lo (a * 4294967296))]) ∧ Below W.heap.size W w') := fun W => shl_any a 32 (by omega) W
  go_enter Tryz.func92, Tryz.ntmps92
  go_wp2_with fail
  refine (of_any a a0 a1 _).mono ?_
  rintro e w1 ⟨rfl, hb⟩
  have W1 := bchain (bel1 w _) hb
  have B1 := (Bx.new w (.int .i64 0) (.int .u64 0) 158).later hb
  clear hb
  go_wp2_with fail
  refine (SH.out _).mono ?_
  rintro e w2 ⟨rfl, hb⟩
  have W2 := bchain W1 hb
  have B2 := B1.later hb
  clear hb W1 B1 SH
  obtain ⟨c0, c1, f0, f1⟩ := B2
  go_wp2_with fail
  exact bodyPost_ret (v := .agg #[.int .i64 (hi (a * 4294967296)), .int .u64 (lo (a * 4294967296))]) (by simp [results, Tryz.results92, go_sem, c0, c1, f0, f1]) rfl ⟨rfl, ((W2.setCell (by simp) _).setCell (by simp) _)⟩
end Go.Proofs.YtdfjnbkkdgolnaaGreatDoor
set_option linter.unusedVariables false
set_option linter.unusedSimpArgs false
namespace Go.Proofs.YtdfjnbkkdgolnaaGreatDoor
open Go.RowKit

theorem quo_in (v d : Int) (hd : d ≠ 0) (B : Int) (B0 : 1 ≤ B) (v0 : -B ≤ v) (v1 : v ≤ B) : -B - 1 ≤ quo v d ∧ quo v d ≤ B + 1 := by
  have h1 : 0 ≤ ab v ∧ ab v ≤ B := by unfold ab; split <;> omega
  have h2 : 1 ≤ ab d := by unfold ab; split <;> omega
  have h3 : 0 ≤ ab v / ab d := Int.ediv_nonneg h1.1 (by omega)
  have h4 : ab v / ab d ≤ ab v := Int.ediv_le_self _ h1.1
  have h5 : 0 ≤ quoA v d ∧ quoA v d ≤ B + 1 := by unfold quoA; split <;> omega
  unfold quo
  split <;> omega
set_option maxHeartbeats 1000000 in
theorem quot_any (v d : Int) (v0 : -85070591730234615865843651857942052864 ≤ v) (v1 : v ≤ 85070591730234615865843651857942052864) (d0 : -9223372036854775808 ≤ d) (d1 : d ≤ 9223372036854775807) (w : World) :
    Calls Tryz.prog 91 #[.agg #[.int .i64 (hi v), .int .u64 (lo v)], .int .i64 d] w fun e w' => e = .returned (.tuple #[.int .i64 (qv v d), .bool (qo v d)]) ∧ Below w.heap.size w w' := by
  unfold qv qo
  by_cases hd : d = 0
  · subst hd
    rw [if_pos rfl, if_pos rfl]
    have A0 := Bx.new w (.int .i64 (hi v)) (.int .u64 (lo v)) 158
    unfold zv
    have CM0 : ∀ W : World, Calls Tryz.prog 120 #[.agg #[.int .i64 (hi v), .int .u64 (lo v)], .agg #[.int .i64 0, .int .u64 0]] W fun e w' => e = .returned (.int .i64 (c3 v 0)) ∧ Below W.heap.size W w' := fun W => cmp_any v 0 (by omega) (by omega) (by omega) (by omega) W
    rcases (show 0 < v ∨ v = 0 ∨ v < 0 by omega) with h | h | h
    · rw [if_pos h]
      have CM : Hid (∀ W : World, Calls Tryz.prog 120 #[.agg #[.int .i64 (hi v), .int .u64 (lo v)], .agg #[.int .i64 0, .int .u64 0]] W fun e w' => e = .returned (.int .i64 1) ∧ Below W.heap.size W w') := by
        intro W
        have h' := CM0 W
        rw [c3_gt v 0 h] at h'
        exact h'
      clear CM0
      go_enter Tryz.func91, Tryz.ntmps91
      go_wp2_with fail
      refine (quo_zero _ _ _).mono ?_
      rintro e w1 ⟨rfl, hb⟩
      have W1 := bchain (bel1 w _) hb
      have A1 := A0.later hb
      clear hb A0
      have W2 := bchain W1 (bel1 w1 (.cells #[.int .i64 0, .int .u64 0] 158))
      have A2 := A1.later (bel1 w1 (.cells #[.int .i64 0, .int .u64 0] 158))
      clear W1 A1
      obtain ⟨x0, x1, x2, x3⟩ := A2
      go_wp2_with fail
      refine (CM.out _).mono ?_
      rintro e w3 ⟨rfl, hb⟩
      have W3 := bchain W2 hb
      clear hb W2 CM x0 x1 x2 x3
      go_wp2
      go_ret2
      exact ⟨rfl, W3⟩
    · rw [if_neg (by omega), if_neg (by omega)]
      have CM : Hid (∀ W : World, Calls Tryz.prog 120 #[.agg #[.int .i64 (hi v), .int .u64 (lo v)], .agg #[.int .i64 0, .int .u64 0]] W fun e w' => e = .returned (.int .i64 0) ∧ Below W.heap.size W w') := by
        intro W
        have h' := CM0 W
        rw [show c3 v 0 = 0 by rw [h]; exact c3_self 0] at h'
        exact h'
      clear CM0 h
      go_enter Tryz.func91, Tryz.ntmps91
      go_wp2_with fail
      refine (quo_zero _ _ _).mono ?_
      rintro e w1 ⟨rfl, hb⟩
      have W1 := bchain (bel1 w _) hb
      have A1 := A0.later hb
      clear hb A0
      have W2 := bchain W1 (bel1 w1 (.cells #[.int .i64 0, .int .u64 0] 158))
      have A2 := A1.later (bel1 w1 (.cells #[.int .i64 0, .int .u64 0] 158))
      clear W1 A1
      obtain ⟨x0, x1, x2, x3⟩ := A2
      go_wp2_with fail
      refine (CM.out _).mono ?_
      rintro e w3 ⟨rfl, hb⟩
      have W3 := bchain W2 hb
      clear hb W2 CM x0 x1 x2 x3
      go_wp2
      go_ret2
      exact ⟨rfl, W3⟩
    · rw [if_neg (by omega), if_pos h]
      have CM : Hid (∀ W : World, Calls Tryz.prog 120 #[.agg #[.int .i64 (hi v), .int .u64 (lo v)], .agg #[.int .i64 0, .int .u64 0]] W fun e w' => e = .returned (.int .i64 (-1)) ∧ Below W.heap.size W w') := by
        intro W
        have h' := CM0 W
        rw [c3_lt v 0 h] at h'
        exact h'
      clear CM0
      go_enter Tryz.func91, Tryz.ntmps91
      go_wp2_with fail
      refine (quo_zero _ _ _).mono ?_
      rintro e w1 ⟨rfl, hb⟩
      have W1 := bchain (bel1 w _) hb
      have A1 := A0.later hb
      clear hb A0
      have W2 := bchain W1 (bel1 w1 (.cells #[.int .i64 0, .int .u64 0] 158))
      have A2 := A1.later (bel1 w1 (.cells #[.int .i64 0, .int .u64 0] 158))
      clear W1 A1
      obtain ⟨x0, x1, x2, x3⟩ := A2
      go_wp2_with fail
      refine (CM.out _).mono ?_
      rintro e w3 ⟨rfl, hb⟩
      have W3 := bchain W2 hb
      clear hb W2 CM x0 x1 x2 x3
      go_wp2
      go_ret2
      exact ⟨rfl, W3⟩
  · rw [if_neg hd, if_neg hd]
    obtain ⟨q0, q1⟩ := quo_in v d hd 85070591730234615865843651857942052864 (by omega) v0 v1
    have QU : Hid (∀ W : World, Calls Tryz.prog 116 #[.agg #[.int .i64 (hi v), .int .u64 (lo v)], .int .i64 d] W fun e w' => e = .returned (.tuple #[.agg #[.int .i64 (hi (quo v d)), .int .u64 (lo (quo v d))], .bool true]) ∧ Below W.heap.size W w') := fun W => quo_any v d (by omega) (by omega) d0 d1 hd W
    have HO : Hid (∀ W : World, Calls Tryz.prog 119 #[.agg #[.int .i64 (hi (quo v d)), .int .u64 (lo (quo v d))]] W fun e w' => e = .returned (.tuple #[.int .i64 (clv (quo v d)), .bool (ovv (quo v d))]) ∧ Below W.heap.size W w') := fun W => hold_any (quo v d) (by omega) (by omega) W
    go_enter Tryz.func91, Tryz.ntmps91
    go_wp2_with fail
    refine (QU.out _).mono ?_
    rintro e w1 ⟨rfl, hb⟩
    have W1 := bchain (bel1 w _) hb
    clear hb QU
    have W2 := bchain W1 (bel1 w1 (.cells #[.int .i64 (hi (quo v d)), .int .u64 (lo (quo v d))] 158))
    have A2 := Bx.new w1 (.int .i64 (hi (quo v d))) (.int .u64 (lo (quo v d))) 158
    go_wp2_with fail
    refine (HO.out _).mono ?_
    rintro e w3 ⟨rfl, hb⟩
    have W3 := bchain W2 hb
    clear hb W2 HO
    go_wp2
    go_ret2
    exact ⟨rfl, W3⟩
set_option maxHeartbeats 1000000 in
theorem fratio_any (a b : Int) (a0 : -9223372036854775808 ≤ a) (a1 : a ≤ 9223372036854775807) (b0 : -9223372036854775808 ≤ b) (b1 : b ≤ 9223372036854775807) (w : World) :
    Calls Tryz.prog 63 #[.int .i64 a, .int .i64 b] w fun e w' => e = .returned (.tuple #[.int .i64 (qv (a * 4294967296) b), .bool (qo (a * 4294967296) b)]) ∧ Below w.heap.size w w' := by
  have QU : Hid (∀ W : World, Calls Tryz.prog 91 #[.agg #[.int .i64 (hi (a * 4294967296)), .int .u64 (lo (a * 4294967296))], .int .i64 b] W fun e w' => e = .returned (.tuple #[.int .i64 (qv (a * 4294967296) b), .bool (qo (a * 4294967296) b)]) ∧ Below W.heap.size W w') := fun W => quot_any (a * 4294967296) b (by omega) (by omega) b0 b1 W
  go_enter Tryz.func63, Tryz.ntmps63
  go_wp2_with fail
  refine (whole_any a a0 a1 _).mono ?_
  rintro e w1 ⟨rfl, W1⟩
  go_wp2_with fail
  refine (QU.out _).mono ?_
  rintro e w2 ⟨rfl, hb⟩
  have W2 := bchain W1 hb
  clear hb W1 QU
  go_wp2
  go_ret2
  exact ⟨rfl, W2⟩
end Go.Proofs.YtdfjnbkkdgolnaaGreatDoor
set_option linter.unusedVariables false
set_option linter.unusedSimpArgs false
namespace Go.Proofs.YtdfjnbkkdgolnaaGreatDoor
open Go.RowKit

/-- From a world to one in which a unit's count is n, and whatever lay elsewhere is as it was. -/
structure Un (d : Nat) (n : Int) (w w' : World) : Prop where
  c : w'.cell? ⟨d, 0, none⟩ = some (.int .i64 n)
  f : w'.frozen? ⟨d, 0, none⟩ = false
  b : ∀ (base : Nat) (w0 : World), base ≤ d → base ≤ w.heap.size → Below base w0 w → Below base w0 w'
  o : ∀ (a : Addr) (v : Value), a.block ≠ d → w.cell? a = some v → w'.cell? a = some v
  s : w.heap.size ≤ w'.heap.size
  k : ∀ i : Nat, i < w.heap.size → i ≠ d → w'.heap[i]? = w.heap[i]?
theorem Un.same {d : Nat} {n : Int} {w : World} (c : w.cell? ⟨d, 0, none⟩ = some (.int .i64 n)) (f : w.frozen? ⟨d, 0, none⟩ = false) : Un d n w w :=
  ⟨c, f, fun _ _ _ _ h => h, fun _ _ _ h => h, Nat.le_refl _, fun _ _ _ => rfl⟩
theorem Un.set {d : Nat} {n m : Int} {w : World} (c : w.cell? ⟨d, 0, none⟩ = some (.int .i64 n)) (f : w.frozen? ⟨d, 0, none⟩ = false) : Un d m w (w.setCell ⟨d, 0, none⟩ (.int .i64 m)) where
  c := by simp [go_sem, c, f]
  f := by rw [World.frozen?_setCell]; exact f
  b := fun base w0 hd _ h => h.setCell (by dsimp only; omega) _
  o := fun a v ha h => cell_set (fun he => ha he.symm) h
  s := by simp
  k := fun i _ hn => Below.heap_setCell _ _ _ _ hn
/-- Behind whatever changes nothing that was there. -/
theorem Un.after {d : Nat} {n : Int} {w w1 w2 : World} (hb : Below w.heap.size w w1) (h : Un d n w1 w2) : Un d n w w2 where
  c := h.c
  f := h.f
  b := fun base w0 hd hs h0 => h.b base w0 hd (Nat.le_trans hs hb.size) (h0.trans (hb.mono hs))
  o := fun a v ha hc => h.o a v ha (cell_later hb hc)
  s := Nat.le_trans hb.size h.s
  k := fun i hi hn => (h.k i (Nat.lt_of_lt_of_le hi hb.size) hn).trans (hb.block i hi)
/-- Ahead of it. -/
theorem Un.ahead {d : Nat} {n : Int} {w w1 w2 : World} (h : Un d n w w1) (hb : Below w1.heap.size w1 w2) : Un d n w w2 where
  c := cell_later hb h.c
  f := frozen_later hb h.c h.f
  b := fun base w0 hd hs h0 => (h.b base w0 hd hs h0).trans (hb.mono (Nat.le_trans hs h.s))
  o := fun a v ha hc => cell_later hb (h.o a v ha hc)
  s := Nat.le_trans h.s hb.size
  k := fun i hi hn => (hb.block i (Nat.lt_of_lt_of_le hi h.s)).trans (h.k i hi hn)

/-- A result that was held counts for one. -/
def bi (o : Bool) : Int := if o = true then 1 else 0

set_option maxHeartbeats 1000000 in
theorem take_nil (a : Int) (o : Bool) (w : World) :
    Calls Tryz.prog 128 #[.pointer none, .int .i64 a, .bool o] w fun e w' => e = .returned (.int .i64 a) ∧ w' = w := by
  cases o
  · go_enter Tryz.func128, Tryz.ntmps128
    go_wp2
    go_ret
    exact ⟨rfl, rfl⟩
  · go_enter Tryz.func128, Tryz.ntmps128
    go_wp2
    go_ret
    exact ⟨rfl, rfl⟩
set_option maxHeartbeats 1000000 in
theorem more_any (d : Nat) (n : Int) (n0 : 0 ≤ n) (n1 : n ≤ 1000000000) (w : World) (c : w.cell? ⟨d, 0, none⟩ = some (.int .i64 n)) (f : w.frozen? ⟨d, 0, none⟩ = false) :
    Calls Tryz.prog 149 #[.pointer (some ⟨d, 0, none⟩)] w fun e w' => e = .returned (.tuple #[]) ∧ w' = w.setCell ⟨d, 0, none⟩ (.int .i64 (n + 1)) := by
  go_enter Tryz.func149, Tryz.ntmps149
  go_wp2
  go_end0
  exact ⟨rfl, rfl⟩
set_option maxHeartbeats 1000000 in
theorem take_un (d : Nat) (n a : Int) (o : Bool) (n0 : 0 ≤ n) (n1 : n ≤ 1000000000) (w : World) (c : w.cell? ⟨d, 0, none⟩ = some (.int .i64 n)) (f : w.frozen? ⟨d, 0, none⟩ = false) :
    Calls Tryz.prog 128 #[.pointer (some ⟨d, 0, none⟩), .int .i64 a, .bool o] w fun e w' => e = .returned (.int .i64 a) ∧ Un d (n + bi o) w w' := by
  have U0 : Hid (Un d n w w) := Un.same c f
  have U1 : Hid (Un d (n + 1) w (w.setCell ⟨d, 0, none⟩ (.int .i64 (n + 1)))) := Un.set c f
  cases o
  · have e0 : n + bi false = n := by unfold bi; simp
    rw [e0]
    go_enter Tryz.func128, Tryz.ntmps128
    go_wp2
    go_ret
    exact ⟨rfl, U0.out⟩
  · have e0 : n + bi true = n + 1 := by unfold bi; simp
    rw [e0]
    go_enter Tryz.func128, Tryz.ntmps128
    go_wp2_with fail
    refine (more_any d n n0 n1 _ c f).mono ?_
    rintro e w1 ⟨rfl, hw⟩
    subst hw
    go_wp2
    go_ret
    exact ⟨rfl, U1.out⟩
end Go.Proofs.YtdfjnbkkdgolnaaGreatDoor
set_option linter.unusedVariables false
set_option linter.unusedSimpArgs false
namespace Go.Proofs.YtdfjnbkkdgolnaaGreatDoor
open Go.RowKit

set_option maxHeartbeats 1000000 in
theorem tkSub_nil (a b : Int) (a0 : -9223372036854775808 ≤ a) (a1 : a ≤ 9223372036854775807) (b0 : -9223372036854775808 ≤ b) (b1 : b ≤ 9223372036854775807) (w : World) :
    Calls Tryz.prog 161 #[.func (.func 128) #[.pointer none] #[], .func (.func 195) #[] #[], .int .i64 a, .int .i64 b] w fun e w' => e = .returned (.int .i64 (clv (a - b))) ∧ Below w.heap.size w w' := by
  have P : Hid (∀ W : World, Calls Tryz.prog 195 #[.int .i64 a, .int .i64 b] W fun e w' => e = .returned (.tuple #[.int .i64 (clv (a - b)), .bool (ovv (a - b))]) ∧ Below W.heap.size W w') := fun W => fsub_any a b a0 a1 b0 b1 W
  go_enter Tryz.func161, Tryz.ntmps161
  go_wp2_with fail
  refine (P.out _).mono ?_
  rintro e w1 ⟨rfl, W1⟩
  clear P
  go_wp2_with fail
  refine (take_nil _ _ _).mono ?_
  rintro e wz ⟨rfl, hz⟩
  subst hz
  go_wp2
  go_ret
  exact ⟨rfl, W1⟩
set_option maxHeartbeats 1000000 in
theorem tkSub_un (a b : Int) (a0 : -9223372036854775808 ≤ a) (a1 : a ≤ 9223372036854775807) (b0 : -9223372036854775808 ≤ b) (b1 : b ≤ 9223372036854775807) (d : Nat) (n : Int) (n0 : 0 ≤ n) (n1 : n ≤ 1000000000) (w : World) (c : w.cell? ⟨d, 0, none⟩ = some (.int .i64 n)) (f : w.frozen? ⟨d, 0, none⟩ = false) :
    Calls Tryz.prog 161 #[.func (.func 128) #[.pointer (some ⟨d, 0, none⟩)] #[], .func (.func 195) #[] #[], .int .i64 a, .int .i64 b] w fun e w' => e = .returned (.int .i64 (clv (a - b))) ∧ Un d (n + bi (ovv (a - b))) w w' := by
  have P : Hid (∀ W : World, Calls Tryz.prog 195 #[.int .i64 a, .int .i64 b] W fun e w' => e = .returned (.tuple #[.int .i64 (clv (a - b)), .bool (ovv (a - b))]) ∧ Below W.heap.size W w') := fun W => fsub_any a b a0 a1 b0 b1 W
  go_enter Tryz.func161, Tryz.ntmps161
  go_wp2_with fail
  refine (P.out _).mono ?_
  rintro e w1 ⟨rfl, W1⟩
  clear P
  have c1 := cell_later W1 c
  have f1 := frozen_later W1 c f
  go_wp2_with fail
  refine (take_un d n _ _ n0 n1 _ c1 f1).mono ?_
  rintro e w2 ⟨rfl, hU⟩
  have hV := Un.after W1 hU
  clear hU W1 c1 f1 c f
  go_wp2
  go_ret
  exact ⟨rfl, hV⟩
set_option maxHeartbeats 1000000 in
theorem uSub_nil (a b : Int) (a0 : -9223372036854775808 ≤ a) (a1 : a ≤ 9223372036854775807) (b0 : -9223372036854775808 ≤ b) (b1 : b ≤ 9223372036854775807) (w : World) :
    Calls Tryz.prog 193 #[.pointer none, .int .i64 a, .int .i64 b] w fun e w' => e = .returned (.int .i64 (clv (a - b))) ∧ Below w.heap.size w w' := by
  have hmf : ∀ (fn : Fn) (first cap : Array Value) (w : World), (Instr.makeFunc fn first cap).run Tryz.prog w = .ok (.func fn first cap) w := fun _ _ _ _ => rfl
  go_enter Tryz.func193, Tryz.ntmps193
  go_wp2_with fail
  refine (tkSub_nil a b a0 a1 b0 b1 _).mono ?_
  rintro e w1 ⟨rfl, W1⟩
  go_wp2
  go_ret
  exact ⟨rfl, W1⟩
set_option maxHeartbeats 1000000 in
theorem uSub_un (a b : Int) (a0 : -9223372036854775808 ≤ a) (a1 : a ≤ 9223372036854775807) (b0 : -9223372036854775808 ≤ b) (b1 : b ≤ 9223372036854775807) (d : Nat) (n : Int) (n0 : 0 ≤ n) (n1 : n ≤ 1000000000) (w : World) (c : w.cell? ⟨d, 0, none⟩ = some (.int .i64 n)) (f : w.frozen? ⟨d, 0, none⟩ = false) :
    Calls Tryz.prog 193 #[.pointer (some ⟨d, 0, none⟩), .int .i64 a, .int .i64 b] w fun e w' => e = .returned (.int .i64 (clv (a - b))) ∧ Un d (n + bi (ovv (a - b))) w w' := by
  have hmf : ∀ (fn : Fn) (first cap : Array Value) (w : World), (Instr.makeFunc fn first cap).run Tryz.prog w = .ok (.func fn first cap) w := fun _ _ _ _ => rfl
  go_enter Tryz.func193, Tryz.ntmps193
  go_wp2_with fail
  refine (tkSub_un a b a0 a1 b0 b1 d n n0 n1 _ c f).mono ?_
  rintro e w1 ⟨rfl, W1⟩
  clear c f
  go_wp2
  go_ret
  exact ⟨rfl, W1⟩
set_option maxHeartbeats 1000000 in
theorem tkMul_nil (a b : Int) (a0 : -9223372036854775808 ≤ a) (a1 : a ≤ 9223372036854775807) (b0 : -9223372036854775808 ≤ b) (b1 : b ≤ 9223372036854775807) (w : World) :
    Calls Tryz.prog 161 #[.func (.func 128) #[.pointer none] #[], .func (.func 162) #[] #[], .int .i64 a, .int .i64 b] w fun e w' => e = .returned (.int .i64 (clv (rnd (a * b) 32))) ∧ Below w.heap.size w w' := by
  have P : Hid (∀ W : World, Calls Tryz.prog 162 #[.int .i64 a, .int .i64 b] W fun e w' => e = .returned (.tuple #[.int .i64 (clv (rnd (a * b) 32)), .bool (ovv (rnd (a * b) 32))]) ∧ Below W.heap.size W w') := fun W => fmul_any a b a0 a1 b0 b1 W
  go_enter Tryz.func161, Tryz.ntmps161
  go_wp2_with fail
  refine (P.out _).mono ?_
  rintro e w1 ⟨rfl, W1⟩
  clear P
  go_wp2_with fail
  refine (take_nil _ _ _).mono ?_
  rintro e wz ⟨rfl, hz⟩
  subst hz
  go_wp2
  go_ret
  exact ⟨rfl, W1⟩
set_option maxHeartbeats 1000000 in
theorem tkMul_un (a b : Int) (a0 : -9223372036854775808 ≤ a) (a1 : a ≤ 9223372036854775807) (b0 : -9223372036854775808 ≤ b) (b1 : b ≤ 9223372036854775807) (d : Nat) (n : Int) (n0 : 0 ≤ n) (n1 : n ≤ 1000000000) (w : World) (c : w.cell? ⟨d, 0, none⟩ = some (.int .i64 n)) (f : w.frozen? ⟨d, 0, none⟩ = false) :
    Calls Tryz.prog 161 #[.func (.func 128) #[.pointer (some ⟨d, 0, none⟩)] #[], .func (.func 162) #[] #[], .int .i64 a, .int .i64 b] w fun e w' => e = .returned (.int .i64 (clv (rnd (a * b) 32))) ∧ Un d (n + bi (ovv (rnd (a * b) 32))) w w' := by
  have P : Hid (∀ W : World, Calls Tryz.prog 162 #[.int .i64 a, .int .i64 b] W fun e w' => e = .returned (.tuple #[.int .i64 (clv (rnd (a * b) 32)), .bool (ovv (rnd (a * b) 32))]) ∧ Below W.heap.size W w') := fun W => fmul_any a b a0 a1 b0 b1 W
  go_enter Tryz.func161, Tryz.ntmps161
  go_wp2_with fail
  refine (P.out _).mono ?_
  rintro e w1 ⟨rfl, W1⟩
  clear P
  have c1 := cell_later W1 c
  have f1 := frozen_later W1 c f
  go_wp2_with fail
  refine (take_un d n _ _ n0 n1 _ c1 f1).mono ?_
  rintro e w2 ⟨rfl, hU⟩
  have hV := Un.after W1 hU
  clear hU W1 c1 f1 c f
  go_wp2
  go_ret
  exact ⟨rfl, hV⟩
set_option maxHeartbeats 1000000 in
theorem uMul_nil (a b : Int) (a0 : -9223372036854775808 ≤ a) (a1 : a ≤ 9223372036854775807) (b0 : -9223372036854775808 ≤ b) (b1 : b ≤ 9223372036854775807) (w : World) :
    Calls Tryz.prog 153 #[.pointer none, .int .i64 a, .int .i64 b] w fun e w' => e = .returned (.int .i64 (clv (rnd (a * b) 32))) ∧ Below w.heap.size w w' := by
  have hmf : ∀ (fn : Fn) (first cap : Array Value) (w : World), (Instr.makeFunc fn first cap).run Tryz.prog w = .ok (.func fn first cap) w := fun _ _ _ _ => rfl
  go_enter Tryz.func153, Tryz.ntmps153
  go_wp2_with fail
  refine (tkMul_nil a b a0 a1 b0 b1 _).mono ?_
  rintro e w1 ⟨rfl, W1⟩
  go_wp2
  go_ret
  exact ⟨rfl, W1⟩
set_option maxHeartbeats 1000000 in
theorem uMul_un (a b : Int) (a0 : -9223372036854775808 ≤ a) (a1 : a ≤ 9223372036854775807) (b0 : -9223372036854775808 ≤ b) (b1 : b ≤ 9223372036854775807) (d : Nat) (n : Int) (n0 : 0 ≤ n) (n1 : n ≤ 1000000000) (w : World) (c : w.cell? ⟨d, 0, none⟩ = some (.int .i64 n)) (f : w.frozen? ⟨d, 0, none⟩ = false) :
    Calls Tryz.prog 153 #[.pointer (some ⟨d, 0, none⟩), .int .i64 a, .int .i64 b] w fun e w' => e = .returned (.int .i64 (clv (rnd (a * b) 32))) ∧ Un d (n + bi (ovv (rnd (a * b) 32))) w w' := by
  have hmf : ∀ (fn : Fn) (first cap : Array Value) (w : World), (Instr.makeFunc fn first cap).run Tryz.prog w = .ok (.func fn first cap) w := fun _ _ _ _ => rfl
  go_enter Tryz.func153, Tryz.ntmps153
  go_wp2_with fail
  refine (tkMul_un a b a0 a1 b0 b1 d n n0 n1 _ c f).mono ?_
  rintro e w1 ⟨rfl, W1⟩
  clear c f
  go_wp2
  go_ret
  exact ⟨rfl, W1⟩
set_option maxHeartbeats 1000000 in
theorem uNear_nil (v : Int) (h0 : -3138550867693340381917894711603833208051177722232017256448 ≤ v) (h1 : v ≤ 3138550867693340381917894711603833208051177722232017256447) (w : World) (hT : TabAt w) :
    Calls Tryz.prog 103 #[.pointer none, .agg #[.int .i64 (t3 v), .int .u64 (m3 v), .int .u64 (lo v)], .int .i64 32] w fun e w' => e = .returned (.int .i64 (clv (rnd v 32))) ∧ Below w.heap.size w w' := by
  have P : Hid (∀ W : World, TabAt W → Calls Tryz.prog 127 #[.agg #[.int .i64 (t3 v), .int .u64 (m3 v), .int .u64 (lo v)], .int .i64 32] W fun e w' => e = .returned (.tuple #[.int .i64 (clv (rnd v 32)), .bool (ovv (rnd v 32))]) ∧ Below W.heap.size W w') := by
    intro W hT
    have h := near_mid v 32 32 rfl (by omega) (by omega) (by omega) W hT
    rw [rl_pos v 32 (by omega)] at h
    exact h
  obtain ⟨k0, k1⟩ := clv_fit (rnd v 32)
  have HT : Hid (TabAt (w.alloc (.cells #[.int .i64 (t3 v), .int .u64 (m3 v), .int .u64 (lo v)] 175))) := hT.later (bel1 w _)
  clear hT
  go_enter Tryz.func103, Tryz.ntmps103
  go_wp2_with fail
  refine (P.out _ HT.out).mono ?_
  rintro e w1 ⟨rfl, hb⟩
  have W1 := bchain (bel1 w _) hb
  clear P HT hb
  go_wp2_with fail
  refine (take_nil _ _ _).mono ?_
  rintro e wz ⟨rfl, hz⟩
  subst hz
  go_wp2
  go_ret
  exact ⟨rfl, W1⟩
set_option maxHeartbeats 1000000 in
theorem uNear_un (v : Int) (h0 : -3138550867693340381917894711603833208051177722232017256448 ≤ v) (h1 : v ≤ 3138550867693340381917894711603833208051177722232017256447) (d : Nat) (n : Int) (n0 : 0 ≤ n) (n1 : n ≤ 1000000000) (w : World) (hT : TabAt w) (c : w.cell? ⟨d, 0, none⟩ = some (.int .i64 n)) (f : w.frozen? ⟨d, 0, none⟩ = false) :
    Calls Tryz.prog 103 #[.pointer (some ⟨d, 0, none⟩), .agg #[.int .i64 (t3 v), .int .u64 (m3 v), .int .u64 (lo v)], .int .i64 32] w fun e w' => e = .returned (.int .i64 (clv (rnd v 32))) ∧ Un d (n + bi (ovv (rnd v 32))) w w' := by
  have P : Hid (∀ W : World, TabAt W → Calls Tryz.prog 127 #[.agg #[.int .i64 (t3 v), .int .u64 (m3 v), .int .u64 (lo v)], .int .i64 32] W fun e w' => e = .returned (.tuple #[.int .i64 (clv (rnd v 32)), .bool (ovv (rnd v 32))]) ∧ Below W.heap.size W w') := by
    intro W hT
    have h := near_mid v 32 32 rfl (by omega) (by omega) (by omega) W hT
    rw [rl_pos v 32 (by omega)] at h
    exact h
  obtain ⟨k0, k1⟩ := clv_fit (rnd v 32)
  have HT : Hid (TabAt (w.alloc (.cells #[.int .i64 (t3 v), .int .u64 (m3 v), .int .u64 (lo v)] 175))) := hT.later (bel1 w _)
  clear hT
  go_enter Tryz.func103, Tryz.ntmps103
  go_wp2_with fail
  refine (P.out _ HT.out).mono ?_
  rintro e w1 ⟨rfl, hb⟩
  have W1 := bchain (bel1 w _) hb
  clear P HT hb
  have c1 := cell_later W1 c
  have f1 := frozen_later W1 c f
  go_wp2_with fail
  refine (take_un d n _ _ n0 n1 _ c1 f1).mono ?_
  rintro e w2 ⟨rfl, hU⟩
  have hV := Un.after W1 hU
  clear hU W1 c1 f1 c f
  go_wp2
  go_ret
  exact ⟨rfl, hV⟩
end Go.Proofs.YtdfjnbkkdgolnaaGreatDoor
set_option linter.unusedVariables false
set_option linter.unusedSimpArgs false
namespace Go.Proofs.YtdfjnbkkdgolnaaGreatDoor
open Go.RowKit

theorem sone_0 (x : Int) (x0 : 0 ≤ x) (x1 : x ≤ 18446744073709551615) (w : World) : Calls Tryz.prog 72 #[.int .u64 x, .int .i64 0] w fun e w' => e = .returned (.agg #[.int .u64 (dg (x) 0), .int .u64 (dg (x) 1), .int .u64 (dg (x) 2), .int .u64 (dg (x) 3), .int .u64 (dg (x) 4), .int .u64 (dg (x) 5)]) ∧ Below w.heap.size w w' := by
  have h := sone_any x 0 (by omega) x0 x1 w
  rw [show x * 2 ^ (32 * 0) = x by rw [Nat.mul_zero, Int.pow_zero, Int.mul_one]] at h
  exact h
theorem sone_1 (x : Int) (x0 : 0 ≤ x) (x1 : x ≤ 18446744073709551615) (w : World) : Calls Tryz.prog 72 #[.int .u64 x, .int .i64 1] w fun e w' => e = .returned (.agg #[.int .u64 (dg (x * 4294967296) 0), .int .u64 (dg (x * 4294967296) 1), .int .u64 (dg (x * 4294967296) 2), .int .u64 (dg (x * 4294967296) 3), .int .u64 (dg (x * 4294967296) 4), .int .u64 (dg (x * 4294967296) 5)]) ∧ Below w.heap.size w w' := by
  have h := sone_any x 1 (by omega) x0 x1 w
  rw [show (2 : Int) ^ (32 * 1) = 4294967296 from rfl] at h
  exact h
theorem sone_2 (x : Int) (x0 : 0 ≤ x) (x1 : x ≤ 18446744073709551615) (w : World) : Calls Tryz.prog 72 #[.int .u64 x, .int .i64 2] w fun e w' => e = .returned (.agg #[.int .u64 (dg (x * 18446744073709551616) 0), .int .u64 (dg (x * 18446744073709551616) 1), .int .u64 (dg (x * 18446744073709551616) 2), .int .u64 (dg (x * 18446744073709551616) 3), .int .u64 (dg (x * 18446744073709551616) 4), .int .u64 (dg (x * 18446744073709551616) 5)]) ∧ Below w.heap.size w w' := by
  have h := sone_any x 2 (by omega) x0 x1 w
  rw [show (2 : Int) ^ (32 * 2) = 18446744073709551616 from rfl] at h
  exact h
theorem B6.farA {b d : Nat} {x : Nat → Int} {w : World} (h : B6 b x w) (hd : d ≠ b) (z : Nat → Int) : B6 b x ((((((w.setCell ⟨d, 0, none⟩ (.int .u64 (z 0))).setCell ⟨d, 1, none⟩ (.int .u64 (z 1))).setCell ⟨d, 2, none⟩ (.int .u64 (z 2))).setCell ⟨d, 3, none⟩ (.int .u64 (z 3))).setCell ⟨d, 4, none⟩ (.int .u64 (z 4))).setCell ⟨d, 5, none⟩ (.int .u64 (z 5))) :=
  (((((h.far _ hd).far _ hd).far _ hd).far _ hd).far _ hd).far _ hd
theorem small_mul (x y : Int) (x0 : 0 ≤ x) (x1 : x ≤ 4294967295) (y0 : 0 ≤ y) (y1 : y ≤ 4294967295) : 0 ≤ x * y ∧ x * y ≤ 18446744073709551615 := by
  have h1 := Int.mul_nonneg x0 y0
  have h2 := Int.mul_le_mul x1 y1 y0 (by omega)
  omega
theorem prod_split (a b : Int) : a % 4294967296 * (b % 4294967296) + a / 4294967296 * (b % 4294967296) * 4294967296 + a % 4294967296 * (b / 4294967296) * 4294967296 + a / 4294967296 * (b / 4294967296) * 18446744073709551616 = a * b := by
  have ea : a = a / 4294967296 * 4294967296 + a % 4294967296 := by omega
  have eb : b = b / 4294967296 * 4294967296 + b % 4294967296 := by omega
  generalize a % 4294967296 = l at *
  generalize a / 4294967296 = h at *
  generalize b % 4294967296 = m at *
  generalize b / 4294967296 = k at *
  subst ea eb
  rw [Int.add_mul, Int.mul_add, Int.mul_add]
  rw [show h * 4294967296 * (k * 4294967296) = h * k * 18446744073709551616 by rw [Int.mul_assoc, Int.mul_left_comm 4294967296 k, ← Int.mul_assoc]; rfl]
  rw [show h * 4294967296 * m = h * m * 4294967296 by rw [Int.mul_right_comm], show l * (k * 4294967296) = l * k * 4294967296 by rw [Int.mul_assoc]]
  omega

set_option maxHeartbeats 2000000 in
theorem sproduct_any (a b : Int) (a0 : 0 ≤ a) (a1 : a ≤ 18446744073709551615) (b0 : 0 ≤ b) (b1 : b ≤ 18446744073709551615) (w : World) :
    Calls Tryz.prog 67 #[.int .u64 a, .int .u64 b] w fun e w' => e = .returned (.agg #[.int .u64 (dg (a * b) 0), .int .u64 (dg (a * b) 1), .int .u64 (dg (a * b) 2), .int .u64 (dg (a * b) 3), .int .u64 (dg (a * b) 4), .int .u64 (dg (a * b) 5)]) ∧ Below w.heap.size w w' := by
  have HP : Hid (a % 4294967296 * (b % 4294967296) + a / 4294967296 * (b % 4294967296) * 4294967296 + a % 4294967296 * (b / 4294967296) * 4294967296 + a / 4294967296 * (b / 4294967296) * 18446744073709551616 = a * b) := prod_split a b
  have t1 := Int.tmod_eq_emod_of_nonneg (b := 4294967296) a0
  have t2 := Int.tdiv_eq_ediv_of_nonneg (b := 4294967296) a0
  have t3' := Int.tmod_eq_emod_of_nonneg (b := 4294967296) b0
  have t4 := Int.tdiv_eq_ediv_of_nonneg (b := 4294967296) b0
  have l0 : 0 ≤ a % 4294967296 := by omega
  have l1 : a % 4294967296 ≤ 4294967295 := by omega
  have h0 : 0 ≤ a / 4294967296 := by omega
  have h1 : a / 4294967296 ≤ 4294967295 := by omega
  have m0 : 0 ≤ b % 4294967296 := by omega
  have m1 : b % 4294967296 ≤ 4294967295 := by omega
  have k0 : 0 ≤ b / 4294967296 := by omega
  have k1 : b / 4294967296 ≤ 4294967295 := by omega
  generalize a % 4294967296 = l at *
  generalize a / 4294967296 = h at *
  generalize b % 4294967296 = m at *
  generalize b / 4294967296 = k at *
  obtain ⟨p1, p2⟩ := small_mul l m l0 l1 m0 m1
  obtain ⟨p3, p4⟩ := small_mul h m h0 h1 m0 m1
  obtain ⟨p5, p6⟩ := small_mul l k l0 l1 k0 k1
  obtain ⟨p7, p8⟩ := small_mul h k h0 h1 k0 k1
  have w1' := wrap_small l l0 (by omega)
  have w2' := wrap_small h h0 (by omega)
  have w3' := wrap_small m m0 (by omega)
  have w4' := wrap_small k k0 (by omega)
  have w5' := wrap_small (l * m) p1 p2
  have w6' := wrap_small (h * m) p3 p4
  have w7' := wrap_small (l * k) p5 p6
  have w8' := wrap_small (h * k) p7 p8
  have R0 := B6.new w (fun _ => 0) 106
  have W0 := bel1 w (.cells #[.int .u64 0, .int .u64 0, .int .u64 0, .int .u64 0, .int .u64 0, .int .u64 0] 106)
  go_enter Tryz.func67, Tryz.ntmps67
  go_wp2_with fail
  refine (sone_0 (l * m) p1 p2 _).mono ?_
  rintro e w1 ⟨rfl, hb⟩
  have R1 := R0.later hb
  have W1 := bchain W0 hb
  clear hb R0 W0
  go_wp2_with fail
  refine (sone_1 (h * m) p3 p4 _).mono ?_
  rintro e w2 ⟨rfl, hb⟩
  have R2 := R1.later hb
  have W2 := bchain W1 hb
  clear hb R1 W1
  go_wp2_with fail
  refine (splus_any (l * m) (h * m * 4294967296) _).mono ?_
  rintro e w3 ⟨rfl, hb⟩
  have R3 := R2.later hb
  have W3 := bchain W2 hb
  clear hb R2 W2
  generalize l * m + h * m * 4294967296 = X at *
  have hsz := R3.lt
  have D4 := B6.new w3 (dg X) 106
  have R4 := R3.later (bel1 w3 (.cells #[.int .u64 (dg (X) 0), .int .u64 (dg (X) 1), .int .u64 (dg (X) 2), .int .u64 (dg (X) 3), .int .u64 (dg (X) 4), .int .u64 (dg (X) 5)] 106))
  have W4 := bchain W3 (bel1 w3 (.cells #[.int .u64 (dg (X) 0), .int .u64 (dg (X) 1), .int .u64 (dg (X) 2), .int .u64 (dg (X) 3), .int .u64 (dg (X) 4), .int .u64 (dg (X) 5)] 106))
  clear R3 W3
  go_upto_region 4 with fail
  generalize w3.alloc (.cells #[.int .u64 (dg (X) 0), .int .u64 (dg (X) 1), .int .u64 (dg (X) 2), .int .u64 (dg (X) 3), .int .u64 (dg (X) 4), .int .u64 (dg (X) 5)] 106) = w4 at *
  generalize w3.heap.size = d at *
  have hd1 : Below w4.heap.size w4 w4.drew := (Below.refl _ _).drew
  have CD := D4.later hd1
  have CR := R4.later hd1
  have CW : Hid (Below w.heap.size w w4.drew) := W4.drew
  clear hd1 D4 R4 W4
  have x0 := CD.c 0 (by omega); have x1 := CD.c 1 (by omega); have x2 := CD.c 2 (by omega); have x3 := CD.c 3 (by omega); have x4 := CD.c 4 (by omega); have x5 := CD.c 5 (by omega); have xf0 := CD.f 0 (by omega); have xf1 := CD.f 1 (by omega); have xf2 := CD.f 2 (by omega); have xf3 := CD.f 3 (by omega); have xf4 := CD.f 4 (by omega); have xf5 := CD.f 5 (by omega)
  go_region_with (first
    | (go_at_call 72; refine (sone_1 (l * k) p5 p6 _).mono ?_; rintro e wz ⟨rfl, hb⟩; clear x0 x1 x2 x3 x4 x5 xf0 xf1 xf2 xf3 xf4 xf5; replace CD := CD.later hb; replace CR := CR.later hb; replace CW := hidD' CW hb; clear hb; have x0 := CD.c 0 (by omega); have x1 := CD.c 1 (by omega); have x2 := CD.c 2 (by omega); have x3 := CD.c 3 (by omega); have x4 := CD.c 4 (by omega); have x5 := CD.c 5 (by omega); have xf0 := CD.f 0 (by omega); have xf1 := CD.f 1 (by omega); have xf2 := CD.f 2 (by omega); have xf3 := CD.f 3 (by omega); have xf4 := CD.f 4 (by omega); have xf5 := CD.f 5 (by omega))
    | (go_at_call 71; refine (splus_any X (l * k * 4294967296) _).mono ?_; rintro e wz ⟨rfl, hb⟩; clear x0 x1 x2 x3 x4 x5 xf0 xf1 xf2 xf3 xf4 xf5; replace CD := CD.later hb; replace CR := CR.later hb; replace CW := hidD' CW hb; clear hb; have x0 := CD.c 0 (by omega); have x1 := CD.c 1 (by omega); have x2 := CD.c 2 (by omega); have x3 := CD.c 3 (by omega); have x4 := CD.c 4 (by omega); have x5 := CD.c 5 (by omega); have xf0 := CD.f 0 (by omega); have xf1 := CD.f 1 (by omega); have xf2 := CD.f 2 (by omega); have xf3 := CD.f 3 (by omega); have xf4 := CD.f 4 (by omega); have xf5 := CD.f 5 (by omega)))
  all_goals
    have D5 := CD.all (dg (X + l * k * 4294967296))
    have R5 := CR.farA (d := d) (by omega) (dg (X + l * k * 4294967296))
    have W5 := bel6 CW.out (b := d) (by omega) (dg (X + l * k * 4294967296))
    clear x0 x1 x2 x3 x4 x5 xf0 xf1 xf2 xf3 xf4 xf5
    clear CD CR CW
    generalize ((((((wz.setCell ⟨d, 0, none⟩ (.int .u64 (dg (X + l * k * 4294967296) 0))).setCell ⟨d, 1, none⟩ (.int .u64 (dg (X + l * k * 4294967296) 1))).setCell ⟨d, 2, none⟩ (.int .u64 (dg (X + l * k * 4294967296) 2))).setCell ⟨d, 3, none⟩ (.int .u64 (dg (X + l * k * 4294967296) 3))).setCell ⟨d, 4, none⟩ (.int .u64 (dg (X + l * k * 4294967296) 4))).setCell ⟨d, 5, none⟩ (.int .u64 (dg (X + l * k * 4294967296) 5))) = w5 at *
    generalize X + l * k * 4294967296 = Y at *
    go_upto_region 5 with fail
    have hd1 : Below w5.heap.size w5 w5.drew := (Below.refl _ _).drew
    have CD := D5.later hd1
    have CR := R5.later hd1
    have CW : Hid (Below w.heap.size w w5.drew) := W5.drew
    clear hd1 D5 R5 W5
    have x0 := CD.c 0 (by omega); have x1 := CD.c 1 (by omega); have x2 := CD.c 2 (by omega); have x3 := CD.c 3 (by omega); have x4 := CD.c 4 (by omega); have x5 := CD.c 5 (by omega); have xf0 := CD.f 0 (by omega); have xf1 := CD.f 1 (by omega); have xf2 := CD.f 2 (by omega); have xf3 := CD.f 3 (by omega); have xf4 := CD.f 4 (by omega); have xf5 := CD.f 5 (by omega)
    have r0 := CR.c 0 (by omega); have r1 := CR.c 1 (by omega); have r2 := CR.c 2 (by omega); have r3 := CR.c 3 (by omega); have r4 := CR.c 4 (by omega); have r5 := CR.c 5 (by omega); have rf0 := CR.f 0 (by omega); have rf1 := CR.f 1 (by omega); have rf2 := CR.f 2 (by omega); have rf3 := CR.f 3 (by omega); have rf4 := CR.f 4 (by omega); have rf5 := CR.f 5 (by omega)
    go_region_with (first
      | (go_at_call 72; refine (sone_2 (h * k) p7 p8 _).mono ?_; rintro e wy ⟨rfl, hb⟩; clear x0 x1 x2 x3 x4 x5 xf0 xf1 xf2 xf3 xf4 xf5; clear r0 r1 r2 r3 r4 r5 rf0 rf1 rf2 rf3 rf4 rf5; replace CD := CD.later hb; replace CR := CR.later hb; replace CW := hidD' CW hb; clear hb; have x0 := CD.c 0 (by omega); have x1 := CD.c 1 (by omega); have x2 := CD.c 2 (by omega); have x3 := CD.c 3 (by omega); have x4 := CD.c 4 (by omega); have x5 := CD.c 5 (by omega); have xf0 := CD.f 0 (by omega); have xf1 := CD.f 1 (by omega); have xf2 := CD.f 2 (by omega); have xf3 := CD.f 3 (by omega); have xf4 := CD.f 4 (by omega); have xf5 := CD.f 5 (by omega); have r0 := CR.c 0 (by omega); have r1 := CR.c 1 (by omega); have r2 := CR.c 2 (by omega); have r3 := CR.c 3 (by omega); have r4 := CR.c 4 (by omega); have r5 := CR.c 5 (by omega); have rf0 := CR.f 0 (by omega); have rf1 := CR.f 1 (by omega); have rf2 := CR.f 2 (by omega); have rf3 := CR.f 3 (by omega); have rf4 := CR.f 4 (by omega); have rf5 := CR.f 5 (by omega))
      | (go_at_call 71; refine (splus_any Y (h * k * 18446744073709551616) _).mono ?_; rintro e wy ⟨rfl, hb⟩; clear x0 x1 x2 x3 x4 x5 xf0 xf1 xf2 xf3 xf4 xf5; clear r0 r1 r2 r3 r4 r5 rf0 rf1 rf2 rf3 rf4 rf5; replace CD := CD.later hb; replace CR := CR.later hb; replace CW := hidD' CW hb; clear hb; have x0 := CD.c 0 (by omega); have x1 := CD.c 1 (by omega); have x2 := CD.c 2 (by omega); have x3 := CD.c 3 (by omega); have x4 := CD.c 4 (by omega); have x5 := CD.c 5 (by omega); have xf0 := CD.f 0 (by omega); have xf1 := CD.f 1 (by omega); have xf2 := CD.f 2 (by omega); have xf3 := CD.f 3 (by omega); have xf4 := CD.f 4 (by omega); have xf5 := CD.f 5 (by omega); have r0 := CR.c 0 (by omega); have r1 := CR.c 1 (by omega); have r2 := CR.c 2 (by omega); have r3 := CR.c 3 (by omega); have r4 := CR.c 4 (by omega); have r5 := CR.c 5 (by omega); have rf0 := CR.f 0 (by omega); have rf1 := CR.f 1 (by omega); have rf2 := CR.f 2 (by omega); have rf3 := CR.f 3 (by omega); have rf4 := CR.f 4 (by omega); have rf5 := CR.f 5 (by omega)))
    all_goals
      have W6 := bel6 CW.out (b := w.heap.size) (Nat.le_refl _) (dg (Y + h * k * 18446744073709551616))
      have S6 := CR.all (dg (Y + h * k * 18446744073709551616))
      clear x0 x1 x2 x3 x4 x5 xf0 xf1 xf2 xf3 xf4 xf5
      clear r0 r1 r2 r3 r4 r5 rf0 rf1 rf2 rf3 rf4 rf5
      clear CD CR CW
      generalize ((((((wy.setCell ⟨w.heap.size, 0, none⟩ (.int .u64 (dg (Y + h * k * 18446744073709551616) 0))).setCell ⟨w.heap.size, 1, none⟩ (.int .u64 (dg (Y + h * k * 18446744073709551616) 1))).setCell ⟨w.heap.size, 2, none⟩ (.int .u64 (dg (Y + h * k * 18446744073709551616) 2))).setCell ⟨w.heap.size, 3, none⟩ (.int .u64 (dg (Y + h * k * 18446744073709551616) 3))).setCell ⟨w.heap.size, 4, none⟩ (.int .u64 (dg (Y + h * k * 18446744073709551616) 4))).setCell ⟨w.heap.size, 5, none⟩ (.int .u64 (dg (Y + h * k * 18446744073709551616) 5))) = w6 at *
      rw [HP.out] at S6
      have r0 := S6.c 0 (by omega); have r1 := S6.c 1 (by omega); have r2 := S6.c 2 (by omega); have r3 := S6.c 3 (by omega); have r4 := S6.c 4 (by omega); have r5 := S6.c 5 (by omega); have rf0 := S6.f 0 (by omega); have rf1 := S6.f 1 (by omega); have rf2 := S6.f 2 (by omega); have rf3 := S6.f 3 (by omega); have rf4 := S6.f 4 (by omega); have rf5 := S6.f 5 (by omega)
      clear S6
      go_wp2
      exact bodyPost_ret (v := .agg #[.int .u64 (dg (a * b) 0), .int .u64 (dg (a * b) 1), .int .u64 (dg (a * b) 2), .int .u64 (dg (a * b) 3), .int .u64 (dg (a * b) 4), .int .u64 (dg (a * b) 5)]) (by simp [results, Tryz.results67, go_sem, r0, r1, r2, r3, r4, r5]) rfl ⟨rfl, W6⟩
end Go.Proofs.YtdfjnbkkdgolnaaGreatDoor
set_option linter.unusedVariables false
set_option linter.unusedSimpArgs false
namespace Go.Proofs.YtdfjnbkkdgolnaaGreatDoor
open Go.RowKit

/-- What a sum stands for, and how great its sides are. -/
structure Sm (p q : Int) (V B : Int) : Prop where
  p0 : 0 ≤ p
  q0 : 0 ≤ q
  p1 : p ≤ B
  q1 : q ≤ B
  v : p - q = V

theorem sadd_any (p q V B a : Int) (k : Nat) (hk : k ≤ 4) (hS : Sm p q V B) (a0 : -9223372036854775808 ≤ a) (a1 : a ≤ 9223372036854775807) (w : World) :
    Calls Tryz.prog 46 #[.agg #[.int .u64 (dg (p) 0), .int .u64 (dg (p) 1), .int .u64 (dg (p) 2), .int .u64 (dg (p) 3), .int .u64 (dg (p) 4), .int .u64 (dg (p) 5), .int .u64 (dg (q) 0), .int .u64 (dg (q) 1), .int .u64 (dg (q) 2), .int .u64 (dg (q) 3), .int .u64 (dg (q) 4), .int .u64 (dg (q) 5)], .int .i64 a, .int .i64 (k : Int)] w fun e w' => ∃ p' q', e = .returned (.agg #[.int .u64 (dg (p') 0), .int .u64 (dg (p') 1), .int .u64 (dg (p') 2), .int .u64 (dg (p') 3), .int .u64 (dg (p') 4), .int .u64 (dg (p') 5), .int .u64 (dg (q') 0), .int .u64 (dg (q') 1), .int .u64 (dg (q') 2), .int .u64 (dg (q') 3), .int .u64 (dg (q') 4), .int .u64 (dg (q') 5)]) ∧ Sm p' q' (V + a * 2 ^ (32 * k)) (B + 9223372036854775808 * 2 ^ (32 * k)) ∧ Below w.heap.size w w' := by
  have hp := pow_pos' (32 * k)
  obtain ⟨s0, s1⟩ := ab_rng' a a0 a1
  have g0 := Int.mul_nonneg s0 (show (0 : Int) ≤ 2 ^ (32 * k) by omega)
  have g1 := Int.mul_le_mul_of_nonneg_right s1 (show (0 : Int) ≤ 2 ^ (32 * k) by omega)
  obtain ⟨h1, h2, h3, h4, h5⟩ := hS
  by_cases hn : a < 0
  · refine (sadd_neg p q a k hk a0 hn w).mono ?_
    rintro e w' ⟨rfl, hb⟩
    have e1 : ab a = -a := by unfold ab; rw [if_pos hn]
    refine ⟨_, _, rfl, ⟨h1, by omega, by omega, by omega, ?_⟩, hb⟩
    rw [e1, Int.neg_mul]
    omega
  · refine (sadd_pos p q a k hk (by omega) a1 w).mono ?_
    rintro e w' ⟨rfl, hb⟩
    have e1 : ab a = a := by unfold ab; rw [if_neg hn]
    refine ⟨_, _, rfl, ⟨by omega, h2, by omega, by omega, ?_⟩, hb⟩
    rw [e1]
    omega
theorem dg_zero (k : Nat) : dg 0 k = 0 := by unfold dg; rw [Int.zero_ediv]; rfl
theorem sadd_zero (a : Int) (k : Nat) (hk : k ≤ 4) (a0 : -9223372036854775808 ≤ a) (a1 : a ≤ 9223372036854775807) (w : World) :
    Calls Tryz.prog 46 #[.agg #[.int .u64 0, .int .u64 0, .int .u64 0, .int .u64 0, .int .u64 0, .int .u64 0, .int .u64 0, .int .u64 0, .int .u64 0, .int .u64 0, .int .u64 0, .int .u64 0], .int .i64 a, .int .i64 (k : Int)] w fun e w' => ∃ p' q', e = .returned (.agg #[.int .u64 (dg (p') 0), .int .u64 (dg (p') 1), .int .u64 (dg (p') 2), .int .u64 (dg (p') 3), .int .u64 (dg (p') 4), .int .u64 (dg (p') 5), .int .u64 (dg (q') 0), .int .u64 (dg (q') 1), .int .u64 (dg (q') 2), .int .u64 (dg (q') 3), .int .u64 (dg (q') 4), .int .u64 (dg (q') 5)]) ∧ Sm p' q' (a * 2 ^ (32 * k)) (9223372036854775808 * 2 ^ (32 * k)) ∧ Below w.heap.size w w' := by
  have h := sadd_any 0 0 0 0 a k hk ⟨by omega, by omega, by omega, by omega, by omega⟩ a0 a1 w
  rw [Int.zero_add, Int.zero_add] at h
  simp only [dg_zero] at h
  exact h

end Go.Proofs.YtdfjnbkkdgolnaaGreatDoor
set_option linter.unusedVariables false
set_option linter.unusedSimpArgs false
namespace Go.Proofs.YtdfjnbkkdgolnaaGreatDoor
open Go.RowKit

set_option maxHeartbeats 4000000 in
theorem squo_any (p q V B d : Int) (hS : Sm p q V B) (hB : B < 3138550867693340381917894711603833208051177722232017256448) (d0 : -9223372036854775808 ≤ d) (d1 : d ≤ 9223372036854775807) (hd : d ≠ 0) (w : World) :
    Calls Tryz.prog 66 #[.agg #[.int .u64 (dg (p) 0), .int .u64 (dg (p) 1), .int .u64 (dg (p) 2), .int .u64 (dg (p) 3), .int .u64 (dg (p) 4), .int .u64 (dg (p) 5), .int .u64 (dg (q) 0), .int .u64 (dg (q) 1), .int .u64 (dg (q) 2), .int .u64 (dg (q) 3), .int .u64 (dg (q) 4), .int .u64 (dg (q) 5)], .int .i64 d] w fun e w' => e = .returned (.tuple #[.int .i64 (clv (quo V d)), .bool (ovv (quo V d))]) ∧ Below w.heap.size w w' := by
  obtain ⟨p0, q0, p1, q1, hv⟩ := hS
  have W0 := bel1 w (.cells #[.int .u64 (dg (p) 0), .int .u64 (dg (p) 1), .int .u64 (dg (p) 2), .int .u64 (dg (p) 3), .int .u64 (dg (p) 4), .int .u64 (dg (p) 5), .int .u64 (dg (q) 0), .int .u64 (dg (q) 1), .int .u64 (dg (q) 2), .int .u64 (dg (q) 3), .int .u64 (dg (q) 4), .int .u64 (dg (q) 5)] 108)
  have M1 : ab V < 3138550867693340381917894711603833208051177722232017256448 := by unfold ab; split <;> omega
  have M0 := ab_ge' V
  have SWH : Hid (∀ W : World, Calls Tryz.prog 74 #[.agg #[.int .u64 (dg (p) 0), .int .u64 (dg (p) 1), .int .u64 (dg (p) 2), .int .u64 (dg (p) 3), .int .u64 (dg (p) 4), .int .u64 (dg (p) 5), .int .u64 (dg (q) 0), .int .u64 (dg (q) 1), .int .u64 (dg (q) 2), .int .u64 (dg (q) 3), .int .u64 (dg (q) 4), .int .u64 (dg (q) 5)]] W fun e w' => e = .returned (.tuple #[.agg #[.int .u64 (dg (ab V) 0), .int .u64 (dg (ab V) 1), .int .u64 (dg (ab V) 2), .int .u64 (dg (ab V) 3), .int .u64 (dg (ab V) 4), .int .u64 (dg (ab V) 5)], .bool (decide (V < 0))]) ∧ Below W.heap.size W w') := by
    intro W
    rw [← hv]
    exact swhole_any p q p0 (by omega) q0 (by omega) W
  have SZH : Hid (∀ W : World, Calls Tryz.prog 73 #[.int .i64 d] W fun e w' => e = .returned (.int .u64 (ab d)) ∧ w' = W) := fun W => ssize_any d d0 d1 W
  have D0 : 1 ≤ ab d := by unfold ab; split <;> omega
  have D1 := (ab_rng' d d0 d1).2
  have HQ : Hid (quo V d = if (decide (V < 0) != decide (d < 0)) = true then -(if gu (c3 (2 * (ab V % ab d)) (ab d)) (lo (ab V / ab d)) = true then ab V / ab d + 1 else ab V / ab d) else (if gu (c3 (2 * (ab V % ab d)) (ab d)) (lo (ab V / ab d)) = true then ab V / ab d + 1 else ab V / ab d)) := rfl
  clear p0 q0 p1 q1 hv
  generalize ab V = M at *
  generalize ab d = D at *
  generalize decide (V < 0) = bel at *
  go_enter Tryz.func66, Tryz.ntmps66
  go_wp2_with fail
  refine (SWH.out _).mono ?_
  rintro e w1 ⟨rfl, hb⟩
  have A1 := B6.new w1 (dg M) 106
  have W1 := bchain (bchain W0 hb) (bel1 w1 (.cells #[.int .u64 (dg (M) 0), .int .u64 (dg (M) 1), .int .u64 (dg (M) 2), .int .u64 (dg (M) 3), .int .u64 (dg (M) 4), .int .u64 (dg (M) 5)] 106))
  have hs1 := (bchain W0 hb).size
  clear hb W0 SWH
  go_wp2_with fail
  refine (SZH.out _).mono ?_
  rintro e w1' ⟨rfl, hw⟩
  subst hw
  generalize w1.alloc (.cells #[.int .u64 (dg (M) 0), .int .u64 (dg (M) 1), .int .u64 (dg (M) 2), .int .u64 (dg (M) 3), .int .u64 (dg (M) 4), .int .u64 (dg (M) 5)] 106) = w2 at *
  generalize w1.heap.size = x at *
  have A2 := A1.later (bel1 w2 (.cells #[.int .u64 0, .int .u64 0, .int .u64 0, .int .u64 0, .int .u64 0, .int .u64 0] 106))
  have Q2 := B6.new w2 (fun _ => 0) 106
  have W2 := bchain W1 (bel1 w2 (.cells #[.int .u64 0, .int .u64 0, .int .u64 0, .int .u64 0, .int .u64 0, .int .u64 0] 106))
  have hxy := A1.lt
  have hy : w.heap.size ≤ w2.heap.size := W1.size
  clear A1 W1 SZH
  go_wp2
  generalize w2.alloc (.cells #[.int .u64 0, .int .u64 0, .int .u64 0, .int .u64 0, .int .u64 0, .int .u64 0] 106) = w3 at *
  generalize w2.heap.size = y at *
  go_loopw [10, 11] (fun r i wr => B6 x (dg M) wr ∧ Below w.heap.size w wr ∧ ((∃ j : Nat, j < 6 ∧ i = .int .i64 (j : Int) ∧ r = .int .u64 (M / 2 ^ (32 * j + 32) % D) ∧ B6 y (fun k => if j < k then dg (M / D) k else 0) wr) ∨ (i = .int .i64 (-1) ∧ r = .int .u64 (M % D) ∧ B6 y (dg (M / D)) wr))) (fun _ i _ => (intOf i + 1).toNat)
  case atStart =>
    refine ⟨A2, W2, .inl ⟨5, by omega, rfl, ?_, Q2.cong fun k hk => ?_⟩⟩
    · rw [show M / 2 ^ (32 * 5 + 32) = 0 from top_none M M0 (by omega)]
      rfl
    · rw [if_neg (by omega)]
  case round =>
    clear A2 W2 Q2
    obtain ⟨hA, hW, hrel⟩ := hrel
    rcases hrel with ⟨j, hj, rfl, rfl, hQ⟩ | ⟨rfl, rfl, hQ⟩
    · have hj0 : (0 : Int) ≤ (j : Int) := by omega
      have hj6 : (j : Int) < 6 := by omega
      go_wp2
      go_loopw [10, 12] (fun r k wr => B6 x (dg M) wr ∧ Below w.heap.size w wr ∧ ((∃ t : Nat, t < 32 ∧ k = .int .i64 (t : Int) ∧ r = .int .u64 (M / 2 ^ (32 * j + t + 1) % D) ∧ B6 y (fun k => if j < k then dg (M / D) k else if k = j then pq (M / D) j (t + 1) else 0) wr) ∨ (k = .int .i64 (-1) ∧ r = .int .u64 (M / 2 ^ (32 * j) % D) ∧ B6 y (fun k => if j ≤ k then dg (M / D) k else 0) wr))) (fun _ k _ => (intOf k + 1).toNat)
      case atStart =>
        refine ⟨hA, hW, .inl ⟨31, by omega, rfl, rfl, hQ.cong fun k hk => ?_⟩⟩
        by_cases h1 : j < k
        · rw [if_pos h1, if_pos h1]
        · rw [if_neg h1, if_neg h1]
          by_cases h2 : k = j
          · rw [if_pos h2, pq_top]
          · rw [if_neg h2]
      case round =>
        clear hA hW hQ
        obtain ⟨hA, hW, hrel⟩ := hrel
        rcases hrel with ⟨t, ht, rfl, rfl, hQ⟩ | ⟨rfl, rfl, hQ⟩
        · have a0 := hA.c j hj
          have b0 := hQ.c j hj
          have f0 := hQ.f j hj
          rw [if_neg (Nat.lt_irrefl j), if_pos rfl] at b0
          obtain ⟨r0, r1⟩ := pq_rng (M / D) j (t + 1)
          have m0 := Int.emod_nonneg (M / 2 ^ (32 * j + t + 1)) (show D ≠ 0 by omega)
          have m1 := Int.emod_lt_of_pos (M / 2 ^ (32 * j + t + 1)) (show 0 < D by omega)
          have hz := dg_bit M j t ht
          have HB := quo_bit M D j t D0 ht
          have z01 : M / 2 ^ (32 * j + t) % 2 = 0 ∨ M / 2 ^ (32 * j + t) % 2 = 1 := by omega
          obtain ⟨g0, g1⟩ := dg_rng M j
          have hp := pow_pos' t
          have gd0 : 0 ≤ dg M j / 2 ^ t := Int.ediv_nonneg g0 (by omega)
          have tm := Int.tmod_eq_emod_of_nonneg (b := 2) gd0
          rw [hz] at tm
          have HB' : Hid ((D ≤ 2 * (M / 2 ^ (32 * j + t + 1) % D) + M / 2 ^ (32 * j + t) % 2 → M / 2 ^ (32 * j + t) % D = 2 * (M / 2 ^ (32 * j + t + 1) % D) + M / 2 ^ (32 * j + t) % 2 - D ∧ pq (M / D) j t = 2 * pq (M / D) j (t + 1) + 1) ∧ (2 * (M / 2 ^ (32 * j + t + 1) % D) + M / 2 ^ (32 * j + t) % 2 < D → M / 2 ^ (32 * j + t) % D = 2 * (M / 2 ^ (32 * j + t + 1) % D) + M / 2 ^ (32 * j + t) % 2 ∧ pq (M / D) j t = 2 * pq (M / D) j (t + 1))) := HB
          clear HB hz hp gd0
          generalize M / 2 ^ (32 * j + t + 1) % D = r at *
          generalize M / 2 ^ (32 * j + t) % 2 = z at *
          generalize hpq : pq (M / D) j (t + 1) = c at *
          have ht0 : (0 : Int) ≤ (t : Int) := by omega
          have k1 := wrap_small (2 * r) (by omega) (by omega)
          have k2 := wrap_small (2 * r + z) (by omega) (by omega)
          have k3 := wrap_small (2 * c) (by omega) (by omega)
          have k4 := wrap_small (2 * c + 1) (by omega) (by omega)
          have k5 := wrap_small z (by omega) (by omega)
          clear hpq
          by_cases hge : D ≤ 2 * r + z
          · have k6 := wrap_small (2 * r + z - D) (by omega) (by omega)
            have N := (hQ.set j hj (2 * c)).set j hj (2 * c + 1)
            have NA := (hA.far (p := ⟨y, j, none⟩) (.int .u64 (2 * c)) (by dsimp only; omega)).far (p := ⟨y, j, none⟩) (.int .u64 (2 * c + 1)) (by dsimp only; omega)
            have NW := (hW.setCell (p := ⟨y, j, none⟩) (by dsimp only; omega) (.int .u64 (2 * c))).setCell (p := ⟨y, j, none⟩) (by dsimp only; omega) (.int .u64 (2 * c + 1))
            clear hA hW hQ
            go_wp2
            go_roundw
            case rel =>
              obtain ⟨u1, u2⟩ := HB'.out.1 hge
              refine ⟨NA, NW, ?_⟩
              by_cases ht1 : t = 0
              · subst ht1
                refine .inr ⟨rfl, by rw [← u1]; rfl, N.cong fun k hk => ?_⟩
                by_cases hkj : k = j
                · subst hkj
                  rw [if_pos rfl, if_pos (Nat.le_refl _), ← pq_end, u2]
                · rw [if_neg hkj, if_neg hkj]
                  by_cases hl : j < k
                  · rw [if_pos hl, if_pos (by omega)]
                  · rw [if_neg hl, if_neg hkj, if_neg (by omega)]
              · obtain ⟨t', rfl⟩ : ∃ t', t = t' + 1 := ⟨t - 1, by omega⟩
                refine .inl ⟨t', by omega, by rw [show ((t' + 1 : Nat) : Int) - 1 = (t' : Int) by omega], by rw [← u1]; rfl, N.cong fun k hk => ?_⟩
                by_cases hkj : k = j
                · subst hkj
                  rw [if_pos rfl, if_neg (Nat.lt_irrefl _), if_pos rfl, u2]
                · rw [if_neg hkj, if_neg hkj]
                  by_cases hl : j < k
                  · rw [if_pos hl, if_pos hl]
                  · rw [if_neg hl, if_neg hl, if_neg hkj, if_neg hkj]
            case measure => first | (simp [intOf]; done) | (simp [intOf]; omega)
          · have N := hQ.set j hj (2 * c)
            have NA := hA.far (p := ⟨y, j, none⟩) (.int .u64 (2 * c)) (by dsimp only; omega)
            have NW := hW.setCell (p := ⟨y, j, none⟩) (by dsimp only; omega) (.int .u64 (2 * c))
            clear hA hW hQ
            go_wp2
            go_roundw
            case rel =>
              obtain ⟨u1, u2⟩ := HB'.out.2 (by omega)
              refine ⟨NA, NW, ?_⟩
              by_cases ht1 : t = 0
              · subst ht1
                refine .inr ⟨rfl, by rw [← u1]; rfl, N.cong fun k hk => ?_⟩
                by_cases hkj : k = j
                · subst hkj
                  rw [if_pos rfl, if_pos (Nat.le_refl _), ← pq_end, u2]
                · rw [if_neg hkj]
                  by_cases hl : j < k
                  · rw [if_pos hl, if_pos (by omega)]
                  · rw [if_neg hl, if_neg hkj, if_neg (by omega)]
              · obtain ⟨t', rfl⟩ : ∃ t', t = t' + 1 := ⟨t - 1, by omega⟩
                refine .inl ⟨t', by omega, by rw [show ((t' + 1 : Nat) : Int) - 1 = (t' : Int) by omega], by rw [← u1]; rfl, N.cong fun k hk => ?_⟩
                by_cases hkj : k = j
                · subst hkj
                  rw [if_pos rfl, if_neg (Nat.lt_irrefl _), if_pos rfl, u2]
                · rw [if_neg hkj]
                  by_cases hl : j < k
                  · rw [if_pos hl, if_pos hl]
                  · rw [if_neg hl, if_neg hl, if_neg hkj, if_neg hkj]
            case measure => first | (simp [intOf]; done) | (simp [intOf]; omega)
        · go_wp2
          go_roundw
          case rel =>
            refine ⟨hA, hW, ?_⟩
            by_cases hj1 : j = 0
            · subst hj1
              refine .inr ⟨rfl, by rw [Nat.mul_zero, Int.pow_zero, Int.ediv_one], hQ.cong fun k hk => by rw [if_pos (Nat.zero_le _)]⟩
            · obtain ⟨j', rfl⟩ : ∃ j', j = j' + 1 := ⟨j - 1, by omega⟩
              refine .inl ⟨j', by omega, by rw [show ((j' + 1 : Nat) : Int) - 1 = (j' : Int) by omega], by rw [show 32 * (j' + 1) = 32 * j' + 32 by omega], hQ.cong fun k hk => ?_⟩
              by_cases hl : j' < k
              · rw [if_pos hl, if_pos (by omega)]
              · rw [if_neg hl, if_neg (by omega)]
          case measure => first | (simp [intOf]; done) | (simp [intOf]; omega)
    · have m0 := Int.emod_nonneg M (show D ≠ 0 by omega)
      have m1 := Int.emod_lt_of_pos M (show 0 < D by omega)
      have X0 : 0 ≤ M / D := Int.ediv_nonneg M0 (by omega)
      have X1 : M / D ≤ M := Int.ediv_le_self _ M0
      have hpar := dg0_par (M / D)
      obtain ⟨z0, z1⟩ := dg_rng (M / D) 0
      have t1 := Int.tmod_eq_emod_of_nonneg (b := 2) z0
      have t2 := wrap_small (dg (M / D) 0 % 2) (by omega) (by omega)
      have k1 := wrap_small (D - M % D) (by omega) (by omega)
      have HG : gu (c3 (2 * (M % D)) D) (lo (M / D)) = true ↔ D < 2 * (M % D) ∨ (2 * (M % D) = D ∧ M / D % 2 = 1) := by
        rcases (show 2 * (M % D) < D ∨ 2 * (M % D) = D ∨ D < 2 * (M % D) by omega) with h | h | h
        · rw [c3_lt _ _ h]
          constructor
          · intro g; unfold gu at g; simp at g
          · intro g; omega
        · rw [h, c3_self]
          unfold gu
          rw [lo_par]
          simp
        · rw [c3_gt _ _ h]
          unfold gu
          simp
          omega
      have hcase : (D - M % D < M % D ∧ gu (c3 (2 * (M % D)) D) (lo (M / D)) = true) ∨ (M % D = D - M % D ∧ dg (M / D) 0 % 2 = 1 ∧ gu (c3 (2 * (M % D)) D) (lo (M / D)) = true) ∨ (M % D = D - M % D ∧ dg (M / D) 0 % 2 = 0 ∧ ¬ gu (c3 (2 * (M % D)) D) (lo (M / D)) = true) ∨ (M % D < D - M % D ∧ ¬ gu (c3 (2 * (M % D)) D) (lo (M / D)) = true) := by
        rw [HG]
        omega
      clear HG hpar
      generalize gu (c3 (2 * (M % D)) D) (lo (M / D)) = G at *
      generalize M / D = X at *
      generalize M % D = r at *
      have hcase2 : (G = true ∧ (D - r < r ∨ (D - r = r ∧ dg X 0 % 2 = 1))) ∨ (¬ G = true ∧ (r < D - r ∨ (D - r = r ∧ dg X 0 % 2 = 0))) := by
        rcases hcase with ⟨h, hG⟩ | ⟨h, h', hG⟩ | ⟨h, h', hG⟩ | ⟨h, hG⟩
        · exact .inl ⟨hG, .inl h⟩
        · exact .inl ⟨hG, .inr ⟨h.symm, h'⟩⟩
        · exact .inr ⟨hG, .inr ⟨h.symm, h'⟩⟩
        · exact .inr ⟨hG, .inl h⟩
      clear hcase
      clear hA
      rcases hcase2 with ⟨hG, h⟩ | ⟨hG, h⟩
      · have HF : Hid ((if (!(bel == decide (d < 0))) = true then -(X + 1) else X + 1) = quo V d) := by show _ = _; rw [HQ.out, if_pos hG]; rfl
        clear HQ hG
        have CD := hQ.later ((Below.refl _ _).drew : Below wr.heap.size wr wr.drew)
        have CV : Hid (Below w.heap.size w wr.drew) := hW.drew
        have u0 := hQ.c 0 (by omega)
        rcases h with h | ⟨h, h'⟩
        all_goals
          go_upto_region 17 with fail
          clear u0 hQ hW
          have x0 := CD.c 0 (by omega); have x1 := CD.c 1 (by omega); have x2 := CD.c 2 (by omega); have x3 := CD.c 3 (by omega); have x4 := CD.c 4 (by omega); have x5 := CD.c 5 (by omega); have xf0 := CD.f 0 (by omega); have xf1 := CD.f 1 (by omega); have xf2 := CD.f 2 (by omega); have xf3 := CD.f 3 (by omega); have xf4 := CD.f 4 (by omega); have xf5 := CD.f 5 (by omega)
          go_region_with (first
            | (go_at_call 72; refine (sone_10 _).mono ?_; rintro e wz ⟨rfl, hb⟩; clear x0 x1 x2 x3 x4 x5 xf0 xf1 xf2 xf3 xf4 xf5; replace CD := CD.later hb; replace CV := hidD' CV hb; clear hb; have x0 := CD.c 0 (by omega); have x1 := CD.c 1 (by omega); have x2 := CD.c 2 (by omega); have x3 := CD.c 3 (by omega); have x4 := CD.c 4 (by omega); have x5 := CD.c 5 (by omega); have xf0 := CD.f 0 (by omega); have xf1 := CD.f 1 (by omega); have xf2 := CD.f 2 (by omega); have xf3 := CD.f 3 (by omega); have xf4 := CD.f 4 (by omega); have xf5 := CD.f 5 (by omega))
            | (go_at_call 71; refine (splus_any X 1 _).mono ?_; rintro e wz ⟨rfl, hb⟩; clear x0 x1 x2 x3 x4 x5 xf0 xf1 xf2 xf3 xf4 xf5; replace CD := CD.later hb; replace CV := hidD' CV hb; clear hb; have x0 := CD.c 0 (by omega); have x1 := CD.c 1 (by omega); have x2 := CD.c 2 (by omega); have x3 := CD.c 3 (by omega); have x4 := CD.c 4 (by omega); have x5 := CD.c 5 (by omega); have xf0 := CD.f 0 (by omega); have xf1 := CD.f 1 (by omega); have xf2 := CD.f 2 (by omega); have xf3 := CD.f 3 (by omega); have xf4 := CD.f 4 (by omega); have xf5 := CD.f 5 (by omega)))
          all_goals
            have D5 := CD.all (dg (X + 1))
            have W5 := bel6 CV.out hy (dg (X + 1))
            clear x0 x1 x2 x3 x4 x5 xf0 xf1 xf2 xf3 xf4 xf5
            clear CD CV
            generalize ((((((wz.setCell ⟨y, 0, none⟩ (.int .u64 (dg (X + 1) 0))).setCell ⟨y, 1, none⟩ (.int .u64 (dg (X + 1) 1))).setCell ⟨y, 2, none⟩ (.int .u64 (dg (X + 1) 2))).setCell ⟨y, 3, none⟩ (.int .u64 (dg (X + 1) 3))).setCell ⟨y, 4, none⟩ (.int .u64 (dg (X + 1) 4))).setCell ⟨y, 5, none⟩ (.int .u64 (dg (X + 1) 5))) = w10 at *
            have x0 := D5.c 0 (by omega)
            have x1 := D5.c 1 (by omega)
            have x2 := D5.c 2 (by omega)
            have x3 := D5.c 3 (by omega)
            have x4 := D5.c 4 (by omega)
            have x5 := D5.c 5 (by omega)
            clear D5
            go_wp2_with fail
            refine (sclamp_to (X + 1) (!(bel == decide (d < 0))) _ HF.out (by omega) (by omega) _).mono ?_
            rintro e w4 ⟨rfl, hb⟩
            have W4 := bchain W5 hb
            clear hb W5 x0 x1 x2 x3 x4 x5
            go_wp2
            go_ret2
            exact ⟨rfl, W4⟩
      · have HF : Hid ((if (!(bel == decide (d < 0))) = true then -X else X) = quo V d) := by show _ = _; rw [HQ.out, if_neg hG]; rfl
        clear HQ hG
        have x0 := hQ.c 0 (by omega)
        have x1 := hQ.c 1 (by omega)
        have x2 := hQ.c 2 (by omega)
        have x3 := hQ.c 3 (by omega)
        have x4 := hQ.c 4 (by omega)
        have x5 := hQ.c 5 (by omega)
        clear hQ
        rcases h with h | ⟨h, h'⟩
        · have hlt : decide (D - r < r) = false := decide_eq_false (by omega)
          have hne : ¬ r = D - r := by omega
          go_wp2_with fail
          refine (sclamp_to X (!(bel == decide (d < 0))) _ HF.out X0 (by omega) _).mono ?_
          rintro e w4 ⟨rfl, hb⟩
          have W4 := bchain hW hb
          clear hb hW x0 x1 x2 x3 x4 x5
          go_wp2
          go_ret2
          exact ⟨rfl, W4⟩
        · clear k1
          have k1 : IntKind.u64.wrap r = r := wrap_small r m0 (by omega)
          go_wp2_with fail
          refine (sclamp_to X (!(bel == decide (d < 0))) _ HF.out X0 (by omega) _).mono ?_
          rintro e w4 ⟨rfl, hb⟩
          have W4 := bchain hW hb
          clear hb hW x0 x1 x2 x3 x4 x5
          go_wp2
          go_ret2
          exact ⟨rfl, W4⟩
end Go.Proofs.YtdfjnbkkdgolnaaGreatDoor
set_option linter.unusedVariables false
set_option linter.unusedSimpArgs false
namespace Go.Proofs.YtdfjnbkkdgolnaaGreatDoor
open Go.RowKit

set_option maxHeartbeats 1000000 in
theorem szero_any (a : Int) (w : World) :
    Calls Tryz.prog 65 #[.int .i64 a] w fun e w' => e = .returned (.tuple #[.int .i64 (zv a), .bool true]) ∧ Below w.heap.size w w' := by
  unfold zv
  rcases (show 0 < a ∨ a = 0 ∨ a < 0 by omega) with h | h | h
  · rw [if_pos h]
    go_enter Tryz.func65, Tryz.ntmps65
    go_wp2
    go_ret2
    exact ⟨rfl, Below.refl _ _⟩
  · subst h
    rw [if_neg (by omega), if_neg (by omega)]
    go_enter Tryz.func65, Tryz.ntmps65
    go_wp2
    go_ret2
    exact ⟨rfl, Below.refl _ _⟩
  · have h' : ¬ 0 < a := by omega
    rw [if_neg (by omega), if_pos h]
    go_enter Tryz.func65, Tryz.ntmps65
    go_wp2
    go_ret2
    exact ⟨rfl, Below.refl _ _⟩

set_option maxHeartbeats 1000000 in
theorem sratio_any (a b : Int) (k : Nat) (hk : k ≤ 1) (a0 : -9223372036854775808 ≤ a) (a1 : a ≤ 9223372036854775807) (b0 : -9223372036854775808 ≤ b) (b1 : b ≤ 9223372036854775807) (w : World) :
    Calls Tryz.prog 43 #[.int .i64 a, .int .i64 (k : Int), .int .i64 b] w fun e w' => e = .returned (.tuple #[.int .i64 (qv (a * 2 ^ (32 * k)) b), .bool (qo (a * 2 ^ (32 * k)) b)]) ∧ Below w.heap.size w w' := by
  unfold qv qo
  by_cases hb : b = 0
  · rw [if_pos hb, if_pos hb, zv_pos]
    subst hb
    go_enter Tryz.func43, Tryz.ntmps43
    go_wp2_with fail
    refine (szero_any a _).mono ?_
    rintro e w1 ⟨rfl, W1⟩
    go_wp2
    go_ret2
    exact ⟨rfl, W1⟩
  · rw [if_neg hb, if_neg hb]
    go_enter Tryz.func43, Tryz.ntmps43
    go_wp2_with fail
    refine (sadd_zero a k (by omega) a0 a1 _).mono ?_
    rintro e w1 ⟨p', q', rfl, hS, W1⟩
    go_wp2_with fail
    refine (squo_any p' q' _ _ b hS ?_ b0 b1 hb _).mono ?_
    · rcases (show k = 0 ∨ k = 1 by omega) with h | h <;> subst h <;> decide
    rintro e w2 ⟨rfl, hb'⟩
    have W2 := bchain W1 hb'
    clear hb' W1 hS
    go_wp2
    go_ret2
    exact ⟨rfl, W2⟩
end Go.Proofs.YtdfjnbkkdgolnaaGreatDoor
set_option linter.unusedVariables false
set_option linter.unusedSimpArgs false
namespace Go.Proofs.YtdfjnbkkdgolnaaGreatDoor
open Go.RowKit

/-- A list of whole numbers in memory. -/
def Ar (w : World) (v : Value) (n : Nat) (f : Nat → Int) : Prop :=
  ∃ (adr : Option Addr) (cap b o : Nat), v = .slice adr n cap ∧ n ≤ cap ∧ cap ≤ maxLen ∧ (0 < n → adr = some ⟨b, o, none⟩) ∧ ∀ k, k < n → w.cell? ⟨b, o + k, none⟩ = some (.int .i64 (f k)) ∧ -9223372036854775808 ≤ f k ∧ f k ≤ 9223372036854775807
theorem Ar.later {w w' : World} {v : Value} {n : Nat} {f : Nat → Int} (h : Ar w v n f) (hb : Below w.heap.size w w') : Ar w' v n f := by
  obtain ⟨adr, cap, b, o, h1, h2, h3, h4, h5⟩ := h
  exact ⟨adr, cap, b, o, h1, h2, h3, h4, fun k hk => ⟨cell_later hb (h5 k hk).1, (h5 k hk).2⟩⟩
/-- Whatever it holds lies apart from a block. -/
def Nb (v : Value) (d : Nat) : Prop := ∀ (a : Addr) (n cap : Nat), v = .slice (some a) n cap → 0 < n → a.block ≠ d
theorem Ar.un {w w' : World} {v : Value} {n : Nat} {f : Nat → Int} {d : Nat} {c : Int} (h : Ar w v n f) (hd : Nb v d) (hU : Un d c w w') : Ar w' v n f := by
  obtain ⟨adr, cap, b, o, h1, h2, h3, h4, h5⟩ := h
  refine ⟨adr, cap, b, o, h1, h2, h3, h4, fun k hk => ⟨hU.o _ _ ?_ (h5 k hk).1, (h5 k hk).2⟩⟩
  have e := h4 (by omega)
  subst e
  exact hd ⟨b, o, none⟩ n cap h1 (by omega)
/-- A sum of products. -/
def dotV (f g : Nat → Int) : Nat → Int
  | 0 => 0
  | n + 1 => dotV f g n + f n * g n
/-- A sum of parts. -/
def sumV (f : Nat → Int) : Nat → Int
  | 0 => 0
  | n + 1 => sumV f n + f n
/-- A root, held. -/
def rtX (V : Int) : Int := if V < 0 then 0 else if 85070591730234615865843651857942052864 ≤ V then 9223372036854775807 else rt V
end Go.Proofs.YtdfjnbkkdgolnaaGreatDoor
set_option linter.unusedVariables false
set_option linter.unusedSimpArgs false
namespace Go.Proofs.YtdfjnbkkdgolnaaGreatDoor
open Go.RowKit

/-- So many cells. -/
def il (f : Nat → Int) (n : Nat) : List Value := (List.range n).map (fun k => Value.int .i64 (f k))
theorem il_succ (f : Nat → Int) (n : Nat) : il f (n + 1) = il f n ++ [.int .i64 (f n)] := by unfold il; rw [List.range_succ, List.map_append]; rfl
theorem il_get (f : Nat → Int) (n k : Nat) (h : k < n) : (il f n)[k]? = some (.int .i64 (f k)) := by unfold il; rw [List.getElem?_map, List.getElem?_range h]; rfl
theorem il_len (f : Nat → Int) (n : Nat) : (il f n).length = n := by unfold il; simp
theorem dinfo_i64 : (Tryz.prog.info? 2).map (fun i => (i.zero, i.size, i.bytes)) = some (some (.int .i64 0), 1, 8) := by kernel_rfl
/-- A list that the call has made, from a block on. -/
def Ow (base : Nat) (v : Value) : Prop := ∀ (a : Addr) (n cap : Nat), v = .slice (some a) n cap → 0 < n → base ≤ a.block
theorem ar_of_own {w : World} {base : Nat} {v : Value} {n : Nat} {f : Nat → Int} {e : TypeId} (h : w.ownsRow base e 1 v n (il f n)) (hr : ∀ k, k < n → -9223372036854775808 ≤ f k ∧ f k ≤ 9223372036854775807) : Ar w v n f ∧ Ow base v := by
  rcases h.2 with ⟨hn, h0⟩ | ⟨g, cap, cur, hv, hbs, hg, h1, h2, h3⟩
  · subst hn h0
    exact ⟨⟨none, 0, 0, 0, rfl, by omega, by unfold maxLen; omega, fun h => by omega, fun k hk => by omega⟩, fun a n cap e => by cases e⟩
  · subst hv
    refine ⟨⟨some ⟨g, 0, none⟩, cap, g, 0, rfl, h1, h2, fun _ => rfl, fun k hk => ⟨?_, hr k hk⟩⟩, fun a n' cap' e _ => ?_⟩
    · rw [Nat.zero_add, h.cellAt k (by omega), il_get f n k hk]
    · cases e; exact hbs
theorem Ow.nb {base d : Nat} {v : Value} (h : Ow base v) (hd : d < base) : Nb v d := fun a n cap e hn => by have := h a n cap e hn; omega
theorem Ow.mono {base base' : Nat} {v : Value} (h : Ow base v) (hb : base' ≤ base) : Ow base' v := fun a n cap e hn => Nat.le_trans hb (h a n cap e hn)
theorem below_drewN {B : Nat} {w w' : World} (h : Below B w w') (k : Nat) : Below B w (w'.drewN k) := ⟨h.os, h.tape, h.output, h.size, h.block⟩
theorem dbelow_grown' {w wr w1 : World} {e : TypeId} {size : Nat} {v : Value} {n : Nat} {xs : List Value} {o : Obj} {r : Option Nat} (h : wr.ownsRow w.heap.size e size v n xs) (hW : Below w.heap.size w wr) (hg : (wr.alloc o).grownBy w1 r) (hr : r = some w.heap.size) : Below w.heap.size w w1 := by
  refine (hW.alloc hW.size o).grown hg ?_ ?_
  · have := hW.size; simp; omega
  · intro k hk
    rw [hr] at hk
    have := Option.some.inj hk
    omega
set_option maxRecDepth 100000 in
set_option maxHeartbeats 4000000 in
theorem same_yes (va vb : Value) (n : Nat) (f : Nat → Int) (hn : n ≤ 70000) (w : World) (hA : Ar w va n f) (hB : Ar w vb n f) :
    Calls Tryz.prog 18 #[va, vb] w fun e w' => e = .returned (.bool true) ∧ Below w.heap.size w w' := by
  obtain ⟨adr, cap, b, o, rfl, k1, k2, k3, k4⟩ := hA
  obtain ⟨adq, caq, bq, oq, rfl, q1, q2, q3, q4⟩ := hB
  have HA : Hid (∀ k, k < n → w.cell? ⟨b, o + k, none⟩ = some (.int .i64 (f k)) ∧ w.cell? ⟨bq, oq + k, none⟩ = some (.int .i64 (f k))) := fun k hk => ⟨(k4 k hk).1, (q4 k hk).1⟩
  have HK : Hid (0 < n → adr = some ⟨b, o, none⟩ ∧ adq = some ⟨bq, oq, none⟩) := fun h => ⟨k3 h, q3 h⟩
  clear k3 k4 q3 q4
  go_enter Tryz.func18, Tryz.ntmps18
  go_wp2
  go_loopw [5] (fun s5 wr => ∃ j : Nat, j ≤ n ∧ s5 = .int .i64 (j : Int) ∧ Below w.heap.size w wr) (fun s5 _ => n - (intOf s5).toNat)
  case atStart => exact ⟨0, by omega, rfl, Below.refl _ _⟩
  case round =>
    obtain ⟨j, hj, rfl, hW⟩ := hrel
    by_cases hlt : j < n
    · have hjI : (j : Int) < (n : Int) := by omega
      obtain ⟨ea, eb⟩ := HK.out (by omega)
      subst ea eb
      obtain ⟨ca, cb⟩ := HA.out j hlt
      have cA : wr.cell? ⟨b, o + j, none⟩ = some (.int .i64 (f j)) := (hW.cell (World.block_lt_of_cell? _ _ ca)).trans ca
      have cB : wr.cell? ⟨bq, oq + j, none⟩ = some (.int .i64 (f j)) := (hW.cell (World.block_lt_of_cell? _ _ cb)).trans cb
      have hne : ((f j) != (f j)) = false := by simp
      have HW : Hid (Below w.heap.size w wr) := hW
      clear ca cb hW
      go_wp2
      go_quiet (fail)
      go_wp2
      go_roundw
      case rel => exact ⟨j + 1, by omega, by go_num, below_drewN HW.out _⟩
      case measure => simp [intOf]; omega
    · have HW : Hid (Below w.heap.size w wr) := hW
      have hjI : ¬ (j : Int) < (n : Int) := by omega
      clear hW
      go_wp2
      go_ret
      exact ⟨rfl, HW.out⟩
end Go.Proofs.YtdfjnbkkdgolnaaGreatDoor
set_option linter.unusedVariables false
set_option linter.unusedSimpArgs false
namespace Go.Proofs.YtdfjnbkkdgolnaaGreatDoor
open Go.RowKit

/-- How many were held. -/
def cntV (O : Nat → Bool) : Nat → Int
  | 0 => 0
  | n + 1 => cntV O n + bi (O n)
theorem bi_rng (o : Bool) : 0 ≤ bi o ∧ bi o ≤ 1 := by unfold bi; split <;> omega
theorem cnt_rng (O : Nat → Bool) (n : Nat) : 0 ≤ cntV O n ∧ cntV O n ≤ n := by
  induction n with
  | zero => exact ⟨Int.le_refl _, Int.le_refl _⟩
  | succ n ih =>
    have := bi_rng (O n)
    have e : cntV O (n + 1) = cntV O n + bi (O n) := rfl
    rw [e]
    omega
theorem own_later {wr w1 : World} {B : Nat} {e : TypeId} {s : Nat} {v : Value} {n : Nat} {xs : List Value} (h : wr.ownsRow B e s v n xs) (hb : Below wr.heap.size wr w1) : w1.ownsRow B e s v n xs := by
  refine ⟨h.1, ?_⟩
  rcases h.2 with h0 | ⟨g, cap, cur, hv, hg, hh, r⟩
  · exact Or.inl h0
  · exact Or.inr ⟨g, cap, cur, hv, hg, (hb.block g (Array.getElem?_eq_some_iff.1 hh).1).trans hh, r⟩
theorem own_un {wr w1 : World} {B : Nat} {e : TypeId} {s : Nat} {v : Value} {n : Nat} {xs : List Value} {d : Nat} {c : Int} (h : wr.ownsRow B e s v n xs) (hU : Un d c wr w1) (hd : d < B) : w1.ownsRow B e s v n xs := by
  refine ⟨h.1, ?_⟩
  rcases h.2 with h0 | ⟨g, cap, cur, hv, hg, hh, r⟩
  · exact Or.inl h0
  · exact Or.inr ⟨g, cap, cur, hv, hg, (hU.k g (Array.getElem?_eq_some_iff.1 hh).1 (by omega)).trans hh, r⟩
theorem Un.grow {d : Nat} {c : Int} {w wr w1 : World} {o : Obj} {r : Option Nat} (hU : Un d c w wr) (hd : d < w.heap.size) (hg : (wr.alloc o).grownBy w1 r) (hr : ∀ k, r = some k → w.heap.size ≤ k) : Un d c w w1 := by
  have hs := hU.s
  have blk : ∀ i, i < w.heap.size → w1.heap[i]? = wr.heap[i]? := fun i hi => by
    rw [hg.block i (by rw [World.size_alloc]; omega) (fun e => by have := hr i e.symm; omega), Below.heap_alloc _ _ _ (by omega)]
  refine ⟨(World.cell?_of_block (w := wr) (blk d hd)).trans hU.c, (World.frozen?_of_block (w := wr) (blk d hd)).trans hU.f, ?_, ?_, ?_, ?_⟩
  · intro base w0 h1 h2 h3
    exact ((hU.b base w0 h1 h2 h3).alloc (by omega) o).grown hg (by rw [World.size_alloc]; omega) (fun k hk => by have := hr k hk; omega)
  · intro a v ha hc
    have hb := World.block_lt_of_cell? _ _ hc
    exact (World.cell?_of_block (w := wr) (blk a.block hb)).trans (hU.o a v ha hc)
  · have := hg.size
    rw [World.size_alloc] at this
    omega
  · intro i hi hn
    exact (blk i hi).trans (hU.k i hi hn)
theorem clv_rng (x : Int) : -9223372036854775808 ≤ clv x ∧ clv x ≤ 9223372036854775807 := by
  unfold clv
  repeat' split
  all_goals omega

theorem Un.chain {d : Nat} {c c' : Int} {w w1 w2 : World} (h : Un d c w w1) (k : Un d c' w1 w2) : Un d c' w w2 where
  c := k.c
  f := k.f
  b := fun base w0 h1 h2 h3 => k.b base w0 h1 (Nat.le_trans h2 h.s) (h.b base w0 h1 h2 h3)
  o := fun a v ha hc => k.o a v ha (h.o a v ha hc)
  s := Nat.le_trans h.s k.s
  k := fun i hi hn => (k.k i (Nat.lt_of_lt_of_le hi h.s) hn).trans (h.k i hi hn)

end Go.Proofs.YtdfjnbkkdgolnaaGreatDoor
set_option linter.unusedVariables false
namespace Go.Proofs.YtdfjnbkkdgolnaaGreatDoor
open Go.ChangeShapes Go.WideShapes Go.ChangeAt Go.RowKit Go.Joins

theorem laidOutV : laidOutB Tryz.prog = true := by kernel_rfl
theorem add_noneV (b o n : Nat) : (⟨b, o, none⟩ : Addr).add n = ⟨b, o + n, none⟩ := by
  unfold Addr.add
  split
  · subst n; rfl
  · rfl
end Go.Proofs.YtdfjnbkkdgolnaaGreatDoor
set_option linter.unusedVariables false
namespace Go.Proofs.YtdfjnbkkdgolnaaGreatDoor
open Go.ChangeShapes Go.WideShapes Go.ChangeAt Go.RowKit Go.Joins

def laidTab : List (String × DataW Unit) := [("math/bits.deBruijn64tab", Rows.laid_math_bits_deBruijn64tab)]
theorem gTab : Tryz.prog.globalNamed "math/bits.deBruijn64tab" = some 2 := by kernel_rfl
theorem tTab : (Tryz.prog.globals[2]?).map (·.type) = some 240 := by kernel_rfl
theorem cellsTab : Tryz.prog.cellsOf 240 = 64 := by kernel_rfl
theorem cellsU8 : Tryz.prog.cellsOf 5 = 1 := by kernel_rfl

/-- The door's own heap meets the condition. -/
theorem door_met (os : Os) (args : Array Value) : laidMetH Tryz.prog laidTab ((World.doorLaid Tryz.prog 400 os).forCall (fun _ _ => 0) ⟨#[], args, []⟩).memory :=
  laidMetH_of_parts3 (fuel := 8) (laidMet_of_run' 8 (by kernel_rfl) (by kernel_rfl)) (by kernel_rfl) (by kernel_rfl)

theorem tab_of_laid {W : World} (h : laidMetH Tryz.prog laidTab W) : TabAt W := by
  rw [MakeChecks.laidMetH_plain _ _ _ (by kernel_rfl)] at h
  have h2 : laidMet Tryz.prog [("math/bits.deBruijn64tab", Lib.tabData .u8 (Lib.deBruijn64tab.map (fun n : Nat => (n : Int))))] W := h
  have hT := Lib.tabIs_of_head gTab tTab Tryz.underlying240 Tryz.underlying5 cellsU8 cellsTab h2
  intro j hj
  have hc := hT.cell gTab j (by rw [List.length_map]; exact hj)
  rw [hc]
  have hj2 : j < Lib.deBruijn64tab.length := hj
  simp [List.getD, hj2]
end Go.Proofs.YtdfjnbkkdgolnaaGreatDoor
set_option linter.unusedVariables false
namespace Go.Proofs.YtdfjnbkkdgolnaaGreatDoor
open Go.ChangeShapes Go.WideShapes Go.ChangeAt Go.RowKit Go.Joins

theorem cellsInt : Tryz.prog.cellsOf 3 = 1 := by kernel_rfl
set_option maxRecDepth 100000 in
theorem ints_raw {H : Type} {enc : TypeId × Value → H} {w : World} {fuel : Nat} {v : Value} {x : DataW H × List MemPlace}
    (h : DataW.trod enc Tryz.prog w 0 (fun _ => true) true fuel 22 [v] = some x) : ∃ (n : Nat) (f : Nat → Int), Ar w v n f := by
  rcases Go.Deep.open_slice Tryz.underlying22 h with h0 | ⟨a, len, cap, m, n, D, Pl, hc, hb, hl, hm, hmm, -, hx⟩
  · have hc := h0.1
    simp at hc
    subst hc
    exact ⟨0, fun _ => 0, none, 0, 0, 0, rfl, Nat.le_refl _, Nat.zero_le _, fun h => by omega, fun j hj => by omega⟩
  · simp at hc
    subst hc
    simp only [if_true] at hmm
    subst hmm
    obtain ⟨ab, ao, spot⟩ := a
    have hint : ∀ i, i < len → ∃ q : Int, w.cell? ((⟨ab, ao, spot⟩ : Addr).add i) = some (.int .i64 q) ∧ (Lit.int .i64 q).wf = true := fun i hi => by
      obtain ⟨cs', h1, h2⟩ := hx i (by omega)
      rw [cellsInt] at h1
      obtain ⟨_, hlen, hcell⟩ := World.cells?_some h1
      obtain ⟨x, e0, _, wx⟩ := DataW.trod_int Tryz.underlying3 h2
      subst e0
      have e1 := hcell 0 (by omega)
      rw [Go.Deep.add_add] at e1
      exact ⟨x, by simpa using e1, wx⟩
    obtain ⟨q, hq⟩ := Go.Deep.choose_lt hint
    refine ⟨len, q, some ⟨ab, ao, spot⟩, m, ab, ao, rfl, hl, hm, ?_, ?_⟩
    · intro h0
      have hspot : spot = none := by simpa [Addr.add] using World.cell?_spot (hq 0 h0).1
      rw [hspot]
    · intro j hj
      have hspot : spot = none := by simpa [Addr.add] using World.cell?_spot (hq 0 (by omega)).1
      subst hspot
      obtain ⟨d0, d1⟩ := hq j hj
      rw [add_noneV] at d0
      exact ⟨d0, bounds_i64 d1⟩
theorem bounds_u64e {x : Int} (h : (Lit.int .u64 x).wf = true) : 0 ≤ x ∧ x ≤ 18446744073709551615 := by
  simp [Lit.wf, IntKind.min, IntKind.max, IntKind.bits, IntKind.signed] at h
  omega
set_option maxRecDepth 100000 in
theorem open_sizes {H : Type} {enc : TypeId × Value → H} {w : World} {r : Reach} {b0 : Nat} {v : Value} {d : DataW H} {p : List MemPlace}
    (hv : Value.okWide Tryz.prog w r b0 22 v) (h : DataW.Trod enc Tryz.prog w 0 (fun _ => true) true 22 v d p) : ∃ (n : Nat) (f : Nat → Int), Ar w v n f := by
  obtain ⟨adr, len, cap, rfl⟩ := okWide_slice Tryz.underlying22 hv
  obtain ⟨fuel, h⟩ := h
  exact ints_raw (v := .slice adr len cap) h
end Go.Proofs.YtdfjnbkkdgolnaaGreatDoor
set_option linter.unusedVariables false
set_option linter.unusedSimpArgs false
namespace Go.Proofs.YtdfjnbkkdgolnaaGreatDoor
/-- So many steps. -/
def itr (g : Nat → Nat) : Nat → Nat → Nat
  | 0, x => x
  | m + 1, x => g (itr g m x)
theorem itr_lt (g : Nat → Nat) (N : Nat) (hg : ∀ x, x < N → g x < N) (x : Nat) (hx : x < N) (m : Nat) : itr g m x < N := by
  induction m with
  | zero => exact hx
  | succ m ih => exact hg _ ih
/-- Steps back undo steps. -/
theorem itr_back (g u : Nat → Nat) (N : Nat) (hg : ∀ x, x < N → g x < N) (hu : ∀ x, x < N → u (g x) = x) (x : Nat) (hx : x < N) (m k : Nat) (hk : k ≤ m) : itr u k (itr g m x) = itr g (m - k) x := by
  induction k with
  | zero => simp [itr]
  | succ k ih =>
    show u (itr u k (itr g m x)) = _
    rw [ih (by omega), show m - k = (m - (k + 1)) + 1 by omega]
    exact hu _ (itr_lt g N hg x hx _)
theorem least (P : Nat → Prop) [DecidablePred P] (m : Nat) (h : P m) : ∃ q, P q ∧ q ≤ m ∧ ∀ k, k < q → ¬ P k := by
  induction m using Nat.strongRecOn with
  | _ m ih =>
    by_cases hk : ∃ k, k < m ∧ P k
    · obtain ⟨k, hk, hp⟩ := hk
      obtain ⟨q, h1, h2, h3⟩ := ih k hk hp
      exact ⟨q, h1, by omega, h3⟩
    · exact ⟨m, h, Nat.le_refl _, fun k hk' hp => hk ⟨k, hk', hp⟩⟩
/-- x is where i comes to first below n. -/
def Gets (g : Nat → Nat) (n i x : Nat) : Prop := ∃ m, 1 ≤ m ∧ itr g m i = x ∧ x < n ∧ ∀ k, 1 ≤ k → k < m → n ≤ itr g k i
theorem Gets.one {g : Nat → Nat} {n i x y : Nat} (h : Gets g n i x) (h' : Gets g n i y) : x = y := by
  obtain ⟨m, a1, a2, a3, a4⟩ := h
  obtain ⟨q, b1, b2, b3, b4⟩ := h'
  rcases Nat.lt_trichotomy m q with hl | rfl | hl
  · have := b4 m a1 hl; omega
  · omega
  · have := a4 q b1 hl; omega
theorem Gets.back {g u : Nat → Nat} {n i x N : Nat} (hg : ∀ x, x < N → g x < N) (hu : ∀ x, x < N → u (g x) = x) (hn : n ≤ N) (hi : i < n) (h : Gets g n i x) : Gets u n x i := by
  obtain ⟨m, a1, a2, a3, a4⟩ := h
  subst a2
  refine ⟨m, a1, ?_, hi, fun k k1 k2 => ?_⟩
  · rw [itr_back g u N hg hu i (by omega) m m (Nat.le_refl _), Nat.sub_self]; rfl
  · rw [itr_back g u N hg hu i (by omega) m k (by omega)]
    exact a4 (m - k) (by omega) (by omega)
/-- A round: t's number of r to l. -/
def rnd1 (f : Nat → Nat → Nat) (t : Nat) (p : Nat × Nat) : Nat × Nat := (p.2, p.1 ^^^ f t p.2)
def dnr1 (f : Nat → Nat → Nat) (t : Nat) (p : Nat × Nat) : Nat × Nat := (p.2 ^^^ f t p.1, p.1)
theorem dnr_rnd (f : Nat → Nat → Nat) (t : Nat) (p : Nat × Nat) : dnr1 f t (rnd1 f t p) = p := by
  unfold dnr1 rnd1
  simp [Nat.xor_assoc, Nat.xor_self]
theorem rnd_dnr (f : Nat → Nat → Nat) (t : Nat) (p : Nat × Nat) : rnd1 f t (dnr1 f t p) = p := by
  unfold dnr1 rnd1
  simp [Nat.xor_assoc, Nat.xor_self]
/-- So many rounds, from 0 on. -/
def rnds (f : Nat → Nat → Nat) : Nat → Nat × Nat → Nat × Nat
  | 0, p => p
  | t + 1, p => rnd1 f t (rnds f t p)
/-- So many rounds back, down to 0. -/
def dnrs (f : Nat → Nat → Nat) : Nat → Nat × Nat → Nat × Nat
  | 0, p => p
  | t + 1, p => dnrs f t (dnr1 f t p)
theorem dnrs_rnds (f : Nat → Nat → Nat) (t : Nat) (p : Nat × Nat) : dnrs f t (rnds f t p) = p := by
  induction t with
  | zero => rfl
  | succ t ih => show dnrs f t (dnr1 f t (rnd1 f t (rnds f t p))) = p; rw [dnr_rnd, ih]
theorem rnds_dnrs (f : Nat → Nat → Nat) (t : Nat) (p : Nat × Nat) : rnds f t (dnrs f t p) = p := by
  induction t generalizing p with
  | zero => rfl
  | succ t ih => show rnd1 f t (rnds f t (dnrs f t (dnr1 f t p))) = p; rw [ih, rnd_dnr]
theorem rnds_lt (f : Nat → Nat → Nat) (b : Nat) (hf : ∀ t r, f t r < 2 ^ b) (t : Nat) (p : Nat × Nat) (h : p.1 < 2 ^ b ∧ p.2 < 2 ^ b) : (rnds f t p).1 < 2 ^ b ∧ (rnds f t p).2 < 2 ^ b := by
  induction t with
  | zero => exact h
  | succ t ih => exact ⟨ih.2, Nat.xor_lt_two_pow ih.1 (hf _ _)⟩
theorem dnrs_lt (f : Nat → Nat → Nat) (b : Nat) (hf : ∀ t r, f t r < 2 ^ b) (t : Nat) (p : Nat × Nat) (h : p.1 < 2 ^ b ∧ p.2 < 2 ^ b) : (dnrs f t p).1 < 2 ^ b ∧ (dnrs f t p).2 < 2 ^ b := by
  induction t generalizing p with
  | zero => exact h
  | succ t ih => exact ih _ ⟨Nat.xor_lt_two_pow h.2 (hf _ _), h.1⟩
/-- A trip, and one back. -/
def trp (f : Nat → Nat → Nat) (S x : Nat) : Nat := (rnds f 4 (x / S, x % S)).1 * S + (rnds f 4 (x / S, x % S)).2
def prt (f : Nat → Nat → Nat) (S x : Nat) : Nat := (dnrs f 4 (x / S, x % S)).1 * S + (dnrs f 4 (x / S, x % S)).2
theorem joined (S : Nat) (p : Nat × Nat) (h : p.2 < S) : ((p.1 * S + p.2) / S, (p.1 * S + p.2) % S) = p := by
  have h1 : (p.1 * S + p.2) / S = p.1 := by
    rw [Nat.mul_comm, Nat.mul_add_div (by omega), Nat.div_eq_of_lt h, Nat.add_zero]
  have h2 : (p.1 * S + p.2) % S = p.2 := by rw [Nat.mul_comm, Nat.mul_add_mod, Nat.mod_eq_of_lt h]
  rw [h1, h2]
theorem parts_lt (b x : Nat) (hx : x < 2 ^ b * 2 ^ b) : x / 2 ^ b < 2 ^ b ∧ x % 2 ^ b < 2 ^ b :=
  ⟨Nat.div_lt_of_lt_mul hx, Nat.mod_lt _ (Nat.two_pow_pos b)⟩
theorem join_lt (S l r : Nat) (hl : l < S) (hr : r < S) : l * S + r < S * S := by
  have := Nat.mul_le_mul_right S (show l + 1 ≤ S by omega)
  rw [Nat.succ_mul] at this
  omega
theorem trp_lt (f : Nat → Nat → Nat) (b : Nat) (hf : ∀ t r, f t r < 2 ^ b) (x : Nat) (hx : x < 2 ^ b * 2 ^ b) : trp f (2 ^ b) x < 2 ^ b * 2 ^ b := by
  obtain ⟨h1, h2⟩ := rnds_lt f b hf 4 (x / 2 ^ b, x % 2 ^ b) (parts_lt b x hx)
  exact join_lt _ _ _ h1 h2
theorem prt_lt (f : Nat → Nat → Nat) (b : Nat) (hf : ∀ t r, f t r < 2 ^ b) (x : Nat) (hx : x < 2 ^ b * 2 ^ b) : prt f (2 ^ b) x < 2 ^ b * 2 ^ b := by
  obtain ⟨h1, h2⟩ := dnrs_lt f b hf 4 (x / 2 ^ b, x % 2 ^ b) (parts_lt b x hx)
  exact join_lt _ _ _ h1 h2
theorem prt_trp (f : Nat → Nat → Nat) (b : Nat) (hf : ∀ t r, f t r < 2 ^ b) (x : Nat) (hx : x < 2 ^ b * 2 ^ b) : prt f (2 ^ b) (trp f (2 ^ b) x) = x := by
  obtain ⟨h1, h2⟩ := rnds_lt f b hf 4 (x / 2 ^ b, x % 2 ^ b) (parts_lt b x hx)
  unfold prt trp
  rw [joined _ _ h2, dnrs_rnds]
  dsimp only
  rw [Nat.mul_comm]
  exact Nat.div_add_mod x (2 ^ b)
theorem trp_prt (f : Nat → Nat → Nat) (b : Nat) (hf : ∀ t r, f t r < 2 ^ b) (x : Nat) (hx : x < 2 ^ b * 2 ^ b) : trp f (2 ^ b) (prt f (2 ^ b) x) = x := by
  obtain ⟨h1, h2⟩ := dnrs_lt f b hf 4 (x / 2 ^ b, x % 2 ^ b) (parts_lt b x hx)
  unfold prt trp
  rw [joined _ _ h2, rnds_dnrs]
  dsimp only
  rw [Nat.mul_comm]
  exact Nat.div_add_mod x (2 ^ b)
end Go.Proofs.YtdfjnbkkdgolnaaGreatDoor
set_option linter.unusedVariables false
set_option linter.unusedSimpArgs false
namespace Go.Proofs.YtdfjnbkkdgolnaaGreatDoor

/-- How many parameters a layer has. -/
def lyN (z : Nat → Nat) (l : Nat) : Nat := z l * z (l + 1) + z (l + 1)
/-- Where a layer's parameters begin. -/
def fsN (z : Nat → Nat) : Nat → Nat
  | 0 => 0
  | l + 1 => fsN z l + lyN z l
/-- Sizes that are right. -/
def Szs (z : Nat → Nat) (m : Nat) : Prop := 2 ≤ m ∧ m ≤ 6 ∧ ∀ i, i < m → 1 ≤ z i ∧ z i ≤ 64
theorem lyN_le (z : Nat → Nat) (m l : Nat) (h : ∀ i, i < m → 1 ≤ z i ∧ z i ≤ 64) (hl : l + 1 < m) : lyN z l ≤ 4160 ∧ 2 ≤ lyN z l := by
  have h1 := h l (by omega)
  have h2 := h (l + 1) hl
  have h3 : z l * z (l + 1) ≤ 64 * 64 := Nat.mul_le_mul h1.2 h2.2
  have h4 : 1 * 1 ≤ z l * z (l + 1) := Nat.mul_le_mul h1.1 h2.1
  unfold lyN
  omega
theorem fsN_le (z : Nat → Nat) (m l : Nat) (h : ∀ i, i < m → 1 ≤ z i ∧ z i ≤ 64) (hl : l < m) : fsN z l ≤ 4160 * l := by
  induction l with
  | zero => exact Nat.le_refl _
  | succ l ih =>
    have h1 := ih (by omega)
    have h2 := (lyN_le z m l h hl).1
    show fsN z l + lyN z l ≤ _
    omega
theorem fsN_mono (z : Nat → Nat) {a b : Nat} (h : a ≤ b) : fsN z a ≤ fsN z b := by
  induction b with
  | zero => obtain rfl : a = 0 := by omega
            exact Nat.le_refl _
  | succ b ih =>
    rcases Nat.lt_or_ge a (b + 1) with h1 | h1
    · have := ih (by omega)
      show _ ≤ fsN z b + lyN z b
      omega
    · obtain rfl : a = b + 1 := by omega
      exact Nat.le_refl _
end Go.Proofs.YtdfjnbkkdgolnaaGreatDoor
