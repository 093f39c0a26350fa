/-
  Texts of this proof, joined: BA BB BC BE BH LFrame LMath4 BK BJ LWalkJ PWalkB PWalkC MUnit MMath PWalkR PWalkS.
-/
import Derived.Test.YtdfjnbkkdgolnabGreatDoorProg
import Derived.Test.YtdfjnbkkdgolnabGreatDoorRows
import Derived.Test.YtdfjnbkkdgolnabGreatDoorSX00
import Derived.Test.YtdfjnbkkdgolnabGreatDoorSX01
import Derived.Test.YtdfjnbkkdgolnabGreatDoorSX02
import Derived.Test.YtdfjnbkkdgolnabGreatDoorSX03
import Derived.Test.YtdfjnbkkdgolnabGreatDoorSX04
import Derived.Test.YtdfjnbkkdgolnabGreatDoorSX05
import Derived.Test.YtdfjnbkkdgolnabGreatDoorSX06
import Derived.Test.YtdfjnbkkdgolnabGreatDoorSX07
import Derived.Test.YtdfjnbkkdgolnabGreatDoorSX08
import Derived.Test.YtdfjnbkkdgolnabGreatDoorSX09
import Derived.Test.YtdfjnbkkdgolnabGreatDoorSX10
import Derived.Test.YtdfjnbkkdgolnabGreatDoorSX11
import Derived.Test.YtdfjnbkkdgolnabGreatDoorSX12
import Derived.Test.YtdfjnbkkdgolnabGreatDoorSX13
import Derived.Test.YtdfjnbkkdgolnabGreatDoorTie
import Derived.Laws.Bits64b
import Derived.Laws.FloatArith
import Derived.WalkKit
import Derived.WalkSpells
import Derived.WalkLawsBesides
import Derived.Deep.RegionHeld3
import Derived.Deep.DrawnRows
import Derived.Lib.Mul64
import Derived.Lib.MinMax
import Derived.Deep.DeepCutAuto
import Derived.Lib.QuietBelow
import Derived.BigQuiet
import Derived.Laws.MathBits
import Derived.Deep.CutBlock
import Derived.Lib.TrailingZeros
import Derived.ChangeSame
import Derived.Deep.SlicePairs
import Derived.Carry
import Derived.ProofKit
import Derived.OpenShut
import Derived.ChangeOld
import Derived.Below
import Derived.Lib.SmallJoins
import Derived.OwnWalk
import Derived.Lib.LaidTab
import Derived.LaidMore
import Derived.Stop.Joined
import Derived.Deep.QuietTactic
import Derived.Laws.MakeOwn
import Derived.Maps.AppendAt
import Derived.Deep.Cut
import Derived.Lib.AppendZerosOnto
import Derived.Lib.AppendZeros
import Derived.Lib.SliceRun
set_option linter.unusedVariables false
namespace Go.Proofs.YtdfjnbkkdgolnabGreatDoor
theorem ab_neg (v : Int) (h : v < 0) : ab v = -v := by unfold ab; rw [if_pos h]
theorem ab_pos (v : Int) (h : 0 ≤ v) : ab v = v := by unfold ab; rw [if_neg (by omega)]
theorem hi_neg (v : Int) (h0 : -170141183460469231731687303715884105728 ≤ v) (h1 : v < 0) : hi v < 0 := by unfold hi; omega
theorem hi_pos (v : Int) (h0 : 0 ≤ v) (h1 : v ≤ 170141183460469231731687303715884105727) : ¬ hi v < 0 := by unfold hi; omega

end Go.Proofs.YtdfjnbkkdgolnabGreatDoor
set_option linter.unusedVariables false
namespace Go.Proofs.YtdfjnbkkdgolnabGreatDoor

/-- A quotient to the nearest whole number, of two the even one. -/
def quoA (v d : Int) : Int := if gu (c3 (2 * (ab v % ab d)) (ab d)) (lo (ab v / ab d)) = true then ab v / ab d + 1 else ab v / ab d
def quo (v d : Int) : Int := if (decide (v < 0) != decide (d < 0)) = true then -(quoA v d) else quoA v d

theorem div_step (v d : Int) (hd : 1 ≤ d) : v / d = (v / 18446744073709551616 / d) * 18446744073709551616 + (v / 18446744073709551616 % d * 18446744073709551616 + v % 18446744073709551616) / d := by
  have e1 : v = v / 18446744073709551616 * 18446744073709551616 + v % 18446744073709551616 := by omega
  have e2 : v / 18446744073709551616 = d * (v / 18446744073709551616 / d) + v / 18446744073709551616 % d := (Int.mul_ediv_add_emod _ _).symm
  generalize v / 18446744073709551616 = H at *
  generalize v % 18446744073709551616 = L at *
  generalize hq : H / d = q at *
  generalize H % d = r at *
  subst e1
  rw [e2, Int.add_mul, Int.add_assoc, Int.mul_assoc, Int.add_comm, Int.add_mul_ediv_left _ _ (show d ≠ 0 by omega), Int.add_comm]
theorem mod_step (v d : Int) (hd : 1 ≤ d) : v % d = (v / 18446744073709551616 % d * 18446744073709551616 + v % 18446744073709551616) % d := by
  have e1 : v = v / 18446744073709551616 * 18446744073709551616 + v % 18446744073709551616 := by omega
  have e2 : v / 18446744073709551616 = d * (v / 18446744073709551616 / d) + v / 18446744073709551616 % d := (Int.mul_ediv_add_emod _ _).symm
  generalize v / 18446744073709551616 = H at *
  generalize v % 18446744073709551616 = L at *
  generalize hq : H / d = q at *
  generalize H % d = r at *
  subst e1
  rw [e2, Int.add_mul, Int.add_assoc, Int.mul_assoc, Int.add_comm, Int.add_mul_emod_self_left]
/-- The two words of a quotient of numbers without signs. -/
theorem div_words (v d : Int) (hd : 1 ≤ d) (v0 : 0 ≤ v) (v1 : v ≤ 170141183460469231731687303715884105728) :
    sg (v / 18446744073709551616 / d) = hi (v / d) ∧ (v / 18446744073709551616 % d * 18446744073709551616 + v % 18446744073709551616) / d = lo (v / d) ∧ 0 ≤ v / 18446744073709551616 % d ∧ v / 18446744073709551616 % d < d := by
  have hs := div_step v d hd
  have m0 := Int.emod_nonneg (v / 18446744073709551616) (show d ≠ 0 by omega)
  have m1 := Int.emod_lt_of_pos (v / 18446744073709551616) (show 0 < d by omega)
  have q0 : 0 ≤ v / 18446744073709551616 / d := Int.ediv_nonneg (by omega) (by omega)
  have q1 : v / 18446744073709551616 / d ≤ v / 18446744073709551616 := Int.ediv_le_self _ (by omega)
  have L0 : 0 ≤ v % 18446744073709551616 := by omega
  have L1 : v % 18446744073709551616 < 18446744073709551616 := by omega
  generalize hH : v / 18446744073709551616 = H at *
  generalize v % 18446744073709551616 = L at *
  have t0 : 0 ≤ (H % d * 18446744073709551616 + L) / d := Int.ediv_nonneg (by omega) (by omega)
  have t1 : (H % d * 18446744073709551616 + L) / d < 18446744073709551616 := by
    apply Int.ediv_lt_of_lt_mul (by omega)
    have := Int.mul_le_mul_of_nonneg_right (show H % d + 1 ≤ d by omega) (show (0 : Int) ≤ 18446744073709551616 by omega)
    rw [Int.mul_comm 18446744073709551616 d]
    omega
  generalize (H % d * 18446744073709551616 + L) / d = t at *
  generalize H / d = q at *
  refine ⟨?_, ?_, m0, m1⟩
  · rw [hs]; unfold sg hi; omega
  · rw [hs]; unfold lo; omega

theorem ab_ge (v : Int) : 0 ≤ ab v := by unfold ab; split <;> omega
theorem ab_le (v : Int) (h0 : -170141183460469231731687303715884105728 ≤ v) (h1 : v ≤ 170141183460469231731687303715884105727) : ab v ≤ 170141183460469231731687303715884105728 := by unfold ab; split <;> omega
theorem ab_d (d : Int) (h0 : -9223372036854775808 ≤ d) (h1 : d ≤ 9223372036854775807) (hd : d ≠ 0) : 1 ≤ ab d ∧ ab d ≤ 9223372036854775808 := by unfold ab; split <;> omega
theorem lo_small (x : Int) (h0 : 0 ≤ x) (h1 : x ≤ 18446744073709551615) : lo x = x := by unfold lo; omega
/-- The high word of a number without a sign, read as one. -/
theorem hi_u (v : Int) (v0 : 0 ≤ v) (v1 : v ≤ 170141183460469231731687303715884105728) : hi v % 18446744073709551616 = v / 18446744073709551616 := by unfold hi; omega

end Go.Proofs.YtdfjnbkkdgolnabGreatDoor
set_option linter.unusedVariables false
namespace Go.Proofs.YtdfjnbkkdgolnabGreatDoor
/-- What holds when k bits are left. -/
structure RtI (v : Int) (k : Nat) (r : Int) : Prop where
  low : 0 ≤ r
  mod : r % 2 ^ k = 0
  top : r + 2 ^ k ≤ 9223372036854775808
  le : r * r ≤ v
  lt : v < (r + 2 ^ k) * (r + 2 ^ k)
theorem RtI.start (v : Int) (v0 : 0 ≤ v) (v1 : v < 85070591730234615865843651857942052864) : RtI v 63 0 :=
  ⟨by omega, by omega, by omega, by omega, by omega⟩
end Go.Proofs.YtdfjnbkkdgolnabGreatDoor
set_option linter.unusedVariables false
namespace Go.Proofs.YtdfjnbkkdgolnabGreatDoor
theorem KG.le_of {V Y1 Y0 U u : Int} (g : KG V Y1 Y0 U u) (q : Int) (h : q * V ≤ U * 4294967296 + u) : q ≤ (U * 4294967296 + u) / V := by
  have := g.v0
  exact (Int.le_ediv_iff_mul_le (by omega)).2 h
theorem KI.start {V Y1 Y0 U u : Int} (g : KG V Y1 Y0 U u) : KI V Y1 Y0 U u (U / Y1) (U - U / Y1 * Y1) := by
  obtain ⟨h0, h1⟩ := g.half
  have hm := Int.mul_ediv_add_emod U Y1
  have m0 := Int.emod_nonneg U (show Y1 ≠ 0 by omega)
  have m1 := Int.emod_lt_of_pos U (show 0 < Y1 by omega)
  have em : U - U / Y1 * Y1 = U % Y1 := by rw [Int.mul_comm] at hm; omega
  rw [em]
  obtain ⟨v0, v1, vv, y0, y1, u0, u1, t0, t1⟩ := id g
  refine ⟨by rw [Int.mul_comm]; exact hm, Int.ediv_nonneg u0 (by omega), ?_, m0, by omega, ?_⟩
  · have : U / Y1 < 4294967298 := Int.ediv_lt_of_lt_mul (by omega) (by omega)
    omega
  · -- the guess is not below the true one
    have hq := g.mulV (U / Y1 + 1)
    have : (U * 4294967296 + u) / V < U / Y1 + 1 := by
      apply g.lt_of
      rw [hq, Int.add_mul (U / Y1) 1 Y1, Int.one_mul, Int.add_mul (U / Y1) 1 Y0, Int.one_mul]
      have e1 : U / Y1 * Y1 = U - U % Y1 := by omega
      have e2 : 0 ≤ U / Y1 * Y0 := Int.mul_nonneg (Int.ediv_nonneg u0 (by omega)) y0
      rw [e1]
      omega
    omega
/-- The test says no: it is the true one. -/
theorem KI.stop {V Y1 Y0 U u q r : Int} (g : KG V Y1 Y0 U u) (k : KI V Y1 Y0 U u q r) (h : q * Y0 ≤ 4294967296 * r + u) : q = (U * 4294967296 + u) / V := by
  have h1 := g.le_of q (by rw [g.mulV]; have := k.e; omega)
  have := k.lo
  omega
theorem KI.break {V Y1 Y0 U u q r : Int} (g : KG V Y1 Y0 U u) (k : KI V Y1 Y0 U u q r) (h : 4294967296 ≤ q ∨ 4294967296 * r + u < q * Y0) (hr : 4294967296 ≤ r + Y1) : q - 1 = (U * 4294967296 + u) / V := by
  have hl := k.less g h
  have hq := g.qlt
  have h1 : q - 1 ≤ (U * 4294967296 + u) / V := by
    apply g.le_of
    rw [g.mulV]
    have e1 : (q - 1) * Y1 = U - (r + Y1) := by rw [Int.sub_mul, Int.one_mul]; have := k.e; omega
    have e2 : (q - 1) * Y0 ≤ 4294967296 * 4294967295 := Int.mul_le_mul (by have := k.q1; omega) g.y1 g.y0 (by omega)
    rw [e1]
    have := g.t0
    omega
  omega
theorem wrap_left (A M R : Int) (h : A - M = R) (r0 : 0 ≤ R) (r1 : R ≤ 18446744073709551615) : (A % 18446744073709551616 - M % 18446744073709551616) % 18446744073709551616 = R := by omega

/-- The whole: two steps make the quotient and what is left. -/
theorem two_steps (N y p V U T T1 T0 : Int) (hp : 1 ≤ p) (hy : 1 ≤ y) (hV : V = y * p) (hN : N * p = U * 18446744073709551616 + T) (hT : T = T1 * 4294967296 + T0) :
    N / y = (U * 4294967296 + T1) / V * 4294967296 + ((U * 4294967296 + T1) % V * 4294967296 + T0) / V ∧ N % y * p = ((U * 4294967296 + T1) % V * 4294967296 + T0) % V := by
  have hV0 : 0 < V := by rw [hV]; exact Int.mul_pos (by omega) (by omega)
  have h1 := Int.mul_ediv_add_emod (U * 4294967296 + T1) V
  have e0 : N * p = (U * 4294967296 + T1) * 4294967296 + T0 := by omega
  have e1 : N * p = V * ((U * 4294967296 + T1) / V * 4294967296) + ((U * 4294967296 + T1) % V * 4294967296 + T0) := by
    rw [e0, ← Int.mul_assoc]
    generalize V * ((U * 4294967296 + T1) / V) = A at *
    generalize (U * 4294967296 + T1) % V = B at *
    omega
  have d1 : N * p / V = N / y := by rw [hV]; exact Int.mul_ediv_mul_of_pos_left _ _ (by omega)
  have d2 : N * p % V = N % y * p := by rw [hV, Int.mul_comm N p, Int.mul_comm y p, Int.mul_emod_mul_of_pos _ _ (by omega), Int.mul_comm]
  constructor
  · rw [← d1, e1, Int.add_comm, Int.add_mul_ediv_left _ _ (by omega), Int.add_comm]
  · rw [← d2, e1, Int.add_comm, Int.add_mul_emod_self_left]

/-- The dividend brought up with the divisor: its two words. -/
theorem up_words (h l p q : Int) (hB : p * q = 18446744073709551616) (hp : 1 ≤ p) (hq : 1 ≤ q) (h0 : 0 ≤ h) (l0 : 0 ≤ l) (l1 : l ≤ 18446744073709551615) (hh : h * p ≤ 18446744073709551615) :
    (h * 18446744073709551616 + l) * p = (h * p + l / q) * 18446744073709551616 + l * p % 18446744073709551616 ∧ 0 ≤ l / q ∧ l / q < p := by
  have e := mul_split l p q _ hB
  obtain ⟨t0, t1⟩ := mod_mul_lt l p q hp hq
  rw [Int.mul_comm q p, hB] at t1
  obtain ⟨d0, d1⟩ := div_lt l p q _ hB hp hq l0 (by omega)
  refine ⟨?_, d0, d1⟩
  have e2 : (h * 18446744073709551616 + l) * p = h * p * 18446744073709551616 + l * p := by rw [Int.add_mul, Int.mul_right_comm]
  rw [e2]
  generalize h * p = X at *
  generalize l * p = Y at *
  generalize (l % q) * p = t at *
  generalize l / q = s at *
  omega
theorem up_below (h l y p q : Int) (hB : p * q = 18446744073709551616) (hp : 1 ≤ p) (hq : 1 ≤ q) (hy : h < y) (h0 : 0 ≤ h) (l0 : 0 ≤ l) (l1 : l ≤ 18446744073709551615) : h * p + l / q < y * p ∧ h * p ≤ y * p - p := by
  obtain ⟨d0, d1⟩ := div_lt l p q _ hB hp hq l0 (by omega)
  have := Int.mul_le_mul_of_nonneg_right (show h + 1 ≤ y by omega) (show 0 ≤ p by omega)
  rw [Int.add_mul, Int.one_mul] at this
  omega

end Go.Proofs.YtdfjnbkkdgolnabGreatDoor
set_option linter.unusedVariables false
namespace Go.Proofs.YtdfjnbkkdgolnabGreatDoor
open Go.RowKit
theorem sub_zero_any (a : Int) (w : World) :
    Calls Tryz.prog 95 #[.agg #[.int .i64 0, .int .u64 0], .agg #[.int .i64 (hi a), .int .u64 (lo a)]] w fun e w' => e = .returned (.agg #[.int .i64 (hi (-a)), .int .u64 (lo (-a))]) ∧ Below w.heap.size w w' := by
  have h := sub_any 0 a w
  rw [show hi 0 = 0 from rfl, show lo 0 = 0 from rfl, Int.zero_sub] at h
  exact h

set_option maxHeartbeats 400000 in
theorem neg_any (a : Int) (w : World) :
    Calls Tryz.prog 79 #[.agg #[.int .i64 (hi a), .int .u64 (lo a)]] w fun e w' => e = .returned (.agg #[.int .i64 (hi (-a)), .int .u64 (lo (-a))]) ∧ Below w.heap.size w w' := by
  go_enter Tryz.func79, Tryz.ntmps79
  go_wp2_with fail
  refine (sub_zero_any a _).mono ?_
  rintro e w1 ⟨rfl, hb⟩
  obtain ⟨hc, hf⟩ := bcell hb
  have hz := hb.size
  simp at hc hf hz
  go_wp2_with fail
  exact bodyPost_ret (v := .agg #[.int .i64 (hi (-a)), .int .u64 (lo (-a))]) (by simp [results, Tryz.results79, go_sem, hc]) rfl ⟨rfl, ((((bel2 w _ _).trans (hb.mono (by simp; omega))).setCell (by simp) _).setCell (by simp) _)⟩

end Go.Proofs.YtdfjnbkkdgolnabGreatDoor
set_option linter.unusedVariables false
namespace Go.Proofs.YtdfjnbkkdgolnabGreatDoor
open Go.RowKit
set_option maxHeartbeats 400000 in
theorem size_any (v : Int) (h0 : -170141183460469231731687303715884105728 ≤ v) (h1 : v ≤ 170141183460469231731687303715884105727) (w : World) :
    Calls Tryz.prog 75 #[.agg #[.int .i64 (hi v), .int .u64 (lo v)]] w fun e w' => e = .returned (.agg #[.int .i64 (hi (ab v)), .int .u64 (lo (ab v))]) ∧ Below w.heap.size w w' := by
  by_cases c1 : v < 0
  · have f := hi_neg v h0 c1
    rw [ab_neg v c1]
    clear c1 h0 h1
    go_enter Tryz.func75, Tryz.ntmps75
    go_wp2_with fail
    refine (neg_any v _).mono ?_
    rintro e w1 ⟨rfl, hb⟩
    obtain ⟨hc, hf⟩ := bcell hb
    have hz := hb.size
    simp at hc hf hz
    go_wp2_with fail
    exact bodyPost_ret (v := .agg #[.int .i64 (hi (-v)), .int .u64 (lo (-v))]) (by simp [results, Tryz.results75, go_sem, hc]) rfl ⟨rfl, ((((bel2 w _ _).trans (hb.mono (by simp; omega))).setCell (by simp) _).setCell (by simp) _)⟩
  · have f := hi_pos v (by omega) h1
    rw [ab_pos v (by omega)]
    clear c1 h0 h1
    go_enter Tryz.func75, Tryz.ntmps75
    go_wp2
    exact bodyPost_ret (v := .agg #[.int .i64 (hi v), .int .u64 (lo v)]) (by simp [results, Tryz.results75, go_sem]) rfl ⟨rfl, bel2 _ _ _⟩

end Go.Proofs.YtdfjnbkkdgolnabGreatDoor
set_option linter.unusedVariables false
set_option linter.unusedSimpArgs false
namespace Go.Proofs.YtdfjnbkkdgolnabGreatDoor
open Go.RowKit

/-- What Div64 gives at one input. -/
def DivAt (h l y : Int) : Prop := ∀ w : World, Calls Tryz.prog 93 #[.int .u64 h, .int .u64 l, .int .u64 y] w fun e w' => e = .returned (.tuple #[.int .u64 ((h * 18446744073709551616 + l) / y), .int .u64 ((h * 18446744073709551616 + l) % y)]) ∧ Below w.heap.size w w'

set_option maxHeartbeats 400000 in
theorem div64_zero (l y : Int) (l0 : 0 ≤ l) (l1 : l ≤ 18446744073709551615) (y0 : 1 ≤ y) (y1 : y ≤ 18446744073709551615) : DivAt 0 l y := by
  intro w
  rw [Int.zero_mul, Int.zero_add]
  have hy : (y == 0) = false := beq_eq_false_iff_ne.2 (by omega)
  go_enter Tryz.func93, Tryz.ntmps93
  go_wp2
  go_quiet (fail)
  go_wp2
  go_ret2
  exact ⟨rfl, by simpa using below_drewN (Below.refl w.heap.size w) nq⟩

set_option maxHeartbeats 400000 in
theorem divide_of (v d : Int) (v0 : 0 ≤ v) (v1 : v ≤ 170141183460469231731687303715884105728) (d0 : 1 ≤ d) (d1 : d ≤ 18446744073709551615) (D1 : DivAt 0 (v / 18446744073709551616) d) (D2 : DivAt (v / 18446744073709551616 % d) (lo v) d) (w : World) :
    Calls Tryz.prog 76 #[.agg #[.int .i64 (hi v), .int .u64 (lo v)], .int .u64 d] w fun e w' => e = .returned (.tuple #[.agg #[.int .i64 (hi (v / d)), .int .u64 (lo (v / d))], .int .u64 (v % d)]) ∧ Below w.heap.size w w' := by
  obtain ⟨e1, e2, e3, e4⟩ := div_words v d d0 v0 v1
  have E1 : Hid (sg (v / 18446744073709551616 / d) = hi (v / d)) := e1
  have E2 : Hid ((v / 18446744073709551616 % d * 18446744073709551616 + lo v) / d = lo (v / d)) := e2
  have E3 : Hid ((v / 18446744073709551616 % d * 18446744073709551616 + lo v) % d = v % d) := (mod_step v d d0).symm
  have E4 : IntKind.u64.wrap (hi v) = v / 18446744073709551616 := by rw [IntKind.wrap_u64]; exact hi_u v v0 v1
  clear e1 e2
  go_enter Tryz.func76, Tryz.ntmps76
  go_wp2_with fail
  refine (D1 _).mono ?_
  rw [Int.zero_mul, Int.zero_add]
  rintro e w1 ⟨rfl, hb⟩
  have hz := hb.size
  simp at hz
  have ca1 : w1.cell? ⟨w.heap.size, 1, none⟩ = some (.int .u64 (lo v)) := cell_later hb (cell_alloc (by simp [go_sem]))
  have cr0 : w1.cell? ⟨w.heap.size + 1, 0, none⟩ = some (.int .i64 0) := cell_later hb (by simp [go_sem])
  have cr1 : w1.cell? ⟨w.heap.size + 1, 1, none⟩ = some (.int .u64 0) := cell_later hb (by simp [go_sem])
  have fr0 : w1.frozen? ⟨w.heap.size + 1, 0, none⟩ = false := frozen_later hb (v := .int .i64 0) (by simp [go_sem]) (by simp [go_sem])
  have fr1 : w1.frozen? ⟨w.heap.size + 1, 1, none⟩ = false := frozen_later hb (v := .int .u64 0) (by simp [go_sem]) (by simp [go_sem])
  have hW : Below w.heap.size w w1 := (bel2 w _ _).trans (hb.mono (by simp; omega))
  clear hb D1
  go_wp2_with fail
  refine (D2 _).mono ?_
  rw [E2.out, E3.out]
  rintro e w2 ⟨rfl, hb⟩
  have ds0 := cell_later hb cr0
  have ds1 := cell_later hb cr1
  have gs0 := frozen_later hb cr0 fr0
  have gs1 := frozen_later hb cr1 fr1
  have hW2 : Below w.heap.size w w2 := hW.trans (hb.mono (by omega))
  clear D2 hb hW cr0 cr1 fr0 fr1 ca1
  go_wp2_with fail
  exact bodyPost_ret (v := .tuple #[.agg #[.int .i64 (hi (v / d)), .int .u64 (lo (v / d))], .int .u64 (v % d)]) (by simp [results, Tryz.results76, go_sem, ds0, ds1]; rw [w64]; exact E1.out) rfl ⟨rfl, (hW2.setCell (by dsimp only; omega) _).setCell (by dsimp only; omega) _⟩
end Go.Proofs.YtdfjnbkkdgolnabGreatDoor
set_option linter.unusedVariables false
set_option linter.unusedSimpArgs false
namespace Go.Proofs.YtdfjnbkkdgolnabGreatDoor
open Go.RowKit
theorem Kp.start (w : World) (a0 a1 : Value) (t : TypeId) : Kp w a0 a1 ((w.alloc (.cells #[a0, a1] t)).alloc (.cells #[.int .i64 0, .int .u64 0] t)) where
  bel := bel2 _ _ _
  ca0 := cell_alloc (by simp [go_sem])
  ca1 := cell_alloc (by simp [go_sem])
  cr0 := by simp [go_sem]
  cr1 := by simp [go_sem]
  fr0 := by simp [go_sem]
  fr1 := by simp [go_sem]
theorem run_field_lo (x y : Value) (w : World) : (Instr.field 85 (.agg #[x, y]) 1).run Tryz.prog w = .ok y w := by kernel_rfl

set_option maxHeartbeats 1000000 in
theorem quo_of (v d : Int) (v0 : -170141183460469231731687303715884105728 ≤ v) (v1 : v ≤ 170141183460469231731687303715884105727) (d0 : -9223372036854775808 ≤ d) (d1 : d ≤ 9223372036854775807) (hd : d ≠ 0) (D1 : DivAt 0 (ab v / 18446744073709551616) (ab d)) (D2 : DivAt (ab v / 18446744073709551616 % ab d) (lo (ab v)) (ab d)) (w : World) :
    Calls Tryz.prog 59 #[.agg #[.int .i64 (hi v), .int .u64 (lo v)], .int .i64 d] w fun e w' => e = .returned (.tuple #[.agg #[.int .i64 (hi (quo v d)), .int .u64 (lo (quo v d))], .bool true]) ∧ Below w.heap.size w w' := by
  have hd' : (d == 0) = false := beq_eq_false_iff_ne.2 hd
  obtain ⟨b0, b1⟩ := ab_d d d0 d1 hd
  have hlo : lo (ab d) = ab d := lo_small _ (by omega) (by omega)
  have a0 := ab_ge v
  have a1 := ab_le v v0 v1
  have DD := divide_of (ab v) (ab d) a0 a1 b0 (by omega) D1 D2
  have r0 := Int.emod_nonneg (ab v) (show ab d ≠ 0 by omega)
  have r1 := Int.emod_lt_of_pos (ab v) (show 0 < ab d by omega)
  clear D1 D2 hd
  have HQ : Hid (quo v d = if (decide (v < 0) != decide (d < 0)) = true then -(if gu (c3 (2 * (ab v % ab d)) (ab d)) (lo (ab v / ab d)) = true then ab v / ab d + 1 else ab v / ab d) else (if gu (c3 (2 * (ab v % ab d)) (ab d)) (lo (ab v / ab d)) = true then ab v / ab d + 1 else ab v / ab d)) := by
    show quo v d = _
    rfl
  have hs : decide (hi v < 0) = decide (v < 0) := by
    by_cases h : v < 0
    · rw [decide_eq_true h, decide_eq_true (hi_neg v v0 h)]
    · rw [decide_eq_false h, decide_eq_false (hi_pos v (by omega) v1)]
  have HS : Hid (decide (hi v < 0) = decide (v < 0)) := hs
  clear hs
  have hfd := run_field_lo
  go_enter Tryz.func59, Tryz.ntmps59
  go_wp2_with fail
  refine (of_any d d0 d1 _).mono ?_
  rintro e w1 ⟨rfl, hb⟩
  have K1 := (Kp.start w _ _ _).later hb
  clear hb
  go_wp2_with fail
  refine (size_any d (by omega) (by omega) _).mono ?_
  rintro e w2 ⟨rfl, hb⟩
  have K2 := K1.later hb
  clear hb K1
  have ca0 := K2.ca0
  have ca1 := K2.ca1
  go_wp2_with fail
  refine (size_any v v0 v1 _).mono ?_
  rintro e w3 ⟨rfl, hb⟩
  have K3 := K2.later hb
  clear hb K2 ca0 ca1
  go_wp2_with fail
  refine (DD _).mono ?_
  rintro e w4 ⟨rfl, hb⟩
  have K4 := K3.later hb
  clear hb K3 DD hlo
  generalize ab v / ab d = Q at *
  generalize ab v % ab d = R at *
  generalize ab d = D at *
  have hw2 : IntKind.u64.wrap (2 * R) = 2 * R := by rw [IntKind.wrap_u64]; omega
  have hlq := lo_ge Q
  go_upto_region 5 with fail
  have B4 := Bx.new w4 (.int .i64 (hi Q)) (.int .u64 (lo Q)) 85
  have K5 := K4.alloc (.cells #[.int .i64 (hi Q), .int .u64 (lo Q)] 85)
  have hlt := K4.lt
  clear K4
  generalize w4.alloc (.cells #[.int .i64 (hi Q), .int .u64 (lo Q)] 85) = W5 at *
  generalize w4.heap.size = b7 at *
  have q1 := fun x y => cell_regrown B4.c1 x y
  refine wp_region_quiet_below (by kernel_rfl) (by kernel_rfl) ?_
  repeat (quiet_step (first | (go_at_call 78; exact Calls.regrown_same (cmpu_any (2 * R) D _)) | (go_at_call 77; exact Calls.regrown_same (goesUp_any _ _ hlq _))))
  refine wpQuiet_nil ?_
  intro wd hw'
  have hB2 : Below W5.heap.size W5 wd := by obtain ⟨⟨dq, osq⟩, rfl⟩ := hw'; exact below_regrown W5 dq osq
  have B5 := B4.later hB2
  have K6 := K5.later hB2
  clear hw' hB2 B4 K5 q1 hw2
  go_upto_if 29 with fail
  go_cut [] (fun wc => ∃ Q' : Int, Hid (Q' = if gu (c3 (2 * R) D) (lo Q) = true then Q + 1 else Q) ∧ Kp w (.int .i64 (hi v)) (.int .u64 (lo v)) wc ∧ Bx b7 (.int .i64 (hi Q')) (.int .u64 (lo Q')) wc)
  case first =>
    by_cases hG : gu (c3 (2 * R) D) (lo Q) = true
    · have x0 := B5.c0
      have x1 := B5.c1
      rw [hG]
      have B5d : Bx b7 (.int .i64 (hi Q)) (.int .u64 (lo Q)) wd.drew := ⟨x0, x1, B5.f0, B5.f1⟩
      go_wp2_with fail
      go_region_with (first | (go_at_call 46; refine (of_any 1 (by omega) (by omega) _).mono ?_; rintro e w2 ⟨rfl, hb2⟩; have B6 := B5d.later hb2; have y0 := B6.c0; have y1 := B6.c1; have y2 := B6.f0; have y3 := B6.f1) | (go_at_call 58; refine (add_any Q 1 _).mono ?_; rintro e w3 ⟨rfl, hb3⟩; have B7 := B6.later hb3; have z0 := B7.c0; have z1 := B7.c1; have z2 := B7.f0; have z3 := B7.f1))
      all_goals (go_wp2_with fail)
      all_goals go_meet
      all_goals exact ⟨Q + 1, by show Q + 1 = _; rw [if_pos hG], ((K6.later (w2 := wd.drew) ((Below.refl _ _).drew)).later hb2 |>.later hb3).set hlt _ _, B7.set _ _⟩
    · have hG' : gu (c3 (2 * R) D) (lo Q) = false := by simpa using hG
      rw [hG']
      go_wp2_with fail
      go_meet
      exact ⟨Q, by show Q = _; rw [if_neg hG], K6, B5⟩
  case rest =>
    obtain ⟨Q', HQ', K7, B7⟩ := hcut
    have ca0 := K7.ca0
    have x0 := B7.c0
    have x1 := B7.c1
    have cr0 := K7.cr0
    have cr1 := K7.cr1
    have fr0 := K7.fr0
    have fr1 := K7.fr1
    by_cases hT : (decide (v < 0) != decide (d < 0)) = true
    · have hT' : (decide (hi v < 0) == decide (d < 0)) = false := by rw [HS.out]; simpa using hT
      have HV : Hid (quo v d = -Q') := by show quo v d = -Q'; rw [HQ.out, if_pos hT, HQ'.out]
      clear HQ HQ' hT
      go_wp2_with fail
      refine (neg_any Q' _).mono ?_
      rintro e w8 ⟨rfl, hb⟩
      have K8 := K7.later hb
      have B8 := B7.later hb
      clear hb K7 B7 ca0 x0 x1 cr0 cr1 fr0 fr1
      have x0 := B8.c0
      have x1 := B8.c1
      have x2 := B8.f0
      have x3 := B8.f1
      have cr0 := K8.cr0
      have cr1 := K8.cr1
      have fr0 := K8.fr0
      have fr1 := K8.fr1
      have hne : w.heap.size + 1 ≠ b7 := by omega
      have hne' : b7 ≠ w.heap.size + 1 := by omega
      go_wp2_with fail
      exact bodyPost_ret (v := .tuple #[.agg #[.int .i64 (hi (quo v d)), .int .u64 (lo (quo v d))], .bool true]) (by rw [HV.out]; simp [results, Tryz.results59, go_sem, cr0, cr1]) rfl ⟨rfl, ((K8.set hlt _ _).bel.setCell (by dsimp only; omega) _).setCell (by dsimp only; omega) _⟩
    · have hT' : (decide (hi v < 0) == decide (d < 0)) = true := by rw [HS.out]; simpa using hT
      have HV : Hid (quo v d = Q') := by show quo v d = Q'; rw [HQ.out, if_neg hT, HQ'.out]
      clear HQ HQ' hT
      go_wp2_with fail
      exact bodyPost_ret (v := .tuple #[.agg #[.int .i64 (hi (quo v d)), .int .u64 (lo (quo v d))], .bool true]) (by rw [HV.out]; simp [results, Tryz.results59, go_sem, cr0, cr1]) rfl ⟨rfl, (K7.bel.setCell (by dsimp only; omega) _).setCell (by dsimp only; omega) _⟩

end Go.Proofs.YtdfjnbkkdgolnabGreatDoor
set_option linter.unusedVariables false
set_option linter.unusedSimpArgs false
namespace Go.Proofs.YtdfjnbkkdgolnabGreatDoor
open Go.RowKit

theorem len_fin0 (y : Int) (y1 : y < 256) : wrap64 ((bitLen y.toNat : Nat) : Int) = ((bitLen y.toNat : Nat) : Int) := by
  have h := bitLen_le8 y.toNat (by omega)
  rw [w64, sg_id _ (by omega) (by omega)]
theorem len_fin (K : Nat) (x y : Int) (hK : K ≤ 56) (x0 : 0 ≤ x) (hy : x.toNat / 2 ^ K = y.toNat) (y0 : 1 ≤ y) (y1 : y < 256) : wrap64 ((K : Int) + wrap64 ((bitLen y.toNat : Nat) : Int)) = ((bitLen x.toNat : Nat) : Int) := by
  have h := bitLen_le8 y.toNat (by omega)
  have s := bitLen_shift x.toNat K (by omega)
  rw [hy] at s
  rw [len_fin0 y y1, w64, sg_id _ (by omega) (by omega), s]
  omega

set_option maxHeartbeats 1000000 in
set_option maxRecDepth 1000000 in
theorem len64_0 (x : Int) (h0 : 0 ≤ x) (h1 : x < 256) (w : World) :
    Calls Tryz.prog 109 #[.int .u64 x] w fun e w' => e = .returned (.int .i64 ((bitLen x.toNat : Nat) : Int)) ∧ w' = w := by
  have F : Hid (wrap64 ((bitLen (x).toNat : Nat) : Int) = ((bitLen x.toNat : Nat) : Int)) := len_fin0 x h1
  go_enter Tryz.func109, Tryz.ntmps109
  go_wp2
  simp only [len8tab_get]
  rw [F.out, F.out]
  go_ret
  exact ⟨rfl, rfl⟩
set_option maxHeartbeats 1000000 in
set_option maxRecDepth 1000000 in
theorem len64_8 (x : Int) (h0 : 256 ≤ x) (h1 : x < 65536) (w : World) :
    Calls Tryz.prog 109 #[.int .u64 x] w fun e w' => e = .returned (.int .i64 ((bitLen x.toNat : Nat) : Int)) ∧ w' = w := by
  have F : Hid (wrap64 ((8 : Int) + wrap64 ((bitLen (x / 256).toNat : Nat) : Int)) = ((bitLen x.toNat : Nat) : Int)) := len_fin 8 x (x / 256) (by omega) (by omega) (by omega) (by omega) (by omega)
  go_enter Tryz.func109, Tryz.ntmps109
  go_wp2
  simp only [len8tab_get]
  rw [F.out]
  go_ret
  exact ⟨rfl, rfl⟩
set_option maxHeartbeats 1000000 in
set_option maxRecDepth 1000000 in
theorem len64_16 (x : Int) (h0 : 65536 ≤ x) (h1 : x < 16777216) (w : World) :
    Calls Tryz.prog 109 #[.int .u64 x] w fun e w' => e = .returned (.int .i64 ((bitLen x.toNat : Nat) : Int)) ∧ w' = w := by
  have F : Hid (wrap64 ((16 : Int) + wrap64 ((bitLen (x / 65536).toNat : Nat) : Int)) = ((bitLen x.toNat : Nat) : Int)) := len_fin 16 x (x / 65536) (by omega) (by omega) (by omega) (by omega) (by omega)
  go_enter Tryz.func109, Tryz.ntmps109
  go_wp2
  simp only [len8tab_get]
  rw [F.out]
  go_ret
  exact ⟨rfl, rfl⟩
set_option maxHeartbeats 1000000 in
set_option maxRecDepth 1000000 in
theorem len64_24 (x : Int) (h0 : 16777216 ≤ x) (h1 : x < 4294967296) (w : World) :
    Calls Tryz.prog 109 #[.int .u64 x] w fun e w' => e = .returned (.int .i64 ((bitLen x.toNat : Nat) : Int)) ∧ w' = w := by
  have F : Hid (wrap64 ((24 : Int) + wrap64 ((bitLen (x / 65536 / 256).toNat : Nat) : Int)) = ((bitLen x.toNat : Nat) : Int)) := len_fin 24 x (x / 65536 / 256) (by omega) (by omega) (by omega) (by omega) (by omega)
  go_enter Tryz.func109, Tryz.ntmps109
  go_wp2
  simp only [len8tab_get]
  rw [F.out]
  go_ret
  exact ⟨rfl, rfl⟩
set_option maxHeartbeats 1000000 in
set_option maxRecDepth 1000000 in
theorem len64_32 (x : Int) (h0 : 4294967296 ≤ x) (h1 : x < 1099511627776) (w : World) :
    Calls Tryz.prog 109 #[.int .u64 x] w fun e w' => e = .returned (.int .i64 ((bitLen x.toNat : Nat) : Int)) ∧ w' = w := by
  have F : Hid (wrap64 ((32 : Int) + wrap64 ((bitLen (x / 4294967296).toNat : Nat) : Int)) = ((bitLen x.toNat : Nat) : Int)) := len_fin 32 x (x / 4294967296) (by omega) (by omega) (by omega) (by omega) (by omega)
  go_enter Tryz.func109, Tryz.ntmps109
  go_wp2
  simp only [len8tab_get]
  rw [F.out]
  go_ret
  exact ⟨rfl, rfl⟩
set_option maxHeartbeats 1000000 in
set_option maxRecDepth 1000000 in
theorem len64_40 (x : Int) (h0 : 1099511627776 ≤ x) (h1 : x < 281474976710656) (w : World) :
    Calls Tryz.prog 109 #[.int .u64 x] w fun e w' => e = .returned (.int .i64 ((bitLen x.toNat : Nat) : Int)) ∧ w' = w := by
  have F : Hid (wrap64 ((40 : Int) + wrap64 ((bitLen (x / 4294967296 / 256).toNat : Nat) : Int)) = ((bitLen x.toNat : Nat) : Int)) := len_fin 40 x (x / 4294967296 / 256) (by omega) (by omega) (by omega) (by omega) (by omega)
  go_enter Tryz.func109, Tryz.ntmps109
  go_wp2
  simp only [len8tab_get]
  rw [F.out]
  go_ret
  exact ⟨rfl, rfl⟩
set_option maxHeartbeats 1000000 in
set_option maxRecDepth 1000000 in
theorem len64_48 (x : Int) (h0 : 281474976710656 ≤ x) (h1 : x < 72057594037927936) (w : World) :
    Calls Tryz.prog 109 #[.int .u64 x] w fun e w' => e = .returned (.int .i64 ((bitLen x.toNat : Nat) : Int)) ∧ w' = w := by
  have F : Hid (wrap64 ((48 : Int) + wrap64 ((bitLen (x / 4294967296 / 65536).toNat : Nat) : Int)) = ((bitLen x.toNat : Nat) : Int)) := len_fin 48 x (x / 4294967296 / 65536) (by omega) (by omega) (by omega) (by omega) (by omega)
  go_enter Tryz.func109, Tryz.ntmps109
  go_wp2
  simp only [len8tab_get]
  rw [F.out]
  go_ret
  exact ⟨rfl, rfl⟩
set_option maxHeartbeats 1000000 in
set_option maxRecDepth 1000000 in
theorem len64_56 (x : Int) (h0 : 72057594037927936 ≤ x) (h1 : x < 18446744073709551616) (w : World) :
    Calls Tryz.prog 109 #[.int .u64 x] w fun e w' => e = .returned (.int .i64 ((bitLen x.toNat : Nat) : Int)) ∧ w' = w := by
  have F : Hid (wrap64 ((56 : Int) + wrap64 ((bitLen (x / 4294967296 / 65536 / 256).toNat : Nat) : Int)) = ((bitLen x.toNat : Nat) : Int)) := len_fin 56 x (x / 4294967296 / 65536 / 256) (by omega) (by omega) (by omega) (by omega) (by omega)
  go_enter Tryz.func109, Tryz.ntmps109
  go_wp2
  simp only [len8tab_get]
  rw [F.out]
  go_ret
  exact ⟨rfl, rfl⟩
theorem len64_any (x : Int) (h0 : 0 ≤ x) (h1 : x ≤ 18446744073709551615) (w : World) :
    Calls Tryz.prog 109 #[.int .u64 x] w fun e w' => e = .returned (.int .i64 ((bitLen x.toNat : Nat) : Int)) ∧ w' = w := by
  by_cases c0 : x < 256
  · exact len64_0 x (by omega) c0 w
  by_cases c8 : x < 65536
  · exact len64_8 x (by omega) c8 w
  by_cases c16 : x < 16777216
  · exact len64_16 x (by omega) c16 w
  by_cases c24 : x < 4294967296
  · exact len64_24 x (by omega) c24 w
  by_cases c32 : x < 1099511627776
  · exact len64_32 x (by omega) c32 w
  by_cases c40 : x < 281474976710656
  · exact len64_40 x (by omega) c40 w
  by_cases c48 : x < 72057594037927936
  · exact len64_48 x (by omega) c48 w
  exact len64_56 x (by omega) (by omega) w

theorem bitLen_rng (x : Int) (h0 : 1 ≤ x) (h1 : x ≤ 18446744073709551615) : 1 ≤ bitLen x.toNat ∧ bitLen x.toNat ≤ 64 := by
  obtain ⟨a, b⟩ := bitLen_spec x.toNat
  have b := b (by omega)
  constructor
  · rcases Nat.eq_zero_or_pos (bitLen x.toNat) with h | h
    · rw [h] at a; omega
    · exact h
  · rcases Nat.lt_or_ge 64 (bitLen x.toNat) with h | h
    · have : 2 ^ 64 ≤ 2 ^ (bitLen x.toNat - 1) := Nat.pow_le_pow_right (by omega) (by omega)
      omega
    · exact h

set_option maxHeartbeats 400000 in
theorem lz64_any (x : Int) (h0 : 1 ≤ x) (h1 : x ≤ 18446744073709551615) (w : World) :
    Calls Tryz.prog 102 #[.int .u64 x] w fun e w' => e = .returned (.int .i64 (64 - ((bitLen x.toNat : Nat) : Int))) ∧ w' = w := by
  obtain ⟨r0, r1⟩ := bitLen_rng x h0 h1
  have q1 : ((bitLen x.toNat : Nat) : Int) ≤ 64 := by omega
  have L := fun W => len64_any x (by omega) h1 W
  generalize bitLen x.toNat = b at *
  go_enter Tryz.func102, Tryz.ntmps102
  go_wp2_with fail
  refine (L _).mono ?_
  rintro e w1 ⟨rfl, hw⟩
  subst hw
  clear L
  go_wp2
  go_ret
  exact ⟨rfl, rfl⟩

/-- y brought up to its highest bit. -/
theorem norm_rng (y : Int) (h0 : 1 ≤ y) (h1 : y ≤ 18446744073709551615) : 9223372036854775808 ≤ y * 2 ^ (64 - bitLen y.toNat) ∧ y * 2 ^ (64 - bitLen y.toNat) ≤ 18446744073709551615 := by
  obtain ⟨r0, r1⟩ := bitLen_rng y h0 h1
  obtain ⟨a, b⟩ := bitLen_spec y.toNat
  have b := b (by omega)
  obtain ⟨Y, rfl⟩ := Int.eq_ofNat_of_zero_le (show 0 ≤ y by omega)
  rw [Int.toNat_natCast] at *
  generalize bitLen Y = n at *
  have e1 : 2 ^ (n - 1) * 2 ^ (64 - n) = 2 ^ 63 := by rw [← Nat.pow_add]; congr 1; omega
  have e2 : 2 ^ n * 2 ^ (64 - n) = 2 ^ 64 := by rw [← Nat.pow_add]; congr 1; omega
  have g1 := Nat.mul_le_mul_right (2 ^ (64 - n)) b
  have g2 := Nat.mul_lt_mul_of_pos_right a (show 0 < 2 ^ (64 - n) from Nat.two_pow_pos _)
  have e3 : (Y : Int) * 2 ^ (64 - n) = ((Y * 2 ^ (64 - n) : Nat) : Int) := by rw [Int.natCast_mul, Int.natCast_pow]; rfl
  rw [e3]
  omega

end Go.Proofs.YtdfjnbkkdgolnabGreatDoor
set_option linter.unusedVariables false
set_option linter.unusedSimpArgs false
namespace Go.Proofs.YtdfjnbkkdgolnabGreatDoor
open Go.RowKit
set_option maxHeartbeats 2000000 in
theorem div64_core (h l y : Int) (s : Nat) (V Y1 Y0 U T T1 T0 : Int) (h0 : 1 ≤ h) (hy : h < y) (hs1 : s ≤ 63)
    (r1 : IntKind.u64.wrap (y * 2 ^ s) = V) (r2 : V / 4294967296 = Y1) (r3 : bits .and .u64 V 4294967295 = Y0)
    (r4 : bits .or .u64 (IntKind.u64.wrap (h * 2 ^ s)) (l / 2 ^ (64 - s)) = U)
    (r5 : IntKind.u64.wrap (l * 2 ^ s) = T) (r6 : T / 4294967296 = T1) (r7 : bits .and .u64 T 4294967295 = T0)
    (g : KG V Y1 Y0 U T1) (z0 : 0 ≤ T0) (z1 : T0 ≤ 4294967295)
    (L : ∀ W : World, Calls Tryz.prog 102 #[.int .u64 y] W fun e w' => e = .returned (.int .i64 (s : Int)) ∧ w' = W) (w : World) :
    Calls Tryz.prog 93 #[.int .u64 h, .int .u64 l, .int .u64 y] w fun e w' => e = .returned (.tuple #[.int .u64 ((U * 4294967296 + T1) / V * 4294967296 + ((U * 4294967296 + T1) % V * 4294967296 + T0) / V), .int .u64 (((U * 4294967296 + T1) % V * 4294967296 + T0) % V / 2 ^ s)]) ∧ Below w.heap.size w w' := by
  have t1 : (y == 0) = false := beq_eq_false_iff_ne.2 (by omega)
  have t2 : (h == 0) = false := beq_eq_false_iff_ne.2 (by omega)
  have t3 : ¬ y ≤ h := by omega
  have k1 : min s 64 = s := by omega
  have k2 : min (64 - (s : Int)).toNat 64 = 64 - s := by omega
  have y10 := g.half.1
  have y11 := g.half.2
  have u0 := g.u0
  have u1 : U ≤ 18446744073709551615 := by have := g.u1; have := g.v1; omega
  have tt0 := g.t0
  have tt1 := g.t1
  have w0 := g.y0
  have w1 := g.y1
  have S := KI.start g
  have m0 : IntKind.u64.wrap (U / Y1 * Y1) = U / Y1 * Y1 := by
    rw [IntKind.wrap_u64]; have := S.r0; have := S.e; have := Int.mul_nonneg S.q0 (show 0 ≤ Y1 by omega); omega
  have m1 : IntKind.u64.wrap (U - U / Y1 * Y1) = U - U / Y1 * Y1 := by
    rw [IntKind.wrap_u64]; have := S.r0; have := S.r1; omega
  have SH : Hid (KI V Y1 Y0 U T1 (U / Y1) (U - U / Y1 * Y1)) := S
  clear S
  go_enter Tryz.func93, Tryz.ntmps93
  go_wp2_with fail
  refine (L _).mono ?_
  rintro e w9 ⟨rfl, hw⟩
  subst hw
  clear L
  go_upto_block 0 with fail
  go_cut [15, 16] (fun a b wc => a = .int .u64 ((U * 4294967296 + T1) / V) ∧ wc = w9)
  case first =>
    have tl : ∀ x : Int, Hid (x = x) := fun x => rfl
    clear r1 r2 r3 r4 r5 r6 r7 m0 m1 k1 k2 t1 t2 t3 tl
    go_wp2_with fail
    go_loop [15, 16] (fun a b => ∃ q r : Int, a = .int .u64 q ∧ b = .int .u64 r ∧ Hid (KI V Y1 Y0 U T1 q r)) (fun a _ => (intOf a).toNat)
    case atStart => exact ⟨_, _, rfl, rfl, SH⟩
    case round =>
      obtain ⟨q, r, rfl, rfl, HK⟩ := hrel
      have q0 := HK.out.q0
      have q1 := HK.out.q1
      have r0 := HK.out.r0
      have r1 := HK.out.r1
      have ql := g.qlt
      by_cases c1 : 4294967296 ≤ q
      · clear ql
        by_cases c3 : 4294967296 ≤ r + Y1
        · go_wp2
          go_meet
          exact ⟨congrArg (Value.int .u64) (KI.break g HK.out (Or.inl c1) c3), rfl⟩
        · have HN : Hid (KI V Y1 Y0 U T1 (q - 1) (r + Y1)) := KI.next g HK.out (Or.inl c1) (by omega)
          go_wp2
          go_round
          case rel => exact ⟨q - 1, r + Y1, rfl, rfl, HN⟩
          case measure => simp [intOf]; omega
      · obtain ⟨P, hP⟩ : ∃ P, q * Y0 = P := ⟨_, rfl⟩
        have P0 : 0 ≤ P := by rw [← hP]; exact Int.mul_nonneg q0 w0
        have P1 : P ≤ 18446744073709551615 := by
          have := Int.mul_le_mul (show q ≤ 4294967295 by omega) w1 w0 (show (0 : Int) ≤ 4294967295 by omega)
          omega
        have HP : Hid (q * Y0 = P) := hP
        have hw : IntKind.u64.wrap (q * Y0) = P := by rw [hP, IntKind.wrap_u64]; omega
        clear hP ql
        by_cases c2 : 4294967296 * r + T1 < P
        · have q2 : 1 ≤ q := by
            have := g.qlt
            have := KI.less g HK.out (Or.inr (by rw [HP.out]; exact c2))
            omega
          by_cases c3 : 4294967296 ≤ r + Y1
          · go_wp2
            go_meet
            exact ⟨congrArg (Value.int .u64) (KI.break g HK.out (Or.inr (by rw [HP.out]; exact c2)) c3), rfl⟩
          · have HN : Hid (KI V Y1 Y0 U T1 (q - 1) (r + Y1)) := KI.next g HK.out (Or.inr (by rw [HP.out]; exact c2)) (by omega)
            go_wp2
            go_round
            case rel => exact ⟨q - 1, r + Y1, rfl, rfl, HN⟩
            case measure => simp [intOf]; omega
        · go_wp2
          go_meet
          exact ⟨congrArg (Value.int .u64) (KI.stop g HK.out (by rw [HP.out]; omega)), rfl⟩

  case rest =>
    obtain ⟨rfl, rfl⟩ := hcut
    obtain ⟨q10, q11⟩ := g.qlt
    obtain ⟨hl1, hl2, hl3⟩ := g.left rfl
    obtain ⟨Q1, hQ1⟩ : ∃ Q1, (U * 4294967296 + T1) / V = Q1 := ⟨_, rfl⟩
    obtain ⟨U2, hU2⟩ : ∃ U2, (U * 4294967296 + T1) % V = U2 := ⟨_, rfl⟩
    rw [hQ1] at q10 q11 hl1
    rw [hU2] at hl1 hl2 hl3
    rw [hQ1]
    have HQ1 : Hid ((U * 4294967296 + T1) / V = Q1) := hQ1
    have HU2 : Hid ((U * 4294967296 + T1) % V = U2) := hU2
    have HL : Hid (U * 4294967296 + T1 - Q1 * V = U2) := hl1
    clear hQ1 hU2 hl1 m0 m1 SH
    have vv1 := g.v1
    have vv0 := g.v0
    have e21 : IntKind.u64.wrap (IntKind.u64.wrap (IntKind.u64.wrap (U * 4294967296) + T1) - IntKind.u64.wrap (Q1 * V)) = U2 := by
      have := wrap_left (U * 4294967296 + T1) (Q1 * V) U2 HL.out hl2 (by omega)
      simp only [IntKind.wrap_u64]
      rw [← this]
      omega
    have g2 : KG V Y1 Y0 U2 T0 := ⟨g.v0, g.v1, g.vv, g.y0, g.y1, hl2, hl3, z0, z1⟩
    have S := KI.start g2
    have m0 : IntKind.u64.wrap (U2 / Y1 * Y1) = U2 / Y1 * Y1 := by
      rw [IntKind.wrap_u64]; have := S.r0; have := S.e; have := Int.mul_nonneg S.q0 (show 0 ≤ Y1 by omega); omega
    have m1 : IntKind.u64.wrap (U2 - U2 / Y1 * Y1) = U2 - U2 / Y1 * Y1 := by
      rw [IntKind.wrap_u64]; have := S.r0; have := S.r1; omega
    have SH : Hid (KI V Y1 Y0 U2 T0 (U2 / Y1) (U2 - U2 / Y1 * Y1)) := S
    clear S
    go_upto_block 2 with fail
    go_cut [18, 16] (fun a b wd => a = .int .u64 ((U2 * 4294967296 + T0) / V) ∧ wd = wc)
    case first =>
      clear r1 r2 r3 r4 r5 r6 r7 m0 m1 k1 k2 t1 t2 t3 e21 u0 u1
      go_wp2_with fail
      go_loop [18, 16] (fun a b => ∃ q r : Int, a = .int .u64 q ∧ b = .int .u64 r ∧ Hid (KI V Y1 Y0 U2 T0 q r)) (fun a _ => (intOf a).toNat)
      case atStart => exact ⟨_, _, rfl, rfl, SH⟩
      case round =>
        obtain ⟨q, r, rfl, rfl, HK⟩ := hrel
        have q0 := HK.out.q0
        have q1 := HK.out.q1
        have r0 := HK.out.r0
        have r1 := HK.out.r1
        have ql := g2.qlt
        by_cases c1 : 4294967296 ≤ q
        · clear ql
          by_cases c3 : 4294967296 ≤ r + Y1
          · go_wp2
            go_meet
            exact ⟨congrArg (Value.int .u64) (KI.break g2 HK.out (Or.inl c1) c3), rfl⟩
          · have HN : Hid (KI V Y1 Y0 U2 T0 (q - 1) (r + Y1)) := KI.next g2 HK.out (Or.inl c1) (by omega)
            go_wp2
            go_round
            case rel => exact ⟨q - 1, r + Y1, rfl, rfl, HN⟩
            case measure => simp [intOf]; omega
        · obtain ⟨P, hP⟩ : ∃ P, q * Y0 = P := ⟨_, rfl⟩
          have P0 : 0 ≤ P := by rw [← hP]; exact Int.mul_nonneg q0 w0
          have P1 : P ≤ 18446744073709551615 := by
            have := Int.mul_le_mul (show q ≤ 4294967295 by omega) w1 w0 (show (0 : Int) ≤ 4294967295 by omega)
            omega
          have HP : Hid (q * Y0 = P) := hP
          have hw : IntKind.u64.wrap (q * Y0) = P := by rw [hP, IntKind.wrap_u64]; omega
          clear hP ql
          by_cases c2 : 4294967296 * r + T0 < P
          · have q2 : 1 ≤ q := by
              have := g2.qlt
              have := KI.less g2 HK.out (Or.inr (by rw [HP.out]; exact c2))
              omega
            by_cases c3 : 4294967296 ≤ r + Y1
            · go_wp2
              go_meet
              exact ⟨congrArg (Value.int .u64) (KI.break g2 HK.out (Or.inr (by rw [HP.out]; exact c2)) c3), rfl⟩
            · have HN : Hid (KI V Y1 Y0 U2 T0 (q - 1) (r + Y1)) := KI.next g2 HK.out (Or.inr (by rw [HP.out]; exact c2)) (by omega)
              go_wp2
              go_round
              case rel => exact ⟨q - 1, r + Y1, rfl, rfl, HN⟩
              case measure => simp [intOf]; omega
          · go_wp2
            go_meet
            exact ⟨congrArg (Value.int .u64) (KI.stop g2 HK.out (by rw [HP.out]; omega)), rfl⟩


    case rest =>
      obtain ⟨rfl, rfl⟩ := hcut
      obtain ⟨q20, q21⟩ := g2.qlt
      obtain ⟨hm1, hm2, hm3⟩ := g2.left rfl
      obtain ⟨Q0, hQ0⟩ : ∃ Q0, (U2 * 4294967296 + T0) / V = Q0 := ⟨_, rfl⟩
      obtain ⟨R, hR⟩ : ∃ R, (U2 * 4294967296 + T0) % V = R := ⟨_, rfl⟩
      rw [hQ0] at q20 q21 hm1
      rw [hR] at hm1 hm2 hm3
      rw [hQ0]
      have e22 : IntKind.u64.wrap (IntKind.u64.wrap (IntKind.u64.wrap (U2 * 4294967296) + T0) - IntKind.u64.wrap (Q0 * V)) = R := by
        have := wrap_left (U2 * 4294967296 + T0) (Q0 * V) R hm1 hm2 (by omega)
        simp only [IntKind.wrap_u64]
        rw [← this]
        omega
      have HF : Hid ((U * 4294967296 + T1) / V * 4294967296 + ((U * 4294967296 + T1) % V * 4294967296 + T0) / V = Q1 * 4294967296 + Q0 ∧ ((U * 4294967296 + T1) % V * 4294967296 + T0) % V / 2 ^ s = R / 2 ^ s) := by
        show _ ∧ _
        rw [HQ1.out, HU2.out, hQ0, hR]
        exact ⟨rfl, rfl⟩
      clear hQ0 hR hm1 m0 m1 SH e21 r2 r3 r4 r5 r6 r7 r1 k2 t1 t2 t3
      go_wp2
      go_ret2
      exact ⟨by rw [HF.out.1, HF.out.2]; rfl, Below.refl _ _⟩
end Go.Proofs.YtdfjnbkkdgolnabGreatDoor
set_option linter.unusedVariables false
set_option linter.unusedSimpArgs false
namespace Go.Proofs.YtdfjnbkkdgolnabGreatDoor
open Go.RowKit

theorem or_u64' (X Y : Int) (n : Nat) (hn : n ≤ 64) (hX : X % 2 ^ n = 0) (x0 : 0 ≤ X) (x1 : X < 18446744073709551616) (h0 : 0 ≤ Y) (h1 : Y < 2 ^ n) (hs : X + Y < 18446744073709551616) : bits .or .u64 X Y = X + Y := by
  have hc : bits .or .u64 X Y = bits .or .u64 Y X := by simp only [bits, BitVec.or_comm]
  rw [hc, or_u64 X Y n hn hX x0 x1 h0 h1 hs, Int.add_comm]

theorem div64_any (h l y : Int) (h0 : 0 ≤ h) (hy : h < y) (l0 : 0 ≤ l) (l1 : l ≤ 18446744073709551615) (y1 : y ≤ 18446744073709551615) : DivAt h l y := by
  by_cases hz : h = 0
  · subst hz
    exact div64_zero l y l0 l1 (by omega) y1
  · intro w
    obtain ⟨b0, b1⟩ := bitLen_rng y (by omega) y1
    obtain ⟨v0, v1⟩ := norm_rng y (by omega) y1
    have L := fun W => lz64_any y (by omega) y1 W
    obtain ⟨s, hs⟩ : ∃ s : Nat, 64 - bitLen y.toNat = s := ⟨_, rfl⟩
    rw [hs] at v0 v1
    have hs1 : s ≤ 63 := by omega
    have L' : ∀ W : World, Calls Tryz.prog 102 #[.int .u64 y] W fun e w' => e = .returned (.int .i64 (s : Int)) ∧ w' = W := by
      intro W
      have := L W
      rw [show (64 : Int) - ((bitLen y.toNat : Nat) : Int) = (s : Int) by omega] at this
      exact this
    clear L
    have hB := pow_split s (by omega)
    have hp := pow_pos' s
    have hq := pow_pos' (64 - s)
    obtain ⟨ub, ub2⟩ := up_below h l y _ _ hB hp hq hy h0 l0 l1
    obtain ⟨eN, d0, d1⟩ := up_words h l _ _ hB hp hq h0 l0 l1 (by omega)
    have hh0 : 0 ≤ h * 2 ^ s := Int.mul_nonneg h0 (by omega)
    have r1 : IntKind.u64.wrap (y * 2 ^ s) = y * 2 ^ s := by rw [IntKind.wrap_u64]; omega
    have r3 : bits .and .u64 (y * 2 ^ s) 4294967295 = y * 2 ^ s % 4294967296 := and_low32 _ (by omega) (by omega)
    have r4 : bits .or .u64 (IntKind.u64.wrap (h * 2 ^ s)) (l / 2 ^ (64 - s)) = h * 2 ^ s + l / 2 ^ (64 - s) := by
      rw [IntKind.wrap_u64, show h * 2 ^ s % 18446744073709551616 = h * 2 ^ s by omega]
      exact or_u64' _ _ s (by omega) (Int.mul_emod_left _ _) hh0 (by omega) d0 d1 (by omega)
    have r5 : IntKind.u64.wrap (l * 2 ^ s) = l * 2 ^ s % 18446744073709551616 := IntKind.wrap_u64 _
    have r7 : bits .and .u64 (l * 2 ^ s % 18446744073709551616) 4294967295 = l * 2 ^ s % 18446744073709551616 % 4294967296 := and_low32 _ (by omega) (by omega)
    have g : KG (y * 2 ^ s) (y * 2 ^ s / 4294967296) (y * 2 ^ s % 4294967296) (h * 2 ^ s + l / 2 ^ (64 - s)) (l * 2 ^ s % 18446744073709551616 / 4294967296) :=
      ⟨v0, v1, by omega, by omega, by omega, by omega, ub, by omega, by omega⟩
    have C := div64_core h l y s _ _ _ _ _ _ _ (by omega) hy hs1 r1 rfl r3 r4 r5 rfl r7 g (by omega) (by omega) L' w
    obtain ⟨f1, f2⟩ := two_steps (h * 18446744073709551616 + l) y (2 ^ s) (y * 2 ^ s) (h * 2 ^ s + l / 2 ^ (64 - s)) (l * 2 ^ s % 18446744073709551616) (l * 2 ^ s % 18446744073709551616 / 4294967296) (l * 2 ^ s % 18446744073709551616 % 4294967296) hp (by omega) rfl eN (by omega)
    rw [← f1, ← f2, Int.mul_ediv_cancel _ (by omega)] at C
    exact C

theorem quo_any (v d : Int) (v0 : -170141183460469231731687303715884105728 ≤ v) (v1 : v ≤ 170141183460469231731687303715884105727) (d0 : -9223372036854775808 ≤ d) (d1 : d ≤ 9223372036854775807) (hd : d ≠ 0) (w : World) :
    Calls Tryz.prog 59 #[.agg #[.int .i64 (hi v), .int .u64 (lo v)], .int .i64 d] w fun e w' => e = .returned (.tuple #[.agg #[.int .i64 (hi (quo v d)), .int .u64 (lo (quo v d))], .bool true]) ∧ Below w.heap.size w w' := by
  obtain ⟨b0, b1⟩ := ab_d d d0 d1 hd
  have a0 := ab_ge v
  have a1 := ab_le v v0 v1
  have m0 := Int.emod_nonneg (ab v / 18446744073709551616) (show ab d ≠ 0 by omega)
  have m1 := Int.emod_lt_of_pos (ab v / 18446744073709551616) (show 0 < ab d by omega)
  exact quo_of v d v0 v1 d0 d1 hd (div64_any _ _ _ (by omega) (by omega) (by omega) (by omega) (by omega)) (div64_any _ _ _ m0 m1 (lo_ge _) (lo_le _) (by omega)) w

end Go.Proofs.YtdfjnbkkdgolnabGreatDoor
set_option linter.unusedVariables false
set_option linter.unusedSimpArgs false
namespace Go.Proofs.YtdfjnbkkdgolnabGreatDoor
open Go.RowKit

theorem quo_in (v d : Int) (hd : d ≠ 0) (B : Int) (B0 : 1 ≤ B) (v0 : -B ≤ v) (v1 : v ≤ B) : -B - 1 ≤ quo v d ∧ quo v d ≤ B + 1 := by
  have h1 : 0 ≤ ab v ∧ ab v ≤ B := by unfold ab; split <;> omega
  have h2 : 1 ≤ ab d := by unfold ab; split <;> omega
  have h3 : 0 ≤ ab v / ab d := Int.ediv_nonneg h1.1 (by omega)
  have h4 : ab v / ab d ≤ ab v := Int.ediv_le_self _ h1.1
  have h5 : 0 ≤ quoA v d ∧ quoA v d ≤ B + 1 := by unfold quoA; split <;> omega
  unfold quo
  split <;> omega
end Go.Proofs.YtdfjnbkkdgolnabGreatDoor
set_option linter.unusedVariables false
namespace Go.Proofs.YtdfjnbkkdgolnabGreatDoor
open Go.ChangeShapes Go.WideShapes Go.ChangeAt Go.RowKit Go.Joins
theorem cellsExa : Tryz.prog.cellsOf 36 = 2 := by kernel_rfl
end Go.Proofs.YtdfjnbkkdgolnabGreatDoor
set_option linter.unusedVariables false
set_option linter.unusedSimpArgs false
namespace Go.Proofs.YtdfjnbkkdgolnabGreatDoor
open Go.RowKit
theorem gdC_rng (s : Bool) (z : Nat → Nat) (m : Nat) (P x t : Nat → Int) (hz : Szs z m) : 0 ≤ gdC s z m P x t ∧ gdC s z m P x t ≤ 30000 := by
  obtain ⟨m2, m6, h⟩ := hz
  have h1 := vC_rng z m P x (m - 1) (fun i hi => (h i hi).2) (by omega)
  have h2 := lsC_rng s (vN z m P x (m - 1)) t (z (m - 1))
  have h3 := slC_rng s (vN z m P x (m - 1)) t (z (m - 1))
  have h4 := bkC_rng z m P (vN z m P x) (sL z m P (vN z m P x) (slX s (vN z m P x (m - 1)) t)) (m - 1) (fun i hi => (h i hi).2) (by omega)
  have h5 := (h (m - 1) (by omega)).2
  unfold gdC
  omega
/-- How many are held of the gradients of the first n examples. -/
def bgC (s : Bool) (z : Nat → Nat) (m : Nat) (P : Nat → Int) (xs ts : Nat → Nat → Int) : Nat → Int
  | 0 => 0
  | n + 1 => bgC s z m P xs ts n + gdC s z m P (xs n) (ts n)
theorem bgC_rng (s : Bool) (z : Nat → Nat) (m : Nat) (P : Nat → Int) (xs ts : Nat → Nat → Int) (hz : Szs z m) (n : Nat) : 0 ≤ bgC s z m P xs ts n ∧ bgC s z m P xs ts n ≤ 30000 * (n : Int) := by
  induction n with
  | zero => exact ⟨Int.le_refl _, Int.le_refl _⟩
  | succ n ih =>
    have h := gdC_rng s z m P (xs n) (ts n) hz
    show 0 ≤ bgC s z m P xs ts n + gdC s z m P (xs n) (ts n) ∧ bgC s z m P xs ts n + gdC s z m P (xs n) (ts n) ≤ _
    omega
end Go.Proofs.YtdfjnbkkdgolnabGreatDoor
set_option linter.unusedVariables false
set_option linter.unusedSimpArgs false
namespace Go.Proofs.YtdfjnbkkdgolnabGreatDoor
open Go.RowKit
def mE (n : Nat) : Int := if 65536 < n then 3 else if n = 0 then 40 else 0
def mX (n : Nat) (f : Nat → Int) : Int := if mE n = 0 then clv (quo (sumV f n) (n : Int)) else 0
def mO (n : Nat) (f : Nat → Int) : Bool := if mE n = 0 then ovv (quo (sumV f n) (n : Int)) else false
end Go.Proofs.YtdfjnbkkdgolnabGreatDoor
set_option linter.unusedVariables false
set_option linter.unusedSimpArgs false
namespace Go.Proofs.YtdfjnbkkdgolnabGreatDoor
open Go.RowKit
attribute [local go_sem ↓] Go.wp_at_zero Go.wp_at_succ

end Go.Proofs.YtdfjnbkkdgolnabGreatDoor
set_option linter.unusedVariables false
set_option linter.unusedSimpArgs false
namespace Go.Proofs.YtdfjnbkkdgolnabGreatDoor
open Go.RowKit
def msX (fs : Nat → Nat → Int) (K : Nat) (i : Nat) : Int := clv (quo (sumV (fun k => fs k i) K) (K : Int))
def msO (fs : Nat → Nat → Int) (K : Nat) (i : Nat) : Bool := ovv (quo (sumV (fun k => fs k i) K) (K : Int))
end Go.Proofs.YtdfjnbkkdgolnabGreatDoor
set_option linter.unusedVariables false
set_option linter.unusedSimpArgs false
namespace Go.Proofs.YtdfjnbkkdgolnabGreatDoor
open Go.RowKit
attribute [local go_sem ↓] Go.wp_at_zero Go.wp_at_succ

end Go.Proofs.YtdfjnbkkdgolnabGreatDoor
set_option linter.unusedVariables false
set_option linter.unusedSimpArgs false
namespace Go.Proofs.YtdfjnbkkdgolnabGreatDoor
open Go.RowKit
/-- How many are held of a batch. -/
def btC (s : Bool) (z : Nat → Nat) (m cp : Nat) (P : Nat → Int) (xs ts : Nat → Nat → Int) (K : Nat) : Int := bgC s z m P xs ts K + cntV (msO (fun k => gdG s z m P (xs k) (ts k)) K) cp + bi (ovv (quo (sumV (fun k => gdX s z m P (xs k) (ts k)) K) (K : Int)))
end Go.Proofs.YtdfjnbkkdgolnabGreatDoor
set_option linter.unusedVariables false
set_option linter.unusedSimpArgs false
namespace Go.Proofs.YtdfjnbkkdgolnabGreatDoor
open Go.RowKit
set_option maxHeartbeats 1000000 in
theorem vmean_nil (v m : Int) (h0 : -170141183460469231731687303715884105728 ≤ v) (h1 : v ≤ 170141183460469231731687303715884105727) (m0 : 0 < m) (m1 : m ≤ 9223372036854775807) (q0 : -170141183460469231731687303715884105728 ≤ quo v m) (q1 : quo v m ≤ 170141183460469231731687303715884105727) (w : World) :
    Calls Tryz.prog 40 #[.pointer none, .agg #[.int .i64 (hi (v)), .int .u64 (lo (v))], .int .i64 m] w fun e w' => e = .returned (.int .i64 (clv (quo v m))) ∧ Below w.heap.size w w' := by
  have CQ : Hid (∀ W : World, Calls Tryz.prog 59 #[.agg #[.int .i64 (hi (v)), .int .u64 (lo (v))], .int .i64 m] W fun e w' => e = .returned (.tuple #[.agg #[.int .i64 (hi (quo v m)), .int .u64 (lo (quo v m))], .bool true]) ∧ Below W.heap.size W w') := fun W => quo_any v m h0 h1 (by omega) m1 (by omega) W
  have HV : Hid (∀ W : World, Calls Tryz.prog 60 #[.pointer none, .agg #[.int .i64 (hi (quo v m)), .int .u64 (lo (quo v m))]] W fun e w' => e = .returned (.int .i64 (clv (quo v m))) ∧ Below W.heap.size W w') := fun W => vhold_nil (quo v m) q0 q1 W
  obtain ⟨k0, k1⟩ := clv_fit (quo v m)
  have hmI : wrap64 m = m := by rw [w64, sg_id m (by omega) (by omega)]
  generalize clv (quo v m) = x at *
  generalize hi (quo v m) = qh at *
  generalize lo (quo v m) = ql at *
  clear q0 q1
  go_enter Tryz.func40, Tryz.ntmps40
  go_wp2_with fail
  refine (CQ.out _).mono ?_
  rintro e w1 ⟨rfl, hb⟩
  have W1 := bchain (bel1 w _) hb
  have B1 := B2.new w1 (.int .i64 qh) (.int .u64 ql) 85
  have s0 := B1.c0
  have s1 := B1.c1
  have W1' := bchain W1 (bel1 w1 (.cells #[.int .i64 qh, .int .u64 ql] 85))
  clear hb CQ B1 W1
  go_wp2_with fail
  refine (HV.out _).mono ?_
  rintro e w2 ⟨rfl, hb⟩
  have W2 := bchain W1' hb
  clear hb HV
  go_wp2
  go_ret
  exact ⟨rfl, W2⟩

set_option maxHeartbeats 1000000 in
theorem vmean_un (v m : Int) (h0 : -170141183460469231731687303715884105728 ≤ v) (h1 : v ≤ 170141183460469231731687303715884105727) (m0 : 0 < m) (m1 : m ≤ 9223372036854775807) (q0 : -170141183460469231731687303715884105728 ≤ quo v m) (q1 : quo v m ≤ 170141183460469231731687303715884105727) (d : Nat) (n : Int) (n0 : 0 ≤ n) (n1 : n ≤ 1000000000) (w : World) (c : w.cell? ⟨d, 0, none⟩ = some (.int .i64 n)) (f : w.frozen? ⟨d, 0, none⟩ = false) :
    Calls Tryz.prog 40 #[.pointer (some ⟨d, 0, none⟩), .agg #[.int .i64 (hi (v)), .int .u64 (lo (v))], .int .i64 m] w fun e w' => e = .returned (.int .i64 (clv (quo v m))) ∧ Un d (n + bi (ovv (quo v m))) w w' := by
  have CQ : Hid (∀ W : World, Calls Tryz.prog 59 #[.agg #[.int .i64 (hi (v)), .int .u64 (lo (v))], .int .i64 m] W fun e w' => e = .returned (.tuple #[.agg #[.int .i64 (hi (quo v m)), .int .u64 (lo (quo v m))], .bool true]) ∧ Below W.heap.size W w') := fun W => quo_any v m h0 h1 (by omega) m1 (by omega) W
  have HV : Hid (∀ W : World, W.cell? ⟨d, 0, none⟩ = some (.int .i64 n) → W.frozen? ⟨d, 0, none⟩ = false → Calls Tryz.prog 60 #[.pointer (some ⟨d, 0, none⟩), .agg #[.int .i64 (hi (quo v m)), .int .u64 (lo (quo v m))]] W fun e w' => e = .returned (.int .i64 (clv (quo v m))) ∧ Un d (n + bi (ovv (quo v m))) W w') := fun W hc hf => vhold_un (quo v m) q0 q1 d n n0 n1 W hc hf
  obtain ⟨k0, k1⟩ := clv_fit (quo v m)
  have hmI : wrap64 m = m := by rw [w64, sg_id m (by omega) (by omega)]
  generalize clv (quo v m) = x at *
  generalize bi (ovv (quo v m)) = z at *
  generalize hi (quo v m) = qh at *
  generalize lo (quo v m) = ql at *
  clear q0 q1
  go_enter Tryz.func40, Tryz.ntmps40
  go_wp2_with fail
  refine (CQ.out _).mono ?_
  rintro e w1 ⟨rfl, hb⟩
  have W1 := bchain (bel1 w _) hb
  have B1 := B2.new w1 (.int .i64 qh) (.int .u64 ql) 85
  have s0 := B1.c0
  have s1 := B1.c1
  have W1' := bchain W1 (bel1 w1 (.cells #[.int .i64 qh, .int .u64 ql] 85))
  have c1 := cell_later W1' c
  have f1 := frozen_later W1' c f
  clear hb CQ B1 W1
  go_wp2_with fail
  refine (HV.out _ c1 f1).mono ?_
  rintro e w2 ⟨rfl, hU⟩
  have hV := Un.after W1' hU
  clear hU c1 f1 c f HV
  go_wp2
  go_ret
  exact ⟨rfl, hV⟩

end Go.Proofs.YtdfjnbkkdgolnabGreatDoor
set_option linter.unusedVariables false
set_option linter.unusedSimpArgs false
namespace Go.Proofs.YtdfjnbkkdgolnabGreatDoor
open Go.RowKit
set_option maxHeartbeats 2000000 in
theorem Mean_un (va : Value) (n : Nat) (f : Nat → Int) (d : Nat) (c : Int) (w : World) (hn : n ≤ 70000) (c0 : 0 ≤ c) (c1 : c ≤ 900000000) (hV : VT w) (hA : Ar w va n f) (ha : Nb va d) (hU : Uc w d c) :
    Calls Tryz.prog 23 #[.pointer (some ⟨d, 0, none⟩), va] w fun e w' => e = .returned (.tuple #[.int .i64 (mX n f), .int .i64 (mE n)]) ∧ Un d (c + bi (mO n f)) w w' := by
  obtain ⟨ada, ca, ba, oa, rfl, k1, k2, -, -⟩ := id hA
  have hb0 := bel1 w (.cells #[.slice ada n ca] 23)
  obtain ⟨hc, hf⟩ := hU
  have hc' := cell_later hb0 hc
  have hf' := frozen_later hb0 hc hf
  unfold maxLen at *
  rcases (show (0 < n ∧ n ≤ 65536) ∨ 65536 < n ∨ n = 0 by omega) with ⟨h0, hl⟩ | hl | h0
  · have hs1 : ¬ (65536 : Int) < (n : Int) := by omega
    have hE : mE n = 0 := by unfold mE; rw [if_neg (by omega), if_neg (by omega)]
    have hp : (0 : Int) < (n : Int) := by omega
    have CK : Hid (Calls Tryz.prog 32 #[.bool true, .slice (some ⟨w.heap.size, 0, none⟩) 1 1] (w.alloc (.cells #[.slice ada n ca] 23)) fun e w' => e = .returned (.int .i64 0) ∧ w' = w.alloc (.cells #[.slice ada n ca] 23)) := by
      have h := check1_any true w ada n ca (by unfold maxLen; omega)
      rw [if_neg (by omega), if_pos rfl] at h
      exact h
    have CT : Hid (Calls Tryz.prog 41 #[.slice ada n ca] (w.alloc (.cells #[.slice ada n ca] 23)) fun e w' => e = .returned (.agg #[.int .i64 (hi (sumV f n)), .int .u64 (lo (sumV f n))]) ∧ Below (w.alloc (.cells #[.slice ada n ca] 23)).heap.size (w.alloc (.cells #[.slice ada n ca] 23)) w') := total_any _ n f _ (hA.later hb0)
    obtain ⟨v0, v1⟩ := sumV_rng _ n f (by omega) w hA
    obtain ⟨g0, g1⟩ := sumV_small _ n f w hA
    obtain ⟨u0, u1⟩ := quo_in (sumV f n) (n : Int) (by omega) ((n : Int) * 9223372036854775808) (by omega) g0 g1
    have CD : Hid (∀ W : World, W.cell? ⟨d, 0, none⟩ = some (.int .i64 c) → W.frozen? ⟨d, 0, none⟩ = false → Calls Tryz.prog 40 #[.pointer (some ⟨d, 0, none⟩), .agg #[.int .i64 (hi (sumV f n)), .int .u64 (lo (sumV f n))], .int .i64 (n : Int)] W fun e w' => e = .returned (.int .i64 (clv (quo (sumV f n) (n : Int)))) ∧ Un d (c + bi (ovv (quo (sumV f n) (n : Int)))) W w') := fun W x y => vmean_un (sumV f n) (n : Int) v0 v1 (by omega) (by omega) (by omega) (by omega) d c c0 (by omega) W x y
    clear v0 v1 g0 g1 u0 u1
    rw [show mX n f = clv (quo (sumV f n) (n : Int)) by unfold mX; rw [if_pos hE], show mO n f = ovv (quo (sumV f n) (n : Int)) by unfold mO; rw [if_pos hE], hE]
    generalize clv (quo (sumV f n) (n : Int)) = x at *
    generalize bi (ovv (quo (sumV f n) (n : Int))) = z at *
    generalize hi (sumV f n) = sh at *
    generalize lo (sumV f n) = sl at *
    clear hA hV hc hf ha hE
    go_enter Tryz.func23, Tryz.ntmps23
    go_wp2_with fail
    refine CK.out.mono ?_
    rintro e w1 ⟨rfl, hz⟩
    subst hz
    clear CK
    go_wp2_with fail
    refine CT.out.mono ?_
    rintro e w2 ⟨rfl, hb2⟩
    have W2 := bchain hb0 hb2
    clear CT
    have x2 := cell_later hb2 hc'
    have y2 := frozen_later hb2 hc' hf'
    clear hc' hf' hb2 hb0
    go_wp2_with fail
    refine (CD.out _ x2 y2).mono ?_
    rintro e w3 ⟨rfl, hU⟩
    have hX := Un.after W2 hU
    clear hU x2 y2 CD W2
    go_wp2
    go_ret2
    exact ⟨rfl, hX⟩
  · have hE : mE n = 3 := by unfold mE; rw [if_pos (by omega)]
    have hp : 0 < n := by omega
    have CK : Hid (Calls Tryz.prog 32 #[.bool true, .slice (some ⟨w.heap.size, 0, none⟩) 1 1] (w.alloc (.cells #[.slice ada n ca] 23)) fun e w' => e = .returned (.int .i64 3) ∧ w' = w.alloc (.cells #[.slice ada n ca] 23)) := by
      have h := check1_any true w ada n ca (by unfold maxLen; omega)
      rw [if_pos (by omega)] at h
      exact h
    rw [show mX n f = 0 by unfold mX; rw [if_neg (by rw [hE]; decide)], show mO n f = false by unfold mO; rw [if_neg (by rw [hE]; decide)], hE]
    rw [show c + bi false = c by unfold bi; simp]
    have hX := Un.after hb0 (Un.same hc' hf')
    clear hA hV hc hf ha hc' hf' hb0 hE
    go_enter Tryz.func23, Tryz.ntmps23
    go_wp2_with fail
    refine CK.out.mono ?_
    rintro e w1 ⟨rfl, hz⟩
    subst hz
    clear CK
    go_wp2
    go_ret2
    exact ⟨rfl, hX⟩
  · have hE : mE n = 40 := by unfold mE; rw [if_neg (by omega), if_pos h0]
    have hp : ¬ 0 < n := by omega
    have CK : Hid (Calls Tryz.prog 32 #[.bool false, .slice (some ⟨w.heap.size, 0, none⟩) 1 1] (w.alloc (.cells #[.slice ada n ca] 23)) fun e w' => e = .returned (.int .i64 40) ∧ w' = w.alloc (.cells #[.slice ada n ca] 23)) := by
      have h := check1_any false w ada n ca (by unfold maxLen; omega)
      rw [if_neg (by omega), if_neg (by decide)] at h
      exact h
    rw [show mX n f = 0 by unfold mX; rw [if_neg (by rw [hE]; decide)], show mO n f = false by unfold mO; rw [if_neg (by rw [hE]; decide)], hE]
    rw [show c + bi false = c by unfold bi; simp]
    have hX := Un.after hb0 (Un.same hc' hf')
    clear hA hV hc hf ha hc' hf' hb0 hE h0
    go_enter Tryz.func23, Tryz.ntmps23
    go_wp2_with fail
    refine CK.out.mono ?_
    rintro e w1 ⟨rfl, hz⟩
    subst hz
    clear CK
    go_wp2
    go_ret2
    exact ⟨rfl, hX⟩

set_option maxHeartbeats 2000000 in
theorem Mean_nil (va : Value) (n : Nat) (f : Nat → Int) (w : World) (hn : n ≤ 70000) (hV : VT w) (hA : Ar w va n f) :
    Calls Tryz.prog 23 #[.pointer none, va] w fun e w' => e = .returned (.tuple #[.int .i64 (mX n f), .int .i64 (mE n)]) ∧ Below w.heap.size w w' := by
  obtain ⟨ada, ca, ba, oa, rfl, k1, k2, -, -⟩ := id hA
  have hb0 := bel1 w (.cells #[.slice ada n ca] 23)
  unfold maxLen at *
  rcases (show (0 < n ∧ n ≤ 65536) ∨ 65536 < n ∨ n = 0 by omega) with ⟨h0, hl⟩ | hl | h0
  · have hs1 : ¬ (65536 : Int) < (n : Int) := by omega
    have hE : mE n = 0 := by unfold mE; rw [if_neg (by omega), if_neg (by omega)]
    have hp : (0 : Int) < (n : Int) := by omega
    have CK : Hid (Calls Tryz.prog 32 #[.bool true, .slice (some ⟨w.heap.size, 0, none⟩) 1 1] (w.alloc (.cells #[.slice ada n ca] 23)) fun e w' => e = .returned (.int .i64 0) ∧ w' = w.alloc (.cells #[.slice ada n ca] 23)) := by
      have h := check1_any true w ada n ca (by unfold maxLen; omega)
      rw [if_neg (by omega), if_pos rfl] at h
      exact h
    have CT : Hid (Calls Tryz.prog 41 #[.slice ada n ca] (w.alloc (.cells #[.slice ada n ca] 23)) fun e w' => e = .returned (.agg #[.int .i64 (hi (sumV f n)), .int .u64 (lo (sumV f n))]) ∧ Below (w.alloc (.cells #[.slice ada n ca] 23)).heap.size (w.alloc (.cells #[.slice ada n ca] 23)) w') := total_any _ n f _ (hA.later hb0)
    obtain ⟨v0, v1⟩ := sumV_rng _ n f (by omega) w hA
    obtain ⟨g0, g1⟩ := sumV_small _ n f w hA
    obtain ⟨u0, u1⟩ := quo_in (sumV f n) (n : Int) (by omega) ((n : Int) * 9223372036854775808) (by omega) g0 g1
    have CD : Hid (∀ W : World, Calls Tryz.prog 40 #[.pointer none, .agg #[.int .i64 (hi (sumV f n)), .int .u64 (lo (sumV f n))], .int .i64 (n : Int)] W fun e w' => e = .returned (.int .i64 (clv (quo (sumV f n) (n : Int)))) ∧ Below W.heap.size W w') := fun W => vmean_nil (sumV f n) (n : Int) v0 v1 (by omega) (by omega) (by omega) (by omega) W
    clear v0 v1 g0 g1 u0 u1
    rw [show mX n f = clv (quo (sumV f n) (n : Int)) by unfold mX; rw [if_pos hE], hE]
    generalize clv (quo (sumV f n) (n : Int)) = x at *
    generalize hi (sumV f n) = sh at *
    generalize lo (sumV f n) = sl at *
    clear hA hV hE
    go_enter Tryz.func23, Tryz.ntmps23
    go_wp2_with fail
    refine CK.out.mono ?_
    rintro e w1 ⟨rfl, hz⟩
    subst hz
    clear CK
    go_wp2_with fail
    refine CT.out.mono ?_
    rintro e w2 ⟨rfl, hb2⟩
    have W2 := bchain hb0 hb2
    clear CT
    clear hb2 hb0
    go_wp2_with fail
    refine (CD.out _).mono ?_
    rintro e w3 ⟨rfl, hb3⟩
    have hX := bchain W2 hb3
    clear hb3 CD W2
    go_wp2
    go_ret2
    exact ⟨rfl, hX⟩
  · have hE : mE n = 3 := by unfold mE; rw [if_pos (by omega)]
    have hp : 0 < n := by omega
    have CK : Hid (Calls Tryz.prog 32 #[.bool true, .slice (some ⟨w.heap.size, 0, none⟩) 1 1] (w.alloc (.cells #[.slice ada n ca] 23)) fun e w' => e = .returned (.int .i64 3) ∧ w' = w.alloc (.cells #[.slice ada n ca] 23)) := by
      have h := check1_any true w ada n ca (by unfold maxLen; omega)
      rw [if_pos (by omega)] at h
      exact h
    rw [show mX n f = 0 by unfold mX; rw [if_neg (by rw [hE]; decide)], hE]
    clear hA hV hE
    go_enter Tryz.func23, Tryz.ntmps23
    go_wp2_with fail
    refine CK.out.mono ?_
    rintro e w1 ⟨rfl, hz⟩
    subst hz
    clear CK
    go_wp2
    go_ret2
    exact ⟨rfl, hb0⟩
  · have hE : mE n = 40 := by unfold mE; rw [if_neg (by omega), if_pos h0]
    have hp : ¬ 0 < n := by omega
    have CK : Hid (Calls Tryz.prog 32 #[.bool false, .slice (some ⟨w.heap.size, 0, none⟩) 1 1] (w.alloc (.cells #[.slice ada n ca] 23)) fun e w' => e = .returned (.int .i64 40) ∧ w' = w.alloc (.cells #[.slice ada n ca] 23)) := by
      have h := check1_any false w ada n ca (by unfold maxLen; omega)
      rw [if_neg (by omega), if_neg (by decide)] at h
      exact h
    rw [show mX n f = 0 by unfold mX; rw [if_neg (by rw [hE]; decide)], hE]
    clear hA hV hE h0
    go_enter Tryz.func23, Tryz.ntmps23
    go_wp2_with fail
    refine CK.out.mono ?_
    rintro e w1 ⟨rfl, hz⟩
    subst hz
    clear CK
    go_wp2
    go_ret2
    exact ⟨rfl, hb0⟩

end Go.Proofs.YtdfjnbkkdgolnabGreatDoor
set_option linter.unusedVariables false
set_option linter.unusedSimpArgs false
namespace Go.Proofs.YtdfjnbkkdgolnabGreatDoor
open Go.RowKit
theorem mean_ux (va : Value) (n : Nat) (f : Nat → Int) (hn : n ≤ 65536) (hn1 : 1 ≤ n) (p : Option Addr) (c : Int) (c0 : 0 ≤ c) (c1 : c ≤ 800000000) (w : World) (hT : TabAt w) (hA : Ar w va n f) (ha : Nv va p) (hp : Up p c w) :
    Calls Tryz.prog 23 #[.pointer p, va] w fun e w' => e = .returned (.tuple #[.int .i64 (clv (quo (sumV f n) (n : Int))), .int .i64 0]) ∧ Ux p (c + bi (ovv (quo (sumV f n) (n : Int)))) w w' := by
  have e0 : mE n = 0 := by unfold mE; rw [if_neg (by omega), if_neg (by omega)]
  have e1 : mX n f = clv (quo (sumV f n) (n : Int)) := by unfold mX; rw [if_pos e0]
  have e2 : mO n f = ovv (quo (sumV f n) (n : Int)) := by unfold mO; rw [if_pos e0]
  rw [← e1, ← e2, ← e0]
  exact ux_calls (ags := #[va]) hp (fun _ => Mean_nil va n f w (by omega) hT hA) (fun d e hc => Mean_un va n f d c w (by omega) c0 (by omega) hT hA (ha d e) hc)
end Go.Proofs.YtdfjnbkkdgolnabGreatDoor
set_option linter.unusedVariables false
set_option linter.unusedSimpArgs false
namespace Go.Proofs.YtdfjnbkkdgolnabGreatDoor
open Go.RowKit
/-- A list that is turned by k: where its parts come from. -/
def trn (K k i : Nat) : Nat := if i + k < K then i + k else i + k - K
theorem trn_lt {K k i : Nat} (hk : k ≤ K) (hi : i < K) : trn K k i < K := by unfold trn; split <;> omega
theorem sum_add (f : Nat → Int) (a b : Nat) : sumV f (a + b) = sumV f a + sumV (fun i => f (a + i)) b := by
  induction b with
  | zero => show sumV f a = sumV f a + 0; omega
  | succ b ih =>
    show sumV f (a + b) + f (a + b) = sumV f a + (sumV (fun i => f (a + i)) b + f (a + b))
    rw [ih]
    omega
theorem sum_trn (f : Nat → Int) (K k : Nat) (hk : k ≤ K) : sumV (fun i => f (trn K k i)) K = sumV f K := by
  have e : K = (K - k) + k := by omega
  rw [show sumV (fun i => f (trn K k i)) K = sumV (fun i => f (trn K k i)) ((K - k) + k) by rw [← e], sum_add]
  rw [show sumV f K = sumV f (k + (K - k)) by rw [Nat.add_comm, ← e], sum_add]
  have h1 : sumV (fun i => f (trn K k i)) (K - k) = sumV (fun i => f (k + i)) (K - k) := sum_congr _ _ _ (fun i hi => by show f (trn K k i) = f (k + i); unfold trn; rw [if_pos (by omega), Nat.add_comm])
  have h2 : sumV (fun i => f (trn K k (K - k + i))) k = sumV f k := sum_congr _ _ _ (fun i hi => by show f (trn K k (K - k + i)) = f i; unfold trn; rw [if_neg (by omega), show K - k + i + k - K = i by omega])
  show sumV (fun i => f (trn K k i)) (K - k) + sumV (fun i => f (trn K k (K - k + i))) k = sumV f k + sumV (fun i => f (k + i)) (K - k)
  rw [h1, h2]
  omega
theorem ms_trn (fs : Nat → Nat → Int) (K k : Nat) (hk : k ≤ K) (i : Nat) : msX (fun q => fs (trn K k q)) K i = msX fs K i := by
  unfold msX
  rw [sum_trn (fun q => fs q i) K k hk]
end Go.Proofs.YtdfjnbkkdgolnabGreatDoor
set_option linter.unusedVariables false
set_option linter.unusedSimpArgs false
namespace Go.Proofs.YtdfjnbkkdgolnabGreatDoor
open Go.RowKit

/-- A row of so many wide numbers. -/
structure Wd (b n : Nat) (F : Nat → Int) (w : World) : Prop where
  c0 : ∀ k, k < n → w.cell? ⟨b, k * 2, none⟩ = some (.int .i64 (hi (F k)))
  c1 : ∀ k, k < n → w.cell? ⟨b, k * 2 + 1, none⟩ = some (.int .u64 (lo (F k)))
  f0 : ∀ k, k < n → w.frozen? ⟨b, k * 2, none⟩ = false
  f1 : ∀ k, k < n → w.frozen? ⟨b, k * 2 + 1, none⟩ = false
theorem Wd.later {b n : Nat} {F : Nat → Int} {w w' : World} (r : Wd b n F w) (hb : Below w.heap.size w w') : Wd b n F w' :=
  ⟨fun k hk => cell_later hb (r.c0 k hk), fun k hk => cell_later hb (r.c1 k hk), fun k hk => frozen_later hb (r.c0 k hk) (r.f0 k hk), fun k hk => frozen_later hb (r.c1 k hk) (r.f1 k hk)⟩
theorem Wd.block {b n : Nat} {F : Nat → Int} {w w' : World} (r : Wd b n F w) (hb : w'.heap[b]? = w.heap[b]?) : Wd b n F w' :=
  ⟨fun k hk => (World.cell?_of_block (w := w) hb).trans (r.c0 k hk), fun k hk => (World.cell?_of_block (w := w) hb).trans (r.c1 k hk), fun k hk => (World.frozen?_of_block (w := w) hb).trans (r.f0 k hk), fun k hk => (World.frozen?_of_block (w := w) hb).trans (r.f1 k hk)⟩
theorem Wd.far {b n : Nat} {F : Nat → Int} {w : World} {p : Addr} (r : Wd b n F w) (u : Value) (hp : p.block ≠ b) : Wd b n F (w.setCell p u) :=
  ⟨fun k hk => cell_set hp (r.c0 k hk), fun k hk => cell_set hp (r.c1 k hk), fun k hk => by rw [World.frozen?_setCell]; exact r.f0 k hk, fun k hk => by rw [World.frozen?_setCell]; exact r.f1 k hk⟩
theorem Wd.congr {b n : Nat} {F G : Nat → Int} {w : World} (r : Wd b n F w) (e : ∀ k, k < n → F k = G k) : Wd b n G w :=
  ⟨fun k hk => by rw [r.c0 k hk, e k hk], fun k hk => by rw [r.c1 k hk, e k hk], r.f0, r.f1⟩
theorem Wd.set {b n : Nat} {F : Nat → Int} {w : World} (r : Wd b n F w) (j : Nat) (X : Int) : Wd b n (fun k => if k = j then X else F k) ((w.setCell ⟨b, j * 2, none⟩ (.int .i64 (hi X))).setCell ⟨b, j * 2 + 1, none⟩ (.int .u64 (lo X))) := by
  refine ⟨fun k hk => ?_, fun k hk => ?_, fun k hk => by rw [World.frozen?_setCell, World.frozen?_setCell]; exact r.f0 k hk, fun k hk => by rw [World.frozen?_setCell, World.frozen?_setCell]; exact r.f1 k hk⟩
  · refine (World.cell?_setCell_other _ _ _ _ (by first | (simp; done) | (simp; omega))).trans ?_
    by_cases e : k = j
    · subst e
      rw [if_pos rfl]
      exact World.cell?_setCell_same' _ _ _ (by rw [r.c0 k hk]; rfl)
    · rw [if_neg e]
      exact (World.cell?_setCell_other _ _ _ _ (by first | (simp; done) | (simp; omega))).trans (r.c0 k hk)
  · by_cases e : k = j
    · subst e
      rw [if_pos rfl]
      exact World.cell?_setCell_same' _ _ _ (by rw [World.cell?_setCell_other _ _ _ _ (by first | (simp; done) | (simp; omega)), r.c1 k hk]; rfl)
    · rw [if_neg e]
      refine (World.cell?_setCell_other _ _ _ _ (by first | (simp; done) | (simp; omega))).trans ?_
      exact (World.cell?_setCell_other _ _ _ _ (by first | (simp; done) | (simp; omega))).trans (r.c1 k hk)
theorem made_get2 (y z : Value) (n k : Nat) (hk : k < n) : (madeCells #[y, z] n)[k]? = some (if k % 2 = 0 then y else z) := by
  unfold madeCells
  rw [Array.getElem?_map, Array.getElem?_eq_getElem (by simpa using hk)]
  rcases Nat.mod_two_eq_zero_or_one k with h | h <;> simp [h]
theorem hi_nought : hi 0 = 0 := by decide +kernel
theorem lo_nought : lo 0 = 0 := by decide +kernel
theorem Wd.made (w : World) (n : Nat) (t : TypeId) : Wd w.heap.size n (fun _ => 0) (w.alloc (.cells (madeCells #[.int .i64 0, .int .u64 0] (n * 2)) t)) := by
  refine ⟨fun k hk => ?_, fun k hk => ?_, fun k hk => by simp [go_sem], fun k hk => by simp [go_sem]⟩
  · have := made_get2 (.int .i64 0) (.int .u64 0) (n * 2) (k * 2) (by omega)
    rw [if_pos (by omega)] at this
    simp [go_sem, this, hi_nought]
  · have := made_get2 (.int .i64 0) (.int .u64 0) (n * 2) (k * 2 + 1) (by omega)
    rw [if_neg (by omega)] at this
    simp [go_sem, this, lo_nought]
theorem dinfo_wd : (Tryz.prog.info? 85).map (fun i => (i.zero, i.size, i.bytes)) = some (some (.agg #[.int .i64 0, .int .u64 0]), 2, 16) := by kernel_rfl
theorem make_wd (n : Nat) (hn : n ≤ 1000000) (w : World) : (Instr.makeSlice 80 (.int .i64 (n : Int)) (.int .i64 (n : Int))).run Tryz.prog w = .ok (.slice (some ⟨w.heap.size, 0, none⟩) n n) (w.alloc (.cells (madeCells #[.int .i64 0, .int .u64 0] (n * 2)) 85)) := by
  obtain ⟨i0, hi, hz0, hz1, hz2⟩ := info_parts dinfo_wd
  have h := run_make (P := Tryz.prog) w 80 85 i0 (.agg #[.int .i64 0, .int .u64 0]) Tryz.underlying80 hi hz0 .i64 .i64 (n : Int) (n : Int) (by omega) (by omega) (by rw [hz2]; omega) (by omega)
  rw [hz1] at h
  exact h

set_option maxRecDepth 100000 in
set_option maxHeartbeats 8000000 in
theorem pairs_plus (ba : Nat) (vb : Value) (n : Nat) (F g : Nat → Int) (w : World) (hn : n ≤ 70000) (hA : Wd ba n F w) (hB : Ar w vb n g) :
    Calls Tryz.prog 36 #[.slice (some ⟨ba, 0, none⟩) n n, vb, .func (.func 37) #[] #[]] w fun e w' => e = .returned (.slice (some ⟨w.heap.size, 0, none⟩) n n) ∧ Wd w.heap.size n (fun k => F k + g k) w' ∧ Below w.heap.size w w' := by
  obtain ⟨adq, caq, bq, oq, rfl, q1, q2, -, -⟩ := id hB
  unfold maxLen at *
  have hmk := make_wd n (by omega)
  have hR0 := Wd.made w n 85
  have hS0 : Hid (Below w.heap.size w (w.alloc (.cells (madeCells #[.int .i64 0, .int .u64 0] (n * 2)) 85))) := bel1 _ _
  have hz0 : w.heap.size < (w.alloc (.cells (madeCells #[.int .i64 0, .int .u64 0] (n * 2)) 85)).heap.size := by rw [World.size_alloc]; omega
  have HAB : Hid (Wd ba n F w ∧ Ar w (.slice adq n caq) n g) := ⟨hA, hB⟩
  clear hA hB
  go_enter Tryz.func36, Tryz.ntmps36
  go_upto_region 3 with fail
  generalize w.alloc (.cells (madeCells #[.int .i64 0, .int .u64 0] (n * 2)) 85) = w0 at *
  clear hmk
  go_loopw [15] (fun si wr => ∃ j : Nat, j ≤ n ∧ si = .int .i64 (j : Int) ∧ Hid (Below w.heap.size w wr) ∧ Hid (Wd w.heap.size n (fun k => if k < j then F k + g k else 0) wr) ∧ w.heap.size < wr.heap.size) (fun si _ => n - (intOf si).toNat)
  case atStart =>
    exact ⟨0, by omega, rfl, hS0, hR0.congr (fun k hk => by simp), hz0⟩
  case round =>
    obtain ⟨j, hj, rfl, hS, hR, hz⟩ := hrel
    by_cases hlt : j < n
    · have hjI : (j : Int) < (n : Int) := by omega
      obtain ⟨b, o, rfl, cB, y0, y1⟩ := (HAB.out.2.later hS.out).at j hlt
      have cA0 := (HAB.out.1.later hS.out).c0 j hlt
      have cA1 := (HAB.out.1.later hS.out).c1 j hlt
      have CM : Hid (∀ W : World, Calls Tryz.prog 37 #[.agg #[.int .i64 (hi (F j)), .int .u64 (lo (F j))], .int .i64 (g j)] W fun e w' => e = .returned (.agg #[.int .i64 (hi (F j + g j)), .int .u64 (lo (F j + g j))]) ∧ Below W.heap.size W w') := fun W => plus1_any (F j) (g j) y0 y1 W
      clear y0 y1
      obtain ⟨th, hth⟩ : ∃ x, hi (F j) = x := ⟨_, rfl⟩
      obtain ⟨tl, htl⟩ : ∃ x, lo (F j) = x := ⟨_, rfl⟩
      rw [hth] at cA0 CM
      rw [htl] at cA1 CM
      obtain ⟨rh, hrh⟩ : ∃ x, hi (F j + g j) = x := ⟨_, rfl⟩
      obtain ⟨rl, hrl⟩ : ∃ x, lo (F j + g j) = x := ⟨_, rfl⟩
      rw [hrh, hrl] at CM
      have HE : Hid (hi (F j + g j) = rh ∧ lo (F j + g j) = rl) := ⟨hrh, hrl⟩
      clear hth htl hrh hrl
      have A0 := B2.new wr (.int .i64 th) (.int .u64 tl) 85
      have hb1 := bel1 wr (.cells #[.int .i64 th, .int .u64 tl] 85)
      have cB1 := cell_later hb1 cB
      have D1 : Hid (Wd w.heap.size n (fun k => if k < j then F k + g k else 0) (wr.alloc (.cells #[.int .i64 th, .int .u64 tl] 85))) := hR.out.later hb1
      have S1 : Hid (Below w.heap.size w (wr.alloc (.cells #[.int .i64 th, .int .u64 tl] 85))) := bchain hS.out hb1
      have hz1 : w.heap.size < (wr.alloc (.cells #[.int .i64 th, .int .u64 tl] 85)).heap.size := by rw [World.size_alloc]; omega
      clear hb1 hR hS
      go_upto_region 5 with fail
      clear cB cA0 cA1
      generalize wr.alloc (.cells #[.int .i64 th, .int .u64 tl] 85) = w1 at *
      have hd1 : Below w1.heap.size w1 w1.drew := (Below.refl _ _).drew
      have A := A0.later hd1
      have V := cell_later hd1 cB1
      have D : Hid (Wd w.heap.size n (fun k => if k < j then F k + g k else 0) w1.drew) := D1.out.later hd1
      have CW : Hid (Below w.heap.size w w1.drew) := bchain S1.out hd1
      have CC0 : w1.drew.cell? ⟨w.heap.size, j * 2, none⟩ = some (.int .i64 0) := by have h := D.out.c0 j hlt; rw [if_neg (by omega), hi_nought] at h; exact h
      have CC1 : w1.drew.cell? ⟨w.heap.size, j * 2 + 1, none⟩ = some (.int .u64 0) := by have h := D.out.c1 j hlt; rw [if_neg (by omega), lo_nought] at h; exact h
      have CF0 := D.out.f0 j hlt
      have CF1 := D.out.f1 j hlt
      have hbw : b < w.heap.size := by
        obtain ⟨b', o', e', c', -, -⟩ := HAB.out.2.at j hlt
        cases e'
        exact World.block_lt_of_cell? _ _ c'
      clear hd1 A0 cB1 D1 S1
      go_region_held3 (fun w' => w'.cell? ⟨wr.heap.size, 0, none⟩ = some (.int .i64 th) ∧ w'.cell? ⟨wr.heap.size, 1, none⟩ = some (.int .u64 tl) ∧ w'.cell? ⟨b, o + j, none⟩ = some (.int .i64 (g j)))
        (first | exact ⟨A.c0, A.c1, V⟩ | (have A' := (A.far (p := ⟨w.heap.size, j * 2, none⟩) (.int .i64 rh) (by dsimp only; omega)).far (p := ⟨w.heap.size, j * 2 + 1, none⟩) (.int .u64 rl) (by dsimp only; omega); exact ⟨A'.c0, A'.c1, cell_set (by dsimp only; omega) (cell_set (by dsimp only; omega) V)⟩))
        (first | (go_at_call 37; refine (CM.out _).mono ?_; rintro e wz ⟨rfl, hb⟩; replace A := A.later hb; replace V := cell_later hb V; replace CC0 := cell_later hb CC0; replace CC1 := cell_later hb CC1; replace CF0 := (Wd.later D.out hb).f0 j hlt; replace CF1 := (Wd.later D.out hb).f1 j hlt; replace D : Hid (Wd w.heap.size n (fun k => if k < j then F k + g k else 0) wz) := D.out.later hb; replace CW : Hid (Below w.heap.size w wz) := bchain CW.out hb; clear hb))
      have D5 : Hid (Wd w.heap.size n (fun k => if k < j + 1 then F k + g k else 0) ((wz.setCell ⟨w.heap.size, j * 2, none⟩ (.int .i64 rh)).setCell ⟨w.heap.size, j * 2 + 1, none⟩ (.int .u64 rl))) := by
        have h := D.out.set j (F j + g j)
        rw [HE.out.1, HE.out.2] at h
        exact h.congr (fun k hk => by
          by_cases e : k = j
          · subst e; simp
          · rw [if_neg e]
            by_cases e2 : k < j
            · rw [if_pos e2, if_pos (by omega)]
            · rw [if_neg e2, if_neg (by omega)])
      have W5 : Hid (Below w.heap.size w ((wz.setCell ⟨w.heap.size, j * 2, none⟩ (.int .i64 rh)).setCell ⟨w.heap.size, j * 2 + 1, none⟩ (.int .u64 rl))) := (CW.out.setCell (Nat.le_refl _) _).setCell (Nat.le_refl _) _
      have hz5 : w.heap.size < ((wz.setCell ⟨w.heap.size, j * 2, none⟩ (.int .i64 rh)).setCell ⟨w.heap.size, j * 2 + 1, none⟩ (.int .u64 rl)).heap.size := by
        have h := World.block_lt_of_cell? _ _ CC0
        dsimp only at h
        rw [World.size_setCell, World.size_setCell]
        exact h
      clear D CW A V CC0 CC1 CF0 CF1 CM HE
      go_wp2
      go_roundw
      case rel => exact ⟨j + 1, by omega, by go_num, W5, D5, hz5⟩
      case measure => simp [intOf]; omega
    · obtain rfl : j = n := by omega
      have hjI : ¬ (j : Int) < (j : Int) := by omega
      have hAr : Hid (Wd w.heap.size j (fun k => F k + g k) wr) := hR.out.congr (fun k hk => by rw [if_pos hk])
      clear hR
      go_wp2
      go_ret
      exact ⟨rfl, hAr.out, hS.out⟩
end Go.Proofs.YtdfjnbkkdgolnabGreatDoor
set_option linter.unusedVariables false
set_option linter.unusedSimpArgs false
namespace Go.Proofs.YtdfjnbkkdgolnabGreatDoor
open Go.RowKit

set_option maxHeartbeats 1000000 in
theorem means1_any (ba : Nat) (vb : Value) (n : Nat) (F g : Nat → Int) (w : World) (hn : n ≤ 70000) (hA : Wd ba n F w) (hB : Ar w vb n g) :
    Calls Tryz.prog 35 #[.slice (some ⟨ba, 0, none⟩) n n, vb] w fun e w' => e = .returned (.slice (some ⟨w.heap.size, 0, none⟩) n n) ∧ Wd w.heap.size n (fun k => F k + g k) w' ∧ Below w.heap.size w w' := by
  have CP : Hid (Calls Tryz.prog 36 #[.slice (some ⟨ba, 0, none⟩) n n, vb, .func (.func 37) #[] #[]] w fun e w' => e = .returned (.slice (some ⟨w.heap.size, 0, none⟩) n n) ∧ Wd w.heap.size n (fun k => F k + g k) w' ∧ Below w.heap.size w w') := pairs_plus ba vb n F g w hn hA hB
  obtain ⟨adq, caq, bq, oq, rfl, q1, q2, -, -⟩ := hB
  clear hA
  go_enter Tryz.func35, Tryz.ntmps35
  go_wp2_with fail
  refine CP.out.mono ?_
  rintro e w1 ⟨rfl, hD, hb⟩
  have HD : Hid (Wd w.heap.size n (fun k => F k + g k) w1) := hD
  clear CP hD
  go_wp2
  go_ret
  exact ⟨rfl, HD.out, hb⟩
/-- A list of lists that are as long. -/
structure Vs (w : World) (g o K n : Nat) (fs : Nat → Nat → Int) : Prop where
  c : ∀ k, k < K → ∃ (ad : Option Addr) (ca : Nat), w.cell? ⟨g, o + k, none⟩ = some (.slice ad n ca) ∧ Ar w (.slice ad n ca) n (fs k)
theorem Vs.later {w w' : World} {g o K n : Nat} {fs : Nat → Nat → Int} (h : Vs w g o K n fs) (hb : Below w.heap.size w w') : Vs w' g o K n fs :=
  ⟨fun k hk => by obtain ⟨ad, ca, h1, h2⟩ := h.c k hk; exact ⟨ad, ca, cell_later hb h1, h2.later hb⟩⟩
set_option maxRecDepth 100000 in
set_option maxHeartbeats 4000000 in
theorem gather_wide (g o cap K bs n : Nat) (fs : Nat → Nat → Int) (hn : n ≤ 70000) (hcap : K ≤ cap) (hcap2 : cap ≤ maxLen) (w : World) (hL : Vs w g o K n fs) (hZ : Wd bs n (fun _ => 0) w) :
    Calls Tryz.prog 34 #[.slice (some ⟨g, o, none⟩) K cap, .slice (some ⟨bs, 0, none⟩) n n, .func (.func 35) #[] #[]] w fun e w' => ∃ b', e = .returned (.slice (some ⟨b', 0, none⟩) n n) ∧ Wd b' n (fun i => sumV (fun k => fs k i) K) w' ∧ (b' = bs ∨ w.heap.size ≤ b') ∧ Below w.heap.size w w' := by
  unfold maxLen at hcap2
  have HL : Hid (Vs w g o K n fs) := hL
  clear hL
  go_enter Tryz.func34, Tryz.ntmps34
  go_wp2
  go_loopw [1, 11] (fun s1 si wr => ∃ (j b' : Nat), j ≤ K ∧ s1 = .slice (some ⟨b', 0, none⟩) n n ∧ si = .int .i64 (j : Int) ∧ Hid (Wd b' n (fun i => sumV (fun k => fs k i) j) wr) ∧ Hid (b' = bs ∨ w.heap.size ≤ b') ∧ Hid (Below w.heap.size w wr)) (fun _ si _ => K - (intOf si).toNat)
  case atStart =>
    exact ⟨0, bs, by omega, rfl, rfl, hZ.congr (fun k hk => rfl), Or.inl rfl, Below.refl _ _⟩
  case round =>
    obtain ⟨j, b', hj, rfl, rfl, hD, hB, hS⟩ := hrel
    by_cases hlt : j < K
    · have hjI : (j : Int) < (K : Int) := by omega
      obtain ⟨ad, ca, c1, hA⟩ := (HL.out.later hS.out).c j hlt
      have CM : Hid (Calls Tryz.prog 35 #[.slice (some ⟨b', 0, none⟩) n n, .slice ad n ca] wr fun e w' => e = .returned (.slice (some ⟨wr.heap.size, 0, none⟩) n n) ∧ Wd wr.heap.size n (fun i => sumV (fun k => fs k i) (j + 1)) w' ∧ Below wr.heap.size wr w') := means1_any b' _ n _ (fs j) wr hn hD.out hA
      have HB : Hid (wr.heap.size = bs ∨ w.heap.size ≤ wr.heap.size) := Or.inr hS.out.size
      clear hA hD hB
      go_wp2_with (go_at_call 35; refine CM.out.mono ?_; rintro e wz ⟨rfl, hDz, hbz⟩; have HDz : Hid (Wd wr.heap.size n (fun i => sumV (fun k => fs k i) (j + 1)) wz) := hDz; have HSz : Hid (Below w.heap.size w wz) := bchain hS.out hbz; clear hDz hbz c1)
      go_roundw
      case rel => exact ⟨j + 1, _, by omega, rfl, by go_num, HDz, HB, HSz⟩
      case measure => simp [intOf]; omega
    · obtain rfl : j = K := by omega
      have hjI : ¬ (j : Int) < (j : Int) := by omega
      go_wp2
      go_ret
      exact ⟨_, rfl, hD.out, hB.out, hS.out⟩

set_option maxRecDepth 100000 in
set_option maxHeartbeats 4000000 in
theorem each_means (p q : Value) (S : Nat → World → Prop) (ba n : Nat) (G F : Nat → Int) (w : World) (hn : n ≤ 70000)
    (S0 : S 0 w) (SL : ∀ j W W', S j W → Below W.heap.size W W' → S j W') (SS : ∀ j W (a : Addr) u, w.heap.size ≤ a.block → S j W → S j (W.setCell a u)) (SA : ∀ j W, S j W → Wd ba n G W) (hF : ∀ k, k < n → -9223372036854775808 ≤ F k ∧ F k ≤ 9223372036854775807)
    (HS : ∀ j W, j < n → w.heap.size < W.heap.size → S j W → Calls Tryz.prog 39 #[.agg #[.int .i64 (hi (G j)), .int .u64 (lo (G j))], p, q] W fun e w' => e = .returned (.int .i64 (F j)) ∧ S (j + 1) w' ∧ w'.heap[w.heap.size]? = W.heap[w.heap.size]? ∧ W.heap.size ≤ w'.heap.size) :
    Calls Tryz.prog 38 #[.slice (some ⟨ba, 0, none⟩) n n, .func (.func 39) #[] #[p, q]] w fun e w' => e = .returned (.slice (some ⟨w.heap.size, 0, none⟩) n n) ∧ S n w' ∧ Ar w' (.slice (some ⟨w.heap.size, 0, none⟩) n n) n F := by
  have hmk := make_fx n (by omega)
  have hR0 := Rw.made w (.int .i64 0) n 32
  have hS0 : Hid (S 0 (w.alloc (.cells (madeCells #[.int .i64 0] n) 32))) := SL 0 _ _ S0 (bel1 _ _)
  have hz0 : w.heap.size < (w.alloc (.cells (madeCells #[.int .i64 0] n) 32)).heap.size := by rw [World.size_alloc]; omega
  have HSA : Hid (∀ j W, S j W → Wd ba n G W) := SA
  have HSL : Hid (∀ j W W', S j W → Below W.heap.size W W' → S j W') := SL
  have HHS : Hid (∀ j W, j < n → w.heap.size < W.heap.size → S j W → Calls Tryz.prog 39 #[.agg #[.int .i64 (hi (G j)), .int .u64 (lo (G j))], p, q] W fun e w' => e = .returned (.int .i64 (F j)) ∧ S (j + 1) w' ∧ w'.heap[w.heap.size]? = W.heap[w.heap.size]? ∧ W.heap.size ≤ w'.heap.size) := HS
  have HSS : Hid (∀ j W (a : Addr) u, w.heap.size ≤ a.block → S j W → S j (W.setCell a u)) := SS
  have HF : Hid (∀ k, k < n → -9223372036854775808 ≤ F k ∧ F k ≤ 9223372036854775807) := hF
  clear SA HS SS SL S0 hF
  go_enter Tryz.func38, Tryz.ntmps38
  go_upto_region 3 with fail
  generalize w.alloc (.cells (madeCells #[.int .i64 0] n) 32) = w0 at *
  clear hmk
  go_loopw [13] (fun si wr => ∃ j : Nat, j ≤ n ∧ si = .int .i64 (j : Int) ∧ Hid (S j wr) ∧ Hid (Rw w.heap.size n (fun k => if k < j then .int .i64 (F k) else .int .i64 0) wr) ∧ w.heap.size < wr.heap.size) (fun si _ => n - (intOf si).toNat)
  case atStart =>
    exact ⟨0, by omega, rfl, hS0, hR0.congr (fun k hk => by simp), hz0⟩
  case round =>
    obtain ⟨j, hj, rfl, hS, hR, hz⟩ := hrel
    by_cases hlt : j < n
    · have hjI : (j : Int) < (n : Int) := by omega
      have cA0 := (HSA.out j wr hS.out).c0 j hlt
      have cA1 := (HSA.out j wr hS.out).c1 j hlt
      have HC : Hid (∀ W, Below wr.heap.size wr W → Calls Tryz.prog 39 #[.agg #[.int .i64 (hi (G j)), .int .u64 (lo (G j))], p, q] W fun e w' => e = .returned (.int .i64 (F j)) ∧ S (j + 1) w' ∧ w'.heap[w.heap.size]? = W.heap[w.heap.size]? ∧ W.heap.size ≤ w'.heap.size) := fun W hb => HHS.out j W hlt (Nat.lt_of_lt_of_le hz hb.size) (HSL.out j _ _ hS.out hb)
      generalize hi (G j) = th at *
      generalize lo (G j) = tl at *
      have A0 := B2.new wr (.int .i64 th) (.int .u64 tl) 85
      have hb1 := bel1 wr (.cells #[.int .i64 th, .int .u64 tl] 85)
      have CM : Hid (Calls Tryz.prog 39 #[.agg #[.int .i64 th, .int .u64 tl], p, q] (wr.alloc (.cells #[.int .i64 th, .int .u64 tl] 85)) fun e w' => e = .returned (.int .i64 (F j)) ∧ S (j + 1) w' ∧ w'.heap[w.heap.size]? = (wr.alloc (.cells #[.int .i64 th, .int .u64 tl] 85)).heap[w.heap.size]? ∧ (wr.alloc (.cells #[.int .i64 th, .int .u64 tl] 85)).heap.size ≤ w'.heap.size) := HC.out _ hb1
      have R1 : Hid (Rw w.heap.size n (fun k => if k < j then .int .i64 (F k) else .int .i64 0) (wr.alloc (.cells #[.int .i64 th, .int .u64 tl] 85))) := hR.out.later hb1
      have hz1 : w.heap.size < (wr.alloc (.cells #[.int .i64 th, .int .u64 tl] 85)).heap.size := by rw [World.size_alloc]; omega
      clear hb1 hR hS HC
      go_upto_region 5 with fail
      clear cA0 cA1
      generalize wr.alloc (.cells #[.int .i64 th, .int .u64 tl] 85) = w1 at *
      have a0 := A0.c0
      have a1 := A0.c1
      clear A0
      go_wp2_with (go_at_call 39; refine CM.out.mono ?_; rintro e wz ⟨rfl, hSz, hbz, hsz⟩; have HSz : Hid (S (j + 1) wz) := hSz; have HRz := R1.out.block hbz; have cz : wz.cell? ⟨w.heap.size, j, none⟩ = some (.int .i64 0) := (by have := HRz.c j hlt; rw [if_neg (by omega)] at this; exact this); have fz := HRz.f j hlt; replace HRz : Hid (Rw _ _ _ _) := HRz; clear hSz hbz R1 a0 a1)
      have hS2 : Hid (S (j + 1) (wz.setCell ⟨w.heap.size, j, none⟩ (.int .i64 (F j)))) := HSS.out _ _ _ _ (Nat.le_refl _) HSz.out
      have hR2 : Hid (Rw w.heap.size n (fun k => if k < j + 1 then .int .i64 (F k) else .int .i64 0) (wz.setCell ⟨w.heap.size, j, none⟩ (.int .i64 (F j)))) := (HRz.out.set j (.int .i64 (F j))).congr (fun k hk => by
        by_cases e : k = j
        · subst e; simp
        · rw [if_neg e]
          by_cases e2 : k < j
          · rw [if_pos e2, if_pos (by omega)]
          · rw [if_neg e2, if_neg (by omega)])
      have hz2 : w.heap.size < (wz.setCell ⟨w.heap.size, j, none⟩ (.int .i64 (F j))).heap.size := by rw [World.size_setCell]; omega
      go_roundw
      case rel => exact ⟨j + 1, by omega, by go_num, hS2, hR2, hz2⟩
      case measure => simp [intOf]; omega
    · obtain rfl : j = n := by omega
      have hjI : ¬ (j : Int) < (j : Int) := by omega
      have hAr : Hid (Ar wr (.slice (some ⟨w.heap.size, 0, none⟩) j j) j F) := (hR.out.congr (fun k hk => by rw [if_pos hk])).ar (by omega) HF.out
      clear hR
      go_wp2
      go_ret
      exact ⟨rfl, hS.out, hAr.out⟩
theorem sumV_bnd (f : Nat → Int) (n : Nat) (h : ∀ k, k < n → -9223372036854775808 ≤ f k ∧ f k ≤ 9223372036854775807) : -((n : Int) * 9223372036854775808) ≤ sumV f n ∧ sumV f n ≤ (n : Int) * 9223372036854775808 := by
  induction n with
  | zero => exact ⟨by simp [sumV], by simp [sumV]⟩
  | succ m ih =>
    obtain ⟨h1, h2⟩ := ih (fun k hk => h k (by omega))
    obtain ⟨h3, h4⟩ := h m (by omega)
    show _ ≤ sumV f m + f m ∧ sumV f m + f m ≤ _
    omega
end Go.Proofs.YtdfjnbkkdgolnabGreatDoor
