/-
  The contracts of rand's Below, Part and Between.
-/
import Derived.Test.YtoojakjbpbjeaaaHWalkA
import Derived.Test.YtoojakjbpbjeaaaEWalkB
import Derived.Deep.RegionHeld3
set_option linter.unusedVariables false
set_option linter.unusedSimpArgs false
namespace Go.Proofs.Ytoojakjbpbjeaaa
open Go.RowKit

set_option maxHeartbeats 4000000 in
theorem pBelow_any (s : Nat) (a b c i : Int) (n : Nat) (hk : Ky s a b c) (i0 : -9223372036854775808 ≤ i) (i1 : i ≤ 9223372036854775807) (n0 : 1 ≤ n) (n1 : n ≤ 9223372036854775807) (w : World) :
    Calls Try.prog 13 #[.agg #[.int .u64 (s : Int), .int .i64 a, .int .i64 b, .int .i64 c], .int .i64 i, .int .i64 (n : Int)] w fun e w' => e = .returned (.int .i64 ((blN (wdN s a b c i) n : Nat) : Int)) ∧ Below w.heap.size w w' := by
  have CW : Hid (∀ W : World, Calls Try.prog 10 #[.agg #[.int .u64 (s : Int), .int .i64 a, .int .i64 b, .int .i64 c], .int .i64 i] W fun e w' => e = .returned (.int .u64 ((wdN s a b c i : Nat) : Int)) ∧ Below W.heap.size W w') := fun W => pWord_any s a b c i hk i0 i1 W
  have hl := wdN_lt s a b c i
  generalize wdN s a b c i = X at *
  have CP : Hid (∀ W : World, Calls Try.prog 27 #[.int .u64 (X : Int), .int .u64 (n : Int)] W fun e w' => e = .returned (.tuple #[.int .u64 ((blN X n : Nat) : Int), .int .u64 ((X * n % 18446744073709551616 : Nat) : Int)]) ∧ w' = W) := fun W => mul64_nat X n hl (by omega) W
  have hlt := blN_lt X n hl (by omega)
  generalize blN X n = R at *
  generalize X * n % 18446744073709551616 = Q at *
  have hb0 : Hid (Below w.heap.size w (w.alloc (.cells #[.int .u64 (s : Int), .int .i64 a, .int .i64 b, .int .i64 c] 24))) := bel1 w _
  have hnI : ¬ (n : Int) < 1 := by omega
  have hwn : IntKind.u64.wrap (n : Int) = (n : Int) := by rw [IntKind.wrap_u64]; omega
  have E5 : wrap64 (R : Int) = (R : Int) := by rw [w64, sg_id _ (by omega) (by omega)]
  clear hk
  go_enter Try.func13, Try.ntmps13
  go_wp2_with fail
  refine (CW.out _).mono ?_
  rintro e w1 ⟨rfl, hb⟩
  have hX : Hid (Below w.heap.size w w1) := bchain hb0.out hb
  clear CW hb hb0
  go_wp2_with fail
  refine (CP.out _).mono ?_
  rintro e w2 ⟨rfl, hz⟩
  subst hz
  clear CP
  go_wp2
  go_ret
  exact ⟨rfl, hX.out⟩
set_option maxHeartbeats 1000000 in
theorem pBelow_none (s : Nat) (a b c i n : Int) (hn : n < 1) (w : World) :
    Calls Try.prog 13 #[.agg #[.int .u64 (s : Int), .int .i64 a, .int .i64 b, .int .i64 c], .int .i64 i, .int .i64 n] w fun e w' => e = .returned (.int .i64 0) ∧ Below w.heap.size w w' := by
  have hb0 := bel1 w (.cells #[.int .u64 (s : Int), .int .i64 a, .int .i64 b, .int .i64 c] 24)
  go_enter Try.func13, Try.ntmps13
  go_wp2
  go_ret
  exact ⟨rfl, hb0⟩
set_option maxHeartbeats 2000000 in
theorem pPart_any (s : Nat) (a b c i : Int) (hk : Ky s a b c) (i0 : -9223372036854775808 ≤ i) (i1 : i ≤ 9223372036854775807) (w : World) :
    Calls Try.prog 15 #[.agg #[.int .u64 (s : Int), .int .i64 a, .int .i64 b, .int .i64 c], .int .i64 i] w fun e w' => e = .returned (.int .i64 ((ptN (wdN s a b c i) : Nat) : Int)) ∧ Below w.heap.size w w' := by
  have CW : Hid (∀ W : World, Calls Try.prog 10 #[.agg #[.int .u64 (s : Int), .int .i64 a, .int .i64 b, .int .i64 c], .int .i64 i] W fun e w' => e = .returned (.int .u64 ((wdN s a b c i : Nat) : Int)) ∧ Below W.heap.size W w') := fun W => pWord_any s a b c i hk i0 i1 W
  have hl := wdN_lt s a b c i
  generalize wdN s a b c i = X at *
  have e1 : (X : Int) / 4294967296 = ((ptN X : Nat) : Int) := by unfold ptN; omega
  have l1 := ptN_lt X hl
  generalize ptN X = p at *
  have e2 : wrap64 (p : Int) = (p : Int) := by rw [w64, sg_id _ (by omega) (by omega)]
  have hb0 : Hid (Below w.heap.size w (w.alloc (.cells #[.int .u64 (s : Int), .int .i64 a, .int .i64 b, .int .i64 c] 24))) := bel1 w _
  clear hk
  go_enter Try.func15, Try.ntmps15
  go_wp2_with fail
  refine (CW.out _).mono ?_
  rintro e w1 ⟨rfl, hb⟩
  have hX : Hid (Below w.heap.size w w1) := bchain hb0.out hb
  clear CW hb hb0
  go_wp2
  go_ret
  exact ⟨rfl, hX.out⟩
set_option maxHeartbeats 1000000 in
theorem pBetween_low (s : Nat) (a b c i lw hg : Int) (h : hg ≤ lw) (w : World) :
    Calls Try.prog 16 #[.agg #[.int .u64 (s : Int), .int .i64 a, .int .i64 b, .int .i64 c], .int .i64 i, .int .i64 lw, .int .i64 hg] w fun e w' => e = .returned (.int .i64 lw) ∧ Below w.heap.size w w' := by
  have hb0 := bel1 w (.cells #[.int .u64 (s : Int), .int .i64 a, .int .i64 b, .int .i64 c] 24)
  go_enter Try.func16, Try.ntmps16
  go_wp2
  go_ret
  exact ⟨rfl, hb0⟩
theorem btw_math (lw hg : Int) (D p : Nat) (hD : (D : Int) = hg - lw) : hg * (p : Int) - lw * (p : Int) = ((D * p : Nat) : Int) := by
  rw [← Int.sub_mul, ← hD, Int.natCast_mul]
set_option maxRecDepth 100000 in
set_option maxHeartbeats 4000000 in
theorem pBetween_any (s : Nat) (a b c i lw hg : Int) (hk : Ky s a b c) (i0 : -9223372036854775808 ≤ i) (i1 : i ≤ 9223372036854775807) (l0 : -9223372036854775808 ≤ lw) (h1 : hg ≤ 9223372036854775807) (hlh : lw < hg) (w : World) :
    Calls Try.prog 16 #[.agg #[.int .u64 (s : Int), .int .i64 a, .int .i64 b, .int .i64 c], .int .i64 i, .int .i64 lw, .int .i64 hg] w fun e w' => e = .returned (.int .i64 (lw + ((bwN (hg - lw).toNat (ptN (wdN s a b c i)) : Nat) : Int))) ∧ Below w.heap.size w w' := by
  have CW : Hid (∀ W : World, Calls Try.prog 15 #[.agg #[.int .u64 (s : Int), .int .i64 a, .int .i64 b, .int .i64 c], .int .i64 i] W fun e w' => e = .returned (.int .i64 ((ptN (wdN s a b c i) : Nat) : Int)) ∧ Below W.heap.size W w') := fun W => pPart_any s a b c i hk i0 i1 W
  have hl := ptN_lt _ (wdN_lt s a b c i)
  generalize ptN (wdN s a b c i) = p at *
  obtain ⟨D, hD⟩ : ∃ x, (hg - lw).toNat = x := ⟨_, rfl⟩
  rw [hD]
  have hDI : (D : Int) = hg - lw := by omega
  clear hD
  have hlt := bwN_lt D p hl (by omega)
  have M1 : Hid (∀ W : World, Calls Try.prog 30 #[.int .i64 hg, .int .i64 (p : Int)] W fun e w' => e = .returned (.agg #[.int .i64 (hi (hg * (p : Int))), .int .u64 (lo (hg * (p : Int)))]) ∧ Below W.heap.size W w') := fun W => mul_any hg p (by omega) h1 (by omega) (by omega) W
  have M2 : Hid (∀ W : World, Calls Try.prog 30 #[.int .i64 lw, .int .i64 (p : Int)] W fun e w' => e = .returned (.agg #[.int .i64 (hi (lw * (p : Int))), .int .u64 (lo (lw * (p : Int)))]) ∧ Below W.heap.size W w') := fun W => mul_any lw p l0 (by omega) (by omega) (by omega) W
  have M3 : Hid (∀ W : World, Calls Try.prog 29 #[.agg #[.int .i64 (hi (hg * (p : Int))), .int .u64 (lo (hg * (p : Int)))], .agg #[.int .i64 (hi (lw * (p : Int))), .int .u64 (lo (lw * (p : Int)))]] W fun e w' => e = .returned (.agg #[.int .i64 (hi ((D * p : Nat) : Int)), .int .u64 (lo ((D * p : Nat) : Int))]) ∧ Below W.heap.size W w') := fun W => by rw [← btw_math lw hg D p hDI]; exact sub_any _ _ W
  have hV : D * p / 4294967296 = bwN D p := rfl
  have hVl : D * p ≤ 18446744073709551615 * 4294967295 := Nat.mul_le_mul (by omega) (by omega)
  have M5 : Hid (∀ W : World, Calls Try.prog 34 #[.agg #[.int .i64 (hi ((D * p : Nat) : Int)), .int .u64 (lo ((D * p : Nat) : Int))], .int .i64 32] W fun e w' => e = .returned (.agg #[.int .i64 (hi ((bwN D p : Nat) : Int)), .int .u64 (lo ((bwN D p : Nat) : Int))]) ∧ Below W.heap.size W w') := fun W => by
    have h := shr_any ((D * p : Nat) : Int) 32 (by omega) (by omega) (by omega) W
    have e : ((D * p : Nat) : Int) / 2 ^ (32 : Int).toNat = ((bwN D p : Nat) : Int) := by show _ / 4294967296 = _; unfold bwN; rw [Int.natCast_ediv]; rfl
    rw [e] at h
    exact h
  generalize D * p = V at *
  have M4 : Hid (∀ W : World, Calls Try.prog 33 #[.int .i64 lw] W fun e w' => e = .returned (.agg #[.int .i64 (hi lw), .int .u64 (lo lw)]) ∧ Below W.heap.size W w') := fun W => of_any lw l0 (by omega) W
  generalize bwN D p = R at *
  have M6 : Hid (∀ W : World, Calls Try.prog 32 #[.agg #[.int .i64 (hi lw), .int .u64 (lo lw)], .agg #[.int .i64 (hi (R : Int)), .int .u64 (lo (R : Int))]] W fun e w' => e = .returned (.agg #[.int .i64 (hi (lw + (R : Int))), .int .u64 (lo (lw + (R : Int)))]) ∧ Below W.heap.size W w') := fun W => add_any lw (R : Int) W
  have hQ0 : -9223372036854775808 ≤ lw + (R : Int) := by omega
  have hQ1 : lw + (R : Int) ≤ 9223372036854775807 := by omega
  have M7 : Hid (∀ W : World, Calls Try.prog 31 #[.agg #[.int .i64 (hi (lw + (R : Int))), .int .u64 (lo (lw + (R : Int)))]] W fun e w' => e = .returned (.tuple #[.int .i64 (lw + (R : Int)), .bool (ovv (lw + (R : Int)))]) ∧ Below W.heap.size W w') := fun W => by
    have h := clamp_any (lw + (R : Int)) (by omega) (by omega) W
    have e : clv (lw + (R : Int)) = lw + (R : Int) := by unfold clv; rw [if_neg (by omega), if_neg (by omega)]
    rw [e] at h
    exact h
  have hb0 : Hid (Below w.heap.size w (w.alloc (.cells #[.int .u64 (s : Int), .int .i64 a, .int .i64 b, .int .i64 c] 24))) := bel1 w _
  have hnI : ¬ hg ≤ lw := by omega
  generalize ovv (lw + (R : Int)) = ob at *
  generalize hi (lw + (R : Int)) = q1 at *
  generalize lo (lw + (R : Int)) = q2 at *
  generalize lw + (R : Int) = Q at *
  generalize hi (hg * (p : Int)) = a1 at *
  generalize lo (hg * (p : Int)) = a2 at *
  generalize hi (lw * (p : Int)) = b1 at *
  generalize lo (lw * (p : Int)) = b2 at *
  generalize hi (V : Int) = c1 at *
  generalize lo (V : Int) = c2 at *
  generalize hi lw = d1 at *
  generalize lo lw = d2 at *
  generalize hi (R : Int) = f1 at *
  generalize lo (R : Int) = f2 at *
  have hpw : wrap64 (p : Int) = (p : Int) := by rw [w64, sg_id _ (by omega) (by omega)]
  have hlw : wrap64 lw = lw := by rw [w64, sg_id _ (by omega) (by omega)]
  have hhw : wrap64 hg = hg := by rw [w64, sg_id _ (by omega) (by omega)]
  have hQw : wrap64 Q = Q := by rw [w64, sg_id _ (by omega) (by omega)]
  clear hk hDI hV hVl hlt
  go_enter Try.func16, Try.ntmps16
  go_wp2_with fail
  refine (CW.out _).mono ?_
  rintro e w1 ⟨rfl, hb⟩
  have hX1 : Hid (Below w.heap.size w w1) := bchain hb0.out hb
  clear CW hb hb0
  go_wp2_with fail
  refine (M1.out _).mono ?_
  rintro e w2 ⟨rfl, hb⟩
  have hX2 : Hid (Below w.heap.size w w2) := bchain hX1.out hb
  clear M1 hb hX1
  go_wp2_with fail
  refine (M2.out _).mono ?_
  rintro e w3 ⟨rfl, hb⟩
  have hX3 : Hid (Below w.heap.size w w3) := bchain hX2.out hb
  clear M2 hb hX2
  go_wp2_with fail
  refine (M3.out _).mono ?_
  rintro e w4 ⟨rfl, hb⟩
  have hX4 : Hid (Below w.heap.size w w4) := bchain hX3.out hb
  clear M3 hb hX3
  go_upto_region 5 with fail
  have B5 := Bx.new w4 (.int .i64 c1) (.int .u64 c2) 59
  have H5 : Hid (Below w.heap.size w (w4.alloc (.cells #[.int .i64 c1, .int .u64 c2] 59))) := bchain hX4.out (bel1 _ _)
  generalize w4.alloc (.cells #[.int .i64 c1, .int .u64 c2] 59) = w5 at *
  have hd1 : Below w5.heap.size w5 w5.drew := (Below.refl _ _).drew
  have A := B5.later hd1
  have CW : Hid (Below w.heap.size w w5.drew) := bchain H5.out hd1
  clear hd1 B5 H5 hX4
  go_region_held3 (fun w' => w'.cell? ⟨w4.heap.size, 0, none⟩ = some (.int .i64 c1) ∧ w'.cell? ⟨w4.heap.size, 1, none⟩ = some (.int .u64 c2))
    (exact ⟨A.c0, A.c1⟩)
    (first
      | (go_at_call 33; refine (M4.out _).mono ?_; rintro e wz ⟨rfl, hb⟩; replace A := A.later hb; replace CW : Hid (Below w.heap.size w wz) := bchain CW.out hb; clear hb)
      | (go_at_call 34; refine (M5.out _).mono ?_; rintro e wz ⟨rfl, hb⟩; replace A := A.later hb; replace CW : Hid (Below w.heap.size w wz) := bchain CW.out hb; clear hb)
      | (go_at_call 32; refine (M6.out _).mono ?_; rintro e wz ⟨rfl, hb⟩; replace A := A.later hb; replace CW : Hid (Below w.heap.size w wz) := bchain CW.out hb; clear hb)
      | (go_at_call 31; refine (M7.out _).mono ?_; rintro e wz ⟨rfl, hb⟩; replace A := A.later hb; replace CW : Hid (Below w.heap.size w wz) := bchain CW.out hb; clear hb))
  go_wp2
  go_ret
  exact ⟨rfl, CW.out⟩
end Go.Proofs.Ytoojakjbpbjeaaa
