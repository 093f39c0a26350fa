/-
  The contracts of regattaref05's Part, Below and Between.
-/
import Derived.Test.YtoojakjbpbjeaaaEWalkA
import Derived.Test.YtoojakjbpbjeaaaBG
set_option linter.unusedVariables false
set_option linter.unusedSimpArgs false
namespace Go.Proofs.Ytoojakjbpbjeaaa
open Go.RowKit

set_option maxHeartbeats 2000000 in
theorem refPart_any (s : Nat) (a b c i : Int) (hk : Ky s a b c) (i0 : -9223372036854775808 ≤ i) (i1 : i ≤ 9223372036854775807) (w : World) :
    Calls Try.prog 17 #[.agg #[.int .u64 (s : Int), .int .i64 a, .int .i64 b, .int .i64 c], .int .i64 i] w fun e w' => e = .returned (.int .i64 ((ptN (wdN s a b c i) : Nat) : Int)) ∧ Below w.heap.size w w' := by
  have CW : Hid (∀ W : World, Calls Try.prog 11 #[.agg #[.int .u64 (s : Int), .int .i64 a, .int .i64 b, .int .i64 c], .int .i64 i] W fun e w' => e = .returned (.int .u64 ((wdN s a b c i : Nat) : Int)) ∧ Below W.heap.size W w') := fun W => refWord_any s a b c i hk i0 i1 W
  have hl := wdN_lt s a b c i
  generalize wdN s a b c i = X at *
  have e1 : (X : Int) / 4294967296 = ((ptN X : Nat) : Int) := by unfold ptN; omega
  have l1 := ptN_lt X hl
  generalize ptN X = p at *
  have e2 : wrap64 (p : Int) = (p : Int) := by rw [w64, sg_id _ (by omega) (by omega)]
  have hb0 := bel1 w (.cells #[.int .u64 (s : Int), .int .i64 a, .int .i64 b, .int .i64 c] 28)
  clear hk
  go_enter Try.func17, Try.ntmps17
  go_wp2_with fail
  refine (CW.out _).mono ?_
  rintro e w1 ⟨rfl, hb⟩
  have hX := bchain hb0 hb
  clear CW hb hb0
  go_wp2
  go_ret
  exact ⟨rfl, hX⟩
theorem dg_32 (V : Int) (h0 : 0 ≤ V) (h1 : V < 340282366920938463463374607431768211456) : dg V 3 * 4294967296 + dg V 2 = V / 18446744073709551616 := by
  simp only [dg, Nat.reduceMul, Int.reducePow]
  omega
theorem dg_21 (V : Int) (h0 : 0 ≤ V) (h1 : V < 79228162514264337593543950336) : dg V 2 * 4294967296 + dg V 1 = V / 4294967296 := by
  simp only [dg, Nat.reduceMul, Int.reducePow]
  omega
theorem nmul_in (x y X Y : Nat) (hx : x ≤ X) (hy : y ≤ Y) : (0 : Int) ≤ (x : Int) * (y : Int) ∧ (x : Int) * (y : Int) ≤ (X : Int) * (Y : Int) := by
  rw [← Int.natCast_mul, ← Int.natCast_mul]
  have := Nat.mul_le_mul hx hy
  omega
set_option maxHeartbeats 4000000 in
theorem refBelow_any (s : Nat) (a b c i : Int) (n : Nat) (hk : Ky s a b c) (i0 : -9223372036854775808 ≤ i) (i1 : i ≤ 9223372036854775807) (n0 : 1 ≤ n) (n1 : n ≤ 9223372036854775807) (w : World) :
    Calls Try.prog 14 #[.agg #[.int .u64 (s : Int), .int .i64 a, .int .i64 b, .int .i64 c], .int .i64 i, .int .i64 (n : Int)] w fun e w' => e = .returned (.int .i64 ((blN (wdN s a b c i) n : Nat) : Int)) ∧ Below w.heap.size w w' := by
  have CW : Hid (∀ W : World, Calls Try.prog 11 #[.agg #[.int .u64 (s : Int), .int .i64 a, .int .i64 b, .int .i64 c], .int .i64 i] W fun e w' => e = .returned (.int .u64 ((wdN s a b c i : Nat) : Int)) ∧ Below W.heap.size W w') := fun W => refWord_any s a b c i hk i0 i1 W
  have hl := wdN_lt s a b c i
  generalize wdN s a b c i = X at *
  have CP : Hid (∀ W : World, Calls Try.prog 28 #[.int .u64 (X : Int), .int .u64 (n : Int)] W fun e w' => e = .returned (.agg #[.int .u64 (dg ((X : Int) * (n : Int)) 0), .int .u64 (dg ((X : Int) * (n : Int)) 1), .int .u64 (dg ((X : Int) * (n : Int)) 2), .int .u64 (dg ((X : Int) * (n : Int)) 3), .int .u64 (dg ((X : Int) * (n : Int)) 4), .int .u64 (dg ((X : Int) * (n : Int)) 5)]) ∧ Below W.heap.size W w') := fun W => sproduct_any (X : Int) (n : Int) (by omega) (by omega) (by omega) (by omega) W
  obtain ⟨v0, v1⟩ := nmul_in X n 18446744073709551615 9223372036854775807 (by omega) n1
  have hV : ((blN X n : Nat) : Int) = (X : Int) * (n : Int) / 18446744073709551616 := by unfold blN; rw [Int.natCast_ediv, Int.natCast_mul]; rfl
  have hlt := blN_lt X n hl (by omega)
  generalize blN X n = R at *
  obtain ⟨V, hVV⟩ : ∃ x, (X : Int) * (n : Int) = x := ⟨_, rfl⟩
  rw [hVV] at CP v0 v1 hV
  have e3 := dg_32 V v0 (by omega)
  have r3 := dg_rng V 3
  have r2 := dg_rng V 2
  rw [← hV] at e3
  have hb0 := bel1 w (.cells #[.int .u64 (s : Int), .int .i64 a, .int .i64 b, .int .i64 c] 28)
  have hnI : ¬ (n : Int) < 1 := by omega
  have hwn : IntKind.u64.wrap (n : Int) = (n : Int) := by rw [IntKind.wrap_u64]; omega
  have E5 : Hid (wrap64 (dg V 3 * 4294967296 + dg V 2) = (R : Int)) := by show _ = _; rw [e3, w64, sg_id _ (by omega) (by omega)]
  have HR : Hid ((0 : Int) ≤ dg V 3 ∧ dg V 3 ≤ 4294967295 ∧ 0 ≤ dg V 2 ∧ dg V 2 ≤ 4294967295) := ⟨r3.1, r3.2, r2.1, r2.2⟩
  clear hk v0 v1 hV hVV e3
  generalize dg V 0 = d0 at *
  generalize dg V 1 = d1 at *
  generalize dg V 2 = d2 at *
  generalize dg V 3 = d3 at *
  generalize dg V 4 = d4 at *
  generalize dg V 5 = d5 at *
  go_enter Try.func14, Try.ntmps14
  go_wp2_with fail
  refine (CW.out _).mono ?_
  rintro e w1 ⟨rfl, hb⟩
  have hX := bchain hb0 hb
  clear CW hb hb0
  go_wp2_with fail
  refine (CP.out _).mono ?_
  rintro e w2 ⟨rfl, hb⟩
  have hX2 := bchain (bchain hX hb) (bel1 w2 (.cells #[.int .u64 d0, .int .u64 d1, .int .u64 d2, .int .u64 d3, .int .u64 d4, .int .u64 d5] 55))
  clear CP hb hX
  go_wp2
  go_ret
  exact ⟨by show Ending.returned (Value.int .i64 (wrap64 (d3 * 4294967296 + d2))) = _; rw [E5.out], hX2⟩
set_option maxHeartbeats 1000000 in
theorem refBelow_none (s : Nat) (a b c i n : Int) (hn : n < 1) (w : World) :
    Calls Try.prog 14 #[.agg #[.int .u64 (s : Int), .int .i64 a, .int .i64 b, .int .i64 c], .int .i64 i, .int .i64 n] w fun e w' => e = .returned (.int .i64 0) ∧ Below w.heap.size w w' := by
  have hb0 := bel1 w (.cells #[.int .u64 (s : Int), .int .i64 a, .int .i64 b, .int .i64 c] 28)
  go_enter Try.func14, Try.ntmps14
  go_wp2
  go_ret
  exact ⟨rfl, hb0⟩
set_option maxHeartbeats 1000000 in
theorem refBetween_low (s : Nat) (a b c i lw hg : Int) (h : hg ≤ lw) (w : World) :
    Calls Try.prog 18 #[.agg #[.int .u64 (s : Int), .int .i64 a, .int .i64 b, .int .i64 c], .int .i64 i, .int .i64 lw, .int .i64 hg] w fun e w' => e = .returned (.int .i64 lw) ∧ Below w.heap.size w w' := by
  have hb0 := bel1 w (.cells #[.int .u64 (s : Int), .int .i64 a, .int .i64 b, .int .i64 c] 28)
  go_enter Try.func18, Try.ntmps18
  go_wp2
  go_ret
  exact ⟨rfl, hb0⟩
set_option maxHeartbeats 4000000 in
theorem refBetween_any (s : Nat) (a b c i lw hg : Int) (hk : Ky s a b c) (i0 : -9223372036854775808 ≤ i) (i1 : i ≤ 9223372036854775807) (l0 : -9223372036854775808 ≤ lw) (h1 : hg ≤ 9223372036854775807) (hlh : lw < hg) (w : World) :
    Calls Try.prog 18 #[.agg #[.int .u64 (s : Int), .int .i64 a, .int .i64 b, .int .i64 c], .int .i64 i, .int .i64 lw, .int .i64 hg] w fun e w' => e = .returned (.int .i64 (lw + ((bwN (hg - lw).toNat (ptN (wdN s a b c i)) : Nat) : Int))) ∧ Below w.heap.size w w' := by
  have CW : Hid (∀ W : World, Calls Try.prog 17 #[.agg #[.int .u64 (s : Int), .int .i64 a, .int .i64 b, .int .i64 c], .int .i64 i] W fun e w' => e = .returned (.int .i64 ((ptN (wdN s a b c i) : Nat) : Int)) ∧ Below W.heap.size W w') := fun W => refPart_any s a b c i hk i0 i1 W
  have hl := ptN_lt _ (wdN_lt s a b c i)
  generalize ptN (wdN s a b c i) = p at *
  obtain ⟨D, hD⟩ : ∃ x, (hg - lw).toNat = x := ⟨_, rfl⟩
  rw [hD]
  have hDI : (D : Int) = hg - lw := by omega
  clear hD
  have CP : Hid (∀ W : World, Calls Try.prog 28 #[.int .u64 (D : Int), .int .u64 (p : Int)] W fun e w' => e = .returned (.agg #[.int .u64 (dg ((D : Int) * (p : Int)) 0), .int .u64 (dg ((D : Int) * (p : Int)) 1), .int .u64 (dg ((D : Int) * (p : Int)) 2), .int .u64 (dg ((D : Int) * (p : Int)) 3), .int .u64 (dg ((D : Int) * (p : Int)) 4), .int .u64 (dg ((D : Int) * (p : Int)) 5)]) ∧ Below W.heap.size W w') := fun W => sproduct_any (D : Int) (p : Int) (by omega) (by omega) (by omega) (by omega) W
  obtain ⟨v0, v1⟩ := nmul_in D p 18446744073709551615 4294967295 (by omega) (by omega)
  have hV : ((bwN D p : Nat) : Int) = (D : Int) * (p : Int) / 4294967296 := by unfold bwN; rw [Int.natCast_ediv, Int.natCast_mul]; rfl
  have hlt := bwN_lt D p hl (by omega)
  generalize bwN D p = R at *
  obtain ⟨V, hVV⟩ : ∃ x, (D : Int) * (p : Int) = x := ⟨_, rfl⟩
  rw [hVV] at CP v0 v1 hV
  have e3 := dg_21 V v0 (by omega)
  have r2 := dg_rng V 2
  have r1 := dg_rng V 1
  rw [← hV] at e3
  have hb0 := bel1 w (.cells #[.int .u64 (s : Int), .int .i64 a, .int .i64 b, .int .i64 c] 28)
  have hnI : ¬ hg ≤ lw := by omega
  obtain ⟨ul, hul⟩ : ∃ x, IntKind.u64.wrap lw = x := ⟨_, rfl⟩
  obtain ⟨uh, huh⟩ : ∃ x, IntKind.u64.wrap hg = x := ⟨_, rfl⟩
  have eD : IntKind.u64.wrap (uh - ul) = (D : Int) := by rw [← hul, ← huh, IntKind.wrap_u64, IntKind.wrap_u64, IntKind.wrap_u64]; omega
  have ep : IntKind.u64.wrap (p : Int) = (p : Int) := by rw [IntKind.wrap_u64]; omega
  obtain ⟨T, hT⟩ : ∃ x, IntKind.u64.wrap (IntKind.u64.wrap (ul + dg V 2 * 4294967296) + dg V 1) = x := ⟨_, rfl⟩
  have E5 : Hid (wrap64 T = lw + (R : Int)) := by
    show _ = _
    rw [w64, ← hT, ← hul, IntKind.wrap_u64, IntKind.wrap_u64, IntKind.wrap_u64]
    unfold sg
    omega
  clear hk v0 v1 hV hVV e3
  generalize dg V 0 = d0 at *
  generalize dg V 1 = d1 at *
  generalize dg V 2 = d2 at *
  generalize dg V 3 = d3 at *
  generalize dg V 4 = d4 at *
  generalize dg V 5 = d5 at *
  generalize lw + (R : Int) = Q at *
  clear hDI
  go_enter Try.func18, Try.ntmps18
  go_wp2_with fail
  refine (CW.out _).mono ?_
  rintro e w1 ⟨rfl, hb⟩
  have hX := bchain hb0 hb
  clear CW hb hb0
  go_wp2_with fail
  refine (CP.out _).mono ?_
  rintro e w2 ⟨rfl, hb⟩
  have hX2 := bchain (bchain hX hb) (bel1 w2 (.cells #[.int .u64 d0, .int .u64 d1, .int .u64 d2, .int .u64 d3, .int .u64 d4, .int .u64 d5] 55))
  clear CP hb hX
  go_wp2
  go_ret
  exact ⟨by show Ending.returned (Value.int .i64 (wrap64 T)) = _; rw [E5.out], hX2⟩
end Go.Proofs.Ytoojakjbpbjeaaa
