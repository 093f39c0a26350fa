/-
  Texts of this proof, joined: EWalkA EWalkB LWalkK LBase LBase2 LAwake LLaw0.
-/
import Derived.Test.YtdfjnbkkdgolnaaGreatDoorSU01
import Derived.Test.YtdfjnbkkdgolnaaGreatDoorSU06
import Derived.Test.YtdfjnbkkdgolnaaGreatDoorSU10
import Derived.Deep.RegionHeld3
set_option linter.unusedVariables false
set_option linter.unusedSimpArgs false
namespace Go.Proofs.YtdfjnbkkdgolnaaGreatDoor
open Go.RowKit

/-- A block of four cells. -/
structure K4 (b : Nat) (x y z u : Value) (w : World) : Prop where
  c0 : w.cell? ⟨b, 0, none⟩ = some x
  c1 : w.cell? ⟨b, 1, none⟩ = some y
  c2 : w.cell? ⟨b, 2, none⟩ = some z
  c3 : w.cell? ⟨b, 3, none⟩ = some u
theorem K4.later {b : Nat} {x y z u : Value} {w w' : World} (h : K4 b x y z u w) (hb : Below w.heap.size w w') : K4 b x y z u w' :=
  ⟨(hb.cell (World.block_lt_of_cell? _ _ h.c0)).trans h.c0, (hb.cell (World.block_lt_of_cell? _ _ h.c1)).trans h.c1, (hb.cell (World.block_lt_of_cell? _ _ h.c2)).trans h.c2, (hb.cell (World.block_lt_of_cell? _ _ h.c3)).trans h.c3⟩
theorem xor6 (a b : Nat) (ha : a < 18446744073709551616) (hb : b < 18446744073709551616) : bits .xor .u64 (a : Int) (b : Int) = ((a ^^^ b : Nat) : Int) := bits_xor_u64_nat a b ha hb
set_option maxHeartbeats 2000000 in
theorem stir_any (X : Nat) (hX : X < 18446744073709551616) (w : World) :
    Calls Tryz.prog 126 #[.int .u64 (X : Int)] w fun e w' => e = .returned (.int .u64 ((stN X : Nat) : Int)) ∧ w' = w := by
  obtain ⟨A, hA⟩ : ∃ A, X ^^^ X / 4294967296 = A := ⟨_, rfl⟩
  obtain ⟨Y, hY⟩ : ∃ Y, A * 11400714819323198549 % 18446744073709551616 = Y := ⟨_, rfl⟩
  obtain ⟨C, hC⟩ : ∃ C, Y ^^^ Y / 536870912 = C := ⟨_, rfl⟩
  obtain ⟨Z, hZ⟩ : ∃ Z, C * 15241094284759029579 % 18446744073709551616 = Z := ⟨_, rfl⟩
  obtain ⟨R, hR⟩ : ∃ R, Z ^^^ Z / 4294967296 = R := ⟨_, rfl⟩
  have hN : stN X = R := by unfold stN stZ stY; rw [hA, hY, hC, hZ, hR]
  have lY : Y < 18446744073709551616 := by rw [← hY]; exact Nat.mod_lt _ (by omega)
  have lZ : Z < 18446744073709551616 := by rw [← hZ]; exact Nat.mod_lt _ (by omega)
  have e1 : bits .xor .u64 (X : Int) ((X : Int) / 4294967296) = (A : Int) := by rw [show ((X : Int) / 4294967296) = ((X / 4294967296 : Nat) : Int) by omega, xor6 _ _ hX (by omega), hA]
  have e2 : IntKind.u64.wrap ((A : Int) * 11400714819323198549) = (Y : Int) := by rw [IntKind.wrap_u64, ← hY]; omega
  have e3 : bits .xor .u64 (Y : Int) ((Y : Int) / 536870912) = (C : Int) := by rw [show ((Y : Int) / 536870912) = ((Y / 536870912 : Nat) : Int) by omega, xor6 _ _ lY (by omega), hC]
  have e4 : IntKind.u64.wrap ((C : Int) * 15241094284759029579) = (Z : Int) := by rw [IntKind.wrap_u64, ← hZ]; omega
  have e5 : bits .xor .u64 (Z : Int) ((Z : Int) / 4294967296) = (R : Int) := by rw [show ((Z : Int) / 4294967296) = ((Z / 4294967296 : Nat) : Int) by omega, xor6 _ _ lZ (by omega), hR]
  rw [hN]
  clear hA hY hC hZ hR hN
  go_enter Tryz.func126, Tryz.ntmps126
  go_wp2
  go_ret
  exact ⟨rfl, rfl⟩
/-- A key's numbers are of their kinds. -/
structure Ky (s : Nat) (a b c : Int) : Prop where
  s1 : s < 18446744073709551616
  a0 : -9223372036854775808 ≤ a
  a1 : a ≤ 9223372036854775807
  b0 : -9223372036854775808 ≤ b
  b1 : b ≤ 9223372036854775807
  c0 : -9223372036854775808 ≤ c
  c1 : c ≤ 9223372036854775807
theorem u6_wrap (n : Int) : IntKind.u64.wrap n = ((u6 n : Nat) : Int) := by rw [IntKind.wrap_u64, u6_cast]
theorem mix_eq (w : Nat) (n : Int) (hw : w < 18446744073709551616) : IntKind.u64.wrap (bits .xor .u64 (w : Int) ((u6 n : Nat) : Int) + 14029467366897019727) = ((((w ^^^ u6 n) + 14029467366897019727) % 18446744073709551616 : Nat) : Int) := by
  rw [xor6 _ _ hw (u6_lt n), IntKind.wrap_u64]
  omega
set_option maxHeartbeats 4000000 in
theorem refWord_any (s : Nat) (a b c i : Int) (hk : Ky s a b c) (i0 : -9223372036854775808 ≤ i) (i1 : i ≤ 9223372036854775807) (w : World) :
    Calls Tryz.prog 100 #[.agg #[.int .u64 (s : Int), .int .i64 a, .int .i64 b, .int .i64 c], .int .i64 i] w fun e w' => e = .returned (.int .u64 ((wdN s a b c i : Nat) : Int)) ∧ Below w.heap.size w w' := by
  obtain ⟨s1, -, -, -, -, -, -⟩ := id hk
  have wa := u6_wrap a
  have wb := u6_wrap b
  have wc := u6_wrap c
  have wi := u6_wrap i
  obtain ⟨X0, h0⟩ : ∃ x, (s + 7046029254386353131) % 18446744073709551616 = x := ⟨_, rfl⟩
  have l0 : X0 < 18446744073709551616 := by rw [← h0]; exact Nat.mod_lt _ (by omega)
  have e0 : IntKind.u64.wrap ((s : Int) + 7046029254386353131) = (X0 : Int) := by rw [IntKind.wrap_u64, ← h0]; omega
  obtain ⟨Y0, g0⟩ : ∃ x, stN X0 = x := ⟨_, rfl⟩
  have m0 : Y0 < 18446744073709551616 := by rw [← g0]; exact stN_lt _
  have q1 := mix_eq Y0 a m0
  obtain ⟨X1, h1⟩ : ∃ x, ((Y0 ^^^ u6 a) + 14029467366897019727) % 18446744073709551616 = x := ⟨_, rfl⟩
  have l1 : X1 < 18446744073709551616 := by rw [← h1]; exact Nat.mod_lt _ (by omega)
  rw [h1] at q1
  obtain ⟨Y1, g1⟩ : ∃ x, stN X1 = x := ⟨_, rfl⟩
  have m1 : Y1 < 18446744073709551616 := by rw [← g1]; exact stN_lt _
  have q2 := mix_eq Y1 b m1
  obtain ⟨X2, h2⟩ : ∃ x, ((Y1 ^^^ u6 b) + 14029467366897019727) % 18446744073709551616 = x := ⟨_, rfl⟩
  have l2 : X2 < 18446744073709551616 := by rw [← h2]; exact Nat.mod_lt _ (by omega)
  rw [h2] at q2
  obtain ⟨Y2, g2⟩ : ∃ x, stN X2 = x := ⟨_, rfl⟩
  have m2 : Y2 < 18446744073709551616 := by rw [← g2]; exact stN_lt _
  have q3 := mix_eq Y2 c m2
  obtain ⟨X3, h3⟩ : ∃ x, ((Y2 ^^^ u6 c) + 14029467366897019727) % 18446744073709551616 = x := ⟨_, rfl⟩
  have l3 : X3 < 18446744073709551616 := by rw [← h3]; exact Nat.mod_lt _ (by omega)
  rw [h3] at q3
  obtain ⟨Y3, g3⟩ : ∃ x, stN X3 = x := ⟨_, rfl⟩
  have m3 : Y3 < 18446744073709551616 := by rw [← g3]; exact stN_lt _
  obtain ⟨P, hP⟩ : ∃ x, u6 i * 11400714819323198485 % 18446744073709551616 = x := ⟨_, rfl⟩
  have lP : P < 18446744073709551616 := by rw [← hP]; exact Nat.mod_lt _ (by omega)
  have eP : IntKind.u64.wrap (((u6 i : Nat) : Int) * 11400714819323198485) = (P : Int) := by rw [IntKind.wrap_u64, ← hP]; omega
  have q4 := xor6 Y3 P m3 lP
  obtain ⟨X4, h4⟩ : ∃ x, Y3 ^^^ P = x := ⟨_, rfl⟩
  have l4 : X4 < 18446744073709551616 := by rw [← h4]; exact xor_in _ _ m3 lP
  rw [h4] at q4
  have hN : wdN s a b c i = stN X4 := by unfold wdN rtN mxN; rw [h0, g0, h1, g1, h2, g2, h3, g3, hP, h4]
  rw [hN]
  have S0 : Hid (∀ W : World, Calls Tryz.prog 126 #[.int .u64 (X0 : Int)] W fun e w' => e = .returned (.int .u64 (Y0 : Int)) ∧ w' = W) := fun W => g0 ▸ stir_any X0 l0 W
  have S1 : Hid (∀ W : World, Calls Tryz.prog 126 #[.int .u64 (X1 : Int)] W fun e w' => e = .returned (.int .u64 (Y1 : Int)) ∧ w' = W) := fun W => g1 ▸ stir_any X1 l1 W
  have S2 : Hid (∀ W : World, Calls Tryz.prog 126 #[.int .u64 (X2 : Int)] W fun e w' => e = .returned (.int .u64 (Y2 : Int)) ∧ w' = W) := fun W => g2 ▸ stir_any X2 l2 W
  have S3 : Hid (∀ W : World, Calls Tryz.prog 126 #[.int .u64 (X3 : Int)] W fun e w' => e = .returned (.int .u64 (Y3 : Int)) ∧ w' = W) := fun W => g3 ▸ stir_any X3 l3 W
  have S4 : Hid (∀ W : World, Calls Tryz.prog 126 #[.int .u64 (X4 : Int)] W fun e w' => e = .returned (.int .u64 ((stN X4 : Nat) : Int)) ∧ w' = W) := fun W => stir_any X4 l4 W
  generalize stN X4 = R at *
  generalize u6 a = ua at *
  generalize u6 b = ub at *
  generalize u6 c = uc at *
  generalize u6 i = ui at *
  have hb0 := bel1 w (.cells #[.int .u64 (s : Int), .int .i64 a, .int .i64 b, .int .i64 c] 103)
  clear h0 h1 h2 h3 h4 g0 g1 g2 g3 hP hN hk i0 i1 s1
  go_enter Tryz.func100, Tryz.ntmps100
  go_wp2_with fail
  refine (S0.out _).mono ?_
  rintro e w1 ⟨rfl, hz⟩
  subst hz
  clear S0
  go_wp2_with fail
  refine (S1.out _).mono ?_
  rintro e w1 ⟨rfl, hz⟩
  subst hz
  clear S1
  go_wp2_with fail
  refine (S2.out _).mono ?_
  rintro e w1 ⟨rfl, hz⟩
  subst hz
  clear S2
  go_wp2_with fail
  refine (S3.out _).mono ?_
  rintro e w1 ⟨rfl, hz⟩
  subst hz
  clear S3
  go_wp2_with fail
  refine (S4.out _).mono ?_
  rintro e w1 ⟨rfl, hz⟩
  subst hz
  clear S4
  go_wp2
  go_ret
  exact ⟨rfl, hb0⟩
end Go.Proofs.YtdfjnbkkdgolnaaGreatDoor
set_option linter.unusedVariables false
set_option linter.unusedSimpArgs false
namespace Go.Proofs.YtdfjnbkkdgolnaaGreatDoor
open Go.RowKit

set_option maxHeartbeats 2000000 in
theorem refPart_any (s : Nat) (a b c i : Int) (hk : Ky s a b c) (i0 : -9223372036854775808 ≤ i) (i1 : i ≤ 9223372036854775807) (w : World) :
    Calls Tryz.prog 68 #[.agg #[.int .u64 (s : Int), .int .i64 a, .int .i64 b, .int .i64 c], .int .i64 i] w fun e w' => e = .returned (.int .i64 ((ptN (wdN s a b c i) : Nat) : Int)) ∧ Below w.heap.size w w' := by
  have CW : Hid (∀ W : World, Calls Tryz.prog 100 #[.agg #[.int .u64 (s : Int), .int .i64 a, .int .i64 b, .int .i64 c], .int .i64 i] W fun e w' => e = .returned (.int .u64 ((wdN s a b c i : Nat) : Int)) ∧ Below W.heap.size W w') := fun W => refWord_any s a b c i hk i0 i1 W
  have hl := wdN_lt s a b c i
  generalize wdN s a b c i = X at *
  have e1 : (X : Int) / 4294967296 = ((ptN X : Nat) : Int) := by unfold ptN; omega
  have l1 := ptN_lt X hl
  generalize ptN X = p at *
  have e2 : wrap64 (p : Int) = (p : Int) := by rw [w64, sg_id _ (by omega) (by omega)]
  have hb0 := bel1 w (.cells #[.int .u64 (s : Int), .int .i64 a, .int .i64 b, .int .i64 c] 103)
  clear hk
  go_enter Tryz.func68, Tryz.ntmps68
  go_wp2_with fail
  refine (CW.out _).mono ?_
  rintro e w1 ⟨rfl, hb⟩
  have hX := bchain hb0 hb
  clear CW hb hb0
  go_wp2
  go_ret
  exact ⟨rfl, hX⟩
theorem dg_21 (V : Int) (h0 : 0 ≤ V) (h1 : V < 79228162514264337593543950336) : dg V 2 * 4294967296 + dg V 1 = V / 4294967296 := by
  simp only [dg, Nat.reduceMul, Int.reducePow]
  omega
theorem nmul_in (x y X Y : Nat) (hx : x ≤ X) (hy : y ≤ Y) : (0 : Int) ≤ (x : Int) * (y : Int) ∧ (x : Int) * (y : Int) ≤ (X : Int) * (Y : Int) := by
  rw [← Int.natCast_mul, ← Int.natCast_mul]
  have := Nat.mul_le_mul hx hy
  omega
set_option maxHeartbeats 4000000 in
theorem refBetween_any (s : Nat) (a b c i lw hg : Int) (hk : Ky s a b c) (i0 : -9223372036854775808 ≤ i) (i1 : i ≤ 9223372036854775807) (l0 : -9223372036854775808 ≤ lw) (h1 : hg ≤ 9223372036854775807) (hlh : lw < hg) (w : World) :
    Calls Tryz.prog 44 #[.agg #[.int .u64 (s : Int), .int .i64 a, .int .i64 b, .int .i64 c], .int .i64 i, .int .i64 lw, .int .i64 hg] w fun e w' => e = .returned (.int .i64 (lw + ((bwN (hg - lw).toNat (ptN (wdN s a b c i)) : Nat) : Int))) ∧ Below w.heap.size w w' := by
  have CW : Hid (∀ W : World, Calls Tryz.prog 68 #[.agg #[.int .u64 (s : Int), .int .i64 a, .int .i64 b, .int .i64 c], .int .i64 i] W fun e w' => e = .returned (.int .i64 ((ptN (wdN s a b c i) : Nat) : Int)) ∧ Below W.heap.size W w') := fun W => refPart_any s a b c i hk i0 i1 W
  have hl := ptN_lt _ (wdN_lt s a b c i)
  generalize ptN (wdN s a b c i) = p at *
  obtain ⟨D, hD⟩ : ∃ x, (hg - lw).toNat = x := ⟨_, rfl⟩
  rw [hD]
  have hDI : (D : Int) = hg - lw := by omega
  clear hD
  have CP : Hid (∀ W : World, Calls Tryz.prog 67 #[.int .u64 (D : Int), .int .u64 (p : Int)] W fun e w' => e = .returned (.agg #[.int .u64 (dg ((D : Int) * (p : Int)) 0), .int .u64 (dg ((D : Int) * (p : Int)) 1), .int .u64 (dg ((D : Int) * (p : Int)) 2), .int .u64 (dg ((D : Int) * (p : Int)) 3), .int .u64 (dg ((D : Int) * (p : Int)) 4), .int .u64 (dg ((D : Int) * (p : Int)) 5)]) ∧ Below W.heap.size W w') := fun W => sproduct_any (D : Int) (p : Int) (by omega) (by omega) (by omega) (by omega) W
  obtain ⟨v0, v1⟩ := nmul_in D p 18446744073709551615 4294967295 (by omega) (by omega)
  have hV : ((bwN D p : Nat) : Int) = (D : Int) * (p : Int) / 4294967296 := by unfold bwN; rw [Int.natCast_ediv, Int.natCast_mul]; rfl
  have hlt := bwN_lt D p hl (by omega)
  generalize bwN D p = R at *
  obtain ⟨V, hVV⟩ : ∃ x, (D : Int) * (p : Int) = x := ⟨_, rfl⟩
  rw [hVV] at CP v0 v1 hV
  have e3 := dg_21 V v0 (by omega)
  have r2 := dg_rng V 2
  have r1 := dg_rng V 1
  rw [← hV] at e3
  have hb0 := bel1 w (.cells #[.int .u64 (s : Int), .int .i64 a, .int .i64 b, .int .i64 c] 103)
  have hnI : ¬ hg ≤ lw := by omega
  obtain ⟨ul, hul⟩ : ∃ x, IntKind.u64.wrap lw = x := ⟨_, rfl⟩
  obtain ⟨uh, huh⟩ : ∃ x, IntKind.u64.wrap hg = x := ⟨_, rfl⟩
  have eD : IntKind.u64.wrap (uh - ul) = (D : Int) := by rw [← hul, ← huh, IntKind.wrap_u64, IntKind.wrap_u64, IntKind.wrap_u64]; omega
  have ep : IntKind.u64.wrap (p : Int) = (p : Int) := by rw [IntKind.wrap_u64]; omega
  obtain ⟨T, hT⟩ : ∃ x, IntKind.u64.wrap (IntKind.u64.wrap (ul + dg V 2 * 4294967296) + dg V 1) = x := ⟨_, rfl⟩
  have E5 : Hid (wrap64 T = lw + (R : Int)) := by
    show _ = _
    rw [w64, ← hT, ← hul, IntKind.wrap_u64, IntKind.wrap_u64, IntKind.wrap_u64]
    unfold sg
    omega
  clear hk v0 v1 hV hVV e3
  generalize dg V 0 = d0 at *
  generalize dg V 1 = d1 at *
  generalize dg V 2 = d2 at *
  generalize dg V 3 = d3 at *
  generalize dg V 4 = d4 at *
  generalize dg V 5 = d5 at *
  generalize lw + (R : Int) = Q at *
  clear hDI
  go_enter Tryz.func44, Tryz.ntmps44
  go_wp2_with fail
  refine (CW.out _).mono ?_
  rintro e w1 ⟨rfl, hb⟩
  have hX := bchain hb0 hb
  clear CW hb hb0
  go_wp2_with fail
  refine (CP.out _).mono ?_
  rintro e w2 ⟨rfl, hb⟩
  have hX2 := bchain (bchain hX hb) (bel1 w2 (.cells #[.int .u64 d0, .int .u64 d1, .int .u64 d2, .int .u64 d3, .int .u64 d4, .int .u64 d5] 106))
  clear CP hb hX
  go_wp2
  go_ret
  exact ⟨by show Ending.returned (Value.int .i64 (wrap64 T)) = _; rw [E5.out], hX2⟩
end Go.Proofs.YtdfjnbkkdgolnaaGreatDoor
set_option linter.unusedVariables false
set_option linter.unusedSimpArgs false
namespace Go.Proofs.YtdfjnbkkdgolnaaGreatDoor
open Go.RowKit

/-- Half the room of a layer's weights. -/
def rtB (n : Nat) : Int := qv (1 * 2 ^ (32 * 1)) (n : Int)
theorem rtB_all : ∀ n : Fin 65, 1 ≤ n.val → 1 ≤ rtB n.val ∧ rtB n.val ≤ 4294967296 := by decide +kernel
theorem rtB_rng (n : Nat) (h1 : 1 ≤ n) (h2 : n ≤ 64) : 1 ≤ rtB n ∧ rtB n ≤ 4294967296 := rtB_all ⟨n, by omega⟩ h1
/-- A weight to begin with. -/
def inW (sd n j : Nat) : Int := -rtB n + ((bwN (rtB n - -rtB n).toNat (ptN (wdN sd 3 0 0 (j : Int))) : Nat) : Int)
/-- What is told layer by layer. -/
def byLay (z : Nat → Nat) (f : Nat → Nat → Int) : Nat → Nat → Int
  | 0, _ => 0
  | n + 1, j => if j < fsN z n then byLay z f n j else f n j
theorem byLay_at (z : Nat → Nat) (f : Nat → Nat → Int) (n l j : Nat) (hl : l < n) (h1 : fsN z l ≤ j) (h2 : j < fsN z (l + 1)) : byLay z f n j = f l j := by
  induction n with
  | zero => omega
  | succ n ih =>
    show (if j < fsN z n then byLay z f n j else f n j) = _
    rcases Nat.lt_or_ge l n with h | h
    · have hm := fsN_mono z (show l + 1 ≤ n from h)
      rw [if_pos (by omega)]
      exact ih h
    · obtain rfl : l = n := by omega
      rw [if_neg (by omega)]
/-- The parameters to begin with. -/
def inF (z : Nat → Nat) (m sd : Nat) : Nat → Int := byLay z (fun l j => if j < fsN z l + z l * z (l + 1) then inW sd (z l) j else 0) (m - 1)
theorem inW_rng (sd n j : Nat) (h1 : 1 ≤ n) (h2 : n ≤ 64) : -9223372036854775808 ≤ inW sd n j ∧ inW sd n j ≤ 9223372036854775807 := by
  have h := rtB_rng n h1 h2
  have hb := bwN_lt (rtB n - -rtB n).toNat (ptN (wdN sd 3 0 0 (j : Int))) (ptN_lt _ (wdN_lt _ _ _ _ _)) (by omega)
  unfold inW
  omega
theorem inF_w (z : Nat → Nat) (m sd l j : Nat) (hl : l + 1 < m) (h1 : fsN z l ≤ j) (h2 : j < fsN z l + z l * z (l + 1)) : inF z m sd j = inW sd (z l) j := by
  unfold inF
  have e : fsN z (l + 1) = fsN z l + (z l * z (l + 1) + z (l + 1)) := rfl
  rw [byLay_at z _ (m - 1) l j (by omega) h1 (by omega), if_pos h2]
theorem inF_o (z : Nat → Nat) (m sd l j : Nat) (hl : l + 1 < m) (h1 : fsN z l + z l * z (l + 1) ≤ j) (h2 : j < fsN z (l + 1)) : inF z m sd j = 0 := by
  unfold inF
  rw [byLay_at z _ (m - 1) l j (by omega) (by omega) h2, if_neg (by omega)]
theorem inF_rng (z : Nat → Nat) (m sd j : Nat) (hz : ∀ i, i < m → 1 ≤ z i ∧ z i ≤ 64) (hj : j < fsN z (m - 1)) : -9223372036854775808 ≤ inF z m sd j ∧ inF z m sd j ≤ 9223372036854775807 := by
  obtain ⟨l, hl, ⟨u, i, hu, hi, e⟩ | ⟨u, hu, e⟩⟩ := place_of z m j (fun i hi => (hz i hi).1) hj
  · have h := wt_rng z l u i hu hi
    rw [inF_w z m sd l j hl (by omega) (by omega)]
    exact inW_rng sd (z l) j (hz l (by omega)).1 (hz l (by omega)).2
  · have h := of_rng z l u hu
    rw [inF_o z m sd l j hl (by omega) (by omega)]
    omega
set_option maxRecDepth 100000 in
set_option maxHeartbeats 16000000 in
theorem init_any (sd : Nat) (hsd : sd < 18446744073709551616) (vs : Value) (m cp : Nat) (z : Nat → Nat) (w : World) (hS : Ar w vs m (fun i => ((z i : Nat) : Int))) (hz : Szs z m) (hcp : cp = fsN z (m - 1)) :
    Calls Tryz.prog 20 #[.int .u64 (sd : Int), vs] w fun e w' => ∃ v', e = .returned v' ∧ Ar w' v' cp (inF z m sd) ∧ Ow w.heap.size v' ∧ Below w.heap.size w w' := by
  obtain ⟨m2, m6, hz6⟩ := id hz
  have hcpB : cp ≤ 20800 := by have := fsN_le z m (m - 1) hz6 (by omega); omega
  have HZ6 : Hid (∀ i, i < m → 1 ≤ z i ∧ z i ≤ 64) := hz6
  have HSz : Hid (Szs z m ∧ cp = fsN z (m - 1)) := ⟨hz, hcp⟩
  have HSa : Hid (Ar w vs m (fun i => ((z i : Nat) : Int))) := hS
  have CC : Hid (∀ W : World, Below w.heap.size w W → Calls Tryz.prog 13 #[vs] W fun e w' => e = .returned (.int .i64 (cp : Int)) ∧ Below W.heap.size W w') := fun W hb => by rw [hcp]; exact count_yes vs m z W (hS.later hb) hz
  have HBt : Hid (∀ (n j : Nat) (W : World), 1 ≤ n → n ≤ 64 → j < cp → Calls Tryz.prog 44 #[.agg #[.int .u64 (sd : Int), .int .i64 3, .int .i64 0, .int .i64 0], .int .i64 (j : Int), .int .i64 (-rtB n), .int .i64 (rtB n)] W fun e w' => e = .returned (.int .i64 (inW sd n j)) ∧ Below W.heap.size W w') := fun n j W h1 h2 hj => by
    have h := rtB_rng n h1 h2
    exact refBetween_any sd 3 0 0 (j : Int) (-rtB n) (rtB n) ⟨hsd, by omega, by omega, by omega, by omega, by omega, by omega⟩ (by omega) (by omega) (by omega) (by omega) (by omega) W
  have HRt : Hid (∀ (n : Nat) (W : World), 1 ≤ n → n ≤ 64 → Calls Tryz.prog 43 #[.int .i64 1, .int .i64 1, .int .i64 (n : Int)] W fun e w' => ∃ ob : Bool, e = .returned (.tuple #[.int .i64 (rtB n), .bool ob]) ∧ Below W.heap.size W w') := fun n W h1 h2 => by
    refine (sratio_any 1 (n : Int) 1 (by omega) (by omega) (by omega) (by omega) (by omega) W).mono ?_
    rintro e w' ⟨rfl, hb⟩
    exact ⟨_, rfl, hb⟩
  have HFr : Hid (∀ j, j < cp → -9223372036854775808 ≤ inF z m sd j ∧ inF z m sd j ≤ 9223372036854775807) := fun j hj => inF_rng z m sd j hz6 (by omega)
  have HFw : Hid (∀ l j, l + 1 < m → fsN z l ≤ j → j < fsN z l + z l * z (l + 1) → inF z m sd j = inW sd (z l) j) := fun l j hl h1 h2 => inF_w z m sd l j hl h1 h2
  have HFo : Hid (∀ l j, l + 1 < m → fsN z l + z l * z (l + 1) ≤ j → j < fsN z (l + 1) → inF z m sd j = 0) := fun l j hl h1 h2 => inF_o z m sd l j hl h1 h2
  generalize inF z m sd = F at *
  obtain ⟨adr, cap, b, o, rfl, k1, k2, k3, k4⟩ := hS
  unfold maxLen at k2
  have ha := k3 (by omega)
  subst ha
  have HZ : Hid (∀ i, i < m → w.cell? ⟨b, o + i, none⟩ = some (.int .i64 ((z i : Nat) : Int))) := fun i hi => (k4 i hi).1
  have hbw : b < w.heap.size := World.block_lt_of_cell? _ _ (k4 0 (by omega)).1
  obtain ⟨w1, hw1⟩ : ∃ w1, w1 = w.alloc (.cells #[.slice (some ⟨b, o, none⟩) m cap, .slice none 0 0] 37) := ⟨_, rfl⟩
  have HB1 : Hid (Below w.heap.size w w1) := by rw [hw1]; exact bel1 _ _
  have HBx : Hid (Bx w.heap.size (.slice (some ⟨b, o, none⟩) m cap) (.slice none 0 0) w1) := by rw [hw1]; exact Bx.new w _ _ _
  have hmk := make_i64 cp (by omega)
  clear k3 k4 hz6 hz hcp
  go_enter Tryz.func20, Tryz.ntmps20
  go_upto_region 2 with fail
  rw [← hw1]
  clear hw1
  go_wp2_with fail
  refine (CC.out _ HB1.out).mono ?_
  rintro e w2 ⟨rfl, hb2⟩
  obtain ⟨g, hg⟩ : ∃ g, w2.heap.size = g := ⟨_, rfl⟩
  obtain ⟨w3, hw3⟩ : ∃ w3, w3 = w2.alloc (.cells (madeCells #[.int .i64 0] cp) 2) := ⟨_, rfl⟩
  have HB3 : Hid (Below w.heap.size w w3) := by rw [hw3]; exact bchain (bchain HB1.out hb2) (bel1 _ _)
  have HBx3 : Hid (Bx w.heap.size (.slice (some ⟨b, o, none⟩) m cap) (.slice none 0 0) w3) := by rw [hw3]; exact (HBx.out.later hb2).later (bel1 _ _)
  have HR3 : Hid (Rw g cp (fun j => .int .i64 (if j < fsN z 0 then F j else 0)) w3) := by
    rw [hw3, ← hg]
    exact (Rw.made w2 (.int .i64 0) cp 2).congr (fun j hj => by rw [if_neg (by show ¬ j < 0; omega)])
  have hgw : w.heap.size < g := by rw [← hg]; have := World.block_lt_of_cell? _ _ (HBx.out.later hb2).c0; exact this
  have hg3 : g < w3.heap.size := by rw [hw3, World.size_alloc]; omega
  clear hb2 HB1 HBx CC
  go_upto_region 4 with fail
  rw [← hw3]
  try simp only [hg]
  clear hw3 hmk hg w2
  go_loopw [7] (fun s7 wr => ∃ l : Nat, l + 1 ≤ m ∧ s7 = .int .i64 (l : Int) ∧ Hid (Rw g cp (fun j => .int .i64 (if j < fsN z l then F j else 0)) wr) ∧ Hid (Bx w.heap.size (.slice (some ⟨b, o, none⟩) m cap) (.slice none 0 0) wr) ∧ Hid (Below w.heap.size w wr) ∧ g < wr.heap.size) (fun s7 _ => m - (intOf s7).toNat)
  case atStart => exact ⟨0, by omega, rfl, HR3, HBx3, HB3, hg3⟩
  case round =>
    rename World => wo
    obtain ⟨l, hl, rfl, HRo, HBo, HWo, hgo⟩ := hrel
    clear HR3 HBx3 HB3 hg3
    have hwL : IntKind.i64.wrap ((l : Int) + 1) = (l : Int) + 1 := by rw [IntKind.wrap_i64]; omega
    by_cases hlt : l + 1 < m
    · have hlI : (l : Int) + 1 < (m : Int) := by omega
      have hlM : (l : Int) < (m : Int) := by omega
      have hl0 : (0 : Int) ≤ (l : Int) + 1 := by omega
      obtain ⟨za1, za2⟩ := HZ6.out l (by omega)
      obtain ⟨zb1, zb2⟩ := HZ6.out (l + 1) hlt
      have cZ := cell_later HWo.out (HZ.out l (by omega))
      obtain ⟨A, hA⟩ : ∃ A, fsN z l = A := ⟨_, rfl⟩
      obtain ⟨ZZ, hZZ⟩ : ∃ ZZ, z l * z (l + 1) = ZZ := ⟨_, rfl⟩
      have hZZb : ZZ ≤ 4096 := by rw [← hZZ]; exact Nat.mul_le_mul za2 zb2
      have eZZ : ((z l : Nat) : Int) * ((z (l + 1) : Nat) : Int) = (ZZ : Int) := by rw [← hZZ, Int.natCast_mul]
      have wZZ : IntKind.i64.wrap (ZZ : Int) = (ZZ : Int) := by rw [IntKind.wrap_i64]; omega
      have hAb : A ≤ 20800 := by rw [← hA]; have := fsN_le z m l HZ6.out (by omega); omega
      have hfs : fsN z (l + 1) = A + (ZZ + z (l + 1)) := by rw [← hA, ← hZZ]; rfl
      have Hfs : Hid (fsN z (l + 1) = A + (ZZ + z (l + 1)) ∧ A + (ZZ + z (l + 1)) ≤ cp) := ⟨hfs, by rw [← hfs, HSz.out.2]; exact fsN_mono z (by omega)⟩
      have HFw2 : Hid (∀ j, A ≤ j → j < A + ZZ → F j = inW sd (z l) j) := fun j h1 h2 => HFw.out l j hlt (by omega) (by rw [hA, hZZ]; exact h2)
      have HFo2 : Hid (∀ j, A + ZZ ≤ j → j < A + (ZZ + z (l + 1)) → F j = 0) := fun j h1 h2 => HFo.out l j hlt (by rw [hA, hZZ]; exact h1) (by rw [hfs]; exact h2)
      have HZo : Hid (wo.cell? ⟨b, o + l, none⟩ = some (.int .i64 ((z l : Nat) : Int)) ∧ wo.cell? ⟨b, o + (l + 1), none⟩ = some (.int .i64 ((z (l + 1) : Nat) : Int))) := ⟨cZ, cell_later HWo.out (HZ.out (l + 1) hlt)⟩
      have HRA : Hid (Rw g cp (fun j => .int .i64 (if j < A then F j else 0)) wo) := by rw [← hA]; exact HRo.out
      have HFi : Hid (∀ W : World, Below w.heap.size w W → Calls Tryz.prog 40 #[.agg #[.slice (some ⟨b, o, none⟩) m cap, .slice none 0 0], .int .i64 (l : Int)] W fun e w' => e = .returned (.int .i64 (A : Int)) ∧ Below W.heap.size W w') := fun W hb => by rw [← hA]; exact first_any _ _ m l z W (HSa.out.later hb) HSz.out.1 (by omega)
      have hrt := rtB_rng (z l) za1 za2
      have CRt := HRt.out (z l) wo za1 za2
      have HBt2 : Hid (∀ (j : Nat) (W : World), j < cp → Calls Tryz.prog 44 #[.agg #[.int .u64 (sd : Int), .int .i64 3, .int .i64 0, .int .i64 0], .int .i64 (j : Int), .int .i64 (-rtB (z l)), .int .i64 (rtB (z l))] W fun e w' => e = .returned (.int .i64 (inW sd (z l) j)) ∧ Below W.heap.size W w') := fun j W hj => HBt.out (z l) j W za1 za2 hj
      clear hA hZZ hfs HRo
      generalize rtB (z l) = rb at *
      have wrb : IntKind.i64.wrap (-rb) = -rb := by rw [IntKind.wrap_i64]; omega
      go_wp2_with fail
      refine CRt.mono ?_
      rintro e w4 ⟨ob, rfl, hb4⟩
      have HR4 : Hid (Rw g cp (fun j => .int .i64 (if j < A + 0 then F j else 0)) w4) := HRA.out.later hb4
      have HB4 : Hid (Bx w.heap.size (.slice (some ⟨b, o, none⟩) m cap) (.slice none 0 0) w4) := HBo.out.later hb4
      have HW4 : Hid (Below w.heap.size w w4) := bchain HWo.out hb4
      have hg4 : g < w4.heap.size := by have := hb4.size; omega
      clear CRt hb4 cZ HRA HBo
      go_upto_region 8 with fail
      go_loopw [10] (fun s10 wr => ∃ k : Nat, k ≤ ZZ ∧ s10 = .int .i64 (k : Int) ∧ Hid (Rw g cp (fun j => .int .i64 (if j < A + k then F j else 0)) wr) ∧ Hid (Bx w.heap.size (.slice (some ⟨b, o, none⟩) m cap) (.slice none 0 0) wr) ∧ Hid (Below w.heap.size w wr) ∧ g < wr.heap.size) (fun s10 _ => ZZ - (intOf s10).toNat)
      case atStart => exact ⟨0, by omega, rfl, HR4, HB4, HW4, hg4⟩
      case round =>
        rename World => wr
        obtain ⟨k, hk, rfl, HRr, HBr, HWr, hgr⟩ := hrel
        clear HR4 HB4 HW4 hg4
        have cZ0 := cell_later HWr.out (HZ.out l (by omega))
        have cZ1 := cell_later HWr.out (HZ.out (l + 1) hlt)
        have hbD : Below wr.heap.size wr wr.drew := (Below.refl _ _).drew
        by_cases hkl : k < ZZ
        · have hkI : (k : Int) < (ZZ : Int) := by omega
          go_wp2_with fail
          refine wp_region_held_drew (S := fun W' => W'.cell? ⟨b, o + l, none⟩ = some (.int .i64 ((z l : Nat) : Int)) ∧ W'.cell? ⟨b, o + (l + 1), none⟩ = some (.int .i64 ((z (l + 1) : Nat) : Int))) (by kernel_rfl) ⟨cZ0, cZ1⟩ (fun HS => ?_)
          have HR5 : Hid (Rw g cp (fun j => .int .i64 (if j < A + k then F j else 0)) wr.drew) := HRr.out.later hbD
          have HB5 : Hid (Bx w.heap.size (.slice (some ⟨b, o, none⟩) m cap) (.slice none 0 0) wr.drew) := HBr.out.later hbD
          have HW5 : Hid (Below w.heap.size w wr.drew) := bchain HWr.out hbD
          have hg5 : g < wr.drew.heap.size := hgr
          clear hbD cZ0 cZ1 HRr HBr HWr hgr
          generalize wr.drew = wD at *
          refine wpAnyH_take (i := 0) (v := ?v1) rfl (by kernel_rfl) (by kernel_rfl) (by kernel_rfl) (fun _ _ _ h => h) (Or.inl ⟨by kernel_rfl, ?h1⟩) HS ?r1
          case h1 => (rintro w ⟨s1, s2⟩; go_simp) <;> with_reducible rfl
          try simp only [Act.put, List.getElem_toArray, List.getElem_cons_succ, List.getElem_cons_zero, List.setIfInBounds_toArray, List.set_cons_zero, List.set_cons_succ]
          refine wpAnyH_take (i := 1) (v := ?v2) rfl (by kernel_rfl) (by kernel_rfl) (by kernel_rfl) (fun _ _ _ h => h) (Or.inl ⟨by kernel_rfl, ?h2⟩) HS ?r2
          case h2 => (rintro w ⟨s1, s2⟩; go_simp) <;> with_reducible rfl
          try simp only [Act.put, List.getElem_toArray, List.getElem_cons_succ, List.getElem_cons_zero, List.setIfInBounds_toArray, List.set_cons_zero, List.set_cons_succ]
          refine wpAnyH_take (i := 2) (v := ?v3) rfl (by kernel_rfl) (by kernel_rfl) (by kernel_rfl) (fun _ _ _ h => h) (Or.inl ⟨by kernel_rfl, ?h3⟩) HS ?r3
          case h3 => (rintro w ⟨s1, s2⟩; go_simp) <;> with_reducible rfl
          try simp only [Act.put, List.getElem_toArray, List.getElem_cons_succ, List.getElem_cons_zero, List.setIfInBounds_toArray, List.set_cons_zero, List.set_cons_succ]
          refine wpAnyH_take (i := 3) (v := ?v4) rfl (by kernel_rfl) (by kernel_rfl) (by kernel_rfl) (fun _ _ _ h => h) (Or.inl ⟨by kernel_rfl, ?h4⟩) HS ?r4
          case h4 => (rintro w ⟨s1, s2⟩; go_simp) <;> with_reducible rfl
          try simp only [Act.put, List.getElem_toArray, List.getElem_cons_succ, List.getElem_cons_zero, List.setIfInBounds_toArray, List.set_cons_zero, List.set_cons_succ]
          refine wpAnyH_take (i := 4) (v := ?v5) rfl (by kernel_rfl) (by kernel_rfl) (by kernel_rfl) (fun _ _ _ h => h) (Or.inl ⟨by kernel_rfl, ?h5⟩) HS ?r5
          case h5 => (rintro w ⟨s1, s2⟩; go_simp) <;> with_reducible rfl
          try simp only [Act.put, List.getElem_toArray, List.getElem_cons_succ, List.getElem_cons_zero, List.setIfInBounds_toArray, List.set_cons_zero, List.set_cons_succ]
          refine wpAnyH_take (i := 5) (v := ?v6) rfl (by kernel_rfl) (by kernel_rfl) (by kernel_rfl) (fun _ _ _ h => h) (Or.inl ⟨by kernel_rfl, ?h6⟩) HS ?r6
          case h6 => (rintro w ⟨s1, s2⟩; go_simp) <;> with_reducible rfl
          try simp only [Act.put, List.getElem_toArray, List.getElem_cons_succ, List.getElem_cons_zero, List.setIfInBounds_toArray, List.set_cons_zero, List.set_cons_succ]
          refine wpAnyH_take (i := 6) (v := ?v7) rfl (by kernel_rfl) (by kernel_rfl) (by kernel_rfl) (fun _ _ _ h => h) (Or.inl ⟨by kernel_rfl, ?h7⟩) HS ?r7
          case h7 => (rintro w ⟨s1, s2⟩; go_simp) <;> with_reducible rfl
          try simp only [Act.put, List.getElem_toArray, List.getElem_cons_succ, List.getElem_cons_zero, List.setIfInBounds_toArray, List.set_cons_zero, List.set_cons_succ]
          refine wpAnyH_take (i := 7) (v := ?v8) rfl (by kernel_rfl) (by kernel_rfl) (by kernel_rfl) (fun _ _ _ h => h) (Or.inl ⟨by kernel_rfl, ?h8⟩) HS ?r8
          case h8 => (rintro w ⟨s1, s2⟩; go_simp) <;> with_reducible rfl
          try simp only [Act.put, List.getElem_toArray, List.getElem_cons_succ, List.getElem_cons_zero, List.setIfInBounds_toArray, List.set_cons_zero, List.set_cons_succ]
          refine wpAnyH_take (i := 8) (v := ?v9) rfl (by kernel_rfl) (by kernel_rfl) (by kernel_rfl) (fun _ _ _ h => h) (Or.inl ⟨by kernel_rfl, ?h9⟩) HS ?r9
          case h9 => (rintro w ⟨s1, s2⟩; go_simp) <;> with_reducible rfl
          try simp only [Act.put, List.getElem_toArray, List.getElem_cons_succ, List.getElem_cons_zero, List.setIfInBounds_toArray, List.set_cons_zero, List.set_cons_succ]
          refine wpAnyH_take (i := 9) (v := ?v10) rfl (by kernel_rfl) (by kernel_rfl) (by kernel_rfl) (fun _ _ _ h => h) (Or.inl ⟨by kernel_rfl, ?h10⟩) HS ?r10
          case h10 => (rintro w ⟨s1, s2⟩; go_simp) <;> with_reducible rfl
          try simp only [Act.put, List.getElem_toArray, List.getElem_cons_succ, List.getElem_cons_zero, List.setIfInBounds_toArray, List.set_cons_zero, List.set_cons_succ]
          refine wpAnyH_take (i := 10) (v := ?v11) rfl (by kernel_rfl) (by kernel_rfl) (by kernel_rfl) (fun _ _ _ h => h) (Or.inl ⟨by kernel_rfl, ?h11⟩) HS ?r11
          case h11 => (rintro w ⟨s1, s2⟩; go_simp) <;> with_reducible rfl
          try simp only [Act.put, List.getElem_toArray, List.getElem_cons_succ, List.getElem_cons_zero, List.setIfInBounds_toArray, List.set_cons_zero, List.set_cons_succ]
          refine wpAnyH_take (i := 11) (v := ?v12) rfl (by kernel_rfl) (by kernel_rfl) (by kernel_rfl) (fun _ _ _ h => h) (Or.inl ⟨by kernel_rfl, ?h12⟩) HS ?r12
          case h12 => (rintro w ⟨s1, s2⟩; go_simp) <;> with_reducible rfl
          try simp only [Act.put, List.getElem_toArray, List.getElem_cons_succ, List.getElem_cons_zero, List.setIfInBounds_toArray, List.set_cons_zero, List.set_cons_succ]
          refine wpAnyH_done (by kernel_rfl) ?_ _
          clear HS
          have x0 := HB5.out.c0
          have x1 := HB5.out.c1
          have CF := HFi.out wD HW5.out
          obtain ⟨AK, hAK⟩ : ∃ AK, A + k = AK := ⟨_, rfl⟩
          have wAK : IntKind.i64.wrap ((A : Int) + (k : Int)) = (AK : Int) := by rw [IntKind.wrap_i64]; omega
          have hAKc : AK < cp := by have := Hfs.out.2; omega
          have hAKI : (AK : Int) < (cp : Int) := by omega
          have HFk : Hid (F AK = inW sd (z l) AK) := HFw2.out AK (by omega) (by omega)
          have HAK : Hid (A + k = AK) := hAK
          rw [hAK] at HR5
          clear hAK
          go_wp2_with fail
          refine CF.mono ?_
          rintro e w6 ⟨rfl, hb6⟩
          have CB := HBt2.out AK w6 hAKc
          have HR6 : Hid (Rw g cp (fun j => .int .i64 (if j < AK then F j else 0)) w6) := HR5.out.later hb6
          have HB6 : Hid (Bx w.heap.size (.slice (some ⟨b, o, none⟩) m cap) (.slice none 0 0) w6) := HB5.out.later hb6
          have HW6 : Hid (Below w.heap.size w w6) := bchain HW5.out hb6
          have hg6 : g < w6.heap.size := by have := hb6.size; omega
          clear CF hb6 x0 x1 HR5 HB5 HW5 hg5
          go_wp2_with fail
          refine CB.mono ?_
          rintro e w7 ⟨rfl, hb7⟩
          rw [← HFk.out]
          have HR7 := HR6.out.later hb7
          have cO := HR7.c AK hAKc
          rw [if_neg (by omega)] at cO
          have fO := HR7.f AK hAKc
          have HR8 : Hid (Rw g cp (fun j => .int .i64 (if j < A + (k + 1) then F j else 0)) (w7.setCell ⟨g, AK, none⟩ (.int .i64 (F AK)))) := (HR7.set AK (.int .i64 (F AK))).congr (fun j hj => by
            have hq := HAK.out
            by_cases e : j = AK
            · rw [if_pos e, e, if_pos (by omega)]
            · rw [if_neg e]
              by_cases h2 : j < AK
              · rw [if_pos h2, if_pos (by omega)]
              · rw [if_neg h2, if_neg (by omega)])
          have HB8 : Hid (Bx w.heap.size (.slice (some ⟨b, o, none⟩) m cap) (.slice none 0 0) (w7.setCell ⟨g, AK, none⟩ (.int .i64 (F AK)))) := by
            have e : (w7.setCell ⟨g, AK, none⟩ (.int .i64 (F AK))).heap[w.heap.size]? = w7.heap[w.heap.size]? := Below.heap_setCell _ _ _ _ (by dsimp only; omega)
            have h := HB6.out.later hb7
            exact ⟨(World.cell?_of_block (w := w7) e).trans h.c0, (World.cell?_of_block (w := w7) e).trans h.c1, (World.frozen?_of_block (w := w7) e).trans h.f0, (World.frozen?_of_block (w := w7) e).trans h.f1⟩
          have HW8 : Hid (Below w.heap.size w (w7.setCell ⟨g, AK, none⟩ (.int .i64 (F AK)))) := (bchain HW6.out hb7).setCell (by dsimp only; omega) _
          have hg8 : g < (w7.setCell ⟨g, AK, none⟩ (.int .i64 (F AK))).heap.size := by have := hb7.size; simp [World.setCell]; omega
          clear CB hb7 HR6 HB6 HW6 hg6 HR7 HFk HAK
          go_wp2
          go_roundw
          case rel => exact ⟨k + 1, by omega, by go_num, HR8, HB8, HW8, hg8⟩
          case measure => simp [intOf]; omega
        · obtain rfl : k = ZZ := by omega
          have hkI : ¬ (k : Int) < (k : Int) := by omega
          go_wp2_with fail
          refine wp_region_held_drew (S := fun W' => W'.cell? ⟨b, o + l, none⟩ = some (.int .i64 ((z l : Nat) : Int)) ∧ W'.cell? ⟨b, o + (l + 1), none⟩ = some (.int .i64 ((z (l + 1) : Nat) : Int))) (by kernel_rfl) ⟨cZ0, cZ1⟩ (fun HS => ?_)
          have HR5 : Hid (Rw g cp (fun j => .int .i64 (if j < A + k then F j else 0)) wr.drew) := HRr.out.later hbD
          have HB5 : Hid (Bx w.heap.size (.slice (some ⟨b, o, none⟩) m cap) (.slice none 0 0) wr.drew) := HBr.out.later hbD
          have HW5 : Hid (Below w.heap.size w wr.drew) := bchain HWr.out hbD
          have hg5 : g < wr.drew.heap.size := hgr
          clear hbD cZ0 cZ1 HRr HBr HWr hgr
          generalize wr.drew = wD at *
          refine wpAnyH_take (i := 0) (v := ?v13) rfl (by kernel_rfl) (by kernel_rfl) (by kernel_rfl) (fun _ _ _ h => h) (Or.inl ⟨by kernel_rfl, ?h13⟩) HS ?r13
          case h13 => (rintro w ⟨s1, s2⟩; go_simp) <;> with_reducible rfl
          try simp only [Act.put, List.getElem_toArray, List.getElem_cons_succ, List.getElem_cons_zero, List.setIfInBounds_toArray, List.set_cons_zero, List.set_cons_succ]
          refine wpAnyH_take (i := 1) (v := ?v14) rfl (by kernel_rfl) (by kernel_rfl) (by kernel_rfl) (fun _ _ _ h => h) (Or.inl ⟨by kernel_rfl, ?h14⟩) HS ?r14
          case h14 => (rintro w ⟨s1, s2⟩; go_simp) <;> with_reducible rfl
          try simp only [Act.put, List.getElem_toArray, List.getElem_cons_succ, List.getElem_cons_zero, List.setIfInBounds_toArray, List.set_cons_zero, List.set_cons_succ]
          refine wpAnyH_take (i := 2) (v := ?v15) rfl (by kernel_rfl) (by kernel_rfl) (by kernel_rfl) (fun _ _ _ h => h) (Or.inl ⟨by kernel_rfl, ?h15⟩) HS ?r15
          case h15 => (rintro w ⟨s1, s2⟩; go_simp) <;> with_reducible rfl
          try simp only [Act.put, List.getElem_toArray, List.getElem_cons_succ, List.getElem_cons_zero, List.setIfInBounds_toArray, List.set_cons_zero, List.set_cons_succ]
          refine wpAnyH_take (i := 3) (v := ?v16) rfl (by kernel_rfl) (by kernel_rfl) (by kernel_rfl) (fun _ _ _ h => h) (Or.inl ⟨by kernel_rfl, ?h16⟩) HS ?r16
          case h16 => (rintro w ⟨s1, s2⟩; go_simp) <;> with_reducible rfl
          try simp only [Act.put, List.getElem_toArray, List.getElem_cons_succ, List.getElem_cons_zero, List.setIfInBounds_toArray, List.set_cons_zero, List.set_cons_succ]
          refine wpAnyH_take (i := 4) (v := ?v17) rfl (by kernel_rfl) (by kernel_rfl) (by kernel_rfl) (fun _ _ _ h => h) (Or.inl ⟨by kernel_rfl, ?h17⟩) HS ?r17
          case h17 => (rintro w ⟨s1, s2⟩; go_simp) <;> with_reducible rfl
          try simp only [Act.put, List.getElem_toArray, List.getElem_cons_succ, List.getElem_cons_zero, List.setIfInBounds_toArray, List.set_cons_zero, List.set_cons_succ]
          refine wpAnyH_take (i := 5) (v := ?v18) rfl (by kernel_rfl) (by kernel_rfl) (by kernel_rfl) (fun _ _ _ h => h) (Or.inl ⟨by kernel_rfl, ?h18⟩) HS ?r18
          case h18 => (rintro w ⟨s1, s2⟩; go_simp) <;> with_reducible rfl
          try simp only [Act.put, List.getElem_toArray, List.getElem_cons_succ, List.getElem_cons_zero, List.setIfInBounds_toArray, List.set_cons_zero, List.set_cons_succ]
          refine wpAnyH_take (i := 6) (v := ?v19) rfl (by kernel_rfl) (by kernel_rfl) (by kernel_rfl) (fun _ _ _ h => h) (Or.inl ⟨by kernel_rfl, ?h19⟩) HS ?r19
          case h19 => (rintro w ⟨s1, s2⟩; go_simp) <;> with_reducible rfl
          try simp only [Act.put, List.getElem_toArray, List.getElem_cons_succ, List.getElem_cons_zero, List.setIfInBounds_toArray, List.set_cons_zero, List.set_cons_succ]
          refine wpAnyH_take (i := 7) (v := ?v20) rfl (by kernel_rfl) (by kernel_rfl) (by kernel_rfl) (fun _ _ _ h => h) (Or.inl ⟨by kernel_rfl, ?h20⟩) HS ?r20
          case h20 => (rintro w ⟨s1, s2⟩; go_simp) <;> with_reducible rfl
          try simp only [Act.put, List.getElem_toArray, List.getElem_cons_succ, List.getElem_cons_zero, List.setIfInBounds_toArray, List.set_cons_zero, List.set_cons_succ]
          refine wpAnyH_take (i := 8) (v := ?v21) rfl (by kernel_rfl) (by kernel_rfl) (by kernel_rfl) (fun _ _ _ h => h) (Or.inl ⟨by kernel_rfl, ?h21⟩) HS ?r21
          case h21 => (rintro w ⟨s1, s2⟩; go_simp) <;> with_reducible rfl
          try simp only [Act.put, List.getElem_toArray, List.getElem_cons_succ, List.getElem_cons_zero, List.setIfInBounds_toArray, List.set_cons_zero, List.set_cons_succ]
          refine wpAnyH_take (i := 9) (v := ?v22) rfl (by kernel_rfl) (by kernel_rfl) (by kernel_rfl) (fun _ _ _ h => h) (Or.inl ⟨by kernel_rfl, ?h22⟩) HS ?r22
          case h22 => (rintro w ⟨s1, s2⟩; go_simp) <;> with_reducible rfl
          try simp only [Act.put, List.getElem_toArray, List.getElem_cons_succ, List.getElem_cons_zero, List.setIfInBounds_toArray, List.set_cons_zero, List.set_cons_succ]
          refine wpAnyH_take (i := 10) (v := ?v23) rfl (by kernel_rfl) (by kernel_rfl) (by kernel_rfl) (fun _ _ _ h => h) (Or.inl ⟨by kernel_rfl, ?h23⟩) HS ?r23
          case h23 => (rintro w ⟨s1, s2⟩; go_simp) <;> with_reducible rfl
          try simp only [Act.put, List.getElem_toArray, List.getElem_cons_succ, List.getElem_cons_zero, List.setIfInBounds_toArray, List.set_cons_zero, List.set_cons_succ]
          refine wpAnyH_take (i := 11) (v := ?v24) rfl (by kernel_rfl) (by kernel_rfl) (by kernel_rfl) (fun _ _ _ h => h) (Or.inl ⟨by kernel_rfl, ?h24⟩) HS ?r24
          case h24 => (rintro w ⟨s1, s2⟩; go_simp) <;> with_reducible rfl
          try simp only [Act.put, List.getElem_toArray, List.getElem_cons_succ, List.getElem_cons_zero, List.setIfInBounds_toArray, List.set_cons_zero, List.set_cons_succ]
          refine wpAnyH_done (by kernel_rfl) ?_ _
          clear HS
          have HR8 : Hid (Rw g cp (fun j => .int .i64 (if j < fsN z (l + 1) then F j else 0)) wD) := HR5.out.congr (fun j hj => by
            rw [Hfs.out.1]
            by_cases h2 : j < A + k
            · rw [if_pos h2, if_pos (by omega)]
            · rw [if_neg h2]
              by_cases h3 : j < A + (k + z (l + 1))
              · rw [if_pos h3, HFo2.out j (by omega) h3]
              · rw [if_neg h3])
          clear HR5
          go_wp2
          go_roundw
          case rel => exact ⟨l + 1, by omega, by go_num, HR8, HB5, HW5, hg5⟩
          case measure => simp [intOf]; omega
    · have hlI : ¬ (l : Int) + 1 < (m : Int) := by omega
      have HQ : Hid (Ar wo (.slice (some ⟨g, 0, none⟩) cp cp) cp F ∧ Ow w.heap.size (.slice (some ⟨g, 0, none⟩) cp cp)) := ⟨(HRo.out.congr (fun j hj => by
        have e : l = m - 1 := by omega
        rw [if_pos (by rw [e, ← HSz.out.2]; exact hj)])).ar (by omega) (fun j hj => HFr.out j hj), fun a n' c' e _ => by cases e; dsimp only; omega⟩
      clear HRo
      go_wp2
      go_ret
      exact ⟨_, rfl, HQ.out.1, HQ.out.2, HWo.out⟩
end Go.Proofs.YtdfjnbkkdgolnaaGreatDoor
set_option linter.unusedVariables false
set_option linter.unusedSimpArgs false
namespace Go.Proofs.YtdfjnbkkdgolnaaGreatDoor
open Go.RowKit

/-- What mlp asks of the world. -/
def MT (w : World) : Prop := TabAt w
theorem MT.later {w w' : World} (h : MT w) (hb : Below w.heap.size w w') : MT w' := TabAt.later h hb
/-- Are sizes right? -/
def Rt (f : Nat → Int) (m : Nat) : Prop := 2 ≤ m ∧ m ≤ 6 ∧ szB f m
theorem Rt.szs {f : Nat → Int} {m : Nat} (h : Rt f m) : ∃ z : Nat → Nat, Szs z m ∧ ∀ i, i < m → f i = ((z i : Nat) : Int) := by
  obtain ⟨h1, h2, h3⟩ := h
  refine ⟨fun i => (f i).toNat, ⟨h1, h2, fun i hi => ?_⟩, fun i hi => ?_⟩
  · have := h3 i hi
    show 1 ≤ (f i).toNat ∧ (f i).toNat ≤ 64
    omega
  · have := h3 i hi
    show f i = (((f i).toNat : Nat) : Int)
    omega
/-- An empty answer. -/
def Emp (v : Value) : Prop := ∃ (ad : Option Addr) (cap : Nat), v = .slice ad 0 cap
structure Mlp1 : Prop where
  initY : ∀ (sd : Nat) (vs : Value) (m cp : Nat) (z : Nat → Nat) (w : World), sd < 18446744073709551616 → Ar w vs m (fun i => ((z i : Nat) : Int)) → Szs z m → cp = fsN z (m - 1) → MT w →
    Calls Tryz.prog 17 #[.int .u64 (sd : Int), vs] w fun e w' => ∃ v', e = .returned (.tuple #[v', .int .i64 0]) ∧ Ar w' v' cp (inF z m sd) ∧ Ow w.heap.size v' ∧ Below w.heap.size w w'
  initN : ∀ (sd : Nat) (vs : Value) (m : Nat) (f : Nat → Int) (w : World), m ≤ 100000 → Ar w vs m f → ¬ Rt f m → MT w →
    Calls Tryz.prog 17 #[.int .u64 (sd : Int), vs] w fun e w' => ∃ v', e = .returned (.tuple #[v', .int .i64 70]) ∧ Emp v' ∧ Below w.heap.size w w'
structure Mlp2 : Prop where
  fwdU : ∀ (vs vp vx : Value) (m cp : Nat) (z : Nat → Nat) (P x : Nat → Int) (d : Nat) (c : Int) (w : World), 0 ≤ c → c ≤ 100000 → Ar w vs m (fun i => ((z i : Nat) : Int)) → Ar w vp cp P → Ar w vx (z 0) x → Szs z m → cp = fsN z (m - 1) → Nb vs d → Nb vp d → Nb vx d → Uc w d c → MT w →
    Calls Tryz.prog 22 #[.pointer (some ⟨d, 0, none⟩), vs, vp, vx] w fun e w' => ∃ v', e = .returned (.tuple #[v', .int .i64 0]) ∧ (∀ d', d' < w.heap.size → Nb vx d' → Ls w' d' v' m z (vN z m P x)) ∧ Un d (c + vC z m P x (m - 1)) w w'
  fwdZ : ∀ (vs vp vx : Value) (m lp lx : Nat) (f P x : Nat → Int) (d : Nat) (c : Int) (w : World), m ≤ 100000 → Ar w vs m f → Ar w vp lp P → Ar w vx lx x → ¬ Rt f m → Uc w d c → MT w →
    Calls Tryz.prog 22 #[.pointer (some ⟨d, 0, none⟩), vs, vp, vx] w fun e w' => ∃ v', e = .returned (.tuple #[v', .int .i64 70]) ∧ Emp v' ∧ Un d c w w'
  fwdS : ∀ (vs vp vx : Value) (m lp lx : Nat) (z : Nat → Nat) (P x : Nat → Int) (d : Nat) (c : Int) (w : World), Ar w vs m (fun i => ((z i : Nat) : Int)) → Ar w vp lp P → Ar w vx lx x → Szs z m → ¬ (lp = fsN z (m - 1) ∧ lx = z 0) → Uc w d c → MT w →
    Calls Tryz.prog 22 #[.pointer (some ⟨d, 0, none⟩), vs, vp, vx] w fun e w' => ∃ v', e = .returned (.tuple #[v', .int .i64 40]) ∧ Emp v' ∧ Un d c w w'
structure Mlp3 : Prop where
  lossU : ∀ (s : Bool) (va vb : Value) (n : Nat) (f g : Nat → Int) (d : Nat) (c : Int) (w : World), n ≤ 65536 → 0 ≤ c → c ≤ 100000 → Ar w va n f → Ar w vb n g → Nb va d → Nb vb d → Uc w d c → MT w →
    Calls Tryz.prog 26 #[.pointer (some ⟨d, 0, none⟩), .int .i64 (lsK s), va, vb] w fun e w' => e = .returned (.tuple #[.int .i64 (lsX s f g n), .int .i64 0]) ∧ Un d (c + lsC s f g n) w w'
  slopeU : ∀ (s : Bool) (va vb : Value) (n : Nat) (f g : Nat → Int) (d : Nat) (c : Int) (w : World), n ≤ 65536 → 0 ≤ c → c ≤ 1000000 → Ar w va n f → Ar w vb n g → Nb va d → Nb vb d → Uc w d c → MT w →
    Calls Tryz.prog 27 #[.pointer (some ⟨d, 0, none⟩), .int .i64 (lsK s), va, vb] w fun e w' => ∃ v', e = .returned (.tuple #[v', .int .i64 0]) ∧ Ar w' v' n (slX s f g) ∧ Ow w.heap.size v' ∧ Un d (c + slC s f g n) w w'
  lossE : ∀ (L : Int) (va vb : Value) (n k : Nat) (f g : Nat → Int) (d : Nat) (c : Int) (w : World), n ≤ 65536 → k ≤ 65536 → Ar w va n f → Ar w vb k g → ¬ ((L = 1 ∨ L = 2) ∧ n = k) → Uc w d c → MT w →
    Calls Tryz.prog 26 #[.pointer (some ⟨d, 0, none⟩), .int .i64 L, va, vb] w fun e w' => e = .returned (.tuple #[.int .i64 0, .int .i64 (if L = 1 ∨ L = 2 then 40 else 71)]) ∧ Un d c w w'
  slopeE : ∀ (L : Int) (va vb : Value) (n k : Nat) (f g : Nat → Int) (d : Nat) (c : Int) (w : World), n ≤ 65536 → k ≤ 65536 → Ar w va n f → Ar w vb k g → ¬ ((L = 1 ∨ L = 2) ∧ n = k) → Uc w d c → MT w →
    Calls Tryz.prog 27 #[.pointer (some ⟨d, 0, none⟩), .int .i64 L, va, vb] w fun e w' => ∃ v', e = .returned (.tuple #[v', .int .i64 (if L = 1 ∨ L = 2 then 40 else 71)]) ∧ Emp v' ∧ Un d c w w'
/-- The first error of a net, a loss and an example; 0: none. -/
def rfE (f : Nat → Int) (m lp lx lt : Nat) (L : Int) (cp z0 zl : Nat) (E : Int) : Prop := (¬ Rt f m → E = 70) ∧ (Rt f m → ¬ (L = 1 ∨ L = 2) → E = 71) ∧ (Rt f m → (L = 1 ∨ L = 2) → ¬ (lp = cp ∧ lx = z0 ∧ lt = zl) → E = 40) ∧ (Rt f m → (L = 1 ∨ L = 2) → (lp = cp ∧ lx = z0 ∧ lt = zl) → E = 0)
structure Mlp4 : Prop where
  gradU : ∀ (s : Bool) (vs vp vx vt : Value) (m cp : Nat) (z : Nat → Nat) (P x t : Nat → Int) (d : Nat) (c : Int) (w : World), 0 ≤ c → c ≤ 100000 → Ar w vs m (fun i => ((z i : Nat) : Int)) → Ar w vp cp P → Ar w vx (z 0) x → Ar w vt (z (m - 1)) t → Szs z m → cp = fsN z (m - 1) → Nb vs d → Nb vp d → Nb vx d → Nb vt d → Uc w d c → MT w →
    Calls Tryz.prog 30 #[.pointer (some ⟨d, 0, none⟩), .int .i64 (lsK s), vs, vp, .agg #[vx, vt]] w fun e w' => ∃ v', e = .returned (.tuple #[v', .int .i64 (gdX s z m P x t), .int .i64 0]) ∧ Ar w' v' cp (gdG s z m P x t) ∧ Ow w.heap.size v' ∧ Un d (c + gdC s z m P x t) w w'
  gradN : ∀ (s : Bool) (vs vp vx vt : Value) (m cp : Nat) (z : Nat → Nat) (P x t : Nat → Int) (w : World), Ar w vs m (fun i => ((z i : Nat) : Int)) → Ar w vp cp P → Ar w vx (z 0) x → Ar w vt (z (m - 1)) t → Szs z m → cp = fsN z (m - 1) → MT w →
    Calls Tryz.prog 30 #[.pointer none, .int .i64 (lsK s), vs, vp, .agg #[vx, vt]] w fun e w' => ∃ v', e = .returned (.tuple #[v', .int .i64 (gdX s z m P x t), .int .i64 0]) ∧ Ar w' v' cp (gdG s z m P x t) ∧ Ow w.heap.size v' ∧ Below w.heap.size w w'
  gradE : ∀ (L : Int) (vs vp vx vt : Value) (m lp lx lt : Nat) (f P x t : Nat → Int) (z : Nat → Nat) (E : Int) (d : Nat) (c : Int) (w : World), m ≤ 100000 → Ar w vs m f → Ar w vp lp P → Ar w vx lx x → Ar w vt lt t → (∀ i, i < m → Rt f m → f i = ((z i : Nat) : Int)) → rfE f m lp lx lt L (fsN z (m - 1)) (z 0) (z (m - 1)) E → E ≠ 0 → Uc w d c → MT w →
    Calls Tryz.prog 30 #[.pointer (some ⟨d, 0, none⟩), .int .i64 L, vs, vp, .agg #[vx, vt]] w fun e w' => ∃ v', e = .returned (.tuple #[v', .int .i64 0, .int .i64 E]) ∧ Emp v' ∧ Un d c w w'
set_option maxRecDepth 100000 in
set_option maxHeartbeats 4000000 in
theorem plain7_any (va : Value) (n : Nat) (f : Nat → Int) (hn : n ≤ 70000) (w : World) (hA : Ar w va n f) :
    Calls Tryz.prog 19 #[va] w fun e w' => ∃ v', e = .returned v' ∧ Ar w' v' n f ∧ Ow w.heap.size v' ∧ Below w.heap.size w w' := by
  obtain ⟨i0, hi, hz0, hz1, hz2⟩ := info_parts dinfo_i64
  obtain ⟨adr, cap, b, o, rfl, k1, k2, k3, k4⟩ := hA
  unfold maxLen at k2
  have HA : Hid (∀ k, k < n → w.cell? ⟨b, o + k, none⟩ = some (.int .i64 (f k)) ∧ -9223372036854775808 ≤ f k ∧ f k ≤ 9223372036854775807) := k4
  have HK : Hid (0 < n → adr = some ⟨b, o, none⟩) := k3
  clear k3 k4
  go_enter Tryz.func19, Tryz.ntmps19
  go_wp2_with (at_make; refine wpList_make_own _ rfl _ _ 35 rfl w.heap.size 2 i0 (.int .i64 0) 1 Tryz.underlying35 hi hz0 hz1 .i64 .i64 (n : Int) n rfl rfl rfl (by rw [hz2]; omega) (by unfold maxLen; omega) (Nat.le_refl _) ?_; intro w1 hown hgrow)
  have hW1 : Below w.heap.size w w1 := (Below.refl _ w).grown hgrow (Nat.le_refl _) (fun k hk => by cases hk)
  clear hgrow
  go_wp2
  go_loopw [3, 11] (fun s3 s11 wr => ∃ j : Nat, j ≤ n ∧ s3 = .slice (some ⟨w.heap.size, 0, none⟩) j n ∧ s11 = .int .i64 (j : Int) ∧ wr.ownsRow w.heap.size 2 1 (.slice (some ⟨w.heap.size, 0, none⟩) j n) j (il f j) ∧ Below w.heap.size w wr) (fun _ s11 _ => n - (intOf s11).toNat)
  case atStart => exact ⟨0, by omega, rfl, rfl, hown, hW1⟩
  case round =>
    clear hown hW1
    obtain ⟨j, hj, rfl, rfl, hown, hW⟩ := hrel
    by_cases hlt : j < n
    · have hjI : (j : Int) < (n : Int) := by omega
      have ea := HK.out (by omega)
      subst ea
      obtain ⟨ca, a0, a1⟩ := HA.out j hlt
      have cA : wr.cell? ⟨b, o + j, none⟩ = some (.int .i64 (f j)) := (hW.cell (World.block_lt_of_cell? _ _ ca)).trans ca
      have bA := World.block_lt_of_cell? _ _ ca
      clear ca
      go_wp2_with (at_builtin; refine wpList_append_fits _ rfl _ _ 35 rfl w.heap.size 2 i0 1 Tryz.underlying35 hi hz1 w.heap.size j n _ rfl (hown.alloc _) ⟨wr.heap.size, 0, none⟩ 1 1 [.int .i64 (f j)] rfl rfl (cell_one_new _ _ _) (ints_oneCell .i64 [f j]) (by omega) ?_; intro w2 hown' hgrow)
      have hown3 : w2.ownsRow w.heap.size 2 1 (.slice (some ⟨w.heap.size, 0, none⟩) (j + 1) n) (j + 1) (il f (j + 1)) := by rw [il_succ]; exact hown'
      have hW3 : Below w.heap.size w w2 := dbelow_grown' hown hW hgrow rfl
      clear hown' hgrow hown hW
      go_wp2
      go_roundw
      case rel => exact ⟨j + 1, by omega, rfl, by go_num, hown3, hW3⟩
      case measure => simp [intOf]; omega
    · obtain rfl : j = n := by omega
      have HR : Hid (Ar wr (.slice (some ⟨w.heap.size, 0, none⟩) j j) j f ∧ Ow w.heap.size (.slice (some ⟨w.heap.size, 0, none⟩) j j)) := ar_of_own hown (fun k hk => (HA.out k hk).2)
      have HW : Hid (Below w.heap.size w wr) := hW
      clear hown hW
      go_wp2
      go_ret
      exact ⟨_, rfl, HR.out.1, HR.out.2, HW.out⟩
/-- Are lists short? -/
def shB (ns : Nat → Nat) (m : Nat) : Bool := (List.range m).all (fun k => decide (ns k ≤ 100))
theorem shB_no (ns : Nat → Nat) (m k : Nat) (hk : k < m) (h : 100 < ns k) : shB ns m = false := by
  cases hb : shB ns m with
  | false => rfl
  | true =>
    have := of_decide_eq_true (List.all_eq_true.1 hb k (List.mem_range.2 hk))
    omega
theorem shB_yes (ns : Nat → Nat) (m : Nat) (h : ∀ k, k < m → ns k ≤ 100) : shB ns m = true := List.all_eq_true.2 fun k hk => decide_eq_true (h k (List.mem_range.1 hk))
set_option maxHeartbeats 1000000 in
theorem short_any (g m cap : Nat) (ns : Nat → Nat) (hm : m ≤ 5) (h1 : m ≤ cap) (h2 : cap ≤ 100) (w : World) (hc : ∀ k, k < m → ns k ≤ maxLen ∧ ∃ (ad : Option Addr) (ca : Nat), w.cell? ⟨g, k, none⟩ = some (.slice ad (ns k) ca)) :
    Calls Tryz.prog 21 #[.slice (some ⟨g, 0, none⟩) m cap] w fun e w' => e = .returned (.bool (shB ns m)) ∧ w' = w := by
  have HC : Hid (∀ k, k < m → ns k ≤ maxLen ∧ ∃ (ad : Option Addr) (ca : Nat), w.cell? ⟨g, k, none⟩ = some (.slice ad (ns k) ca)) := hc
  clear hc
  obtain ⟨R, hR⟩ : ∃ R, shB ns m = R := ⟨_, rfl⟩
  have HR : Hid (shB ns m = R) := hR
  rw [hR]
  clear hR
  go_enter Tryz.func21, Tryz.ntmps21
  go_wp2
  go_loopw [7] (fun s7 wr => ∃ j : Nat, j ≤ m ∧ s7 = .int .i64 (j : Int) ∧ Hid (∀ k, k < j → ns k ≤ 100) ∧ wr = w) (fun s7 _ => m - (intOf s7).toNat)
  case atStart => exact ⟨0, by omega, rfl, fun k hk => by omega, rfl⟩
  case round =>
    obtain ⟨j, hj, rfl, hA, rfl⟩ := hrel
    by_cases hlt : j < m
    · have hjI : (j : Int) < (m : Int) := by omega
      obtain ⟨hl, ad, ca, hcell⟩ := HC.out j hlt
      unfold maxLen at hl
      by_cases h100 : ns j ≤ 100
      · have h2 : ¬ (100 : Int) < ((ns j : Nat) : Int) := by omega
        have HA2 : Hid (∀ k, k < j + 1 → ns k ≤ 100) := fun k hk => by
          rcases Nat.lt_or_ge k j with h | h
          · exact hA.out k h
          · obtain rfl : k = j := by omega
            exact h100
        clear hA h100
        go_wp2
        go_roundw
        case rel => exact ⟨j + 1, by omega, by go_num, HA2, trivial⟩
        case measure => simp [intOf]; omega
      · have h2 : (100 : Int) < ((ns j : Nat) : Int) := by omega
        have HF : Hid (R = false) := by show _ = _; rw [← HR.out]; exact shB_no ns m j hlt (by omega)
        clear hA h100 HR
        go_wp2
        go_ret
        exact ⟨by rw [HF.out]; rfl, rfl⟩
    · have HF : Hid (R = true) := by show _ = _; rw [← HR.out]; exact shB_yes ns m (fun k hk => hA.out k (by omega))
      have hjI : ¬ (j : Int) < (m : Int) := by omega
      clear hA HR
      go_wp2
      go_ret
      exact ⟨by rw [HF.out]; rfl, rfl⟩
end Go.Proofs.YtdfjnbkkdgolnaaGreatDoor
set_option linter.unusedVariables false
set_option linter.unusedSimpArgs false
namespace Go.Proofs.YtdfjnbkkdgolnaaGreatDoor
open Go.RowKit

/-- A yes or no. -/
def Tells (e : Ending) (p : Prop) : Prop := ∃ B : Bool, e = .returned (.bool B) ∧ (B = true ↔ p)
theorem tells_yes {p : Prop} (h : p) : Tells (.returned (.bool true)) p := ⟨true, rfl, by simp [h]⟩
theorem tells_no {p : Prop} (h : ¬ p) : Tells (.returned (.bool false)) p := ⟨false, rfl, by simp [h]⟩
theorem Tells.yes {e : Ending} {p : Prop} (h : Tells e p) (hp : p) : e = .returned (.bool true) := by
  obtain ⟨B, rfl, hB⟩ := h
  rw [hB.2 hp]
theorem Tells.no {e : Ending} {p : Prop} (h : Tells e p) (hp : ¬ p) : e = .returned (.bool false) := by
  obtain ⟨B, rfl, hB⟩ := h
  cases B
  · rfl
  · exact absurd (hB.1 rfl) hp
/-- Sizes as whole numbers from 0 on, where they are right. -/
def Zs (f : Nat → Int) (m : Nat) (z : Nat → Nat) : Prop := Rt f m → Szs z m ∧ ∀ i, i < m → f i = ((z i : Nat) : Int)
theorem zs_ex (f : Nat → Int) (m : Nat) : ∃ z, Zs f m z := by
  by_cases h : Rt f m
  · obtain ⟨z, h1, h2⟩ := h.szs
    exact ⟨z, fun _ => ⟨h1, h2⟩⟩
  · exact ⟨fun _ => 0, fun h' => absurd h' h⟩
/-- The count of parameters; -1 where sizes aren't right. -/
def ctN (f : Nat → Int) (m : Nat) (z : Nat → Nat) (C : Int) : Prop := (Rt f m → C = ((fsN z (m - 1) : Nat) : Int)) ∧ (¬ Rt f m → C = -1)
theorem count7_any (vs : Value) (m : Nat) (f : Nat → Int) (z : Nat → Nat) (hz : Zs f m z) (w : World) (hA : Ar w vs m f) : Calls Tryz.prog 13 #[vs] w fun e w' => ∃ C : Int, e = .returned (.int .i64 C) ∧ ctN f m z C ∧ Below w.heap.size w w' := by
  by_cases h : Rt f m
  · obtain ⟨h1, h2⟩ := hz h
    refine (count_yes vs m z w (hA.congr h2) h1).mono ?_
    rintro e w' ⟨rfl, hb⟩
    exact ⟨_, rfl, ⟨fun _ => rfl, fun h' => absurd h h'⟩, hb⟩
  · refine (count_no vs m f w hA h).mono ?_
    rintro e w' ⟨rfl, hb⟩
    exact ⟨_, rfl, ⟨fun h' => absurd h' h, fun _ => rfl⟩, hb⟩
/-- May a play go through with a net? -/
def fwP (f : Nat → Int) (m lp : Nat) (z : Nat → Nat) : Prop := m ≤ 10 ∧ lp ≤ 400 ∧ (Rt f m → fsN z (m - 1) ≤ 400)
set_option maxHeartbeats 2000000 in
theorem few7_any (vs vp : Value) (m lp : Nat) (f P : Nat → Int) (z : Nat → Nat) (hz : Zs f m z) (w : World) (hA : Ar w vs m f) (hP : Ar w vp lp P) : Calls Tryz.prog 10 #[.agg #[vs, vp]] w fun e w' => Tells e (fwP f m lp z) ∧ Below w.heap.size w w' := by
  have HC : Hid (∀ W : World, Below w.heap.size w W → Calls Tryz.prog 13 #[vs] W fun e w' => ∃ C : Int, e = .returned (.int .i64 C) ∧ ctN f m z C ∧ Below W.heap.size W w') := fun W hb => count7_any vs m f z hz W (hA.later hb)
  obtain ⟨adr, cap, b, o, rfl, k1, k2, -, -⟩ := hA
  obtain ⟨adp, cpp, bp, op, rfl, j1, j2, -, -⟩ := hP
  unfold maxLen at k2 j2
  have B0 : Hid (Below w.heap.size w (w.alloc (.cells #[.slice adr m cap, .slice adp lp cpp] 25))) := bel1 _ _
  have B1 : Hid (Bx w.heap.size (.slice adr m cap) (.slice adp lp cpp) (w.alloc (.cells #[.slice adr m cap, .slice adp lp cpp] 25))) := Bx.new w _ _ _
  by_cases hm : m ≤ 10
  · have hmI : ¬ (10 : Int) < (m : Int) := by omega
    by_cases hl : lp ≤ 400
    · have hlI : ¬ (400 : Int) < (lp : Int) := by omega
      have x0 := B1.out.c0
      have x1 := B1.out.c1
      go_enter Tryz.func10, Tryz.ntmps10
      go_upto_region 1 with fail
      generalize w.alloc (.cells #[.slice adr m cap, .slice adp lp cpp] 25) = w1 at *
      go_wp2_with fail
      refine (HC.out _ B0.out).mono ?_
      rintro e w2 ⟨C, rfl, hC, hb⟩
      have HW : Hid (Below w.heap.size w w2 ∧ ctN f m z C) := ⟨bchain B0.out hb, hC⟩
      clear hb hC HC x0 x1
      by_cases hq : C ≤ 400
      · have HT : Hid (fwP f m lp z) := ⟨hm, hl, fun hr => by have := HW.out.2.1 hr; omega⟩
        go_wp2
        go_ret
        exact ⟨tells_yes HT.out, HW.out.1⟩
      · have hqd : decide (C ≤ 400) = false := decide_eq_false hq
        have HT : Hid (¬ fwP f m lp z) := fun h => by
          by_cases hr : Rt f m
          · have h1 := HW.out.2.1 hr
            have h2 := h.2.2 hr
            omega
          · have := HW.out.2.2 hr
            omega
        go_wp2
        go_ret
        exact ⟨tells_no HT.out, HW.out.1⟩
    · have hlI : (400 : Int) < (lp : Int) := by omega
      have HT : Hid (¬ fwP f m lp z) := fun h => hl h.2.1
      have x0 := B1.out.c0
      have x1 := B1.out.c1
      go_enter Tryz.func10, Tryz.ntmps10
      go_upto_region 1 with fail
      generalize w.alloc (.cells #[.slice adr m cap, .slice adp lp cpp] 25) = w1 at *
      go_wp2
      go_ret
      exact ⟨tells_no HT.out, B0.out⟩
  · have hmI : (10 : Int) < (m : Int) := by omega
    have HT : Hid (¬ fwP f m lp z) := fun h => hm h.1
    have x0 := B1.out.c0
    go_enter Tryz.func10, Tryz.ntmps10
    go_upto_region 1 with fail
    generalize w.alloc (.cells #[.slice adr m cap, .slice adp lp cpp] 25) = w1 at *
    go_wp2
    go_ret
    exact ⟨tells_no HT.out, B0.out⟩
/-- Has a net as many parameters as it must? -/
def rtP (f : Nat → Int) (m lp : Nat) (z : Nat → Nat) : Prop := Rt f m ∧ lp = fsN z (m - 1)
set_option maxHeartbeats 2000000 in
theorem right7_any (vs vp : Value) (m lp : Nat) (f P : Nat → Int) (z : Nat → Nat) (hz : Zs f m z) (hlp : lp ≤ 1000000) (w : World) (hA : Ar w vs m f) (hP : Ar w vp lp P) : Calls Tryz.prog 24 #[.agg #[vs, vp]] w fun e w' => Tells e (rtP f m lp z) ∧ Below w.heap.size w w' := by
  have HC : Hid (∀ W : World, Below w.heap.size w W → Calls Tryz.prog 13 #[vs] W fun e w' => ∃ C : Int, e = .returned (.int .i64 C) ∧ ctN f m z C ∧ Below W.heap.size W w') := fun W hb => count7_any vs m f z hz W (hA.later hb)
  obtain ⟨adr, cap, b, o, rfl, k1, k2, -, -⟩ := hA
  obtain ⟨adp, cpp, bp, op, rfl, j1, j2, -, -⟩ := hP
  unfold maxLen at k2 j2
  have B0 : Hid (Below w.heap.size w (w.alloc (.cells #[.slice adr m cap, .slice adp lp cpp] 25))) := bel1 _ _
  have B1 : Hid (Bx w.heap.size (.slice adr m cap) (.slice adp lp cpp) (w.alloc (.cells #[.slice adr m cap, .slice adp lp cpp] 25))) := Bx.new w _ _ _
  have x0 := B1.out.c0
  go_enter Tryz.func24, Tryz.ntmps24
  go_upto_region 1 with fail
  generalize w.alloc (.cells #[.slice adr m cap, .slice adp lp cpp] 25) = w1 at *
  go_wp2_with fail
  refine (HC.out _ B0.out).mono ?_
  rintro e w2 ⟨C, rfl, hC, hb⟩
  have HW : Hid (Below w.heap.size w w2 ∧ ctN f m z C) := ⟨bchain B0.out hb, hC⟩
  have x1 := cell_later hb B1.out.c1
  clear hb hC HC x0
  by_cases hr : Rt f m
  · have eC := HW.out.2.1 hr
    have hC0 : (0 : Int) ≤ C := by omega
    by_cases hq : lp = fsN z (m - 1)
    · have hcq : C = (lp : Int) := by omega
      have HT : Hid (rtP f m lp z) := ⟨hr, hq⟩
      clear eC hq
      subst hcq
      go_wp2
      go_ret
      exact ⟨tells_yes HT.out, HW.out.1⟩
    · have HT : Hid (¬ rtP f m lp z) := fun h => hq h.2
      have hcq : ¬ C = (lp : Int) := by omega
      have hcq1 : decide (C = (lp : Int)) = false := decide_eq_false hcq
      have hcq2 : (C == (lp : Int)) = false := by simp [hcq]
      clear eC hq
      go_wp2
      go_ret
      exact ⟨tells_no HT.out, HW.out.1⟩
  · have eC := HW.out.2.2 hr
    subst eC
    have HT : Hid (¬ rtP f m lp z) := fun h => hr h.1
    go_wp2
    go_ret
    exact ⟨tells_no HT.out, HW.out.1⟩
end Go.Proofs.YtdfjnbkkdgolnaaGreatDoor
set_option linter.unusedVariables false
set_option linter.unusedSimpArgs false
namespace Go.Proofs.YtdfjnbkkdgolnaaGreatDoor
open Go.RowKit

def zA (i : Nat) : Nat := if i = 0 then 2 else 1
def pA (_ : Nat) : Int := 4294967296
def xA (i : Nat) : Int := if i = 0 then 8589934592 else 12884901888
def tA (_ : Nat) : Int := 17179869184
theorem aw7 : gdX true zA 2 pA xA tA = 8589934592 ∧ gdG true zA 2 pA xA tA 0 = 17179869184 ∧ gdG true zA 2 pA xA tA 1 = 25769803776 ∧ gdG true zA 2 pA xA tA 2 = 8589934592 := by decide +kernel
theorem awz : Szs zA 2 := ⟨by omega, by omega, fun i hi => by unfold zA; split <;> omega⟩
theorem ar_c3 (w : World) (x : Int) (h0 : -9223372036854775808 ≤ x) (h1 : x ≤ 9223372036854775807) (t : TypeId) : Ar (w.alloc (.cells #[.int .i64 x, .int .i64 x, .int .i64 x] t)) (.slice (some ⟨w.heap.size, 0, none⟩) 3 3) 3 (fun _ => x) :=
  ⟨_, 3, w.heap.size, 0, rfl, Nat.le_refl _, by unfold maxLen; omega, fun _ => rfl, fun k hk => ⟨by
    match k, hk with
    | 0, _ => simp [go_sem]
    | 1, _ => simp [go_sem]
    | 2, _ => simp [go_sem], h0, h1⟩⟩
theorem ar_c1 (w : World) (x : Int) (h0 : -9223372036854775808 ≤ x) (h1 : x ≤ 9223372036854775807) (t : TypeId) : Ar (w.alloc (.cells #[.int .i64 x] t)) (.slice (some ⟨w.heap.size, 0, none⟩) 1 1) 1 (fun _ => x) :=
  ⟨_, 1, w.heap.size, 0, rfl, Nat.le_refl _, by unfold maxLen; omega, fun _ => rfl, fun k hk => ⟨by
    match k, hk with
    | 0, _ => simp [go_sem], h0, h1⟩⟩
theorem ar_c2 (w : World) (x y : Int) (hx : -9223372036854775808 ≤ x ∧ x ≤ 9223372036854775807) (hy : -9223372036854775808 ≤ y ∧ y ≤ 9223372036854775807) (t : TypeId) : Ar (w.alloc (.cells #[.int .i64 x, .int .i64 y] t)) (.slice (some ⟨w.heap.size, 0, none⟩) 2 2) 2 (fun i => if i = 0 then x else y) :=
  ⟨_, 2, w.heap.size, 0, rfl, Nat.le_refl _, by unfold maxLen; omega, fun _ => rfl, fun k hk => by
    match k, hk with
    | 0, _ => exact ⟨by simp [go_sem], by simpa using hx⟩
    | 1, _ => exact ⟨by simp [go_sem], by simpa using hy⟩⟩
set_option maxRecDepth 100000 in
set_option maxHeartbeats 4000000 in
theorem awake7_any (V4 : Mlp4) (w : World) (hV : MT w) : Calls Tryz.prog 9 #[] w fun e w' => e = .returned (.bool true) ∧ Below w.heap.size w w' := by
  obtain ⟨w1, hw1⟩ : ∃ w1, w1 = w.alloc (.cells #[.int .i64 4294967296, .int .i64 4294967296, .int .i64 4294967296] 41) := ⟨_, rfl⟩
  obtain ⟨w2, hw2⟩ : ∃ w2, w2 = w1.alloc (.cells #[.int .i64 2, .int .i64 1] 3) := ⟨_, rfl⟩
  obtain ⟨w3, hw3⟩ : ∃ w3, w3 = w2.alloc (.cells #[.int .i64 8589934592, .int .i64 12884901888] 41) := ⟨_, rfl⟩
  obtain ⟨w4, hw4⟩ : ∃ w4, w4 = w3.alloc (.cells #[.int .i64 17179869184] 41) := ⟨_, rfl⟩
  have b1 : Below w.heap.size w w1 := by rw [hw1]; exact bel1 _ _
  have b2 : Below w1.heap.size w1 w2 := by rw [hw2]; exact bel1 _ _
  have b3 : Below w2.heap.size w2 w3 := by rw [hw3]; exact bel1 _ _
  have b4 : Below w3.heap.size w3 w4 := by rw [hw4]; exact bel1 _ _
  have s1 : w1.heap.size = w.heap.size + 1 := by rw [hw1, World.size_alloc]
  have s2 : w2.heap.size = w.heap.size + 1 + 1 := by rw [hw2, World.size_alloc, s1]
  have s3 : w3.heap.size = w.heap.size + 1 + 1 + 1 := by rw [hw3, World.size_alloc, s2]
  have a1 : Ar w4 (.slice (some ⟨w.heap.size, 0, none⟩) 3 3) 3 pA := by
    have h := ar_c3 w 4294967296 (by omega) (by omega) 41
    rw [← hw1] at h
    exact ((h.later b2).later b3).later b4
  have a2 : Ar w4 (.slice (some ⟨w.heap.size + 1, 0, none⟩) 2 2) 2 (fun i => ((zA i : Nat) : Int)) := by
    have h := ar_c2 w1 2 1 (by omega) (by omega) 3
    rw [← hw2, s1] at h
    exact ((h.later b3).later b4).congr (fun k hk => by unfold zA; split <;> rfl)
  have a3 : Ar w4 (.slice (some ⟨w.heap.size + 1 + 1, 0, none⟩) 2 2) 2 xA := by
    have h := ar_c2 w2 8589934592 12884901888 (by omega) (by omega) 41
    rw [← hw3, s2] at h
    exact h.later b4
  have a4 : Ar w4 (.slice (some ⟨w.heap.size + 1 + 1 + 1, 0, none⟩) 1 1) 1 tA := by
    have h := ar_c1 w3 17179869184 (by omega) (by omega) 41
    rw [← hw4, s3] at h
    exact h
  have HB : Hid (Below w.heap.size w w4) := bchain (bchain (bchain b1 b2) b3) b4
  have CG : Hid (Calls Tryz.prog 30 #[.pointer none, .int .i64 1, .slice (some ⟨w.heap.size + 1, 0, none⟩) 2 2, .slice (some ⟨w.heap.size, 0, none⟩) 3 3, .agg #[.slice (some ⟨w.heap.size + 1 + 1, 0, none⟩) 2 2, .slice (some ⟨w.heap.size + 1 + 1 + 1, 0, none⟩) 1 1]] w4 fun e w' => ∃ v', e = .returned (.tuple #[v', .int .i64 8589934592, .int .i64 0]) ∧ Ar w' v' 3 (gdG true zA 2 pA xA tA) ∧ Below w4.heap.size w4 w') := by
    refine (V4.gradN true _ _ _ _ 2 3 zA pA xA tA w4 a2 a1 a3 a4 awz rfl (hV.later HB.out)).mono ?_
    rintro e w' ⟨v', rfl, hA, -, hb⟩
    rw [aw7.1]
    exact ⟨v', rfl, hA, hb⟩
  have Hw : Hid (w4 = (((w.alloc (.cells #[.int .i64 4294967296, .int .i64 4294967296, .int .i64 4294967296] 41)).alloc (.cells #[.int .i64 2, .int .i64 1] 3)).alloc (.cells #[.int .i64 8589934592, .int .i64 12884901888] 41)).alloc (.cells #[.int .i64 17179869184] 41)) := by show _ = _; rw [hw4, hw3, hw2, hw1]
  clear hw1 hw2 hw3 hw4 b1 b2 b3 b4 s1 s2 s3 a1 a2 a3 a4
  go_enter Tryz.func9, Tryz.ntmps9
  go_wp2_with fail
  rw [← Hw.out]
  refine CG.out.mono ?_
  rintro e w5 ⟨v', rfl, hA, hb⟩
  obtain ⟨b, o, cap, rfl, k1, k2, k3, k4⟩ := hA.spot 0 (by omega)
  unfold maxLen at k1
  have c0 := k3 0 (by omega)
  have c1 := k3 1 (by omega)
  have c2 := k3 2 (by omega)
  rw [aw7.2.1] at c0
  rw [aw7.2.2.1] at c1
  rw [aw7.2.2.2] at c2
  rw [Nat.add_zero] at c0
  have HB5 : Hid (Below w.heap.size w w5) := bchain HB.out hb
  clear CG Hw hA k3 k4 hb HB
  go_wp2
  go_ret
  exact ⟨by first | rfl | simp, HB5.out⟩
set_option maxRecDepth 100000 in
set_option maxHeartbeats 4000000 in
theorem netplain_any (vs vp : Value) (m lp : Nat) (f P : Nat → Int) (hl : lp ≤ 70000) (w : World) (hA : Ar w vs m f) (hP : Ar w vp lp P) : Calls Tryz.prog 14 #[.agg #[vs, vp]] w fun e w' => ∃ v', e = .returned (.agg #[vs, v']) ∧ Ar w' v' lp P ∧ Ow w.heap.size v' ∧ Below w.heap.size w w' := by
  have HC : Hid (∀ W : World, Below w.heap.size w W → Calls Tryz.prog 19 #[vp] W fun e w' => ∃ v', e = .returned v' ∧ Ar w' v' lp P ∧ Ow W.heap.size v' ∧ Below W.heap.size W w') := fun W hb => plain7_any vp lp P hl W (hP.later hb)
  obtain ⟨adr, cap, b, o, rfl, k1, k2, -, -⟩ := hA
  obtain ⟨adp, cpp, bp, op, rfl, j1, j2, -, -⟩ := hP
  obtain ⟨w1, hw1⟩ : ∃ w1, w1 = (w.alloc (.cells #[.slice adr m cap, .slice adp lp cpp] 25)).alloc (.cells #[.slice none 0 0, .slice none 0 0] 37) := ⟨_, rfl⟩
  have HB1 : Hid (Below w.heap.size w w1) := by rw [hw1]; exact bel2 _ _ _
  have HX : Hid (Bx w.heap.size (.slice adr m cap) (.slice adp lp cpp) w1) := by rw [hw1]; exact (Bx.new w _ _ _).later (bel1 _ _)
  have HY : Hid (Bx (w.heap.size + 1) (.slice none 0 0) (.slice none 0 0) w1) := by
    have h := Bx.new (w.alloc (.cells #[.slice adr m cap, .slice adp lp cpp] 25)) (.slice none 0 0) (.slice none 0 0) 37
    rw [World.size_alloc] at h
    rw [hw1]
    exact h
  go_enter Tryz.func14, Tryz.ntmps14
  go_upto_region 1 with fail
  rw [← hw1]
  clear hw1
  obtain ⟨g, hg⟩ : ∃ g, w.heap.size + 1 = g := ⟨_, rfl⟩
  rw [hg] at HY
  try simp only [hg]
  have hgw : w.heap.size < g := by omega
  clear hg
  have hbD : Below w1.heap.size w1 w1.drew := (Below.refl _ _).drew
  have A := HX.out.later hbD
  have Y := HY.out.later hbD
  have CW : Hid (Below w.heap.size w w1.drew) := bchain HB1.out hbD
  have y0 := Y.c0
  have y1 := Y.c1
  have y2 := Y.f0
  have y3 := Y.f1
  clear hbD HX HY HB1
  go_region_held3 (fun w' => w'.cell? ⟨w.heap.size, 0, none⟩ = some (.slice adr m cap) ∧ w'.cell? ⟨w.heap.size, 1, none⟩ = some (.slice adp lp cpp)) (first | exact ⟨A.c0, A.c1⟩ | exact ⟨cell_set (by dsimp only; omega) (cell_set (by dsimp only; omega) A.c0), cell_set (by dsimp only; omega) (cell_set (by dsimp only; omega) A.c1)⟩)
    (first | (go_at_call 19; refine (HC.out _ CW.out).mono ?_; rintro e wz ⟨v', rfl, hAz, hOz, hb⟩; obtain ⟨adz, caz, bz, oz, rfl, -, -, -, -⟩ := id hAz; have hNz : Nb (.slice adz lp caz) g := hOz.nb (World.block_lt_of_cell? _ _ y0); replace hOz := hOz.mono CW.out.size; replace A := A.later hb; replace Y := Y.later hb; replace y0 := Y.c0; replace y1 := Y.c1; replace y2 := Y.f0; replace y3 := Y.f1; replace CW := hidD CW hb; clear hb))
  have S := Y.set (.slice adr m cap) (.slice adz lp caz)
  have z0 := S.c0
  have z1 := S.c1
  have HZ : Hid (Ar ((wz.setCell ⟨g, 0, none⟩ (.slice adr m cap)).setCell ⟨g, 1, none⟩ (.slice adz lp caz)) (.slice adz lp caz) lp P ∧ Ow w.heap.size (.slice adz lp caz) ∧ Below w.heap.size w ((wz.setCell ⟨g, 0, none⟩ (.slice adr m cap)).setCell ⟨g, 1, none⟩ (.slice adz lp caz))) := ⟨(hAz.put (by exact hNz) _).put (by exact hNz) _, hOz, (CW.out.setCell (by dsimp only; omega) _).setCell (by dsimp only; omega) _⟩
  clear A Y y0 y1 y2 y3 CW S hAz hOz hNz
  go_wp2
  generalize ((wz.setCell ⟨g, 0, none⟩ (.slice adr m cap)).setCell ⟨g, 1, none⟩ (.slice adz lp caz)) = wq at *
  exact bodyPost_ret (v := .agg #[.slice adr m cap, .slice adz lp caz]) (by simp [results, Tryz.results14, go_sem, z0, z1]) rfl ⟨_, rfl, HZ.out.1, HZ.out.2.1, HZ.out.2.2⟩
end Go.Proofs.YtdfjnbkkdgolnaaGreatDoor
set_option linter.unusedVariables false
set_option linter.unusedSimpArgs false
namespace Go.Proofs.YtdfjnbkkdgolnaaGreatDoor
open Go.RowKit

theorem cell_fresh (w : World) (v : Value) (t : TypeId) : (w.alloc (.cells #[v] t)).cell? ⟨w.heap.size, 0, none⟩ = some v := by simp [go_sem]
theorem units_new {w w' : World} (hW : Below w.heap.size w w') (t t' : TypeId) : L2 w w'.heap.size (w'.heap.size + 1) 0 0 ((w'.alloc (.cells #[.int .i64 0] t)).alloc (.cells #[.int .i64 0] t')) := by
  refine ⟨bchain hW (bel2 _ _ _), ⟨?_, ?_⟩, ⟨?_, ?_⟩⟩
  · exact cell_later (bel1 _ _) (cell_fresh w' _ _)
  · exact frozen_later (bel1 _ _) (cell_fresh w' _ _) (by simp [go_sem])
  · have h := cell_fresh (w'.alloc (.cells #[.int .i64 0] t)) (.int .i64 0) t'
    rw [World.size_alloc] at h
    exact h
  · simp [go_sem]
theorem Ls.spot {w : World} {d : Nat} {v : Value} {m : Nat} {ns : Nat → Nat} {fs : Nat → Nat → Int} (h : Ls w d v m ns fs) : ∃ (g cap : Nat), v = .slice (some ⟨g, 0, none⟩) m cap ∧ m ≤ cap ∧ cap ≤ maxLen ∧ ∀ k, k < m → ∃ (ad : Option Addr) (ca : Nat), w.cell? ⟨g, k, none⟩ = some (.slice ad (ns k) ca) ∧ Ar w (.slice ad (ns k) ca) (ns k) (fs k) := by
  obtain ⟨g, cap, e, h1, h2, -, h4⟩ := h
  refine ⟨g, cap, e, h1, h2, fun k hk => ?_⟩
  obtain ⟨va, c, a, -⟩ := h4 k hk
  obtain ⟨adr, ca, b, o, rfl, r⟩ := id a
  exact ⟨adr, ca, c, a⟩
end Go.Proofs.YtdfjnbkkdgolnaaGreatDoor
