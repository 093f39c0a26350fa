/-
  The contracts of rand's stir, root and Word.
-/
import Derived.Test.YtaifihfiompgaaaEWalkA
import Derived.ChangeKeysEq
set_option linter.unusedVariables false
set_option linter.unusedSimpArgs false
namespace Go.Proofs.Ytaifihfiompgaaa
open Go.RowKit

set_option maxHeartbeats 2000000 in
theorem pstir_any (X : Nat) (hX : X < 18446744073709551616) (w : World) :
    Calls Try.prog 40 #[.int .u64 (X : Int)] w fun e w' => e = .returned (.int .u64 ((stN X : Nat) : Int)) ∧ w' = w := by
  obtain ⟨A, hA⟩ : ∃ A, X ^^^ X / 4294967296 = A := ⟨_, rfl⟩
  obtain ⟨Y, hY⟩ : ∃ Y, A * 11400714819323198549 % 18446744073709551616 = Y := ⟨_, rfl⟩
  obtain ⟨C, hC⟩ : ∃ C, Y ^^^ Y / 536870912 = C := ⟨_, rfl⟩
  obtain ⟨Z, hZ⟩ : ∃ Z, C * 15241094284759029579 % 18446744073709551616 = Z := ⟨_, rfl⟩
  obtain ⟨R, hR⟩ : ∃ R, Z ^^^ Z / 4294967296 = R := ⟨_, rfl⟩
  have hN : stN X = R := by unfold stN stZ stY; rw [hA, hY, hC, hZ, hR]
  have lY : Y < 18446744073709551616 := by rw [← hY]; exact Nat.mod_lt _ (by omega)
  have lZ : Z < 18446744073709551616 := by rw [← hZ]; exact Nat.mod_lt _ (by omega)
  have e1 : bits .xor .u64 (X : Int) ((X : Int) / 4294967296) = (A : Int) := by rw [show ((X : Int) / 4294967296) = ((X / 4294967296 : Nat) : Int) by omega, xor6 _ _ hX (by omega), hA]
  have e2 : IntKind.u64.wrap ((A : Int) * 11400714819323198549) = (Y : Int) := by rw [IntKind.wrap_u64, ← hY]; omega
  have e3 : bits .xor .u64 (Y : Int) ((Y : Int) / 536870912) = (C : Int) := by rw [show ((Y : Int) / 536870912) = ((Y / 536870912 : Nat) : Int) by omega, xor6 _ _ lY (by omega), hC]
  have e4 : IntKind.u64.wrap ((C : Int) * 15241094284759029579) = (Z : Int) := by rw [IntKind.wrap_u64, ← hZ]; omega
  have e5 : bits .xor .u64 (Z : Int) ((Z : Int) / 4294967296) = (R : Int) := by rw [show ((Z : Int) / 4294967296) = ((Z / 4294967296 : Nat) : Int) by omega, xor6 _ _ lZ (by omega), hR]
  rw [hN]
  clear hA hY hC hZ hR hN
  go_enter Try.func40, Try.ntmps40
  go_wp2
  go_ret
  exact ⟨rfl, rfl⟩
theorem idx3 (xs : Array Value) (v : Value) (j : Nat) (h : j < 3) (hx : xs[j]? = some v) (W : World) : (Instr.index 77 (.agg xs) (.int .i64 (j : Int))).run Try.prog W = .ok v W := by
  have p := run_part_plain (P := Try.prog) (e := 3) W (by kernel_rfl) hx
  have hz := Try.sizeOf3 W
  have h1 : (0 : Int) ≤ (j : Int) ∧ (j : Int) < ((3 : Nat) : Int) := by omega
  simp only [Instr.index, asIntOf, Sem.run_bind, Sem.run_pure, Result.andThen_ok, run_underlying Try.underlying77, if_pos h1, hz, Int.toNat_natCast, Nat.mul_one, p]
set_option maxRecDepth 100000 in
set_option maxHeartbeats 4000000 in
theorem proot_any (s : Nat) (a b c : Int) (hk : Ky s a b c) (w : World) :
    Calls Try.prog 41 #[.agg #[.int .u64 (s : Int), .int .i64 a, .int .i64 b, .int .i64 c]] w fun e w' => e = .returned (.int .u64 ((rtN s a b c : Nat) : Int)) ∧ Below w.heap.size w w' := by
  obtain ⟨s1, -, -, -, -, -, -⟩ := id hk
  have wa := u6_wrap a
  have wb := u6_wrap b
  have wc := u6_wrap c
  obtain ⟨X0, h0⟩ : ∃ x, (s + 7046029254386353131) % 18446744073709551616 = x := ⟨_, rfl⟩
  have l0 : X0 < 18446744073709551616 := by rw [← h0]; exact Nat.mod_lt _ (by omega)
  have e0 : IntKind.u64.wrap ((s : Int) + 7046029254386353131) = (X0 : Int) := by rw [IntKind.wrap_u64, ← h0]; omega
  obtain ⟨Y0, g0⟩ : ∃ x, stN X0 = x := ⟨_, rfl⟩
  have m0 : Y0 < 18446744073709551616 := by rw [← g0]; exact stN_lt _
  have q1 := mix_eq Y0 a m0
  obtain ⟨X1, h1⟩ : ∃ x, ((Y0 ^^^ u6 a) + 14029467366897019727) % 18446744073709551616 = x := ⟨_, rfl⟩
  have l1 : X1 < 18446744073709551616 := by rw [← h1]; exact Nat.mod_lt _ (by omega)
  rw [h1] at q1
  obtain ⟨Y1, g1⟩ : ∃ x, stN X1 = x := ⟨_, rfl⟩
  have m1 : Y1 < 18446744073709551616 := by rw [← g1]; exact stN_lt _
  have q2 := mix_eq Y1 b m1
  obtain ⟨X2, h2⟩ : ∃ x, ((Y1 ^^^ u6 b) + 14029467366897019727) % 18446744073709551616 = x := ⟨_, rfl⟩
  have l2 : X2 < 18446744073709551616 := by rw [← h2]; exact Nat.mod_lt _ (by omega)
  rw [h2] at q2
  obtain ⟨Y2, g2⟩ : ∃ x, stN X2 = x := ⟨_, rfl⟩
  have m2 : Y2 < 18446744073709551616 := by rw [← g2]; exact stN_lt _
  have q3 := mix_eq Y2 c m2
  obtain ⟨X3, h3⟩ : ∃ x, ((Y2 ^^^ u6 c) + 14029467366897019727) % 18446744073709551616 = x := ⟨_, rfl⟩
  have l3 : X3 < 18446744073709551616 := by rw [← h3]; exact Nat.mod_lt _ (by omega)
  rw [h3] at q3
  have hN : rtN s a b c = stN X3 := by unfold rtN mxN; rw [h0, g0, h1, g1, h2, g2, h3]
  rw [hN]
  have S0 : Hid (∀ W : World, Calls Try.prog 40 #[.int .u64 (X0 : Int)] W fun e w' => e = .returned (.int .u64 (Y0 : Int)) ∧ w' = W) := fun W => g0 ▸ pstir_any X0 l0 W
  have S1 : Hid (∀ W : World, Calls Try.prog 40 #[.int .u64 (X1 : Int)] W fun e w' => e = .returned (.int .u64 (Y1 : Int)) ∧ w' = W) := fun W => g1 ▸ pstir_any X1 l1 W
  have S2 : Hid (∀ W : World, Calls Try.prog 40 #[.int .u64 (X2 : Int)] W fun e w' => e = .returned (.int .u64 (Y2 : Int)) ∧ w' = W) := fun W => g2 ▸ pstir_any X2 l2 W
  have S3 : Hid (∀ W : World, Calls Try.prog 40 #[.int .u64 (X3 : Int)] W fun e w' => e = .returned (.int .u64 ((stN X3 : Nat) : Int)) ∧ w' = W) := fun W => pstir_any X3 l3 W
  generalize stN X3 = R at *
  generalize u6 a = ua at *
  generalize u6 b = ub at *
  generalize u6 c = uc at *
  have hb0 : Hid (Below w.heap.size w (w.alloc (.cells #[.int .u64 (s : Int), .int .i64 a, .int .i64 b, .int .i64 c] 51))) := bel1 w (.cells #[.int .u64 (s : Int), .int .i64 a, .int .i64 b, .int .i64 c] 51)
  clear h0 h1 h2 h3 g0 g1 g2 hN hk s1
  go_enter Try.func41, Try.ntmps41
  go_wp2_with fail
  refine (S0.out _).mono ?_
  rintro e w1 ⟨rfl, hz⟩
  subst hz
  clear S0
  go_upto_region 3 with fail
  generalize w.alloc (.cells #[.int .u64 (s : Int), .int .i64 a, .int .i64 b, .int .i64 c] 51) = w1 at *
  go_loopw [3, 17] (fun s3 si wr => ((s3 = .int .u64 (Y0 : Int) ∧ si = .int .i64 0) ∨ (s3 = .int .u64 (Y1 : Int) ∧ si = .int .i64 1) ∨ (s3 = .int .u64 (Y2 : Int) ∧ si = .int .i64 2) ∨ (s3 = .int .u64 (R : Int) ∧ si = .int .i64 3)) ∧ wr = w1) (fun _ si _ => 3 - (intOf si).toNat)
  case atStart => exact ⟨Or.inl ⟨rfl, rfl⟩, rfl⟩
  case round =>
    obtain ⟨h, rfl⟩ := hrel
    have x0 : (Instr.index 77 (.agg #[.int .i64 a, .int .i64 b, .int .i64 c]) (.int .i64 0)).run Try.prog wr = .ok (.int .i64 a) wr := idx3 _ _ 0 (by omega) rfl wr
    have x1 : (Instr.index 77 (.agg #[.int .i64 a, .int .i64 b, .int .i64 c]) (.int .i64 1)).run Try.prog wr = .ok (.int .i64 b) wr := idx3 _ _ 1 (by omega) rfl wr
    have x2 : (Instr.index 77 (.agg #[.int .i64 a, .int .i64 b, .int .i64 c]) (.int .i64 2)).run Try.prog wr = .ok (.int .i64 c) wr := idx3 _ _ 2 (by omega) rfl wr
    rcases h with ⟨rfl, rfl⟩ | ⟨rfl, rfl⟩ | ⟨rfl, rfl⟩ | ⟨rfl, rfl⟩
    · go_wp2_with fail
      refine (S1.out _).mono ?_
      rintro e w2 ⟨rfl, hz⟩
      subst hz
      go_wp2
      go_roundw
      case rel => exact ⟨Or.inr (Or.inl ⟨rfl, by go_num⟩), trivial⟩
      case measure => simp [intOf]
    · go_wp2_with fail
      refine (S2.out _).mono ?_
      rintro e w2 ⟨rfl, hz⟩
      subst hz
      go_wp2
      go_roundw
      case rel => exact ⟨Or.inr (Or.inr (Or.inl ⟨rfl, by go_num⟩)), trivial⟩
      case measure => simp [intOf]
    · go_wp2_with fail
      refine (S3.out _).mono ?_
      rintro e w2 ⟨rfl, hz⟩
      subst hz
      go_wp2
      go_roundw
      case rel => exact ⟨Or.inr (Or.inr (Or.inr ⟨rfl, by go_num⟩)), trivial⟩
      case measure => simp [intOf]
    · go_wp2
      go_ret
      exact ⟨rfl, hb0.out⟩
set_option maxHeartbeats 4000000 in
theorem pWord_any (s : Nat) (a b c i : Int) (hk : Ky s a b c) (i0 : -9223372036854775808 ≤ i) (i1 : i ≤ 9223372036854775807) (w : World) :
    Calls Try.prog 38 #[.agg #[.int .u64 (s : Int), .int .i64 a, .int .i64 b, .int .i64 c], .int .i64 i] w fun e w' => e = .returned (.int .u64 ((wdN s a b c i : Nat) : Int)) ∧ Below w.heap.size w w' := by
  have wi := u6_wrap i
  obtain ⟨Y3, g3⟩ : ∃ x, rtN s a b c = x := ⟨_, rfl⟩
  have m3 : Y3 < 18446744073709551616 := by rw [← g3]; exact rtN_lt _ _ _ _
  obtain ⟨P, hP⟩ : ∃ x, u6 i * 11400714819323198485 % 18446744073709551616 = x := ⟨_, rfl⟩
  have lP : P < 18446744073709551616 := by rw [← hP]; exact Nat.mod_lt _ (by omega)
  have eP : IntKind.u64.wrap (((u6 i : Nat) : Int) * 11400714819323198485) = (P : Int) := by rw [IntKind.wrap_u64, ← hP]; omega
  have q4 := xor6 Y3 P m3 lP
  obtain ⟨X4, h4⟩ : ∃ x, Y3 ^^^ P = x := ⟨_, rfl⟩
  have l4 : X4 < 18446744073709551616 := by rw [← h4]; exact xor_in _ _ m3 lP
  rw [h4] at q4
  have hN : wdN s a b c i = stN X4 := by unfold wdN; rw [g3, hP, h4]
  rw [hN]
  have S0 : Hid (∀ W : World, Calls Try.prog 41 #[.agg #[.int .u64 (s : Int), .int .i64 a, .int .i64 b, .int .i64 c]] W fun e w' => e = .returned (.int .u64 (Y3 : Int)) ∧ Below W.heap.size W w') := fun W => g3 ▸ proot_any s a b c hk W
  have S4 : Hid (∀ W : World, Calls Try.prog 40 #[.int .u64 (X4 : Int)] W fun e w' => e = .returned (.int .u64 ((stN X4 : Nat) : Int)) ∧ w' = W) := fun W => pstir_any X4 l4 W
  generalize stN X4 = R at *
  generalize u6 i = ui at *
  have hb0 : Hid (Below w.heap.size w (w.alloc (.cells #[.int .u64 (s : Int), .int .i64 a, .int .i64 b, .int .i64 c] 51))) := bel1 w (.cells #[.int .u64 (s : Int), .int .i64 a, .int .i64 b, .int .i64 c] 51)
  clear h4 g3 hP hN hk i0 i1
  go_enter Try.func38, Try.ntmps38
  go_wp2_with fail
  refine (S0.out _).mono ?_
  rintro e w1 ⟨rfl, hb⟩
  have hX : Hid (Below w.heap.size w w1) := bchain hb0.out hb
  clear S0 hb hb0
  go_wp2_with fail
  refine (S4.out _).mono ?_
  rintro e w2 ⟨rfl, hz⟩
  subst hz
  clear S4
  go_wp2
  go_ret
  exact ⟨rfl, hX.out⟩
end Go.Proofs.Ytaifihfiompgaaa
