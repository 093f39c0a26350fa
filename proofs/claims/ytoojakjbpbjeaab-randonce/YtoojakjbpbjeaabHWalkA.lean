/-
  The contracts of rand's stir, root and Word.
-/
import Derived.Test.YtoojakjbpbjeaabEWalkA
import Derived.ChangeKeysEq
set_option linter.unusedVariables false
set_option linter.unusedSimpArgs false
namespace Go.Proofs.Ytoojakjbpbjeaab
open Go.RowKit

set_option maxHeartbeats 2000000 in
theorem pstir_any (X : Nat) (hX : X < 18446744073709551616) (w : World) :
    Calls Try.prog 16 #[.int .u64 (X : Int)] w fun e w' => e = .returned (.int .u64 ((stN X : Nat) : Int)) ∧ w' = w := by
  obtain ⟨A, hA⟩ : ∃ A, X ^^^ X / 4294967296 = A := ⟨_, rfl⟩
  obtain ⟨Y, hY⟩ : ∃ Y, A * 11400714819323198549 % 18446744073709551616 = Y := ⟨_, rfl⟩
  obtain ⟨C, hC⟩ : ∃ C, Y ^^^ Y / 536870912 = C := ⟨_, rfl⟩
  obtain ⟨Z, hZ⟩ : ∃ Z, C * 15241094284759029579 % 18446744073709551616 = Z := ⟨_, rfl⟩
  obtain ⟨R, hR⟩ : ∃ R, Z ^^^ Z / 4294967296 = R := ⟨_, rfl⟩
  have hN : stN X = R := by unfold stN stZ stY; rw [hA, hY, hC, hZ, hR]
  have lY : Y < 18446744073709551616 := by rw [← hY]; exact Nat.mod_lt _ (by omega)
  have lZ : Z < 18446744073709551616 := by rw [← hZ]; exact Nat.mod_lt _ (by omega)
  have e1 : bits .xor .u64 (X : Int) ((X : Int) / 4294967296) = (A : Int) := by rw [show ((X : Int) / 4294967296) = ((X / 4294967296 : Nat) : Int) by omega, xor6 _ _ hX (by omega), hA]
  have e2 : IntKind.u64.wrap ((A : Int) * 11400714819323198549) = (Y : Int) := by rw [IntKind.wrap_u64, ← hY]; omega
  have e3 : bits .xor .u64 (Y : Int) ((Y : Int) / 536870912) = (C : Int) := by rw [show ((Y : Int) / 536870912) = ((Y / 536870912 : Nat) : Int) by omega, xor6 _ _ lY (by omega), hC]
  have e4 : IntKind.u64.wrap ((C : Int) * 15241094284759029579) = (Z : Int) := by rw [IntKind.wrap_u64, ← hZ]; omega
  have e5 : bits .xor .u64 (Z : Int) ((Z : Int) / 4294967296) = (R : Int) := by rw [show ((Z : Int) / 4294967296) = ((Z / 4294967296 : Nat) : Int) by omega, xor6 _ _ lZ (by omega), hR]
  rw [hN]
  clear hA hY hC hZ hR hN
  go_enter Try.func16, Try.ntmps16
  go_wp2
  go_ret
  exact ⟨rfl, rfl⟩
end Go.Proofs.Ytoojakjbpbjeaab
