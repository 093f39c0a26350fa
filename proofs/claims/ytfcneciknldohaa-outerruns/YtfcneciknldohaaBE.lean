/-
  WalkJ, WalkK, WalkL.
-/
import Derived.Test.YtfcneciknldohaaBC
import Derived.Laws.MathBits
import Derived.Test.YtfcneciknldohaaBA
import Derived.Deep.CutBlock
import Derived.Deep.DeepCutAuto
/-
  Contracts of math/bits.Len64 and LeadingZeros64: how many bits a word needs.
-/
set_option linter.unusedVariables false
set_option linter.unusedSimpArgs false
namespace Go.Proofs.Ytfcneciknldohaa
open Go.RowKit

theorem len_fin0 (y : Int) (y1 : y < 256) : wrap64 ((bitLen y.toNat : Nat) : Int) = ((bitLen y.toNat : Nat) : Int) := by
  have h := bitLen_le8 y.toNat (by omega)
  rw [w64, sg_id _ (by omega) (by omega)]
theorem len_fin (K : Nat) (x y : Int) (hK : K ≤ 56) (x0 : 0 ≤ x) (hy : x.toNat / 2 ^ K = y.toNat) (y0 : 1 ≤ y) (y1 : y < 256) : wrap64 ((K : Int) + wrap64 ((bitLen y.toNat : Nat) : Int)) = ((bitLen x.toNat : Nat) : Int) := by
  have h := bitLen_le8 y.toNat (by omega)
  have s := bitLen_shift x.toNat K (by omega)
  rw [hy] at s
  rw [len_fin0 y y1, w64, sg_id _ (by omega) (by omega), s]
  omega

theorem bitLen_rng (x : Int) (h0 : 1 ≤ x) (h1 : x ≤ 18446744073709551615) : 1 ≤ bitLen x.toNat ∧ bitLen x.toNat ≤ 64 := by
  obtain ⟨a, b⟩ := bitLen_spec x.toNat
  have b := b (by omega)
  constructor
  · rcases Nat.eq_zero_or_pos (bitLen x.toNat) with h | h
    · rw [h] at a; omega
    · exact h
  · rcases Nat.lt_or_ge 64 (bitLen x.toNat) with h | h
    · have : 2 ^ 64 ≤ 2 ^ (bitLen x.toNat - 1) := Nat.pow_le_pow_right (by omega) (by omega)
      omega
    · exact h

/-- y brought up to its highest bit. -/
theorem norm_rng (y : Int) (h0 : 1 ≤ y) (h1 : y ≤ 18446744073709551615) : 9223372036854775808 ≤ y * 2 ^ (64 - bitLen y.toNat) ∧ y * 2 ^ (64 - bitLen y.toNat) ≤ 18446744073709551615 := by
  obtain ⟨r0, r1⟩ := bitLen_rng y h0 h1
  obtain ⟨a, b⟩ := bitLen_spec y.toNat
  have b := b (by omega)
  obtain ⟨Y, rfl⟩ := Int.eq_ofNat_of_zero_le (show 0 ≤ y by omega)
  rw [Int.toNat_natCast] at *
  generalize bitLen Y = n at *
  have e1 : 2 ^ (n - 1) * 2 ^ (64 - n) = 2 ^ 63 := by rw [← Nat.pow_add]; congr 1; omega
  have e2 : 2 ^ n * 2 ^ (64 - n) = 2 ^ 64 := by rw [← Nat.pow_add]; congr 1; omega
  have g1 := Nat.mul_le_mul_right (2 ^ (64 - n)) b
  have g2 := Nat.mul_lt_mul_of_pos_right a (show 0 < 2 ^ (64 - n) from Nat.two_pow_pos _)
  have e3 : (Y : Int) * 2 ^ (64 - n) = ((Y * 2 ^ (64 - n) : Nat) : Int) := by rw [Int.natCast_mul, Int.natCast_pow]; rfl
  rw [e3]
  omega

end Go.Proofs.Ytfcneciknldohaa
/-
  The contract of math/bits.Div64 where the high word is not nought: the walk, over the names of its words.
-/
set_option linter.unusedVariables false
set_option linter.unusedSimpArgs false
namespace Go.Proofs.Ytfcneciknldohaa
open Go.RowKit

theorem wrap_dec (q : Int) (q0 : 1 ≤ q) (q1 : q ≤ 18446744073709551615) : IntKind.u64.wrap (q - 1) = q - 1 := by rw [IntKind.wrap_u64]; omega

end Go.Proofs.Ytfcneciknldohaa
/-
  The contracts of math/bits.Div64 and of regatta/wide's Quo, at every number.
-/
set_option linter.unusedVariables false
set_option linter.unusedSimpArgs false
namespace Go.Proofs.Ytfcneciknldohaa
open Go.RowKit

theorem or_u64' (X Y : Int) (n : Nat) (hn : n ≤ 64) (hX : X % 2 ^ n = 0) (x0 : 0 ≤ X) (x1 : X < 18446744073709551616) (h0 : 0 ≤ Y) (h1 : Y < 2 ^ n) (hs : X + Y < 18446744073709551616) : bits .or .u64 X Y = X + Y := by
  have hc : bits .or .u64 X Y = bits .or .u64 Y X := by simp only [bits, BitVec.or_comm]
  rw [hc, or_u64 X Y n hn hX x0 x1 h0 h1 hs, Int.add_comm]

end Go.Proofs.Ytfcneciknldohaa
