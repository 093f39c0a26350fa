/-
  The contracts of math/bits.Div64 and of regatta/wide's Quo, at every number.
-/
import Derived.Test.YtpmlpcejmndidabDoorWalkK
import Derived.Test.YtpmlpcejmndidabDoorTools
set_option linter.unusedVariables false
set_option linter.unusedSimpArgs false
namespace Go.Proofs.YtpmlpcejmndidabDoor
open Go.RowKit

theorem or_u64' (X Y : Int) (n : Nat) (hn : n ≤ 64) (hX : X % 2 ^ n = 0) (x0 : 0 ≤ X) (x1 : X < 18446744073709551616) (h0 : 0 ≤ Y) (h1 : Y < 2 ^ n) (hs : X + Y < 18446744073709551616) : bits .or .u64 X Y = X + Y := by
  have hc : bits .or .u64 X Y = bits .or .u64 Y X := by simp only [bits, BitVec.or_comm]
  rw [hc, or_u64 X Y n hn hX x0 x1 h0 h1 hs, Int.add_comm]

theorem div64_any (h l y : Int) (h0 : 0 ≤ h) (hy : h < y) (l0 : 0 ≤ l) (l1 : l ≤ 18446744073709551615) (y1 : y ≤ 18446744073709551615) : DivAt h l y := by
  by_cases hz : h = 0
  · subst hz
    exact div64_zero l y l0 l1 (by omega) y1
  · intro w
    obtain ⟨b0, b1⟩ := bitLen_rng y (by omega) y1
    obtain ⟨v0, v1⟩ := norm_rng y (by omega) y1
    have L := fun W => lz64_any y (by omega) y1 W
    obtain ⟨s, hs⟩ : ∃ s : Nat, 64 - bitLen y.toNat = s := ⟨_, rfl⟩
    rw [hs] at v0 v1
    have hs1 : s ≤ 63 := by omega
    have L' : ∀ W : World, Calls Tryd.prog 90 #[.int .u64 y] W fun e w' => e = .returned (.int .i64 (s : Int)) ∧ w' = W := by
      intro W
      have := L W
      rw [show (64 : Int) - ((bitLen y.toNat : Nat) : Int) = (s : Int) by omega] at this
      exact this
    clear L
    have hB := pow_split s (by omega)
    have hp := pow_pos' s
    have hq := pow_pos' (64 - s)
    obtain ⟨ub, ub2⟩ := up_below h l y _ _ hB hp hq hy h0 l0 l1
    obtain ⟨eN, d0, d1⟩ := up_words h l _ _ hB hp hq h0 l0 l1 (by omega)
    have hh0 : 0 ≤ h * 2 ^ s := Int.mul_nonneg h0 (by omega)
    have r1 : IntKind.u64.wrap (y * 2 ^ s) = y * 2 ^ s := by rw [IntKind.wrap_u64]; omega
    have r3 : bits .and .u64 (y * 2 ^ s) 4294967295 = y * 2 ^ s % 4294967296 := and_low32 _ (by omega) (by omega)
    have r4 : bits .or .u64 (IntKind.u64.wrap (h * 2 ^ s)) (l / 2 ^ (64 - s)) = h * 2 ^ s + l / 2 ^ (64 - s) := by
      rw [IntKind.wrap_u64, show h * 2 ^ s % 18446744073709551616 = h * 2 ^ s by omega]
      exact or_u64' _ _ s (by omega) (Int.mul_emod_left _ _) hh0 (by omega) d0 d1 (by omega)
    have r5 : IntKind.u64.wrap (l * 2 ^ s) = l * 2 ^ s % 18446744073709551616 := IntKind.wrap_u64 _
    have r7 : bits .and .u64 (l * 2 ^ s % 18446744073709551616) 4294967295 = l * 2 ^ s % 18446744073709551616 % 4294967296 := and_low32 _ (by omega) (by omega)
    have g : KG (y * 2 ^ s) (y * 2 ^ s / 4294967296) (y * 2 ^ s % 4294967296) (h * 2 ^ s + l / 2 ^ (64 - s)) (l * 2 ^ s % 18446744073709551616 / 4294967296) :=
      ⟨v0, v1, by omega, by omega, by omega, by omega, ub, by omega, by omega⟩
    have C := div64_core h l y s _ _ _ _ _ _ _ (by omega) hy hs1 r1 rfl r3 r4 r5 rfl r7 g (by omega) (by omega) L' w
    obtain ⟨f1, f2⟩ := two_steps (h * 18446744073709551616 + l) y (2 ^ s) (y * 2 ^ s) (h * 2 ^ s + l / 2 ^ (64 - s)) (l * 2 ^ s % 18446744073709551616) (l * 2 ^ s % 18446744073709551616 / 4294967296) (l * 2 ^ s % 18446744073709551616 % 4294967296) hp (by omega) rfl eN (by omega)
    rw [← f1, ← f2, Int.mul_ediv_cancel _ (by omega)] at C
    exact C

theorem quo_any (v d : Int) (v0 : -170141183460469231731687303715884105728 ≤ v) (v1 : v ≤ 170141183460469231731687303715884105727) (d0 : -9223372036854775808 ≤ d) (d1 : d ≤ 9223372036854775807) (hd : d ≠ 0) (w : World) :
    Calls Tryd.prog 76 #[.agg #[.int .i64 (hi v), .int .u64 (lo v)], .int .i64 d] w fun e w' => e = .returned (.tuple #[.agg #[.int .i64 (hi (quo v d)), .int .u64 (lo (quo v d))], .bool true]) ∧ Below w.heap.size w w' := by
  obtain ⟨b0, b1⟩ := ab_d d d0 d1 hd
  have a0 := ab_ge v
  have a1 := ab_le v v0 v1
  have m0 := Int.emod_nonneg (ab v / 18446744073709551616) (show ab d ≠ 0 by omega)
  have m1 := Int.emod_lt_of_pos (ab v / 18446744073709551616) (show 0 < ab d by omega)
  exact quo_of v d v0 v1 d0 d1 hd (div64_any _ _ _ (by omega) (by omega) (by omega) (by omega) (by omega)) (div64_any _ _ _ m0 m1 (lo_ge _) (lo_le _) (by omega)) w

end Go.Proofs.YtpmlpcejmndidabDoor
