/-
  Plain facts on texts: the chapter's examples; a string and its list of bytes.
-/
import Derived.Test.YtekdpeiemfppiabDoorDWalkB
import Derived.Test.YtekdpeiemfppiabDoorDWalkH
set_option linter.unusedVariables false
set_option linter.unusedSimpArgs false
namespace Go.Proofs.YtekdpeiemfppiabDoor

theorem bs_back (s : ByteArray) : bs s.data.toList = s := by unfold bs; simp
theorem bs_len (s : ByteArray) : s.data.toList.length = s.size := Array.length_toList
/-- The digits behind the point, one by one. -/
def flg : Nat → Nat → List UInt8
  | 0, _ => []
  | k + 1, r => if r = 0 then [] else UInt8.ofNat (48 + 10 * r / 4294967296) :: flg k (10 * r % 4294967296)
theorem flf_flg (k r : Nat) (hr : r < 4294967296) : flf k r = flg k r := by
  induction k generalizing r with
  | zero => rfl
  | succ k ih =>
    by_cases h : r = 0
    · subst h; rfl
    · rw [flf_succ k r h, dl_lt _ (by omega), ih _ (Nat.mod_lt _ (by omega))]
      show _ = if r = 0 then [] else _
      rw [if_neg h]
      rfl
theorem text_m1 : tl (-1) = [45, 48, 46, 48, 48, 48, 48, 48, 48, 48, 48, 48, 50, 51, 50, 56, 51, 48, 54, 52, 51, 54, 53, 51, 56, 54, 57, 54, 50, 56, 57, 48, 54, 50, 53] := by
  unfold tl
  have h1 : (-1 : Int).natAbs = 1 := rfl
  rw [h1, dl_lt _ (by decide), flf_flg 33 _ (by decide)]
  decide +kernel
theorem parse_01 : prX [48, 46, 49] = 429496730 ∧ prH [48, 46, 49] = false ∧ prE [48, 46, 49] = 0 := by decide +kernel
theorem parse_big : prX [50, 49, 52, 55, 52, 56, 51, 54, 52, 56] = 9223372036854775807 ∧ prH [50, 49, 52, 55, 52, 56, 51, 54, 52, 56] = true ∧ prE [50, 49, 52, 55, 52, 56, 51, 54, 52, 56] = 0 := by decide +kernel
theorem parse_1p : prX [49, 46] = 0 ∧ prH [49, 46] = false ∧ prE [49, 46] = 30 := by decide +kernel
end Go.Proofs.YtekdpeiemfppiabDoor
