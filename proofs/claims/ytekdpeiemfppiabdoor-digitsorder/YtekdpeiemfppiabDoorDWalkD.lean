/-
  The contract of regattaref03's Int.
-/
import Derived.Test.YtekdpeiemfppiabDoorDWalkC
import Derived.Test.YtekdpeiemfppiabDoorSWalkC
set_option linter.unusedVariables false
set_option linter.unusedSimpArgs false
namespace Go.Proofs.YtekdpeiemfppiabDoor
open Go.RowKit

/-- The number that digits make. -/
def num (l : List UInt8) : Nat := l.foldl (fun n b => 10 * n + (b.toNat - 48)) 0
theorem num_take (l : List UInt8) (j : Nat) (hj : j < l.length) : num (l.take (j + 1)) = 10 * num (l.take j) + (gb l j - 48) := by
  unfold num
  rw [List.take_add_one, List.foldl_append]
  have : l[j]? = some l[j] := List.getElem?_eq_getElem hj
  rw [this]
  have e : gb l j = (l[j]'hj).toNat := by unfold gb; simp [List.getD, hj]
  rw [e]
  rfl
theorem num_mono (l : List UInt8) (j k : Nat) (hjk : j ≤ k) (hk : k ≤ l.length) : num (l.take j) ≤ num (l.take k) := by
  induction k with
  | zero =>
    obtain rfl : j = 0 := by omega
    exact Nat.le_refl _
  | succ k ih =>
    rcases Nat.lt_or_ge j (k + 1) with h | h
    · have h1 := ih (by omega) (by omega)
      have h2 := num_take l k (by omega)
      omega
    · obtain rfl : j = k + 1 := by omega
      exact Nat.le_refl _
theorem num_step (l : List UInt8) (j : Nat) (hj : j < l.length) : 10 * num (l.take j) ≤ num l := by
  have h1 := num_take l j hj
  have h2 := num_mono l (j + 1) l.length (by omega) (Nat.le_refl _)
  rw [List.take_length] at h2
  omega
theorem isD_at (l : List UInt8) (h : isD l = true) (j : Nat) (hj : j < l.length) : 48 ≤ gb l j ∧ gb l j ≤ 57 := by
  unfold isD at h
  rw [Bool.and_eq_true] at h
  have := (all_gb l).1 h.1 j hj
  unfold isd at this
  simp at this
  exact this
theorem isD_ne (l : List UInt8) (h : isD l = true) : l ≠ [] := by
  intro h0
  subst h0
  exact absurd h (by decide)
theorem bs_toList (l : List UInt8) : (bs l).toList = l := ByteArray.toList_mk l
/-- Is it a whole number's text? -/
def iOk (l : List UInt8) : Bool := pO l && pW l && !decide (l = [45, 48])
/-- The whole number. -/
def iV (l : List UInt8) : Int := if pB l = true then -(num (pA l) : Int) else (num (pA l) : Int)
def iX (l : List UInt8) : Int := if iOk l = true then (if ovv (iV l) = true then 0 else iV l) else 0
def iE (l : List UInt8) : Int := if iOk l = true then (if ovv (iV l) = true then 3 else 0) else 30

end Go.Proofs.YtekdpeiemfppiabDoor
