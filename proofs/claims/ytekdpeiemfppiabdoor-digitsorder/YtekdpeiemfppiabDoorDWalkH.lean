/-
  The contract of regattaref03's Parse, of any text.
-/
import Derived.Test.YtekdpeiemfppiabDoorDWalkG
set_option linter.unusedVariables false
set_option linter.unusedSimpArgs false
namespace Go.Proofs.YtekdpeiemfppiabDoor
open Go.RowKit

/-- What stands behind the point. -/
def bE (l : List UInt8) : List UInt8 := if pW l = true then [] else pE l
/-- The number of steps that a text says. -/
def pV (l : List UInt8) : Int := if pB l = true then -((rq (num (pA l ++ bE l) * 4294967296) (bE l).length : Nat) : Int) else ((rq (num (pA l ++ bE l) * 4294967296) (bE l).length : Nat) : Int)
/-- Is it too long? -/
def pL (l : List UInt8) : Bool := decide (20 < (pA l).length) || decide (40 < (bE l).length)
def prX (l : List UInt8) : Int := if pOk l = true then (if pL l = true then 0 else clv (pV l)) else 0
def prH (l : List UInt8) : Bool := if pOk l = true then (if pL l = true then false else ovv (pV l)) else false
def prE (l : List UInt8) : Int := if pOk l = true then (if pL l = true then 31 else 0) else 30
theorem pOk_no (l : List UInt8) (h : pOk l = false) : prX l = 0 ∧ prH l = false ∧ prE l = 30 := by
  unfold prX prH prE
  rw [h]
  exact ⟨rfl, rfl, rfl⟩
theorem pOk_long (l : List UInt8) (h : pOk l = true) (h2 : pL l = true) : prX l = 0 ∧ prH l = false ∧ prE l = 31 := by
  unfold prX prH prE
  rw [h, h2]
  exact ⟨rfl, rfl, rfl⟩
theorem pOk_good (l : List UInt8) (h : pOk l = true) (h2 : pL l = false) : prX l = clv (pV l) ∧ prH l = ovv (pV l) ∧ prE l = 0 := by
  unfold prX prH prE
  rw [h, h2]
  exact ⟨rfl, rfl, rfl⟩

end Go.Proofs.YtekdpeiemfppiabDoor
