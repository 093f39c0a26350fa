/-
  DERIVED. GIVEN WITH THE SEED: THE CARDS: each row of YtpmlpcejmndidabDoorRows.lean that lists a variable, with what it lists TIED to the program's text (the seventh form; the later family's looks); each row that meets fmt, with fmt's text TOLD by the authors' own Lean function (tested against real Go, not proved from fmt's source: count such statements apart). THE CARD IS WHAT COUNTS. Prove the row's statement (the work); the ties are given (YtpmlpcejmndidabDoorTie.lean); close each card by the builder's one call (the guide's Derived/Test/ToyasCard.lean, 'card_holds'). Laid BY PROGRAM, IN A SANDBOX (cutbox-door.mjs). By AI agents, Wed Nov 11 2026. No macro, syntax, notation, axiom, sorry.
-/
import Derived.Test.YtpmlpcejmndidabDoorRows
import GoSem.ClaimSeven
namespace Go.Proofs.YtpmlpcejmndidabDoor
namespace Rows

/-- THE TIED CARD OF 'regattalaw02.FixUnits'. -/
def fixUnitsCard : Claim7 := { stood := { row := fixUnitsRow, standIns := [], harness := (true, "0e1e70773f0c1c9e7779d71c68c25ad53f8f2cf5981d65ece0bbf168a58fbf5d"), looks := false }, kinds := [], alts := [], laidByText := true, laidKinds := [.data], laidTests := true, laidLooks := .later }
def FixUnitsCardSaid : Prop := Claim7.holds Tryd.pinned (.plain (OpenSpec.ofChange fixUnitsSpec)) fixUnitsCard

/-- THE SECOND FORM's CARD OF 'regattalaw02.FixUnits'. -/
def fixUnitsUptoCard : Claim7 := { stood := { row := fixUnitsUptoRow, standIns := [], harness := (true, "0e1e70773f0c1c9e7779d71c68c25ad53f8f2cf5981d65ece0bbf168a58fbf5d"), looks := false }, kinds := [], alts := [], laidByText := true, laidKinds := [.data], laidTests := true, laidLooks := .later }
def FixUnitsUptoCardSaid : Prop := Claim7.holds Tryd.pinned (.plain (OpenSpec.upto fixUnitsSpec)) fixUnitsUptoCard
end Rows
end Go.Proofs.YtpmlpcejmndidabDoor
