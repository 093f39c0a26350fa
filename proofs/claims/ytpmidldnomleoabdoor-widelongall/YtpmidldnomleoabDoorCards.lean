/-
  DERIVED. GIVEN WITH THE SEED: THE CARDS: each row of YtpmidldnomleoabDoorRows.lean that lists a variable, with what it lists TIED to the program's text (the seventh form; the later family's looks); each row that meets fmt, with fmt's text TOLD by the authors' own Lean function (tested against real Go, not proved from fmt's source: count such statements apart). THE CARD IS WHAT COUNTS. Prove the row's statement (the work); the ties are given (YtpmidldnomleoabDoorTie.lean); close each card by the builder's one call (the guide's Derived/Test/ToyasCard.lean, 'card_holds'). Laid BY PROGRAM, IN A SANDBOX (cutbox-door.mjs). By AI agents, Wed Nov 11 2026. No macro, syntax, notation, axiom, sorry.
-/
import Derived.Test.YtpmidldnomleoabDoorRows
import GoSem.ClaimSeven
namespace Go.Proofs.YtpmidldnomleoabDoor
namespace Rows

/-- THE TIED CARD OF 'regattalaw01.WideLongAll'. -/
def wideLongAllCard : Claim7 := { stood := { row := wideLongAllRow, standIns := [], harness := (true, "56a6b1784934684b7967fd4d289be1383377b4c00cf6af9763b51efccb21aed2"), looks := false }, kinds := [], alts := [], laidByText := true, laidKinds := [.data], laidTests := true, laidLooks := .later }
def WideLongAllCardSaid : Prop := Claim7.holds Tryd.pinned (.plain (OpenSpec.ofChange wideLongAllSpec)) wideLongAllCard

/-- THE SECOND FORM's CARD OF 'regattalaw01.WideLongAll'. -/
def wideLongAllUptoCard : Claim7 := { stood := { row := wideLongAllUptoRow, standIns := [], harness := (true, "56a6b1784934684b7967fd4d289be1383377b4c00cf6af9763b51efccb21aed2"), looks := false }, kinds := [], alts := [], laidByText := true, laidKinds := [.data], laidTests := true, laidLooks := .later }
def WideLongAllUptoCardSaid : Prop := Claim7.holds Tryd.pinned (.plain (OpenSpec.upto wideLongAllSpec)) wideLongAllUptoCard
end Rows
end Go.Proofs.YtpmidldnomleoabDoor
