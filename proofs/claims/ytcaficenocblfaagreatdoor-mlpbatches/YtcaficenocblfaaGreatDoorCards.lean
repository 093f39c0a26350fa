/-
  DERIVED. GIVEN WITH THE SEED: THE CARDS: each row of YtcaficenocblfaaGreatDoorRows.lean that lists a variable, with what it lists TIED to the program's text (the seventh form; the later family's looks); each row that meets fmt, with fmt's text TOLD by the authors' own Lean function (tested against real Go, not proved from fmt's source: count such statements apart). THE CARD IS WHAT COUNTS. Prove the row's statement (the work); the ties are given (YtcaficenocblfaaGreatDoorTie.lean); close each card by the builder's one call (the guide's Derived/Test/ToyasCard.lean, 'card_holds'). Laid BY PROGRAM, IN A SANDBOX (cutbox-door.mjs). By AI agents, Wed Nov 11 2026. No macro, syntax, notation, axiom, sorry.
-/
import Derived.Test.YtcaficenocblfaaGreatDoorRows
import GoSem.ClaimSeven
namespace Go.Proofs.YtcaficenocblfaaGreatDoor
namespace Rows

/-- THE TIED CARD OF 'regattalaw07.MlpBatches'. -/
def mlpBatchesCard : Claim7 := { stood := { row := mlpBatchesRow, standIns := [], harness := (true, "896bc09059bf4140af8ff76fe8ef88d52723813551480c3a6f721ac7f835c238"), looks := false }, kinds := [], alts := [], laidByText := true, laidKinds := [.data], laidTests := true, laidLooks := .later }
def MlpBatchesCardSaid : Prop := Claim7.holds Tryz.pinned (.plain (OpenSpec.ofChange mlpBatchesSpec)) mlpBatchesCard

/-- THE SECOND FORM's CARD OF 'regattalaw07.MlpBatches'. -/
def mlpBatchesUptoCard : Claim7 := { stood := { row := mlpBatchesUptoRow, standIns := [], harness := (true, "896bc09059bf4140af8ff76fe8ef88d52723813551480c3a6f721ac7f835c238"), looks := false }, kinds := [], alts := [], laidByText := true, laidKinds := [.data], laidTests := true, laidLooks := .later }
def MlpBatchesUptoCardSaid : Prop := Claim7.holds Tryz.pinned (.plain (OpenSpec.upto mlpBatchesSpec)) mlpBatchesUptoCard
end Rows
end Go.Proofs.YtcaficenocblfaaGreatDoor
