/-
  DERIVED. GIVEN WITH THE SEED: THE CARDS: each row of YtdfjnbkkdgolnaaGreatDoorRows.lean that lists a variable, with what it lists TIED to the program's text (the seventh form; the later family's looks); each row that meets fmt, with fmt's text TOLD by the authors' own Lean function (tested against real Go, not proved from fmt's source: count such statements apart). THE CARD IS WHAT COUNTS. Prove the row's statement (the work); the ties are given (YtdfjnbkkdgolnaaGreatDoorTie.lean); close each card by the builder's one call (the guide's Derived/Test/ToyasCard.lean, 'card_holds'). Laid BY PROGRAM, IN A SANDBOX (cutbox-door.mjs). By AI agents, Wed Nov 11 2026. No macro, syntax, notation, axiom, sorry.
-/
import Derived.Test.YtdfjnbkkdgolnaaGreatDoorRows
import GoSem.ClaimSeven
namespace Go.Proofs.YtdfjnbkkdgolnaaGreatDoor
namespace Rows

/-- THE TIED CARD OF 'regattalaw07.MlpCounts'. -/
def mlpCountsCard : Claim7 := { stood := { row := mlpCountsRow, standIns := [], harness := (true, "32aac2bdde5a21d03bd6177f6e246fd32e4085623a0840d0cadaa99dd5c0e05f"), looks := false }, kinds := [], alts := [], laidByText := true, laidKinds := [.data], laidTests := true, laidLooks := .later }
def MlpCountsCardSaid : Prop := Claim7.holds Tryz.pinned (.plain (OpenSpec.ofChange mlpCountsSpec)) mlpCountsCard

/-- THE TIED CARD OF 'regattalaw07.MlpInits'. -/
def mlpInitsCard : Claim7 := { stood := { row := mlpInitsRow, standIns := [], harness := (true, "32aac2bdde5a21d03bd6177f6e246fd32e4085623a0840d0cadaa99dd5c0e05f"), looks := false }, kinds := [], alts := [], laidByText := true, laidKinds := [.data], laidTests := true, laidLooks := .later }
def MlpInitsCardSaid : Prop := Claim7.holds Tryz.pinned (.plain (OpenSpec.ofChange mlpInitsSpec)) mlpInitsCard

/-- THE TIED CARD OF 'regattalaw07.MlpForward'. -/
def mlpForwardCard : Claim7 := { stood := { row := mlpForwardRow, standIns := [], harness := (true, "32aac2bdde5a21d03bd6177f6e246fd32e4085623a0840d0cadaa99dd5c0e05f"), looks := false }, kinds := [], alts := [], laidByText := true, laidKinds := [.data], laidTests := true, laidLooks := .later }
def MlpForwardCardSaid : Prop := Claim7.holds Tryz.pinned (.plain (OpenSpec.ofChange mlpForwardSpec)) mlpForwardCard

/-- THE TIED CARD OF 'regattalaw07.MlpLosses'. -/
def mlpLossesCard : Claim7 := { stood := { row := mlpLossesRow, standIns := [], harness := (true, "32aac2bdde5a21d03bd6177f6e246fd32e4085623a0840d0cadaa99dd5c0e05f"), looks := false }, kinds := [], alts := [], laidByText := true, laidKinds := [.data], laidTests := true, laidLooks := .later }
def MlpLossesCardSaid : Prop := Claim7.holds Tryz.pinned (.plain (OpenSpec.ofChange mlpLossesSpec)) mlpLossesCard

/-- THE TIED CARD OF 'regattalaw07.MlpGradients'. -/
def mlpGradientsCard : Claim7 := { stood := { row := mlpGradientsRow, standIns := [], harness := (true, "32aac2bdde5a21d03bd6177f6e246fd32e4085623a0840d0cadaa99dd5c0e05f"), looks := false }, kinds := [], alts := [], laidByText := true, laidKinds := [.data], laidTests := true, laidLooks := .later }
def MlpGradientsCardSaid : Prop := Claim7.holds Tryz.pinned (.plain (OpenSpec.ofChange mlpGradientsSpec)) mlpGradientsCard

/-- THE TIED CARD OF 'regattalaw07.MlpBatches'. -/
def mlpBatchesCard : Claim7 := { stood := { row := mlpBatchesRow, standIns := [], harness := (true, "32aac2bdde5a21d03bd6177f6e246fd32e4085623a0840d0cadaa99dd5c0e05f"), looks := false }, kinds := [], alts := [], laidByText := true, laidKinds := [.data], laidTests := true, laidLooks := .later }
def MlpBatchesCardSaid : Prop := Claim7.holds Tryz.pinned (.plain (OpenSpec.ofChange mlpBatchesSpec)) mlpBatchesCard

/-- THE SECOND FORM's CARD OF 'regattalaw07.MlpCounts'. -/
def mlpCountsUptoCard : Claim7 := { stood := { row := mlpCountsUptoRow, standIns := [], harness := (true, "32aac2bdde5a21d03bd6177f6e246fd32e4085623a0840d0cadaa99dd5c0e05f"), looks := false }, kinds := [], alts := [], laidByText := true, laidKinds := [.data], laidTests := true, laidLooks := .later }
def MlpCountsUptoCardSaid : Prop := Claim7.holds Tryz.pinned (.plain (OpenSpec.upto mlpCountsSpec)) mlpCountsUptoCard

/-- THE SECOND FORM's CARD OF 'regattalaw07.MlpInits'. -/
def mlpInitsUptoCard : Claim7 := { stood := { row := mlpInitsUptoRow, standIns := [], harness := (true, "32aac2bdde5a21d03bd6177f6e246fd32e4085623a0840d0cadaa99dd5c0e05f"), looks := false }, kinds := [], alts := [], laidByText := true, laidKinds := [.data], laidTests := true, laidLooks := .later }
def MlpInitsUptoCardSaid : Prop := Claim7.holds Tryz.pinned (.plain (OpenSpec.upto mlpInitsSpec)) mlpInitsUptoCard

/-- THE SECOND FORM's CARD OF 'regattalaw07.MlpForward'. -/
def mlpForwardUptoCard : Claim7 := { stood := { row := mlpForwardUptoRow, standIns := [], harness := (true, "32aac2bdde5a21d03bd6177f6e246fd32e4085623a0840d0cadaa99dd5c0e05f"), looks := false }, kinds := [], alts := [], laidByText := true, laidKinds := [.data], laidTests := true, laidLooks := .later }
def MlpForwardUptoCardSaid : Prop := Claim7.holds Tryz.pinned (.plain (OpenSpec.upto mlpForwardSpec)) mlpForwardUptoCard

/-- THE SECOND FORM's CARD OF 'regattalaw07.MlpLosses'. -/
def mlpLossesUptoCard : Claim7 := { stood := { row := mlpLossesUptoRow, standIns := [], harness := (true, "32aac2bdde5a21d03bd6177f6e246fd32e4085623a0840d0cadaa99dd5c0e05f"), looks := false }, kinds := [], alts := [], laidByText := true, laidKinds := [.data], laidTests := true, laidLooks := .later }
def MlpLossesUptoCardSaid : Prop := Claim7.holds Tryz.pinned (.plain (OpenSpec.upto mlpLossesSpec)) mlpLossesUptoCard

/-- THE SECOND FORM's CARD OF 'regattalaw07.MlpGradients'. -/
def mlpGradientsUptoCard : Claim7 := { stood := { row := mlpGradientsUptoRow, standIns := [], harness := (true, "32aac2bdde5a21d03bd6177f6e246fd32e4085623a0840d0cadaa99dd5c0e05f"), looks := false }, kinds := [], alts := [], laidByText := true, laidKinds := [.data], laidTests := true, laidLooks := .later }
def MlpGradientsUptoCardSaid : Prop := Claim7.holds Tryz.pinned (.plain (OpenSpec.upto mlpGradientsSpec)) mlpGradientsUptoCard

/-- THE SECOND FORM's CARD OF 'regattalaw07.MlpBatches'. -/
def mlpBatchesUptoCard : Claim7 := { stood := { row := mlpBatchesUptoRow, standIns := [], harness := (true, "32aac2bdde5a21d03bd6177f6e246fd32e4085623a0840d0cadaa99dd5c0e05f"), looks := false }, kinds := [], alts := [], laidByText := true, laidKinds := [.data], laidTests := true, laidLooks := .later }
def MlpBatchesUptoCardSaid : Prop := Claim7.holds Tryz.pinned (.plain (OpenSpec.upto mlpBatchesSpec)) mlpBatchesUptoCard
end Rows
end Go.Proofs.YtdfjnbkkdgolnaaGreatDoor
