/-
  DERIVED. GIVEN WITH THE SEED: THE CARDS: each row of YtldnnjcfihjkdabDoorRows.lean that lists a variable, with what it lists TIED to the program's text (the seventh form; the later family's looks); each row that meets fmt, with fmt's text TOLD by the authors' own Lean function (tested against real Go, not proved from fmt's source: count such statements apart). THE CARD IS WHAT COUNTS. Prove the row's statement (the work); the ties are given (YtldnnjcfihjkdabDoorTie.lean); close each card by the builder's one call (the guide's Derived/Test/ToyasCard.lean, 'card_holds'). Laid BY PROGRAM, IN A SANDBOX (cutbox-door.mjs). By AI agents, Wed Nov 11 2026. No macro, syntax, notation, axiom, sorry.
-/
import Derived.Test.YtldnnjcfihjkdabDoorRows
import GoSem.ClaimSeven
namespace Go.Proofs.YtldnnjcfihjkdabDoor
namespace Rows

/-- THE TIED CARD OF 'regattalaw04.VecLimits'. -/
def vecLimitsCard : Claim7 := { stood := { row := vecLimitsRow, standIns := [], harness := (true, "d43010004de527009ac45ea13c90237b64f0119e0f4663872d0b61f229ced091"), looks := false }, kinds := [], alts := [], laidByText := true, laidKinds := [.data], laidTests := true, laidLooks := .later }
def VecLimitsCardSaid : Prop := Claim7.holds Tryd.pinned (.plain (OpenSpec.ofChange vecLimitsSpec)) vecLimitsCard

/-- THE TIED CARD OF 'regattalaw04.VecTurned'. -/
def vecTurnedCard : Claim7 := { stood := { row := vecTurnedRow, standIns := [], harness := (true, "d43010004de527009ac45ea13c90237b64f0119e0f4663872d0b61f229ced091"), looks := false }, kinds := [], alts := [], laidByText := true, laidKinds := [.data], laidTests := true, laidLooks := .later }
def VecTurnedCardSaid : Prop := Claim7.holds Tryd.pinned (.plain (OpenSpec.ofChange vecTurnedSpec)) vecTurnedCard

/-- THE TIED CARD OF 'regattalaw04.VecRows'. -/
def vecRowsCard : Claim7 := { stood := { row := vecRowsRow, standIns := [], harness := (true, "d43010004de527009ac45ea13c90237b64f0119e0f4663872d0b61f229ced091"), looks := false }, kinds := [], alts := [], laidByText := true, laidKinds := [.data], laidTests := true, laidLooks := .later }
def VecRowsCardSaid : Prop := Claim7.holds Tryd.pinned (.plain (OpenSpec.ofChange vecRowsSpec)) vecRowsCard

/-- THE TIED CARD OF 'regattalaw04.VecShorter'. -/
def vecShorterCard : Claim7 := { stood := { row := vecShorterRow, standIns := [], harness := (true, "d43010004de527009ac45ea13c90237b64f0119e0f4663872d0b61f229ced091"), looks := false }, kinds := [], alts := [], laidByText := true, laidKinds := [.data], laidTests := true, laidLooks := .later }
def VecShorterCardSaid : Prop := Claim7.holds Tryd.pinned (.plain (OpenSpec.ofChange vecShorterSpec)) vecShorterCard

/-- THE TIED CARD OF 'regattalaw04.VecAlone'. -/
def vecAloneCard : Claim7 := { stood := { row := vecAloneRow, standIns := [], harness := (true, "d43010004de527009ac45ea13c90237b64f0119e0f4663872d0b61f229ced091"), looks := false }, kinds := [], alts := [], laidByText := true, laidKinds := [.data], laidTests := true, laidLooks := .later }
def VecAloneCardSaid : Prop := Claim7.holds Tryd.pinned (.plain (OpenSpec.ofChange vecAloneSpec)) vecAloneCard

/-- THE SECOND FORM's CARD OF 'regattalaw04.VecLimits'. -/
def vecLimitsUptoCard : Claim7 := { stood := { row := vecLimitsUptoRow, standIns := [], harness := (true, "d43010004de527009ac45ea13c90237b64f0119e0f4663872d0b61f229ced091"), looks := false }, kinds := [], alts := [], laidByText := true, laidKinds := [.data], laidTests := true, laidLooks := .later }
def VecLimitsUptoCardSaid : Prop := Claim7.holds Tryd.pinned (.plain (OpenSpec.upto vecLimitsSpec)) vecLimitsUptoCard

/-- THE SECOND FORM's CARD OF 'regattalaw04.VecTurned'. -/
def vecTurnedUptoCard : Claim7 := { stood := { row := vecTurnedUptoRow, standIns := [], harness := (true, "d43010004de527009ac45ea13c90237b64f0119e0f4663872d0b61f229ced091"), looks := false }, kinds := [], alts := [], laidByText := true, laidKinds := [.data], laidTests := true, laidLooks := .later }
def VecTurnedUptoCardSaid : Prop := Claim7.holds Tryd.pinned (.plain (OpenSpec.upto vecTurnedSpec)) vecTurnedUptoCard

/-- THE SECOND FORM's CARD OF 'regattalaw04.VecRows'. -/
def vecRowsUptoCard : Claim7 := { stood := { row := vecRowsUptoRow, standIns := [], harness := (true, "d43010004de527009ac45ea13c90237b64f0119e0f4663872d0b61f229ced091"), looks := false }, kinds := [], alts := [], laidByText := true, laidKinds := [.data], laidTests := true, laidLooks := .later }
def VecRowsUptoCardSaid : Prop := Claim7.holds Tryd.pinned (.plain (OpenSpec.upto vecRowsSpec)) vecRowsUptoCard

/-- THE SECOND FORM's CARD OF 'regattalaw04.VecShorter'. -/
def vecShorterUptoCard : Claim7 := { stood := { row := vecShorterUptoRow, standIns := [], harness := (true, "d43010004de527009ac45ea13c90237b64f0119e0f4663872d0b61f229ced091"), looks := false }, kinds := [], alts := [], laidByText := true, laidKinds := [.data], laidTests := true, laidLooks := .later }
def VecShorterUptoCardSaid : Prop := Claim7.holds Tryd.pinned (.plain (OpenSpec.upto vecShorterSpec)) vecShorterUptoCard

/-- THE SECOND FORM's CARD OF 'regattalaw04.VecAlone'. -/
def vecAloneUptoCard : Claim7 := { stood := { row := vecAloneUptoRow, standIns := [], harness := (true, "d43010004de527009ac45ea13c90237b64f0119e0f4663872d0b61f229ced091"), looks := false }, kinds := [], alts := [], laidByText := true, laidKinds := [.data], laidTests := true, laidLooks := .later }
def VecAloneUptoCardSaid : Prop := Claim7.holds Tryd.pinned (.plain (OpenSpec.upto vecAloneSpec)) vecAloneUptoCard
end Rows
end Go.Proofs.YtldnnjcfihjkdabDoor
