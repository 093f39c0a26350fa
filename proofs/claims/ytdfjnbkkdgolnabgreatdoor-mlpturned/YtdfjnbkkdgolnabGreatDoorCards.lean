/-
  DERIVED. GIVEN WITH THE SEED: THE CARDS: each row of YtdfjnbkkdgolnabGreatDoorRows.lean that lists a variable, with what it lists TIED to the program's text (the seventh form; the later family's looks); each row that meets fmt, with fmt's text TOLD by the authors' own Lean function (tested against real Go, not proved from fmt's source: count such statements apart). THE CARD IS WHAT COUNTS. Prove the row's statement (the work); the ties are given (YtdfjnbkkdgolnabGreatDoorTie.lean); close each card by the builder's one call (the guide's Derived/Test/ToyasCard.lean, 'card_holds'). Laid BY PROGRAM, IN A SANDBOX (cutbox-door.mjs). By AI agents, Wed Nov 11 2026. No macro, syntax, notation, axiom, sorry.
-/
import Derived.Test.YtdfjnbkkdgolnabGreatDoorRows
import GoSem.ClaimSeven
namespace Go.Proofs.YtdfjnbkkdgolnabGreatDoor
namespace Rows

/-- THE TIED CARD OF 'regattalaw07.MlpStill'. -/
def mlpStillCard : Claim7 := { stood := { row := mlpStillRow, standIns := [], harness := (true, "43109b8199c4c5918531d394c92095dbb4ab9fc9abfab014224f688948943417"), looks := false }, kinds := [], alts := [], laidByText := true, laidKinds := [.data], laidTests := true, laidLooks := .later }
def MlpStillCardSaid : Prop := Claim7.holds Tryz.pinned (.plain (OpenSpec.ofChange mlpStillSpec)) mlpStillCard

/-- THE TIED CARD OF 'regattalaw07.MlpTurned'. -/
def mlpTurnedCard : Claim7 := { stood := { row := mlpTurnedRow, standIns := [], harness := (true, "43109b8199c4c5918531d394c92095dbb4ab9fc9abfab014224f688948943417"), looks := false }, kinds := [], alts := [], laidByText := true, laidKinds := [.data], laidTests := true, laidLooks := .later }
def MlpTurnedCardSaid : Prop := Claim7.holds Tryz.pinned (.plain (OpenSpec.ofChange mlpTurnedSpec)) mlpTurnedCard

/-- THE TIED CARD OF 'regattalaw07.MlpHidden'. -/
def mlpHiddenCard : Claim7 := { stood := { row := mlpHiddenRow, standIns := [], harness := (true, "43109b8199c4c5918531d394c92095dbb4ab9fc9abfab014224f688948943417"), looks := false }, kinds := [], alts := [], laidByText := true, laidKinds := [.data], laidTests := true, laidLooks := .later }
def MlpHiddenCardSaid : Prop := Claim7.holds Tryz.pinned (.plain (OpenSpec.ofChange mlpHiddenSpec)) mlpHiddenCard

/-- THE TIED CARD OF 'regattalaw07.MlpShut'. -/
def mlpShutCard : Claim7 := { stood := { row := mlpShutRow, standIns := [], harness := (true, "43109b8199c4c5918531d394c92095dbb4ab9fc9abfab014224f688948943417"), looks := false }, kinds := [], alts := [], laidByText := true, laidKinds := [.data], laidTests := true, laidLooks := .later }
def MlpShutCardSaid : Prop := Claim7.holds Tryz.pinned (.plain (OpenSpec.ofChange mlpShutSpec)) mlpShutCard

/-- THE SECOND FORM's CARD OF 'regattalaw07.MlpStill'. -/
def mlpStillUptoCard : Claim7 := { stood := { row := mlpStillUptoRow, standIns := [], harness := (true, "43109b8199c4c5918531d394c92095dbb4ab9fc9abfab014224f688948943417"), looks := false }, kinds := [], alts := [], laidByText := true, laidKinds := [.data], laidTests := true, laidLooks := .later }
def MlpStillUptoCardSaid : Prop := Claim7.holds Tryz.pinned (.plain (OpenSpec.upto mlpStillSpec)) mlpStillUptoCard

/-- THE SECOND FORM's CARD OF 'regattalaw07.MlpTurned'. -/
def mlpTurnedUptoCard : Claim7 := { stood := { row := mlpTurnedUptoRow, standIns := [], harness := (true, "43109b8199c4c5918531d394c92095dbb4ab9fc9abfab014224f688948943417"), looks := false }, kinds := [], alts := [], laidByText := true, laidKinds := [.data], laidTests := true, laidLooks := .later }
def MlpTurnedUptoCardSaid : Prop := Claim7.holds Tryz.pinned (.plain (OpenSpec.upto mlpTurnedSpec)) mlpTurnedUptoCard

/-- THE SECOND FORM's CARD OF 'regattalaw07.MlpHidden'. -/
def mlpHiddenUptoCard : Claim7 := { stood := { row := mlpHiddenUptoRow, standIns := [], harness := (true, "43109b8199c4c5918531d394c92095dbb4ab9fc9abfab014224f688948943417"), looks := false }, kinds := [], alts := [], laidByText := true, laidKinds := [.data], laidTests := true, laidLooks := .later }
def MlpHiddenUptoCardSaid : Prop := Claim7.holds Tryz.pinned (.plain (OpenSpec.upto mlpHiddenSpec)) mlpHiddenUptoCard

/-- THE SECOND FORM's CARD OF 'regattalaw07.MlpShut'. -/
def mlpShutUptoCard : Claim7 := { stood := { row := mlpShutUptoRow, standIns := [], harness := (true, "43109b8199c4c5918531d394c92095dbb4ab9fc9abfab014224f688948943417"), looks := false }, kinds := [], alts := [], laidByText := true, laidKinds := [.data], laidTests := true, laidLooks := .later }
def MlpShutUptoCardSaid : Prop := Claim7.holds Tryz.pinned (.plain (OpenSpec.upto mlpShutSpec)) mlpShutUptoCard
end Rows
end Go.Proofs.YtdfjnbkkdgolnabGreatDoor
