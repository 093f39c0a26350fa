/-
  DERIVED. GIVEN WITH THE SEED: THE CARDS: each row of YtghbmokhilfjcaaDoorRows.lean that lists a variable, with what it lists TIED to the program's text (the seventh form; the later family's looks); each row that meets fmt, with fmt's text TOLD by the authors' own Lean function (tested against real Go, not proved from fmt's source: count such statements apart). THE CARD IS WHAT COUNTS. Prove the row's statement (the work); the ties are given (YtghbmokhilfjcaaDoorTie.lean); close each card by the builder's one call (the guide's Derived/Test/ToyasCard.lean, 'card_holds'). Laid BY PROGRAM, IN A SANDBOX (cutbox-door.mjs). By AI agents, Wed Nov 11 2026. No macro, syntax, notation, axiom, sorry.
-/
import Derived.Test.YtghbmokhilfjcaaDoorRows
import GoSem.ClaimSeven
namespace Go.Proofs.YtghbmokhilfjcaaDoor
namespace Rows

/-- THE TIED CARD OF 'regattalaw11.CrcOf'. -/
def crcOfCard : Claim7 := { stood := { row := crcOfRow, standIns := [], harness := (true, "1d45fcf9bb4d73f46899d4943342c72ff62ef84b68a17b80579acb5b95cd2771"), looks := false }, kinds := [], alts := [], laidByText := true, laidKinds := [.data, .data], laidTests := true, laidLooks := .later }
def CrcOfCardSaid : Prop := Claim7.holds Tryd.pinned (.plain (OpenSpec.ofChange crcOfSpec)) crcOfCard

/-- THE TIED CARD OF 'regattalaw11.CrcMore'. -/
def crcMoreCard : Claim7 := { stood := { row := crcMoreRow, standIns := [], harness := (true, "1d45fcf9bb4d73f46899d4943342c72ff62ef84b68a17b80579acb5b95cd2771"), looks := false }, kinds := [], alts := [], laidByText := true, laidKinds := [.data], laidTests := true, laidLooks := .later }
def CrcMoreCardSaid : Prop := Claim7.holds Tryd.pinned (.plain (OpenSpec.ofChange crcMoreSpec)) crcMoreCard

/-- THE TIED CARD OF 'regattalaw11.CrcJoin'. -/
def crcJoinCard : Claim7 := { stood := { row := crcJoinRow, standIns := [], harness := (true, "1d45fcf9bb4d73f46899d4943342c72ff62ef84b68a17b80579acb5b95cd2771"), looks := false }, kinds := [], alts := [], laidByText := true, laidKinds := [.data, .data], laidTests := true, laidLooks := .later }
def CrcJoinCardSaid : Prop := Claim7.holds Tryd.pinned (.plain (OpenSpec.ofChange crcJoinSpec)) crcJoinCard

/-- THE TIED CARD OF 'regattalaw11.CrcTwo'. -/
def crcTwoCard : Claim7 := { stood := { row := crcTwoRow, standIns := [], harness := (true, "1d45fcf9bb4d73f46899d4943342c72ff62ef84b68a17b80579acb5b95cd2771"), looks := false }, kinds := [], alts := [], laidByText := true, laidKinds := [.data], laidTests := true, laidLooks := .later }
def CrcTwoCardSaid : Prop := Claim7.holds Tryd.pinned (.plain (OpenSpec.ofChange crcTwoSpec)) crcTwoCard

/-- THE TIED CARD OF 'regattalaw11.CrcBursts'. -/
def crcBurstsCard : Claim7 := { stood := { row := crcBurstsRow, standIns := [], harness := (true, "1d45fcf9bb4d73f46899d4943342c72ff62ef84b68a17b80579acb5b95cd2771"), looks := false }, kinds := [], alts := [], laidByText := true, laidKinds := [.data], laidTests := true, laidLooks := .later }
def CrcBurstsCardSaid : Prop := Claim7.holds Tryd.pinned (.plain (OpenSpec.ofChange crcBurstsSpec)) crcBurstsCard

/-- THE TIED CARD OF 'regattalaw11.CrcLaid'. -/
def crcLaidCard : Claim7 := { stood := { row := crcLaidRow, standIns := [], harness := (true, "1d45fcf9bb4d73f46899d4943342c72ff62ef84b68a17b80579acb5b95cd2771"), looks := false }, kinds := [], alts := [], laidByText := true, laidKinds := [.data], laidTests := true, laidLooks := .later }
def CrcLaidCardSaid : Prop := Claim7.holds Tryd.pinned (.plain (OpenSpec.ofChange crcLaidSpec)) crcLaidCard

/-- THE SECOND FORM's CARD OF 'regattalaw11.CrcOf'. -/
def crcOfUptoCard : Claim7 := { stood := { row := crcOfUptoRow, standIns := [], harness := (true, "1d45fcf9bb4d73f46899d4943342c72ff62ef84b68a17b80579acb5b95cd2771"), looks := false }, kinds := [], alts := [], laidByText := true, laidKinds := [.data, .data], laidTests := true, laidLooks := .later }
def CrcOfUptoCardSaid : Prop := Claim7.holds Tryd.pinned (.plain (OpenSpec.upto crcOfSpec)) crcOfUptoCard

/-- THE SECOND FORM's CARD OF 'regattalaw11.CrcMore'. -/
def crcMoreUptoCard : Claim7 := { stood := { row := crcMoreUptoRow, standIns := [], harness := (true, "1d45fcf9bb4d73f46899d4943342c72ff62ef84b68a17b80579acb5b95cd2771"), looks := false }, kinds := [], alts := [], laidByText := true, laidKinds := [.data], laidTests := true, laidLooks := .later }
def CrcMoreUptoCardSaid : Prop := Claim7.holds Tryd.pinned (.plain (OpenSpec.upto crcMoreSpec)) crcMoreUptoCard

/-- THE SECOND FORM's CARD OF 'regattalaw11.CrcJoin'. -/
def crcJoinUptoCard : Claim7 := { stood := { row := crcJoinUptoRow, standIns := [], harness := (true, "1d45fcf9bb4d73f46899d4943342c72ff62ef84b68a17b80579acb5b95cd2771"), looks := false }, kinds := [], alts := [], laidByText := true, laidKinds := [.data, .data], laidTests := true, laidLooks := .later }
def CrcJoinUptoCardSaid : Prop := Claim7.holds Tryd.pinned (.plain (OpenSpec.upto crcJoinSpec)) crcJoinUptoCard

/-- THE SECOND FORM's CARD OF 'regattalaw11.CrcTwo'. -/
def crcTwoUptoCard : Claim7 := { stood := { row := crcTwoUptoRow, standIns := [], harness := (true, "1d45fcf9bb4d73f46899d4943342c72ff62ef84b68a17b80579acb5b95cd2771"), looks := false }, kinds := [], alts := [], laidByText := true, laidKinds := [.data], laidTests := true, laidLooks := .later }
def CrcTwoUptoCardSaid : Prop := Claim7.holds Tryd.pinned (.plain (OpenSpec.upto crcTwoSpec)) crcTwoUptoCard

/-- THE SECOND FORM's CARD OF 'regattalaw11.CrcBursts'. -/
def crcBurstsUptoCard : Claim7 := { stood := { row := crcBurstsUptoRow, standIns := [], harness := (true, "1d45fcf9bb4d73f46899d4943342c72ff62ef84b68a17b80579acb5b95cd2771"), looks := false }, kinds := [], alts := [], laidByText := true, laidKinds := [.data], laidTests := true, laidLooks := .later }
def CrcBurstsUptoCardSaid : Prop := Claim7.holds Tryd.pinned (.plain (OpenSpec.upto crcBurstsSpec)) crcBurstsUptoCard

/-- THE SECOND FORM's CARD OF 'regattalaw11.CrcLaid'. -/
def crcLaidUptoCard : Claim7 := { stood := { row := crcLaidUptoRow, standIns := [], harness := (true, "1d45fcf9bb4d73f46899d4943342c72ff62ef84b68a17b80579acb5b95cd2771"), looks := false }, kinds := [], alts := [], laidByText := true, laidKinds := [.data], laidTests := true, laidLooks := .later }
def CrcLaidUptoCardSaid : Prop := Claim7.holds Tryd.pinned (.plain (OpenSpec.upto crcLaidSpec)) crcLaidUptoCard
end Rows
end Go.Proofs.YtghbmokhilfjcaaDoor
