/-
  DERIVED. GIVEN WITH THE SEED: THE CARDS: each row of YtcdehbhdloaieaaDoorRows.lean that lists a variable, with what it lists TIED to the program's text (the seventh form; the later family's looks); each row that meets fmt, with fmt's text TOLD by the authors' own Lean function (tested against real Go, not proved from fmt's source: count such statements apart). THE CARD IS WHAT COUNTS. Prove the row's statement (the work); the ties are given (YtcdehbhdloaieaaDoorTie.lean); close each card by the builder's one call (the guide's Derived/Test/ToyasCard.lean, 'card_holds'). Laid BY PROGRAM, IN A SANDBOX (cutbox-door.mjs). By AI agents, Wed Nov 11 2026. No macro, syntax, notation, axiom, sorry.
-/
import Derived.Test.YtcdehbhdloaieaaDoorRows
import GoSem.ClaimSeven
namespace Go.Proofs.YtcdehbhdloaieaaDoor
namespace Rows

/-- THE TIED CARD OF 'regattalaw09.AdamwChecks'. -/
def adamwChecksCard : Claim7 := { stood := { row := adamwChecksRow, standIns := [], harness := (true, "8f17b88094ca0e75e821b95ed03c9b668387d9a3e134343909ef4c5c429be0ad"), looks := false }, kinds := [], alts := [], laidByText := true, laidKinds := [.data], laidTests := true, laidLooks := .later }
def AdamwChecksCardSaid : Prop := Claim7.holds Tryd.pinned (.plain (OpenSpec.ofChange adamwChecksSpec)) adamwChecksCard

/-- THE TIED CARD OF 'regattalaw09.AdamwStill'. -/
def adamwStillCard : Claim7 := { stood := { row := adamwStillRow, standIns := [], harness := (true, "8f17b88094ca0e75e821b95ed03c9b668387d9a3e134343909ef4c5c429be0ad"), looks := false }, kinds := [], alts := [], laidByText := true, laidKinds := [.data], laidTests := true, laidLooks := .later }
def AdamwStillCardSaid : Prop := Claim7.holds Tryd.pinned (.plain (OpenSpec.ofChange adamwStillSpec)) adamwStillCard

/-- THE TIED CARD OF 'regattalaw09.AdamwApart'. -/
def adamwApartCard : Claim7 := { stood := { row := adamwApartRow, standIns := [], harness := (true, "8f17b88094ca0e75e821b95ed03c9b668387d9a3e134343909ef4c5c429be0ad"), looks := false }, kinds := [], alts := [], laidByText := true, laidKinds := [.data], laidTests := true, laidLooks := .later }
def AdamwApartCardSaid : Prop := Claim7.holds Tryd.pinned (.plain (OpenSpec.ofChange adamwApartSpec)) adamwApartCard

/-- THE TIED CARD OF 'regattalaw09.AdamwSigns'. -/
def adamwSignsCard : Claim7 := { stood := { row := adamwSignsRow, standIns := [], harness := (true, "8f17b88094ca0e75e821b95ed03c9b668387d9a3e134343909ef4c5c429be0ad"), looks := false }, kinds := [], alts := [], laidByText := true, laidKinds := [.data], laidTests := true, laidLooks := .later }
def AdamwSignsCardSaid : Prop := Claim7.holds Tryd.pinned (.plain (OpenSpec.ofChange adamwSignsSpec)) adamwSignsCard

/-- THE SECOND FORM's CARD OF 'regattalaw09.AdamwChecks'. -/
def adamwChecksUptoCard : Claim7 := { stood := { row := adamwChecksUptoRow, standIns := [], harness := (true, "8f17b88094ca0e75e821b95ed03c9b668387d9a3e134343909ef4c5c429be0ad"), looks := false }, kinds := [], alts := [], laidByText := true, laidKinds := [.data], laidTests := true, laidLooks := .later }
def AdamwChecksUptoCardSaid : Prop := Claim7.holds Tryd.pinned (.plain (OpenSpec.upto adamwChecksSpec)) adamwChecksUptoCard

/-- THE SECOND FORM's CARD OF 'regattalaw09.AdamwStill'. -/
def adamwStillUptoCard : Claim7 := { stood := { row := adamwStillUptoRow, standIns := [], harness := (true, "8f17b88094ca0e75e821b95ed03c9b668387d9a3e134343909ef4c5c429be0ad"), looks := false }, kinds := [], alts := [], laidByText := true, laidKinds := [.data], laidTests := true, laidLooks := .later }
def AdamwStillUptoCardSaid : Prop := Claim7.holds Tryd.pinned (.plain (OpenSpec.upto adamwStillSpec)) adamwStillUptoCard

/-- THE SECOND FORM's CARD OF 'regattalaw09.AdamwApart'. -/
def adamwApartUptoCard : Claim7 := { stood := { row := adamwApartUptoRow, standIns := [], harness := (true, "8f17b88094ca0e75e821b95ed03c9b668387d9a3e134343909ef4c5c429be0ad"), looks := false }, kinds := [], alts := [], laidByText := true, laidKinds := [.data], laidTests := true, laidLooks := .later }
def AdamwApartUptoCardSaid : Prop := Claim7.holds Tryd.pinned (.plain (OpenSpec.upto adamwApartSpec)) adamwApartUptoCard

/-- THE SECOND FORM's CARD OF 'regattalaw09.AdamwSigns'. -/
def adamwSignsUptoCard : Claim7 := { stood := { row := adamwSignsUptoRow, standIns := [], harness := (true, "8f17b88094ca0e75e821b95ed03c9b668387d9a3e134343909ef4c5c429be0ad"), looks := false }, kinds := [], alts := [], laidByText := true, laidKinds := [.data], laidTests := true, laidLooks := .later }
def AdamwSignsUptoCardSaid : Prop := Claim7.holds Tryd.pinned (.plain (OpenSpec.upto adamwSignsSpec)) adamwSignsUptoCard
end Rows
end Go.Proofs.YtcdehbhdloaieaaDoor
