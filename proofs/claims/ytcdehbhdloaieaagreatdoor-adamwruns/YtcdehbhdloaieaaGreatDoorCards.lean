/-
  DERIVED. GIVEN WITH THE SEED: THE CARDS: each row of YtcdehbhdloaieaaGreatDoorRows.lean that lists a variable, with what it lists TIED to the program's text (the seventh form; the later family's looks); each row that meets fmt, with fmt's text TOLD by the authors' own Lean function (tested against real Go, not proved from fmt's source: count such statements apart). THE CARD IS WHAT COUNTS. Prove the row's statement (the work); the ties are given (YtcdehbhdloaieaaGreatDoorTie.lean); close each card by the builder's one call (the guide's Derived/Test/ToyasCard.lean, 'card_holds'). Laid BY PROGRAM, IN A SANDBOX (cutbox-door.mjs). By AI agents, Wed Nov 11 2026. No macro, syntax, notation, axiom, sorry.
-/
import Derived.Test.YtcdehbhdloaieaaGreatDoorRows
import GoSem.ClaimSeven
namespace Go.Proofs.YtcdehbhdloaieaaGreatDoor
namespace Rows

/-- THE TIED CARD OF 'regattalaw09.AdamwSteps'. -/
def adamwStepsCard : Claim7 := { stood := { row := adamwStepsRow, standIns := [], harness := (true, "6d19fa8209e6d6a370f7dc79f6e6eb15384cb70406043c87c331600978d6f2ad"), looks := false }, kinds := [], alts := [], laidByText := true, laidKinds := [.data], laidTests := true, laidLooks := .later }
def AdamwStepsCardSaid : Prop := Claim7.holds Tryz.pinned (.plain (OpenSpec.ofChange adamwStepsSpec)) adamwStepsCard

/-- THE TIED CARD OF 'regattalaw09.AdamwRuns'. -/
def adamwRunsCard : Claim7 := { stood := { row := adamwRunsRow, standIns := [], harness := (true, "6d19fa8209e6d6a370f7dc79f6e6eb15384cb70406043c87c331600978d6f2ad"), looks := false }, kinds := [], alts := [], laidByText := true, laidKinds := [.data], laidTests := true, laidLooks := .later }
def AdamwRunsCardSaid : Prop := Claim7.holds Tryz.pinned (.plain (OpenSpec.ofChange adamwRunsSpec)) adamwRunsCard

/-- THE SECOND FORM's CARD OF 'regattalaw09.AdamwSteps'. -/
def adamwStepsUptoCard : Claim7 := { stood := { row := adamwStepsUptoRow, standIns := [], harness := (true, "6d19fa8209e6d6a370f7dc79f6e6eb15384cb70406043c87c331600978d6f2ad"), looks := false }, kinds := [], alts := [], laidByText := true, laidKinds := [.data], laidTests := true, laidLooks := .later }
def AdamwStepsUptoCardSaid : Prop := Claim7.holds Tryz.pinned (.plain (OpenSpec.upto adamwStepsSpec)) adamwStepsUptoCard

/-- THE SECOND FORM's CARD OF 'regattalaw09.AdamwRuns'. -/
def adamwRunsUptoCard : Claim7 := { stood := { row := adamwRunsUptoRow, standIns := [], harness := (true, "6d19fa8209e6d6a370f7dc79f6e6eb15384cb70406043c87c331600978d6f2ad"), looks := false }, kinds := [], alts := [], laidByText := true, laidKinds := [.data], laidTests := true, laidLooks := .later }
def AdamwRunsUptoCardSaid : Prop := Claim7.holds Tryz.pinned (.plain (OpenSpec.upto adamwRunsSpec)) adamwRunsUptoCard
end Rows
end Go.Proofs.YtcdehbhdloaieaaGreatDoor
