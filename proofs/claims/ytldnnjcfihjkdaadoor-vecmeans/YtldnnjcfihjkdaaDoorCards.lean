/-
  DERIVED. GIVEN WITH THE SEED: THE CARDS: each row of YtldnnjcfihjkdaaDoorRows.lean that lists a variable, with what it lists TIED to the program's text (the seventh form; the later family's looks); each row that meets fmt, with fmt's text TOLD by the authors' own Lean function (tested against real Go, not proved from fmt's source: count such statements apart). THE CARD IS WHAT COUNTS. Prove the row's statement (the work); the ties are given (YtldnnjcfihjkdaaDoorTie.lean); close each card by the builder's one call (the guide's Derived/Test/ToyasCard.lean, 'card_holds'). Laid BY PROGRAM, IN A SANDBOX (cutbox-door.mjs). By AI agents, Wed Nov 11 2026. No macro, syntax, notation, axiom, sorry.
-/
import Derived.Test.YtldnnjcfihjkdaaDoorRows
import GoSem.ClaimSeven
namespace Go.Proofs.YtldnnjcfihjkdaaDoor
namespace Rows

/-- THE TIED CARD OF 'regattalaw04.VecDots'. -/
def vecDotsCard : Claim7 := { stood := { row := vecDotsRow, standIns := [], harness := (true, "8afb0481cf02e8cc20bcfe941870d289739055fbf0c8982c2d3b6da652d19539"), looks := false }, kinds := [], alts := [], laidByText := true, laidKinds := [.data], laidTests := true, laidLooks := .later }
def VecDotsCardSaid : Prop := Claim7.holds Tryd.pinned (.plain (OpenSpec.ofChange vecDotsSpec)) vecDotsCard

/-- THE TIED CARD OF 'regattalaw04.VecSums'. -/
def vecSumsCard : Claim7 := { stood := { row := vecSumsRow, standIns := [], harness := (true, "8afb0481cf02e8cc20bcfe941870d289739055fbf0c8982c2d3b6da652d19539"), looks := false }, kinds := [], alts := [], laidByText := true, laidKinds := [.data], laidTests := true, laidLooks := .later }
def VecSumsCardSaid : Prop := Claim7.holds Tryd.pinned (.plain (OpenSpec.ofChange vecSumsSpec)) vecSumsCard

/-- THE TIED CARD OF 'regattalaw04.VecMats'. -/
def vecMatsCard : Claim7 := { stood := { row := vecMatsRow, standIns := [], harness := (true, "8afb0481cf02e8cc20bcfe941870d289739055fbf0c8982c2d3b6da652d19539"), looks := false }, kinds := [], alts := [], laidByText := true, laidKinds := [.data], laidTests := true, laidLooks := .later }
def VecMatsCardSaid : Prop := Claim7.holds Tryd.pinned (.plain (OpenSpec.ofChange vecMatsSpec)) vecMatsCard

/-- THE TIED CARD OF 'regattalaw04.VecOuters'. -/
def vecOutersCard : Claim7 := { stood := { row := vecOutersRow, standIns := [], harness := (true, "8afb0481cf02e8cc20bcfe941870d289739055fbf0c8982c2d3b6da652d19539"), looks := false }, kinds := [], alts := [], laidByText := true, laidKinds := [.data], laidTests := true, laidLooks := .later }
def VecOutersCardSaid : Prop := Claim7.holds Tryd.pinned (.plain (OpenSpec.ofChange vecOutersSpec)) vecOutersCard

/-- THE TIED CARD OF 'regattalaw04.VecNorms'. -/
def vecNormsCard : Claim7 := { stood := { row := vecNormsRow, standIns := [], harness := (true, "8afb0481cf02e8cc20bcfe941870d289739055fbf0c8982c2d3b6da652d19539"), looks := false }, kinds := [], alts := [], laidByText := true, laidKinds := [.data], laidTests := true, laidLooks := .later }
def VecNormsCardSaid : Prop := Claim7.holds Tryd.pinned (.plain (OpenSpec.ofChange vecNormsSpec)) vecNormsCard

/-- THE TIED CARD OF 'regattalaw04.VecMeans'. -/
def vecMeansCard : Claim7 := { stood := { row := vecMeansRow, standIns := [], harness := (true, "8afb0481cf02e8cc20bcfe941870d289739055fbf0c8982c2d3b6da652d19539"), looks := false }, kinds := [], alts := [], laidByText := true, laidKinds := [.data], laidTests := true, laidLooks := .later }
def VecMeansCardSaid : Prop := Claim7.holds Tryd.pinned (.plain (OpenSpec.ofChange vecMeansSpec)) vecMeansCard

/-- THE SECOND FORM's CARD OF 'regattalaw04.VecDots'. -/
def vecDotsUptoCard : Claim7 := { stood := { row := vecDotsUptoRow, standIns := [], harness := (true, "8afb0481cf02e8cc20bcfe941870d289739055fbf0c8982c2d3b6da652d19539"), looks := false }, kinds := [], alts := [], laidByText := true, laidKinds := [.data], laidTests := true, laidLooks := .later }
def VecDotsUptoCardSaid : Prop := Claim7.holds Tryd.pinned (.plain (OpenSpec.upto vecDotsSpec)) vecDotsUptoCard

/-- THE SECOND FORM's CARD OF 'regattalaw04.VecSums'. -/
def vecSumsUptoCard : Claim7 := { stood := { row := vecSumsUptoRow, standIns := [], harness := (true, "8afb0481cf02e8cc20bcfe941870d289739055fbf0c8982c2d3b6da652d19539"), looks := false }, kinds := [], alts := [], laidByText := true, laidKinds := [.data], laidTests := true, laidLooks := .later }
def VecSumsUptoCardSaid : Prop := Claim7.holds Tryd.pinned (.plain (OpenSpec.upto vecSumsSpec)) vecSumsUptoCard

/-- THE SECOND FORM's CARD OF 'regattalaw04.VecMats'. -/
def vecMatsUptoCard : Claim7 := { stood := { row := vecMatsUptoRow, standIns := [], harness := (true, "8afb0481cf02e8cc20bcfe941870d289739055fbf0c8982c2d3b6da652d19539"), looks := false }, kinds := [], alts := [], laidByText := true, laidKinds := [.data], laidTests := true, laidLooks := .later }
def VecMatsUptoCardSaid : Prop := Claim7.holds Tryd.pinned (.plain (OpenSpec.upto vecMatsSpec)) vecMatsUptoCard

/-- THE SECOND FORM's CARD OF 'regattalaw04.VecOuters'. -/
def vecOutersUptoCard : Claim7 := { stood := { row := vecOutersUptoRow, standIns := [], harness := (true, "8afb0481cf02e8cc20bcfe941870d289739055fbf0c8982c2d3b6da652d19539"), looks := false }, kinds := [], alts := [], laidByText := true, laidKinds := [.data], laidTests := true, laidLooks := .later }
def VecOutersUptoCardSaid : Prop := Claim7.holds Tryd.pinned (.plain (OpenSpec.upto vecOutersSpec)) vecOutersUptoCard

/-- THE SECOND FORM's CARD OF 'regattalaw04.VecNorms'. -/
def vecNormsUptoCard : Claim7 := { stood := { row := vecNormsUptoRow, standIns := [], harness := (true, "8afb0481cf02e8cc20bcfe941870d289739055fbf0c8982c2d3b6da652d19539"), looks := false }, kinds := [], alts := [], laidByText := true, laidKinds := [.data], laidTests := true, laidLooks := .later }
def VecNormsUptoCardSaid : Prop := Claim7.holds Tryd.pinned (.plain (OpenSpec.upto vecNormsSpec)) vecNormsUptoCard

/-- THE SECOND FORM's CARD OF 'regattalaw04.VecMeans'. -/
def vecMeansUptoCard : Claim7 := { stood := { row := vecMeansUptoRow, standIns := [], harness := (true, "8afb0481cf02e8cc20bcfe941870d289739055fbf0c8982c2d3b6da652d19539"), looks := false }, kinds := [], alts := [], laidByText := true, laidKinds := [.data], laidTests := true, laidLooks := .later }
def VecMeansUptoCardSaid : Prop := Claim7.holds Tryd.pinned (.plain (OpenSpec.upto vecMeansSpec)) vecMeansUptoCard
end Rows
end Go.Proofs.YtldnnjcfihjkdaaDoor
