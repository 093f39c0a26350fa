/-
  DERIVED. GIVEN WITH THE SEED: THE CARDS: each row of YtpmidldnomleoaaDoorRows.lean that lists a variable, with what it lists TIED to the program's text (the seventh form; the later family's looks); each row that meets fmt, with fmt's text TOLD by the authors' own Lean function (tested against real Go, not proved from fmt's source: count such statements apart). THE CARD IS WHAT COUNTS. Prove the row's statement (the work); the ties are given (YtpmidldnomleoaaDoorTie.lean); close each card by the builder's one call (the guide's Derived/Test/ToyasCard.lean, 'card_holds'). Laid BY PROGRAM, IN A SANDBOX (cutbox-door.mjs). By AI agents, Wed Nov 11 2026. No macro, syntax, notation, axiom, sorry.
-/
import Derived.Test.YtpmidldnomleoaaDoorRows
import GoSem.ClaimSeven
namespace Go.Proofs.YtpmidldnomleoaaDoor
namespace Rows

/-- THE TIED CARD OF 'regattalaw01.WideLongSums'. -/
def wideLongSumsCard : Claim7 := { stood := { row := wideLongSumsRow, standIns := [], harness := (true, "5d8046882641e98b873af8410f21efe5125b8d3bb86188fd3ef2821b3ac5805f"), looks := false }, kinds := [], alts := [], laidByText := true, laidKinds := [.data], laidTests := true, laidLooks := .later }
def WideLongSumsCardSaid : Prop := Claim7.holds Tryd.pinned (.plain (OpenSpec.ofChange wideLongSumsSpec)) wideLongSumsCard

/-- THE SECOND FORM's CARD OF 'regattalaw01.WideLongSums'. -/
def wideLongSumsUptoCard : Claim7 := { stood := { row := wideLongSumsUptoRow, standIns := [], harness := (true, "5d8046882641e98b873af8410f21efe5125b8d3bb86188fd3ef2821b3ac5805f"), looks := false }, kinds := [], alts := [], laidByText := true, laidKinds := [.data], laidTests := true, laidLooks := .later }
def WideLongSumsUptoCardSaid : Prop := Claim7.holds Tryd.pinned (.plain (OpenSpec.upto wideLongSumsSpec)) wideLongSumsUptoCard
end Rows
end Go.Proofs.YtpmidldnomleoaaDoor
