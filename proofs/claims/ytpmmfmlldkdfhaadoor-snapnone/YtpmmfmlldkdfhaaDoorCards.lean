/-
  DERIVED. GIVEN WITH THE SEED: THE CARDS: each row of YtpmmfmlldkdfhaaDoorRows.lean that lists a variable, with what it lists TIED to the program's text (the seventh form; the later family's looks); each row that meets fmt, with fmt's text TOLD by the authors' own Lean function (tested against real Go, not proved from fmt's source: count such statements apart). THE CARD IS WHAT COUNTS. Prove the row's statement (the work); the ties are given (YtpmmfmlldkdfhaaDoorTie.lean); close each card by the builder's one call (the guide's Derived/Test/ToyasCard.lean, 'card_holds'). Laid BY PROGRAM, IN A SANDBOX (cutbox-door.mjs). By AI agents, Wed Nov 11 2026. No macro, syntax, notation, axiom, sorry.
-/
import Derived.Test.YtpmmfmlldkdfhaaDoorRows
import GoSem.ClaimSeven
namespace Go.Proofs.YtpmmfmlldkdfhaaDoor
namespace Rows

/-- THE TIED CARD OF 'regattalaw16.SnapPlays'. -/
def snapPlaysCard : Claim7 := { stood := { row := snapPlaysRow, standIns := [], harness := (true, "c8f1606f3aff3dc0a5d4402654f241176d75db79fab5e33d89363f11c6fb335c"), looks := false }, kinds := [], alts := [], laidByText := true, laidKinds := [.data], laidTests := true, laidLooks := .later }
def SnapPlaysCardSaid : Prop := Claim7.holds Tryd.pinned (.plain (OpenSpec.ofChange snapPlaysSpec)) snapPlaysCard

/-- THE TIED CARD OF 'regattalaw16.SnapNone'. -/
def snapNoneCard : Claim7 := { stood := { row := snapNoneRow, standIns := [], harness := (true, "c8f1606f3aff3dc0a5d4402654f241176d75db79fab5e33d89363f11c6fb335c"), looks := false }, kinds := [], alts := [], laidByText := true, laidKinds := [.data], laidTests := true, laidLooks := .later }
def SnapNoneCardSaid : Prop := Claim7.holds Tryd.pinned (.plain (OpenSpec.ofChange snapNoneSpec)) snapNoneCard

/-- THE TIED CARD OF 'regattalaw16.SnapFalls'. -/
def snapFallsCard : Claim7 := { stood := { row := snapFallsRow, standIns := [], harness := (true, "c8f1606f3aff3dc0a5d4402654f241176d75db79fab5e33d89363f11c6fb335c"), looks := false }, kinds := [], alts := [], laidByText := true, laidKinds := [.data], laidTests := true, laidLooks := .later }
def SnapFallsCardSaid : Prop := Claim7.holds Tryd.pinned (.plain (OpenSpec.ofChange snapFallsSpec)) snapFallsCard

/-- THE TIED CARD OF 'regattalaw16.SnapLast'. -/
def snapLastCard : Claim7 := { stood := { row := snapLastRow, standIns := [], harness := (true, "c8f1606f3aff3dc0a5d4402654f241176d75db79fab5e33d89363f11c6fb335c"), looks := false }, kinds := [], alts := [], laidByText := true, laidKinds := [.data], laidTests := true, laidLooks := .later }
def SnapLastCardSaid : Prop := Claim7.holds Tryd.pinned (.plain (OpenSpec.ofChange snapLastSpec)) snapLastCard

/-- THE SECOND FORM's CARD OF 'regattalaw16.SnapPlays'. -/
def snapPlaysUptoCard : Claim7 := { stood := { row := snapPlaysUptoRow, standIns := [], harness := (true, "c8f1606f3aff3dc0a5d4402654f241176d75db79fab5e33d89363f11c6fb335c"), looks := false }, kinds := [], alts := [], laidByText := true, laidKinds := [.data], laidTests := true, laidLooks := .later }
def SnapPlaysUptoCardSaid : Prop := Claim7.holds Tryd.pinned (.plain (OpenSpec.upto snapPlaysSpec)) snapPlaysUptoCard

/-- THE SECOND FORM's CARD OF 'regattalaw16.SnapNone'. -/
def snapNoneUptoCard : Claim7 := { stood := { row := snapNoneUptoRow, standIns := [], harness := (true, "c8f1606f3aff3dc0a5d4402654f241176d75db79fab5e33d89363f11c6fb335c"), looks := false }, kinds := [], alts := [], laidByText := true, laidKinds := [.data], laidTests := true, laidLooks := .later }
def SnapNoneUptoCardSaid : Prop := Claim7.holds Tryd.pinned (.plain (OpenSpec.upto snapNoneSpec)) snapNoneUptoCard

/-- THE SECOND FORM's CARD OF 'regattalaw16.SnapFalls'. -/
def snapFallsUptoCard : Claim7 := { stood := { row := snapFallsUptoRow, standIns := [], harness := (true, "c8f1606f3aff3dc0a5d4402654f241176d75db79fab5e33d89363f11c6fb335c"), looks := false }, kinds := [], alts := [], laidByText := true, laidKinds := [.data], laidTests := true, laidLooks := .later }
def SnapFallsUptoCardSaid : Prop := Claim7.holds Tryd.pinned (.plain (OpenSpec.upto snapFallsSpec)) snapFallsUptoCard

/-- THE SECOND FORM's CARD OF 'regattalaw16.SnapLast'. -/
def snapLastUptoCard : Claim7 := { stood := { row := snapLastUptoRow, standIns := [], harness := (true, "c8f1606f3aff3dc0a5d4402654f241176d75db79fab5e33d89363f11c6fb335c"), looks := false }, kinds := [], alts := [], laidByText := true, laidKinds := [.data], laidTests := true, laidLooks := .later }
def SnapLastUptoCardSaid : Prop := Claim7.holds Tryd.pinned (.plain (OpenSpec.upto snapLastSpec)) snapLastUptoCard
end Rows
end Go.Proofs.YtpmmfmlldkdfhaaDoor
