/-
  NARROWER THAN 'FOR EVERY INPUT', by the rows' own cells (each row's printed sentence says how): MlpCounts: laid · MlpInits: laid · MlpForward: laid · MlpLosses: laid · MlpGradients: laid · MlpBatches: laid.
  DERIVED. THE GIVEN ROWS OF THIS SEAT. 6 by the template 'for every input the law returns true; each argument reads behind the call as it read before'; 0 by the template 'total and deterministic' (their statements: YtdfjnbkkdgolnaaGreatDoorTotals.lean).
  GIVEN WITH THE SEED: the statements are not yours to turn. If you find one false, say at which input.
  Laid BY PROGRAM, IN A SANDBOX (cutbox-rows.mjs): the forced cells as the released guide's own fill.sh prints them over the translation 38a878d9cd9403bf… (all of the seat's roots in one cut). By AI agents, Wed Nov 11 2026. No macro, syntax, notation, axiom, sorry.
-/
import Derived.Test.YtdfjnbkkdgolnaaGreatDoorChecked
import GoSem.Claim
import GoSem.ClaimJoined
import GoSem.ClaimMapViews
import Derived.JoinedTies
import Derived.KernelRfl
namespace Go.Proofs.YtdfjnbkkdgolnaaGreatDoor
/- THE CELL 'sum', in the pinned program and in every row, IS THE sha256 OF THE DUMP (.gsa) THAT YtdfjnbkkdgolnaaGreatDoorProg.lean LOADS. Nothing in Lean hashes anything: it is a label: what it is worth is what the hold of that sum in a sandbox is worth. -/
noncomputable def Tryz.pinned : Pinned := { name := "ytdfjnbkkdgolnaagreatdoor", sum := "38a878d9cd9403bf7527190365e6034719758dd443e9f32caf42963b98a4a60d", checked := Tryz.checked }
namespace Rows
def none {H : Type} : Left H := { results := [], args := [] }

/- WHAT THE LISTED PACKAGE-LEVEL VARIABLES READ AS WHEN THE CALL BEGINS. Each datum BY PROGRAM (the guide's laid-datum.mjs) off the statement by which the dump's own 'gosem.cut.vars' lays the variable. In a bare row this is a premise. The card (YtdfjnbkkdgolnaaGreatDoorCards.lean) ties it to the program's text. -/
def laid_math_bits_deBruijn64tab {H : Type} : DataW H := .agg [.lit (.int .u8 0), .lit (.int .u8 1), .lit (.int .u8 56), .lit (.int .u8 2), .lit (.int .u8 57), .lit (.int .u8 49), .lit (.int .u8 28), .lit (.int .u8 3), .lit (.int .u8 61), .lit (.int .u8 58), .lit (.int .u8 42), .lit (.int .u8 50), .lit (.int .u8 38), .lit (.int .u8 29), .lit (.int .u8 17), .lit (.int .u8 4), .lit (.int .u8 62), .lit (.int .u8 47), .lit (.int .u8 59), .lit (.int .u8 36), .lit (.int .u8 45), .lit (.int .u8 43), .lit (.int .u8 51), .lit (.int .u8 22), .lit (.int .u8 53), .lit (.int .u8 39), .lit (.int .u8 33), .lit (.int .u8 30), .lit (.int .u8 24), .lit (.int .u8 18), .lit (.int .u8 12), .lit (.int .u8 5), .lit (.int .u8 63), .lit (.int .u8 55), .lit (.int .u8 48), .lit (.int .u8 27), .lit (.int .u8 60), .lit (.int .u8 41), .lit (.int .u8 37), .lit (.int .u8 16), .lit (.int .u8 46), .lit (.int .u8 35), .lit (.int .u8 44), .lit (.int .u8 21), .lit (.int .u8 52), .lit (.int .u8 32), .lit (.int .u8 23), .lit (.int .u8 11), .lit (.int .u8 54), .lit (.int .u8 26), .lit (.int .u8 40), .lit (.int .u8 15), .lit (.int .u8 34), .lit (.int .u8 20), .lit (.int .u8 31), .lit (.int .u8 10), .lit (.int .u8 25), .lit (.int .u8 14), .lit (.int .u8 19), .lit (.int .u8 9), .lit (.int .u8 13), .lit (.int .u8 8), .lit (.int .u8 7), .lit (.int .u8 6)]

/-- 'regattalaw07.MlpCounts': WHATEVER THE INPUT: true; the input reads as it did. -/
def mlpCountsSpec : ChangeSpec := { name := "mlpCounts", fn := fun _ => fun
  | [d] => { results := [.lit (.bool true)], args := [d] }
  | _ => none }
def mlpCountsRow : OpenClaim := { program := "ytdfjnbkkdgolnaagreatdoor", sum := "38a878d9cd9403bf7527190365e6034719758dd443e9f32caf42963b98a4a60d", func := "regatta/regattalaw07.MlpCounts", spec := "mlpCounts", inPlace := ["math/bits.Add64", "math/bits.Sub64"], unfollowed := true, recurses := true, named := ["math/bits.deBruijn64tab"], apart := false, laid := [("math/bits.deBruijn64tab", laid_math_bits_deBruijn64tab)] }
def MlpCountsSaid : Prop := mlpCountsRow.holds Tryz.pinned (OpenSpec.ofChange mlpCountsSpec)

/-- ITS FALSE NEIGHBOUR: 'it returns false'. Refute it at one input. -/
def mlpCountsWrong : ChangeSpec := { name := "mlpCounts", fn := fun _ => fun
  | [d] => { results := [.lit (.bool false)], args := [d] }
  | _ => none }
def MlpCountsWrongFalsely : Prop := mlpCountsRow.holds Tryz.pinned (OpenSpec.ofChange mlpCountsWrong)

/-- 'regattalaw07.MlpInits': WHATEVER THE INPUT: true; the input reads as it did. -/
def mlpInitsSpec : ChangeSpec := { name := "mlpInits", fn := fun _ => fun
  | [d1, d2] => { results := [.lit (.bool true)], args := [d1, d2] }
  | _ => none }
def mlpInitsRow : OpenClaim := { program := "ytdfjnbkkdgolnaagreatdoor", sum := "38a878d9cd9403bf7527190365e6034719758dd443e9f32caf42963b98a4a60d", func := "regatta/regattalaw07.MlpInits", spec := "mlpInits", inPlace := ["math/bits.Add64", "math/bits.Sub64"], unfollowed := true, recurses := true, named := ["math/bits.deBruijn64tab", "math/bits.divideError", "math/bits.overflowError"], apart := false, laid := [("math/bits.deBruijn64tab", laid_math_bits_deBruijn64tab)] }
def MlpInitsSaid : Prop := mlpInitsRow.holds Tryz.pinned (OpenSpec.ofChange mlpInitsSpec)

/-- ITS FALSE NEIGHBOUR: 'it returns false'. Refute it at one input. -/
def mlpInitsWrong : ChangeSpec := { name := "mlpInits", fn := fun _ => fun
  | [d1, d2] => { results := [.lit (.bool false)], args := [d1, d2] }
  | _ => none }
def MlpInitsWrongFalsely : Prop := mlpInitsRow.holds Tryz.pinned (OpenSpec.ofChange mlpInitsWrong)

/-- 'regattalaw07.MlpForward': WHATEVER THE INPUT: true; the input reads as it did. -/
def mlpForwardSpec : ChangeSpec := { name := "mlpForward", fn := fun _ => fun
  | [d1, d2] => { results := [.lit (.bool true)], args := [d1, d2] }
  | _ => none }
def mlpForwardRow : OpenClaim := { program := "ytdfjnbkkdgolnaagreatdoor", sum := "38a878d9cd9403bf7527190365e6034719758dd443e9f32caf42963b98a4a60d", func := "regatta/regattalaw07.MlpForward", spec := "mlpForward", inPlace := ["math/bits.Add64", "math/bits.Sub64"], unfollowed := true, recurses := true, named := ["math/bits.deBruijn64tab"], apart := false, laid := [("math/bits.deBruijn64tab", laid_math_bits_deBruijn64tab)] }
def MlpForwardSaid : Prop := mlpForwardRow.holds Tryz.pinned (OpenSpec.ofChange mlpForwardSpec)

/-- ITS FALSE NEIGHBOUR: 'it returns false'. Refute it at one input. -/
def mlpForwardWrong : ChangeSpec := { name := "mlpForward", fn := fun _ => fun
  | [d1, d2] => { results := [.lit (.bool false)], args := [d1, d2] }
  | _ => none }
def MlpForwardWrongFalsely : Prop := mlpForwardRow.holds Tryz.pinned (OpenSpec.ofChange mlpForwardWrong)

/-- 'regattalaw07.MlpLosses': WHATEVER THE INPUT: true; the input reads as it did. -/
def mlpLossesSpec : ChangeSpec := { name := "mlpLosses", fn := fun _ => fun
  | [d1, d2, d3] => { results := [.lit (.bool true)], args := [d1, d2, d3] }
  | _ => none }
def mlpLossesRow : OpenClaim := { program := "ytdfjnbkkdgolnaagreatdoor", sum := "38a878d9cd9403bf7527190365e6034719758dd443e9f32caf42963b98a4a60d", func := "regatta/regattalaw07.MlpLosses", spec := "mlpLosses", inPlace := ["math/bits.Add64", "math/bits.Sub64"], unfollowed := true, recurses := true, named := ["math/bits.deBruijn64tab"], apart := false, laid := [("math/bits.deBruijn64tab", laid_math_bits_deBruijn64tab)] }
def MlpLossesSaid : Prop := mlpLossesRow.holds Tryz.pinned (OpenSpec.ofChange mlpLossesSpec)

/-- ITS FALSE NEIGHBOUR: 'it returns false'. Refute it at one input. -/
def mlpLossesWrong : ChangeSpec := { name := "mlpLosses", fn := fun _ => fun
  | [d1, d2, d3] => { results := [.lit (.bool false)], args := [d1, d2, d3] }
  | _ => none }
def MlpLossesWrongFalsely : Prop := mlpLossesRow.holds Tryz.pinned (OpenSpec.ofChange mlpLossesWrong)

/-- 'regattalaw07.MlpGradients': WHATEVER THE INPUT: true; the input reads as it did. -/
def mlpGradientsSpec : ChangeSpec := { name := "mlpGradients", fn := fun _ => fun
  | [d1, d2, d3] => { results := [.lit (.bool true)], args := [d1, d2, d3] }
  | _ => none }
def mlpGradientsRow : OpenClaim := { program := "ytdfjnbkkdgolnaagreatdoor", sum := "38a878d9cd9403bf7527190365e6034719758dd443e9f32caf42963b98a4a60d", func := "regatta/regattalaw07.MlpGradients", spec := "mlpGradients", inPlace := ["math/bits.Add64", "math/bits.Sub64"], unfollowed := true, recurses := true, named := ["math/bits.deBruijn64tab"], apart := false, laid := [("math/bits.deBruijn64tab", laid_math_bits_deBruijn64tab)] }
def MlpGradientsSaid : Prop := mlpGradientsRow.holds Tryz.pinned (OpenSpec.ofChange mlpGradientsSpec)

/-- ITS FALSE NEIGHBOUR: 'it returns false'. Refute it at one input. -/
def mlpGradientsWrong : ChangeSpec := { name := "mlpGradients", fn := fun _ => fun
  | [d1, d2, d3] => { results := [.lit (.bool false)], args := [d1, d2, d3] }
  | _ => none }
def MlpGradientsWrongFalsely : Prop := mlpGradientsRow.holds Tryz.pinned (OpenSpec.ofChange mlpGradientsWrong)

/-- 'regattalaw07.MlpBatches': WHATEVER THE INPUT: true; the input reads as it did. -/
def mlpBatchesSpec : ChangeSpec := { name := "mlpBatches", fn := fun _ => fun
  | [d1, d2, d3] => { results := [.lit (.bool true)], args := [d1, d2, d3] }
  | _ => none }
def mlpBatchesRow : OpenClaim := { program := "ytdfjnbkkdgolnaagreatdoor", sum := "38a878d9cd9403bf7527190365e6034719758dd443e9f32caf42963b98a4a60d", func := "regatta/regattalaw07.MlpBatches", spec := "mlpBatches", inPlace := ["math/bits.Add64", "math/bits.Sub64"], unfollowed := true, recurses := true, named := ["math/bits.deBruijn64tab", "math/bits.divideError", "math/bits.overflowError"], apart := false, laid := [("math/bits.deBruijn64tab", laid_math_bits_deBruijn64tab)] }
def MlpBatchesSaid : Prop := mlpBatchesRow.holds Tryz.pinned (OpenSpec.ofChange mlpBatchesSpec)

/-- ITS FALSE NEIGHBOUR: 'it returns false'. Refute it at one input. -/
def mlpBatchesWrong : ChangeSpec := { name := "mlpBatches", fn := fun _ => fun
  | [d1, d2, d3] => { results := [.lit (.bool false)], args := [d1, d2, d3] }
  | _ => none }
def MlpBatchesWrongFalsely : Prop := mlpBatchesRow.holds Tryz.pinned (OpenSpec.ofChange mlpBatchesWrong)

/- THE SECOND FORM. 'bulk': how many values and letters a reading holds, each counted each time it is reached (what is shared counts as often as it is met; a slice's spare places count too). A statement '..UptoSaid' is the law's where the arguments, and the package variables that the reading takes, are together of bulk at most 1048576: NARROWER than '..Said'. Prove '..Said' where nothing that the law and all that it calls make is longer than what came in: it says more and counts as full. Else prove '..UptoSaid'. A law counts once. -/
mutual
def uptoBulk {H : Type} : DataW H → Nat
  | .lit (.string bytes) => bytes.length + 1
  | .lit _ => 1
  | .nil => 1
  | .ptr d => uptoBulk d + 1
  | .slice elems spare => uptoBulkAll elems + uptoBulkAll spare + 1
  | .agg parts => uptoBulkAll parts + 1
  | .iface _ d => uptoBulk d + 1
  | .map entries => uptoBulkEntries entries + 1
  | .held _ => 1
def uptoBulkAll {H : Type} : List (DataW H) → Nat
  | [] => 0
  | d :: r => uptoBulk d + uptoBulkAll r
def uptoBulkEntries {H : Type} : List (Lit × DataW H) → Nat
  | [] => 0
  | x :: r => uptoBulkEntry x + uptoBulkEntries r
def uptoBulkEntry {H : Type} : Lit × DataW H → Nat
  | (.string bytes, d) => bytes.length + uptoBulk d + 1
  | (_, d) => uptoBulk d + 1
 end
def uptoSmall : (H : Type) → List (DataW H) → Bool := fun _ ds => decide (uptoBulkAll ds ≤ 1048576)
def OpenSpec.upto (s : _root_.Go.ChangeSpec) : _root_.Go.OpenSpec := { _root_.Go.OpenSpec.ofChange s with cond := some uptoSmall }

/-- 'regattalaw07.MlpCounts', WHERE WHAT IT READS IS OF BULK AT MOST 1048576: true; the input reads as it did. -/
def mlpCountsUptoRow : OpenClaim := { program := "ytdfjnbkkdgolnaagreatdoor", sum := "38a878d9cd9403bf7527190365e6034719758dd443e9f32caf42963b98a4a60d", func := "regatta/regattalaw07.MlpCounts", spec := "mlpCounts", inPlace := ["math/bits.Add64", "math/bits.Sub64"], unfollowed := true, recurses := true, named := ["math/bits.deBruijn64tab"], apart := false, laid := [("math/bits.deBruijn64tab", laid_math_bits_deBruijn64tab)], narrowed := true }
def MlpCountsUptoSaid : Prop := mlpCountsUptoRow.holds Tryz.pinned (OpenSpec.upto mlpCountsSpec)

/-- 'regattalaw07.MlpInits', WHERE WHAT IT READS IS OF BULK AT MOST 1048576: true; the input reads as it did. -/
def mlpInitsUptoRow : OpenClaim := { program := "ytdfjnbkkdgolnaagreatdoor", sum := "38a878d9cd9403bf7527190365e6034719758dd443e9f32caf42963b98a4a60d", func := "regatta/regattalaw07.MlpInits", spec := "mlpInits", inPlace := ["math/bits.Add64", "math/bits.Sub64"], unfollowed := true, recurses := true, named := ["math/bits.deBruijn64tab", "math/bits.divideError", "math/bits.overflowError"], apart := false, laid := [("math/bits.deBruijn64tab", laid_math_bits_deBruijn64tab)], narrowed := true }
def MlpInitsUptoSaid : Prop := mlpInitsUptoRow.holds Tryz.pinned (OpenSpec.upto mlpInitsSpec)

/-- 'regattalaw07.MlpForward', WHERE WHAT IT READS IS OF BULK AT MOST 1048576: true; the input reads as it did. -/
def mlpForwardUptoRow : OpenClaim := { program := "ytdfjnbkkdgolnaagreatdoor", sum := "38a878d9cd9403bf7527190365e6034719758dd443e9f32caf42963b98a4a60d", func := "regatta/regattalaw07.MlpForward", spec := "mlpForward", inPlace := ["math/bits.Add64", "math/bits.Sub64"], unfollowed := true, recurses := true, named := ["math/bits.deBruijn64tab"], apart := false, laid := [("math/bits.deBruijn64tab", laid_math_bits_deBruijn64tab)], narrowed := true }
def MlpForwardUptoSaid : Prop := mlpForwardUptoRow.holds Tryz.pinned (OpenSpec.upto mlpForwardSpec)

/-- 'regattalaw07.MlpLosses', WHERE WHAT IT READS IS OF BULK AT MOST 1048576: true; the input reads as it did. -/
def mlpLossesUptoRow : OpenClaim := { program := "ytdfjnbkkdgolnaagreatdoor", sum := "38a878d9cd9403bf7527190365e6034719758dd443e9f32caf42963b98a4a60d", func := "regatta/regattalaw07.MlpLosses", spec := "mlpLosses", inPlace := ["math/bits.Add64", "math/bits.Sub64"], unfollowed := true, recurses := true, named := ["math/bits.deBruijn64tab"], apart := false, laid := [("math/bits.deBruijn64tab", laid_math_bits_deBruijn64tab)], narrowed := true }
def MlpLossesUptoSaid : Prop := mlpLossesUptoRow.holds Tryz.pinned (OpenSpec.upto mlpLossesSpec)

/-- 'regattalaw07.MlpGradients', WHERE WHAT IT READS IS OF BULK AT MOST 1048576: true; the input reads as it did. -/
def mlpGradientsUptoRow : OpenClaim := { program := "ytdfjnbkkdgolnaagreatdoor", sum := "38a878d9cd9403bf7527190365e6034719758dd443e9f32caf42963b98a4a60d", func := "regatta/regattalaw07.MlpGradients", spec := "mlpGradients", inPlace := ["math/bits.Add64", "math/bits.Sub64"], unfollowed := true, recurses := true, named := ["math/bits.deBruijn64tab"], apart := false, laid := [("math/bits.deBruijn64tab", laid_math_bits_deBruijn64tab)], narrowed := true }
def MlpGradientsUptoSaid : Prop := mlpGradientsUptoRow.holds Tryz.pinned (OpenSpec.upto mlpGradientsSpec)

/-- 'regattalaw07.MlpBatches', WHERE WHAT IT READS IS OF BULK AT MOST 1048576: true; the input reads as it did. -/
def mlpBatchesUptoRow : OpenClaim := { program := "ytdfjnbkkdgolnaagreatdoor", sum := "38a878d9cd9403bf7527190365e6034719758dd443e9f32caf42963b98a4a60d", func := "regatta/regattalaw07.MlpBatches", spec := "mlpBatches", inPlace := ["math/bits.Add64", "math/bits.Sub64"], unfollowed := true, recurses := true, named := ["math/bits.deBruijn64tab", "math/bits.divideError", "math/bits.overflowError"], apart := false, laid := [("math/bits.deBruijn64tab", laid_math_bits_deBruijn64tab)], narrowed := true }
def MlpBatchesUptoSaid : Prop := mlpBatchesUptoRow.holds Tryz.pinned (OpenSpec.upto mlpBatchesSpec)

end Rows
end Go.Proofs.YtdfjnbkkdgolnaaGreatDoor
