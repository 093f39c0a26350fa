/-
  No cell of these rows narrows 'for every input' (looked for: loops, veiled, ifaces, maps, wideKeys, modest, calm, conditions, laid).
  DERIVED. THE GIVEN ROWS OF THIS SEAT. 5 by the template 'for every input the law returns true; each argument reads behind the call as it read before'; 0 by the template 'total and deterministic' (their statements: YtpmlpcejmndidabTotals.lean).
  GIVEN WITH THE SEED: the statements are not yours to turn. If you find one false, say at which input.
  Laid BY PROGRAM, IN A SANDBOX (cutbox-rows.mjs): the forced cells as the released guide's own fill.sh prints them over the translation b3a16d5f2faf64dd… (all of the seat's roots in one cut). By AI agents, Wed Nov 11 2026. No macro, syntax, notation, axiom, sorry.
-/
import Derived.Test.YtpmlpcejmndidabChecked
import GoSem.Claim
import GoSem.ClaimJoined
import GoSem.ClaimMapViews
import Derived.JoinedTies
import Derived.KernelRfl
namespace Go.Proofs.Ytpmlpcejmndidab
/- THE CELL 'sum', in the pinned program and in every row, IS THE sha256 OF THE DUMP (.gsa) THAT YtpmlpcejmndidabProg.lean LOADS. Nothing in Lean hashes anything: it is a label: what it is worth is what the hold of that sum in a sandbox is worth. -/
noncomputable def Try.pinned : Pinned := { name := "ytpmlpcejmndidab", sum := "b3a16d5f2faf64ddb89f01f552460f90a442f839e810396f3ff79ccb28a1d7c6", checked := Try.checked }
namespace Rows
def none {H : Type} : Left H := { results := [], args := [] }

/-- 'regattalaw02.FixFloats': WHATEVER THE INPUT: true; the input reads as it did. -/
def fixFloatsSpec : ChangeSpec := { name := "fixFloats", fn := fun _ => fun
  | [d] => { results := [.lit (.bool true)], args := [d] }
  | _ => none }
def fixFloatsRow : OpenClaim := { program := "ytpmlpcejmndidab", sum := "b3a16d5f2faf64ddb89f01f552460f90a442f839e810396f3ff79ccb28a1d7c6", func := "regatta/regattalaw02.FixFloats", spec := "fixFloats", inPlace := ["math/bits.Add64", "math/bits.Sub64", "math.Float64bits", "math.Float64frombits"], apart := false }
def FixFloatsSaid : Prop := fixFloatsRow.holds Try.pinned (OpenSpec.ofChange fixFloatsSpec)

/-- ITS FALSE NEIGHBOUR: 'it returns false'. Refute it at one input. -/
def fixFloatsWrong : ChangeSpec := { name := "fixFloats", fn := fun _ => fun
  | [d] => { results := [.lit (.bool false)], args := [d] }
  | _ => none }
def FixFloatsWrongFalsely : Prop := fixFloatsRow.holds Try.pinned (OpenSpec.ofChange fixFloatsWrong)

/-- 'regattalaw02.FixTold': WHATEVER THE INPUT: true; the input reads as it did. -/
def fixToldSpec : ChangeSpec := { name := "fixTold", fn := fun _ => fun
  | [d] => { results := [.lit (.bool true)], args := [d] }
  | _ => none }
def fixToldRow : OpenClaim := { program := "ytpmlpcejmndidab", sum := "b3a16d5f2faf64ddb89f01f552460f90a442f839e810396f3ff79ccb28a1d7c6", func := "regatta/regattalaw02.FixTold", spec := "fixTold", inPlace := ["math/bits.Add64", "math/bits.Sub64", "math.Float64bits"], apart := false }
def FixToldSaid : Prop := fixToldRow.holds Try.pinned (OpenSpec.ofChange fixToldSpec)

/-- ITS FALSE NEIGHBOUR: 'it returns false'. Refute it at one input. -/
def fixToldWrong : ChangeSpec := { name := "fixTold", fn := fun _ => fun
  | [d] => { results := [.lit (.bool false)], args := [d] }
  | _ => none }
def FixToldWrongFalsely : Prop := fixToldRow.holds Try.pinned (OpenSpec.ofChange fixToldWrong)

/-- 'regattalaw02.FixAlike': WHATEVER THE INPUT: true; the input reads as it did. -/
def fixAlikeSpec : ChangeSpec := { name := "fixAlike", fn := fun _ => fun
  | [d1, d2] => { results := [.lit (.bool true)], args := [d1, d2] }
  | _ => none }
def fixAlikeRow : OpenClaim := { program := "ytpmlpcejmndidab", sum := "b3a16d5f2faf64ddb89f01f552460f90a442f839e810396f3ff79ccb28a1d7c6", func := "regatta/regattalaw02.FixAlike", spec := "fixAlike", inPlace := ["math/bits.Add64", "math/bits.Sub64", "math.Float64bits"], named := ["math/bits.divideError", "math/bits.overflowError"], apart := false }
def FixAlikeSaid : Prop := fixAlikeRow.holds Try.pinned (OpenSpec.ofChange fixAlikeSpec)

/-- ITS FALSE NEIGHBOUR: 'it returns false'. Refute it at one input. -/
def fixAlikeWrong : ChangeSpec := { name := "fixAlike", fn := fun _ => fun
  | [d1, d2] => { results := [.lit (.bool false)], args := [d1, d2] }
  | _ => none }
def FixAlikeWrongFalsely : Prop := fixAlikeRow.holds Try.pinned (OpenSpec.ofChange fixAlikeWrong)

/-- 'regattalaw02.FixRises': WHATEVER THE INPUT: true; the input reads as it did. -/
def fixRisesSpec : ChangeSpec := { name := "fixRises", fn := fun _ => fun
  | [d1, d2, d3] => { results := [.lit (.bool true)], args := [d1, d2, d3] }
  | _ => none }
def fixRisesRow : OpenClaim := { program := "ytpmlpcejmndidab", sum := "b3a16d5f2faf64ddb89f01f552460f90a442f839e810396f3ff79ccb28a1d7c6", func := "regatta/regattalaw02.FixRises", spec := "fixRises", inPlace := ["math/bits.Add64", "math/bits.Sub64", "math.Float64bits"], apart := false }
def FixRisesSaid : Prop := fixRisesRow.holds Try.pinned (OpenSpec.ofChange fixRisesSpec)

/-- ITS FALSE NEIGHBOUR: 'it returns false'. Refute it at one input. -/
def fixRisesWrong : ChangeSpec := { name := "fixRises", fn := fun _ => fun
  | [d1, d2, d3] => { results := [.lit (.bool false)], args := [d1, d2, d3] }
  | _ => none }
def FixRisesWrongFalsely : Prop := fixRisesRow.holds Try.pinned (OpenSpec.ofChange fixRisesWrong)

/-- 'regattalaw02.FixBack': WHATEVER THE INPUT: true; the input reads as it did. -/
def fixBackSpec : ChangeSpec := { name := "fixBack", fn := fun _ => fun
  | [d] => { results := [.lit (.bool true)], args := [d] }
  | _ => none }
def fixBackRow : OpenClaim := { program := "ytpmlpcejmndidab", sum := "b3a16d5f2faf64ddb89f01f552460f90a442f839e810396f3ff79ccb28a1d7c6", func := "regatta/regattalaw02.FixBack", spec := "fixBack", inPlace := ["math/bits.Add64", "math/bits.Sub64", "math.Float64bits"], apart := false }
def FixBackSaid : Prop := fixBackRow.holds Try.pinned (OpenSpec.ofChange fixBackSpec)

/-- ITS FALSE NEIGHBOUR: 'it returns false'. Refute it at one input. -/
def fixBackWrong : ChangeSpec := { name := "fixBack", fn := fun _ => fun
  | [d] => { results := [.lit (.bool false)], args := [d] }
  | _ => none }
def FixBackWrongFalsely : Prop := fixBackRow.holds Try.pinned (OpenSpec.ofChange fixBackWrong)

/- THE SECOND FORM. 'bulk': how many values and letters a reading holds, each counted each time it is reached (what is shared counts as often as it is met; a slice's spare places count too). A statement '..UptoSaid' is the law's where the arguments, and the package variables that the reading takes, are together of bulk at most 1048576: NARROWER than '..Said'. Prove '..Said' where nothing that the law and all that it calls make is longer than what came in: it says more and counts as full. Else prove '..UptoSaid'. A law counts once. -/
mutual
def uptoBulk {H : Type} : DataW H → Nat
  | .lit (.string bytes) => bytes.length + 1
  | .lit _ => 1
  | .nil => 1
  | .ptr d => uptoBulk d + 1
  | .slice elems spare => uptoBulkAll elems + uptoBulkAll spare + 1
  | .agg parts => uptoBulkAll parts + 1
  | .iface _ d => uptoBulk d + 1
  | .map entries => uptoBulkEntries entries + 1
  | .held _ => 1
def uptoBulkAll {H : Type} : List (DataW H) → Nat
  | [] => 0
  | d :: r => uptoBulk d + uptoBulkAll r
def uptoBulkEntries {H : Type} : List (Lit × DataW H) → Nat
  | [] => 0
  | x :: r => uptoBulkEntry x + uptoBulkEntries r
def uptoBulkEntry {H : Type} : Lit × DataW H → Nat
  | (.string bytes, d) => bytes.length + uptoBulk d + 1
  | (_, d) => uptoBulk d + 1
 end
def uptoSmall : (H : Type) → List (DataW H) → Bool := fun _ ds => decide (uptoBulkAll ds ≤ 1048576)
def OpenSpec.upto (s : _root_.Go.ChangeSpec) : _root_.Go.OpenSpec := { _root_.Go.OpenSpec.ofChange s with cond := some uptoSmall }

/-- 'regattalaw02.FixFloats', WHERE WHAT IT READS IS OF BULK AT MOST 1048576: true; the input reads as it did. -/
def fixFloatsUptoRow : OpenClaim := { program := "ytpmlpcejmndidab", sum := "b3a16d5f2faf64ddb89f01f552460f90a442f839e810396f3ff79ccb28a1d7c6", func := "regatta/regattalaw02.FixFloats", spec := "fixFloats", inPlace := ["math/bits.Add64", "math/bits.Sub64", "math.Float64bits", "math.Float64frombits"], apart := false, narrowed := true }
def FixFloatsUptoSaid : Prop := fixFloatsUptoRow.holds Try.pinned (OpenSpec.upto fixFloatsSpec)

/-- 'regattalaw02.FixTold', WHERE WHAT IT READS IS OF BULK AT MOST 1048576: true; the input reads as it did. -/
def fixToldUptoRow : OpenClaim := { program := "ytpmlpcejmndidab", sum := "b3a16d5f2faf64ddb89f01f552460f90a442f839e810396f3ff79ccb28a1d7c6", func := "regatta/regattalaw02.FixTold", spec := "fixTold", inPlace := ["math/bits.Add64", "math/bits.Sub64", "math.Float64bits"], apart := false, narrowed := true }
def FixToldUptoSaid : Prop := fixToldUptoRow.holds Try.pinned (OpenSpec.upto fixToldSpec)

/-- 'regattalaw02.FixAlike', WHERE WHAT IT READS IS OF BULK AT MOST 1048576: true; the input reads as it did. -/
def fixAlikeUptoRow : OpenClaim := { program := "ytpmlpcejmndidab", sum := "b3a16d5f2faf64ddb89f01f552460f90a442f839e810396f3ff79ccb28a1d7c6", func := "regatta/regattalaw02.FixAlike", spec := "fixAlike", inPlace := ["math/bits.Add64", "math/bits.Sub64", "math.Float64bits"], named := ["math/bits.divideError", "math/bits.overflowError"], apart := false, narrowed := true }
def FixAlikeUptoSaid : Prop := fixAlikeUptoRow.holds Try.pinned (OpenSpec.upto fixAlikeSpec)

/-- 'regattalaw02.FixRises', WHERE WHAT IT READS IS OF BULK AT MOST 1048576: true; the input reads as it did. -/
def fixRisesUptoRow : OpenClaim := { program := "ytpmlpcejmndidab", sum := "b3a16d5f2faf64ddb89f01f552460f90a442f839e810396f3ff79ccb28a1d7c6", func := "regatta/regattalaw02.FixRises", spec := "fixRises", inPlace := ["math/bits.Add64", "math/bits.Sub64", "math.Float64bits"], apart := false, narrowed := true }
def FixRisesUptoSaid : Prop := fixRisesUptoRow.holds Try.pinned (OpenSpec.upto fixRisesSpec)

/-- 'regattalaw02.FixBack', WHERE WHAT IT READS IS OF BULK AT MOST 1048576: true; the input reads as it did. -/
def fixBackUptoRow : OpenClaim := { program := "ytpmlpcejmndidab", sum := "b3a16d5f2faf64ddb89f01f552460f90a442f839e810396f3ff79ccb28a1d7c6", func := "regatta/regattalaw02.FixBack", spec := "fixBack", inPlace := ["math/bits.Add64", "math/bits.Sub64", "math.Float64bits"], apart := false, narrowed := true }
def FixBackUptoSaid : Prop := fixBackUptoRow.holds Try.pinned (OpenSpec.upto fixBackSpec)

end Rows
end Go.Proofs.Ytpmlpcejmndidab
