/-
  No cell of these rows narrows 'for every input' (looked for: loops, veiled, ifaces, maps, wideKeys, modest, calm, conditions, laid).
  DERIVED. THE GIVEN ROWS OF THIS SEAT. 5 by the template 'for every input the law returns true; each argument reads behind the call as it read before'; 0 by the template 'total and deterministic' (their statements: YtaifihfiompgaaaTotals.lean).
  GIVEN WITH THE SEED: the statements are not yours to turn. If you find one false, say at which input.
  Laid BY PROGRAM, IN A SANDBOX (cutbox-rows.mjs): the forced cells as the released guide's own fill.sh prints them over the translation 95b8a8d7e92e4d54… (all of the seat's roots in one cut). By AI agents, Wed Nov 11 2026. No macro, syntax, notation, axiom, sorry.
-/
import Derived.Test.YtaifihfiompgaaaChecked
import GoSem.Claim
import GoSem.ClaimJoined
import GoSem.ClaimMapViews
import Derived.JoinedTies
import Derived.KernelRfl
namespace Go.Proofs.Ytaifihfiompgaaa
/- THE CELL 'sum', in the pinned program and in every row, IS THE sha256 OF THE DUMP (.gsa) THAT YtaifihfiompgaaaProg.lean LOADS. Nothing in Lean hashes anything: it is a label: what it is worth is what the hold of that sum in a sandbox is worth. -/
noncomputable def Try.pinned : Pinned := { name := "ytaifihfiompgaaa", sum := "95b8a8d7e92e4d5486b3687bb2facd93331c69464c49357f3321089e541f54b5", checked := Try.checked }
namespace Rows
def none {H : Type} : Left H := { results := [], args := [] }

/-- 'regattalaw06.DataOwns': WHATEVER THE INPUT: true; the input reads as it did. -/
def dataOwnsSpec : ChangeSpec := { name := "dataOwns", fn := fun _ => fun
  | [d] => { results := [.lit (.bool true)], args := [d] }
  | _ => none }
def dataOwnsRow : OpenClaim := { program := "ytaifihfiompgaaa", sum := "95b8a8d7e92e4d5486b3687bb2facd93331c69464c49357f3321089e541f54b5", func := "regatta/regattalaw06.DataOwns", spec := "dataOwns", unfollowed := true, recurses := true, apart := false }
def DataOwnsSaid : Prop := dataOwnsRow.holds Try.pinned (OpenSpec.ofChange dataOwnsSpec)

/-- ITS FALSE NEIGHBOUR: 'it returns false'. Refute it at one input. -/
def dataOwnsWrong : ChangeSpec := { name := "dataOwns", fn := fun _ => fun
  | [d] => { results := [.lit (.bool false)], args := [d] }
  | _ => none }
def DataOwnsWrongFalsely : Prop := dataOwnsRow.holds Try.pinned (OpenSpec.ofChange dataOwnsWrong)

/-- 'regattalaw06.DataBatches': WHATEVER THE INPUT: true; the input reads as it did. -/
def dataBatchesSpec : ChangeSpec := { name := "dataBatches", fn := fun _ => fun
  | [d1, d2] => { results := [.lit (.bool true)], args := [d1, d2] }
  | _ => none }
def dataBatchesRow : OpenClaim := { program := "ytaifihfiompgaaa", sum := "95b8a8d7e92e4d5486b3687bb2facd93331c69464c49357f3321089e541f54b5", func := "regatta/regattalaw06.DataBatches", spec := "dataBatches", unfollowed := true, recurses := true, apart := false }
def DataBatchesSaid : Prop := dataBatchesRow.holds Try.pinned (OpenSpec.ofChange dataBatchesSpec)

/-- ITS FALSE NEIGHBOUR: 'it returns false'. Refute it at one input. -/
def dataBatchesWrong : ChangeSpec := { name := "dataBatches", fn := fun _ => fun
  | [d1, d2] => { results := [.lit (.bool false)], args := [d1, d2] }
  | _ => none }
def DataBatchesWrongFalsely : Prop := dataBatchesRow.holds Try.pinned (OpenSpec.ofChange dataBatchesWrong)

/-- 'regattalaw06.DataOwners': WHATEVER THE INPUT: true; the input reads as it did. -/
def dataOwnersSpec : ChangeSpec := { name := "dataOwners", fn := fun _ => fun
  | [d1, d2] => { results := [.lit (.bool true)], args := [d1, d2] }
  | _ => none }
def dataOwnersRow : OpenClaim := { program := "ytaifihfiompgaaa", sum := "95b8a8d7e92e4d5486b3687bb2facd93331c69464c49357f3321089e541f54b5", func := "regatta/regattalaw06.DataOwners", spec := "dataOwners", unfollowed := true, recurses := true, apart := false }
def DataOwnersSaid : Prop := dataOwnersRow.holds Try.pinned (OpenSpec.ofChange dataOwnersSpec)

/-- ITS FALSE NEIGHBOUR: 'it returns false'. Refute it at one input. -/
def dataOwnersWrong : ChangeSpec := { name := "dataOwners", fn := fun _ => fun
  | [d1, d2] => { results := [.lit (.bool false)], args := [d1, d2] }
  | _ => none }
def DataOwnersWrongFalsely : Prop := dataOwnersRow.holds Try.pinned (OpenSpec.ofChange dataOwnersWrong)

/-- 'regattalaw06.DataShards': WHATEVER THE INPUT: true; the input reads as it did. -/
def dataShardsSpec : ChangeSpec := { name := "dataShards", fn := fun _ => fun
  | [d] => { results := [.lit (.bool true)], args := [d] }
  | _ => none }
def dataShardsRow : OpenClaim := { program := "ytaifihfiompgaaa", sum := "95b8a8d7e92e4d5486b3687bb2facd93331c69464c49357f3321089e541f54b5", func := "regatta/regattalaw06.DataShards", spec := "dataShards", unfollowed := true, recurses := true, apart := false }
def DataShardsSaid : Prop := dataShardsRow.holds Try.pinned (OpenSpec.ofChange dataShardsSpec)

/-- ITS FALSE NEIGHBOUR: 'it returns false'. Refute it at one input. -/
def dataShardsWrong : ChangeSpec := { name := "dataShards", fn := fun _ => fun
  | [d] => { results := [.lit (.bool false)], args := [d] }
  | _ => none }
def DataShardsWrongFalsely : Prop := dataShardsRow.holds Try.pinned (OpenSpec.ofChange dataShardsWrong)

/-- 'regattalaw06.DataPasses': WHATEVER THE INPUT: true; the input reads as it did. -/
def dataPassesSpec : ChangeSpec := { name := "dataPasses", fn := fun _ => fun
  | [d1, d2] => { results := [.lit (.bool true)], args := [d1, d2] }
  | _ => none }
def dataPassesRow : OpenClaim := { program := "ytaifihfiompgaaa", sum := "95b8a8d7e92e4d5486b3687bb2facd93331c69464c49357f3321089e541f54b5", func := "regatta/regattalaw06.DataPasses", spec := "dataPasses", unfollowed := true, recurses := true, apart := false }
def DataPassesSaid : Prop := dataPassesRow.holds Try.pinned (OpenSpec.ofChange dataPassesSpec)

/-- ITS FALSE NEIGHBOUR: 'it returns false'. Refute it at one input. -/
def dataPassesWrong : ChangeSpec := { name := "dataPasses", fn := fun _ => fun
  | [d1, d2] => { results := [.lit (.bool false)], args := [d1, d2] }
  | _ => none }
def DataPassesWrongFalsely : Prop := dataPassesRow.holds Try.pinned (OpenSpec.ofChange dataPassesWrong)

/- THE SECOND FORM. 'bulk': how many values and letters a reading holds, each counted each time it is reached (what is shared counts as often as it is met; a slice's spare places count too). A statement '..UptoSaid' is the law's where the arguments, and the package variables that the reading takes, are together of bulk at most 1048576: NARROWER than '..Said'. Prove '..Said' where nothing that the law and all that it calls make is longer than what came in: it says more and counts as full. Else prove '..UptoSaid'. A law counts once. -/
mutual
def uptoBulk {H : Type} : DataW H → Nat
  | .lit (.string bytes) => bytes.length + 1
  | .lit _ => 1
  | .nil => 1
  | .ptr d => uptoBulk d + 1
  | .slice elems spare => uptoBulkAll elems + uptoBulkAll spare + 1
  | .agg parts => uptoBulkAll parts + 1
  | .iface _ d => uptoBulk d + 1
  | .map entries => uptoBulkEntries entries + 1
  | .held _ => 1
def uptoBulkAll {H : Type} : List (DataW H) → Nat
  | [] => 0
  | d :: r => uptoBulk d + uptoBulkAll r
def uptoBulkEntries {H : Type} : List (Lit × DataW H) → Nat
  | [] => 0
  | x :: r => uptoBulkEntry x + uptoBulkEntries r
def uptoBulkEntry {H : Type} : Lit × DataW H → Nat
  | (.string bytes, d) => bytes.length + uptoBulk d + 1
  | (_, d) => uptoBulk d + 1
 end
def uptoSmall : (H : Type) → List (DataW H) → Bool := fun _ ds => decide (uptoBulkAll ds ≤ 1048576)
def OpenSpec.upto (s : _root_.Go.ChangeSpec) : _root_.Go.OpenSpec := { _root_.Go.OpenSpec.ofChange s with cond := some uptoSmall }

/-- 'regattalaw06.DataOwns', WHERE WHAT IT READS IS OF BULK AT MOST 1048576: true; the input reads as it did. -/
def dataOwnsUptoRow : OpenClaim := { program := "ytaifihfiompgaaa", sum := "95b8a8d7e92e4d5486b3687bb2facd93331c69464c49357f3321089e541f54b5", func := "regatta/regattalaw06.DataOwns", spec := "dataOwns", unfollowed := true, recurses := true, apart := false, narrowed := true }
def DataOwnsUptoSaid : Prop := dataOwnsUptoRow.holds Try.pinned (OpenSpec.upto dataOwnsSpec)

/-- 'regattalaw06.DataBatches', WHERE WHAT IT READS IS OF BULK AT MOST 1048576: true; the input reads as it did. -/
def dataBatchesUptoRow : OpenClaim := { program := "ytaifihfiompgaaa", sum := "95b8a8d7e92e4d5486b3687bb2facd93331c69464c49357f3321089e541f54b5", func := "regatta/regattalaw06.DataBatches", spec := "dataBatches", unfollowed := true, recurses := true, apart := false, narrowed := true }
def DataBatchesUptoSaid : Prop := dataBatchesUptoRow.holds Try.pinned (OpenSpec.upto dataBatchesSpec)

/-- 'regattalaw06.DataOwners', WHERE WHAT IT READS IS OF BULK AT MOST 1048576: true; the input reads as it did. -/
def dataOwnersUptoRow : OpenClaim := { program := "ytaifihfiompgaaa", sum := "95b8a8d7e92e4d5486b3687bb2facd93331c69464c49357f3321089e541f54b5", func := "regatta/regattalaw06.DataOwners", spec := "dataOwners", unfollowed := true, recurses := true, apart := false, narrowed := true }
def DataOwnersUptoSaid : Prop := dataOwnersUptoRow.holds Try.pinned (OpenSpec.upto dataOwnersSpec)

/-- 'regattalaw06.DataShards', WHERE WHAT IT READS IS OF BULK AT MOST 1048576: true; the input reads as it did. -/
def dataShardsUptoRow : OpenClaim := { program := "ytaifihfiompgaaa", sum := "95b8a8d7e92e4d5486b3687bb2facd93331c69464c49357f3321089e541f54b5", func := "regatta/regattalaw06.DataShards", spec := "dataShards", unfollowed := true, recurses := true, apart := false, narrowed := true }
def DataShardsUptoSaid : Prop := dataShardsUptoRow.holds Try.pinned (OpenSpec.upto dataShardsSpec)

/-- 'regattalaw06.DataPasses', WHERE WHAT IT READS IS OF BULK AT MOST 1048576: true; the input reads as it did. -/
def dataPassesUptoRow : OpenClaim := { program := "ytaifihfiompgaaa", sum := "95b8a8d7e92e4d5486b3687bb2facd93331c69464c49357f3321089e541f54b5", func := "regatta/regattalaw06.DataPasses", spec := "dataPasses", unfollowed := true, recurses := true, apart := false, narrowed := true }
def DataPassesUptoSaid : Prop := dataPassesUptoRow.holds Try.pinned (OpenSpec.upto dataPassesSpec)

end Rows
end Go.Proofs.Ytaifihfiompgaaa
