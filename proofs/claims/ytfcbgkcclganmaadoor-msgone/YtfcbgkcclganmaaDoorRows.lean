/-
  NARROWER THAN 'FOR EVERY INPUT', by the rows' own cells (each row's printed sentence says how): MsgEncodes: laid · MsgDecodes: laid · MsgBack: laid · MsgOne: laid.
  DERIVED. THE GIVEN ROWS OF THIS SEAT. 4 by the template 'for every input the law returns true; each argument reads behind the call as it read before'; 0 by the template 'total and deterministic' (their statements: YtfcbgkcclganmaaDoorTotals.lean).
  GIVEN WITH THE SEED: the statements are not yours to turn. If you find one false, say at which input.
  Laid BY PROGRAM, IN A SANDBOX (cutbox-rows.mjs): the forced cells as the released guide's own fill.sh prints them over the translation 691a029b6e2e1847… (all of the seat's roots in one cut). By AI agents, Wed Nov 11 2026. No macro, syntax, notation, axiom, sorry.
-/
import Derived.Test.YtfcbgkcclganmaaDoorChecked
import GoSem.Claim
import GoSem.ClaimJoined
import GoSem.ClaimMapViews
import Derived.JoinedTies
import Derived.KernelRfl
namespace Go.Proofs.YtfcbgkcclganmaaDoor
/- THE CELL 'sum', in the pinned program and in every row, IS THE sha256 OF THE DUMP (.gsa) THAT YtfcbgkcclganmaaDoorProg.lean LOADS. Nothing in Lean hashes anything: it is a label: what it is worth is what the hold of that sum in a sandbox is worth. -/
noncomputable def Tryd.pinned : Pinned := { name := "ytfcbgkcclganmaadoor", sum := "691a029b6e2e18473f6ef9754945b7b3caf8d69824c7ce61b5ae32b913e4f3bc", checked := Tryd.checked }
namespace Rows
def none {H : Type} : Left H := { results := [], args := [] }

/- WHAT THE LISTED PACKAGE-LEVEL VARIABLES READ AS WHEN THE CALL BEGINS. Each datum BY PROGRAM (the guide's laid-datum.mjs) off the statement by which the dump's own 'gosem.cut.vars' lays the variable. In a bare row this is a premise. The card (YtfcbgkcclganmaaDoorCards.lean) ties it to the program's text. -/
def laid_regatta_crc_halves {H : Type} : DataW H := .agg [.lit (.int .u32 0), .lit (.int .u32 498536548), .lit (.int .u32 997073096), .lit (.int .u32 651767980), .lit (.int .u32 1994146192), .lit (.int .u32 1802195444), .lit (.int .u32 1303535960), .lit (.int .u32 1342533948), .lit (.int .u32 3988292384), .lit (.int .u32 4027552580), .lit (.int .u32 3604390888), .lit (.int .u32 3412177804), .lit (.int .u32 2607071920), .lit (.int .u32 2262029012), .lit (.int .u32 2685067896), .lit (.int .u32 3183342108)]
def laid_regatta_frame_ahead {H : Type} : DataW H := .agg [.lit (.int .u8 82), .lit (.int .u8 71), .lit (.int .u8 1)]

/-- 'regattalaw14.MsgEncodes': WHATEVER THE INPUT: true; the input reads as it did. -/
def msgEncodesSpec : ChangeSpec := { name := "msgEncodes", fn := fun _ => fun
  | [d] => { results := [.lit (.bool true)], args := [d] }
  | _ => none }
def msgEncodesRow : OpenClaim := { program := "ytfcbgkcclganmaadoor", sum := "691a029b6e2e18473f6ef9754945b7b3caf8d69824c7ce61b5ae32b913e4f3bc", func := "regatta/regattalaw14.MsgEncodes", spec := "msgEncodes", unfollowed := true, recurses := true, named := ["regatta/frame.ahead", "regatta/crc.halves"], apart := false, laid := [("regatta/crc.halves", laid_regatta_crc_halves), ("regatta/frame.ahead", laid_regatta_frame_ahead)] }
def MsgEncodesSaid : Prop := msgEncodesRow.holds Tryd.pinned (OpenSpec.ofChange msgEncodesSpec)

/-- ITS FALSE NEIGHBOUR: 'it returns false'. Refute it at one input. -/
def msgEncodesWrong : ChangeSpec := { name := "msgEncodes", fn := fun _ => fun
  | [d] => { results := [.lit (.bool false)], args := [d] }
  | _ => none }
def MsgEncodesWrongFalsely : Prop := msgEncodesRow.holds Tryd.pinned (OpenSpec.ofChange msgEncodesWrong)

/-- 'regattalaw14.MsgDecodes': WHATEVER THE INPUT: true; the input reads as it did. -/
def msgDecodesSpec : ChangeSpec := { name := "msgDecodes", fn := fun _ => fun
  | [d] => { results := [.lit (.bool true)], args := [d] }
  | _ => none }
def msgDecodesRow : OpenClaim := { program := "ytfcbgkcclganmaadoor", sum := "691a029b6e2e18473f6ef9754945b7b3caf8d69824c7ce61b5ae32b913e4f3bc", func := "regatta/regattalaw14.MsgDecodes", spec := "msgDecodes", unfollowed := true, recurses := true, named := ["regatta/frame.ahead", "regatta/crc.halves"], apart := false, laid := [("regatta/crc.halves", laid_regatta_crc_halves), ("regatta/frame.ahead", laid_regatta_frame_ahead)] }
def MsgDecodesSaid : Prop := msgDecodesRow.holds Tryd.pinned (OpenSpec.ofChange msgDecodesSpec)

/-- ITS FALSE NEIGHBOUR: 'it returns false'. Refute it at one input. -/
def msgDecodesWrong : ChangeSpec := { name := "msgDecodes", fn := fun _ => fun
  | [d] => { results := [.lit (.bool false)], args := [d] }
  | _ => none }
def MsgDecodesWrongFalsely : Prop := msgDecodesRow.holds Tryd.pinned (OpenSpec.ofChange msgDecodesWrong)

/-- 'regattalaw14.MsgBack': WHATEVER THE INPUT: true; the input reads as it did. -/
def msgBackSpec : ChangeSpec := { name := "msgBack", fn := fun _ => fun
  | [d1, d2, d3] => { results := [.lit (.bool true)], args := [d1, d2, d3] }
  | _ => none }
def msgBackRow : OpenClaim := { program := "ytfcbgkcclganmaadoor", sum := "691a029b6e2e18473f6ef9754945b7b3caf8d69824c7ce61b5ae32b913e4f3bc", func := "regatta/regattalaw14.MsgBack", spec := "msgBack", unfollowed := true, recurses := true, named := ["regatta/frame.ahead", "regatta/crc.halves"], apart := false, laid := [("regatta/crc.halves", laid_regatta_crc_halves), ("regatta/frame.ahead", laid_regatta_frame_ahead)] }
def MsgBackSaid : Prop := msgBackRow.holds Tryd.pinned (OpenSpec.ofChange msgBackSpec)

/-- ITS FALSE NEIGHBOUR: 'it returns false'. Refute it at one input. -/
def msgBackWrong : ChangeSpec := { name := "msgBack", fn := fun _ => fun
  | [d1, d2, d3] => { results := [.lit (.bool false)], args := [d1, d2, d3] }
  | _ => none }
def MsgBackWrongFalsely : Prop := msgBackRow.holds Tryd.pinned (OpenSpec.ofChange msgBackWrong)

/-- 'regattalaw14.MsgOne': WHATEVER THE INPUT: true; the input reads as it did. -/
def msgOneSpec : ChangeSpec := { name := "msgOne", fn := fun _ => fun
  | [d1, d2] => { results := [.lit (.bool true)], args := [d1, d2] }
  | _ => none }
def msgOneRow : OpenClaim := { program := "ytfcbgkcclganmaadoor", sum := "691a029b6e2e18473f6ef9754945b7b3caf8d69824c7ce61b5ae32b913e4f3bc", func := "regatta/regattalaw14.MsgOne", spec := "msgOne", unfollowed := true, recurses := true, named := ["regatta/frame.ahead", "regatta/crc.halves"], apart := false, laid := [("regatta/crc.halves", laid_regatta_crc_halves), ("regatta/frame.ahead", laid_regatta_frame_ahead)] }
def MsgOneSaid : Prop := msgOneRow.holds Tryd.pinned (OpenSpec.ofChange msgOneSpec)

/-- ITS FALSE NEIGHBOUR: 'it returns false'. Refute it at one input. -/
def msgOneWrong : ChangeSpec := { name := "msgOne", fn := fun _ => fun
  | [d1, d2] => { results := [.lit (.bool false)], args := [d1, d2] }
  | _ => none }
def MsgOneWrongFalsely : Prop := msgOneRow.holds Tryd.pinned (OpenSpec.ofChange msgOneWrong)

/- THE SECOND FORM. 'bulk': how many values and letters a reading holds, each counted each time it is reached (what is shared counts as often as it is met; a slice's spare places count too). A statement '..UptoSaid' is the law's where the arguments, and the package variables that the reading takes, are together of bulk at most 1048576: NARROWER than '..Said'. Prove '..Said' where nothing that the law and all that it calls make is longer than what came in: it says more and counts as full. Else prove '..UptoSaid'. A law counts once. -/
mutual
def uptoBulk {H : Type} : DataW H → Nat
  | .lit (.string bytes) => bytes.length + 1
  | .lit _ => 1
  | .nil => 1
  | .ptr d => uptoBulk d + 1
  | .slice elems spare => uptoBulkAll elems + uptoBulkAll spare + 1
  | .agg parts => uptoBulkAll parts + 1
  | .iface _ d => uptoBulk d + 1
  | .map entries => uptoBulkEntries entries + 1
  | .held _ => 1
def uptoBulkAll {H : Type} : List (DataW H) → Nat
  | [] => 0
  | d :: r => uptoBulk d + uptoBulkAll r
def uptoBulkEntries {H : Type} : List (Lit × DataW H) → Nat
  | [] => 0
  | x :: r => uptoBulkEntry x + uptoBulkEntries r
def uptoBulkEntry {H : Type} : Lit × DataW H → Nat
  | (.string bytes, d) => bytes.length + uptoBulk d + 1
  | (_, d) => uptoBulk d + 1
 end
def uptoSmall : (H : Type) → List (DataW H) → Bool := fun _ ds => decide (uptoBulkAll ds ≤ 1048576)
def OpenSpec.upto (s : _root_.Go.ChangeSpec) : _root_.Go.OpenSpec := { _root_.Go.OpenSpec.ofChange s with cond := some uptoSmall }

/-- 'regattalaw14.MsgEncodes', WHERE WHAT IT READS IS OF BULK AT MOST 1048576: true; the input reads as it did. -/
def msgEncodesUptoRow : OpenClaim := { program := "ytfcbgkcclganmaadoor", sum := "691a029b6e2e18473f6ef9754945b7b3caf8d69824c7ce61b5ae32b913e4f3bc", func := "regatta/regattalaw14.MsgEncodes", spec := "msgEncodes", unfollowed := true, recurses := true, named := ["regatta/frame.ahead", "regatta/crc.halves"], apart := false, laid := [("regatta/crc.halves", laid_regatta_crc_halves), ("regatta/frame.ahead", laid_regatta_frame_ahead)], narrowed := true }
def MsgEncodesUptoSaid : Prop := msgEncodesUptoRow.holds Tryd.pinned (OpenSpec.upto msgEncodesSpec)

/-- 'regattalaw14.MsgDecodes', WHERE WHAT IT READS IS OF BULK AT MOST 1048576: true; the input reads as it did. -/
def msgDecodesUptoRow : OpenClaim := { program := "ytfcbgkcclganmaadoor", sum := "691a029b6e2e18473f6ef9754945b7b3caf8d69824c7ce61b5ae32b913e4f3bc", func := "regatta/regattalaw14.MsgDecodes", spec := "msgDecodes", unfollowed := true, recurses := true, named := ["regatta/frame.ahead", "regatta/crc.halves"], apart := false, laid := [("regatta/crc.halves", laid_regatta_crc_halves), ("regatta/frame.ahead", laid_regatta_frame_ahead)], narrowed := true }
def MsgDecodesUptoSaid : Prop := msgDecodesUptoRow.holds Tryd.pinned (OpenSpec.upto msgDecodesSpec)

/-- 'regattalaw14.MsgBack', WHERE WHAT IT READS IS OF BULK AT MOST 1048576: true; the input reads as it did. -/
def msgBackUptoRow : OpenClaim := { program := "ytfcbgkcclganmaadoor", sum := "691a029b6e2e18473f6ef9754945b7b3caf8d69824c7ce61b5ae32b913e4f3bc", func := "regatta/regattalaw14.MsgBack", spec := "msgBack", unfollowed := true, recurses := true, named := ["regatta/frame.ahead", "regatta/crc.halves"], apart := false, laid := [("regatta/crc.halves", laid_regatta_crc_halves), ("regatta/frame.ahead", laid_regatta_frame_ahead)], narrowed := true }
def MsgBackUptoSaid : Prop := msgBackUptoRow.holds Tryd.pinned (OpenSpec.upto msgBackSpec)

/-- 'regattalaw14.MsgOne', WHERE WHAT IT READS IS OF BULK AT MOST 1048576: true; the input reads as it did. -/
def msgOneUptoRow : OpenClaim := { program := "ytfcbgkcclganmaadoor", sum := "691a029b6e2e18473f6ef9754945b7b3caf8d69824c7ce61b5ae32b913e4f3bc", func := "regatta/regattalaw14.MsgOne", spec := "msgOne", unfollowed := true, recurses := true, named := ["regatta/frame.ahead", "regatta/crc.halves"], apart := false, laid := [("regatta/crc.halves", laid_regatta_crc_halves), ("regatta/frame.ahead", laid_regatta_frame_ahead)], narrowed := true }
def MsgOneUptoSaid : Prop := msgOneUptoRow.holds Tryd.pinned (OpenSpec.upto msgOneSpec)

end Rows
end Go.Proofs.YtfcbgkcclganmaaDoor
