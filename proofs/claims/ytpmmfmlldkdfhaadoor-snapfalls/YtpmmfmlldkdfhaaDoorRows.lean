/-
  NARROWER THAN 'FOR EVERY INPUT', by the rows' own cells (each row's printed sentence says how): SnapPlays: laid · SnapNone: laid · SnapFalls: laid · SnapLast: laid.
  DERIVED. THE GIVEN ROWS OF THIS SEAT. 4 by the template 'for every input the law returns true; each argument reads behind the call as it read before'; 0 by the template 'total and deterministic' (their statements: YtpmmfmlldkdfhaaDoorTotals.lean).
  GIVEN WITH THE SEED: the statements are not yours to turn. If you find one false, say at which input.
  Laid BY PROGRAM, IN A SANDBOX (cutbox-rows.mjs): the forced cells as the released guide's own fill.sh prints them over the translation 198b47c5732882e2… (all of the seat's roots in one cut). By AI agents, Wed Nov 11 2026. No macro, syntax, notation, axiom, sorry.
-/
import Derived.Test.YtpmmfmlldkdfhaaDoorChecked
import GoSem.Claim
import GoSem.ClaimJoined
import GoSem.ClaimMapViews
import Derived.JoinedTies
import Derived.KernelRfl
namespace Go.Proofs.YtpmmfmlldkdfhaaDoor
/- THE CELL 'sum', in the pinned program and in every row, IS THE sha256 OF THE DUMP (.gsa) THAT YtpmmfmlldkdfhaaDoorProg.lean LOADS. Nothing in Lean hashes anything: it is a label: what it is worth is what the hold of that sum in a sandbox is worth. -/
noncomputable def Tryd.pinned : Pinned := { name := "ytpmmfmlldkdfhaadoor", sum := "198b47c5732882e2924353cfcbece2314afac9450e7d7a08f372095a281acf6f", checked := Tryd.checked }
namespace Rows
def none {H : Type} : Left H := { results := [], args := [] }

/- WHAT THE LISTED PACKAGE-LEVEL VARIABLES READ AS WHEN THE CALL BEGINS. Each datum BY PROGRAM (the guide's laid-datum.mjs) off the statement by which the dump's own 'gosem.cut.vars' lays the variable. In a bare row this is a premise. The card (YtpmmfmlldkdfhaaDoorCards.lean) ties it to the program's text. -/
def laid_regatta_crc_halves {H : Type} : DataW H := .agg [.lit (.int .u32 0), .lit (.int .u32 498536548), .lit (.int .u32 997073096), .lit (.int .u32 651767980), .lit (.int .u32 1994146192), .lit (.int .u32 1802195444), .lit (.int .u32 1303535960), .lit (.int .u32 1342533948), .lit (.int .u32 3988292384), .lit (.int .u32 4027552580), .lit (.int .u32 3604390888), .lit (.int .u32 3412177804), .lit (.int .u32 2607071920), .lit (.int .u32 2262029012), .lit (.int .u32 2685067896), .lit (.int .u32 3183342108)]

/-- 'regattalaw16.SnapPlays': WHATEVER THE INPUT: true; the input reads as it did. -/
def snapPlaysSpec : ChangeSpec := { name := "snapPlays", fn := fun _ => fun
  | [d1, d2] => { results := [.lit (.bool true)], args := [d1, d2] }
  | _ => none }
def snapPlaysRow : OpenClaim := { program := "ytpmmfmlldkdfhaadoor", sum := "198b47c5732882e2924353cfcbece2314afac9450e7d7a08f372095a281acf6f", func := "regatta/regattalaw16.SnapPlays", spec := "snapPlays", unfollowed := true, recurses := true, named := ["regatta/crc.halves"], apart := false, laid := [("regatta/crc.halves", laid_regatta_crc_halves)] }
def SnapPlaysSaid : Prop := snapPlaysRow.holds Tryd.pinned (OpenSpec.ofChange snapPlaysSpec)

/-- ITS FALSE NEIGHBOUR: 'it returns false'. Refute it at one input. -/
def snapPlaysWrong : ChangeSpec := { name := "snapPlays", fn := fun _ => fun
  | [d1, d2] => { results := [.lit (.bool false)], args := [d1, d2] }
  | _ => none }
def SnapPlaysWrongFalsely : Prop := snapPlaysRow.holds Tryd.pinned (OpenSpec.ofChange snapPlaysWrong)

/-- 'regattalaw16.SnapNone': WHATEVER THE INPUT: true; the input reads as it did. -/
def snapNoneSpec : ChangeSpec := { name := "snapNone", fn := fun _ => fun
  | [d1, d2, d3] => { results := [.lit (.bool true)], args := [d1, d2, d3] }
  | _ => none }
def snapNoneRow : OpenClaim := { program := "ytpmmfmlldkdfhaadoor", sum := "198b47c5732882e2924353cfcbece2314afac9450e7d7a08f372095a281acf6f", func := "regatta/regattalaw16.SnapNone", spec := "snapNone", unfollowed := true, recurses := true, named := ["regatta/crc.halves"], apart := false, laid := [("regatta/crc.halves", laid_regatta_crc_halves)] }
def SnapNoneSaid : Prop := snapNoneRow.holds Tryd.pinned (OpenSpec.ofChange snapNoneSpec)

/-- ITS FALSE NEIGHBOUR: 'it returns false'. Refute it at one input. -/
def snapNoneWrong : ChangeSpec := { name := "snapNone", fn := fun _ => fun
  | [d1, d2, d3] => { results := [.lit (.bool false)], args := [d1, d2, d3] }
  | _ => none }
def SnapNoneWrongFalsely : Prop := snapNoneRow.holds Tryd.pinned (OpenSpec.ofChange snapNoneWrong)

/-- 'regattalaw16.SnapFalls': WHATEVER THE INPUT: true; the input reads as it did. -/
def snapFallsSpec : ChangeSpec := { name := "snapFalls", fn := fun _ => fun
  | [d1, d2] => { results := [.lit (.bool true)], args := [d1, d2] }
  | _ => none }
def snapFallsRow : OpenClaim := { program := "ytpmmfmlldkdfhaadoor", sum := "198b47c5732882e2924353cfcbece2314afac9450e7d7a08f372095a281acf6f", func := "regatta/regattalaw16.SnapFalls", spec := "snapFalls", unfollowed := true, recurses := true, named := ["regatta/crc.halves"], apart := false, laid := [("regatta/crc.halves", laid_regatta_crc_halves)] }
def SnapFallsSaid : Prop := snapFallsRow.holds Tryd.pinned (OpenSpec.ofChange snapFallsSpec)

/-- ITS FALSE NEIGHBOUR: 'it returns false'. Refute it at one input. -/
def snapFallsWrong : ChangeSpec := { name := "snapFalls", fn := fun _ => fun
  | [d1, d2] => { results := [.lit (.bool false)], args := [d1, d2] }
  | _ => none }
def SnapFallsWrongFalsely : Prop := snapFallsRow.holds Tryd.pinned (OpenSpec.ofChange snapFallsWrong)

/-- 'regattalaw16.SnapLast': WHATEVER THE INPUT: true; the input reads as it did. -/
def snapLastSpec : ChangeSpec := { name := "snapLast", fn := fun _ => fun
  | [d1, d2] => { results := [.lit (.bool true)], args := [d1, d2] }
  | _ => none }
def snapLastRow : OpenClaim := { program := "ytpmmfmlldkdfhaadoor", sum := "198b47c5732882e2924353cfcbece2314afac9450e7d7a08f372095a281acf6f", func := "regatta/regattalaw16.SnapLast", spec := "snapLast", unfollowed := true, recurses := true, named := ["regatta/crc.halves"], apart := false, laid := [("regatta/crc.halves", laid_regatta_crc_halves)] }
def SnapLastSaid : Prop := snapLastRow.holds Tryd.pinned (OpenSpec.ofChange snapLastSpec)

/-- ITS FALSE NEIGHBOUR: 'it returns false'. Refute it at one input. -/
def snapLastWrong : ChangeSpec := { name := "snapLast", fn := fun _ => fun
  | [d1, d2] => { results := [.lit (.bool false)], args := [d1, d2] }
  | _ => none }
def SnapLastWrongFalsely : Prop := snapLastRow.holds Tryd.pinned (OpenSpec.ofChange snapLastWrong)

/- THE SECOND FORM. 'bulk': how many values and letters a reading holds, each counted each time it is reached (what is shared counts as often as it is met; a slice's spare places count too). A statement '..UptoSaid' is the law's where the arguments, and the package variables that the reading takes, are together of bulk at most 1048576: NARROWER than '..Said'. Prove '..Said' where nothing that the law and all that it calls make is longer than what came in: it says more and counts as full. Else prove '..UptoSaid'. A law counts once. -/
mutual
def uptoBulk {H : Type} : DataW H → Nat
  | .lit (.string bytes) => bytes.length + 1
  | .lit _ => 1
  | .nil => 1
  | .ptr d => uptoBulk d + 1
  | .slice elems spare => uptoBulkAll elems + uptoBulkAll spare + 1
  | .agg parts => uptoBulkAll parts + 1
  | .iface _ d => uptoBulk d + 1
  | .map entries => uptoBulkEntries entries + 1
  | .held _ => 1
def uptoBulkAll {H : Type} : List (DataW H) → Nat
  | [] => 0
  | d :: r => uptoBulk d + uptoBulkAll r
def uptoBulkEntries {H : Type} : List (Lit × DataW H) → Nat
  | [] => 0
  | x :: r => uptoBulkEntry x + uptoBulkEntries r
def uptoBulkEntry {H : Type} : Lit × DataW H → Nat
  | (.string bytes, d) => bytes.length + uptoBulk d + 1
  | (_, d) => uptoBulk d + 1
 end
def uptoSmall : (H : Type) → List (DataW H) → Bool := fun _ ds => decide (uptoBulkAll ds ≤ 1048576)
def OpenSpec.upto (s : _root_.Go.ChangeSpec) : _root_.Go.OpenSpec := { _root_.Go.OpenSpec.ofChange s with cond := some uptoSmall }

/-- 'regattalaw16.SnapPlays', WHERE WHAT IT READS IS OF BULK AT MOST 1048576: true; the input reads as it did. -/
def snapPlaysUptoRow : OpenClaim := { program := "ytpmmfmlldkdfhaadoor", sum := "198b47c5732882e2924353cfcbece2314afac9450e7d7a08f372095a281acf6f", func := "regatta/regattalaw16.SnapPlays", spec := "snapPlays", unfollowed := true, recurses := true, named := ["regatta/crc.halves"], apart := false, laid := [("regatta/crc.halves", laid_regatta_crc_halves)], narrowed := true }
def SnapPlaysUptoSaid : Prop := snapPlaysUptoRow.holds Tryd.pinned (OpenSpec.upto snapPlaysSpec)

/-- 'regattalaw16.SnapNone', WHERE WHAT IT READS IS OF BULK AT MOST 1048576: true; the input reads as it did. -/
def snapNoneUptoRow : OpenClaim := { program := "ytpmmfmlldkdfhaadoor", sum := "198b47c5732882e2924353cfcbece2314afac9450e7d7a08f372095a281acf6f", func := "regatta/regattalaw16.SnapNone", spec := "snapNone", unfollowed := true, recurses := true, named := ["regatta/crc.halves"], apart := false, laid := [("regatta/crc.halves", laid_regatta_crc_halves)], narrowed := true }
def SnapNoneUptoSaid : Prop := snapNoneUptoRow.holds Tryd.pinned (OpenSpec.upto snapNoneSpec)

/-- 'regattalaw16.SnapFalls', WHERE WHAT IT READS IS OF BULK AT MOST 1048576: true; the input reads as it did. -/
def snapFallsUptoRow : OpenClaim := { program := "ytpmmfmlldkdfhaadoor", sum := "198b47c5732882e2924353cfcbece2314afac9450e7d7a08f372095a281acf6f", func := "regatta/regattalaw16.SnapFalls", spec := "snapFalls", unfollowed := true, recurses := true, named := ["regatta/crc.halves"], apart := false, laid := [("regatta/crc.halves", laid_regatta_crc_halves)], narrowed := true }
def SnapFallsUptoSaid : Prop := snapFallsUptoRow.holds Tryd.pinned (OpenSpec.upto snapFallsSpec)

/-- 'regattalaw16.SnapLast', WHERE WHAT IT READS IS OF BULK AT MOST 1048576: true; the input reads as it did. -/
def snapLastUptoRow : OpenClaim := { program := "ytpmmfmlldkdfhaadoor", sum := "198b47c5732882e2924353cfcbece2314afac9450e7d7a08f372095a281acf6f", func := "regatta/regattalaw16.SnapLast", spec := "snapLast", unfollowed := true, recurses := true, named := ["regatta/crc.halves"], apart := false, laid := [("regatta/crc.halves", laid_regatta_crc_halves)], narrowed := true }
def SnapLastUptoSaid : Prop := snapLastUptoRow.holds Tryd.pinned (OpenSpec.upto snapLastSpec)

end Rows
end Go.Proofs.YtpmmfmlldkdfhaaDoor
