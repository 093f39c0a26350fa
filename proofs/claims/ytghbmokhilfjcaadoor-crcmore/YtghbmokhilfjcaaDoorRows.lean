/-
  NARROWER THAN 'FOR EVERY INPUT', by the rows' own cells (each row's printed sentence says how): CrcOf: laid · CrcMore: laid · CrcJoin: laid · CrcTwo: laid · CrcBursts: laid · CrcLaid: laid.
  DERIVED. THE GIVEN ROWS OF THIS SEAT. 6 by the template 'for every input the law returns true; each argument reads behind the call as it read before'; 0 by the template 'total and deterministic' (their statements: YtghbmokhilfjcaaDoorTotals.lean).
  GIVEN WITH THE SEED: the statements are not yours to turn. If you find one false, say at which input.
  Laid BY PROGRAM, IN A SANDBOX (cutbox-rows.mjs): the forced cells as the released guide's own fill.sh prints them over the translation d631fad9fed9a86b… (all of the seat's roots in one cut). By AI agents, Wed Nov 11 2026. No macro, syntax, notation, axiom, sorry.
-/
import Derived.Test.YtghbmokhilfjcaaDoorChecked
import GoSem.Claim
import GoSem.ClaimJoined
import GoSem.ClaimMapViews
import Derived.JoinedTies
import Derived.KernelRfl
namespace Go.Proofs.YtghbmokhilfjcaaDoor
/- THE CELL 'sum', in the pinned program and in every row, IS THE sha256 OF THE DUMP (.gsa) THAT YtghbmokhilfjcaaDoorProg.lean LOADS. Nothing in Lean hashes anything: it is a label: what it is worth is what the hold of that sum in a sandbox is worth. -/
noncomputable def Tryd.pinned : Pinned := { name := "ytghbmokhilfjcaadoor", sum := "d631fad9fed9a86b0b8b52c1baf1f5cc85da06c6a1352c386601b41e2d53625c", checked := Tryd.checked }
namespace Rows
def none {H : Type} : Left H := { results := [], args := [] }

/- WHAT THE LISTED PACKAGE-LEVEL VARIABLES READ AS WHEN THE CALL BEGINS. Each datum BY PROGRAM (the guide's laid-datum.mjs) off the statement by which the dump's own 'gosem.cut.vars' lays the variable. In a bare row this is a premise. The card (YtghbmokhilfjcaaDoorCards.lean) ties it to the program's text. -/
def laid_regatta_regattaref11_powers {H : Type} : DataW H := .agg [.lit (.int .i64 26), .lit (.int .i64 23), .lit (.int .i64 22), .lit (.int .i64 16), .lit (.int .i64 12), .lit (.int .i64 11), .lit (.int .i64 10), .lit (.int .i64 8), .lit (.int .i64 7), .lit (.int .i64 5), .lit (.int .i64 4), .lit (.int .i64 2), .lit (.int .i64 1), .lit (.int .i64 0)]
def laid_regatta_crc_halves {H : Type} : DataW H := .agg [.lit (.int .u32 0), .lit (.int .u32 498536548), .lit (.int .u32 997073096), .lit (.int .u32 651767980), .lit (.int .u32 1994146192), .lit (.int .u32 1802195444), .lit (.int .u32 1303535960), .lit (.int .u32 1342533948), .lit (.int .u32 3988292384), .lit (.int .u32 4027552580), .lit (.int .u32 3604390888), .lit (.int .u32 3412177804), .lit (.int .u32 2607071920), .lit (.int .u32 2262029012), .lit (.int .u32 2685067896), .lit (.int .u32 3183342108)]

/-- 'regattalaw11.CrcOf': WHATEVER THE INPUT: true; the input reads as it did. -/
def crcOfSpec : ChangeSpec := { name := "crcOf", fn := fun _ => fun
  | [d] => { results := [.lit (.bool true)], args := [d] }
  | _ => none }
def crcOfRow : OpenClaim := { program := "ytghbmokhilfjcaadoor", sum := "d631fad9fed9a86b0b8b52c1baf1f5cc85da06c6a1352c386601b41e2d53625c", func := "regatta/regattalaw11.CrcOf", spec := "crcOf", named := ["regatta/crc.halves", "regatta/regattaref11.powers"], apart := false, laid := [("regatta/regattaref11.powers", laid_regatta_regattaref11_powers), ("regatta/crc.halves", laid_regatta_crc_halves)] }
def CrcOfSaid : Prop := crcOfRow.holds Tryd.pinned (OpenSpec.ofChange crcOfSpec)

/-- ITS FALSE NEIGHBOUR: 'it returns false'. Refute it at one input. -/
def crcOfWrong : ChangeSpec := { name := "crcOf", fn := fun _ => fun
  | [d] => { results := [.lit (.bool false)], args := [d] }
  | _ => none }
def CrcOfWrongFalsely : Prop := crcOfRow.holds Tryd.pinned (OpenSpec.ofChange crcOfWrong)

/-- 'regattalaw11.CrcMore': WHATEVER THE INPUT: true; the input reads as it did. -/
def crcMoreSpec : ChangeSpec := { name := "crcMore", fn := fun _ => fun
  | [d1, d2] => { results := [.lit (.bool true)], args := [d1, d2] }
  | _ => none }
def crcMoreRow : OpenClaim := { program := "ytghbmokhilfjcaadoor", sum := "d631fad9fed9a86b0b8b52c1baf1f5cc85da06c6a1352c386601b41e2d53625c", func := "regatta/regattalaw11.CrcMore", spec := "crcMore", named := ["regatta/crc.halves"], apart := false, laid := [("regatta/crc.halves", laid_regatta_crc_halves)] }
def CrcMoreSaid : Prop := crcMoreRow.holds Tryd.pinned (OpenSpec.ofChange crcMoreSpec)

/-- ITS FALSE NEIGHBOUR: 'it returns false'. Refute it at one input. -/
def crcMoreWrong : ChangeSpec := { name := "crcMore", fn := fun _ => fun
  | [d1, d2] => { results := [.lit (.bool false)], args := [d1, d2] }
  | _ => none }
def CrcMoreWrongFalsely : Prop := crcMoreRow.holds Tryd.pinned (OpenSpec.ofChange crcMoreWrong)

/-- 'regattalaw11.CrcJoin': WHATEVER THE INPUT: true; the input reads as it did. -/
def crcJoinSpec : ChangeSpec := { name := "crcJoin", fn := fun _ => fun
  | [d1, d2, d3] => { results := [.lit (.bool true)], args := [d1, d2, d3] }
  | _ => none }
def crcJoinRow : OpenClaim := { program := "ytghbmokhilfjcaadoor", sum := "d631fad9fed9a86b0b8b52c1baf1f5cc85da06c6a1352c386601b41e2d53625c", func := "regatta/regattalaw11.CrcJoin", spec := "crcJoin", named := ["regatta/crc.halves", "regatta/regattaref11.powers"], apart := false, laid := [("regatta/regattaref11.powers", laid_regatta_regattaref11_powers), ("regatta/crc.halves", laid_regatta_crc_halves)] }
def CrcJoinSaid : Prop := crcJoinRow.holds Tryd.pinned (OpenSpec.ofChange crcJoinSpec)

/-- ITS FALSE NEIGHBOUR: 'it returns false'. Refute it at one input. -/
def crcJoinWrong : ChangeSpec := { name := "crcJoin", fn := fun _ => fun
  | [d1, d2, d3] => { results := [.lit (.bool false)], args := [d1, d2, d3] }
  | _ => none }
def CrcJoinWrongFalsely : Prop := crcJoinRow.holds Tryd.pinned (OpenSpec.ofChange crcJoinWrong)

/-- 'regattalaw11.CrcTwo': WHATEVER THE INPUT: true; the input reads as it did. -/
def crcTwoSpec : ChangeSpec := { name := "crcTwo", fn := fun _ => fun
  | [d1, d2] => { results := [.lit (.bool true)], args := [d1, d2] }
  | _ => none }
def crcTwoRow : OpenClaim := { program := "ytghbmokhilfjcaadoor", sum := "d631fad9fed9a86b0b8b52c1baf1f5cc85da06c6a1352c386601b41e2d53625c", func := "regatta/regattalaw11.CrcTwo", spec := "crcTwo", named := ["regatta/crc.halves"], apart := false, laid := [("regatta/crc.halves", laid_regatta_crc_halves)] }
def CrcTwoSaid : Prop := crcTwoRow.holds Tryd.pinned (OpenSpec.ofChange crcTwoSpec)

/-- ITS FALSE NEIGHBOUR: 'it returns false'. Refute it at one input. -/
def crcTwoWrong : ChangeSpec := { name := "crcTwo", fn := fun _ => fun
  | [d1, d2] => { results := [.lit (.bool false)], args := [d1, d2] }
  | _ => none }
def CrcTwoWrongFalsely : Prop := crcTwoRow.holds Tryd.pinned (OpenSpec.ofChange crcTwoWrong)

/-- 'regattalaw11.CrcBursts': WHATEVER THE INPUT: true; the input reads as it did. -/
def crcBurstsSpec : ChangeSpec := { name := "crcBursts", fn := fun _ => fun
  | [d1, d2, d3] => { results := [.lit (.bool true)], args := [d1, d2, d3] }
  | _ => none }
def crcBurstsRow : OpenClaim := { program := "ytghbmokhilfjcaadoor", sum := "d631fad9fed9a86b0b8b52c1baf1f5cc85da06c6a1352c386601b41e2d53625c", func := "regatta/regattalaw11.CrcBursts", spec := "crcBursts", named := ["regatta/crc.halves"], apart := false, laid := [("regatta/crc.halves", laid_regatta_crc_halves)] }
def CrcBurstsSaid : Prop := crcBurstsRow.holds Tryd.pinned (OpenSpec.ofChange crcBurstsSpec)

/-- ITS FALSE NEIGHBOUR: 'it returns false'. Refute it at one input. -/
def crcBurstsWrong : ChangeSpec := { name := "crcBursts", fn := fun _ => fun
  | [d1, d2, d3] => { results := [.lit (.bool false)], args := [d1, d2, d3] }
  | _ => none }
def CrcBurstsWrongFalsely : Prop := crcBurstsRow.holds Tryd.pinned (OpenSpec.ofChange crcBurstsWrong)

/-- 'regattalaw11.CrcLaid': WHATEVER THE INPUT: true; the input reads as it did. -/
def crcLaidSpec : ChangeSpec := { name := "crcLaid", fn := fun _ => fun
  | [d] => { results := [.lit (.bool true)], args := [d] }
  | _ => none }
def crcLaidRow : OpenClaim := { program := "ytghbmokhilfjcaadoor", sum := "d631fad9fed9a86b0b8b52c1baf1f5cc85da06c6a1352c386601b41e2d53625c", func := "regatta/regattalaw11.CrcLaid", spec := "crcLaid", named := ["regatta/crc.halves"], apart := false, laid := [("regatta/crc.halves", laid_regatta_crc_halves)] }
def CrcLaidSaid : Prop := crcLaidRow.holds Tryd.pinned (OpenSpec.ofChange crcLaidSpec)

/-- ITS FALSE NEIGHBOUR: 'it returns false'. Refute it at one input. -/
def crcLaidWrong : ChangeSpec := { name := "crcLaid", fn := fun _ => fun
  | [d] => { results := [.lit (.bool false)], args := [d] }
  | _ => none }
def CrcLaidWrongFalsely : Prop := crcLaidRow.holds Tryd.pinned (OpenSpec.ofChange crcLaidWrong)

/- THE SECOND FORM. 'bulk': how many values and letters a reading holds, each counted each time it is reached (what is shared counts as often as it is met; a slice's spare places count too). A statement '..UptoSaid' is the law's where the arguments, and the package variables that the reading takes, are together of bulk at most 1048576: NARROWER than '..Said'. Prove '..Said' where nothing that the law and all that it calls make is longer than what came in: it says more and counts as full. Else prove '..UptoSaid'. A law counts once. -/
mutual
def uptoBulk {H : Type} : DataW H → Nat
  | .lit (.string bytes) => bytes.length + 1
  | .lit _ => 1
  | .nil => 1
  | .ptr d => uptoBulk d + 1
  | .slice elems spare => uptoBulkAll elems + uptoBulkAll spare + 1
  | .agg parts => uptoBulkAll parts + 1
  | .iface _ d => uptoBulk d + 1
  | .map entries => uptoBulkEntries entries + 1
  | .held _ => 1
def uptoBulkAll {H : Type} : List (DataW H) → Nat
  | [] => 0
  | d :: r => uptoBulk d + uptoBulkAll r
def uptoBulkEntries {H : Type} : List (Lit × DataW H) → Nat
  | [] => 0
  | x :: r => uptoBulkEntry x + uptoBulkEntries r
def uptoBulkEntry {H : Type} : Lit × DataW H → Nat
  | (.string bytes, d) => bytes.length + uptoBulk d + 1
  | (_, d) => uptoBulk d + 1
 end
def uptoSmall : (H : Type) → List (DataW H) → Bool := fun _ ds => decide (uptoBulkAll ds ≤ 1048576)
def OpenSpec.upto (s : _root_.Go.ChangeSpec) : _root_.Go.OpenSpec := { _root_.Go.OpenSpec.ofChange s with cond := some uptoSmall }

/-- 'regattalaw11.CrcOf', WHERE WHAT IT READS IS OF BULK AT MOST 1048576: true; the input reads as it did. -/
def crcOfUptoRow : OpenClaim := { program := "ytghbmokhilfjcaadoor", sum := "d631fad9fed9a86b0b8b52c1baf1f5cc85da06c6a1352c386601b41e2d53625c", func := "regatta/regattalaw11.CrcOf", spec := "crcOf", named := ["regatta/crc.halves", "regatta/regattaref11.powers"], apart := false, laid := [("regatta/regattaref11.powers", laid_regatta_regattaref11_powers), ("regatta/crc.halves", laid_regatta_crc_halves)], narrowed := true }
def CrcOfUptoSaid : Prop := crcOfUptoRow.holds Tryd.pinned (OpenSpec.upto crcOfSpec)

/-- 'regattalaw11.CrcMore', WHERE WHAT IT READS IS OF BULK AT MOST 1048576: true; the input reads as it did. -/
def crcMoreUptoRow : OpenClaim := { program := "ytghbmokhilfjcaadoor", sum := "d631fad9fed9a86b0b8b52c1baf1f5cc85da06c6a1352c386601b41e2d53625c", func := "regatta/regattalaw11.CrcMore", spec := "crcMore", named := ["regatta/crc.halves"], apart := false, laid := [("regatta/crc.halves", laid_regatta_crc_halves)], narrowed := true }
def CrcMoreUptoSaid : Prop := crcMoreUptoRow.holds Tryd.pinned (OpenSpec.upto crcMoreSpec)

/-- 'regattalaw11.CrcJoin', WHERE WHAT IT READS IS OF BULK AT MOST 1048576: true; the input reads as it did. -/
def crcJoinUptoRow : OpenClaim := { program := "ytghbmokhilfjcaadoor", sum := "d631fad9fed9a86b0b8b52c1baf1f5cc85da06c6a1352c386601b41e2d53625c", func := "regatta/regattalaw11.CrcJoin", spec := "crcJoin", named := ["regatta/crc.halves", "regatta/regattaref11.powers"], apart := false, laid := [("regatta/regattaref11.powers", laid_regatta_regattaref11_powers), ("regatta/crc.halves", laid_regatta_crc_halves)], narrowed := true }
def CrcJoinUptoSaid : Prop := crcJoinUptoRow.holds Tryd.pinned (OpenSpec.upto crcJoinSpec)

/-- 'regattalaw11.CrcTwo', WHERE WHAT IT READS IS OF BULK AT MOST 1048576: true; the input reads as it did. -/
def crcTwoUptoRow : OpenClaim := { program := "ytghbmokhilfjcaadoor", sum := "d631fad9fed9a86b0b8b52c1baf1f5cc85da06c6a1352c386601b41e2d53625c", func := "regatta/regattalaw11.CrcTwo", spec := "crcTwo", named := ["regatta/crc.halves"], apart := false, laid := [("regatta/crc.halves", laid_regatta_crc_halves)], narrowed := true }
def CrcTwoUptoSaid : Prop := crcTwoUptoRow.holds Tryd.pinned (OpenSpec.upto crcTwoSpec)

/-- 'regattalaw11.CrcBursts', WHERE WHAT IT READS IS OF BULK AT MOST 1048576: true; the input reads as it did. -/
def crcBurstsUptoRow : OpenClaim := { program := "ytghbmokhilfjcaadoor", sum := "d631fad9fed9a86b0b8b52c1baf1f5cc85da06c6a1352c386601b41e2d53625c", func := "regatta/regattalaw11.CrcBursts", spec := "crcBursts", named := ["regatta/crc.halves"], apart := false, laid := [("regatta/crc.halves", laid_regatta_crc_halves)], narrowed := true }
def CrcBurstsUptoSaid : Prop := crcBurstsUptoRow.holds Tryd.pinned (OpenSpec.upto crcBurstsSpec)

/-- 'regattalaw11.CrcLaid', WHERE WHAT IT READS IS OF BULK AT MOST 1048576: true; the input reads as it did. -/
def crcLaidUptoRow : OpenClaim := { program := "ytghbmokhilfjcaadoor", sum := "d631fad9fed9a86b0b8b52c1baf1f5cc85da06c6a1352c386601b41e2d53625c", func := "regatta/regattalaw11.CrcLaid", spec := "crcLaid", named := ["regatta/crc.halves"], apart := false, laid := [("regatta/crc.halves", laid_regatta_crc_halves)], narrowed := true }
def CrcLaidUptoSaid : Prop := crcLaidUptoRow.holds Tryd.pinned (OpenSpec.upto crcLaidSpec)

end Rows
end Go.Proofs.YtghbmokhilfjcaaDoor
