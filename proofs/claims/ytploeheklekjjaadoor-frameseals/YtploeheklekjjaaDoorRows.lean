/-
  NARROWER THAN 'FOR EVERY INPUT', by the rows' own cells (each row's printed sentence says how): FrameSeals: laid · FrameOpens: laid · FrameSplits: laid · FrameHunts: laid · FrameLimits: laid · FrameBack: laid.
  DERIVED. THE GIVEN ROWS OF THIS SEAT. 6 by the template 'for every input the law returns true; each argument reads behind the call as it read before'; 0 by the template 'total and deterministic' (their statements: YtploeheklekjjaaDoorTotals.lean).
  GIVEN WITH THE SEED: the statements are not yours to turn. If you find one false, say at which input.
  Laid BY PROGRAM, IN A SANDBOX (cutbox-rows.mjs): the forced cells as the released guide's own fill.sh prints them over the translation 6628600ed0c022c6… (all of the seat's roots in one cut). By AI agents, Wed Nov 11 2026. No macro, syntax, notation, axiom, sorry.
-/
import Derived.Test.YtploeheklekjjaaDoorChecked
import GoSem.Claim
import GoSem.ClaimJoined
import GoSem.ClaimMapViews
import Derived.JoinedTies
import Derived.KernelRfl
namespace Go.Proofs.YtploeheklekjjaaDoor
/- THE CELL 'sum', in the pinned program and in every row, IS THE sha256 OF THE DUMP (.gsa) THAT YtploeheklekjjaaDoorProg.lean LOADS. Nothing in Lean hashes anything: it is a label: what it is worth is what the hold of that sum in a sandbox is worth. -/
noncomputable def Tryd.pinned : Pinned := { name := "ytploeheklekjjaadoor", sum := "6628600ed0c022c600d9c784332bf6b2be2a9d29ef4bd1f415f3ce11619ca83a", checked := Tryd.checked }
namespace Rows
def none {H : Type} : Left H := { results := [], args := [] }

/- WHAT THE LISTED PACKAGE-LEVEL VARIABLES READ AS WHEN THE CALL BEGINS. Each datum BY PROGRAM (the guide's laid-datum.mjs) off the statement by which the dump's own 'gosem.cut.vars' lays the variable. In a bare row this is a premise. The card (YtploeheklekjjaaDoorCards.lean) ties it to the program's text. -/
def laid_regatta_crc_halves {H : Type} : DataW H := .agg [.lit (.int .u32 0), .lit (.int .u32 498536548), .lit (.int .u32 997073096), .lit (.int .u32 651767980), .lit (.int .u32 1994146192), .lit (.int .u32 1802195444), .lit (.int .u32 1303535960), .lit (.int .u32 1342533948), .lit (.int .u32 3988292384), .lit (.int .u32 4027552580), .lit (.int .u32 3604390888), .lit (.int .u32 3412177804), .lit (.int .u32 2607071920), .lit (.int .u32 2262029012), .lit (.int .u32 2685067896), .lit (.int .u32 3183342108)]
def laid_regatta_frame_ahead {H : Type} : DataW H := .agg [.lit (.int .u8 82), .lit (.int .u8 71), .lit (.int .u8 1)]

/-- 'regattalaw13.FrameSeals': WHATEVER THE INPUT: true; the input reads as it did. -/
def frameSealsSpec : ChangeSpec := { name := "frameSeals", fn := fun _ => fun
  | [d1, d2] => { results := [.lit (.bool true)], args := [d1, d2] }
  | _ => none }
def frameSealsRow : OpenClaim := { program := "ytploeheklekjjaadoor", sum := "6628600ed0c022c600d9c784332bf6b2be2a9d29ef4bd1f415f3ce11619ca83a", func := "regatta/regattalaw13.FrameSeals", spec := "frameSeals", named := ["regatta/frame.ahead", "regatta/crc.halves"], apart := false, laid := [("regatta/crc.halves", laid_regatta_crc_halves), ("regatta/frame.ahead", laid_regatta_frame_ahead)] }
def FrameSealsSaid : Prop := frameSealsRow.holds Tryd.pinned (OpenSpec.ofChange frameSealsSpec)

/-- ITS FALSE NEIGHBOUR: 'it returns false'. Refute it at one input. -/
def frameSealsWrong : ChangeSpec := { name := "frameSeals", fn := fun _ => fun
  | [d1, d2] => { results := [.lit (.bool false)], args := [d1, d2] }
  | _ => none }
def FrameSealsWrongFalsely : Prop := frameSealsRow.holds Tryd.pinned (OpenSpec.ofChange frameSealsWrong)

/-- 'regattalaw13.FrameOpens': WHATEVER THE INPUT: true; the input reads as it did. -/
def frameOpensSpec : ChangeSpec := { name := "frameOpens", fn := fun _ => fun
  | [d] => { results := [.lit (.bool true)], args := [d] }
  | _ => none }
def frameOpensRow : OpenClaim := { program := "ytploeheklekjjaadoor", sum := "6628600ed0c022c600d9c784332bf6b2be2a9d29ef4bd1f415f3ce11619ca83a", func := "regatta/regattalaw13.FrameOpens", spec := "frameOpens", named := ["regatta/frame.ahead", "regatta/crc.halves"], apart := false, laid := [("regatta/crc.halves", laid_regatta_crc_halves), ("regatta/frame.ahead", laid_regatta_frame_ahead)] }
def FrameOpensSaid : Prop := frameOpensRow.holds Tryd.pinned (OpenSpec.ofChange frameOpensSpec)

/-- ITS FALSE NEIGHBOUR: 'it returns false'. Refute it at one input. -/
def frameOpensWrong : ChangeSpec := { name := "frameOpens", fn := fun _ => fun
  | [d] => { results := [.lit (.bool false)], args := [d] }
  | _ => none }
def FrameOpensWrongFalsely : Prop := frameOpensRow.holds Tryd.pinned (OpenSpec.ofChange frameOpensWrong)

/-- 'regattalaw13.FrameSplits': WHATEVER THE INPUT: true; the input reads as it did. -/
def frameSplitsSpec : ChangeSpec := { name := "frameSplits", fn := fun _ => fun
  | [d] => { results := [.lit (.bool true)], args := [d] }
  | _ => none }
def frameSplitsRow : OpenClaim := { program := "ytploeheklekjjaadoor", sum := "6628600ed0c022c600d9c784332bf6b2be2a9d29ef4bd1f415f3ce11619ca83a", func := "regatta/regattalaw13.FrameSplits", spec := "frameSplits", unfollowed := true, recurses := true, named := ["regatta/frame.ahead", "regatta/crc.halves"], apart := false, laid := [("regatta/crc.halves", laid_regatta_crc_halves), ("regatta/frame.ahead", laid_regatta_frame_ahead)] }
def FrameSplitsSaid : Prop := frameSplitsRow.holds Tryd.pinned (OpenSpec.ofChange frameSplitsSpec)

/-- ITS FALSE NEIGHBOUR: 'it returns false'. Refute it at one input. -/
def frameSplitsWrong : ChangeSpec := { name := "frameSplits", fn := fun _ => fun
  | [d] => { results := [.lit (.bool false)], args := [d] }
  | _ => none }
def FrameSplitsWrongFalsely : Prop := frameSplitsRow.holds Tryd.pinned (OpenSpec.ofChange frameSplitsWrong)

/-- 'regattalaw13.FrameHunts': WHATEVER THE INPUT: true; the input reads as it did. -/
def frameHuntsSpec : ChangeSpec := { name := "frameHunts", fn := fun _ => fun
  | [d1, d2] => { results := [.lit (.bool true)], args := [d1, d2] }
  | _ => none }
def frameHuntsRow : OpenClaim := { program := "ytploeheklekjjaadoor", sum := "6628600ed0c022c600d9c784332bf6b2be2a9d29ef4bd1f415f3ce11619ca83a", func := "regatta/regattalaw13.FrameHunts", spec := "frameHunts", unfollowed := true, recurses := true, named := ["regatta/frame.ahead", "regatta/crc.halves"], apart := false, laid := [("regatta/crc.halves", laid_regatta_crc_halves), ("regatta/frame.ahead", laid_regatta_frame_ahead)] }
def FrameHuntsSaid : Prop := frameHuntsRow.holds Tryd.pinned (OpenSpec.ofChange frameHuntsSpec)

/-- ITS FALSE NEIGHBOUR: 'it returns false'. Refute it at one input. -/
def frameHuntsWrong : ChangeSpec := { name := "frameHunts", fn := fun _ => fun
  | [d1, d2] => { results := [.lit (.bool false)], args := [d1, d2] }
  | _ => none }
def FrameHuntsWrongFalsely : Prop := frameHuntsRow.holds Tryd.pinned (OpenSpec.ofChange frameHuntsWrong)

/-- 'regattalaw13.FrameLimits': WHATEVER THE INPUT: true; the input reads as it did. -/
def frameLimitsSpec : ChangeSpec := { name := "frameLimits", fn := fun _ => fun
  | [d] => { results := [.lit (.bool true)], args := [d] }
  | _ => none }
def frameLimitsRow : OpenClaim := { program := "ytploeheklekjjaadoor", sum := "6628600ed0c022c600d9c784332bf6b2be2a9d29ef4bd1f415f3ce11619ca83a", func := "regatta/regattalaw13.FrameLimits", spec := "frameLimits", named := ["regatta/frame.ahead", "regatta/crc.halves"], apart := false, laid := [("regatta/crc.halves", laid_regatta_crc_halves), ("regatta/frame.ahead", laid_regatta_frame_ahead)] }
def FrameLimitsSaid : Prop := frameLimitsRow.holds Tryd.pinned (OpenSpec.ofChange frameLimitsSpec)

/-- ITS FALSE NEIGHBOUR: 'it returns false'. Refute it at one input. -/
def frameLimitsWrong : ChangeSpec := { name := "frameLimits", fn := fun _ => fun
  | [d] => { results := [.lit (.bool false)], args := [d] }
  | _ => none }
def FrameLimitsWrongFalsely : Prop := frameLimitsRow.holds Tryd.pinned (OpenSpec.ofChange frameLimitsWrong)

/-- 'regattalaw13.FrameBack': WHATEVER THE INPUT: true; the input reads as it did. -/
def frameBackSpec : ChangeSpec := { name := "frameBack", fn := fun _ => fun
  | [d1, d2, d3] => { results := [.lit (.bool true)], args := [d1, d2, d3] }
  | _ => none }
def frameBackRow : OpenClaim := { program := "ytploeheklekjjaadoor", sum := "6628600ed0c022c600d9c784332bf6b2be2a9d29ef4bd1f415f3ce11619ca83a", func := "regatta/regattalaw13.FrameBack", spec := "frameBack", named := ["regatta/frame.ahead", "regatta/crc.halves"], apart := false, laid := [("regatta/crc.halves", laid_regatta_crc_halves), ("regatta/frame.ahead", laid_regatta_frame_ahead)] }
def FrameBackSaid : Prop := frameBackRow.holds Tryd.pinned (OpenSpec.ofChange frameBackSpec)

/-- ITS FALSE NEIGHBOUR: 'it returns false'. Refute it at one input. -/
def frameBackWrong : ChangeSpec := { name := "frameBack", fn := fun _ => fun
  | [d1, d2, d3] => { results := [.lit (.bool false)], args := [d1, d2, d3] }
  | _ => none }
def FrameBackWrongFalsely : Prop := frameBackRow.holds Tryd.pinned (OpenSpec.ofChange frameBackWrong)

/- THE SECOND FORM. 'bulk': how many values and letters a reading holds, each counted each time it is reached (what is shared counts as often as it is met; a slice's spare places count too). A statement '..UptoSaid' is the law's where the arguments, and the package variables that the reading takes, are together of bulk at most 1048576: NARROWER than '..Said'. Prove '..Said' where nothing that the law and all that it calls make is longer than what came in: it says more and counts as full. Else prove '..UptoSaid'. A law counts once. -/
mutual
def uptoBulk {H : Type} : DataW H → Nat
  | .lit (.string bytes) => bytes.length + 1
  | .lit _ => 1
  | .nil => 1
  | .ptr d => uptoBulk d + 1
  | .slice elems spare => uptoBulkAll elems + uptoBulkAll spare + 1
  | .agg parts => uptoBulkAll parts + 1
  | .iface _ d => uptoBulk d + 1
  | .map entries => uptoBulkEntries entries + 1
  | .held _ => 1
def uptoBulkAll {H : Type} : List (DataW H) → Nat
  | [] => 0
  | d :: r => uptoBulk d + uptoBulkAll r
def uptoBulkEntries {H : Type} : List (Lit × DataW H) → Nat
  | [] => 0
  | x :: r => uptoBulkEntry x + uptoBulkEntries r
def uptoBulkEntry {H : Type} : Lit × DataW H → Nat
  | (.string bytes, d) => bytes.length + uptoBulk d + 1
  | (_, d) => uptoBulk d + 1
 end
def uptoSmall : (H : Type) → List (DataW H) → Bool := fun _ ds => decide (uptoBulkAll ds ≤ 1048576)
def OpenSpec.upto (s : _root_.Go.ChangeSpec) : _root_.Go.OpenSpec := { _root_.Go.OpenSpec.ofChange s with cond := some uptoSmall }

/-- 'regattalaw13.FrameSeals', WHERE WHAT IT READS IS OF BULK AT MOST 1048576: true; the input reads as it did. -/
def frameSealsUptoRow : OpenClaim := { program := "ytploeheklekjjaadoor", sum := "6628600ed0c022c600d9c784332bf6b2be2a9d29ef4bd1f415f3ce11619ca83a", func := "regatta/regattalaw13.FrameSeals", spec := "frameSeals", named := ["regatta/frame.ahead", "regatta/crc.halves"], apart := false, laid := [("regatta/crc.halves", laid_regatta_crc_halves), ("regatta/frame.ahead", laid_regatta_frame_ahead)], narrowed := true }
def FrameSealsUptoSaid : Prop := frameSealsUptoRow.holds Tryd.pinned (OpenSpec.upto frameSealsSpec)

/-- 'regattalaw13.FrameOpens', WHERE WHAT IT READS IS OF BULK AT MOST 1048576: true; the input reads as it did. -/
def frameOpensUptoRow : OpenClaim := { program := "ytploeheklekjjaadoor", sum := "6628600ed0c022c600d9c784332bf6b2be2a9d29ef4bd1f415f3ce11619ca83a", func := "regatta/regattalaw13.FrameOpens", spec := "frameOpens", named := ["regatta/frame.ahead", "regatta/crc.halves"], apart := false, laid := [("regatta/crc.halves", laid_regatta_crc_halves), ("regatta/frame.ahead", laid_regatta_frame_ahead)], narrowed := true }
def FrameOpensUptoSaid : Prop := frameOpensUptoRow.holds Tryd.pinned (OpenSpec.upto frameOpensSpec)

/-- 'regattalaw13.FrameSplits', WHERE WHAT IT READS IS OF BULK AT MOST 1048576: true; the input reads as it did. -/
def frameSplitsUptoRow : OpenClaim := { program := "ytploeheklekjjaadoor", sum := "6628600ed0c022c600d9c784332bf6b2be2a9d29ef4bd1f415f3ce11619ca83a", func := "regatta/regattalaw13.FrameSplits", spec := "frameSplits", unfollowed := true, recurses := true, named := ["regatta/frame.ahead", "regatta/crc.halves"], apart := false, laid := [("regatta/crc.halves", laid_regatta_crc_halves), ("regatta/frame.ahead", laid_regatta_frame_ahead)], narrowed := true }
def FrameSplitsUptoSaid : Prop := frameSplitsUptoRow.holds Tryd.pinned (OpenSpec.upto frameSplitsSpec)

/-- 'regattalaw13.FrameHunts', WHERE WHAT IT READS IS OF BULK AT MOST 1048576: true; the input reads as it did. -/
def frameHuntsUptoRow : OpenClaim := { program := "ytploeheklekjjaadoor", sum := "6628600ed0c022c600d9c784332bf6b2be2a9d29ef4bd1f415f3ce11619ca83a", func := "regatta/regattalaw13.FrameHunts", spec := "frameHunts", unfollowed := true, recurses := true, named := ["regatta/frame.ahead", "regatta/crc.halves"], apart := false, laid := [("regatta/crc.halves", laid_regatta_crc_halves), ("regatta/frame.ahead", laid_regatta_frame_ahead)], narrowed := true }
def FrameHuntsUptoSaid : Prop := frameHuntsUptoRow.holds Tryd.pinned (OpenSpec.upto frameHuntsSpec)

/-- 'regattalaw13.FrameLimits', WHERE WHAT IT READS IS OF BULK AT MOST 1048576: true; the input reads as it did. -/
def frameLimitsUptoRow : OpenClaim := { program := "ytploeheklekjjaadoor", sum := "6628600ed0c022c600d9c784332bf6b2be2a9d29ef4bd1f415f3ce11619ca83a", func := "regatta/regattalaw13.FrameLimits", spec := "frameLimits", named := ["regatta/frame.ahead", "regatta/crc.halves"], apart := false, laid := [("regatta/crc.halves", laid_regatta_crc_halves), ("regatta/frame.ahead", laid_regatta_frame_ahead)], narrowed := true }
def FrameLimitsUptoSaid : Prop := frameLimitsUptoRow.holds Tryd.pinned (OpenSpec.upto frameLimitsSpec)

/-- 'regattalaw13.FrameBack', WHERE WHAT IT READS IS OF BULK AT MOST 1048576: true; the input reads as it did. -/
def frameBackUptoRow : OpenClaim := { program := "ytploeheklekjjaadoor", sum := "6628600ed0c022c600d9c784332bf6b2be2a9d29ef4bd1f415f3ce11619ca83a", func := "regatta/regattalaw13.FrameBack", spec := "frameBack", named := ["regatta/frame.ahead", "regatta/crc.halves"], apart := false, laid := [("regatta/crc.halves", laid_regatta_crc_halves), ("regatta/frame.ahead", laid_regatta_frame_ahead)], narrowed := true }
def FrameBackUptoSaid : Prop := frameBackUptoRow.holds Tryd.pinned (OpenSpec.upto frameBackSpec)

end Rows
end Go.Proofs.YtploeheklekjjaaDoor
