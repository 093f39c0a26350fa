/-
  NARROWER THAN 'FOR EVERY INPUT', by the rows' own cells (each row's printed sentence says how): JournalPlays: laid · JournalNone: laid · JournalFalls: laid · JournalOrder: laid.
  DERIVED. THE GIVEN ROWS OF THIS SEAT. 4 by the template 'for every input the law returns true; each argument reads behind the call as it read before'; 0 by the template 'total and deterministic' (their statements: YtkbpcmjdfaokhaaDoorTotals.lean).
  GIVEN WITH THE SEED: the statements are not yours to turn. If you find one false, say at which input.
  Laid BY PROGRAM, IN A SANDBOX (cutbox-rows.mjs): the forced cells as the released guide's own fill.sh prints them over the translation 0182ec4faa79912f… (all of the seat's roots in one cut). By AI agents, Wed Nov 11 2026. No macro, syntax, notation, axiom, sorry.
-/
import Derived.Test.YtkbpcmjdfaokhaaDoorChecked
import GoSem.Claim
import GoSem.ClaimJoined
import GoSem.ClaimMapViews
import Derived.JoinedTies
import Derived.KernelRfl
namespace Go.Proofs.YtkbpcmjdfaokhaaDoor
/- THE CELL 'sum', in the pinned program and in every row, IS THE sha256 OF THE DUMP (.gsa) THAT YtkbpcmjdfaokhaaDoorProg.lean LOADS. Nothing in Lean hashes anything: it is a label: what it is worth is what the hold of that sum in a sandbox is worth. -/
noncomputable def Tryd.pinned : Pinned := { name := "ytkbpcmjdfaokhaadoor", sum := "0182ec4faa79912f1df7fb923cf3170166c8fb41878191e526762a292183c5ec", checked := Tryd.checked }
namespace Rows
def none {H : Type} : Left H := { results := [], args := [] }

/- WHAT THE LISTED PACKAGE-LEVEL VARIABLES READ AS WHEN THE CALL BEGINS. Each datum BY PROGRAM (the guide's laid-datum.mjs) off the statement by which the dump's own 'gosem.cut.vars' lays the variable. In a bare row this is a premise. The card (YtkbpcmjdfaokhaaDoorCards.lean) ties it to the program's text. -/
def laid_regatta_journal_widths {H : Type} : DataW H := .agg [.lit (.int .i64 4), .lit (.int .i64 2), .lit (.int .i64 2), .lit (.int .i64 8), .lit (.int .i64 8)]

/-- 'regattalaw17.JournalPlays': WHATEVER THE INPUT: true; the input reads as it did. -/
def journalPlaysSpec : ChangeSpec := { name := "journalPlays", fn := fun _ => fun
  | [d1, d2] => { results := [.lit (.bool true)], args := [d1, d2] }
  | _ => none }
def journalPlaysRow : OpenClaim := { program := "ytkbpcmjdfaokhaadoor", sum := "0182ec4faa79912f1df7fb923cf3170166c8fb41878191e526762a292183c5ec", func := "regatta/regattalaw17.JournalPlays", spec := "journalPlays", unfollowed := true, recurses := true, named := ["regatta/journal.widths"], apart := false, laid := [("regatta/journal.widths", laid_regatta_journal_widths)] }
def JournalPlaysSaid : Prop := journalPlaysRow.holds Tryd.pinned (OpenSpec.ofChange journalPlaysSpec)

/-- ITS FALSE NEIGHBOUR: 'it returns false'. Refute it at one input. -/
def journalPlaysWrong : ChangeSpec := { name := "journalPlays", fn := fun _ => fun
  | [d1, d2] => { results := [.lit (.bool false)], args := [d1, d2] }
  | _ => none }
def JournalPlaysWrongFalsely : Prop := journalPlaysRow.holds Tryd.pinned (OpenSpec.ofChange journalPlaysWrong)

/-- 'regattalaw17.JournalNone': WHATEVER THE INPUT: true; the input reads as it did. -/
def journalNoneSpec : ChangeSpec := { name := "journalNone", fn := fun _ => fun
  | [d1, d2, d3] => { results := [.lit (.bool true)], args := [d1, d2, d3] }
  | _ => none }
def journalNoneRow : OpenClaim := { program := "ytkbpcmjdfaokhaadoor", sum := "0182ec4faa79912f1df7fb923cf3170166c8fb41878191e526762a292183c5ec", func := "regatta/regattalaw17.JournalNone", spec := "journalNone", unfollowed := true, recurses := true, named := ["regatta/journal.widths"], apart := false, laid := [("regatta/journal.widths", laid_regatta_journal_widths)] }
def JournalNoneSaid : Prop := journalNoneRow.holds Tryd.pinned (OpenSpec.ofChange journalNoneSpec)

/-- ITS FALSE NEIGHBOUR: 'it returns false'. Refute it at one input. -/
def journalNoneWrong : ChangeSpec := { name := "journalNone", fn := fun _ => fun
  | [d1, d2, d3] => { results := [.lit (.bool false)], args := [d1, d2, d3] }
  | _ => none }
def JournalNoneWrongFalsely : Prop := journalNoneRow.holds Tryd.pinned (OpenSpec.ofChange journalNoneWrong)

/-- 'regattalaw17.JournalFalls': WHATEVER THE INPUT: true; the input reads as it did. -/
def journalFallsSpec : ChangeSpec := { name := "journalFalls", fn := fun _ => fun
  | [d1, d2] => { results := [.lit (.bool true)], args := [d1, d2] }
  | _ => none }
def journalFallsRow : OpenClaim := { program := "ytkbpcmjdfaokhaadoor", sum := "0182ec4faa79912f1df7fb923cf3170166c8fb41878191e526762a292183c5ec", func := "regatta/regattalaw17.JournalFalls", spec := "journalFalls", unfollowed := true, recurses := true, named := ["regatta/journal.widths"], apart := false, laid := [("regatta/journal.widths", laid_regatta_journal_widths)] }
def JournalFallsSaid : Prop := journalFallsRow.holds Tryd.pinned (OpenSpec.ofChange journalFallsSpec)

/-- ITS FALSE NEIGHBOUR: 'it returns false'. Refute it at one input. -/
def journalFallsWrong : ChangeSpec := { name := "journalFalls", fn := fun _ => fun
  | [d1, d2] => { results := [.lit (.bool false)], args := [d1, d2] }
  | _ => none }
def JournalFallsWrongFalsely : Prop := journalFallsRow.holds Tryd.pinned (OpenSpec.ofChange journalFallsWrong)

/-- 'regattalaw17.JournalOrder': WHATEVER THE INPUT: true; the input reads as it did. -/
def journalOrderSpec : ChangeSpec := { name := "journalOrder", fn := fun _ => fun
  | [d1, d2] => { results := [.lit (.bool true)], args := [d1, d2] }
  | _ => none }
def journalOrderRow : OpenClaim := { program := "ytkbpcmjdfaokhaadoor", sum := "0182ec4faa79912f1df7fb923cf3170166c8fb41878191e526762a292183c5ec", func := "regatta/regattalaw17.JournalOrder", spec := "journalOrder", unfollowed := true, recurses := true, named := ["regatta/journal.widths"], apart := false, laid := [("regatta/journal.widths", laid_regatta_journal_widths)] }
def JournalOrderSaid : Prop := journalOrderRow.holds Tryd.pinned (OpenSpec.ofChange journalOrderSpec)

/-- ITS FALSE NEIGHBOUR: 'it returns false'. Refute it at one input. -/
def journalOrderWrong : ChangeSpec := { name := "journalOrder", fn := fun _ => fun
  | [d1, d2] => { results := [.lit (.bool false)], args := [d1, d2] }
  | _ => none }
def JournalOrderWrongFalsely : Prop := journalOrderRow.holds Tryd.pinned (OpenSpec.ofChange journalOrderWrong)

/- THE SECOND FORM. 'bulk': how many values and letters a reading holds, each counted each time it is reached (what is shared counts as often as it is met; a slice's spare places count too). A statement '..UptoSaid' is the law's where the arguments, and the package variables that the reading takes, are together of bulk at most 1048576: NARROWER than '..Said'. Prove '..Said' where nothing that the law and all that it calls make is longer than what came in: it says more and counts as full. Else prove '..UptoSaid'. A law counts once. -/
mutual
def uptoBulk {H : Type} : DataW H → Nat
  | .lit (.string bytes) => bytes.length + 1
  | .lit _ => 1
  | .nil => 1
  | .ptr d => uptoBulk d + 1
  | .slice elems spare => uptoBulkAll elems + uptoBulkAll spare + 1
  | .agg parts => uptoBulkAll parts + 1
  | .iface _ d => uptoBulk d + 1
  | .map entries => uptoBulkEntries entries + 1
  | .held _ => 1
def uptoBulkAll {H : Type} : List (DataW H) → Nat
  | [] => 0
  | d :: r => uptoBulk d + uptoBulkAll r
def uptoBulkEntries {H : Type} : List (Lit × DataW H) → Nat
  | [] => 0
  | x :: r => uptoBulkEntry x + uptoBulkEntries r
def uptoBulkEntry {H : Type} : Lit × DataW H → Nat
  | (.string bytes, d) => bytes.length + uptoBulk d + 1
  | (_, d) => uptoBulk d + 1
 end
def uptoSmall : (H : Type) → List (DataW H) → Bool := fun _ ds => decide (uptoBulkAll ds ≤ 1048576)
def OpenSpec.upto (s : _root_.Go.ChangeSpec) : _root_.Go.OpenSpec := { _root_.Go.OpenSpec.ofChange s with cond := some uptoSmall }

/-- 'regattalaw17.JournalPlays', WHERE WHAT IT READS IS OF BULK AT MOST 1048576: true; the input reads as it did. -/
def journalPlaysUptoRow : OpenClaim := { program := "ytkbpcmjdfaokhaadoor", sum := "0182ec4faa79912f1df7fb923cf3170166c8fb41878191e526762a292183c5ec", func := "regatta/regattalaw17.JournalPlays", spec := "journalPlays", unfollowed := true, recurses := true, named := ["regatta/journal.widths"], apart := false, laid := [("regatta/journal.widths", laid_regatta_journal_widths)], narrowed := true }
def JournalPlaysUptoSaid : Prop := journalPlaysUptoRow.holds Tryd.pinned (OpenSpec.upto journalPlaysSpec)

/-- 'regattalaw17.JournalNone', WHERE WHAT IT READS IS OF BULK AT MOST 1048576: true; the input reads as it did. -/
def journalNoneUptoRow : OpenClaim := { program := "ytkbpcmjdfaokhaadoor", sum := "0182ec4faa79912f1df7fb923cf3170166c8fb41878191e526762a292183c5ec", func := "regatta/regattalaw17.JournalNone", spec := "journalNone", unfollowed := true, recurses := true, named := ["regatta/journal.widths"], apart := false, laid := [("regatta/journal.widths", laid_regatta_journal_widths)], narrowed := true }
def JournalNoneUptoSaid : Prop := journalNoneUptoRow.holds Tryd.pinned (OpenSpec.upto journalNoneSpec)

/-- 'regattalaw17.JournalFalls', WHERE WHAT IT READS IS OF BULK AT MOST 1048576: true; the input reads as it did. -/
def journalFallsUptoRow : OpenClaim := { program := "ytkbpcmjdfaokhaadoor", sum := "0182ec4faa79912f1df7fb923cf3170166c8fb41878191e526762a292183c5ec", func := "regatta/regattalaw17.JournalFalls", spec := "journalFalls", unfollowed := true, recurses := true, named := ["regatta/journal.widths"], apart := false, laid := [("regatta/journal.widths", laid_regatta_journal_widths)], narrowed := true }
def JournalFallsUptoSaid : Prop := journalFallsUptoRow.holds Tryd.pinned (OpenSpec.upto journalFallsSpec)

/-- 'regattalaw17.JournalOrder', WHERE WHAT IT READS IS OF BULK AT MOST 1048576: true; the input reads as it did. -/
def journalOrderUptoRow : OpenClaim := { program := "ytkbpcmjdfaokhaadoor", sum := "0182ec4faa79912f1df7fb923cf3170166c8fb41878191e526762a292183c5ec", func := "regatta/regattalaw17.JournalOrder", spec := "journalOrder", unfollowed := true, recurses := true, named := ["regatta/journal.widths"], apart := false, laid := [("regatta/journal.widths", laid_regatta_journal_widths)], narrowed := true }
def JournalOrderUptoSaid : Prop := journalOrderUptoRow.holds Tryd.pinned (OpenSpec.upto journalOrderSpec)

end Rows
end Go.Proofs.YtkbpcmjdfaokhaaDoor
