/-
  No cell of these rows narrows 'for every input' (looked for: loops, veiled, ifaces, maps, wideKeys, modest, calm, conditions, laid).
  DERIVED. THE GIVEN ROWS OF THIS SEAT. 6 by the template 'for every input the law returns true; each argument reads behind the call as it read before'; 0 by the template 'total and deterministic' (their statements: YtbblcecfdlmfmaaTotals.lean).
  GIVEN WITH THE SEED: the statements are not yours to turn. If you find one false, say at which input.
  Laid BY PROGRAM, IN A SANDBOX (cutbox-rows.mjs): the forced cells as the released guide's own fill.sh prints them over the translation 7c358871bc7f1b0a… (all of the seat's roots in one cut). By AI agents, Wed Nov 11 2026. No macro, syntax, notation, axiom, sorry.
-/
import Derived.Test.YtbblcecfdlmfmaaChecked
import GoSem.Claim
import GoSem.ClaimJoined
import GoSem.ClaimMapViews
import Derived.JoinedTies
import Derived.KernelRfl
namespace Go.Proofs.Ytbblcecfdlmfmaa
/- THE CELL 'sum', in the pinned program and in every row, IS THE sha256 OF THE DUMP (.gsa) THAT YtbblcecfdlmfmaaProg.lean LOADS. Nothing in Lean hashes anything: it is a label: what it is worth is what the hold of that sum in a sandbox is worth. -/
noncomputable def Try.pinned : Pinned := { name := "ytbblcecfdlmfmaa", sum := "7c358871bc7f1b0a516127f7583e2e31e1924f1d6353af76a25c89c97e367217", checked := Try.checked }
namespace Rows
def none {H : Type} : Left H := { results := [], args := [] }

/-- 'regattalaw08.SchedRates': WHATEVER THE INPUT: true; the input reads as it did. -/
def schedRatesSpec : ChangeSpec := { name := "schedRates", fn := fun _ => fun
  | [d1, d2] => { results := [.lit (.bool true)], args := [d1, d2] }
  | _ => none }
def schedRatesRow : OpenClaim := { program := "ytbblcecfdlmfmaa", sum := "7c358871bc7f1b0a516127f7583e2e31e1924f1d6353af76a25c89c97e367217", func := "regatta/regattalaw08.SchedRates", spec := "schedRates", inPlace := ["math/bits.Sub64", "math/bits.Add64"], unfollowed := true, recurses := true, named := ["math/bits.divideError", "math/bits.overflowError"], apart := false }
def SchedRatesSaid : Prop := schedRatesRow.holds Try.pinned (OpenSpec.ofChange schedRatesSpec)

/-- ITS FALSE NEIGHBOUR: 'it returns false'. Refute it at one input. -/
def schedRatesWrong : ChangeSpec := { name := "schedRates", fn := fun _ => fun
  | [d1, d2] => { results := [.lit (.bool false)], args := [d1, d2] }
  | _ => none }
def SchedRatesWrongFalsely : Prop := schedRatesRow.holds Try.pinned (OpenSpec.ofChange schedRatesWrong)

/-- 'regattalaw08.SchedPowers': WHATEVER THE INPUT: true; the input reads as it did. -/
def schedPowersSpec : ChangeSpec := { name := "schedPowers", fn := fun _ => fun
  | [d1, d2] => { results := [.lit (.bool true)], args := [d1, d2] }
  | _ => none }
def schedPowersRow : OpenClaim := { program := "ytbblcecfdlmfmaa", sum := "7c358871bc7f1b0a516127f7583e2e31e1924f1d6353af76a25c89c97e367217", func := "regatta/regattalaw08.SchedPowers", spec := "schedPowers", inPlace := ["math/bits.Sub64", "math/bits.Add64"], unfollowed := true, recurses := true, named := ["math/bits.divideError", "math/bits.overflowError"], apart := false }
def SchedPowersSaid : Prop := schedPowersRow.holds Try.pinned (OpenSpec.ofChange schedPowersSpec)

/-- ITS FALSE NEIGHBOUR: 'it returns false'. Refute it at one input. -/
def schedPowersWrong : ChangeSpec := { name := "schedPowers", fn := fun _ => fun
  | [d1, d2] => { results := [.lit (.bool false)], args := [d1, d2] }
  | _ => none }
def SchedPowersWrongFalsely : Prop := schedPowersRow.holds Try.pinned (OpenSpec.ofChange schedPowersWrong)

/-- 'regattalaw08.SchedPaces': WHATEVER THE INPUT: true; the input reads as it did. -/
def schedPacesSpec : ChangeSpec := { name := "schedPaces", fn := fun _ => fun
  | [d1, d2, d3] => { results := [.lit (.bool true)], args := [d1, d2, d3] }
  | _ => none }
def schedPacesRow : OpenClaim := { program := "ytbblcecfdlmfmaa", sum := "7c358871bc7f1b0a516127f7583e2e31e1924f1d6353af76a25c89c97e367217", func := "regatta/regattalaw08.SchedPaces", spec := "schedPaces", inPlace := ["math/bits.Sub64", "math/bits.Add64"], unfollowed := true, recurses := true, named := ["math/bits.divideError", "math/bits.overflowError"], apart := false }
def SchedPacesSaid : Prop := schedPacesRow.holds Try.pinned (OpenSpec.ofChange schedPacesSpec)

/-- ITS FALSE NEIGHBOUR: 'it returns false'. Refute it at one input. -/
def schedPacesWrong : ChangeSpec := { name := "schedPaces", fn := fun _ => fun
  | [d1, d2, d3] => { results := [.lit (.bool false)], args := [d1, d2, d3] }
  | _ => none }
def SchedPacesWrongFalsely : Prop := schedPacesRow.holds Try.pinned (OpenSpec.ofChange schedPacesWrong)

/-- 'regattalaw08.SchedSteps': WHATEVER THE INPUT: true; the input reads as it did. -/
def schedStepsSpec : ChangeSpec := { name := "schedSteps", fn := fun _ => fun
  | [d1, d2] => { results := [.lit (.bool true)], args := [d1, d2] }
  | _ => none }
def schedStepsRow : OpenClaim := { program := "ytbblcecfdlmfmaa", sum := "7c358871bc7f1b0a516127f7583e2e31e1924f1d6353af76a25c89c97e367217", func := "regatta/regattalaw08.SchedSteps", spec := "schedSteps", inPlace := ["math/bits.Sub64", "math/bits.Add64"], unfollowed := true, recurses := true, named := ["math/bits.divideError", "math/bits.overflowError"], apart := false }
def SchedStepsSaid : Prop := schedStepsRow.holds Try.pinned (OpenSpec.ofChange schedStepsSpec)

/-- ITS FALSE NEIGHBOUR: 'it returns false'. Refute it at one input. -/
def schedStepsWrong : ChangeSpec := { name := "schedSteps", fn := fun _ => fun
  | [d1, d2] => { results := [.lit (.bool false)], args := [d1, d2] }
  | _ => none }
def SchedStepsWrongFalsely : Prop := schedStepsRow.holds Try.pinned (OpenSpec.ofChange schedStepsWrong)

/-- 'regattalaw08.SchedWarms': WHATEVER THE INPUT: true; the input reads as it did. -/
def schedWarmsSpec : ChangeSpec := { name := "schedWarms", fn := fun _ => fun
  | [d1, d2] => { results := [.lit (.bool true)], args := [d1, d2] }
  | _ => none }
def schedWarmsRow : OpenClaim := { program := "ytbblcecfdlmfmaa", sum := "7c358871bc7f1b0a516127f7583e2e31e1924f1d6353af76a25c89c97e367217", func := "regatta/regattalaw08.SchedWarms", spec := "schedWarms", inPlace := ["math/bits.Sub64", "math/bits.Add64"], unfollowed := true, recurses := true, named := ["math/bits.divideError", "math/bits.overflowError"], apart := false }
def SchedWarmsSaid : Prop := schedWarmsRow.holds Try.pinned (OpenSpec.ofChange schedWarmsSpec)

/-- ITS FALSE NEIGHBOUR: 'it returns false'. Refute it at one input. -/
def schedWarmsWrong : ChangeSpec := { name := "schedWarms", fn := fun _ => fun
  | [d1, d2] => { results := [.lit (.bool false)], args := [d1, d2] }
  | _ => none }
def SchedWarmsWrongFalsely : Prop := schedWarmsRow.holds Try.pinned (OpenSpec.ofChange schedWarmsWrong)

/-- 'regattalaw08.SchedTimes': WHATEVER THE INPUT: true; the input reads as it did. -/
def schedTimesSpec : ChangeSpec := { name := "schedTimes", fn := fun _ => fun
  | [d1, d2] => { results := [.lit (.bool true)], args := [d1, d2] }
  | _ => none }
def schedTimesRow : OpenClaim := { program := "ytbblcecfdlmfmaa", sum := "7c358871bc7f1b0a516127f7583e2e31e1924f1d6353af76a25c89c97e367217", func := "regatta/regattalaw08.SchedTimes", spec := "schedTimes", inPlace := ["math/bits.Sub64", "math/bits.Add64"], unfollowed := true, recurses := true, named := ["math/bits.divideError", "math/bits.overflowError"], apart := false }
def SchedTimesSaid : Prop := schedTimesRow.holds Try.pinned (OpenSpec.ofChange schedTimesSpec)

/-- ITS FALSE NEIGHBOUR: 'it returns false'. Refute it at one input. -/
def schedTimesWrong : ChangeSpec := { name := "schedTimes", fn := fun _ => fun
  | [d1, d2] => { results := [.lit (.bool false)], args := [d1, d2] }
  | _ => none }
def SchedTimesWrongFalsely : Prop := schedTimesRow.holds Try.pinned (OpenSpec.ofChange schedTimesWrong)

/- THE SECOND FORM. 'bulk': how many values and letters a reading holds, each counted each time it is reached (what is shared counts as often as it is met; a slice's spare places count too). A statement '..UptoSaid' is the law's where the arguments, and the package variables that the reading takes, are together of bulk at most 1048576: NARROWER than '..Said'. Prove '..Said' where nothing that the law and all that it calls make is longer than what came in: it says more and counts as full. Else prove '..UptoSaid'. A law counts once. -/
mutual
def uptoBulk {H : Type} : DataW H → Nat
  | .lit (.string bytes) => bytes.length + 1
  | .lit _ => 1
  | .nil => 1
  | .ptr d => uptoBulk d + 1
  | .slice elems spare => uptoBulkAll elems + uptoBulkAll spare + 1
  | .agg parts => uptoBulkAll parts + 1
  | .iface _ d => uptoBulk d + 1
  | .map entries => uptoBulkEntries entries + 1
  | .held _ => 1
def uptoBulkAll {H : Type} : List (DataW H) → Nat
  | [] => 0
  | d :: r => uptoBulk d + uptoBulkAll r
def uptoBulkEntries {H : Type} : List (Lit × DataW H) → Nat
  | [] => 0
  | x :: r => uptoBulkEntry x + uptoBulkEntries r
def uptoBulkEntry {H : Type} : Lit × DataW H → Nat
  | (.string bytes, d) => bytes.length + uptoBulk d + 1
  | (_, d) => uptoBulk d + 1
 end
def uptoSmall : (H : Type) → List (DataW H) → Bool := fun _ ds => decide (uptoBulkAll ds ≤ 1048576)
def OpenSpec.upto (s : _root_.Go.ChangeSpec) : _root_.Go.OpenSpec := { _root_.Go.OpenSpec.ofChange s with cond := some uptoSmall }

/-- 'regattalaw08.SchedRates', WHERE WHAT IT READS IS OF BULK AT MOST 1048576: true; the input reads as it did. -/
def schedRatesUptoRow : OpenClaim := { program := "ytbblcecfdlmfmaa", sum := "7c358871bc7f1b0a516127f7583e2e31e1924f1d6353af76a25c89c97e367217", func := "regatta/regattalaw08.SchedRates", spec := "schedRates", inPlace := ["math/bits.Sub64", "math/bits.Add64"], unfollowed := true, recurses := true, named := ["math/bits.divideError", "math/bits.overflowError"], apart := false, narrowed := true }
def SchedRatesUptoSaid : Prop := schedRatesUptoRow.holds Try.pinned (OpenSpec.upto schedRatesSpec)

/-- 'regattalaw08.SchedPowers', WHERE WHAT IT READS IS OF BULK AT MOST 1048576: true; the input reads as it did. -/
def schedPowersUptoRow : OpenClaim := { program := "ytbblcecfdlmfmaa", sum := "7c358871bc7f1b0a516127f7583e2e31e1924f1d6353af76a25c89c97e367217", func := "regatta/regattalaw08.SchedPowers", spec := "schedPowers", inPlace := ["math/bits.Sub64", "math/bits.Add64"], unfollowed := true, recurses := true, named := ["math/bits.divideError", "math/bits.overflowError"], apart := false, narrowed := true }
def SchedPowersUptoSaid : Prop := schedPowersUptoRow.holds Try.pinned (OpenSpec.upto schedPowersSpec)

/-- 'regattalaw08.SchedPaces', WHERE WHAT IT READS IS OF BULK AT MOST 1048576: true; the input reads as it did. -/
def schedPacesUptoRow : OpenClaim := { program := "ytbblcecfdlmfmaa", sum := "7c358871bc7f1b0a516127f7583e2e31e1924f1d6353af76a25c89c97e367217", func := "regatta/regattalaw08.SchedPaces", spec := "schedPaces", inPlace := ["math/bits.Sub64", "math/bits.Add64"], unfollowed := true, recurses := true, named := ["math/bits.divideError", "math/bits.overflowError"], apart := false, narrowed := true }
def SchedPacesUptoSaid : Prop := schedPacesUptoRow.holds Try.pinned (OpenSpec.upto schedPacesSpec)

/-- 'regattalaw08.SchedSteps', WHERE WHAT IT READS IS OF BULK AT MOST 1048576: true; the input reads as it did. -/
def schedStepsUptoRow : OpenClaim := { program := "ytbblcecfdlmfmaa", sum := "7c358871bc7f1b0a516127f7583e2e31e1924f1d6353af76a25c89c97e367217", func := "regatta/regattalaw08.SchedSteps", spec := "schedSteps", inPlace := ["math/bits.Sub64", "math/bits.Add64"], unfollowed := true, recurses := true, named := ["math/bits.divideError", "math/bits.overflowError"], apart := false, narrowed := true }
def SchedStepsUptoSaid : Prop := schedStepsUptoRow.holds Try.pinned (OpenSpec.upto schedStepsSpec)

/-- 'regattalaw08.SchedWarms', WHERE WHAT IT READS IS OF BULK AT MOST 1048576: true; the input reads as it did. -/
def schedWarmsUptoRow : OpenClaim := { program := "ytbblcecfdlmfmaa", sum := "7c358871bc7f1b0a516127f7583e2e31e1924f1d6353af76a25c89c97e367217", func := "regatta/regattalaw08.SchedWarms", spec := "schedWarms", inPlace := ["math/bits.Sub64", "math/bits.Add64"], unfollowed := true, recurses := true, named := ["math/bits.divideError", "math/bits.overflowError"], apart := false, narrowed := true }
def SchedWarmsUptoSaid : Prop := schedWarmsUptoRow.holds Try.pinned (OpenSpec.upto schedWarmsSpec)

/-- 'regattalaw08.SchedTimes', WHERE WHAT IT READS IS OF BULK AT MOST 1048576: true; the input reads as it did. -/
def schedTimesUptoRow : OpenClaim := { program := "ytbblcecfdlmfmaa", sum := "7c358871bc7f1b0a516127f7583e2e31e1924f1d6353af76a25c89c97e367217", func := "regatta/regattalaw08.SchedTimes", spec := "schedTimes", inPlace := ["math/bits.Sub64", "math/bits.Add64"], unfollowed := true, recurses := true, named := ["math/bits.divideError", "math/bits.overflowError"], apart := false, narrowed := true }
def SchedTimesUptoSaid : Prop := schedTimesUptoRow.holds Try.pinned (OpenSpec.upto schedTimesSpec)

end Rows
end Go.Proofs.Ytbblcecfdlmfmaa
