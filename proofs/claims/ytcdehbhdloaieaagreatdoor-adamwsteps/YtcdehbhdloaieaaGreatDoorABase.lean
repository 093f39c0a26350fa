/-
  What adamw must give, for the laws of layer 9.
-/
import Derived.Test.YtcdehbhdloaieaaGreatDoorAInner
import Derived.Test.YtcdehbhdloaieaaGreatDoorADefs
import Derived.Test.YtcdehbhdloaieaaGreatDoorBK
set_option linter.unusedVariables false
set_option linter.unusedSimpArgs false
namespace Go.Proofs.YtcdehbhdloaieaaGreatDoor
open Go.RowKit

/-- What adamw asks of the world. -/
def AT (w : World) : Prop := TabAt w
theorem AT.later {w w' : World} (h : AT w) (hb : Below w.heap.size w w') : AT w' := by unfold AT at h ⊢; exact h.later hb
/-- The chapter's example goes through. -/
def Aw9 : Prop := ∀ W : World, AT W → Calls Tryz.prog 5 #[] W fun e w' => e = .returned (.bool true) ∧ Below W.heap.size W w'
structure Adw1 : Prop where
  stepU : ∀ (B W : Int) (vD : Value) (nD : Nat) (at' fa : Nat → Int) (b1 b2 ep dc cl T : Int) (vM vV vp vg : Value) (n : Nat) (M V P G : Nat → Int) (d : Nat) (c : Int) (w : World), InR9 B W nD at' fa b1 b2 ep dc cl → bd9 B ep dc cl → 0 ≤ T → T < 1048576 → n ≤ 65536 → 0 ≤ c → c ≤ 100000000 → Drp w vD nD at' fa → Ar w vM n M → Ar w vV n V → Ar w vp n P → Ar w vg n G → Nb vM d → Nb vV d → Nb vp d → Nb vg d → Uc w d c → AT w →
    Calls Tryz.prog 7 #[.pointer (some ⟨d, 0, none⟩), .agg #[.int .i64 B, .int .i64 W, vD, .int .i64 b1, .int .i64 b2, .int .i64 ep, .int .i64 dc, .int .i64 cl], .agg #[vM, vV, .int .i64 T], vp, vg] w fun e w' => ∃ uM uV uP, e = .returned (.tuple #[.agg #[uM, uV, .int .i64 (T + 1)], uP, .int .i64 0]) ∧ Ar w' uM n (fun i => aM (stpV B W nD at' fa b1 b2 ep dc (T + 1)) (M i) (cpF cl n G i)) ∧ Ar w' uV n (fun i => aV (stpV B W nD at' fa b1 b2 ep dc (T + 1)) (V i) (cpF cl n G i)) ∧ Ar w' uP n (fun i => aY (stpV B W nD at' fa b1 b2 ep dc (T + 1)) (M i) (V i) (P i) (cpF cl n G i)) ∧ (Ow w.heap.size uM ∧ Ow w.heap.size uV ∧ Ow w.heap.size uP) ∧ Un d (c + (cpN cl n G + aS (stpV B W nD at' fa b1 b2 ep dc (T + 1)) M V P (cpF cl n G) n)) w w'
  stepE : ∀ (B W : Int) (vD : Value) (nD : Nat) (at' fa : Nat → Int) (b1 b2 ep dc cl T : Int) (vM vV vp vg : Value) (nM nV nP nG : Nat) (M V P G : Nat → Int) (d : Nat) (c : Int) (w : World), ¬ stG (InR9 B W nD at' fa b1 b2 ep dc cl) nM nV nP nG T → Drp w vD nD at' fa → Ar w vM nM M → Ar w vV nV V → Ar w vp nP P → Ar w vg nG G → Uc w d c → AT w →
    Calls Tryz.prog 7 #[.pointer (some ⟨d, 0, none⟩), .agg #[.int .i64 B, .int .i64 W, vD, .int .i64 b1, .int .i64 b2, .int .i64 ep, .int .i64 dc, .int .i64 cl], .agg #[vM, vV, .int .i64 T], vp, vg] w fun e w' => ∃ uM uV uP E, e = .returned (.tuple #[.agg #[uM, uV, .int .i64 0], uP, .int .i64 E]) ∧ (Emp9 uM ∧ Emp9 uV ∧ Emp9 uP) ∧ stE (InR9 B W nD at' fa b1 b2 ep dc cl) nM nV nP nG T E ∧ Un d c w w'
end Go.Proofs.YtcdehbhdloaieaaGreatDoor
