/-
  The contract of regattaref02's Round.
-/
import Derived.Test.YtpmlpcejmndidabSWalkC
import Derived.Test.YtpmlpcejmndidabSMath2
set_option linter.unusedVariables false
set_option linter.unusedSimpArgs false
namespace Go.Proofs.Ytpmlpcejmndidab
open Go.RowKit

theorem B6.all {b : Nat} {x : Nat → Int} {w : World} (h : B6 b x w) (y : Nat → Int) : B6 b y ((((((w.setCell ⟨b, 0, none⟩ (.int .u64 (y 0))).setCell ⟨b, 1, none⟩ (.int .u64 (y 1))).setCell ⟨b, 2, none⟩ (.int .u64 (y 2))).setCell ⟨b, 3, none⟩ (.int .u64 (y 3))).setCell ⟨b, 4, none⟩ (.int .u64 (y 4))).setCell ⟨b, 5, none⟩ (.int .u64 (y 5))) :=
  ((((((h.set 0 (by omega) (y 0)).set 1 (by omega) (y 1)).set 2 (by omega) (y 2)).set 3 (by omega) (y 3)).set 4 (by omega) (y 4)).set 5 (by omega) (y 5)).cong (six (by simp) (by simp) (by simp) (by simp) (by simp) (by simp))
theorem bel6 {w w' : World} {base b : Nat} (h : Below base w w') (hb : base ≤ b) (y : Nat → Int) : Below base w ((((((w'.setCell ⟨b, 0, none⟩ (.int .u64 (y 0))).setCell ⟨b, 1, none⟩ (.int .u64 (y 1))).setCell ⟨b, 2, none⟩ (.int .u64 (y 2))).setCell ⟨b, 3, none⟩ (.int .u64 (y 3))).setCell ⟨b, 4, none⟩ (.int .u64 (y 4))).setCell ⟨b, 5, none⟩ (.int .u64 (y 5))) :=
  ((((((h).setCell (by dsimp only; omega) _).setCell (by dsimp only; omega) _).setCell (by dsimp only; omega) _).setCell (by dsimp only; omega) _).setCell (by dsimp only; omega) _).setCell (by dsimp only; omega) _
theorem hidD' {a b c : World} (h : Hid (Below a.heap.size a b)) (k : Below b.heap.size b c) : Hid (Below a.heap.size a c) := bchain h.out k
theorem sclamp_to (m : Int) (bel : Bool) (T : Int) (h : (if bel = true then -m else m) = T) (m0 : 0 ≤ m) (m1 : m < 6277101735386680763835789423207666416102355444464034512896) (w : World) :
    Calls Try.prog 30 #[.agg #[.int .u64 (dg (m) 0), .int .u64 (dg (m) 1), .int .u64 (dg (m) 2), .int .u64 (dg (m) 3), .int .u64 (dg (m) 4), .int .u64 (dg (m) 5)], .bool bel] w fun e w' => e = .returned (.tuple #[.int .i64 (clv T), .bool (ovv T)]) ∧ Below w.heap.size w w' := by
  rw [← h]
  exact sclamp_any m bel m0 m1 w
theorem sone_10 (w : World) : Calls Try.prog 27 #[.int .u64 1, .int .i64 0] w fun e w' => e = .returned (.agg #[.int .u64 (dg (1) 0), .int .u64 (dg (1) 1), .int .u64 (dg (1) 2), .int .u64 (dg (1) 3), .int .u64 (dg (1) 4), .int .u64 (dg (1) 5)]) ∧ Below w.heap.size w w' := by
  have h := sone_any 1 0 (by omega) (by omega) (by omega) w
  rw [show (1 : Int) * 2 ^ (32 * 0) = 1 from rfl] at h
  exact h
theorem dg0_par (v : Int) : dg v 0 % 2 = v % 2 := by unfold dg; rw [Nat.mul_zero, Int.pow_zero, Int.ediv_one]; omega
theorem ab_ge' (v : Int) : 0 ≤ ab v := by unfold ab; split <;> omega

end Go.Proofs.Ytpmlpcejmndidab
