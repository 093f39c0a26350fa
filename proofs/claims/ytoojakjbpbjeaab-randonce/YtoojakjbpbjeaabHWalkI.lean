/-
  The contracts of rand's Place and Back.
-/
import Derived.Test.YtoojakjbpbjeaabHWalkH
import Derived.Test.YtoojakjbpbjeaabLawRP
set_option linter.unusedVariables false
set_option linter.unusedSimpArgs false
namespace Go.Proofs.Ytoojakjbpbjeaab
open Go.RowKit

theorem stps_rnds (f : Nat → Nat → Nat) (j : Nat) (p : Nat × Nat) : stps (rnd1 f) j p = rnds f j p := by
  induction j with
  | zero => rfl
  | succ j ih => show rnd1 f j (stps (rnd1 f) j p) = rnd1 f j (rnds f j p); rw [ih]
theorem tpF_trp (f : Nat → Nat → Nat) (k : Nat) : tpF (rnd1 f) 4 k = trp f (2 ^ k) := by
  funext x
  unfold tpF trp
  rw [stps_rnds]
/-- A swap. -/
def swpP (p : Nat × Nat) : Nat × Nat := (p.2, p.1)
/-- The steps of the trip back. -/
def bop (f : Nat → Nat → Nat) (i : Nat) : Nat × Nat → Nat × Nat := if i = 0 then swpP else if i = 5 then swpP else rnd1 f (4 - i)
theorem tpF_prt (f : Nat → Nat → Nat) (k : Nat) : tpF (bop f) 6 k = prt f (2 ^ k) := by
  funext x
  rfl
theorem rnd1_lt (f : Nat → Nat → Nat) (k t : Nat) (hf : ∀ t r, f t r < 2 ^ k) (p : Nat × Nat) (h1 : p.1 < 2 ^ k) (h2 : p.2 < 2 ^ k) : (rnd1 f t p).1 < 2 ^ k ∧ (rnd1 f t p).2 < 2 ^ k := ⟨h2, Nat.xor_lt_two_pow h1 (hf _ _)⟩
theorem bop_lt (f : Nat → Nat → Nat) (k i : Nat) (hf : ∀ t r, f t r < 2 ^ k) (p : Nat × Nat) (h1 : p.1 < 2 ^ k) (h2 : p.2 < 2 ^ k) : (bop f i p).1 < 2 ^ k ∧ (bop f i p).2 < 2 ^ k := by
  unfold bop
  split
  · exact ⟨h2, h1⟩
  · split
    · exact ⟨h2, h1⟩
    · exact rnd1_lt f k _ hf p h1 h2
theorem stp_swap (w : World) (k : Nat) : Stp w k sv swpP := Or.inr ⟨rfl, fun u l W => swapped_any (u : Int) (l : Int) W⟩
set_option maxHeartbeats 1000000 in
theorem pPlace_bad (s : Nat) (a b c n i : Int) (h : n < 1 ∨ 65536 < n ∨ i < 0 ∨ n ≤ i) (w : World) :
    Calls Try.prog 5 #[.agg #[.int .u64 (s : Int), .int .i64 a, .int .i64 b, .int .i64 c], .int .i64 n, .int .i64 i] w fun e w' => e = .returned (.tuple #[.int .i64 0, .int .i64 2]) ∧ Below w.heap.size w w' := by
  have C1 : Hid (∀ W : World, Calls Try.prog 10 #[.int .i64 n, .int .i64 i] W fun e w' => e = .returned (.bool false) ∧ w' = W) := fun W => within_no n i h W
  have B0 : Hid (Below w.heap.size w (w.alloc (.cells #[.int .u64 (s : Int), .int .i64 a, .int .i64 b, .int .i64 c] 24))) := bel1 w _
  clear h
  go_enter Try.func5, Try.ntmps5
  go_wp2_with fail
  refine (C1.out _).mono ?_
  rintro e w2 ⟨rfl, hz⟩
  subst hz
  clear C1
  go_wp2
  go_ret2
  exact ⟨rfl, B0.out⟩
set_option maxHeartbeats 1000000 in
theorem pBack_bad (s : Nat) (a b c n i : Int) (h : n < 1 ∨ 65536 < n ∨ i < 0 ∨ n ≤ i) (w : World) :
    Calls Try.prog 6 #[.agg #[.int .u64 (s : Int), .int .i64 a, .int .i64 b, .int .i64 c], .int .i64 n, .int .i64 i] w fun e w' => e = .returned (.tuple #[.int .i64 0, .int .i64 2]) ∧ Below w.heap.size w w' := by
  have C1 : Hid (∀ W : World, Calls Try.prog 10 #[.int .i64 n, .int .i64 i] W fun e w' => e = .returned (.bool false) ∧ w' = W) := fun W => within_no n i h W
  have B0 : Hid (Below w.heap.size w (w.alloc (.cells #[.int .u64 (s : Int), .int .i64 a, .int .i64 b, .int .i64 c] 24))) := bel1 w _
  clear h
  go_enter Try.func6, Try.ntmps6
  go_wp2_with fail
  refine (C1.out _).mono ?_
  rintro e w2 ⟨rfl, hz⟩
  subst hz
  clear C1
  go_wp2
  go_ret2
  exact ⟨rfl, B0.out⟩
end Go.Proofs.Ytoojakjbpbjeaab
