/-
  RandPlaces: where a number goes is the document's, and from there it is found again.
-/
import Derived.Test.YtoojakjbpbjeaabLawRW
set_option linter.unusedVariables false
set_option linter.unusedSimpArgs false
namespace Go.Proofs.Ytoojakjbpbjeaab
open Go.RowKit

/-- The contracts of rand.Place and rand.Back. -/
structure Rand2 : Prop where
  place : ∀ (s : Nat) (a b c : Int) (n i : Nat) (w : World), Ky s a b c → 1 ≤ n → n ≤ 65536 → i < n → RT w →
    Calls Try.prog 5 #[.agg #[.int .u64 (s : Int), .int .i64 a, .int .i64 b, .int .i64 c], .int .i64 (n : Int), .int .i64 (i : Int)] w fun e w' => ∃ x : Nat, e = .returned (.tuple #[.int .i64 (x : Int), .int .i64 0]) ∧ Goes s a b c n i x ∧ Below w.heap.size w w'
  back : ∀ (s : Nat) (a b c : Int) (n i : Nat) (w : World), Ky s a b c → 1 ≤ n → n ≤ 65536 → i < n → RT w →
    Calls Try.prog 6 #[.agg #[.int .u64 (s : Int), .int .i64 a, .int .i64 b, .int .i64 c], .int .i64 (n : Int), .int .i64 (i : Int)] w fun e w' => ∃ x : Nat, e = .returned (.tuple #[.int .i64 (x : Int), .int .i64 0]) ∧ Comes s a b c n i x ∧ Below w.heap.size w w'
  placeE : ∀ (s : Nat) (a b c n i : Int) (w : World), (n < 1 ∨ 65536 < n ∨ i < 0 ∨ n ≤ i) →
    Calls Try.prog 5 #[.agg #[.int .u64 (s : Int), .int .i64 a, .int .i64 b, .int .i64 c], .int .i64 n, .int .i64 i] w fun e w' => e = .returned (.tuple #[.int .i64 0, .int .i64 2]) ∧ Below w.heap.size w w'
  backE : ∀ (s : Nat) (a b c n i : Int) (w : World), (n < 1 ∨ 65536 < n ∨ i < 0 ∨ n ≤ i) →
    Calls Try.prog 6 #[.agg #[.int .u64 (s : Int), .int .i64 a, .int .i64 b, .int .i64 c], .int .i64 n, .int .i64 i] w fun e w' => e = .returned (.tuple #[.int .i64 0, .int .i64 2]) ∧ Below w.heap.size w w'
end Go.Proofs.Ytoojakjbpbjeaab
