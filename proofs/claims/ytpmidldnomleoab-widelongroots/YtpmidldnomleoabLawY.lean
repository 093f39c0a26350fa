/-
  WideLongRoots: for every long number a the law regattalaw01.WideLongRoots returns true: a long number's root is the greatest whole number whose square is not above it. No condition.
-/
import Derived.Test.YtpmidldnomleoabRWalkK
set_option linter.unusedVariables false
set_option linter.unusedSimpArgs false
namespace Go.Proofs.Ytpmidldnomleoab
open Go.RowKit

theorem root_all (a : Int) (a0 : -3138550867693340381917894711603833208051177722232017256448 ≤ a) (a1 : a ≤ 3138550867693340381917894711603833208051177722232017256447) (w : World) :
    Calls Try.prog 9 #[.agg #[.int .i64 (t3 a), .int .u64 (m3 a), .int .u64 (lo a)]] w fun e w' => e = .returned (.tuple #[.int .i64 (if a < 0 then 0 else if 85070591730234615865843651857942052864 ≤ a then 9223372036854775807 else rt a), .bool (if a < 0 then true else if 85070591730234615865843651857942052864 ≤ a then true else false)]) ∧ Below w.heap.size w w' := by
  by_cases hn : a < 0
  · rw [if_pos hn, if_pos hn]
    exact root_neg _ _ _ (words_neg a hn (by omega)) w
  · rw [if_neg hn, if_neg hn]
    by_cases hb : 85070591730234615865843651857942052864 ≤ a
    · rw [if_pos hb, if_pos hb]
      exact root_big _ _ _ (words_big a hb (by omega)).1 (words_big a hb (by omega)).2 w
    · rw [if_neg hb, if_neg hb]
      exact root_mid a (by omega) (by omega) w

theorem bel_long (w : World) (x y z : Value) : Below w.heap.size w (w.alloc (.cells #[x, y, z] 24)) := bel1 _ _

set_option maxHeartbeats 1000000 in
theorem wideLongRoots_walk (a : Int) (a0 : -3138550867693340381917894711603833208051177722232017256448 ≤ a) (a1 : a ≤ 3138550867693340381917894711603833208051177722232017256447) (w : World) :
    Calls Try.prog 3 #[.agg #[.int .i64 (t3 a), .int .u64 (m3 a), .int .u64 (lo a)]] w fun e w' => e = .returned (.bool true) ∧ Below w.heap.size w w' := by
  have RA := fun W => root_all a a0 a1 W
  have RR := fun v W h => rroot_any v a a0 a1 W h
  generalize (if a < 0 then (0 : Int) else if 85070591730234615865843651857942052864 ≤ a then 9223372036854775807 else rt a) = X at *
  generalize (if a < 0 then true else if 85070591730234615865843651857942052864 ≤ a then true else false) = Y at *
  have RA' : Hid (∀ W : World, Calls Try.prog 9 #[.agg #[.int .i64 (t3 a), .int .u64 (m3 a), .int .u64 (lo a)]] W fun e w' => e = .returned (.tuple #[.int .i64 X, .bool Y]) ∧ Below W.heap.size W w') := RA
  have RR' : Hid (∀ (v : Value) (W : World), Bt W v 192 a → Calls Try.prog 10 #[v] W fun e w' => e = .returned (.tuple #[.int .i64 X, .bool Y]) ∧ Below W.heap.size W w') := RR
  clear RA RR
  have c0 : (w.alloc (.cells #[.int .i64 (t3 a), .int .u64 (m3 a), .int .u64 (lo a)] 24)).cell? ⟨w.heap.size, 0, none⟩ = some (.int .i64 (t3 a)) := by simp [go_sem]
  have c1 : (w.alloc (.cells #[.int .i64 (t3 a), .int .u64 (m3 a), .int .u64 (lo a)] 24)).cell? ⟨w.heap.size, 1, none⟩ = some (.int .u64 (m3 a)) := by simp [go_sem]
  have c2 : (w.alloc (.cells #[.int .i64 (t3 a), .int .u64 (m3 a), .int .u64 (lo a)] 24)).cell? ⟨w.heap.size, 2, none⟩ = some (.int .u64 (lo a)) := by simp [go_sem]
  go_enter Try.func3, Try.ntmps3
  go_wp2_with fail
  refine (awake_any _).mono ?_
  rintro e w1 ⟨rfl, hb⟩
  have W1 : Below w.heap.size w w1 := bchain (bel1 _ _) hb
  replace c0 := cell_later hb c0
  replace c1 := cell_later hb c1
  replace c2 := cell_later hb c2
  clear hb
  go_wp2_with fail
  refine (RA'.out _).mono ?_
  rintro e w2 ⟨rfl, hb⟩
  have W2 := bchain W1 hb
  replace c0 := cell_later hb c0
  replace c1 := cell_later hb c1
  replace c2 := cell_later hb c2
  clear hb W1 RA'
  go_wp2_with fail
  refine (long_any a _).mono ?_
  rintro e w3 ⟨v3, rfl, hown, hb⟩
  have A3 := bt_own hown (by omega)
  have W3 := bchain W2 hb
  clear hb W2 hown c0 c1 c2
  go_wp2_with fail
  refine (RR'.out _ _ A3).mono ?_
  rintro e w4 ⟨rfl, hb⟩
  have W4 := bchain W3 hb
  clear hb W3 A3 RR'
  cases Y
  · go_wp2
    go_ret
    exact ⟨rfl, W4⟩
  · go_wp2
    go_ret
    exact ⟨rfl, W4⟩
end Go.Proofs.Ytpmidldnomleoab
