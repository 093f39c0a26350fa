/-
  RandBelow: a number below any other one is the document's, and in its range.
-/
import Derived.Test.YtoojakjbpbjeaaaLawRW
set_option linter.unusedVariables false
set_option linter.unusedSimpArgs false
namespace Go.Proofs.Ytoojakjbpbjeaaa
open Go.RowKit

/-- The contracts of rand.Below. -/
structure Rand3 : Prop where
  below : ∀ (s : Nat) (a b c i : Int) (n : Nat) (w : World), Ky s a b c → -9223372036854775808 ≤ i → i ≤ 9223372036854775807 → 1 ≤ n → n ≤ 9223372036854775807 → RT w →
    Calls Try.prog 13 #[.agg #[.int .u64 (s : Int), .int .i64 a, .int .i64 b, .int .i64 c], .int .i64 i, .int .i64 (n : Int)] w fun e w' => e = .returned (.int .i64 ((blN (wdN s a b c i) n : Nat) : Int)) ∧ Below w.heap.size w w'
  belowN : ∀ (s : Nat) (a b c i n : Int) (w : World), n < 1 →
    Calls Try.prog 13 #[.agg #[.int .u64 (s : Int), .int .i64 a, .int .i64 b, .int .i64 c], .int .i64 i, .int .i64 n] w fun e w' => e = .returned (.int .i64 0) ∧ Below w.heap.size w w'
set_option maxRecDepth 100000 in
set_option maxHeartbeats 8000000 in
theorem randBelow_any (V : Rand1) (V3 : Rand3) (s : Nat) (a b c i n : Int) (hk : Ky s a b c) (i0 : -9223372036854775808 ≤ i) (i1 : i ≤ 9223372036854775807) (n1 : n ≤ 9223372036854775807) (w : World) (hV : RT w) :
    Calls Try.prog 4 #[.agg #[.int .u64 (s : Int), .int .i64 a, .int .i64 b, .int .i64 c], .int .i64 i, .int .i64 n] w fun e w' => e = .returned (.bool true) ∧ Below w.heap.size w w' := by
  have HA : Hid (∀ W : World, Below w.heap.size w W → Calls Try.prog 9 #[] W fun e w' => e = .returned (.bool true) ∧ Below W.heap.size W w') := fun W hb => rawake_any V W (hV.later hb)
  have HL : Hid (∀ W : World, Calls Try.prog 12 #[.agg #[.int .u64 (s : Int), .int .i64 a, .int .i64 b, .int .i64 c]] W fun e w' => e = .returned (.agg #[.int .u64 (s : Int), .int .i64 a, .int .i64 b, .int .i64 c]) ∧ Below W.heap.size W w') := fun W => lkey_any s a b c W
  have K0 : K4 w.heap.size (.int .u64 (s : Int)) (.int .i64 a) (.int .i64 b) (.int .i64 c) (w.alloc (.cells #[.int .u64 (s : Int), .int .i64 a, .int .i64 b, .int .i64 c] 24)) := ⟨by simp [go_sem], by simp [go_sem], by simp [go_sem], by simp [go_sem]⟩
  have B0 : Hid (Below w.heap.size w (w.alloc (.cells #[.int .u64 (s : Int), .int .i64 a, .int .i64 b, .int .i64 c] 24))) := bel1 w _
  go_enter Try.func4, Try.ntmps4
  go_upto_region 1 with fail
  generalize w.alloc (.cells #[.int .u64 (s : Int), .int .i64 a, .int .i64 b, .int .i64 c] 24) = w1 at *
  go_wp2_with fail
  refine (HA.out _ B0.out).mono ?_
  rintro e w2 ⟨rfl, hb⟩
  have B2' : Hid (Below w.heap.size w w2) := bchain B0.out hb
  have K2 := K0.later hb
  clear hb B0 K0 HA
  have c0 := K2.c0
  have c1 := K2.c1
  have c2 := K2.c2
  have c3 := K2.c3
  by_cases hn : n < 1
  · have HP : Hid (∀ W : World, Calls Try.prog 13 #[.agg #[.int .u64 (s : Int), .int .i64 a, .int .i64 b, .int .i64 c], .int .i64 i, .int .i64 n] W fun e w' => e = .returned (.int .i64 0) ∧ Below W.heap.size W w') := fun W => V3.belowN s a b c i n W hn
    have HR : Hid (∀ W : World, Calls Try.prog 14 #[.agg #[.int .u64 (s : Int), .int .i64 a, .int .i64 b, .int .i64 c], .int .i64 i, .int .i64 n] W fun e w' => e = .returned (.int .i64 0) ∧ Below W.heap.size W w') := fun W => refBelow_none s a b c i n hn W
    have h0 : ¬ (0 : Int) < n := by omega
    clear V V3
    go_wp2_with fail
    refine (HP.out _).mono ?_
    rintro e w3 ⟨rfl, hb⟩
    have B3' : Hid (Below w.heap.size w w3) := bchain B2'.out hb
    have K3 := K2.later hb
    clear c0 c1 c2 c3 hb B2' K2
    have c0 := K3.c0
    have c1 := K3.c1
    have c2 := K3.c2
    have c3 := K3.c3
    go_wp2_with fail
    refine (HL.out _).mono ?_
    rintro e w4 ⟨rfl, hb⟩
    have B4' : Hid (Below w.heap.size w w4) := bchain B3'.out hb
    have K4 := K3.later hb
    clear c0 c1 c2 c3 hb B3' K3
    have c0 := K4.c0
    have c1 := K4.c1
    have c2 := K4.c2
    have c3 := K4.c3
    go_wp2_with fail
    refine (HR.out _).mono ?_
    rintro e w5 ⟨rfl, hb⟩
    have B5' : Hid (Below w.heap.size w w5) := bchain B4'.out hb
    have K5 := K4.later hb
    clear c0 c1 c2 c3 hb B4' K4
    have c0 := K5.c0
    have c1 := K5.c1
    have c2 := K5.c2
    have c3 := K5.c3
    go_wp2
    go_ret
    exact ⟨by first | rfl | simp, B5'.out⟩
  · obtain ⟨N, rfl⟩ : ∃ N : Nat, n = (N : Int) := ⟨n.toNat, by omega⟩
    have HP : Hid (∀ W : World, Below w.heap.size w W → Calls Try.prog 13 #[.agg #[.int .u64 (s : Int), .int .i64 a, .int .i64 b, .int .i64 c], .int .i64 i, .int .i64 (N : Int)] W fun e w' => e = .returned (.int .i64 ((blN (wdN s a b c i) N : Nat) : Int)) ∧ Below W.heap.size W w') := fun W hb => V3.below s a b c i N W hk i0 i1 (by omega) (by omega) (hV.later hb)
    have HR : Hid (∀ W : World, Calls Try.prog 14 #[.agg #[.int .u64 (s : Int), .int .i64 a, .int .i64 b, .int .i64 c], .int .i64 i, .int .i64 (N : Int)] W fun e w' => e = .returned (.int .i64 ((blN (wdN s a b c i) N : Nat) : Int)) ∧ Below W.heap.size W w') := fun W => refBelow_any s a b c i N hk i0 i1 (by omega) (by omega) W
    have hl := blN_lt (wdN s a b c i) N (wdN_lt _ _ _ _ _) (by omega)
    generalize blN (wdN s a b c i) N = X at *
    have hXN : (X : Int) < (N : Int) := by omega
    have hX0 : (0 : Int) ≤ (X : Int) := by omega
    have hXE : (((X : Nat) : Int) == (X : Int)) = true := by simp
    clear V V3 hl
    go_wp2_with fail
    refine (HP.out _ B2'.out).mono ?_
    rintro e w3 ⟨rfl, hb⟩
    have B3' : Hid (Below w.heap.size w w3) := bchain B2'.out hb
    have K3 := K2.later hb
    clear c0 c1 c2 c3 hb B2' K2
    have c0 := K3.c0
    have c1 := K3.c1
    have c2 := K3.c2
    have c3 := K3.c3
    go_wp2_with fail
    refine (HL.out _).mono ?_
    rintro e w4 ⟨rfl, hb⟩
    have B4' : Hid (Below w.heap.size w w4) := bchain B3'.out hb
    have K4 := K3.later hb
    clear c0 c1 c2 c3 hb B3' K3
    have c0 := K4.c0
    have c1 := K4.c1
    have c2 := K4.c2
    have c3 := K4.c3
    go_wp2_with fail
    refine (HR.out _).mono ?_
    rintro e w5 ⟨rfl, hb⟩
    have B5' : Hid (Below w.heap.size w w5) := bchain B4'.out hb
    have K5 := K4.later hb
    clear c0 c1 c2 c3 hb B4' K4
    have c0 := K5.c0
    have c1 := K5.c1
    have c2 := K5.c2
    have c3 := K5.c3
    go_wp2
    go_ret
    exact ⟨by first | rfl | simp, B5'.out⟩
end Go.Proofs.Ytoojakjbpbjeaaa
