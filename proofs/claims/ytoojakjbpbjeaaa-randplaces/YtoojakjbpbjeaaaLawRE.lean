/-
  RandPerms: an order is the document's; of fewer than none, or too many, there is none.
-/
import Derived.Test.YtoojakjbpbjeaaaLawRW
set_option linter.unusedVariables false
set_option linter.unusedSimpArgs false
namespace Go.Proofs.Ytoojakjbpbjeaaa
open Go.RowKit

/-- Perm's refusal. -/
structure Rand4 : Prop where
  permE : ∀ (s : Nat) (a b c n : Int) (w : World), (n < 0 ∨ 65536 < n) →
    Calls Try.prog 19 #[.agg #[.int .u64 (s : Int), .int .i64 a, .int .i64 b, .int .i64 c], .int .i64 n] w fun e w' => ∃ (ad : Option Addr) (cap : Nat), e = .returned (.tuple #[.slice ad 0 cap, .int .i64 2]) ∧ Below w.heap.size w w'
set_option maxRecDepth 100000 in
set_option maxHeartbeats 8000000 in
theorem randPerms_any (V : Rand1) (V4 : Rand4) (s : Nat) (a b c n : Int) (hk : Ky s a b c) (w : World) (hV : RT w) :
    Calls Try.prog 6 #[.agg #[.int .u64 (s : Int), .int .i64 a, .int .i64 b, .int .i64 c], .int .i64 n] w fun e w' => e = .returned (.bool true) ∧ Below w.heap.size w w' := by
  have HA : Hid (∀ W : World, Below w.heap.size w W → Calls Try.prog 9 #[] W fun e w' => e = .returned (.bool true) ∧ Below W.heap.size W w') := fun W hb => rawake_any V W (hV.later hb)
  have HL : Hid (∀ W : World, Calls Try.prog 12 #[.agg #[.int .u64 (s : Int), .int .i64 a, .int .i64 b, .int .i64 c]] W fun e w' => e = .returned (.agg #[.int .u64 (s : Int), .int .i64 a, .int .i64 b, .int .i64 c]) ∧ Below W.heap.size W w') := fun W => lkey_any s a b c W
  have K0 : K4 w.heap.size (.int .u64 (s : Int)) (.int .i64 a) (.int .i64 b) (.int .i64 c) (w.alloc (.cells #[.int .u64 (s : Int), .int .i64 a, .int .i64 b, .int .i64 c] 24)) := ⟨by simp [go_sem], by simp [go_sem], by simp [go_sem], by simp [go_sem]⟩
  have B0 : Hid (Below w.heap.size w (w.alloc (.cells #[.int .u64 (s : Int), .int .i64 a, .int .i64 b, .int .i64 c] 24))) := bel1 w _
  go_enter Try.func6, Try.ntmps6
  go_upto_region 1 with fail
  generalize w.alloc (.cells #[.int .u64 (s : Int), .int .i64 a, .int .i64 b, .int .i64 c] 24) = w1 at *
  go_wp2_with fail
  refine (HA.out _ B0.out).mono ?_
  rintro e w2 ⟨rfl, hb⟩
  have B2' : Hid (Below w.heap.size w w2) := bchain B0.out hb
  have K2 := K0.later hb
  clear hb B0 K0 HA
  have c0 := K2.c0
  have c1 := K2.c1
  have c2 := K2.c2
  have c3 := K2.c3
  rcases (show (n < 0 ∨ 65536 < n) ∨ (300 < n ∧ n ≤ 65536) ∨ (0 ≤ n ∧ n ≤ 300) by omega) with hbad | ⟨h1, h2⟩ | ⟨h1, h2⟩
  · have HP : Hid (∀ W : World, Calls Try.prog 19 #[.agg #[.int .u64 (s : Int), .int .i64 a, .int .i64 b, .int .i64 c], .int .i64 n] W fun e w' => ∃ (ad : Option Addr) (cap : Nat), e = .returned (.tuple #[.slice ad 0 cap, .int .i64 2]) ∧ Below W.heap.size W w') := fun W => V4.permE s a b c n W hbad
    clear V V4
    have HB : Hid ((n < 0 ∧ ¬ 300 < n) ∨ (¬ n < 0 ∧ 300 < n ∧ ¬ n ≤ 65536 ∧ 65536 < n)) := by show _ ∨ _; omega
    clear hbad
    rcases HB.out with ⟨h, h'⟩ | ⟨h, h', h'', h3⟩
    all_goals
      go_wp2_with fail
      refine (HP.out _).mono ?_
      rintro e w3 ⟨ad, cap, rfl, hb⟩
      have B3' : Hid (Below w.heap.size w w3) := bchain B2'.out hb
      have K3 := K2.later hb
      clear c0 c1 c2 c3 hb B2' K2
      have c0 := K3.c0
      have c1 := K3.c1
      have c2 := K3.c2
      have c3 := K3.c3
      go_wp2
      go_ret
      exact ⟨by first | rfl | simp, B3'.out⟩
  · clear V V4
    go_wp2
    go_ret
    exact ⟨rfl, B2'.out⟩
  · obtain ⟨N, rfl⟩ : ∃ N : Nat, n = (N : Int) := ⟨n.toNat, by omega⟩
    have n1 : ¬ (300 : Int) < (N : Int) := by omega
    have n2 : ¬ (N : Int) < 0 := by omega
    have n3 : ¬ (65536 : Int) < (N : Int) := by omega
    have hN : N ≤ 300 := by omega
    clear h1 h2
    have HP : Hid (∀ W : World, Below w.heap.size w W → Calls Try.prog 19 #[.agg #[.int .u64 (s : Int), .int .i64 a, .int .i64 b, .int .i64 c], .int .i64 (N : Int)] W fun e w' => ∃ v', e = .returned (.tuple #[v', .int .i64 0]) ∧ Ar w' v' N (fun k => ((pmN (jN s a b c) N (N - 1) k : Nat) : Int)) ∧ Ow W.heap.size v' ∧ Below W.heap.size W w') := fun W hb => V.perm s a b c N W hk (by omega) (hV.later hb)
    have HR : Hid (∀ W : World, Calls Try.prog 20 #[.agg #[.int .u64 (s : Int), .int .i64 a, .int .i64 b, .int .i64 c], .int .i64 (N : Int)] W fun e w' => ∃ v', e = .returned v' ∧ Ar w' v' N (fun k => ((pmN (jN s a b c) N (N - 1) k : Nat) : Int)) ∧ Ow W.heap.size v' ∧ Below W.heap.size W w') := fun W => refPerm_any s a b c N hk (by omega) W
    clear V V4
    go_wp2_with fail
    refine (HP.out _ B2'.out).mono ?_
    rintro e w3 ⟨v3, rfl, hA3, hO3, hb⟩
    have B3' : Hid (Below w.heap.size w w3) := bchain B2'.out hb
    have K3 := K2.later hb
    clear c0 c1 c2 c3 hb B2' K2
    have c0 := K3.c0
    have c1 := K3.c1
    have c2 := K3.c2
    have c3 := K3.c3
    have HA3 : Hid (Ar w3 v3 N (fun k => ((pmN (jN s a b c) N (N - 1) k : Nat) : Int))) := hA3
    obtain ⟨ad3, ca3, g3, o3, rfl, x1, x2, -, -⟩ := hA3
    unfold maxLen at x2
    go_wp2_with fail
    refine (HL.out _).mono ?_
    rintro e w4 ⟨rfl, hb⟩
    have B4' : Hid (Below w.heap.size w w4) := bchain B3'.out hb
    have K4 := K3.later hb
    have HA4 : Hid (Ar w4 (.slice ad3 N ca3) N (fun k => ((pmN (jN s a b c) N (N - 1) k : Nat) : Int))) := HA3.out.later hb
    clear HA3 c0 c1 c2 c3 hb B3' K3
    have c0 := K4.c0
    have c1 := K4.c1
    have c2 := K4.c2
    have c3 := K4.c3
    go_wp2_with fail
    refine (HR.out _).mono ?_
    rintro e w5 ⟨v5, rfl, hA5, hO5, hb⟩
    have B5' : Hid (Below w.heap.size w w5) := bchain B4'.out hb
    have K5 := K4.later hb
    have HA5 : Hid (Ar w5 (.slice ad3 N ca3) N (fun k => ((pmN (jN s a b c) N (N - 1) k : Nat) : Int)) ∧ Ar w5 v5 N (fun k => ((pmN (jN s a b c) N (N - 1) k : Nat) : Int))) := ⟨HA4.out.later hb, hA5⟩
    obtain ⟨ad5, ca5, g5, o5, rfl, y1, y2, -, -⟩ := hA5
    clear HA4 c0 c1 c2 c3 hb B4' K4
    have c0 := K5.c0
    have c1 := K5.c1
    have c2 := K5.c2
    have c3 := K5.c3
    unfold maxLen at y2
    obtain ⟨F, hF⟩ : ∃ F : Nat → Int, (fun k => ((pmN (jN s a b c) N (N - 1) k : Nat) : Int)) = F := ⟨_, rfl⟩
    rw [hF] at HA5
    clear hF HP HR HL
    have eNN : (((N : Nat) : Int) != (N : Int)) = false := by simp
    go_upto_region 12 with fail
    go_loopw [52] (fun si wr => ∃ j : Nat, j ≤ N ∧ si = .int .i64 (j : Int) ∧ wr = w5) (fun si _ => N - (intOf si).toNat)
    case atStart => exact ⟨0, by omega, rfl, rfl⟩
    case round =>
      obtain ⟨j, hj, rfl, rfl⟩ := hrel
      by_cases hlt : j < N
      · have hjI : (j : Int) < (N : Int) := by omega
        obtain ⟨q1, r1, rfl, cA, -, -⟩ := HA5.out.1.at j hlt
        obtain ⟨q2, r2, rfl, cB, -, -⟩ := HA5.out.2.at j hlt
        have eFF : (F j != F j) = false := by simp
        go_wp2
        go_roundw
        case rel => exact ⟨j + 1, by omega, by go_num, trivial⟩
        case measure => simp [intOf]; omega
      · have hjI : ¬ (j : Int) < (N : Int) := by omega
        go_wp2
        go_ret
        exact ⟨rfl, B5'.out⟩
end Go.Proofs.Ytoojakjbpbjeaaa
