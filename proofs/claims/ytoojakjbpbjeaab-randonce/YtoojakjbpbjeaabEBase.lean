/-
  What rand must give (assumed by the laws), and the laws' awake.
-/
import Derived.Test.YtoojakjbpbjeaabEWalkD
set_option linter.unusedVariables false
set_option linter.unusedSimpArgs false
namespace Go.Proofs.Ytoojakjbpbjeaab
open Go.RowKit

/-- What rand asks of the world. -/
def RT (w : World) : Prop := True
theorem RT.later {w w' : World} (h : RT w) (hb : Below w.heap.size w w') : RT w' := trivial
/-- A key's value. -/
def ky (s : Nat) (a b c : Int) : Value := .agg #[.int .u64 (s : Int), .int .i64 a, .int .i64 b, .int .i64 c]
/-- Which one changes places with i. -/
def jN (s : Nat) (a b c : Int) (i : Nat) : Nat := blN (wdN s a b c (i : Int)) (i + 1)
/-- The contracts of rand. -/
structure Rand1 : Prop where
  word : ∀ (s : Nat) (a b c i : Int) (w : World), Ky s a b c → -9223372036854775808 ≤ i → i ≤ 9223372036854775807 → RT w →
    Calls Try.prog 8 #[.agg #[.int .u64 (s : Int), .int .i64 a, .int .i64 b, .int .i64 c], .int .i64 i] w fun e w' => e = .returned (.int .u64 ((wdN s a b c i : Nat) : Int)) ∧ Below w.heap.size w w'
  perm : ∀ (s : Nat) (a b c : Int) (n : Nat) (w : World), Ky s a b c → n ≤ 65536 → RT w →
    Calls Try.prog 7 #[.agg #[.int .u64 (s : Int), .int .i64 a, .int .i64 b, .int .i64 c], .int .i64 (n : Int)] w fun e w' => ∃ v', e = .returned (.tuple #[v', .int .i64 0]) ∧ Ar w' v' n (fun k => ((pmN (jN s a b c) n (n - 1) k : Nat) : Int)) ∧ Ow w.heap.size v' ∧ Below w.heap.size w w'
theorem wd_awake : wdN 1 0 0 0 0 ≠ 0 := by decide +kernel
theorem bel_rt {w w' : World} (h : RT w) (hb : Below w.heap.size w w') : RT w' := h.later hb
set_option maxRecDepth 100000 in
set_option maxHeartbeats 4000000 in
theorem rawake_any (V : Rand1) (w : World) (hV : RT w) : Calls Try.prog 4 #[] w fun e w' => e = .returned (.bool true) ∧ Below w.heap.size w w' := by
  have hk : Ky 1 0 0 0 := ⟨by omega, by omega, by omega, by omega, by omega, by omega, by omega⟩
  have HW : Hid (∀ W : World, Below w.heap.size w W → Calls Try.prog 8 #[.agg #[.int .u64 1, .int .i64 0, .int .i64 0, .int .i64 0], .int .i64 0] W fun e w' => e = .returned (.int .u64 ((wdN 1 0 0 0 0 : Nat) : Int)) ∧ Below W.heap.size W w') := fun W hb => V.word 1 0 0 0 0 W hk (by omega) (by omega) (hV.later hb)
  have HR : Hid (∀ W : World, Calls Try.prog 9 #[.agg #[.int .u64 1, .int .i64 0, .int .i64 0, .int .i64 0], .int .i64 0] W fun e w' => e = .returned (.int .u64 ((wdN 1 0 0 0 0 : Nat) : Int)) ∧ Below W.heap.size W w') := fun W => refWord_any 1 0 0 0 0 hk (by omega) (by omega) W
  have HP : Hid (∀ W : World, Below w.heap.size w W → Calls Try.prog 7 #[.agg #[.int .u64 1, .int .i64 0, .int .i64 0, .int .i64 0], .int .i64 3] W fun e w' => ∃ (ad : Option Addr) (cap : Nat), e = .returned (.tuple #[.slice ad 3 cap, .int .i64 0]) ∧ Below W.heap.size W w') := fun W hb => by
    refine (V.perm 1 0 0 0 3 W hk (by omega) (hV.later hb)).mono ?_
    rintro e w' ⟨v', rfl, hA, -, hb'⟩
    obtain ⟨ad, cap, q, o, rfl, -, -, -, -⟩ := hA
    exact ⟨ad, cap, rfl, hb'⟩
  have hne := wd_awake
  obtain ⟨X, hX⟩ : ∃ X, wdN 1 0 0 0 0 = X := ⟨_, rfl⟩
  rw [hX] at HW HR hne
  have hX0 : ¬ ((X : Nat) : Int) = 0 := by omega
  have hXB : (((X : Nat) : Int) != 0) = true := by simp; omega
  have hXE : (((X : Nat) : Int) == (X : Int)) = true := by simp
  clear hX hne hk
  have K0 : K4 w.heap.size (.int .u64 1) (.int .i64 0) (.int .i64 0) (.int .i64 0) (w.alloc (.cells #[.int .u64 1, .int .i64 0, .int .i64 0, .int .i64 0] 24)) := ⟨by simp [go_sem], by simp [go_sem], by simp [go_sem], by simp [go_sem]⟩
  have B0 : Hid (Below w.heap.size w (w.alloc (.cells #[.int .u64 1, .int .i64 0, .int .i64 0, .int .i64 0] 24))) := bel1 w _
  go_enter Try.func4, Try.ntmps4
  go_upto_region 2 with fail
  generalize w.alloc (.cells #[.int .u64 1, .int .i64 0, .int .i64 0, .int .i64 0] 24) = w1 at *
  have c0 := K0.c0
  have c1 := K0.c1
  have c2 := K0.c2
  have c3 := K0.c3
  go_wp2_with fail
  refine (HP.out _ B0.out).mono ?_
  rintro e w2 ⟨ad, cap, rfl, hb⟩
  have B2' : Hid (Below w.heap.size w w2) := bchain B0.out hb
  have K2 := K0.later hb
  clear c0 c1 c2 c3 hb B0 K0 HP
  have c0 := K2.c0
  have c1 := K2.c1
  have c2 := K2.c2
  have c3 := K2.c3
  go_wp2_with fail
  refine (HW.out _ B2'.out).mono ?_
  rintro e w3 ⟨rfl, hb⟩
  have B3' : Hid (Below w.heap.size w w3) := bchain B2'.out hb
  have K3 := K2.later hb
  clear c0 c1 c2 c3 hb B2' K2
  have c0 := K3.c0
  have c1 := K3.c1
  have c2 := K3.c2
  have c3 := K3.c3
  go_wp2_with fail
  refine (HR.out _).mono ?_
  rintro e w4 ⟨rfl, hb⟩
  have B4' : Hid (Below w.heap.size w w4) := bchain B3'.out hb
  have K4' := K3.later hb
  clear c0 c1 c2 c3 hb B3' K3
  have c0 := K4'.c0
  have c1 := K4'.c1
  have c2 := K4'.c2
  have c3 := K4'.c3
  go_wp2_with fail
  refine (HW.out _ B4'.out).mono ?_
  rintro e w5 ⟨rfl, hb⟩
  have B5' : Hid (Below w.heap.size w w5) := bchain B4'.out hb
  clear c0 c1 c2 c3 hb B4' K4' HW HR
  go_wp2
  go_ret
  exact ⟨by first | rfl | simp, B5'.out⟩
end Go.Proofs.Ytoojakjbpbjeaab
