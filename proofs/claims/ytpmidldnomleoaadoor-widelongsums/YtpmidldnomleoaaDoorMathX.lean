/-
  Sums of long numbers, wrapped round; what the law of long sums calls besides.
-/
import Derived.Test.YtpmidldnomleoaaDoorRWalkI
import Derived.Test.YtpmidldnomleoaaDoorRWalkF
import Derived.Test.YtpmidldnomleoaaDoorWalkR
set_option linter.unusedVariables false
set_option linter.unusedSimpArgs false
namespace Go.Proofs.YtpmidldnomleoaaDoor
open Go.RowKit

/-- The first number and the first j of a list, added up. -/
def sumTo (L : Nat → Int) (f : Int) : Nat → Int
  | 0 => f
  | j + 1 => sumTo L f j + L j
/-- The long number that a whole number is wrapped round to. -/
def wr192 (x : Int) : Int := (x + 3138550867693340381917894711603833208051177722232017256448) % 6277101735386680763835789423207666416102355444464034512896 - 3138550867693340381917894711603833208051177722232017256448
theorem wr192_rng (x : Int) : -3138550867693340381917894711603833208051177722232017256448 ≤ wr192 x ∧ wr192 x ≤ 3138550867693340381917894711603833208051177722232017256447 := by unfold wr192; omega
theorem wr192_eq (x : Int) : ∃ q : Int, x = wr192 x + 6277101735386680763835789423207666416102355444464034512896 * q := ⟨(x + 3138550867693340381917894711603833208051177722232017256448) / 6277101735386680763835789423207666416102355444464034512896, by unfold wr192; omega⟩
theorem wr192_words (x : Int) : t3 x = t3 (wr192 x) ∧ m3 x = m3 (wr192 x) ∧ lo x = lo (wr192 x) := by
  obtain ⟨q, hq⟩ := wr192_eq x
  generalize wr192 x = y at *
  subst hq
  unfold t3 m3 lo
  refine ⟨by omega, by omega, by omega⟩
theorem wr192_bit (x : Int) (k : Nat) (hk : k < 192) : x / 2 ^ k % 2 = wr192 x / 2 ^ k % 2 := by
  obtain ⟨q, hq⟩ := wr192_eq x
  generalize wr192 x = y at *
  subst hq
  have hp := pow_pos' k
  have e : (6277101735386680763835789423207666416102355444464034512896 : Int) = 2 ^ k * (2 * 2 ^ (191 - k)) := by
    rw [show (2 : Int) * 2 ^ (191 - k) = 2 ^ (191 - k + 1) by rw [Int.pow_succ, Int.mul_comm], ← Int.pow_add, show k + (191 - k + 1) = 192 by omega]; rfl
  rw [e, Int.mul_assoc, Int.add_mul_ediv_left _ _ (by omega), Int.mul_assoc]
  omega
theorem Bt.wrap {w : World} {v : Value} {a : Int} (h : Bt w v 192 a) : Bt w v 192 (wr192 a) := by
  obtain ⟨g, cap, hv, h1, h2, hc⟩ := h
  exact ⟨g, cap, hv, h1, h2, fun k hk => by rw [hc k hk, wr192_bit a k hk]⟩
theorem inr_192 (x : Int) (x0 : -3138550867693340381917894711603833208051177722232017256448 ≤ x) (x1 : x ≤ 3138550867693340381917894711603833208051177722232017256447) : InR 192 x := by
  unfold InR
  rw [show (2 : Int) ^ (192 - 1) = 3138550867693340381917894711603833208051177722232017256448 from rfl]
  omega

set_option maxHeartbeats 400000 in
theorem times_191 (n : Int) (k : Nat) (h : min (max n 0) 191 = (k : Int)) (w : World) :
    Calls Tryd.prog 14 #[.int .i64 n, .int .i64 191] w fun e w' => e = .returned (.int .i64 (k : Int)) ∧ w' = w := by
  go_enter Tryd.func14, Tryd.ntmps14
  go_wp2
  go_ret
  exact ⟨rfl, rfl⟩

set_option maxHeartbeats 400000 in
theorem long_any (x : Int) (w : World) :
    Calls Tryd.prog 5 #[.agg #[.int .i64 (t3 x), .int .u64 (m3 x), .int .u64 (lo x)]] w fun e w' => ∃ v, e = .returned v ∧ w'.ownsRow w.heap.size 3 1 v 192 ((bl 192 x).map (Value.int .i64)) ∧ Below w.heap.size w w' := by
  go_enter Tryd.func5, Tryd.ntmps5
  go_wp2_with fail
  refine (word_any (w.heap.size + 1) 3 x (by omega) _ ?_).mono ?_
  · intro i hi2
    rcases (show i = 0 ∨ i = 1 ∨ i = 2 by omega) with rfl | rfl | rfl
    · rw [show x / 2 ^ (64 * 0) = x by rw [Nat.mul_zero, Int.pow_zero, Int.ediv_one]]
      simp [go_sem, u64_wrap]
    · simp [go_sem]
      rw [IntKind.wrap_u64]
      unfold m3
      show _ = x / 18446744073709551616 % 18446744073709551616
      omega
    · simp [go_sem]
      rw [IntKind.wrap_u64, IntKind.wrap_u64]
      unfold t3
      show _ = x / 340282366920938463463374607431768211456 % 18446744073709551616
      omega
  · rintro e w1 ⟨v, rfl, hown, hb⟩
    have W1 : Below w.heap.size w w1 := (bel2 w _ _).trans (hb.mono (by simp; omega))
    have O1 := own_base hown (base' := w.heap.size) (by simp; omega)
    clear hown hb
    go_wp2
    go_ret
    exact ⟨_, rfl, O1, W1⟩

theorem rround_all (va : Value) (k : Nat) (hk : k ≤ 191) (a : Int) (hr : InR 192 a) (w : World) (hA : Bt w va 192 a) :
    Calls Tryd.prog 13 #[va, .int .i64 (k : Int)] w fun e w' => ∃ v, e = .returned v ∧ Bt w' v 192 (rl a k) ∧ Below w.heap.size w w' := by
  by_cases hz : k = 0
  · subst hz
    refine (rround_zero va w).mono ?_
    rintro e w' ⟨rfl, rfl⟩
    exact ⟨va, rfl, by rw [rl_zero]; exact hA, Below.refl _ _⟩
  · rw [rl_pos a k (by omega)]
    exact rround_any va 192 k a (by omega) (by omega) (by omega) (by omega) hr w hA
end Go.Proofs.YtpmidldnomleoaaDoor
