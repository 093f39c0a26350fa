/-
  FixFloats: for every bits the law regattalaw02.FixFloats returns true: any float64, by its bits, is the nearest number of steps, or held; the infinities are the ends, and what is no number is refused. No condition.
-/
import Derived.Test.YtpmlpcejmndidabFWalkC
import Derived.Test.YtpmlpcejmndidabSWalkM
set_option linter.unusedVariables false
set_option linter.unusedSimpArgs false
namespace Go.Proofs.Ytpmlpcejmndidab
open Go.RowKit

theorem run_from64 (n : Nat) (w : World) : (callFunc 10 #[.int .u64 (n : Int)]).run Try.prog w = .ok (.value (.float .f64 n)) w := by
  rw [run_callFunc_extern Try.func10 (by kernel_rfl) (by kernel_rfl) (by kernel_rfl) (e := Extern.MathFloatBits.float64frombits) (by kernel_rfl)]
  rfl
theorem sff_num (b : Int) (b0 : 0 ≤ b) (b1 : b < 18446744073709551616) (hN : fN b = false) (w : World) : Calls Try.prog 11 #[.int .u64 b] w fun e w' => e = .returned (.tuple #[.int .i64 (clv (fV b)), .bool (ovv (fV b)), .bool true]) ∧ Below w.heap.size w w' := by
  have hE := fE_rng b
  by_cases h1 : fE b = 2047
  · have hF : fF b = 0 := by
      unfold fN at hN
      rw [decide_eq_true h1] at hN
      simp at hN
      exact hN
    exact sff_inf b b0 b1 h1 hF w
  · by_cases h2 : fE b ≤ 1043
    · exact sff_down b b0 b1 h2 w
    · exact sff_up b b0 b1 (by omega) (by omega) w
set_option maxHeartbeats 2000000 in
theorem fixFloats_walk (b : Int) (b0 : 0 ≤ b) (b1 : b ≤ 18446744073709551615) (w : World) :
    Calls Try.prog 3 #[.int .u64 b] w fun e w' => e = .returned (.bool true) ∧ Below w.heap.size w w' := by
  obtain ⟨n, rfl⟩ : ∃ n : Nat, b = n := ⟨b.toNat, by omega⟩
  have F64 := run_from64 n
  cases hN : fN (n : Int)
  · have h1 := fun W => ffloat_num n (by omega) hN W
    have h2 := fun W => sff_num (n : Int) b0 (by omega) hN W
    generalize clv (fV (n : Int)) = C at *
    generalize ovv (fV (n : Int)) = O at *
    have P1 : Hid (∀ W : World, Calls Try.prog 9 #[.float .f64 n] W fun e w' => e = .returned (.tuple #[.int .i64 C, .bool O, .int .i64 0]) ∧ Below W.heap.size W w') := h1
    have P2 : Hid (∀ W : World, Calls Try.prog 11 #[.int .u64 (n : Int)] W fun e w' => e = .returned (.tuple #[.int .i64 C, .bool O, .bool true]) ∧ Below W.heap.size W w') := h2
    clear h1 h2 hN
    go_enter Try.func3, Try.ntmps3
    go_wp2_with fail
    refine (kawake_any _).mono ?_
    rintro e w1 ⟨rfl, W1⟩
    go_wp2_with fail
    refine (P1.out _).mono ?_
    rintro e w2 ⟨rfl, hb⟩
    have W2 := bchain W1 hb
    clear hb W1 P1
    go_wp2_with fail
    refine (P2.out _).mono ?_
    rintro e w3 ⟨rfl, hb⟩
    have W3 := bchain W2 hb
    clear hb W2 P2
    go_wp2_with fail
    refine (like_same _ _ _).mono ?_
    rintro e wz ⟨rfl, hz⟩
    subst hz
    go_wp2
    go_ret
    exact ⟨rfl, W3⟩
  · have h1 := fun W => ffloat_nan n (by omega) hN W
    have h2 := fun W => sff_nan (n : Int) b0 (by omega) hN W
    have P1 : Hid (∀ W : World, Calls Try.prog 9 #[.float .f64 n] W fun e w' => e = .returned (.tuple #[.int .i64 0, .bool false, .int .i64 20]) ∧ Below W.heap.size W w') := h1
    have P2 : Hid (∀ W : World, Calls Try.prog 11 #[.int .u64 (n : Int)] W fun e w' => e = .returned (.tuple #[.int .i64 0, .bool false, .bool false]) ∧ Below W.heap.size W w') := h2
    clear h1 h2 hN
    go_enter Try.func3, Try.ntmps3
    go_wp2_with fail
    refine (kawake_any _).mono ?_
    rintro e w1 ⟨rfl, W1⟩
    go_wp2_with fail
    refine (P1.out _).mono ?_
    rintro e w2 ⟨rfl, hb⟩
    have W2 := bchain W1 hb
    clear hb W1 P1
    go_wp2_with fail
    refine (P2.out _).mono ?_
    rintro e w3 ⟨rfl, hb⟩
    have W3 := bchain W2 hb
    clear hb W2 P2
    go_wp2
    go_ret
    exact ⟨rfl, W3⟩
end Go.Proofs.Ytpmlpcejmndidab
