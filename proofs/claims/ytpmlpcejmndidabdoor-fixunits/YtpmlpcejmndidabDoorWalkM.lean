/-
  Contracts of math/bits.TrailingZeros64 and of regatta/wide's wordsOf and of words' long, at and bit.
-/
import Derived.Test.YtpmlpcejmndidabDoorMathW
import Derived.Test.YtpmlpcejmndidabDoorTools
set_option linter.unusedVariables false
set_option linter.unusedSimpArgs false
namespace Go.Proofs.YtpmlpcejmndidabDoor
open Go.RowKit

/-- The table that TrailingZeros64 looks into, as its initialiser lays it. -/
def TabAt (w : World) : Prop := ∀ j, j < 64 → w.cell? ⟨3, j, none⟩ = some (.int .u8 (Lib.deBruijn64tab.getD j 0))
theorem TabAt.later {w w' : World} (h : TabAt w) (hb : Below w.heap.size w w') : TabAt w' := fun j hj => cell_later hb (h j hj)

theorem tz_key (x a : Nat) (hx : x < 18446744073709551616) (hx0 : x ≠ 0) (hlow : x &&& (18446744073709551616 - x) = a) :
    IntKind.u64.wrap (bits BinOp.and IntKind.u64 (x : Int) (IntKind.u64.wrap (-(x : Int))) * 285870213051353865) / 288230376151711744 = ((a * 285870213051353865 % 18446744073709551616 / 288230376151711744 : Nat) : Int) := by
  have e1 : IntKind.u64.wrap (-(x : Int)) = ((18446744073709551616 - x : Nat) : Int) := by rw [IntKind.wrap_u64]; omega
  rw [e1, bits_and_u64_nat x _ hx (by omega), hlow, IntKind.wrap_u64]
  omega
set_option maxHeartbeats 1000000 in
theorem tz_core (x k idx : Nat) (w : World) (hx0 : ((x : Int) == 0) = false)
    (key : IntKind.u64.wrap (bits BinOp.and IntKind.u64 (x : Int) (IntKind.u64.wrap (-(x : Int))) * 285870213051353865) / 288230376151711744 = (idx : Int))
    (hi : idx < 64) (hk : k < 64) (hcell : w.cell? ⟨3, idx, none⟩ = some (.int .u8 k)) :
    Calls Tryd.prog 89 #[.int .u64 x] w fun e w' => e = .returned (.int .i64 k) ∧ w' = w := by
  go_enter Tryd.func89, Tryd.ntmps89
  go_wp2_with (simp only [key])
  go_ret
  exact ⟨rfl, rfl⟩
theorem tz_zero (w : World) :
    Calls Tryd.prog 89 #[.int .u64 0] w fun e w' => e = .returned (.int .i64 64) ∧ w' = w := by
  go_enter Tryd.func89, Tryd.ntmps89
  go_wp2
  go_ret
  exact ⟨rfl, rfl⟩
theorem tz_any (x : Int) (x0 : 1 ≤ x) (x1 : x ≤ 18446744073709551615) (w : World) (hT : TabAt w) :
    ∃ k : Nat, k < 64 ∧ x % 2 ^ k = 0 ∧ x / 2 ^ k % 2 = 1 ∧ ∀ w : World, TabAt w → Calls Tryd.prog 89 #[.int .u64 x] w fun e w' => e = .returned (.int .i64 (k : Int)) ∧ w' = w := by
  obtain ⟨X, rfl⟩ := Int.eq_ofNat_of_zero_le (show 0 ≤ x by omega)
  obtain ⟨hlow, hk⟩ := Lib.lowest_bit 64 X (by omega) (by show X < 18446744073709551616; omega)
  obtain ⟨hi, htab⟩ := Lib.deBruijn64_at _ hk
  obtain ⟨c1, c2, c3⟩ := ctz_word X (by omega) (by omega)
  refine ⟨Lib.ctz 64 X, hk, c2, c3, fun w hT => ?_⟩
  refine tz_core X (Lib.ctz 64 X) _ w (beq_eq_false_iff_ne.2 (by omega)) (tz_key X _ (by omega) (by omega) hlow) hi hk ?_
  rw [hT _ hi, htab]

theorem t3_wrap (v : Int) : IntKind.u64.wrap (t3 v) = u3 v := by rw [IntKind.wrap_u64]; exact t3_u3 v
theorem u3_wrap (v : Int) : wrap64 (u3 v) = t3 v := by rw [w64]; exact u3_t3 v

set_option maxHeartbeats 400000 in
theorem wordsOf_any (v : Int) (w : World) :
    Calls Tryd.prog 67 #[.agg #[.int .i64 (t3 v), .int .u64 (m3 v), .int .u64 (lo v)]] w fun e w' => e = .returned (.agg #[.int .u64 (lo v), .int .u64 (m3 v), .int .u64 (u3 v)]) ∧ Below w.heap.size w w' := by
  have e := t3_wrap v
  go_enter Tryd.func67, Tryd.ntmps67
  go_wp2
  exact bodyPost_ret (v := .agg #[.int .u64 (lo v), .int .u64 (m3 v), .int .u64 (u3 v)]) (by simp [results, Tryd.results67, go_sem]) rfl ⟨rfl, bel2 _ _ _⟩

set_option maxHeartbeats 400000 in
theorem wlong_any (v : Int) (w : World) :
    Calls Tryd.prog 69 #[.agg #[.int .u64 (lo v), .int .u64 (m3 v), .int .u64 (u3 v)]] w fun e w' => e = .returned (.agg #[.int .i64 (t3 v), .int .u64 (m3 v), .int .u64 (lo v)]) ∧ Below w.heap.size w w' := by
  have e := u3_wrap v
  go_enter Tryd.func69, Tryd.ntmps69
  go_wp2
  exact bodyPost_ret (v := .agg #[.int .i64 (t3 v), .int .u64 (m3 v), .int .u64 (lo v)]) (by simp [results, Tryd.results69, go_sem]) rfl ⟨rfl, bel2 _ _ _⟩

set_option maxHeartbeats 400000 in
theorem at_any (v : Int) (i : Nat) (hi : i ≤ 100) (h0 : -3138550867693340381917894711603833208051177722232017256448 ≤ v) (h1 : v ≤ 3138550867693340381917894711603833208051177722232017256447) (w : World) :
    Calls Tryd.prog 85 #[.agg #[.int .u64 (lo v), .int .u64 (m3 v), .int .u64 (u3 v)], .int .i64 (i : Int)] w fun e w' => e = .returned (.int .u64 (wd v i)) ∧ Below w.heap.size w w' := by
  rcases (show i = 0 ∨ i = 1 ∨ i = 2 ∨ 3 ≤ i by omega) with rfl | rfl | rfl | h3
  · rw [wd_0]
    go_enter Tryd.func85, Tryd.ntmps85
    go_wp2
    go_ret
    exact ⟨rfl, bel1 _ _⟩
  · rw [wd_1]
    go_enter Tryd.func85, Tryd.ntmps85
    go_wp2
    go_ret
    exact ⟨rfl, bel1 _ _⟩
  · rw [wd_2]
    go_enter Tryd.func85, Tryd.ntmps85
    go_wp2
    go_ret
    exact ⟨rfl, bel1 _ _⟩
  · have e := u3_wrap v
    have h3I : (3 : Int) ≤ (i : Int) := by omega
    have ht := u3_top v h0 h1
    have HW : Hid (wd v i = IntKind.u64.wrap (t3 v / 9223372036854775808)) := by
      show _ = _
      rw [wd_top v i h3 h0 h1, ht]
      by_cases hn : v < 0
      · rw [if_pos hn, if_pos hn]; rfl
      · rw [if_neg hn, if_neg hn]; rfl
    clear ht
    go_enter Tryd.func85, Tryd.ntmps85
    go_wp2
    go_ret
    exact ⟨by rw [HW.out]; rfl, bel1 _ _⟩

set_option maxHeartbeats 1000000 in
theorem bit_any (v : Int) (n q r : Nat) (hn : n = 64 * q + r) (hq : q ≤ 2) (hr : r < 64) (w : World) :
    Calls Tryd.prog 86 #[.agg #[.int .u64 (lo v), .int .u64 (m3 v), .int .u64 (u3 v)], .int .i64 (n : Int)] w fun e w' => e = .returned (.int .u64 (v / 2 ^ n % 2)) ∧ Below w.heap.size w w' := by
  have hb := wd_bit v q r hr
  rw [← hn] at hb
  have hw := wd_rng v q
  have hp := pow_pos' r
  have d0 : 0 ≤ wd v q / 2 ^ r := Int.ediv_nonneg hw.1 (by omega)
  have d1 : wd v q / 2 ^ r ≤ wd v q := Int.ediv_le_self _ hw.1
  have ha := wand1 (wd v q / 2 ^ r) d0 (by omega)
  rw [hb] at ha
  have t1 : (n : Int).tdiv 64 = (q : Int) := by rw [Int.tdiv_eq_ediv_of_nonneg (by omega)]; omega
  have t2 : (n : Int).tmod 64 = (r : Int) := by rw [Int.tmod_eq_emod_of_nonneg (by omega)]; omega
  have n0 : (0 : Int) ≤ (n : Int) := by omega
  have HA : Hid (bits .and .u64 (wd v q / 2 ^ r) 1 = v / 2 ^ n % 2) := ha
  clear ha hb hn d0 d1 hp hw
  rcases (show q = 0 ∨ q = 1 ∨ q = 2 by omega) with rfl | rfl | rfl
  · rw [wd_0] at HA
    go_enter Tryd.func86, Tryd.ntmps86
    go_wp2
    go_ret
    exact ⟨by rw [← HA.out]; rfl, bel1 _ _⟩
  · rw [wd_1] at HA
    go_enter Tryd.func86, Tryd.ntmps86
    go_wp2
    go_ret
    exact ⟨by rw [← HA.out]; rfl, bel1 _ _⟩
  · rw [wd_2] at HA
    go_enter Tryd.func86, Tryd.ntmps86
    go_wp2
    go_ret
    exact ⟨by rw [← HA.out]; rfl, bel1 _ _⟩
end Go.Proofs.YtpmlpcejmndidabDoor
