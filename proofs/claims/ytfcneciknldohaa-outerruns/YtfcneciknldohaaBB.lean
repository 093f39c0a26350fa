/-
  WalkA, WalkB, WalkC, WalkD.
-/
import Derived.Test.YtfcneciknldohaaProg
import Derived.Test.YtfcneciknldohaaBA
import Derived.WalkKit
import Derived.WalkSpells
import Derived.WalkLawsBesides
import Derived.Deep.RegionHeld3
import Derived.Deep.DrawnRows
import Derived.Lib.Mul64
import Derived.Laws.Bits64b
import Derived.Lib.MinMax
/-
  Contracts of math/bits' Add64 and Sub64 (as the model runs them) and of regatta/wide's Of, Add, Sub, Neg: each on every number, no condition.
-/
set_option linter.unusedVariables false
namespace Go.Proofs.Ytfcneciknldohaa
open Go.RowKit

theorem run_add64_at (x y c : Int) (hx : 0 ≤ x) (hy : 0 ≤ y) (hc0 : 0 ≤ c) (hc : c ≤ 1) (w : World) :
    (callFunc 49 #[.int .u64 x, .int .u64 y, .int .u64 c]).run Try.prog w =
      .ok (.value (.tuple #[.int .u64 ((x + y + c) % 18446744073709551616), .int .u64 ((x + y + c) / 18446744073709551616)])) w := by
  rw [run_callFunc_extern Try.func49 (by kernel_rfl) (by kernel_rfl) (by kernel_rfl) (e := add64Entry) (by kernel_rfl), run_add64 x y c hx hy hc0 hc]
  rfl
theorem run_add64_0 (x y : Int) (hx : 0 ≤ x) (hy : 0 ≤ y) (w : World) :
    (callFunc 49 #[.int .u64 x, .int .u64 y, .int .u64 0]).run Try.prog w =
      .ok (.value (.tuple #[.int .u64 ((x + y) % 18446744073709551616), .int .u64 ((x + y) / 18446744073709551616)])) w := by
  rw [run_add64_at x y 0 hx hy (by omega) (by omega)]; simp only [Int.add_zero]

def sub64Row : Array Value → Sem Value := fun args => do
  let (x, y, b) ← Extern.MathBitsCarry.three "Sub64" args
  pure (Extern.MathBitsCarry.pair ((x + Extern.MathBitsCarry.m64 - y - b) % Extern.MathBitsCarry.m64) (if x < y + b then 1 else 0))

theorem run_sub64_nat (x y b : Nat) (hb : b ≤ 1) (w : World) :
    (sub64Row #[.int .u64 x, .int .u64 y, .int .u64 b]).run Try.prog w =
      .ok (.tuple #[.int .u64 (((x + 18446744073709551616 - y - b) % 18446744073709551616 : Nat) : Int), .int .u64 ((if x < y + b then 1 else 0 : Nat) : Int)]) w := by
  have : b = 0 ∨ b = 1 := by omega
  rcases this with rfl | rfl <;> rfl

theorem run_sub64_at (x y b : Int) (hx : 0 ≤ x) (hy : 0 ≤ y) (hy1 : y ≤ 18446744073709551615) (hb0 : 0 ≤ b) (hb : b ≤ 1) (w : World) :
    (callFunc 65 #[.int .u64 x, .int .u64 y, .int .u64 b]).run Try.prog w =
      .ok (.value (.tuple #[.int .u64 ((x + 18446744073709551616 - y - b) % 18446744073709551616), .int .u64 (bor x (y + b))])) w := by
  rw [run_callFunc_extern Try.func65 (by kernel_rfl) (by kernel_rfl) (by kernel_rfl) (e := sub64Row) (by kernel_rfl)]
  obtain ⟨X, rfl⟩ := Int.eq_ofNat_of_zero_le hx
  obtain ⟨Y, rfl⟩ := Int.eq_ofNat_of_zero_le hy
  obtain ⟨c, rfl⟩ := Int.eq_ofNat_of_zero_le hb0
  have e1 : (((X + 18446744073709551616 - Y - c) % 18446744073709551616 : Nat) : Int) = ((X : Int) + 18446744073709551616 - (Y : Int) - (c : Int)) % 18446744073709551616 := by omega
  have e2 : ((if X < Y + c then 1 else 0 : Nat) : Int) = bor (X : Int) ((Y : Int) + (c : Int)) := by
    unfold bor
    by_cases h : X < Y + c
    · rw [if_pos h, if_pos (by omega)]; rfl
    · rw [if_neg h, if_neg (by omega)]; rfl
  have h := run_sub64_nat X Y c (by omega) w
  rw [e1, e2] at h
  rw [h]
  rfl
theorem run_sub64_0 (x y : Int) (hx : 0 ≤ x) (hy : 0 ≤ y) (hy1 : y ≤ 18446744073709551615) (w : World) :
    (callFunc 65 #[.int .u64 x, .int .u64 y, .int .u64 0]).run Try.prog w =
      .ok (.value (.tuple #[.int .u64 ((x + 18446744073709551616 - y) % 18446744073709551616), .int .u64 (bor x y)])) w := by
  rw [run_sub64_at x y 0 hx hy hy1 (by omega) (by omega)]; simp only [Int.add_zero, Int.sub_zero]

theorem bel1 (w : World) (o1 : Obj) : Below w.heap.size w (w.alloc o1) := (Below.refl _ _).alloc (Nat.le_refl _) _
theorem bel2 (w : World) (o1 o2 : Obj) : Below w.heap.size w ((w.alloc o1).alloc o2) := (bel1 w o1).alloc (by simp) _
theorem bel3 (w : World) (o1 o2 o3 : Obj) : Below w.heap.size w (((w.alloc o1).alloc o2).alloc o3) := (bel2 w o1 o2).alloc (by simp; omega) _
theorem bel4 (w : World) (o1 o2 o3 o4 : Obj) : Below w.heap.size w ((((w.alloc o1).alloc o2).alloc o3).alloc o4) := (bel3 w o1 o2 o3).alloc (by simp; omega) _
theorem bcell {W w1 : World} (hb : Below W.heap.size W w1) : (∀ b o, b < W.heap.size → w1.cell? ⟨b, o, none⟩ = W.cell? ⟨b, o, none⟩) ∧ (∀ b o, b < W.heap.size → w1.frozen? ⟨b, o, none⟩ = W.frozen? ⟨b, o, none⟩) :=
  ⟨fun b o h => hb.cell (p := ⟨b, o, none⟩) h, fun b o h => hb.frozen (p := ⟨b, o, none⟩) h⟩

theorem u64_wrap (n : Int) : IntKind.u64.wrap n = lo n := by rw [IntKind.wrap_u64]; rfl
theorem add_hi' (a0 a1 b0 b1 : Int) (ha0 : 0 ≤ a1) (ha1 : a1 ≤ 18446744073709551615) (hb0 : 0 ≤ b1) (hb1 : b1 ≤ 18446744073709551615) : wrap64 ((IntKind.u64.wrap a0 + IntKind.u64.wrap b0 + (a1 + b1) / 18446744073709551616) % 18446744073709551616) = hi (nm a0 a1 + nm b0 b1) := by
  rw [← add_hi a0 a1 b0 b1 ha0 ha1 hb0 hb1]; simp only [IntKind.wrap_u64, wrap64]
theorem sub_hi' (a0 a1 b0 b1 : Int) (ha0 : 0 ≤ a1) (ha1 : a1 ≤ 18446744073709551615) (hb0 : 0 ≤ b1) (hb1 : b1 ≤ 18446744073709551615) : wrap64 ((IntKind.u64.wrap a0 + 18446744073709551616 - IntKind.u64.wrap b0 - bor a1 b1) % 18446744073709551616) = hi (nm a0 a1 - nm b0 b1) := by
  rw [← sub_hi a0 a1 b0 b1 ha0 ha1 hb0 hb1]; simp only [IntKind.wrap_u64, wrap64]

set_option maxHeartbeats 400000 in
theorem of_any (n : Int) (h0 : -9223372036854775808 ≤ n) (h1 : n ≤ 9223372036854775807) (w : World) :
    Calls Try.prog 35 #[.int .i64 n] w fun e w' => e = .returned (.agg #[.int .i64 (hi n), .int .u64 (lo n)]) ∧ Below w.heap.size w w' := by
  have e1 := of_hi n h0 h1
  go_enter Try.func35, Try.ntmps35
  go_wp2
  exact bodyPost_ret (v := .agg #[.int .i64 (hi n), .int .u64 (lo n)]) (by simp [results, Try.results35, go_sem, u64_wrap]) rfl ⟨rfl, (Below.refl _ _).alloc (Nat.le_refl _) _⟩

set_option maxHeartbeats 400000 in
theorem add_raw (a0 a1 b0 b1 : Int) (ha0 : 0 ≤ a1) (ha1 : a1 ≤ 18446744073709551615) (hb0 : 0 ≤ b1) (hb1 : b1 ≤ 18446744073709551615) (w : World) :
    Calls Try.prog 33 #[.agg #[.int .i64 a0, .int .u64 a1], .agg #[.int .i64 b0, .int .u64 b1]] w fun e w' => e = .returned (.agg #[.int .i64 (hi (nm a0 a1 + nm b0 b1)), .int .u64 (lo (nm a0 a1 + nm b0 b1))]) ∧ Below w.heap.size w w' := by
  go_enter Try.func33, Try.ntmps33
  go_wp2_with (first | simp only [run_add64_0 a1 b1 ha0 hb0] | simp only [run_add64_at (IntKind.u64.wrap a0) (IntKind.u64.wrap b0) ((a1 + b1) / 18446744073709551616) (by simp only [IntKind.wrap_u64]; omega) (by simp only [IntKind.wrap_u64]; omega) (by omega) (by omega)])
  exact bodyPost_ret (v := .agg #[.int .i64 (hi (nm a0 a1 + nm b0 b1)), .int .u64 (lo (nm a0 a1 + nm b0 b1))]) (by simp [results, Try.results33, go_sem]; exact ⟨add_hi' a0 a1 b0 b1 ha0 ha1 hb0 hb1, add_lo a0 a1 b0 b1⟩) rfl ⟨rfl, bel3 _ _ _ _⟩

theorem add_any (a b : Int) (w : World) :
    Calls Try.prog 33 #[.agg #[.int .i64 (hi a), .int .u64 (lo a)], .agg #[.int .i64 (hi b), .int .u64 (lo b)]] w fun e w' => e = .returned (.agg #[.int .i64 (hi (a + b)), .int .u64 (lo (a + b))]) ∧ Below w.heap.size w w' := by
  have h := add_raw (hi a) (lo a) (hi b) (lo b) (lo_ge a) (lo_le a) (lo_ge b) (lo_le b) w
  rw [hi_congr _ _ (add_congr a b), lo_congr _ _ (add_congr a b)] at h
  exact h

set_option maxHeartbeats 400000 in
theorem sub_raw (a0 a1 b0 b1 : Int) (ha0 : 0 ≤ a1) (ha1 : a1 ≤ 18446744073709551615) (hb0 : 0 ≤ b1) (hb1 : b1 ≤ 18446744073709551615) (w : World) :
    Calls Try.prog 54 #[.agg #[.int .i64 a0, .int .u64 a1], .agg #[.int .i64 b0, .int .u64 b1]] w fun e w' => e = .returned (.agg #[.int .i64 (hi (nm a0 a1 - nm b0 b1)), .int .u64 (lo (nm a0 a1 - nm b0 b1))]) ∧ Below w.heap.size w w' := by
  have k := bor_01 a1 b1
  have k0 := k.1
  have k1 := k.2
  clear k
  go_enter Try.func54, Try.ntmps54
  go_wp2_with (first | simp only [run_sub64_0 a1 b1 ha0 hb0 hb1] | simp only [run_sub64_at (IntKind.u64.wrap a0) (IntKind.u64.wrap b0) (bor a1 b1) (by simp only [IntKind.wrap_u64]; omega) (by simp only [IntKind.wrap_u64]; omega) (by simp only [IntKind.wrap_u64]; omega) k0 k1])
  exact bodyPost_ret (v := .agg #[.int .i64 (hi (nm a0 a1 - nm b0 b1)), .int .u64 (lo (nm a0 a1 - nm b0 b1))]) (by simp [results, Try.results54, go_sem]; exact ⟨sub_hi' a0 a1 b0 b1 ha0 ha1 hb0 hb1, sub_lo a0 a1 b0 b1⟩) rfl ⟨rfl, bel3 _ _ _ _⟩

theorem sub_any (a b : Int) (w : World) :
    Calls Try.prog 54 #[.agg #[.int .i64 (hi a), .int .u64 (lo a)], .agg #[.int .i64 (hi b), .int .u64 (lo b)]] w fun e w' => e = .returned (.agg #[.int .i64 (hi (a - b)), .int .u64 (lo (a - b))]) ∧ Below w.heap.size w w' := by
  have h := sub_raw (hi a) (lo a) (hi b) (lo b) (lo_ge a) (lo_le a) (lo_ge b) (lo_le b) w
  rw [hi_congr _ _ (sub_congr a b), lo_congr _ _ (sub_congr a b)] at h
  exact h

theorem sub_zero_any (a : Int) (w : World) :
    Calls Try.prog 54 #[.agg #[.int .i64 0, .int .u64 0], .agg #[.int .i64 (hi a), .int .u64 (lo a)]] w fun e w' => e = .returned (.agg #[.int .i64 (hi (-a)), .int .u64 (lo (-a))]) ∧ Below w.heap.size w w' := by
  have h := sub_any 0 a w
  rw [show hi 0 = 0 from rfl, show lo 0 = 0 from rfl, Int.zero_sub] at h
  exact h

end Go.Proofs.Ytfcneciknldohaa
/-
  Contracts of cmp.Compare at int64 and uint64, of cmp.Or at two ints and of regatta/wide's Cmp.
-/
set_option linter.unusedVariables false
namespace Go.Proofs.Ytfcneciknldohaa
open Go.RowKit

set_option maxHeartbeats 400000 in
theorem cmpi_any (x y : Int) (w : World) :
    Calls Try.prog 67 #[.int .i64 x, .int .i64 y] w fun e w' => e = .returned (.int .i64 (c3 x y)) ∧ w' = w := by
  by_cases h1 : x < y
  · rw [c3_lt x y h1]
    go_enter Try.func67, Try.ntmps67
    go_wp2
    go_ret
    exact ⟨rfl, rfl⟩
  · by_cases h2 : y < x
    · rw [c3_gt x y h2]
      go_enter Try.func67, Try.ntmps67
      go_wp2
      go_ret
      exact ⟨rfl, rfl⟩
    · have e : x = y := by omega
      subst e
      rw [c3_self x]
      go_enter Try.func67, Try.ntmps67
      go_wp2
      go_ret
      exact ⟨rfl, rfl⟩

set_option maxHeartbeats 400000 in
theorem cmpu_any (x y : Int) (w : World) :
    Calls Try.prog 68 #[.int .u64 x, .int .u64 y] w fun e w' => e = .returned (.int .i64 (c3 x y)) ∧ w' = w := by
  by_cases h1 : x < y
  · rw [c3_lt x y h1]
    go_enter Try.func68, Try.ntmps68
    go_wp2
    go_ret
    exact ⟨rfl, rfl⟩
  · by_cases h2 : y < x
    · rw [c3_gt x y h2]
      go_enter Try.func68, Try.ntmps68
      go_wp2
      go_ret
      exact ⟨rfl, rfl⟩
    · have e : x = y := by omega
      subst e
      rw [c3_self x]
      go_enter Try.func68, Try.ntmps68
      go_wp2
      go_ret
      exact ⟨rfl, rfl⟩

set_option maxHeartbeats 400000 in
theorem or_any (p q : Int) (b : Nat) (w : World) (c0 : w.cell? ⟨b, 0, none⟩ = some (.int .i64 p)) (c1 : w.cell? ⟨b, 1, none⟩ = some (.int .i64 q)) :
    Calls Try.prog 66 #[.slice (some ⟨b, 0, none⟩) 2 2] w fun e w' => e = .returned (.int .i64 (or2 p q)) ∧ w' = w := by
  by_cases hp : p = 0
  · subst hp
    rw [or2_0]
    by_cases hq : q = 0
    · subst hq
      go_enter Try.func66, Try.ntmps66
      go_wp2
      refine wp_loop_rounds 3 ?_
      rw [rounds_succ]
      go_wp2
      rw [rounds_succ]
      go_wp2
      rw [rounds_succ]
      go_wp2
      go_ret
      exact ⟨rfl, rfl⟩
    · have hq' : (q != 0) = true := by rw [bne_iff_ne]; exact hq
      go_enter Try.func66, Try.ntmps66
      go_wp2
      refine wp_loop_rounds 2 ?_
      rw [rounds_succ]
      go_wp2
      rw [rounds_succ]
      go_wp2
      go_ret
      exact ⟨rfl, rfl⟩
  · have hp' : (p != 0) = true := by rw [bne_iff_ne]; exact hp
    rw [or2_ne p q hp]
    go_enter Try.func66, Try.ntmps66
    go_wp2
    refine wp_loop_rounds 1 ?_
    rw [rounds_succ]
    go_wp2
    go_ret
    exact ⟨rfl, rfl⟩

set_option maxHeartbeats 1000000 in
theorem cmp_raw (a0 a1 b0 b1 : Int) (w : World) :
    Calls Try.prog 56 #[.agg #[.int .i64 a0, .int .u64 a1], .agg #[.int .i64 b0, .int .u64 b1]] w fun e w' => e = .returned (.int .i64 (or2 (c3 a0 b0) (c3 a1 b1))) ∧ Below w.heap.size w w' := by
  go_enter Try.func56, Try.ntmps56
  go_wp2_with fail
  go_region_held3 (fun w' => w'.cell? ⟨w.heap.size, 0, none⟩ = some (.int .i64 a0) ∧ w'.cell? ⟨w.heap.size, 1, none⟩ = some (.int .u64 a1) ∧ w'.cell? ⟨w.heap.size + 1, 0, none⟩ = some (.int .i64 b0) ∧ w'.cell? ⟨w.heap.size + 1, 1, none⟩ = some (.int .u64 b1)) ((simp [go_sem, World.cell?_alloc_past])) (first | (go_at_call 67; refine (cmpi_any _ _ _).mono ?_; rintro e w' ⟨rfl, rfl⟩) | (go_at_call 68; refine (cmpu_any _ _ _).mono ?_; rintro e w' ⟨rfl, rfl⟩) | (go_at_call 66; refine (or_any (c3 a0 b0) (c3 a1 b1) _ _ ?_ ?_).mono ?_; (simp [go_sem]); (simp [go_sem]); rintro e w' ⟨rfl, rfl⟩))
  all_goals go_wp2
  all_goals go_ret
  all_goals exact ⟨rfl, (bel3 _ _ _ _).drew⟩

theorem cmp_any (a b : Int) (a0 : -170141183460469231731687303715884105728 ≤ a) (a1 : a ≤ 170141183460469231731687303715884105727) (b0 : -170141183460469231731687303715884105728 ≤ b) (b1 : b ≤ 170141183460469231731687303715884105727) (w : World) :
    Calls Try.prog 56 #[.agg #[.int .i64 (hi a), .int .u64 (lo a)], .agg #[.int .i64 (hi b), .int .u64 (lo b)]] w fun e w' => e = .returned (.int .i64 (c3 a b)) ∧ Below w.heap.size w w' := by
  have h := cmp_raw (hi a) (lo a) (hi b) (lo b) w
  rw [c3_val a b a0 a1 b0 b1] at h
  exact h

end Go.Proofs.Ytfcneciknldohaa
/-
  Contracts of math/bits.Mul64 and of regatta/wide's Mul, clamped, Clamp, goesUp, size, Extend.
-/
set_option linter.unusedVariables false
namespace Go.Proofs.Ytfcneciknldohaa
open Go.RowKit

theorem mk32 (a : Nat) (ha : a < 18446744073709551616) : bits .and .u64 (a : Int) 4294967295 = ((a % 4294967296 : Nat) : Int) := by
  have h := bits_and_u64_nat a 4294967295 ha (by omega)
  have e : a &&& 4294967295 = a % 4294967296 := Nat.and_two_pow_sub_one_eq_mod a 32
  rw [e] at h
  exact h
theorem dv32 (a : Nat) : (a : Int) / 4294967296 = ((a / 4294967296 : Nat) : Int) := by omega
theorem mlN (a b : Nat) : (a : Int) * (b : Int) = ((a * b : Nat) : Int) := (Int.natCast_mul a b).symm
theorem adN (a b : Nat) : (a : Int) + (b : Int) = ((a + b : Nat) : Int) := (Int.natCast_add a b).symm
theorem wrN (a : Nat) (ha : a < 18446744073709551616) : IntKind.u64.wrap (a : Int) = (a : Int) := by rw [IntKind.wrap_u64]; omega
theorem wrM (a : Nat) : IntKind.u64.wrap (a : Int) = ((a % 18446744073709551616 : Nat) : Int) := by rw [IntKind.wrap_u64]; omega

set_option maxHeartbeats 1000000 in
theorem mul64_nat (x y : Nat) (hx : x < 18446744073709551616) (hy : y < 18446744073709551616) (w : World) :
    Calls Try.prog 50 #[.int .u64 x, .int .u64 y] w fun e w' => e = .returned (.tuple #[.int .u64 ((x * y / 18446744073709551616 : Nat) : Int), .int .u64 ((x * y % 18446744073709551616 : Nat) : Int)]) ∧ w' = w := by
  obtain ⟨bd, bt, bw, hhi⟩ := Lib.mul64_hi x y hx hy
  have ba := Lib.half_mul_le (a := x / 4294967296) (b := y / 4294967296) (by omega) (by omega)
  have bb := Lib.half_mul_le (a := x / 4294967296) (b := y % 4294967296) (by omega) (by omega)
  have bc := Lib.half_mul_le (a := x % 4294967296) (b := y / 4294967296) (by omega) (by omega)
  have ba' : x / 4294967296 * (y / 4294967296) < 18446744073709551616 := by omega
  have bb' : x / 4294967296 * (y % 4294967296) < 18446744073709551616 := by omega
  have bc' : x % 4294967296 * (y / 4294967296) < 18446744073709551616 := by omega
  have bh1 : x / 4294967296 * (y / 4294967296) + (x / 4294967296 * (y % 4294967296) + x % 4294967296 * (y % 4294967296) / 4294967296) / 4294967296 < 18446744073709551616 := by omega
  have bh : x / 4294967296 * (y / 4294967296) + (x / 4294967296 * (y % 4294967296) + x % 4294967296 * (y % 4294967296) / 4294967296) / 4294967296 + ((x / 4294967296 * (y % 4294967296) + x % 4294967296 * (y % 4294967296) / 4294967296) % 4294967296 + x % 4294967296 * (y / 4294967296)) / 4294967296 < 18446744073709551616 := by omega
  go_enter Try.func50, Try.ntmps50
  go_wp2
  simp only [mk32 x hx, mk32 y hy, dv32, mlN, adN, wrN _ bd, wrN _ bb', wrN _ bt, mk32 _ bt, wrN _ bc', wrN _ bw, wrN _ ba', wrN _ bh1, wrN _ bh, wrM (x * y)]
  rw [hhi]
  go_ret2
  exact ⟨rfl, rfl⟩

theorem mul64_any (x y : Int) (x0 : 0 ≤ x) (x1 : x ≤ 18446744073709551615) (y0 : 0 ≤ y) (y1 : y ≤ 18446744073709551615) (w : World) :
    Calls Try.prog 50 #[.int .u64 x, .int .u64 y] w fun e w' => e = .returned (.tuple #[.int .u64 (x * y / 18446744073709551616), .int .u64 (x * y % 18446744073709551616)]) ∧ w' = w := by
  obtain ⟨X, rfl⟩ := Int.eq_ofNat_of_zero_le x0
  obtain ⟨Y, rfl⟩ := Int.eq_ofNat_of_zero_le y0
  have h := mul64_nat X Y (by omega) (by omega) w
  rw [show ((X * Y / 18446744073709551616 : Nat) : Int) = (X : Int) * (Y : Int) / 18446744073709551616 by rw [mlN]; omega, show ((X * Y % 18446744073709551616 : Nat) : Int) = (X : Int) * (Y : Int) % 18446744073709551616 by rw [mlN]; omega] at h
  exact h

theorem w64 (x : Int) : wrap64 x = sg x := by unfold wrap64 sg; rfl

set_option maxHeartbeats 1000000 in
theorem mul_any (a b : Int) (a0 : -9223372036854775808 ≤ a) (a1 : a ≤ 9223372036854775807) (b0 : -9223372036854775808 ≤ b) (b1 : b ≤ 9223372036854775807) (w : World) :
    Calls Try.prog 36 #[.int .i64 a, .int .i64 b] w fun e w' => e = .returned (.agg #[.int .i64 (hi (a * b)), .int .u64 (lo (a * b))]) ∧ Below w.heap.size w w' := by
  by_cases ha : a < 0
  · by_cases hb : b < 0
    · go_enter Try.func36, Try.ntmps36
      go_wp2_with (go_at_call 50; refine (mul64_any _ _ ?_ ?_ ?_ ?_ _).mono ?_; (first | omega | (rw [IntKind.wrap_u64]; omega)); (first | omega | (rw [IntKind.wrap_u64]; omega)); (first | omega | (rw [IntKind.wrap_u64]; omega)); (first | omega | (rw [IntKind.wrap_u64]; omega)); rintro e w' ⟨rfl, rfl⟩)
      exact bodyPost_ret (v := .agg #[.int .i64 (hi (a * b)), .int .u64 (lo (a * b))]) (by simp [results, Try.results36, go_sem]; simp only [IntKind.wrap_u64, w64, sg]; exact mul_nn a b ha hb a0 b0) rfl ⟨rfl, bel1 _ _⟩
    · go_enter Try.func36, Try.ntmps36
      go_wp2_with (go_at_call 50; refine (mul64_any _ _ ?_ ?_ ?_ ?_ _).mono ?_; (first | omega | (rw [IntKind.wrap_u64]; omega)); (first | omega | (rw [IntKind.wrap_u64]; omega)); (first | omega | (rw [IntKind.wrap_u64]; omega)); (first | omega | (rw [IntKind.wrap_u64]; omega)); rintro e w' ⟨rfl, rfl⟩)
      exact bodyPost_ret (v := .agg #[.int .i64 (hi (a * b)), .int .u64 (lo (a * b))]) (by simp [results, Try.results36, go_sem]; simp only [IntKind.wrap_u64, w64, sg]; exact mul_np a b ha (by omega) a0 b1) rfl ⟨rfl, bel1 _ _⟩
  · by_cases hb : b < 0
    · go_enter Try.func36, Try.ntmps36
      go_wp2_with (go_at_call 50; refine (mul64_any _ _ ?_ ?_ ?_ ?_ _).mono ?_; (first | omega | (rw [IntKind.wrap_u64]; omega)); (first | omega | (rw [IntKind.wrap_u64]; omega)); (first | omega | (rw [IntKind.wrap_u64]; omega)); (first | omega | (rw [IntKind.wrap_u64]; omega)); rintro e w' ⟨rfl, rfl⟩)
      exact bodyPost_ret (v := .agg #[.int .i64 (hi (a * b)), .int .u64 (lo (a * b))]) (by simp [results, Try.results36, go_sem]; simp only [IntKind.wrap_u64, w64, sg]; exact mul_pn a b (by omega) hb a1 b0) rfl ⟨rfl, bel1 _ _⟩
    · go_enter Try.func36, Try.ntmps36
      go_wp2_with (go_at_call 50; refine (mul64_any _ _ ?_ ?_ ?_ ?_ _).mono ?_; (first | omega | (rw [IntKind.wrap_u64]; omega)); (first | omega | (rw [IntKind.wrap_u64]; omega)); (first | omega | (rw [IntKind.wrap_u64]; omega)); (first | omega | (rw [IntKind.wrap_u64]; omega)); rintro e w' ⟨rfl, rfl⟩)
      exact bodyPost_ret (v := .agg #[.int .i64 (hi (a * b)), .int .u64 (lo (a * b))]) (by simp [results, Try.results36, go_sem]; simp only [w64, sg]; exact mul_pp a b) rfl ⟨rfl, bel1 _ _⟩

set_option maxHeartbeats 400000 in
theorem clamp_any (v : Int) (h0 : -170141183460469231731687303715884105728 ≤ v) (h1 : v ≤ 170141183460469231731687303715884105727) (w : World) :
    Calls Try.prog 51 #[.agg #[.int .i64 (hi v), .int .u64 (lo v)]] w fun e w' => e = .returned (.tuple #[.int .i64 (clv v), .bool (ovv v)]) ∧ Below w.heap.size w w' := by
  by_cases c1 : v < -9223372036854775808
  · obtain ⟨e1, e2⟩ := clv_lo v c1
    obtain ⟨f1, f2⟩ := fits_lo v c1 h0
    rw [e1, e2]
    have f1' : (hi v == wrap64 (lo v) / 9223372036854775808) = false := by rw [beq_eq_false_iff_ne, w64]; exact f1
    clear e1 e2 f1 c1
    go_enter Try.func51, Try.ntmps51
    go_wp2
    go_ret2
    exact ⟨rfl, bel1 _ _⟩
  · by_cases c2 : 9223372036854775807 < v
    · obtain ⟨e1, e2⟩ := clv_hi v c2
      obtain ⟨f1, f2⟩ := fits_hi v c2 h1
      rw [e1, e2]
      have f1' : (hi v == wrap64 (lo v) / 9223372036854775808) = false := by rw [beq_eq_false_iff_ne, w64]; exact f1
      clear e1 e2 f1 c1 c2
      go_enter Try.func51, Try.ntmps51
      go_wp2
      go_ret2
      exact ⟨rfl, bel1 _ _⟩
    · obtain ⟨e1, e2⟩ := clv_in v (by omega) (by omega)
      obtain ⟨f1, f2⟩ := fits_in v (by omega) (by omega)
      rw [e1, e2]
      have f1' : (hi v == wrap64 (lo v) / 9223372036854775808) = true := by rw [beq_iff_eq, w64]; exact f1
      have F2 : Hid (wrap64 (lo v) = v) := by show wrap64 (lo v) = v; rw [w64]; exact f2
      clear e1 e2 f1 f2 c1 c2
      go_enter Try.func51, Try.ntmps51
      go_wp2
      go_ret2
      exact ⟨by rw [F2.out]; rfl, bel1 _ _⟩

set_option maxHeartbeats 400000 in
theorem goesUp_any (s l : Int) (l0 : 0 ≤ l) (w : World) :
    Calls Try.prog 55 #[.int .i64 s, .int .u64 l] w fun e w' => e = .returned (.bool (gu s l)) ∧ w' = w := by
  by_cases c1 : 0 < s
  · have e1 : gu s l = true := by unfold gu; simp [c1]
    rw [e1]
    clear e1
    go_enter Try.func55, Try.ntmps55
    go_wp2
    go_ret
    exact ⟨rfl, rfl⟩
  · by_cases c2 : s = 0
    · subst c2
      have e1 : gu 0 l = decide (l % 2 = 1) := by unfold gu; simp
      rw [e1]
      clear e1
      by_cases c3 : l % 2 = 1
      · rw [decide_eq_true c3]
        have c3' : (l % 2 == 1) = true := beq_iff_eq.2 c3
        go_enter Try.func55, Try.ntmps55
        go_wp2
        go_ret
        exact ⟨rfl, rfl⟩
      · rw [decide_eq_false c3]
        have c3' : (l % 2 == 1) = false := beq_eq_false_iff_ne.2 c3
        go_enter Try.func55, Try.ntmps55
        go_wp2
        go_ret
        exact ⟨rfl, rfl⟩
    · have e1 : gu s l = false := by unfold gu; simp [c1, c2]
      rw [e1]
      clear e1
      have c2' : (s == 0) = false := beq_eq_false_iff_ne.2 c2
      go_enter Try.func55, Try.ntmps55
      go_wp2
      go_ret
      exact ⟨rfl, rfl⟩

end Go.Proofs.Ytfcneciknldohaa
/-
  Contracts of regatta/wide's Shl and Shr.
-/
set_option linter.unusedVariables false
namespace Go.Proofs.Ytfcneciknldohaa
open Go.RowKit

theorem or_i64 (X Y : Int) (n : Nat) (hn : n ≤ 63) (hX : X % 2 ^ n = 0) (h0 : 0 ≤ Y) (h1 : Y < 2 ^ n) : bits .or .i64 X Y = sg (X + Y) := by
  have hp : (2 : Int) ^ n ∣ ((2 ^ 64 : Nat) : Int) := by
    rw [show ((2 ^ 64 : Nat) : Int) = 2 ^ n * 2 ^ (64 - n) from (pow_split n (by omega)).symm]; exact Int.dvd_mul_right _ _
  have hA : (X % ((2 ^ 64 : Nat) : Int)).toNat % 2 ^ n = 0 := by
    have h2 : X % ((2 ^ 64 : Nat) : Int) % 2 ^ n = 0 := by rw [Int.emod_emod_of_dvd _ hp]; exact hX
    have h3 : 0 ≤ X % ((2 ^ 64 : Nat) : Int) := Int.emod_nonneg _ (by decide)
    have h4 : (((X % ((2 ^ 64 : Nat) : Int)).toNat % 2 ^ n : Nat) : Int) = 0 := by
      rw [Int.natCast_emod, Int.toNat_of_nonneg h3, Int.natCast_pow]; exact h2
    omega
  have hY' : Y.toNat < 2 ^ n := by
    have : (Y.toNat : Int) < ((2 ^ n : Nat) : Int) := by rw [Int.toNat_of_nonneg h0, Int.natCast_pow]; exact h1
    omega
  have hle : (2 : Nat) ^ n ≤ 2 ^ 63 := Nat.pow_le_pow_right (by omega) hn
  have key : (BitVec.ofInt 64 X ||| BitVec.ofInt 64 Y).toNat = (X % ((2 ^ 64 : Nat) : Int)).toNat + Y.toNat := by
    rw [BitVec.toNat_or, BitVec.toNat_ofInt, BitVec.toNat_ofInt]
    have e : (Y % ((2 ^ 64 : Nat) : Int)).toNat = Y.toNat := by omega
    rw [e]
    exact nat_or_add _ _ n hA hY'
  show IntKind.i64.wrap (((BitVec.ofInt 64 X ||| BitVec.ofInt 64 Y).toNat : Nat) : Int) = _
  rw [key, IntKind.wrap_i64]
  unfold sg
  omega

theorem or_u64 (X Y : Int) (n : Nat) (hn : n ≤ 64) (hX : X % 2 ^ n = 0) (x0 : 0 ≤ X) (x1 : X < 18446744073709551616) (h0 : 0 ≤ Y) (h1 : Y < 2 ^ n) (hs : X + Y < 18446744073709551616) : bits .or .u64 Y X = Y + X := by
  have hA : X.toNat % 2 ^ n = 0 := by
    have h4 : ((X.toNat % 2 ^ n : Nat) : Int) = 0 := by
      rw [Int.natCast_emod, Int.toNat_of_nonneg x0, Int.natCast_pow]; exact hX
    omega
  have hY' : Y.toNat < 2 ^ n := by
    have : (Y.toNat : Int) < ((2 ^ n : Nat) : Int) := by rw [Int.toNat_of_nonneg h0, Int.natCast_pow]; exact h1
    omega
  have hle : (2 : Nat) ^ n ≤ 2 ^ 64 := Nat.pow_le_pow_right (by omega) hn
  have key : (BitVec.ofInt 64 Y ||| BitVec.ofInt 64 X).toNat = X.toNat + Y.toNat := by
    rw [BitVec.toNat_or, BitVec.toNat_ofInt, BitVec.toNat_ofInt]
    have e : (Y % ((2 ^ 64 : Nat) : Int)).toNat = Y.toNat := by omega
    have e2 : (X % ((2 ^ 64 : Nat) : Int)).toNat = X.toNat := by omega
    rw [e, e2, Nat.or_comm]
    exact nat_or_add _ _ n hA hY'
  show IntKind.u64.wrap (((BitVec.ofInt 64 Y ||| BitVec.ofInt 64 X).toNat : Nat) : Int) = _
  rw [key, IntKind.wrap_u64]
  omega

theorem sg_mod (x p q : Int) (hB : p * q = 18446744073709551616) (hx : x % p = 0) : sg x % p = 0 := by
  obtain ⟨c, hc⟩ := Int.dvd_of_emod_eq_zero hx
  have e : sg x = x - 18446744073709551616 * ((x + 9223372036854775808) / 18446744073709551616) := by unfold sg; omega
  rw [e, ← hB, hc, Int.mul_assoc, ← Int.mul_sub]
  exact Int.mul_emod_right _ _
theorem sg_add (x y : Int) : sg (sg x + y) = sg (x + y) := by unfold sg; omega
theorem sg_id (x : Int) (h0 : -9223372036854775808 ≤ x) (h1 : x ≤ 9223372036854775807) : sg x = x := by unfold sg; omega

theorem pow_le_63 (k : Nat) (hk : k ≤ 63) : (2 : Int) ^ k ≤ 9223372036854775808 := by
  have h : (2 : Nat) ^ k ≤ 2 ^ 63 := Nat.pow_le_pow_right (by omega) hk
  have h2 : (((2 : Nat) ^ k : Nat) : Int) ≤ (((2 : Nat) ^ 63 : Nat) : Int) := by omega
  rw [Int.natCast_pow] at h2
  exact h2

theorem shl_hi (a0 a1 : Int) (k : Nat) (hk : k ≤ 63) (h0 : 0 ≤ a1) (h1 : a1 ≤ 18446744073709551615) : bits .or .i64 (wrap64 (a0 * 2 ^ k)) (wrap64 (a1 / 2 ^ (64 - k))) = hi (nm a0 a1 * 2 ^ k) := by
  have hB := pow_split k (by omega)
  have hp := pow_pos' k
  have hq := pow_pos' (64 - k)
  obtain ⟨d0, d1⟩ := div_lt a1 _ _ _ hB hp hq h0 (by omega)
  have hl := pow_le_63 k hk
  rw [w64, w64, sg_id (a1 / 2 ^ (64 - k)) (by omega) (by omega), or_i64 _ _ k hk (sg_mod _ _ _ hB (Int.mul_emod_left _ _)) d0 d1, sg_add]
  exact (shl_words a0 a1 _ _ hB hp hq h0 h1).1
theorem shl_lo (a0 a1 : Int) (k : Nat) (hk : k ≤ 63) (h0 : 0 ≤ a1) (h1 : a1 ≤ 18446744073709551615) : IntKind.u64.wrap (a1 * 2 ^ k) = lo (nm a0 a1 * 2 ^ k) := by
  rw [IntKind.wrap_u64]
  exact (shl_words a0 a1 _ _ (pow_split k (by omega)) (pow_pos' k) (pow_pos' (64 - k)) h0 h1).2
theorem shr_lo (a0 a1 : Int) (k : Nat) (hk0 : 1 ≤ k) (hk : k ≤ 63) (g0 : -9223372036854775808 ≤ a0) (g1 : a0 ≤ 9223372036854775807) (h0 : 0 ≤ a1) (h1 : a1 ≤ 18446744073709551615) : bits .or .u64 (a1 / 2 ^ k) (IntKind.u64.wrap (IntKind.u64.wrap a0 * 2 ^ (64 - k))) = lo (nm a0 a1 / 2 ^ k) := by
  have hB := pow_split k (by omega)
  have hp := pow_pos' k
  have hq := pow_pos' (64 - k)
  obtain ⟨e1, e2, d0, d1, e3, e4⟩ := shr_words a0 a1 _ _ hB hp hq g0 g1 h0 h1
  have e5 : IntKind.u64.wrap (IntKind.u64.wrap a0 * 2 ^ (64 - k)) = a0 * 2 ^ (64 - k) % 18446744073709551616 := by
    rw [IntKind.wrap_u64, IntKind.wrap_u64, Int.mul_emod, Int.emod_emod, ← Int.mul_emod]
  have m0 := (mod_mul_lt a0 (2 ^ (64 - k)) (2 ^ k) hq hp).2
  rw [hB] at m0
  rw [e5, or_u64 _ _ (64 - k) (by omega) (by rw [e3]; exact Int.mul_emod_left _ _) (by rw [e3]; exact e4) (by rw [e3]; omega) d0 d1 (by rw [e3]; omega)]
  exact e2
theorem shr_hi (a0 a1 : Int) (k : Nat) (hk : k ≤ 63) (g0 : -9223372036854775808 ≤ a0) (g1 : a0 ≤ 9223372036854775807) (h0 : 0 ≤ a1) (h1 : a1 ≤ 18446744073709551615) : a0 / 2 ^ k = hi (nm a0 a1 / 2 ^ k) :=
  (shr_words a0 a1 _ _ (pow_split k (by omega)) (pow_pos' k) (pow_pos' (64 - k)) g0 g1 h0 h1).1

theorem pow_big (n : Int) (h : 64 ≤ n) : (2 : Int) ^ n.toNat = 18446744073709551616 * 2 ^ (n - 64).toNat := by
  rw [show n.toNat = 64 + (n - 64).toNat by omega, Int.pow_add]; rfl
/-- Beyond 64 bits nothing more is left out of a word. -/
theorem shl_min (a : Int) (n : Nat) : a * 2 ^ min n 64 % 18446744073709551616 = a * 2 ^ n % 18446744073709551616 := by
  by_cases h : n ≤ 64
  · rw [Nat.min_eq_left h]
  · rw [Nat.min_eq_right (by omega), show n = 64 + (n - 64) by omega, Int.pow_add, ← Int.mul_assoc, show (2 : Int) ^ 64 = 18446744073709551616 from rfl]
    rw [Int.mul_right_comm a]
    rw [Int.mul_emod_left, Int.mul_emod_left]
theorem shl_big_hi (a0 a1 : Int) (n : Int) (h : 64 ≤ n) : wrap64 (IntKind.u64.wrap (a1 * 2 ^ min (n - 64).toNat 64)) = hi (nm a0 a1 * 2 ^ n.toNat) := by
  rw [w64, IntKind.wrap_u64, shl_min, pow_big n h]
  exact (shl_words_big a0 a1 _).1
theorem shl_big_lo (a0 a1 : Int) (n : Int) (h : 64 ≤ n) : lo (nm a0 a1 * 2 ^ n.toNat) = 0 := by
  rw [pow_big n h]
  exact (shl_words_big a0 a1 _).2.symm
theorem one_le_pow (n : Nat) : (1 : Int) ≤ 2 ^ n := pow_pos' n
theorem shr_min (a : Int) (n : Nat) (g0 : -9223372036854775808 ≤ a) (g1 : a ≤ 9223372036854775807) : a / 2 ^ min n 64 = a / 2 ^ n := by
  by_cases h : n ≤ 64
  · rw [Nat.min_eq_left h]
  · rw [Nat.min_eq_right (by omega), show n = 64 + (n - 64) by omega, Int.pow_add, ← Int.ediv_ediv_of_nonneg (by decide), show (2 : Int) ^ 64 = 18446744073709551616 from rfl]
    have hp := one_le_pow (n - 64)
    have h2 : a / 18446744073709551616 = 0 ∨ a / 18446744073709551616 = -1 := by omega
    rcases h2 with h2 | h2
    · rw [h2, Int.zero_ediv]
    · rw [h2]
      have : (-1 : Int) / 2 ^ (n - 64) = -1 := Int.ediv_eq_neg_one_of_neg_of_le (by omega) (by omega)
      rw [this]
theorem shr_rng (a p : Int) (hp : 1 ≤ p) (g0 : -9223372036854775808 ≤ a) (g1 : a ≤ 9223372036854775807) : -9223372036854775808 ≤ a / p ∧ a / p ≤ 9223372036854775807 := by
  constructor
  · rw [Int.le_ediv_iff_mul_le (by omega)]
    have := Int.mul_le_mul_of_nonpos_left (a := -9223372036854775808) (by omega) hp
    omega
  · have h3 := Int.ediv_le_ediv (show 0 < p by omega) g1
    have h2 : 9223372036854775807 / p ≤ 9223372036854775807 := Int.ediv_le_self _ (by omega)
    omega

set_option maxHeartbeats 400000 in
theorem shl_mid (a0 a1 : Int) (k : Nat) (n0 : 1 ≤ k) (n1 : k ≤ 63) (h0 : 0 ≤ a1) (h1 : a1 ≤ 18446744073709551615) (w : World) :
    Calls Try.prog 34 #[.agg #[.int .i64 a0, .int .u64 a1], .int .i64 k] w fun e w' => e = .returned (.agg #[.int .i64 (hi (nm a0 a1 * 2 ^ k)), .int .u64 (lo (nm a0 a1 * 2 ^ k))]) ∧ Below w.heap.size w w' := by
  have hm : max (k : Int) 0 = k := by omega
  have hk : min k 64 = k := by omega
  have hk2 : min (64 - (k : Int)).toNat 64 = 64 - k := by omega
  go_enter Try.func34, Try.ntmps34
  go_wp2
  go_region
  go_wp2
  exact bodyPost_ret (v := .agg #[.int .i64 (hi (nm a0 a1 * 2 ^ k)), .int .u64 (lo (nm a0 a1 * 2 ^ k))]) (by simp [results, Try.results34, go_sem]; exact ⟨shl_hi a0 a1 k n1 h0 h1, shl_lo a0 a1 k n1 h0 h1⟩) rfl ⟨rfl, (bel2 _ _ _).drew⟩
set_option maxHeartbeats 400000 in
theorem shl_big (a0 a1 n : Int) (n0 : 64 ≤ n) (n1 : n ≤ 9223372036854775807) (w : World) :
    Calls Try.prog 34 #[.agg #[.int .i64 a0, .int .u64 a1], .int .i64 n] w fun e w' => e = .returned (.agg #[.int .i64 (hi (nm a0 a1 * 2 ^ n.toNat)), .int .u64 (lo (nm a0 a1 * 2 ^ n.toNat))]) ∧ Below w.heap.size w w' := by
  have hm : max n 0 = n := by omega
  go_enter Try.func34, Try.ntmps34
  go_wp2
  exact bodyPost_ret (v := .agg #[.int .i64 (hi (nm a0 a1 * 2 ^ n.toNat)), .int .u64 (lo (nm a0 a1 * 2 ^ n.toNat))]) (by rw [shl_big_lo a0 a1 n n0]; simp [results, Try.results34, go_sem]; exact shl_big_hi a0 a1 n n0) rfl ⟨rfl, bel2 _ _ _⟩
set_option maxHeartbeats 400000 in
theorem shl_none (a0 a1 n : Int) (n1 : n ≤ 0) (g0 : -9223372036854775808 ≤ a0) (g1 : a0 ≤ 9223372036854775807) (h0 : 0 ≤ a1) (h1 : a1 ≤ 18446744073709551615) (w : World) :
    Calls Try.prog 34 #[.agg #[.int .i64 a0, .int .u64 a1], .int .i64 n] w fun e w' => e = .returned (.agg #[.int .i64 a0, .int .u64 a1]) ∧ Below w.heap.size w w' := by
  have hm : max n 0 = 0 := by omega
  have ho : bits .or .i64 a0 (a1 / 18446744073709551616) = a0 := by rw [show a1 / 18446744073709551616 = 0 by omega, or_i64 a0 0 0 (by omega) (by omega) (by omega) (by omega), Int.add_zero, sg_id a0 g0 g1]
  go_enter Try.func34, Try.ntmps34
  go_wp2
  go_region
  go_wp2
  exact bodyPost_ret (v := .agg #[.int .i64 a0, .int .u64 a1]) (by simp [results, Try.results34, go_sem]) rfl ⟨rfl, (bel2 _ _ _).drew⟩

theorem mul_congr (x y p : Int) (h : (x - y) % 340282366920938463463374607431768211456 = 0) : (x * p - y * p) % 340282366920938463463374607431768211456 = 0 := by
  rw [← Int.sub_mul, Int.mul_emod, h, Int.zero_mul]; rfl

theorem shl_any (v n : Int) (n1 : n ≤ 9223372036854775807) (w : World) :
    Calls Try.prog 34 #[.agg #[.int .i64 (hi v), .int .u64 (lo v)], .int .i64 n] w fun e w' => e = .returned (.agg #[.int .i64 (hi (v * 2 ^ n.toNat)), .int .u64 (lo (v * 2 ^ n.toNat))]) ∧ Below w.heap.size w w' := by
  have hc := fun p => mul_congr _ _ p (nm_mod v)
  by_cases c1 : n ≤ 0
  · have h := shl_none (hi v) (lo v) n c1 (hi_ge v) (hi_le v) (lo_ge v) (lo_le v) w
    rw [show n.toNat = 0 by omega, Int.pow_zero, Int.mul_one]
    exact h
  · by_cases c2 : n ≤ 63
    · obtain ⟨k, rfl⟩ := Int.eq_ofNat_of_zero_le (show 0 ≤ n by omega)
      have h := shl_mid (hi v) (lo v) k (by omega) (by omega) (lo_ge v) (lo_le v) w
      rw [hi_congr _ _ (hc _), lo_congr _ _ (hc _)] at h
      rw [Int.toNat_natCast]
      exact h
    · have h := shl_big (hi v) (lo v) n (by omega) n1 w
      rw [hi_congr _ _ (hc _), lo_congr _ _ (hc _)] at h
      exact h

set_option maxHeartbeats 400000 in
theorem shr_mid (a0 a1 : Int) (k : Nat) (n0 : 1 ≤ k) (n1 : k ≤ 63) (g0 : -9223372036854775808 ≤ a0) (g1 : a0 ≤ 9223372036854775807) (h0 : 0 ≤ a1) (h1 : a1 ≤ 18446744073709551615) (w : World) :
    Calls Try.prog 53 #[.agg #[.int .i64 a0, .int .u64 a1], .int .i64 k] w fun e w' => e = .returned (.agg #[.int .i64 (hi (nm a0 a1 / 2 ^ k)), .int .u64 (lo (nm a0 a1 / 2 ^ k))]) ∧ Below w.heap.size w w' := by
  have hm : max (k : Int) 0 = k := by omega
  have hk : min k 64 = k := by omega
  have hk2 : min (64 - (k : Int)).toNat 64 = 64 - k := by omega
  go_enter Try.func53, Try.ntmps53
  go_wp2
  go_region
  go_wp2
  exact bodyPost_ret (v := .agg #[.int .i64 (hi (nm a0 a1 / 2 ^ k)), .int .u64 (lo (nm a0 a1 / 2 ^ k))]) (by simp [results, Try.results53, go_sem]; exact ⟨shr_hi a0 a1 k n1 g0 g1 h0 h1, shr_lo a0 a1 k n0 n1 g0 g1 h0 h1⟩) rfl ⟨rfl, (bel2 _ _ _).drew⟩
set_option maxHeartbeats 400000 in
theorem shr_none (a0 a1 n : Int) (n1 : n ≤ 0) (g0 : -9223372036854775808 ≤ a0) (g1 : a0 ≤ 9223372036854775807) (h0 : 0 ≤ a1) (h1 : a1 ≤ 18446744073709551615) (w : World) :
    Calls Try.prog 53 #[.agg #[.int .i64 a0, .int .u64 a1], .int .i64 n] w fun e w' => e = .returned (.agg #[.int .i64 a0, .int .u64 a1]) ∧ Below w.heap.size w w' := by
  have hm : max n 0 = 0 := by omega
  have ho : bits .or .u64 a1 (IntKind.u64.wrap (IntKind.u64.wrap a0 * 18446744073709551616)) = a1 := by
    rw [IntKind.wrap_u64 (_ * _), Int.mul_emod_left, or_u64 0 a1 64 (by omega) (by omega) (by omega) (by omega) h0 (by show a1 < 18446744073709551616; omega) (by omega), Int.add_zero]
  go_enter Try.func53, Try.ntmps53
  go_wp2
  go_region
  go_wp2
  exact bodyPost_ret (v := .agg #[.int .i64 a0, .int .u64 a1]) (by simp [results, Try.results53, go_sem]) rfl ⟨rfl, (bel2 _ _ _).drew⟩
set_option maxHeartbeats 400000 in
theorem shr_big (a0 a1 n : Int) (n0 : 64 ≤ n) (n1 : n ≤ 9223372036854775807) (g0 : -9223372036854775808 ≤ a0) (g1 : a0 ≤ 9223372036854775807) (h0 : 0 ≤ a1) (h1 : a1 ≤ 18446744073709551615) (w : World) :
    Calls Try.prog 53 #[.agg #[.int .i64 a0, .int .u64 a1], .int .i64 n] w fun e w' => e = .returned (.agg #[.int .i64 (hi (nm a0 a1 / 2 ^ n.toNat)), .int .u64 (lo (nm a0 a1 / 2 ^ n.toNat))]) ∧ Below w.heap.size w w' := by
  have hm : max n 0 = n := by omega
  have hv : Hid (a0 / 2 ^ min (n - 64).toNat 64 = nm a0 a1 / 2 ^ n.toNat) := by
    show a0 / 2 ^ min (n - 64).toNat 64 = nm a0 a1 / 2 ^ n.toNat
    rw [shr_min a0 _ g0 g1, pow_big n n0, shr_words_big a0 a1 _ (one_le_pow _) h0 h1]
  obtain ⟨r0, r1⟩ := shr_rng a0 (2 ^ min (n - 64).toNat 64) (one_le_pow _) g0 g1
  go_enter Try.func53, Try.ntmps53
  go_wp2_with fail
  refine (of_any _ r0 r1 _).mono ?_
  rw [hv.out]
  rintro e w1 ⟨rfl, hb⟩
  obtain ⟨hc, hf⟩ := bcell hb
  have hz := hb.size
  simp at hc hf hz
  clear hv r0 r1
  go_wp2_with fail
  exact bodyPost_ret (v := .agg #[.int .i64 (hi (nm a0 a1 / 2 ^ n.toNat)), .int .u64 (lo (nm a0 a1 / 2 ^ n.toNat))]) (by simp [results, Try.results53, go_sem, hc]) rfl ⟨rfl, ((((bel2 w _ _).trans (hb.mono (by simp; omega))).setCell (by simp) _).setCell (by simp) _)⟩

theorem shr_any (v n : Int) (n1 : n ≤ 9223372036854775807) (v0 : -170141183460469231731687303715884105728 ≤ v) (v1 : v ≤ 170141183460469231731687303715884105727) (w : World) :
    Calls Try.prog 53 #[.agg #[.int .i64 (hi v), .int .u64 (lo v)], .int .i64 n] w fun e w' => e = .returned (.agg #[.int .i64 (hi (v / 2 ^ n.toNat)), .int .u64 (lo (v / 2 ^ n.toNat))]) ∧ Below w.heap.size w w' := by
  have hv := nm_val v v0 v1
  by_cases c1 : n ≤ 0
  · have h := shr_none (hi v) (lo v) n c1 (hi_ge v) (hi_le v) (lo_ge v) (lo_le v) w
    rw [show n.toNat = 0 by omega, Int.pow_zero, Int.ediv_one]
    exact h
  · by_cases c2 : n ≤ 63
    · obtain ⟨k, rfl⟩ := Int.eq_ofNat_of_zero_le (show 0 ≤ n by omega)
      have h := shr_mid (hi v) (lo v) k (by omega) (by omega) (hi_ge v) (hi_le v) (lo_ge v) (lo_le v) w
      rw [hv] at h
      rw [Int.toNat_natCast]
      exact h
    · have h := shr_big (hi v) (lo v) n (by omega) n1 (hi_ge v) (hi_le v) (lo_ge v) (lo_le v) w
      rw [hv] at h
      exact h

end Go.Proofs.Ytfcneciknldohaa
