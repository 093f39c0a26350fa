/-
  Contracts of math/bits' Add64 and Sub64 (as the model runs them) and of regatta/wide's Of, Add, Sub, Neg: each on every number, no condition.
-/
import Derived.Test.YtekdpeiemfppiabDoorProg
import Derived.Test.YtekdpeiemfppiabDoorMath
import Derived.WalkKit
import Derived.WalkSpells
import Derived.WalkLawsBesides
set_option linter.unusedVariables false
namespace Go.Proofs.YtekdpeiemfppiabDoor
open Go.RowKit

theorem run_add64_at (x y c : Int) (hx : 0 ≤ x) (hy : 0 ≤ y) (hc0 : 0 ≤ c) (hc : c ≤ 1) (w : World) :
    (callFunc 26 #[.int .u64 x, .int .u64 y, .int .u64 c]).run Tryd.prog w =
      .ok (.value (.tuple #[.int .u64 ((x + y + c) % 18446744073709551616), .int .u64 ((x + y + c) / 18446744073709551616)])) w := by
  rw [run_callFunc_extern Tryd.func26 (by kernel_rfl) (by kernel_rfl) (by kernel_rfl) (e := add64Entry) (by kernel_rfl), run_add64 x y c hx hy hc0 hc]
  rfl
theorem run_add64_0 (x y : Int) (hx : 0 ≤ x) (hy : 0 ≤ y) (w : World) :
    (callFunc 26 #[.int .u64 x, .int .u64 y, .int .u64 0]).run Tryd.prog w =
      .ok (.value (.tuple #[.int .u64 ((x + y) % 18446744073709551616), .int .u64 ((x + y) / 18446744073709551616)])) w := by
  rw [run_add64_at x y 0 hx hy (by omega) (by omega)]; simp only [Int.add_zero]

def sub64Row : Array Value → Sem Value := fun args => do
  let (x, y, b) ← Extern.MathBitsCarry.three "Sub64" args
  pure (Extern.MathBitsCarry.pair ((x + Extern.MathBitsCarry.m64 - y - b) % Extern.MathBitsCarry.m64) (if x < y + b then 1 else 0))

theorem run_sub64_nat (x y b : Nat) (hb : b ≤ 1) (w : World) :
    (sub64Row #[.int .u64 x, .int .u64 y, .int .u64 b]).run Tryd.prog w =
      .ok (.tuple #[.int .u64 (((x + 18446744073709551616 - y - b) % 18446744073709551616 : Nat) : Int), .int .u64 ((if x < y + b then 1 else 0 : Nat) : Int)]) w := by
  have : b = 0 ∨ b = 1 := by omega
  rcases this with rfl | rfl <;> rfl

theorem run_sub64_at (x y b : Int) (hx : 0 ≤ x) (hy : 0 ≤ y) (hy1 : y ≤ 18446744073709551615) (hb0 : 0 ≤ b) (hb : b ≤ 1) (w : World) :
    (callFunc 41 #[.int .u64 x, .int .u64 y, .int .u64 b]).run Tryd.prog w =
      .ok (.value (.tuple #[.int .u64 ((x + 18446744073709551616 - y - b) % 18446744073709551616), .int .u64 (bor x (y + b))])) w := by
  rw [run_callFunc_extern Tryd.func41 (by kernel_rfl) (by kernel_rfl) (by kernel_rfl) (e := sub64Row) (by kernel_rfl)]
  obtain ⟨X, rfl⟩ := Int.eq_ofNat_of_zero_le hx
  obtain ⟨Y, rfl⟩ := Int.eq_ofNat_of_zero_le hy
  obtain ⟨c, rfl⟩ := Int.eq_ofNat_of_zero_le hb0
  have e1 : (((X + 18446744073709551616 - Y - c) % 18446744073709551616 : Nat) : Int) = ((X : Int) + 18446744073709551616 - (Y : Int) - (c : Int)) % 18446744073709551616 := by omega
  have e2 : ((if X < Y + c then 1 else 0 : Nat) : Int) = bor (X : Int) ((Y : Int) + (c : Int)) := by
    unfold bor
    by_cases h : X < Y + c
    · rw [if_pos h, if_pos (by omega)]; rfl
    · rw [if_neg h, if_neg (by omega)]; rfl
  have h := run_sub64_nat X Y c (by omega) w
  rw [e1, e2] at h
  rw [h]
  rfl
theorem run_sub64_0 (x y : Int) (hx : 0 ≤ x) (hy : 0 ≤ y) (hy1 : y ≤ 18446744073709551615) (w : World) :
    (callFunc 41 #[.int .u64 x, .int .u64 y, .int .u64 0]).run Tryd.prog w =
      .ok (.value (.tuple #[.int .u64 ((x + 18446744073709551616 - y) % 18446744073709551616), .int .u64 (bor x y)])) w := by
  rw [run_sub64_at x y 0 hx hy hy1 (by omega) (by omega)]; simp only [Int.add_zero, Int.sub_zero]

theorem bel1 (w : World) (o1 : Obj) : Below w.heap.size w (w.alloc o1) := (Below.refl _ _).alloc (Nat.le_refl _) _
theorem bel2 (w : World) (o1 o2 : Obj) : Below w.heap.size w ((w.alloc o1).alloc o2) := (bel1 w o1).alloc (by simp) _
theorem bel3 (w : World) (o1 o2 o3 : Obj) : Below w.heap.size w (((w.alloc o1).alloc o2).alloc o3) := (bel2 w o1 o2).alloc (by simp; omega) _
theorem bel4 (w : World) (o1 o2 o3 o4 : Obj) : Below w.heap.size w ((((w.alloc o1).alloc o2).alloc o3).alloc o4) := (bel3 w o1 o2 o3).alloc (by simp; omega) _
theorem bcell {W w1 : World} (hb : Below W.heap.size W w1) : (∀ b o, b < W.heap.size → w1.cell? ⟨b, o, none⟩ = W.cell? ⟨b, o, none⟩) ∧ (∀ b o, b < W.heap.size → w1.frozen? ⟨b, o, none⟩ = W.frozen? ⟨b, o, none⟩) :=
  ⟨fun b o h => hb.cell (p := ⟨b, o, none⟩) h, fun b o h => hb.frozen (p := ⟨b, o, none⟩) h⟩

theorem u64_wrap (n : Int) : IntKind.u64.wrap n = lo n := by rw [IntKind.wrap_u64]; rfl
theorem add_hi' (a0 a1 b0 b1 : Int) (ha0 : 0 ≤ a1) (ha1 : a1 ≤ 18446744073709551615) (hb0 : 0 ≤ b1) (hb1 : b1 ≤ 18446744073709551615) : wrap64 ((IntKind.u64.wrap a0 + IntKind.u64.wrap b0 + (a1 + b1) / 18446744073709551616) % 18446744073709551616) = hi (nm a0 a1 + nm b0 b1) := by
  rw [← add_hi a0 a1 b0 b1 ha0 ha1 hb0 hb1]; simp only [IntKind.wrap_u64, wrap64]
theorem sub_hi' (a0 a1 b0 b1 : Int) (ha0 : 0 ≤ a1) (ha1 : a1 ≤ 18446744073709551615) (hb0 : 0 ≤ b1) (hb1 : b1 ≤ 18446744073709551615) : wrap64 ((IntKind.u64.wrap a0 + 18446744073709551616 - IntKind.u64.wrap b0 - bor a1 b1) % 18446744073709551616) = hi (nm a0 a1 - nm b0 b1) := by
  rw [← sub_hi a0 a1 b0 b1 ha0 ha1 hb0 hb1]; simp only [IntKind.wrap_u64, wrap64]

set_option maxHeartbeats 400000 in
theorem of_any (n : Int) (h0 : -9223372036854775808 ≤ n) (h1 : n ≤ 9223372036854775807) (w : World) :
    Calls Tryd.prog 13 #[.int .i64 n] w fun e w' => e = .returned (.agg #[.int .i64 (hi n), .int .u64 (lo n)]) ∧ Below w.heap.size w w' := by
  have e1 := of_hi n h0 h1
  go_enter Tryd.func13, Tryd.ntmps13
  go_wp2
  exact bodyPost_ret (v := .agg #[.int .i64 (hi n), .int .u64 (lo n)]) (by simp [results, Tryd.results13, go_sem, u64_wrap]) rfl ⟨rfl, (Below.refl _ _).alloc (Nat.le_refl _) _⟩

set_option maxHeartbeats 400000 in
theorem add_raw (a0 a1 b0 b1 : Int) (ha0 : 0 ≤ a1) (ha1 : a1 ≤ 18446744073709551615) (hb0 : 0 ≤ b1) (hb1 : b1 ≤ 18446744073709551615) (w : World) :
    Calls Tryd.prog 12 #[.agg #[.int .i64 a0, .int .u64 a1], .agg #[.int .i64 b0, .int .u64 b1]] w fun e w' => e = .returned (.agg #[.int .i64 (hi (nm a0 a1 + nm b0 b1)), .int .u64 (lo (nm a0 a1 + nm b0 b1))]) ∧ Below w.heap.size w w' := by
  go_enter Tryd.func12, Tryd.ntmps12
  go_wp2_with (first | simp only [run_add64_0 a1 b1 ha0 hb0] | simp only [run_add64_at (IntKind.u64.wrap a0) (IntKind.u64.wrap b0) ((a1 + b1) / 18446744073709551616) (by simp only [IntKind.wrap_u64]; omega) (by simp only [IntKind.wrap_u64]; omega) (by omega) (by omega)])
  exact bodyPost_ret (v := .agg #[.int .i64 (hi (nm a0 a1 + nm b0 b1)), .int .u64 (lo (nm a0 a1 + nm b0 b1))]) (by simp [results, Tryd.results12, go_sem]; exact ⟨add_hi' a0 a1 b0 b1 ha0 ha1 hb0 hb1, add_lo a0 a1 b0 b1⟩) rfl ⟨rfl, bel3 _ _ _ _⟩

theorem add_any (a b : Int) (w : World) :
    Calls Tryd.prog 12 #[.agg #[.int .i64 (hi a), .int .u64 (lo a)], .agg #[.int .i64 (hi b), .int .u64 (lo b)]] w fun e w' => e = .returned (.agg #[.int .i64 (hi (a + b)), .int .u64 (lo (a + b))]) ∧ Below w.heap.size w w' := by
  have h := add_raw (hi a) (lo a) (hi b) (lo b) (lo_ge a) (lo_le a) (lo_ge b) (lo_le b) w
  rw [hi_congr _ _ (add_congr a b), lo_congr _ _ (add_congr a b)] at h
  exact h

set_option maxHeartbeats 400000 in
theorem sub_raw (a0 a1 b0 b1 : Int) (ha0 : 0 ≤ a1) (ha1 : a1 ≤ 18446744073709551615) (hb0 : 0 ≤ b1) (hb1 : b1 ≤ 18446744073709551615) (w : World) :
    Calls Tryd.prog 30 #[.agg #[.int .i64 a0, .int .u64 a1], .agg #[.int .i64 b0, .int .u64 b1]] w fun e w' => e = .returned (.agg #[.int .i64 (hi (nm a0 a1 - nm b0 b1)), .int .u64 (lo (nm a0 a1 - nm b0 b1))]) ∧ Below w.heap.size w w' := by
  have k := bor_01 a1 b1
  have k0 := k.1
  have k1 := k.2
  clear k
  go_enter Tryd.func30, Tryd.ntmps30
  go_wp2_with (first | simp only [run_sub64_0 a1 b1 ha0 hb0 hb1] | simp only [run_sub64_at (IntKind.u64.wrap a0) (IntKind.u64.wrap b0) (bor a1 b1) (by simp only [IntKind.wrap_u64]; omega) (by simp only [IntKind.wrap_u64]; omega) (by simp only [IntKind.wrap_u64]; omega) k0 k1])
  exact bodyPost_ret (v := .agg #[.int .i64 (hi (nm a0 a1 - nm b0 b1)), .int .u64 (lo (nm a0 a1 - nm b0 b1))]) (by simp [results, Tryd.results30, go_sem]; exact ⟨sub_hi' a0 a1 b0 b1 ha0 ha1 hb0 hb1, sub_lo a0 a1 b0 b1⟩) rfl ⟨rfl, bel3 _ _ _ _⟩

theorem sub_any (a b : Int) (w : World) :
    Calls Tryd.prog 30 #[.agg #[.int .i64 (hi a), .int .u64 (lo a)], .agg #[.int .i64 (hi b), .int .u64 (lo b)]] w fun e w' => e = .returned (.agg #[.int .i64 (hi (a - b)), .int .u64 (lo (a - b))]) ∧ Below w.heap.size w w' := by
  have h := sub_raw (hi a) (lo a) (hi b) (lo b) (lo_ge a) (lo_le a) (lo_ge b) (lo_le b) w
  rw [hi_congr _ _ (sub_congr a b), lo_congr _ _ (sub_congr a b)] at h
  exact h

theorem sub_zero_any (a : Int) (w : World) :
    Calls Tryd.prog 30 #[.agg #[.int .i64 0, .int .u64 0], .agg #[.int .i64 (hi a), .int .u64 (lo a)]] w fun e w' => e = .returned (.agg #[.int .i64 (hi (-a)), .int .u64 (lo (-a))]) ∧ Below w.heap.size w w' := by
  have h := sub_any 0 a w
  rw [show hi 0 = 0 from rfl, show lo 0 = 0 from rfl, Int.zero_sub] at h
  exact h

set_option maxHeartbeats 400000 in
theorem neg_any (a : Int) (w : World) :
    Calls Tryd.prog 33 #[.agg #[.int .i64 (hi a), .int .u64 (lo a)]] w fun e w' => e = .returned (.agg #[.int .i64 (hi (-a)), .int .u64 (lo (-a))]) ∧ Below w.heap.size w w' := by
  go_enter Tryd.func33, Tryd.ntmps33
  go_wp2_with fail
  refine (sub_zero_any a _).mono ?_
  rintro e w1 ⟨rfl, hb⟩
  obtain ⟨hc, hf⟩ := bcell hb
  have hz := hb.size
  simp at hc hf hz
  go_wp2_with fail
  exact bodyPost_ret (v := .agg #[.int .i64 (hi (-a)), .int .u64 (lo (-a))]) (by simp [results, Tryd.results33, go_sem, hc]) rfl ⟨rfl, ((((bel2 w _ _).trans (hb.mono (by simp; omega))).setCell (by simp) _).setCell (by simp) _)⟩

end Go.Proofs.YtekdpeiemfppiabDoor
