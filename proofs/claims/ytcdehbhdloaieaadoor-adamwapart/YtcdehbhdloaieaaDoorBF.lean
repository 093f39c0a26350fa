/-
  SWalkA, SWalkB, SWalkC, SWalkD, SWalkE, SWalkF.
-/
import Derived.Test.YtcdehbhdloaieaaDoorBA
import Derived.Test.YtcdehbhdloaieaaDoorBC
/-
  Contracts of regattaref02's Size, Plus, Minus, One64.
-/
set_option linter.unusedVariables false
set_option linter.unusedSimpArgs false
namespace Go.Proofs.YtcdehbhdloaieaaDoor
open Go.RowKit

/-- A block of six cells. -/
structure B6 (b : Nat) (x : Nat → Int) (w : World) : Prop where
  c : ∀ k, k < 6 → w.cell? ⟨b, k, none⟩ = some (.int .u64 (x k))
  f : ∀ k, k < 6 → w.frozen? ⟨b, k, none⟩ = false
theorem six {P : Nat → Prop} (h0 : P 0) (h1 : P 1) (h2 : P 2) (h3 : P 3) (h4 : P 4) (h5 : P 5) : ∀ k, k < 6 → P k := fun k hk => by
  match k, hk with
  | 0, _ => exact h0
  | 1, _ => exact h1
  | 2, _ => exact h2
  | 3, _ => exact h3
  | 4, _ => exact h4
  | 5, _ => exact h5
theorem B6.new (w : World) (x : Nat → Int) (t : TypeId) : B6 w.heap.size x (w.alloc (.cells #[.int .u64 (x 0), .int .u64 (x 1), .int .u64 (x 2), .int .u64 (x 3), .int .u64 (x 4), .int .u64 (x 5)] t)) :=
  ⟨six (by simp [go_sem]) (by simp [go_sem]) (by simp [go_sem]) (by simp [go_sem]) (by simp [go_sem]) (by simp [go_sem]), six (by simp [go_sem]) (by simp [go_sem]) (by simp [go_sem]) (by simp [go_sem]) (by simp [go_sem]) (by simp [go_sem])⟩
theorem B6.later {b : Nat} {x : Nat → Int} {w w' : World} (h : B6 b x w) (hb : Below w.heap.size w w') : B6 b x w' :=
  ⟨fun k hk => cell_later hb (h.c k hk), fun k hk => frozen_later hb (h.c k hk) (h.f k hk)⟩
theorem B6.lt {b : Nat} {x : Nat → Int} {w : World} (h : B6 b x w) : b < w.heap.size := World.block_lt_of_cell? _ _ (h.c 0 (by omega))
theorem B6.far {b : Nat} {x : Nat → Int} {w : World} {p : Addr} (h : B6 b x w) (u : Value) (hp : p.block ≠ b) : B6 b x (w.setCell p u) :=
  ⟨fun k hk => cell_set hp (h.c k hk), fun k hk => by rw [World.frozen?_setCell]; exact h.f k hk⟩
theorem B6.set {b : Nat} {x : Nat → Int} {w : World} (h : B6 b x w) (j : Nat) (hj : j < 6) (u : Int) : B6 b (fun k => if k = j then u else x k) (w.setCell ⟨b, j, none⟩ (.int .u64 u)) := by
  refine ⟨fun k hk => ?_, fun k hk => by rw [World.frozen?_setCell]; exact h.f k hk⟩
  by_cases hkj : k = j
  · subst hkj
    rw [if_pos rfl]
    have := h.c k hk
    simp [go_sem, this]
  · rw [if_neg hkj]
    have := h.c k hk
    simp [go_sem, this, hkj]
theorem B6.cong {b : Nat} {x y : Nat → Int} {w : World} (h : B6 b x w) (e : ∀ k, k < 6 → x k = y k) : B6 b y w :=
  ⟨fun k hk => by rw [h.c k hk, e k hk], h.f⟩

theorem wrap_small (x : Int) (h0 : 0 ≤ x) (h1 : x ≤ 18446744073709551615) : IntKind.u64.wrap x = x := by rw [IntKind.wrap_u64]; omega

end Go.Proofs.YtcdehbhdloaieaaDoor
/-
  Contracts of regattaref02's half, Less, One64.
-/
set_option linter.unusedVariables false
set_option linter.unusedSimpArgs false
namespace Go.Proofs.YtcdehbhdloaieaaDoor
open Go.RowKit

theorem dg_up (a : Int) (q : Nat) : a / 2 ^ (32 * q) = a / 2 ^ (32 * (q + 1)) * 4294967296 + dg a q := by
  have hp := pow_pos' (32 * q)
  rw [pow32, ← Int.ediv_ediv_of_nonneg (by omega)]
  unfold dg
  omega
theorem lt_of_up (a b : Int) (q : Nat) (h : a / 2 ^ q < b / 2 ^ q) : a < b := by
  have hp := pow_pos' q
  rcases Int.lt_or_le a b with h1 | h1
  · exact h1
  · have := Int.ediv_le_ediv (show (0 : Int) < 2 ^ q by omega) h1
    omega
theorem less_digit (a b : Int) (q : Nat) (h : a / 2 ^ (32 * (q + 1)) = b / 2 ^ (32 * (q + 1))) (hn : dg a q ≠ dg b q) : decide (dg a q < dg b q) = decide (a < b) := by
  have ea := dg_up a q
  have eb := dg_up b q
  rw [h] at ea
  by_cases hl : dg a q < dg b q
  · rw [decide_eq_true hl, decide_eq_true (lt_of_up a b (32 * q) (by omega))]
  · have := lt_of_up b a (32 * q) (by omega)
    rw [decide_eq_false hl, decide_eq_false (by omega)]
theorem same_digit (a b : Int) (q : Nat) (h : a / 2 ^ (32 * (q + 1)) = b / 2 ^ (32 * (q + 1))) (hn : dg a q = dg b q) : a / 2 ^ (32 * q) = b / 2 ^ (32 * q) := by
  rw [dg_up a q, dg_up b q, h, hn]

theorem one_digit (x : Int) (p k : Nat) (x0 : 0 ≤ x) (x1 : x ≤ 18446744073709551615) : dg (x * 2 ^ (32 * p)) k = if k = p + 1 then x / 4294967296 else if k = p then x % 4294967296 else 0 := by
  have hp := pow_pos' (32 * p)
  unfold dg
  rcases (show k < p ∨ k = p ∨ k = p + 1 ∨ p + 2 ≤ k by omega) with h | rfl | rfl | h
  · rw [if_neg (by omega), if_neg (by omega)]
    have e : x * 2 ^ (32 * p) = x * 2 ^ (32 * (p - k - 1)) * 4294967296 * 2 ^ (32 * k) := by
      rw [show (4294967296 : Int) = 2 ^ 32 from rfl, Int.mul_assoc, Int.mul_assoc, ← Int.pow_add, ← Int.pow_add]
      congr 2; omega
    have hk := pow_pos' (32 * k)
    rw [e, Int.mul_ediv_cancel _ (by omega), Int.mul_emod_left]
  · rw [if_neg (by omega), if_pos rfl, Int.mul_ediv_cancel _ (by omega)]
  · rw [if_pos rfl, pow32, ← Int.ediv_ediv_of_nonneg (by omega), Int.mul_ediv_cancel _ (by omega)]
    omega
  · rw [if_neg (by omega), if_neg (by omega)]
    have e : (2 : Int) ^ (32 * k) = 2 ^ (32 * p) * (18446744073709551616 * 2 ^ (32 * (k - p - 2))) := by
      rw [show (18446744073709551616 : Int) = 2 ^ 64 from rfl, ← Int.pow_add, ← Int.pow_add]
      congr 1; omega
    have hk := pow_pos' (32 * (k - p - 2))
    have hx : (18446744073709551616 : Int) * 1 ≤ 18446744073709551616 * 2 ^ (32 * (k - p - 2)) := Int.mul_le_mul_of_nonneg_left (by omega) (by omega)
    rw [e, ← Int.ediv_ediv_of_nonneg (by omega), Int.mul_ediv_cancel _ (by omega), Int.ediv_eq_zero_of_lt x0 (by omega)]
    rfl

end Go.Proofs.YtcdehbhdloaieaaDoor
/-
  Contracts of regattaref02's Clamp and Whole.
-/
set_option linter.unusedVariables false
set_option linter.unusedSimpArgs false
namespace Go.Proofs.YtcdehbhdloaieaaDoor
open Go.RowKit

theorem dg_big (m : Int) (k : Nat) (hk : 2 ≤ k) (m0 : 0 ≤ m) (h : dg m k ≠ 0) : 18446744073709551616 ≤ m := by
  rcases Int.lt_or_le m 18446744073709551616 with h1 | h1
  · exfalso
    apply h
    unfold dg
    have hp : (18446744073709551616 : Int) ≤ 2 ^ (32 * k) := by
      have h2 : (2 : Nat) ^ 64 ≤ 2 ^ (32 * k) := Nat.pow_le_pow_right (by omega) (by omega)
      have h3 : (((2 : Nat) ^ 64 : Nat) : Int) ≤ (((2 : Nat) ^ (32 * k) : Nat) : Int) := by omega
      rw [Int.natCast_pow, Int.natCast_pow] at h3
      exact h3
    rw [Int.ediv_eq_zero_of_lt m0 (by omega)]
    rfl
  · exact h1
theorem dg_small (m : Int) (m0 : 0 ≤ m) (m1 : m < 6277101735386680763835789423207666416102355444464034512896) (h2 : dg m 2 = 0) (h3 : dg m 3 = 0) (h4 : dg m 4 = 0) (h5 : dg m 5 = 0) : m ≤ 18446744073709551615 ∧ dg m 1 * 4294967296 + dg m 0 = m := by
  have e0 := dg_up m 0
  have e1 := dg_up m 1
  have e2 := dg_up m 2
  have e3 := dg_up m 3
  have e4 := dg_up m 4
  have e5 := dg_up m 5
  have e6 := top_none m m0 m1
  have z0 := dg_rng m 0
  have z1 := dg_rng m 1
  rw [Nat.mul_zero, Int.pow_zero, Int.ediv_one] at e0
  simp only [show 0 + 1 = 1 from rfl, show 1 + 1 = 2 from rfl, show 2 + 1 = 3 from rfl, show 3 + 1 = 4 from rfl, show 4 + 1 = 5 from rfl, show 5 + 1 = 6 from rfl] at e0 e1 e2 e3 e4 e5
  rw [e6, h5] at e5
  rw [e5, h4] at e4
  rw [e4, h3] at e3
  rw [e3, h2] at e2
  rw [e2] at e1
  omega

end Go.Proofs.YtcdehbhdloaieaaDoor
/-
  Contracts of regattaref02's sums: Whole.
-/
set_option linter.unusedVariables false
set_option linter.unusedSimpArgs false
namespace Go.Proofs.YtcdehbhdloaieaaDoor
open Go.RowKit

/-- A block of twelve cells. -/
structure B12 (b : Nat) (x y : Nat → Int) (w : World) : Prop where
  c : ∀ k, k < 6 → w.cell? ⟨b, k, none⟩ = some (.int .u64 (x k))
  d : ∀ k, k < 6 → w.cell? ⟨b, 6 + k, none⟩ = some (.int .u64 (y k))
  f : ∀ k, k < 6 → w.frozen? ⟨b, k, none⟩ = false
  g : ∀ k, k < 6 → w.frozen? ⟨b, 6 + k, none⟩ = false
theorem B12.new (w : World) (x y : Nat → Int) (t : TypeId) : B12 w.heap.size x y (w.alloc (.cells #[.int .u64 (x 0), .int .u64 (x 1), .int .u64 (x 2), .int .u64 (x 3), .int .u64 (x 4), .int .u64 (x 5), .int .u64 (y 0), .int .u64 (y 1), .int .u64 (y 2), .int .u64 (y 3), .int .u64 (y 4), .int .u64 (y 5)] t)) :=
  ⟨six (by simp [go_sem]) (by simp [go_sem]) (by simp [go_sem]) (by simp [go_sem]) (by simp [go_sem]) (by simp [go_sem]), six (by simp [go_sem]) (by simp [go_sem]) (by simp [go_sem]) (by simp [go_sem]) (by simp [go_sem]) (by simp [go_sem]), six (by simp [go_sem]) (by simp [go_sem]) (by simp [go_sem]) (by simp [go_sem]) (by simp [go_sem]) (by simp [go_sem]), six (by simp [go_sem]) (by simp [go_sem]) (by simp [go_sem]) (by simp [go_sem]) (by simp [go_sem]) (by simp [go_sem])⟩
theorem B12.later {b : Nat} {x y : Nat → Int} {w w' : World} (h : B12 b x y w) (hb : Below w.heap.size w w') : B12 b x y w' :=
  ⟨fun k hk => cell_later hb (h.c k hk), fun k hk => cell_later hb (h.d k hk), fun k hk => frozen_later hb (h.c k hk) (h.f k hk), fun k hk => frozen_later hb (h.d k hk) (h.g k hk)⟩
theorem B12.lt {b : Nat} {x y : Nat → Int} {w : World} (h : B12 b x y w) : b < w.heap.size := World.block_lt_of_cell? _ _ (h.c 0 (by omega))

end Go.Proofs.YtcdehbhdloaieaaDoor
/-
  The contract of regattaref02's Round.
-/
set_option linter.unusedVariables false
set_option linter.unusedSimpArgs false
namespace Go.Proofs.YtcdehbhdloaieaaDoor
open Go.RowKit

theorem B6.all {b : Nat} {x : Nat → Int} {w : World} (h : B6 b x w) (y : Nat → Int) : B6 b y ((((((w.setCell ⟨b, 0, none⟩ (.int .u64 (y 0))).setCell ⟨b, 1, none⟩ (.int .u64 (y 1))).setCell ⟨b, 2, none⟩ (.int .u64 (y 2))).setCell ⟨b, 3, none⟩ (.int .u64 (y 3))).setCell ⟨b, 4, none⟩ (.int .u64 (y 4))).setCell ⟨b, 5, none⟩ (.int .u64 (y 5))) :=
  ((((((h.set 0 (by omega) (y 0)).set 1 (by omega) (y 1)).set 2 (by omega) (y 2)).set 3 (by omega) (y 3)).set 4 (by omega) (y 4)).set 5 (by omega) (y 5)).cong (six (by simp) (by simp) (by simp) (by simp) (by simp) (by simp))
theorem bel6 {w w' : World} {base b : Nat} (h : Below base w w') (hb : base ≤ b) (y : Nat → Int) : Below base w ((((((w'.setCell ⟨b, 0, none⟩ (.int .u64 (y 0))).setCell ⟨b, 1, none⟩ (.int .u64 (y 1))).setCell ⟨b, 2, none⟩ (.int .u64 (y 2))).setCell ⟨b, 3, none⟩ (.int .u64 (y 3))).setCell ⟨b, 4, none⟩ (.int .u64 (y 4))).setCell ⟨b, 5, none⟩ (.int .u64 (y 5))) :=
  ((((((h).setCell (by dsimp only; omega) _).setCell (by dsimp only; omega) _).setCell (by dsimp only; omega) _).setCell (by dsimp only; omega) _).setCell (by dsimp only; omega) _).setCell (by dsimp only; omega) _
theorem hidD' {a b c : World} (h : Hid (Below a.heap.size a b)) (k : Below b.heap.size b c) : Hid (Below a.heap.size a c) := bchain h.out k
theorem dg0_par (v : Int) : dg v 0 % 2 = v % 2 := by unfold dg; rw [Nat.mul_zero, Int.pow_zero, Int.ediv_one]; omega
theorem ab_ge' (v : Int) : 0 ≤ ab v := by unfold ab; split <;> omega

end Go.Proofs.YtcdehbhdloaieaaDoor
/-
  The contract of regattaref02's sums' Add.
-/
set_option linter.unusedVariables false
set_option linter.unusedSimpArgs false
namespace Go.Proofs.YtcdehbhdloaieaaDoor
open Go.RowKit

theorem B12.allP {b : Nat} {x y : Nat → Int} {w : World} (h : B12 b x y w) (z : Nat → Int) : B12 b z y ((((((w.setCell ⟨b, 0, none⟩ (.int .u64 (z 0))).setCell ⟨b, 1, none⟩ (.int .u64 (z 1))).setCell ⟨b, 2, none⟩ (.int .u64 (z 2))).setCell ⟨b, 3, none⟩ (.int .u64 (z 3))).setCell ⟨b, 4, none⟩ (.int .u64 (z 4))).setCell ⟨b, 5, none⟩ (.int .u64 (z 5))) := by
  have x0 : w.cell? ⟨b, 0, none⟩ = some (.int .u64 (x 0)) := h.c 0 (by omega)
  have x1 : w.cell? ⟨b, 1, none⟩ = some (.int .u64 (x 1)) := h.c 1 (by omega)
  have x2 : w.cell? ⟨b, 2, none⟩ = some (.int .u64 (x 2)) := h.c 2 (by omega)
  have x3 : w.cell? ⟨b, 3, none⟩ = some (.int .u64 (x 3)) := h.c 3 (by omega)
  have x4 : w.cell? ⟨b, 4, none⟩ = some (.int .u64 (x 4)) := h.c 4 (by omega)
  have x5 : w.cell? ⟨b, 5, none⟩ = some (.int .u64 (x 5)) := h.c 5 (by omega)
  have x6 : w.cell? ⟨b, 6, none⟩ = some (.int .u64 (y 0)) := h.d 0 (by omega)
  have x7 : w.cell? ⟨b, 7, none⟩ = some (.int .u64 (y 1)) := h.d 1 (by omega)
  have x8 : w.cell? ⟨b, 8, none⟩ = some (.int .u64 (y 2)) := h.d 2 (by omega)
  have x9 : w.cell? ⟨b, 9, none⟩ = some (.int .u64 (y 3)) := h.d 3 (by omega)
  have x10 : w.cell? ⟨b, 10, none⟩ = some (.int .u64 (y 4)) := h.d 4 (by omega)
  have x11 : w.cell? ⟨b, 11, none⟩ = some (.int .u64 (y 5)) := h.d 5 (by omega)
  refine ⟨six ?_ ?_ ?_ ?_ ?_ ?_, six ?_ ?_ ?_ ?_ ?_ ?_, fun k hk => ?_, fun k hk => ?_⟩
  all_goals first | (simp [go_sem, x0, x1, x2, x3, x4, x5, x6, x7, x8, x9, x10, x11]; done) | (simp only [World.frozen?_setCell]; first | exact h.f k hk | exact h.g k hk)
theorem B12.allN {b : Nat} {x y : Nat → Int} {w : World} (h : B12 b x y w) (z : Nat → Int) : B12 b x z ((((((w.setCell ⟨b, 6, none⟩ (.int .u64 (z 0))).setCell ⟨b, 7, none⟩ (.int .u64 (z 1))).setCell ⟨b, 8, none⟩ (.int .u64 (z 2))).setCell ⟨b, 9, none⟩ (.int .u64 (z 3))).setCell ⟨b, 10, none⟩ (.int .u64 (z 4))).setCell ⟨b, 11, none⟩ (.int .u64 (z 5))) := by
  have x0 : w.cell? ⟨b, 0, none⟩ = some (.int .u64 (x 0)) := h.c 0 (by omega)
  have x1 : w.cell? ⟨b, 1, none⟩ = some (.int .u64 (x 1)) := h.c 1 (by omega)
  have x2 : w.cell? ⟨b, 2, none⟩ = some (.int .u64 (x 2)) := h.c 2 (by omega)
  have x3 : w.cell? ⟨b, 3, none⟩ = some (.int .u64 (x 3)) := h.c 3 (by omega)
  have x4 : w.cell? ⟨b, 4, none⟩ = some (.int .u64 (x 4)) := h.c 4 (by omega)
  have x5 : w.cell? ⟨b, 5, none⟩ = some (.int .u64 (x 5)) := h.c 5 (by omega)
  have x6 : w.cell? ⟨b, 6, none⟩ = some (.int .u64 (y 0)) := h.d 0 (by omega)
  have x7 : w.cell? ⟨b, 7, none⟩ = some (.int .u64 (y 1)) := h.d 1 (by omega)
  have x8 : w.cell? ⟨b, 8, none⟩ = some (.int .u64 (y 2)) := h.d 2 (by omega)
  have x9 : w.cell? ⟨b, 9, none⟩ = some (.int .u64 (y 3)) := h.d 3 (by omega)
  have x10 : w.cell? ⟨b, 10, none⟩ = some (.int .u64 (y 4)) := h.d 4 (by omega)
  have x11 : w.cell? ⟨b, 11, none⟩ = some (.int .u64 (y 5)) := h.d 5 (by omega)
  refine ⟨six ?_ ?_ ?_ ?_ ?_ ?_, six ?_ ?_ ?_ ?_ ?_ ?_, fun k hk => ?_, fun k hk => ?_⟩
  all_goals first | (simp [go_sem, x0, x1, x2, x3, x4, x5, x6, x7, x8, x9, x10, x11]; done) | (simp only [World.frozen?_setCell]; first | exact h.f k hk | exact h.g k hk)
theorem B12.far {b : Nat} {x y : Nat → Int} {w : World} {p : Addr} (h : B12 b x y w) (u : Value) (hp : p.block ≠ b) : B12 b x y (w.setCell p u) :=
  ⟨fun k hk => cell_set hp (h.c k hk), fun k hk => cell_set hp (h.d k hk), fun k hk => by rw [World.frozen?_setCell]; exact h.f k hk, fun k hk => by rw [World.frozen?_setCell]; exact h.g k hk⟩
theorem B12.farP {b d : Nat} {x y : Nat → Int} {w : World} (h : B12 b x y w) (hd : d ≠ b) (z : Nat → Int) : B12 b x y ((((((w.setCell ⟨d, 0, none⟩ (.int .u64 (z 0))).setCell ⟨d, 1, none⟩ (.int .u64 (z 1))).setCell ⟨d, 2, none⟩ (.int .u64 (z 2))).setCell ⟨d, 3, none⟩ (.int .u64 (z 3))).setCell ⟨d, 4, none⟩ (.int .u64 (z 4))).setCell ⟨d, 5, none⟩ (.int .u64 (z 5))) :=
  (((((h.far _ hd).far _ hd).far _ hd).far _ hd).far _ hd).far _ hd
theorem B12.farN {b d : Nat} {x y : Nat → Int} {w : World} (h : B12 b x y w) (hd : d ≠ b) (z : Nat → Int) : B12 b x y ((((((w.setCell ⟨d, 6, none⟩ (.int .u64 (z 0))).setCell ⟨d, 7, none⟩ (.int .u64 (z 1))).setCell ⟨d, 8, none⟩ (.int .u64 (z 2))).setCell ⟨d, 9, none⟩ (.int .u64 (z 3))).setCell ⟨d, 10, none⟩ (.int .u64 (z 4))).setCell ⟨d, 11, none⟩ (.int .u64 (z 5))) :=
  (((((h.far _ hd).far _ hd).far _ hd).far _ hd).far _ hd).far _ hd
theorem bel6N {w w' : World} {base b : Nat} (h : Below base w w') (hb : base ≤ b) (y : Nat → Int) : Below base w ((((((w'.setCell ⟨b, 6, none⟩ (.int .u64 (y 0))).setCell ⟨b, 7, none⟩ (.int .u64 (y 1))).setCell ⟨b, 8, none⟩ (.int .u64 (y 2))).setCell ⟨b, 9, none⟩ (.int .u64 (y 3))).setCell ⟨b, 10, none⟩ (.int .u64 (y 4))).setCell ⟨b, 11, none⟩ (.int .u64 (y 5))) :=
  ((((((h).setCell (by dsimp only; omega) _).setCell (by dsimp only; omega) _).setCell (by dsimp only; omega) _).setCell (by dsimp only; omega) _).setCell (by dsimp only; omega) _).setCell (by dsimp only; omega) _

theorem ab_rng' (a : Int) (a0 : -9223372036854775808 ≤ a) (a1 : a ≤ 9223372036854775807) : 0 ≤ ab a ∧ ab a ≤ 9223372036854775808 := by unfold ab; split <;> omega

end Go.Proofs.YtcdehbhdloaieaaDoor
