/-
  Contracts of regattaref02's Size, Plus, Minus, One64.
-/
import Derived.Test.YtekdpeiemfppiabDoorSMath
import Derived.Test.YtekdpeiemfppiabDoorTools
set_option linter.unusedVariables false
set_option linter.unusedSimpArgs false
namespace Go.Proofs.YtekdpeiemfppiabDoor
open Go.RowKit

/-- A block of six cells. -/
structure B6 (b : Nat) (x : Nat → Int) (w : World) : Prop where
  c : ∀ k, k < 6 → w.cell? ⟨b, k, none⟩ = some (.int .u64 (x k))
  f : ∀ k, k < 6 → w.frozen? ⟨b, k, none⟩ = false
theorem six {P : Nat → Prop} (h0 : P 0) (h1 : P 1) (h2 : P 2) (h3 : P 3) (h4 : P 4) (h5 : P 5) : ∀ k, k < 6 → P k := fun k hk => by
  match k, hk with
  | 0, _ => exact h0
  | 1, _ => exact h1
  | 2, _ => exact h2
  | 3, _ => exact h3
  | 4, _ => exact h4
  | 5, _ => exact h5
theorem B6.new (w : World) (x : Nat → Int) (t : TypeId) : B6 w.heap.size x (w.alloc (.cells #[.int .u64 (x 0), .int .u64 (x 1), .int .u64 (x 2), .int .u64 (x 3), .int .u64 (x 4), .int .u64 (x 5)] t)) :=
  ⟨six (by simp [go_sem]) (by simp [go_sem]) (by simp [go_sem]) (by simp [go_sem]) (by simp [go_sem]) (by simp [go_sem]), six (by simp [go_sem]) (by simp [go_sem]) (by simp [go_sem]) (by simp [go_sem]) (by simp [go_sem]) (by simp [go_sem])⟩
theorem B6.later {b : Nat} {x : Nat → Int} {w w' : World} (h : B6 b x w) (hb : Below w.heap.size w w') : B6 b x w' :=
  ⟨fun k hk => cell_later hb (h.c k hk), fun k hk => frozen_later hb (h.c k hk) (h.f k hk)⟩
theorem B6.lt {b : Nat} {x : Nat → Int} {w : World} (h : B6 b x w) : b < w.heap.size := World.block_lt_of_cell? _ _ (h.c 0 (by omega))
theorem B6.far {b : Nat} {x : Nat → Int} {w : World} {p : Addr} (h : B6 b x w) (u : Value) (hp : p.block ≠ b) : B6 b x (w.setCell p u) :=
  ⟨fun k hk => cell_set hp (h.c k hk), fun k hk => by rw [World.frozen?_setCell]; exact h.f k hk⟩
theorem B6.set {b : Nat} {x : Nat → Int} {w : World} (h : B6 b x w) (j : Nat) (hj : j < 6) (u : Int) : B6 b (fun k => if k = j then u else x k) (w.setCell ⟨b, j, none⟩ (.int .u64 u)) := by
  refine ⟨fun k hk => ?_, fun k hk => by rw [World.frozen?_setCell]; exact h.f k hk⟩
  by_cases hkj : k = j
  · subst hkj
    rw [if_pos rfl]
    have := h.c k hk
    simp [go_sem, this]
  · rw [if_neg hkj]
    have := h.c k hk
    simp [go_sem, this, hkj]
theorem B6.cong {b : Nat} {x y : Nat → Int} {w : World} (h : B6 b x w) (e : ∀ k, k < 6 → x k = y k) : B6 b y w :=
  ⟨fun k hk => by rw [h.c k hk, e k hk], h.f⟩

theorem wrap_small (x : Int) (h0 : 0 ≤ x) (h1 : x ≤ 18446744073709551615) : IntKind.u64.wrap x = x := by rw [IntKind.wrap_u64]; omega

end Go.Proofs.YtekdpeiemfppiabDoor
