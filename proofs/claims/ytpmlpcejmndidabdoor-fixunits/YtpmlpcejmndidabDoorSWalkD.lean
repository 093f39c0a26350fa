/-
  Contracts of regattaref02's sums: Whole.
-/
import Derived.Test.YtpmlpcejmndidabDoorSWalkC
set_option linter.unusedVariables false
set_option linter.unusedSimpArgs false
namespace Go.Proofs.YtpmlpcejmndidabDoor
open Go.RowKit

/-- A block of twelve cells. -/
structure B12 (b : Nat) (x y : Nat → Int) (w : World) : Prop where
  c : ∀ k, k < 6 → w.cell? ⟨b, k, none⟩ = some (.int .u64 (x k))
  d : ∀ k, k < 6 → w.cell? ⟨b, 6 + k, none⟩ = some (.int .u64 (y k))
  f : ∀ k, k < 6 → w.frozen? ⟨b, k, none⟩ = false
  g : ∀ k, k < 6 → w.frozen? ⟨b, 6 + k, none⟩ = false
theorem B12.new (w : World) (x y : Nat → Int) (t : TypeId) : B12 w.heap.size x y (w.alloc (.cells #[.int .u64 (x 0), .int .u64 (x 1), .int .u64 (x 2), .int .u64 (x 3), .int .u64 (x 4), .int .u64 (x 5), .int .u64 (y 0), .int .u64 (y 1), .int .u64 (y 2), .int .u64 (y 3), .int .u64 (y 4), .int .u64 (y 5)] t)) :=
  ⟨six (by simp [go_sem]) (by simp [go_sem]) (by simp [go_sem]) (by simp [go_sem]) (by simp [go_sem]) (by simp [go_sem]), six (by simp [go_sem]) (by simp [go_sem]) (by simp [go_sem]) (by simp [go_sem]) (by simp [go_sem]) (by simp [go_sem]), six (by simp [go_sem]) (by simp [go_sem]) (by simp [go_sem]) (by simp [go_sem]) (by simp [go_sem]) (by simp [go_sem]), six (by simp [go_sem]) (by simp [go_sem]) (by simp [go_sem]) (by simp [go_sem]) (by simp [go_sem]) (by simp [go_sem])⟩
theorem B12.later {b : Nat} {x y : Nat → Int} {w w' : World} (h : B12 b x y w) (hb : Below w.heap.size w w') : B12 b x y w' :=
  ⟨fun k hk => cell_later hb (h.c k hk), fun k hk => cell_later hb (h.d k hk), fun k hk => frozen_later hb (h.c k hk) (h.f k hk), fun k hk => frozen_later hb (h.d k hk) (h.g k hk)⟩
theorem B12.lt {b : Nat} {x y : Nat → Int} {w : World} (h : B12 b x y w) : b < w.heap.size := World.block_lt_of_cell? _ _ (h.c 0 (by omega))

set_option maxHeartbeats 1000000 in
theorem swhole_any (p n : Int) (p0 : 0 ≤ p) (p1 : p < 6277101735386680763835789423207666416102355444464034512896) (n0 : 0 ≤ n) (n1 : n < 6277101735386680763835789423207666416102355444464034512896) (w : World) :
    Calls Tryd.prog 61 #[.agg #[.int .u64 (dg (p) 0), .int .u64 (dg (p) 1), .int .u64 (dg (p) 2), .int .u64 (dg (p) 3), .int .u64 (dg (p) 4), .int .u64 (dg (p) 5), .int .u64 (dg (n) 0), .int .u64 (dg (n) 1), .int .u64 (dg (n) 2), .int .u64 (dg (n) 3), .int .u64 (dg (n) 4), .int .u64 (dg (n) 5)]] w fun e w' => e = .returned (.tuple #[.agg #[.int .u64 (dg (ab (p - n)) 0), .int .u64 (dg (ab (p - n)) 1), .int .u64 (dg (ab (p - n)) 2), .int .u64 (dg (ab (p - n)) 3), .int .u64 (dg (ab (p - n)) 4), .int .u64 (dg (ab (p - n)) 5)], .bool (decide (p - n < 0))]) ∧ Below w.heap.size w w' := by
  have A0 := (B12.new w (dg p) (dg n) 73).later (bel1 _ (.cells #[.int .u64 0, .int .u64 0, .int .u64 0, .int .u64 0, .int .u64 0, .int .u64 0] 71))
  have R0 := B6.new (w.alloc (.cells #[.int .u64 (dg (p) 0), .int .u64 (dg (p) 1), .int .u64 (dg (p) 2), .int .u64 (dg (p) 3), .int .u64 (dg (p) 4), .int .u64 (dg (p) 5), .int .u64 (dg (n) 0), .int .u64 (dg (n) 1), .int .u64 (dg (n) 2), .int .u64 (dg (n) 3), .int .u64 (dg (n) 4), .int .u64 (dg (n) 5)] 73)) (fun _ => 0) 71
  have W0 := bel2 w (.cells #[.int .u64 (dg (p) 0), .int .u64 (dg (p) 1), .int .u64 (dg (p) 2), .int .u64 (dg (p) 3), .int .u64 (dg (p) 4), .int .u64 (dg (p) 5), .int .u64 (dg (n) 0), .int .u64 (dg (n) 1), .int .u64 (dg (n) 2), .int .u64 (dg (n) 3), .int .u64 (dg (n) 4), .int .u64 (dg (n) 5)] 73) (.cells #[.int .u64 0, .int .u64 0, .int .u64 0, .int .u64 0, .int .u64 0, .int .u64 0] 71)
  simp only [World.size_alloc] at R0
  go_enter Tryd.func61, Tryd.ntmps61
  go_wp2_with fail
  refine (sless_any p n p0 p1 n0 n1 _).mono ?_
  rintro e w1 ⟨rfl, hb⟩
  have A1 := A0.later hb
  have R1 := R0.later hb
  have W1 := bchain W0 hb
  clear hb A0 R0 W0
  have x0 : w1.cell? ⟨w.heap.size, 0, none⟩ = some (.int .u64 (dg p 0)) := A1.c 0 (by omega)
  have x1 : w1.cell? ⟨w.heap.size, 1, none⟩ = some (.int .u64 (dg p 1)) := A1.c 1 (by omega)
  have x2 : w1.cell? ⟨w.heap.size, 2, none⟩ = some (.int .u64 (dg p 2)) := A1.c 2 (by omega)
  have x3 : w1.cell? ⟨w.heap.size, 3, none⟩ = some (.int .u64 (dg p 3)) := A1.c 3 (by omega)
  have x4 : w1.cell? ⟨w.heap.size, 4, none⟩ = some (.int .u64 (dg p 4)) := A1.c 4 (by omega)
  have x5 : w1.cell? ⟨w.heap.size, 5, none⟩ = some (.int .u64 (dg p 5)) := A1.c 5 (by omega)
  have x6 : w1.cell? ⟨w.heap.size, 6, none⟩ = some (.int .u64 (dg n 0)) := A1.d 0 (by omega)
  have x7 : w1.cell? ⟨w.heap.size, 7, none⟩ = some (.int .u64 (dg n 1)) := A1.d 1 (by omega)
  have x8 : w1.cell? ⟨w.heap.size, 8, none⟩ = some (.int .u64 (dg n 2)) := A1.d 2 (by omega)
  have x9 : w1.cell? ⟨w.heap.size, 9, none⟩ = some (.int .u64 (dg n 3)) := A1.d 3 (by omega)
  have x10 : w1.cell? ⟨w.heap.size, 10, none⟩ = some (.int .u64 (dg n 4)) := A1.d 4 (by omega)
  have x11 : w1.cell? ⟨w.heap.size, 11, none⟩ = some (.int .u64 (dg n 5)) := A1.d 5 (by omega)
  by_cases hl : p < n
  · have HV : Hid (ab (p - n) = n - p ∧ decide (p - n < 0) = true) := ⟨by unfold ab; rw [if_pos (by omega)]; omega, decide_eq_true (by omega)⟩
    go_wp2_with fail
    refine (sminus_any n p _).mono ?_
    rintro e w2 ⟨rfl, hb⟩
    have R2 := R1.later hb
    have W2 := bchain W1 hb
    have r0 := R2.c 0 (by omega)
    have r1 := R2.c 1 (by omega)
    have r2 := R2.c 2 (by omega)
    have r3 := R2.c 3 (by omega)
    have r4 := R2.c 4 (by omega)
    have r5 := R2.c 5 (by omega)
    have g0 := R2.f 0 (by omega)
    have g1 := R2.f 1 (by omega)
    have g2 := R2.f 2 (by omega)
    have g3 := R2.f 3 (by omega)
    have g4 := R2.f 4 (by omega)
    have g5 := R2.f 5 (by omega)
    clear hb R1 R2 A1 W1 x0 x1 x2 x3 x4 x5 x6 x7 x8 x9 x10 x11
    go_wp2
    exact bodyPost_ret (v := .tuple #[.agg #[.int .u64 (dg (ab (p - n)) 0), .int .u64 (dg (ab (p - n)) 1), .int .u64 (dg (ab (p - n)) 2), .int .u64 (dg (ab (p - n)) 3), .int .u64 (dg (ab (p - n)) 4), .int .u64 (dg (ab (p - n)) 5)], .bool (decide (p - n < 0))]) (by rw [HV.out.1, HV.out.2]; simp [results, Tryd.results61, go_sem, r0, r1, r2, r3, r4, r5]) rfl ⟨rfl, ((((((W2).setCell (by dsimp only; omega) _).setCell (by dsimp only; omega) _).setCell (by dsimp only; omega) _).setCell (by dsimp only; omega) _).setCell (by dsimp only; omega) _).setCell (by dsimp only; omega) _⟩
  · have HV : Hid (ab (p - n) = p - n ∧ decide (p - n < 0) = false) := ⟨by unfold ab; rw [if_neg (by omega)], decide_eq_false (by omega)⟩
    go_wp2_with fail
    refine (sminus_any p n _).mono ?_
    rintro e w2 ⟨rfl, hb⟩
    have R2 := R1.later hb
    have W2 := bchain W1 hb
    have r0 := R2.c 0 (by omega)
    have r1 := R2.c 1 (by omega)
    have r2 := R2.c 2 (by omega)
    have r3 := R2.c 3 (by omega)
    have r4 := R2.c 4 (by omega)
    have r5 := R2.c 5 (by omega)
    have g0 := R2.f 0 (by omega)
    have g1 := R2.f 1 (by omega)
    have g2 := R2.f 2 (by omega)
    have g3 := R2.f 3 (by omega)
    have g4 := R2.f 4 (by omega)
    have g5 := R2.f 5 (by omega)
    clear hb R1 R2 A1 W1 x0 x1 x2 x3 x4 x5 x6 x7 x8 x9 x10 x11
    go_wp2
    exact bodyPost_ret (v := .tuple #[.agg #[.int .u64 (dg (ab (p - n)) 0), .int .u64 (dg (ab (p - n)) 1), .int .u64 (dg (ab (p - n)) 2), .int .u64 (dg (ab (p - n)) 3), .int .u64 (dg (ab (p - n)) 4), .int .u64 (dg (ab (p - n)) 5)], .bool (decide (p - n < 0))]) (by rw [HV.out.1, HV.out.2]; simp [results, Tryd.results61, go_sem, r0, r1, r2, r3, r4, r5]) rfl ⟨rfl, ((((((W2).setCell (by dsimp only; omega) _).setCell (by dsimp only; omega) _).setCell (by dsimp only; omega) _).setCell (by dsimp only; omega) _).setCell (by dsimp only; omega) _).setCell (by dsimp only; omega) _⟩
end Go.Proofs.YtpmlpcejmndidabDoor
