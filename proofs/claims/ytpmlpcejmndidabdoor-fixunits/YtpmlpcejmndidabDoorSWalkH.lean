/-
  The contracts of regattaref02's sums' Mul, and of its Add, Sub, Mul.
-/
import Derived.Test.YtpmlpcejmndidabDoorSWalkF
import Derived.Test.YtpmlpcejmndidabDoorSWalkG
set_option linter.unusedVariables false
set_option linter.unusedSimpArgs false
namespace Go.Proofs.YtpmlpcejmndidabDoor
open Go.RowKit

/-- What a sum stands for, and how great its sides are. -/
structure Sm (p q : Int) (V B : Int) : Prop where
  p0 : 0 ≤ p
  q0 : 0 ≤ q
  p1 : p ≤ B
  q1 : q ≤ B
  v : p - q = V

theorem sadd_any (p q V B a : Int) (k : Nat) (hk : k ≤ 4) (hS : Sm p q V B) (a0 : -9223372036854775808 ≤ a) (a1 : a ≤ 9223372036854775807) (w : World) :
    Calls Tryd.prog 39 #[.agg #[.int .u64 (dg (p) 0), .int .u64 (dg (p) 1), .int .u64 (dg (p) 2), .int .u64 (dg (p) 3), .int .u64 (dg (p) 4), .int .u64 (dg (p) 5), .int .u64 (dg (q) 0), .int .u64 (dg (q) 1), .int .u64 (dg (q) 2), .int .u64 (dg (q) 3), .int .u64 (dg (q) 4), .int .u64 (dg (q) 5)], .int .i64 a, .int .i64 (k : Int)] w fun e w' => ∃ p' q', e = .returned (.agg #[.int .u64 (dg (p') 0), .int .u64 (dg (p') 1), .int .u64 (dg (p') 2), .int .u64 (dg (p') 3), .int .u64 (dg (p') 4), .int .u64 (dg (p') 5), .int .u64 (dg (q') 0), .int .u64 (dg (q') 1), .int .u64 (dg (q') 2), .int .u64 (dg (q') 3), .int .u64 (dg (q') 4), .int .u64 (dg (q') 5)]) ∧ Sm p' q' (V + a * 2 ^ (32 * k)) (B + 9223372036854775808 * 2 ^ (32 * k)) ∧ Below w.heap.size w w' := by
  have hp := pow_pos' (32 * k)
  obtain ⟨s0, s1⟩ := ab_rng' a a0 a1
  have g0 := Int.mul_nonneg s0 (show (0 : Int) ≤ 2 ^ (32 * k) by omega)
  have g1 := Int.mul_le_mul_of_nonneg_right s1 (show (0 : Int) ≤ 2 ^ (32 * k) by omega)
  obtain ⟨h1, h2, h3, h4, h5⟩ := hS
  by_cases hn : a < 0
  · refine (sadd_neg p q a k hk a0 hn w).mono ?_
    rintro e w' ⟨rfl, hb⟩
    have e1 : ab a = -a := by unfold ab; rw [if_pos hn]
    refine ⟨_, _, rfl, ⟨h1, by omega, by omega, by omega, ?_⟩, hb⟩
    rw [e1, Int.neg_mul]
    omega
  · refine (sadd_pos p q a k hk (by omega) a1 w).mono ?_
    rintro e w' ⟨rfl, hb⟩
    have e1 : ab a = a := by unfold ab; rw [if_neg hn]
    refine ⟨_, _, rfl, ⟨by omega, h2, by omega, by omega, ?_⟩, hb⟩
    rw [e1]
    omega
theorem dg_zero (k : Nat) : dg 0 k = 0 := by unfold dg; rw [Int.zero_ediv]; rfl
theorem sadd_zero (a : Int) (k : Nat) (hk : k ≤ 4) (a0 : -9223372036854775808 ≤ a) (a1 : a ≤ 9223372036854775807) (w : World) :
    Calls Tryd.prog 39 #[.agg #[.int .u64 0, .int .u64 0, .int .u64 0, .int .u64 0, .int .u64 0, .int .u64 0, .int .u64 0, .int .u64 0, .int .u64 0, .int .u64 0, .int .u64 0, .int .u64 0], .int .i64 a, .int .i64 (k : Int)] w fun e w' => ∃ p' q', e = .returned (.agg #[.int .u64 (dg (p') 0), .int .u64 (dg (p') 1), .int .u64 (dg (p') 2), .int .u64 (dg (p') 3), .int .u64 (dg (p') 4), .int .u64 (dg (p') 5), .int .u64 (dg (q') 0), .int .u64 (dg (q') 1), .int .u64 (dg (q') 2), .int .u64 (dg (q') 3), .int .u64 (dg (q') 4), .int .u64 (dg (q') 5)]) ∧ Sm p' q' (a * 2 ^ (32 * k)) (9223372036854775808 * 2 ^ (32 * k)) ∧ Below w.heap.size w w' := by
  have h := sadd_any 0 0 0 0 a k hk ⟨by omega, by omega, by omega, by omega, by omega⟩ a0 a1 w
  rw [Int.zero_add, Int.zero_add] at h
  simp only [dg_zero] at h
  exact h

set_option maxHeartbeats 2000000 in
theorem smul_neg (p q a b : Int) (a0 : -9223372036854775808 ≤ a) (a1 : a ≤ 9223372036854775807) (b0 : -9223372036854775808 ≤ b) (b1 : b ≤ 9223372036854775807) (hs : (decide (a < 0) == decide (b < 0)) = false) (w : World) :
    Calls Tryd.prog 41 #[.agg #[.int .u64 (dg (p) 0), .int .u64 (dg (p) 1), .int .u64 (dg (p) 2), .int .u64 (dg (p) 3), .int .u64 (dg (p) 4), .int .u64 (dg (p) 5), .int .u64 (dg (q) 0), .int .u64 (dg (q) 1), .int .u64 (dg (q) 2), .int .u64 (dg (q) 3), .int .u64 (dg (q) 4), .int .u64 (dg (q) 5)], .int .i64 a, .int .i64 b] w fun e w' => e = .returned (.agg #[.int .u64 (dg (p) 0), .int .u64 (dg (p) 1), .int .u64 (dg (p) 2), .int .u64 (dg (p) 3), .int .u64 (dg (p) 4), .int .u64 (dg (p) 5), .int .u64 (dg (q + ab a * ab b) 0), .int .u64 (dg (q + ab a * ab b) 1), .int .u64 (dg (q + ab a * ab b) 2), .int .u64 (dg (q + ab a * ab b) 3), .int .u64 (dg (q + ab a * ab b) 4), .int .u64 (dg (q + ab a * ab b) 5)]) ∧ Below w.heap.size w w' := by
  have A0 := (B12.new w (dg p) (dg q) 73).later (bel1 _ (.cells #[.int .u64 0, .int .u64 0, .int .u64 0, .int .u64 0, .int .u64 0, .int .u64 0, .int .u64 0, .int .u64 0, .int .u64 0, .int .u64 0, .int .u64 0, .int .u64 0] 73))
  have R0 := B12.new (w.alloc (.cells #[.int .u64 (dg (p) 0), .int .u64 (dg (p) 1), .int .u64 (dg (p) 2), .int .u64 (dg (p) 3), .int .u64 (dg (p) 4), .int .u64 (dg (p) 5), .int .u64 (dg (q) 0), .int .u64 (dg (q) 1), .int .u64 (dg (q) 2), .int .u64 (dg (q) 3), .int .u64 (dg (q) 4), .int .u64 (dg (q) 5)] 73)) (fun _ => 0) (fun _ => 0) 73
  have W0 := bel2 w (.cells #[.int .u64 (dg (p) 0), .int .u64 (dg (p) 1), .int .u64 (dg (p) 2), .int .u64 (dg (p) 3), .int .u64 (dg (p) 4), .int .u64 (dg (p) 5), .int .u64 (dg (q) 0), .int .u64 (dg (q) 1), .int .u64 (dg (q) 2), .int .u64 (dg (q) 3), .int .u64 (dg (q) 4), .int .u64 (dg (q) 5)] 73) (.cells #[.int .u64 0, .int .u64 0, .int .u64 0, .int .u64 0, .int .u64 0, .int .u64 0, .int .u64 0, .int .u64 0, .int .u64 0, .int .u64 0, .int .u64 0, .int .u64 0] 73)
  simp only [World.size_alloc] at R0
  obtain ⟨s0, s1⟩ := ab_rng' a a0 a1
  obtain ⟨s2, s3⟩ := ab_rng' b b0 b1
  have SA : Hid (∀ W : World, Calls Tryd.prog 60 #[.int .i64 a] W fun e w' => e = .returned (.int .u64 (ab a)) ∧ w' = W) := fun W => ssize_any a a0 a1 W
  have SB : Hid (∀ W : World, Calls Tryd.prog 60 #[.int .i64 b] W fun e w' => e = .returned (.int .u64 (ab b)) ∧ w' = W) := fun W => ssize_any b b0 b1 W
  go_enter Tryd.func41, Tryd.ntmps41
  go_wp2_with fail
  refine (SA.out _).mono ?_
  rintro e w0 ⟨rfl, hw⟩
  subst hw
  go_wp2_with fail
  refine (SB.out _).mono ?_
  rintro e w0 ⟨rfl, hw⟩
  subst hw
  generalize (w.alloc (.cells #[.int .u64 (dg (p) 0), .int .u64 (dg (p) 1), .int .u64 (dg (p) 2), .int .u64 (dg (p) 3), .int .u64 (dg (p) 4), .int .u64 (dg (p) 5), .int .u64 (dg (q) 0), .int .u64 (dg (q) 1), .int .u64 (dg (q) 2), .int .u64 (dg (q) 3), .int .u64 (dg (q) 4), .int .u64 (dg (q) 5)] 73)).alloc (.cells #[.int .u64 0, .int .u64 0, .int .u64 0, .int .u64 0, .int .u64 0, .int .u64 0, .int .u64 0, .int .u64 0, .int .u64 0, .int .u64 0, .int .u64 0, .int .u64 0] 73) = w1 at *
  go_wp2_with fail
  refine (sproduct_any (ab a) (ab b) s0 (by omega) s2 (by omega) _).mono ?_
  rintro e w2 ⟨rfl, hb⟩
  have A2 := A0.later hb
  have R2 := R0.later hb
  have W2 := bchain W0 hb
  clear hb A0 R0 W0 SA SB
  have A3 := A2.later (bel1 w2 (.cells #[.int .u64 (dg (ab a * ab b) 0), .int .u64 (dg (ab a * ab b) 1), .int .u64 (dg (ab a * ab b) 2), .int .u64 (dg (ab a * ab b) 3), .int .u64 (dg (ab a * ab b) 4), .int .u64 (dg (ab a * ab b) 5)] 71))
  have R3 := R2.later (bel1 w2 (.cells #[.int .u64 (dg (ab a * ab b) 0), .int .u64 (dg (ab a * ab b) 1), .int .u64 (dg (ab a * ab b) 2), .int .u64 (dg (ab a * ab b) 3), .int .u64 (dg (ab a * ab b) 4), .int .u64 (dg (ab a * ab b) 5)] 71))
  have D3 := B6.new w2 (dg (ab a * ab b)) 71
  have W3 := bchain W2 (bel1 w2 (.cells #[.int .u64 (dg (ab a * ab b) 0), .int .u64 (dg (ab a * ab b) 1), .int .u64 (dg (ab a * ab b) 2), .int .u64 (dg (ab a * ab b) 3), .int .u64 (dg (ab a * ab b) 4), .int .u64 (dg (ab a * ab b) 5)] 71))
  clear A2 R2 W2
  go_upto_region 2 with fail
  generalize w2.alloc (.cells #[.int .u64 (dg (ab a * ab b) 0), .int .u64 (dg (ab a * ab b) 1), .int .u64 (dg (ab a * ab b) 2), .int .u64 (dg (ab a * ab b) 3), .int .u64 (dg (ab a * ab b) 4), .int .u64 (dg (ab a * ab b) 5)] 71) = w3 at *
  generalize w2.heap.size = d at *
  have x6 : w3.cell? ⟨w.heap.size, 6, none⟩ = some (.int .u64 (dg q 0)) := A3.d 0 (by omega); have x7 : w3.cell? ⟨w.heap.size, 7, none⟩ = some (.int .u64 (dg q 1)) := A3.d 1 (by omega); have x8 : w3.cell? ⟨w.heap.size, 8, none⟩ = some (.int .u64 (dg q 2)) := A3.d 2 (by omega); have x9 : w3.cell? ⟨w.heap.size, 9, none⟩ = some (.int .u64 (dg q 3)) := A3.d 3 (by omega); have x10 : w3.cell? ⟨w.heap.size, 10, none⟩ = some (.int .u64 (dg q 4)) := A3.d 4 (by omega); have x11 : w3.cell? ⟨w.heap.size, 11, none⟩ = some (.int .u64 (dg q 5)) := A3.d 5 (by omega); have xf6 : w3.frozen? ⟨w.heap.size, 6, none⟩ = false := A3.g 0 (by omega); have xf7 : w3.frozen? ⟨w.heap.size, 7, none⟩ = false := A3.g 1 (by omega); have xf8 : w3.frozen? ⟨w.heap.size, 8, none⟩ = false := A3.g 2 (by omega); have xf9 : w3.frozen? ⟨w.heap.size, 9, none⟩ = false := A3.g 3 (by omega); have xf10 : w3.frozen? ⟨w.heap.size, 10, none⟩ = false := A3.g 4 (by omega); have xf11 : w3.frozen? ⟨w.heap.size, 11, none⟩ = false := A3.g 5 (by omega)
  have y0 := D3.c 0 (by omega); have y1 := D3.c 1 (by omega); have y2 := D3.c 2 (by omega); have y3 := D3.c 3 (by omega); have y4 := D3.c 4 (by omega); have y5 := D3.c 5 (by omega); have yf0 := D3.f 0 (by omega); have yf1 := D3.f 1 (by omega); have yf2 := D3.f 2 (by omega); have yf3 := D3.f 3 (by omega); have yf4 := D3.f 4 (by omega); have yf5 := D3.f 5 (by omega)
  go_wp2_with fail
  refine (splus_any q (ab a * ab b) _).mono ?_
  rintro e w4 ⟨rfl, hb⟩
  have A4 := A3.later hb
  have R4 := R3.later hb
  have W4 := bchain W3 hb
  clear x6 x7 x8 x9 x10 x11 xf6 xf7 xf8 xf9 xf10 xf11
  clear y0 y1 y2 y3 y4 y5 yf0 yf1 yf2 yf3 yf4 yf5
  clear hb A3 R3 D3 W3
  have x6 : w4.cell? ⟨w.heap.size, 6, none⟩ = some (.int .u64 (dg q 0)) := A4.d 0 (by omega); have x7 : w4.cell? ⟨w.heap.size, 7, none⟩ = some (.int .u64 (dg q 1)) := A4.d 1 (by omega); have x8 : w4.cell? ⟨w.heap.size, 8, none⟩ = some (.int .u64 (dg q 2)) := A4.d 2 (by omega); have x9 : w4.cell? ⟨w.heap.size, 9, none⟩ = some (.int .u64 (dg q 3)) := A4.d 3 (by omega); have x10 : w4.cell? ⟨w.heap.size, 10, none⟩ = some (.int .u64 (dg q 4)) := A4.d 4 (by omega); have x11 : w4.cell? ⟨w.heap.size, 11, none⟩ = some (.int .u64 (dg q 5)) := A4.d 5 (by omega); have xf6 : w4.frozen? ⟨w.heap.size, 6, none⟩ = false := A4.g 0 (by omega); have xf7 : w4.frozen? ⟨w.heap.size, 7, none⟩ = false := A4.g 1 (by omega); have xf8 : w4.frozen? ⟨w.heap.size, 8, none⟩ = false := A4.g 2 (by omega); have xf9 : w4.frozen? ⟨w.heap.size, 9, none⟩ = false := A4.g 3 (by omega); have xf10 : w4.frozen? ⟨w.heap.size, 10, none⟩ = false := A4.g 4 (by omega); have xf11 : w4.frozen? ⟨w.heap.size, 11, none⟩ = false := A4.g 5 (by omega)
  go_upto_region 5 with fail
  have A5 := A4.allN (dg (q + ab a * ab b))
  have R5 := R4.farN (d := w.heap.size) (by omega) (dg (q + ab a * ab b))
  have W5 := bel6N W4 (b := w.heap.size) (Nat.le_refl _) (dg (q + ab a * ab b))
  clear x6 x7 x8 x9 x10 x11 xf6 xf7 xf8 xf9 xf10 xf11
  clear A4 R4 W4
  generalize ((((((w4.setCell ⟨w.heap.size, 6, none⟩ (.int .u64 (dg (q + ab a * ab b) 0))).setCell ⟨w.heap.size, 7, none⟩ (.int .u64 (dg (q + ab a * ab b) 1))).setCell ⟨w.heap.size, 8, none⟩ (.int .u64 (dg (q + ab a * ab b) 2))).setCell ⟨w.heap.size, 9, none⟩ (.int .u64 (dg (q + ab a * ab b) 3))).setCell ⟨w.heap.size, 10, none⟩ (.int .u64 (dg (q + ab a * ab b) 4))).setCell ⟨w.heap.size, 11, none⟩ (.int .u64 (dg (q + ab a * ab b) 5))) = w5 at *
  have x0 : w5.cell? ⟨w.heap.size, 0, none⟩ = some (.int .u64 (dg p 0)) := A5.c 0 (by omega); have x1 : w5.cell? ⟨w.heap.size, 1, none⟩ = some (.int .u64 (dg p 1)) := A5.c 1 (by omega); have x2 : w5.cell? ⟨w.heap.size, 2, none⟩ = some (.int .u64 (dg p 2)) := A5.c 2 (by omega); have x3 : w5.cell? ⟨w.heap.size, 3, none⟩ = some (.int .u64 (dg p 3)) := A5.c 3 (by omega); have x4 : w5.cell? ⟨w.heap.size, 4, none⟩ = some (.int .u64 (dg p 4)) := A5.c 4 (by omega); have x5 : w5.cell? ⟨w.heap.size, 5, none⟩ = some (.int .u64 (dg p 5)) := A5.c 5 (by omega); have x6 : w5.cell? ⟨w.heap.size, 6, none⟩ = some (.int .u64 (dg (q + ab a * ab b) 0)) := A5.d 0 (by omega); have x7 : w5.cell? ⟨w.heap.size, 7, none⟩ = some (.int .u64 (dg (q + ab a * ab b) 1)) := A5.d 1 (by omega); have x8 : w5.cell? ⟨w.heap.size, 8, none⟩ = some (.int .u64 (dg (q + ab a * ab b) 2)) := A5.d 2 (by omega); have x9 : w5.cell? ⟨w.heap.size, 9, none⟩ = some (.int .u64 (dg (q + ab a * ab b) 3)) := A5.d 3 (by omega); have x10 : w5.cell? ⟨w.heap.size, 10, none⟩ = some (.int .u64 (dg (q + ab a * ab b) 4)) := A5.d 4 (by omega); have x11 : w5.cell? ⟨w.heap.size, 11, none⟩ = some (.int .u64 (dg (q + ab a * ab b) 5)) := A5.d 5 (by omega); have xf0 : w5.frozen? ⟨w.heap.size, 0, none⟩ = false := A5.f 0 (by omega); have xf1 : w5.frozen? ⟨w.heap.size, 1, none⟩ = false := A5.f 1 (by omega); have xf2 : w5.frozen? ⟨w.heap.size, 2, none⟩ = false := A5.f 2 (by omega); have xf3 : w5.frozen? ⟨w.heap.size, 3, none⟩ = false := A5.f 3 (by omega); have xf4 : w5.frozen? ⟨w.heap.size, 4, none⟩ = false := A5.f 4 (by omega); have xf5 : w5.frozen? ⟨w.heap.size, 5, none⟩ = false := A5.f 5 (by omega); have xf6 : w5.frozen? ⟨w.heap.size, 6, none⟩ = false := A5.g 0 (by omega); have xf7 : w5.frozen? ⟨w.heap.size, 7, none⟩ = false := A5.g 1 (by omega); have xf8 : w5.frozen? ⟨w.heap.size, 8, none⟩ = false := A5.g 2 (by omega); have xf9 : w5.frozen? ⟨w.heap.size, 9, none⟩ = false := A5.g 3 (by omega); have xf10 : w5.frozen? ⟨w.heap.size, 10, none⟩ = false := A5.g 4 (by omega); have xf11 : w5.frozen? ⟨w.heap.size, 11, none⟩ = false := A5.g 5 (by omega)
  have r0 : w5.cell? ⟨w.heap.size + 1, 0, none⟩ = some (.int .u64 ((fun _ => 0) 0)) := R5.c 0 (by omega); have r1 : w5.cell? ⟨w.heap.size + 1, 1, none⟩ = some (.int .u64 ((fun _ => 0) 1)) := R5.c 1 (by omega); have r2 : w5.cell? ⟨w.heap.size + 1, 2, none⟩ = some (.int .u64 ((fun _ => 0) 2)) := R5.c 2 (by omega); have r3 : w5.cell? ⟨w.heap.size + 1, 3, none⟩ = some (.int .u64 ((fun _ => 0) 3)) := R5.c 3 (by omega); have r4 : w5.cell? ⟨w.heap.size + 1, 4, none⟩ = some (.int .u64 ((fun _ => 0) 4)) := R5.c 4 (by omega); have r5 : w5.cell? ⟨w.heap.size + 1, 5, none⟩ = some (.int .u64 ((fun _ => 0) 5)) := R5.c 5 (by omega); have r6 : w5.cell? ⟨w.heap.size + 1, 6, none⟩ = some (.int .u64 ((fun _ => 0) 0)) := R5.d 0 (by omega); have r7 : w5.cell? ⟨w.heap.size + 1, 7, none⟩ = some (.int .u64 ((fun _ => 0) 1)) := R5.d 1 (by omega); have r8 : w5.cell? ⟨w.heap.size + 1, 8, none⟩ = some (.int .u64 ((fun _ => 0) 2)) := R5.d 2 (by omega); have r9 : w5.cell? ⟨w.heap.size + 1, 9, none⟩ = some (.int .u64 ((fun _ => 0) 3)) := R5.d 3 (by omega); have r10 : w5.cell? ⟨w.heap.size + 1, 10, none⟩ = some (.int .u64 ((fun _ => 0) 4)) := R5.d 4 (by omega); have r11 : w5.cell? ⟨w.heap.size + 1, 11, none⟩ = some (.int .u64 ((fun _ => 0) 5)) := R5.d 5 (by omega); have rf0 : w5.frozen? ⟨w.heap.size + 1, 0, none⟩ = false := R5.f 0 (by omega); have rf1 : w5.frozen? ⟨w.heap.size + 1, 1, none⟩ = false := R5.f 1 (by omega); have rf2 : w5.frozen? ⟨w.heap.size + 1, 2, none⟩ = false := R5.f 2 (by omega); have rf3 : w5.frozen? ⟨w.heap.size + 1, 3, none⟩ = false := R5.f 3 (by omega); have rf4 : w5.frozen? ⟨w.heap.size + 1, 4, none⟩ = false := R5.f 4 (by omega); have rf5 : w5.frozen? ⟨w.heap.size + 1, 5, none⟩ = false := R5.f 5 (by omega); have rf6 : w5.frozen? ⟨w.heap.size + 1, 6, none⟩ = false := R5.g 0 (by omega); have rf7 : w5.frozen? ⟨w.heap.size + 1, 7, none⟩ = false := R5.g 1 (by omega); have rf8 : w5.frozen? ⟨w.heap.size + 1, 8, none⟩ = false := R5.g 2 (by omega); have rf9 : w5.frozen? ⟨w.heap.size + 1, 9, none⟩ = false := R5.g 3 (by omega); have rf10 : w5.frozen? ⟨w.heap.size + 1, 10, none⟩ = false := R5.g 4 (by omega); have rf11 : w5.frozen? ⟨w.heap.size + 1, 11, none⟩ = false := R5.g 5 (by omega)
  clear A5 R5
  go_wp2
  exact bodyPost_ret (v := .agg #[.int .u64 (dg (p) 0), .int .u64 (dg (p) 1), .int .u64 (dg (p) 2), .int .u64 (dg (p) 3), .int .u64 (dg (p) 4), .int .u64 (dg (p) 5), .int .u64 (dg (q + ab a * ab b) 0), .int .u64 (dg (q + ab a * ab b) 1), .int .u64 (dg (q + ab a * ab b) 2), .int .u64 (dg (q + ab a * ab b) 3), .int .u64 (dg (q + ab a * ab b) 4), .int .u64 (dg (q + ab a * ab b) 5)]) (by simp [results, Tryd.results41, go_sem, r0, r1, r2, r3, r4, r5, r6, r7, r8, r9, r10, r11]) rfl ⟨rfl, ((((((((((((W5).setCell (by dsimp only; omega) _).setCell (by dsimp only; omega) _).setCell (by dsimp only; omega) _).setCell (by dsimp only; omega) _).setCell (by dsimp only; omega) _).setCell (by dsimp only; omega) _).setCell (by dsimp only; omega) _).setCell (by dsimp only; omega) _).setCell (by dsimp only; omega) _).setCell (by dsimp only; omega) _).setCell (by dsimp only; omega) _).setCell (by dsimp only; omega) _⟩
set_option maxHeartbeats 2000000 in
theorem smul_pos (p q a b : Int) (a0 : -9223372036854775808 ≤ a) (a1 : a ≤ 9223372036854775807) (b0 : -9223372036854775808 ≤ b) (b1 : b ≤ 9223372036854775807) (hs : (decide (a < 0) == decide (b < 0)) = true) (w : World) :
    Calls Tryd.prog 41 #[.agg #[.int .u64 (dg (p) 0), .int .u64 (dg (p) 1), .int .u64 (dg (p) 2), .int .u64 (dg (p) 3), .int .u64 (dg (p) 4), .int .u64 (dg (p) 5), .int .u64 (dg (q) 0), .int .u64 (dg (q) 1), .int .u64 (dg (q) 2), .int .u64 (dg (q) 3), .int .u64 (dg (q) 4), .int .u64 (dg (q) 5)], .int .i64 a, .int .i64 b] w fun e w' => e = .returned (.agg #[.int .u64 (dg (p + ab a * ab b) 0), .int .u64 (dg (p + ab a * ab b) 1), .int .u64 (dg (p + ab a * ab b) 2), .int .u64 (dg (p + ab a * ab b) 3), .int .u64 (dg (p + ab a * ab b) 4), .int .u64 (dg (p + ab a * ab b) 5), .int .u64 (dg (q) 0), .int .u64 (dg (q) 1), .int .u64 (dg (q) 2), .int .u64 (dg (q) 3), .int .u64 (dg (q) 4), .int .u64 (dg (q) 5)]) ∧ Below w.heap.size w w' := by
  have A0 := (B12.new w (dg p) (dg q) 73).later (bel1 _ (.cells #[.int .u64 0, .int .u64 0, .int .u64 0, .int .u64 0, .int .u64 0, .int .u64 0, .int .u64 0, .int .u64 0, .int .u64 0, .int .u64 0, .int .u64 0, .int .u64 0] 73))
  have R0 := B12.new (w.alloc (.cells #[.int .u64 (dg (p) 0), .int .u64 (dg (p) 1), .int .u64 (dg (p) 2), .int .u64 (dg (p) 3), .int .u64 (dg (p) 4), .int .u64 (dg (p) 5), .int .u64 (dg (q) 0), .int .u64 (dg (q) 1), .int .u64 (dg (q) 2), .int .u64 (dg (q) 3), .int .u64 (dg (q) 4), .int .u64 (dg (q) 5)] 73)) (fun _ => 0) (fun _ => 0) 73
  have W0 := bel2 w (.cells #[.int .u64 (dg (p) 0), .int .u64 (dg (p) 1), .int .u64 (dg (p) 2), .int .u64 (dg (p) 3), .int .u64 (dg (p) 4), .int .u64 (dg (p) 5), .int .u64 (dg (q) 0), .int .u64 (dg (q) 1), .int .u64 (dg (q) 2), .int .u64 (dg (q) 3), .int .u64 (dg (q) 4), .int .u64 (dg (q) 5)] 73) (.cells #[.int .u64 0, .int .u64 0, .int .u64 0, .int .u64 0, .int .u64 0, .int .u64 0, .int .u64 0, .int .u64 0, .int .u64 0, .int .u64 0, .int .u64 0, .int .u64 0] 73)
  simp only [World.size_alloc] at R0
  obtain ⟨s0, s1⟩ := ab_rng' a a0 a1
  obtain ⟨s2, s3⟩ := ab_rng' b b0 b1
  have SA : Hid (∀ W : World, Calls Tryd.prog 60 #[.int .i64 a] W fun e w' => e = .returned (.int .u64 (ab a)) ∧ w' = W) := fun W => ssize_any a a0 a1 W
  have SB : Hid (∀ W : World, Calls Tryd.prog 60 #[.int .i64 b] W fun e w' => e = .returned (.int .u64 (ab b)) ∧ w' = W) := fun W => ssize_any b b0 b1 W
  go_enter Tryd.func41, Tryd.ntmps41
  go_wp2_with fail
  refine (SA.out _).mono ?_
  rintro e w0 ⟨rfl, hw⟩
  subst hw
  go_wp2_with fail
  refine (SB.out _).mono ?_
  rintro e w0 ⟨rfl, hw⟩
  subst hw
  generalize (w.alloc (.cells #[.int .u64 (dg (p) 0), .int .u64 (dg (p) 1), .int .u64 (dg (p) 2), .int .u64 (dg (p) 3), .int .u64 (dg (p) 4), .int .u64 (dg (p) 5), .int .u64 (dg (q) 0), .int .u64 (dg (q) 1), .int .u64 (dg (q) 2), .int .u64 (dg (q) 3), .int .u64 (dg (q) 4), .int .u64 (dg (q) 5)] 73)).alloc (.cells #[.int .u64 0, .int .u64 0, .int .u64 0, .int .u64 0, .int .u64 0, .int .u64 0, .int .u64 0, .int .u64 0, .int .u64 0, .int .u64 0, .int .u64 0, .int .u64 0] 73) = w1 at *
  go_wp2_with fail
  refine (sproduct_any (ab a) (ab b) s0 (by omega) s2 (by omega) _).mono ?_
  rintro e w2 ⟨rfl, hb⟩
  have A2 := A0.later hb
  have R2 := R0.later hb
  have W2 := bchain W0 hb
  clear hb A0 R0 W0 SA SB
  have A3 := A2.later (bel1 w2 (.cells #[.int .u64 (dg (ab a * ab b) 0), .int .u64 (dg (ab a * ab b) 1), .int .u64 (dg (ab a * ab b) 2), .int .u64 (dg (ab a * ab b) 3), .int .u64 (dg (ab a * ab b) 4), .int .u64 (dg (ab a * ab b) 5)] 71))
  have R3 := R2.later (bel1 w2 (.cells #[.int .u64 (dg (ab a * ab b) 0), .int .u64 (dg (ab a * ab b) 1), .int .u64 (dg (ab a * ab b) 2), .int .u64 (dg (ab a * ab b) 3), .int .u64 (dg (ab a * ab b) 4), .int .u64 (dg (ab a * ab b) 5)] 71))
  have D3 := B6.new w2 (dg (ab a * ab b)) 71
  have W3 := bchain W2 (bel1 w2 (.cells #[.int .u64 (dg (ab a * ab b) 0), .int .u64 (dg (ab a * ab b) 1), .int .u64 (dg (ab a * ab b) 2), .int .u64 (dg (ab a * ab b) 3), .int .u64 (dg (ab a * ab b) 4), .int .u64 (dg (ab a * ab b) 5)] 71))
  clear A2 R2 W2
  go_upto_region 2 with fail
  generalize w2.alloc (.cells #[.int .u64 (dg (ab a * ab b) 0), .int .u64 (dg (ab a * ab b) 1), .int .u64 (dg (ab a * ab b) 2), .int .u64 (dg (ab a * ab b) 3), .int .u64 (dg (ab a * ab b) 4), .int .u64 (dg (ab a * ab b) 5)] 71) = w3 at *
  generalize w2.heap.size = d at *
  have x0 : w3.cell? ⟨w.heap.size, 0, none⟩ = some (.int .u64 (dg p 0)) := A3.c 0 (by omega); have x1 : w3.cell? ⟨w.heap.size, 1, none⟩ = some (.int .u64 (dg p 1)) := A3.c 1 (by omega); have x2 : w3.cell? ⟨w.heap.size, 2, none⟩ = some (.int .u64 (dg p 2)) := A3.c 2 (by omega); have x3 : w3.cell? ⟨w.heap.size, 3, none⟩ = some (.int .u64 (dg p 3)) := A3.c 3 (by omega); have x4 : w3.cell? ⟨w.heap.size, 4, none⟩ = some (.int .u64 (dg p 4)) := A3.c 4 (by omega); have x5 : w3.cell? ⟨w.heap.size, 5, none⟩ = some (.int .u64 (dg p 5)) := A3.c 5 (by omega); have xf0 : w3.frozen? ⟨w.heap.size, 0, none⟩ = false := A3.f 0 (by omega); have xf1 : w3.frozen? ⟨w.heap.size, 1, none⟩ = false := A3.f 1 (by omega); have xf2 : w3.frozen? ⟨w.heap.size, 2, none⟩ = false := A3.f 2 (by omega); have xf3 : w3.frozen? ⟨w.heap.size, 3, none⟩ = false := A3.f 3 (by omega); have xf4 : w3.frozen? ⟨w.heap.size, 4, none⟩ = false := A3.f 4 (by omega); have xf5 : w3.frozen? ⟨w.heap.size, 5, none⟩ = false := A3.f 5 (by omega)
  have y0 := D3.c 0 (by omega); have y1 := D3.c 1 (by omega); have y2 := D3.c 2 (by omega); have y3 := D3.c 3 (by omega); have y4 := D3.c 4 (by omega); have y5 := D3.c 5 (by omega); have yf0 := D3.f 0 (by omega); have yf1 := D3.f 1 (by omega); have yf2 := D3.f 2 (by omega); have yf3 := D3.f 3 (by omega); have yf4 := D3.f 4 (by omega); have yf5 := D3.f 5 (by omega)
  go_wp2_with fail
  refine (splus_any p (ab a * ab b) _).mono ?_
  rintro e w4 ⟨rfl, hb⟩
  have A4 := A3.later hb
  have R4 := R3.later hb
  have W4 := bchain W3 hb
  clear x0 x1 x2 x3 x4 x5 xf0 xf1 xf2 xf3 xf4 xf5
  clear y0 y1 y2 y3 y4 y5 yf0 yf1 yf2 yf3 yf4 yf5
  clear hb A3 R3 D3 W3
  have x0 : w4.cell? ⟨w.heap.size, 0, none⟩ = some (.int .u64 (dg p 0)) := A4.c 0 (by omega); have x1 : w4.cell? ⟨w.heap.size, 1, none⟩ = some (.int .u64 (dg p 1)) := A4.c 1 (by omega); have x2 : w4.cell? ⟨w.heap.size, 2, none⟩ = some (.int .u64 (dg p 2)) := A4.c 2 (by omega); have x3 : w4.cell? ⟨w.heap.size, 3, none⟩ = some (.int .u64 (dg p 3)) := A4.c 3 (by omega); have x4 : w4.cell? ⟨w.heap.size, 4, none⟩ = some (.int .u64 (dg p 4)) := A4.c 4 (by omega); have x5 : w4.cell? ⟨w.heap.size, 5, none⟩ = some (.int .u64 (dg p 5)) := A4.c 5 (by omega); have xf0 : w4.frozen? ⟨w.heap.size, 0, none⟩ = false := A4.f 0 (by omega); have xf1 : w4.frozen? ⟨w.heap.size, 1, none⟩ = false := A4.f 1 (by omega); have xf2 : w4.frozen? ⟨w.heap.size, 2, none⟩ = false := A4.f 2 (by omega); have xf3 : w4.frozen? ⟨w.heap.size, 3, none⟩ = false := A4.f 3 (by omega); have xf4 : w4.frozen? ⟨w.heap.size, 4, none⟩ = false := A4.f 4 (by omega); have xf5 : w4.frozen? ⟨w.heap.size, 5, none⟩ = false := A4.f 5 (by omega)
  go_upto_region 5 with fail
  have A5 := A4.allP (dg (p + ab a * ab b))
  have R5 := R4.farP (d := w.heap.size) (by omega) (dg (p + ab a * ab b))
  have W5 := bel6 W4 (b := w.heap.size) (Nat.le_refl _) (dg (p + ab a * ab b))
  clear x0 x1 x2 x3 x4 x5 xf0 xf1 xf2 xf3 xf4 xf5
  clear A4 R4 W4
  generalize ((((((w4.setCell ⟨w.heap.size, 0, none⟩ (.int .u64 (dg (p + ab a * ab b) 0))).setCell ⟨w.heap.size, 1, none⟩ (.int .u64 (dg (p + ab a * ab b) 1))).setCell ⟨w.heap.size, 2, none⟩ (.int .u64 (dg (p + ab a * ab b) 2))).setCell ⟨w.heap.size, 3, none⟩ (.int .u64 (dg (p + ab a * ab b) 3))).setCell ⟨w.heap.size, 4, none⟩ (.int .u64 (dg (p + ab a * ab b) 4))).setCell ⟨w.heap.size, 5, none⟩ (.int .u64 (dg (p + ab a * ab b) 5))) = w5 at *
  have x0 : w5.cell? ⟨w.heap.size, 0, none⟩ = some (.int .u64 (dg (p + ab a * ab b) 0)) := A5.c 0 (by omega); have x1 : w5.cell? ⟨w.heap.size, 1, none⟩ = some (.int .u64 (dg (p + ab a * ab b) 1)) := A5.c 1 (by omega); have x2 : w5.cell? ⟨w.heap.size, 2, none⟩ = some (.int .u64 (dg (p + ab a * ab b) 2)) := A5.c 2 (by omega); have x3 : w5.cell? ⟨w.heap.size, 3, none⟩ = some (.int .u64 (dg (p + ab a * ab b) 3)) := A5.c 3 (by omega); have x4 : w5.cell? ⟨w.heap.size, 4, none⟩ = some (.int .u64 (dg (p + ab a * ab b) 4)) := A5.c 4 (by omega); have x5 : w5.cell? ⟨w.heap.size, 5, none⟩ = some (.int .u64 (dg (p + ab a * ab b) 5)) := A5.c 5 (by omega); have x6 : w5.cell? ⟨w.heap.size, 6, none⟩ = some (.int .u64 (dg q 0)) := A5.d 0 (by omega); have x7 : w5.cell? ⟨w.heap.size, 7, none⟩ = some (.int .u64 (dg q 1)) := A5.d 1 (by omega); have x8 : w5.cell? ⟨w.heap.size, 8, none⟩ = some (.int .u64 (dg q 2)) := A5.d 2 (by omega); have x9 : w5.cell? ⟨w.heap.size, 9, none⟩ = some (.int .u64 (dg q 3)) := A5.d 3 (by omega); have x10 : w5.cell? ⟨w.heap.size, 10, none⟩ = some (.int .u64 (dg q 4)) := A5.d 4 (by omega); have x11 : w5.cell? ⟨w.heap.size, 11, none⟩ = some (.int .u64 (dg q 5)) := A5.d 5 (by omega); have xf0 : w5.frozen? ⟨w.heap.size, 0, none⟩ = false := A5.f 0 (by omega); have xf1 : w5.frozen? ⟨w.heap.size, 1, none⟩ = false := A5.f 1 (by omega); have xf2 : w5.frozen? ⟨w.heap.size, 2, none⟩ = false := A5.f 2 (by omega); have xf3 : w5.frozen? ⟨w.heap.size, 3, none⟩ = false := A5.f 3 (by omega); have xf4 : w5.frozen? ⟨w.heap.size, 4, none⟩ = false := A5.f 4 (by omega); have xf5 : w5.frozen? ⟨w.heap.size, 5, none⟩ = false := A5.f 5 (by omega); have xf6 : w5.frozen? ⟨w.heap.size, 6, none⟩ = false := A5.g 0 (by omega); have xf7 : w5.frozen? ⟨w.heap.size, 7, none⟩ = false := A5.g 1 (by omega); have xf8 : w5.frozen? ⟨w.heap.size, 8, none⟩ = false := A5.g 2 (by omega); have xf9 : w5.frozen? ⟨w.heap.size, 9, none⟩ = false := A5.g 3 (by omega); have xf10 : w5.frozen? ⟨w.heap.size, 10, none⟩ = false := A5.g 4 (by omega); have xf11 : w5.frozen? ⟨w.heap.size, 11, none⟩ = false := A5.g 5 (by omega)
  have r0 : w5.cell? ⟨w.heap.size + 1, 0, none⟩ = some (.int .u64 ((fun _ => 0) 0)) := R5.c 0 (by omega); have r1 : w5.cell? ⟨w.heap.size + 1, 1, none⟩ = some (.int .u64 ((fun _ => 0) 1)) := R5.c 1 (by omega); have r2 : w5.cell? ⟨w.heap.size + 1, 2, none⟩ = some (.int .u64 ((fun _ => 0) 2)) := R5.c 2 (by omega); have r3 : w5.cell? ⟨w.heap.size + 1, 3, none⟩ = some (.int .u64 ((fun _ => 0) 3)) := R5.c 3 (by omega); have r4 : w5.cell? ⟨w.heap.size + 1, 4, none⟩ = some (.int .u64 ((fun _ => 0) 4)) := R5.c 4 (by omega); have r5 : w5.cell? ⟨w.heap.size + 1, 5, none⟩ = some (.int .u64 ((fun _ => 0) 5)) := R5.c 5 (by omega); have r6 : w5.cell? ⟨w.heap.size + 1, 6, none⟩ = some (.int .u64 ((fun _ => 0) 0)) := R5.d 0 (by omega); have r7 : w5.cell? ⟨w.heap.size + 1, 7, none⟩ = some (.int .u64 ((fun _ => 0) 1)) := R5.d 1 (by omega); have r8 : w5.cell? ⟨w.heap.size + 1, 8, none⟩ = some (.int .u64 ((fun _ => 0) 2)) := R5.d 2 (by omega); have r9 : w5.cell? ⟨w.heap.size + 1, 9, none⟩ = some (.int .u64 ((fun _ => 0) 3)) := R5.d 3 (by omega); have r10 : w5.cell? ⟨w.heap.size + 1, 10, none⟩ = some (.int .u64 ((fun _ => 0) 4)) := R5.d 4 (by omega); have r11 : w5.cell? ⟨w.heap.size + 1, 11, none⟩ = some (.int .u64 ((fun _ => 0) 5)) := R5.d 5 (by omega); have rf0 : w5.frozen? ⟨w.heap.size + 1, 0, none⟩ = false := R5.f 0 (by omega); have rf1 : w5.frozen? ⟨w.heap.size + 1, 1, none⟩ = false := R5.f 1 (by omega); have rf2 : w5.frozen? ⟨w.heap.size + 1, 2, none⟩ = false := R5.f 2 (by omega); have rf3 : w5.frozen? ⟨w.heap.size + 1, 3, none⟩ = false := R5.f 3 (by omega); have rf4 : w5.frozen? ⟨w.heap.size + 1, 4, none⟩ = false := R5.f 4 (by omega); have rf5 : w5.frozen? ⟨w.heap.size + 1, 5, none⟩ = false := R5.f 5 (by omega); have rf6 : w5.frozen? ⟨w.heap.size + 1, 6, none⟩ = false := R5.g 0 (by omega); have rf7 : w5.frozen? ⟨w.heap.size + 1, 7, none⟩ = false := R5.g 1 (by omega); have rf8 : w5.frozen? ⟨w.heap.size + 1, 8, none⟩ = false := R5.g 2 (by omega); have rf9 : w5.frozen? ⟨w.heap.size + 1, 9, none⟩ = false := R5.g 3 (by omega); have rf10 : w5.frozen? ⟨w.heap.size + 1, 10, none⟩ = false := R5.g 4 (by omega); have rf11 : w5.frozen? ⟨w.heap.size + 1, 11, none⟩ = false := R5.g 5 (by omega)
  clear A5 R5
  go_wp2
  exact bodyPost_ret (v := .agg #[.int .u64 (dg (p + ab a * ab b) 0), .int .u64 (dg (p + ab a * ab b) 1), .int .u64 (dg (p + ab a * ab b) 2), .int .u64 (dg (p + ab a * ab b) 3), .int .u64 (dg (p + ab a * ab b) 4), .int .u64 (dg (p + ab a * ab b) 5), .int .u64 (dg (q) 0), .int .u64 (dg (q) 1), .int .u64 (dg (q) 2), .int .u64 (dg (q) 3), .int .u64 (dg (q) 4), .int .u64 (dg (q) 5)]) (by simp [results, Tryd.results41, go_sem, r0, r1, r2, r3, r4, r5, r6, r7, r8, r9, r10, r11]) rfl ⟨rfl, ((((((((((((W5).setCell (by dsimp only; omega) _).setCell (by dsimp only; omega) _).setCell (by dsimp only; omega) _).setCell (by dsimp only; omega) _).setCell (by dsimp only; omega) _).setCell (by dsimp only; omega) _).setCell (by dsimp only; omega) _).setCell (by dsimp only; omega) _).setCell (by dsimp only; omega) _).setCell (by dsimp only; omega) _).setCell (by dsimp only; omega) _).setCell (by dsimp only; omega) _⟩

theorem ab_mul_le (a b : Int) (a0 : -9223372036854775808 ≤ a) (a1 : a ≤ 9223372036854775807) (b0 : -9223372036854775808 ≤ b) (b1 : b ≤ 9223372036854775807) : 0 ≤ ab a * ab b ∧ ab a * ab b ≤ 85070591730234615865843651857942052864 := by
  obtain ⟨s0, s1⟩ := ab_rng' a a0 a1
  obtain ⟨s2, s3⟩ := ab_rng' b b0 b1
  have h1 := Int.mul_nonneg s0 s2
  have h2 := Int.mul_le_mul s1 s3 s2 (by omega)
  omega
theorem smul_any (p q V B a b : Int) (hS : Sm p q V B) (a0 : -9223372036854775808 ≤ a) (a1 : a ≤ 9223372036854775807) (b0 : -9223372036854775808 ≤ b) (b1 : b ≤ 9223372036854775807) (w : World) :
    Calls Tryd.prog 41 #[.agg #[.int .u64 (dg (p) 0), .int .u64 (dg (p) 1), .int .u64 (dg (p) 2), .int .u64 (dg (p) 3), .int .u64 (dg (p) 4), .int .u64 (dg (p) 5), .int .u64 (dg (q) 0), .int .u64 (dg (q) 1), .int .u64 (dg (q) 2), .int .u64 (dg (q) 3), .int .u64 (dg (q) 4), .int .u64 (dg (q) 5)], .int .i64 a, .int .i64 b] w fun e w' => ∃ p' q', e = .returned (.agg #[.int .u64 (dg (p') 0), .int .u64 (dg (p') 1), .int .u64 (dg (p') 2), .int .u64 (dg (p') 3), .int .u64 (dg (p') 4), .int .u64 (dg (p') 5), .int .u64 (dg (q') 0), .int .u64 (dg (q') 1), .int .u64 (dg (q') 2), .int .u64 (dg (q') 3), .int .u64 (dg (q') 4), .int .u64 (dg (q') 5)]) ∧ Sm p' q' (V + a * b) (B + 85070591730234615865843651857942052864) ∧ Below w.heap.size w w' := by
  obtain ⟨g0, g1⟩ := ab_mul_le a b a0 a1 b0 b1
  obtain ⟨h1, h2, h3, h4, h5⟩ := hS
  cases hs : (decide (a < 0) == decide (b < 0))
  · refine (smul_neg p q a b a0 a1 b0 b1 hs w).mono ?_
    rintro e w' ⟨rfl, hb⟩
    refine ⟨_, _, rfl, ⟨h1, by omega, by omega, by omega, ?_⟩, hb⟩
    have e1 : ab a * ab b = -(a * b) := by
      unfold ab
      by_cases ha : a < 0
      · by_cases hb' : b < 0
        · simp [ha, hb'] at hs
        · rw [if_pos ha, if_neg hb', Int.neg_mul]
      · by_cases hb' : b < 0
        · rw [if_neg ha, if_pos hb', Int.mul_neg]
        · simp [ha, hb'] at hs
    omega
  · refine (smul_pos p q a b a0 a1 b0 b1 hs w).mono ?_
    rintro e w' ⟨rfl, hb⟩
    refine ⟨_, _, rfl, ⟨by omega, h2, by omega, by omega, ?_⟩, hb⟩
    have e1 : ab a * ab b = a * b := by
      unfold ab
      by_cases ha : a < 0
      · by_cases hb' : b < 0
        · rw [if_pos ha, if_pos hb', Int.neg_mul_neg]
        · simp [ha, hb'] at hs
      · by_cases hb' : b < 0
        · simp [ha, hb'] at hs
        · rw [if_neg ha, if_neg hb']
    omega
theorem smul_zero (a b : Int) (a0 : -9223372036854775808 ≤ a) (a1 : a ≤ 9223372036854775807) (b0 : -9223372036854775808 ≤ b) (b1 : b ≤ 9223372036854775807) (w : World) :
    Calls Tryd.prog 41 #[.agg #[.int .u64 0, .int .u64 0, .int .u64 0, .int .u64 0, .int .u64 0, .int .u64 0, .int .u64 0, .int .u64 0, .int .u64 0, .int .u64 0, .int .u64 0, .int .u64 0], .int .i64 a, .int .i64 b] w fun e w' => ∃ p' q', e = .returned (.agg #[.int .u64 (dg (p') 0), .int .u64 (dg (p') 1), .int .u64 (dg (p') 2), .int .u64 (dg (p') 3), .int .u64 (dg (p') 4), .int .u64 (dg (p') 5), .int .u64 (dg (q') 0), .int .u64 (dg (q') 1), .int .u64 (dg (q') 2), .int .u64 (dg (q') 3), .int .u64 (dg (q') 4), .int .u64 (dg (q') 5)]) ∧ Sm p' q' (a * b) 85070591730234615865843651857942052864 ∧ Below w.heap.size w w' := by
  have h := smul_any 0 0 0 0 a b ⟨by omega, by omega, by omega, by omega, by omega⟩ a0 a1 b0 b1 w
  rw [Int.zero_add, Int.zero_add] at h
  simp only [dg_zero] at h
  exact h
theorem sround_of (p q V B : Int) (n : Nat) (hn : n ≤ 1000) (hS : Sm p q V B) (hB : B < 3138550867693340381917894711603833208051177722232017256448) (w : World) :
    Calls Tryd.prog 40 #[.agg #[.int .u64 (dg (p) 0), .int .u64 (dg (p) 1), .int .u64 (dg (p) 2), .int .u64 (dg (p) 3), .int .u64 (dg (p) 4), .int .u64 (dg (p) 5), .int .u64 (dg (q) 0), .int .u64 (dg (q) 1), .int .u64 (dg (q) 2), .int .u64 (dg (q) 3), .int .u64 (dg (q) 4), .int .u64 (dg (q) 5)], .int .i64 (n : Int)] w fun e w' => e = .returned (.tuple #[.int .i64 (clv (rr V n)), .bool (ovv (rr V n))]) ∧ Below w.heap.size w w' := by
  obtain ⟨h1, h2, h3, h4, h5⟩ := hS
  rw [← h5]
  exact sround_any p q n hn h1 (by omega) h2 (by omega) w

set_option maxHeartbeats 1000000 in
theorem rfmul_any (a b : Int) (a0 : -9223372036854775808 ≤ a) (a1 : a ≤ 9223372036854775807) (b0 : -9223372036854775808 ≤ b) (b1 : b ≤ 9223372036854775807) (w : World) :
    Calls Tryd.prog 15 #[.int .i64 a, .int .i64 b] w fun e w' => e = .returned (.tuple #[.int .i64 (clv (rnd (a * b) 32)), .bool (ovv (rnd (a * b) 32))]) ∧ Below w.heap.size w w' := by
  go_enter Tryd.func15, Tryd.ntmps15
  go_wp2_with fail
  refine (smul_zero a b a0 a1 b0 b1 _).mono ?_
  rintro e w1 ⟨p', q', rfl, hS, W1⟩
  go_wp2_with fail
  refine (sround_of p' q' _ _ 32 (by omega) hS (by omega) _).mono ?_
  rintro e w2 ⟨rfl, hb⟩
  have W2 := bchain W1 hb
  clear hb W1 hS
  go_wp2
  go_ret2
  exact ⟨rfl, W2⟩
set_option maxHeartbeats 1000000 in
theorem rfadd_any (a b : Int) (a0 : -9223372036854775808 ≤ a) (a1 : a ≤ 9223372036854775807) (b0 : -9223372036854775808 ≤ b) (b1 : b ≤ 9223372036854775807) (w : World) :
    Calls Tryd.prog 13 #[.int .i64 a, .int .i64 b] w fun e w' => e = .returned (.tuple #[.int .i64 (clv (a + b)), .bool (ovv (a + b))]) ∧ Below w.heap.size w w' := by
  go_enter Tryd.func13, Tryd.ntmps13
  go_wp2_with fail
  refine (sadd_zero a 0 (by omega) a0 a1 _).mono ?_
  rintro e w1 ⟨p', q', rfl, hS, W1⟩
  go_wp2_with fail
  refine (sadd_any p' q' _ _ b 0 (by omega) hS b0 b1 _).mono ?_
  rintro e w2 ⟨p2, q2, rfl, hS2, hb⟩
  have W2 := bchain W1 hb
  clear hb W1 hS
  rw [Nat.mul_zero, Int.pow_zero, Int.mul_one, Int.mul_one, Int.mul_one] at hS2
  go_wp2_with fail
  refine (sround_of p2 q2 _ _ 0 (by omega) hS2 (by omega) _).mono ?_
  rintro e w3 ⟨rfl, hb⟩
  have W3 := bchain W2 hb
  clear hb W2 hS2
  go_wp2
  go_ret2
  exact ⟨rfl, W3⟩
end Go.Proofs.YtpmlpcejmndidabDoor
