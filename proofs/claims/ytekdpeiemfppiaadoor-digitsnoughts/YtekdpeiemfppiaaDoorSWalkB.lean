/-
  Contracts of regattaref02's half, Less, One64.
-/
import Derived.Test.YtekdpeiemfppiaaDoorSWalkA
set_option linter.unusedVariables false
set_option linter.unusedSimpArgs false
namespace Go.Proofs.YtekdpeiemfppiaaDoor
open Go.RowKit

theorem dg_up (a : Int) (q : Nat) : a / 2 ^ (32 * q) = a / 2 ^ (32 * (q + 1)) * 4294967296 + dg a q := by
  have hp := pow_pos' (32 * q)
  rw [pow32, ← Int.ediv_ediv_of_nonneg (by omega)]
  unfold dg
  omega
theorem lt_of_up (a b : Int) (q : Nat) (h : a / 2 ^ q < b / 2 ^ q) : a < b := by
  have hp := pow_pos' q
  rcases Int.lt_or_le a b with h1 | h1
  · exact h1
  · have := Int.ediv_le_ediv (show (0 : Int) < 2 ^ q by omega) h1
    omega
theorem less_digit (a b : Int) (q : Nat) (h : a / 2 ^ (32 * (q + 1)) = b / 2 ^ (32 * (q + 1))) (hn : dg a q ≠ dg b q) : decide (dg a q < dg b q) = decide (a < b) := by
  have ea := dg_up a q
  have eb := dg_up b q
  rw [h] at ea
  by_cases hl : dg a q < dg b q
  · rw [decide_eq_true hl, decide_eq_true (lt_of_up a b (32 * q) (by omega))]
  · have := lt_of_up b a (32 * q) (by omega)
    rw [decide_eq_false hl, decide_eq_false (by omega)]
theorem same_digit (a b : Int) (q : Nat) (h : a / 2 ^ (32 * (q + 1)) = b / 2 ^ (32 * (q + 1))) (hn : dg a q = dg b q) : a / 2 ^ (32 * q) = b / 2 ^ (32 * q) := by
  rw [dg_up a q, dg_up b q, h, hn]

theorem one_digit (x : Int) (p k : Nat) (x0 : 0 ≤ x) (x1 : x ≤ 18446744073709551615) : dg (x * 2 ^ (32 * p)) k = if k = p + 1 then x / 4294967296 else if k = p then x % 4294967296 else 0 := by
  have hp := pow_pos' (32 * p)
  unfold dg
  rcases (show k < p ∨ k = p ∨ k = p + 1 ∨ p + 2 ≤ k by omega) with h | rfl | rfl | h
  · rw [if_neg (by omega), if_neg (by omega)]
    have e : x * 2 ^ (32 * p) = x * 2 ^ (32 * (p - k - 1)) * 4294967296 * 2 ^ (32 * k) := by
      rw [show (4294967296 : Int) = 2 ^ 32 from rfl, Int.mul_assoc, Int.mul_assoc, ← Int.pow_add, ← Int.pow_add]
      congr 2; omega
    have hk := pow_pos' (32 * k)
    rw [e, Int.mul_ediv_cancel _ (by omega), Int.mul_emod_left]
  · rw [if_neg (by omega), if_pos rfl, Int.mul_ediv_cancel _ (by omega)]
  · rw [if_pos rfl, pow32, ← Int.ediv_ediv_of_nonneg (by omega), Int.mul_ediv_cancel _ (by omega)]
    omega
  · rw [if_neg (by omega), if_neg (by omega)]
    have e : (2 : Int) ^ (32 * k) = 2 ^ (32 * p) * (18446744073709551616 * 2 ^ (32 * (k - p - 2))) := by
      rw [show (18446744073709551616 : Int) = 2 ^ 64 from rfl, ← Int.pow_add, ← Int.pow_add]
      congr 1; omega
    have hk := pow_pos' (32 * (k - p - 2))
    have hx : (18446744073709551616 : Int) * 1 ≤ 18446744073709551616 * 2 ^ (32 * (k - p - 2)) := Int.mul_le_mul_of_nonneg_left (by omega) (by omega)
    rw [e, ← Int.ediv_ediv_of_nonneg (by omega), Int.mul_ediv_cancel _ (by omega), Int.ediv_eq_zero_of_lt x0 (by omega)]
    rfl

set_option maxHeartbeats 1000000 in
theorem sone_any (x : Int) (p : Nat) (hp : p ≤ 4) (x0 : 0 ≤ x) (x1 : x ≤ 18446744073709551615) (w : World) :
    Calls Tryd.prog 36 #[.int .u64 x, .int .i64 (p : Int)] w fun e w' => e = .returned (.agg #[.int .u64 (dg (x * 2 ^ (32 * p)) 0), .int .u64 (dg (x * 2 ^ (32 * p)) 1), .int .u64 (dg (x * 2 ^ (32 * p)) 2), .int .u64 (dg (x * 2 ^ (32 * p)) 3), .int .u64 (dg (x * 2 ^ (32 * p)) 4), .int .u64 (dg (x * 2 ^ (32 * p)) 5)]) ∧ Below w.heap.size w w' := by
  have R0 := (B6.new w (fun _ => 0) 71).later (bel1 _ (.cells #[.int .u64 0, .int .u64 0, .int .u64 0, .int .u64 0, .int .u64 0, .int .u64 0] 71))
  have O0 := B6.new (w.alloc (.cells #[.int .u64 0, .int .u64 0, .int .u64 0, .int .u64 0, .int .u64 0, .int .u64 0] 71)) (fun _ => 0) 71
  have W0 := bel2 w (.cells #[.int .u64 0, .int .u64 0, .int .u64 0, .int .u64 0, .int .u64 0, .int .u64 0] 71) (.cells #[.int .u64 0, .int .u64 0, .int .u64 0, .int .u64 0, .int .u64 0, .int .u64 0] 71)
  have OD : Hid (∀ k, dg (x * 2 ^ (32 * p)) k = if k = p + 1 then x / 4294967296 else if k = p then x % 4294967296 else 0) := fun k => one_digit x p k x0 x1
  simp only [World.size_alloc] at O0
  have hp0 : (0 : Int) ≤ (p : Int) := by omega
  have hp6 : (p : Int) < 6 := by omega
  have hp7 : (p : Int) + 1 < 6 := by omega
  have d1 := Int.tdiv_eq_ediv_of_nonneg (b := 4294967296) x0
  have d2 := Int.tmod_eq_emod_of_nonneg (b := 4294967296) x0
  have d3 := wrap_small (x / 4294967296) (by omega) (by omega)
  have d4 := wrap_small (x % 4294967296) (by omega) (by omega)
  go_enter Tryd.func36, Tryd.ntmps36
  go_upto_region 2 with fail
  generalize (w.alloc (.cells #[.int .u64 0, .int .u64 0, .int .u64 0, .int .u64 0, .int .u64 0, .int .u64 0] 71)).alloc (.cells #[.int .u64 0, .int .u64 0, .int .u64 0, .int .u64 0, .int .u64 0, .int .u64 0] 71) = w1 at *
  have o0 := O0.c p (by omega)
  have f0 := O0.f p (by omega)
  have o1 := (O0.set p (by omega) (x % 4294967296)).c (p + 1) (by omega)
  have f1 := (O0.set p (by omega) (x % 4294967296)).f (p + 1) (by omega)
  rw [if_neg (by omega)] at o1
  have N := (O0.set p (by omega) (x % 4294967296)).set (p + 1) (by omega) (x / 4294967296)
  have N1 := (R0.far (p := ⟨w.heap.size + 1, p, none⟩) (.int .u64 (x % 4294967296)) (by dsimp only; omega)).far (p := ⟨w.heap.size + 1, p + 1, none⟩) (.int .u64 (x / 4294967296)) (by dsimp only; omega)
  have NW := (W0.setCell (p := ⟨w.heap.size + 1, p, none⟩) (by dsimp only; omega) (.int .u64 (x % 4294967296))).setCell (p := ⟨w.heap.size + 1, p + 1, none⟩) (by dsimp only; omega) (.int .u64 (x / 4294967296))
  clear R0 O0 W0
  go_upto_region 3 with fail
  generalize w1.setCell ⟨w.heap.size + 1, p, none⟩ (.int .u64 (x % 4294967296)) = w2 at *
  clear o0 f0
  go_upto_region 4 with fail
  generalize w2.setCell ⟨w.heap.size + 1, p + 1, none⟩ (.int .u64 (x / 4294967296)) = w3 at *
  replace N := N.cong (y := dg (x * 2 ^ (32 * p))) fun k hk => (OD.out k).symm
  clear o1 f1 OD
  have c0 := N.c 0 (by omega)
  have c1 := N.c 1 (by omega)
  have c2 := N.c 2 (by omega)
  have c3 := N.c 3 (by omega)
  have c4 := N.c 4 (by omega)
  have c5 := N.c 5 (by omega)
  have r0 := N1.c 0 (by omega)
  have r1 := N1.c 1 (by omega)
  have r2 := N1.c 2 (by omega)
  have r3 := N1.c 3 (by omega)
  have r4 := N1.c 4 (by omega)
  have r5 := N1.c 5 (by omega)
  have g0 := N1.f 0 (by omega)
  have g1 := N1.f 1 (by omega)
  have g2 := N1.f 2 (by omega)
  have g3 := N1.f 3 (by omega)
  have g4 := N1.f 4 (by omega)
  have g5 := N1.f 5 (by omega)
  clear N N1
  go_wp2
  exact bodyPost_ret (v := .agg #[.int .u64 (dg (x * 2 ^ (32 * p)) 0), .int .u64 (dg (x * 2 ^ (32 * p)) 1), .int .u64 (dg (x * 2 ^ (32 * p)) 2), .int .u64 (dg (x * 2 ^ (32 * p)) 3), .int .u64 (dg (x * 2 ^ (32 * p)) 4), .int .u64 (dg (x * 2 ^ (32 * p)) 5)]) (by simp [results, Tryd.results36, go_sem, r0, r1, r2, r3, r4, r5]) rfl ⟨rfl, (((((NW.setCell (by dsimp only; omega) _).setCell (by dsimp only; omega) _).setCell (by dsimp only; omega) _).setCell (by dsimp only; omega) _).setCell (by dsimp only; omega) _).setCell (by dsimp only; omega) _⟩
end Go.Proofs.YtekdpeiemfppiaaDoor
