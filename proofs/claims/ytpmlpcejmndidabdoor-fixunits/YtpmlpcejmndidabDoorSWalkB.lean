/-
  Contracts of regattaref02's half, Less, One64.
-/
import Derived.Test.YtpmlpcejmndidabDoorSWalkA
set_option linter.unusedVariables false
set_option linter.unusedSimpArgs false
namespace Go.Proofs.YtpmlpcejmndidabDoor
open Go.RowKit

set_option maxHeartbeats 1000000 in
theorem shalf_any (m : Int) (m0 : 0 ≤ m) (m1 : m < 6277101735386680763835789423207666416102355444464034512896) (w : World) :
    Calls Tryd.prog 62 #[.agg #[.int .u64 (dg (m) 0), .int .u64 (dg (m) 1), .int .u64 (dg (m) 2), .int .u64 (dg (m) 3), .int .u64 (dg (m) 4), .int .u64 (dg (m) 5)]] w fun e w' => e = .returned (.tuple #[.agg #[.int .u64 (dg (m / 2) 0), .int .u64 (dg (m / 2) 1), .int .u64 (dg (m / 2) 2), .int .u64 (dg (m / 2) 3), .int .u64 (dg (m / 2) 4), .int .u64 (dg (m / 2) 5)], .int .u64 (m % 2)]) ∧ Below w.heap.size w w' := by
  have A0 := ((B6.new w (dg m) 71).later (bel1 _ (.cells #[.int .u64 0, .int .u64 0, .int .u64 0, .int .u64 0, .int .u64 0, .int .u64 0] 71))).later (bel1 _ (.cells #[.int .u64 0, .int .u64 0, .int .u64 0, .int .u64 0, .int .u64 0, .int .u64 0] 71))
  have R0 := (B6.new (w.alloc (.cells #[.int .u64 (dg (m) 0), .int .u64 (dg (m) 1), .int .u64 (dg (m) 2), .int .u64 (dg (m) 3), .int .u64 (dg (m) 4), .int .u64 (dg (m) 5)] 71)) (fun _ => 0) 71).later (bel1 _ (.cells #[.int .u64 0, .int .u64 0, .int .u64 0, .int .u64 0, .int .u64 0, .int .u64 0] 71))
  have O0 := B6.new ((w.alloc (.cells #[.int .u64 (dg (m) 0), .int .u64 (dg (m) 1), .int .u64 (dg (m) 2), .int .u64 (dg (m) 3), .int .u64 (dg (m) 4), .int .u64 (dg (m) 5)] 71)).alloc (.cells #[.int .u64 0, .int .u64 0, .int .u64 0, .int .u64 0, .int .u64 0, .int .u64 0] 71)) (fun _ => 0) 71
  have W0 := bel3 w (.cells #[.int .u64 (dg (m) 0), .int .u64 (dg (m) 1), .int .u64 (dg (m) 2), .int .u64 (dg (m) 3), .int .u64 (dg (m) 4), .int .u64 (dg (m) 5)] 71) (.cells #[.int .u64 0, .int .u64 0, .int .u64 0, .int .u64 0, .int .u64 0, .int .u64 0] 71) (.cells #[.int .u64 0, .int .u64 0, .int .u64 0, .int .u64 0, .int .u64 0, .int .u64 0] 71)
  have T0 : Hid (m / 2 ^ (32 * 6) = 0) := top_none m m0 m1
  simp only [World.size_alloc] at R0 O0
  go_enter Tryd.func62, Tryd.ntmps62
  go_wp2
  go_loopw [5, 6] (fun c i wr => B6 w.heap.size (dg m) wr ∧ B6 (w.heap.size + 1) (fun _ => 0) wr ∧ Below w.heap.size w wr ∧ ((∃ q : Nat, q < 6 ∧ i = .int .i64 (q : Int) ∧ c = .int .u64 (m / 2 ^ (32 * (q + 1)) % 2) ∧ B6 (w.heap.size + 1 + 1) (fun k => if q < k then dg (m / 2) k else 0) wr) ∨ (i = .int .i64 (-1) ∧ c = .int .u64 (m % 2) ∧ B6 (w.heap.size + 1 + 1) (dg (m / 2)) wr))) (fun _ i _ => (intOf i + 1).toNat)
  case atStart =>
    refine ⟨A0, R0, W0, .inl ⟨5, by omega, rfl, ?_, O0.cong fun k hk => ?_⟩⟩
    · rw [show 32 * (5 + 1) = 32 * 6 by omega, T0.out]; rfl
    · rw [if_neg (by omega)]
  case round =>
    clear A0 R0 O0 W0
    obtain ⟨hA, hR, hW, hrel⟩ := hrel
    rcases hrel with ⟨q, hq, rfl, rfl, hO⟩ | ⟨rfl, rfl, hO⟩
    · have x0 := hA.c q hq
      have o0 := hO.c q hq
      have f0 := hO.f q hq
      rw [if_neg (Nat.lt_irrefl q)] at o0
      obtain ⟨r1, r2⟩ := dg_rng m q
      have HS : Hid ((m / 2 ^ (32 * (q + 1)) % 2 * 4294967296 + dg m q) / 2 = dg (m / 2) q ∧ (m / 2 ^ (32 * (q + 1)) % 2 * 4294967296 + dg m q) % 2 = m / 2 ^ (32 * q) % 2) := half_digit m q
      have hj0 : (0 : Int) ≤ (q : Int) := by omega
      have hj6 : (q : Int) < 6 := by omega
      have c0 : 0 ≤ m / 2 ^ (32 * (q + 1)) % 2 := by omega
      have c1 : m / 2 ^ (32 * (q + 1)) % 2 ≤ 1 := by omega
      generalize m / 2 ^ (32 * (q + 1)) % 2 = c at *
      have k1 := wrap_small (c * 4294967296) (by omega) (by omega)
      have k2 := wrap_small (c * 4294967296 + dg m q) (by omega) (by omega)
      have S0 : 0 ≤ c * 4294967296 + dg m q := by omega
      have S1 : c * 4294967296 + dg m q ≤ 8589934591 := by omega
      have d1 := Int.tdiv_eq_ediv_of_nonneg (b := 2) S0
      have d2 := Int.tmod_eq_emod_of_nonneg (b := 2) S0
      have d3 := wrap_small ((c * 4294967296 + dg m q) / 2) (by omega) (by omega)
      have d4 := wrap_small ((c * 4294967296 + dg m q) % 2) (by omega) (by omega)
      have N := hO.set q hq ((c * 4294967296 + dg m q) / 2)
      have N1 := hA.far (p := ⟨w.heap.size + 1 + 1, q, none⟩) (.int .u64 ((c * 4294967296 + dg m q) / 2)) (by dsimp only; omega)
      have N3 := hR.far (p := ⟨w.heap.size + 1 + 1, q, none⟩) (.int .u64 ((c * 4294967296 + dg m q) / 2)) (by dsimp only; omega)
      have NW := hW.setCell (p := ⟨w.heap.size + 1 + 1, q, none⟩) (by dsimp only; omega) (.int .u64 ((c * 4294967296 + dg m q) / 2))
      clear hA hR hO hW S0 S1
      go_wp2
      go_roundw
      case rel =>
        refine ⟨N1, N3, NW, ?_⟩
        by_cases hq0 : q = 0
        · subst hq0
          refine .inr ⟨rfl, ?_, N.cong fun k hk => ?_⟩
          · rw [HS.out.2, Nat.mul_zero, Int.pow_zero, Int.ediv_one]
          · by_cases hk0 : k = 0
            · subst hk0; rw [if_pos rfl, HS.out.1]
            · rw [if_neg hk0, if_pos (by omega)]
        · refine .inl ⟨q - 1, by omega, by rw [show ((q - 1 : Nat) : Int) = (q : Int) - 1 by omega], ?_, N.cong fun k hk => ?_⟩
          · rw [HS.out.2, show q - 1 + 1 = q by omega]
          · by_cases hk0 : k = q
            · subst hk0; rw [if_pos rfl, if_pos (by omega), HS.out.1]
            · rw [if_neg hk0]
              by_cases hkq : q < k
              · rw [if_pos hkq, if_pos (by omega)]
              · rw [if_neg hkq, if_neg (by omega)]
      case measure => first | (simp [intOf]; done) | (simp [intOf]; omega)
    · have c0 := hO.c 0 (by omega)
      have c1 := hO.c 1 (by omega)
      have c2 := hO.c 2 (by omega)
      have c3 := hO.c 3 (by omega)
      have c4 := hO.c 4 (by omega)
      have c5 := hO.c 5 (by omega)
      have r0 := hR.c 0 (by omega)
      have r1 := hR.c 1 (by omega)
      have r2 := hR.c 2 (by omega)
      have r3 := hR.c 3 (by omega)
      have r4 := hR.c 4 (by omega)
      have r5 := hR.c 5 (by omega)
      have g0 := hR.f 0 (by omega)
      have g1 := hR.f 1 (by omega)
      have g2 := hR.f 2 (by omega)
      have g3 := hR.f 3 (by omega)
      have g4 := hR.f 4 (by omega)
      have g5 := hR.f 5 (by omega)
      clear hA hO
      go_wp2
      exact bodyPost_ret (v := .tuple #[.agg #[.int .u64 (dg (m / 2) 0), .int .u64 (dg (m / 2) 1), .int .u64 (dg (m / 2) 2), .int .u64 (dg (m / 2) 3), .int .u64 (dg (m / 2) 4), .int .u64 (dg (m / 2) 5)], .int .u64 (m % 2)]) (by simp [results, Tryd.results62, go_sem, r0, r1, r2, r3, r4, r5]) rfl ⟨rfl, (((((hW.setCell (by dsimp only; omega) _).setCell (by dsimp only; omega) _).setCell (by dsimp only; omega) _).setCell (by dsimp only; omega) _).setCell (by dsimp only; omega) _).setCell (by dsimp only; omega) _⟩

theorem dg_up (a : Int) (q : Nat) : a / 2 ^ (32 * q) = a / 2 ^ (32 * (q + 1)) * 4294967296 + dg a q := by
  have hp := pow_pos' (32 * q)
  rw [pow32, ← Int.ediv_ediv_of_nonneg (by omega)]
  unfold dg
  omega
theorem lt_of_up (a b : Int) (q : Nat) (h : a / 2 ^ q < b / 2 ^ q) : a < b := by
  have hp := pow_pos' q
  rcases Int.lt_or_le a b with h1 | h1
  · exact h1
  · have := Int.ediv_le_ediv (show (0 : Int) < 2 ^ q by omega) h1
    omega
theorem less_digit (a b : Int) (q : Nat) (h : a / 2 ^ (32 * (q + 1)) = b / 2 ^ (32 * (q + 1))) (hn : dg a q ≠ dg b q) : decide (dg a q < dg b q) = decide (a < b) := by
  have ea := dg_up a q
  have eb := dg_up b q
  rw [h] at ea
  by_cases hl : dg a q < dg b q
  · rw [decide_eq_true hl, decide_eq_true (lt_of_up a b (32 * q) (by omega))]
  · have := lt_of_up b a (32 * q) (by omega)
    rw [decide_eq_false hl, decide_eq_false (by omega)]
theorem same_digit (a b : Int) (q : Nat) (h : a / 2 ^ (32 * (q + 1)) = b / 2 ^ (32 * (q + 1))) (hn : dg a q = dg b q) : a / 2 ^ (32 * q) = b / 2 ^ (32 * q) := by
  rw [dg_up a q, dg_up b q, h, hn]

set_option maxHeartbeats 1000000 in
theorem sless_any (a b : Int) (a0 : 0 ≤ a) (a1 : a < 6277101735386680763835789423207666416102355444464034512896) (b0 : 0 ≤ b) (b1 : b < 6277101735386680763835789423207666416102355444464034512896) (w : World) :
    Calls Tryd.prog 65 #[.agg #[.int .u64 (dg (a) 0), .int .u64 (dg (a) 1), .int .u64 (dg (a) 2), .int .u64 (dg (a) 3), .int .u64 (dg (a) 4), .int .u64 (dg (a) 5)], .agg #[.int .u64 (dg (b) 0), .int .u64 (dg (b) 1), .int .u64 (dg (b) 2), .int .u64 (dg (b) 3), .int .u64 (dg (b) 4), .int .u64 (dg (b) 5)]] w fun e w' => e = .returned (.bool (decide (a < b))) ∧ Below w.heap.size w w' := by
  have A0 := (B6.new w (dg a) 71).later (bel1 _ (.cells #[.int .u64 (dg (b) 0), .int .u64 (dg (b) 1), .int .u64 (dg (b) 2), .int .u64 (dg (b) 3), .int .u64 (dg (b) 4), .int .u64 (dg (b) 5)] 71))
  have C0 := B6.new (w.alloc (.cells #[.int .u64 (dg (a) 0), .int .u64 (dg (a) 1), .int .u64 (dg (a) 2), .int .u64 (dg (a) 3), .int .u64 (dg (a) 4), .int .u64 (dg (a) 5)] 71)) (dg b) 71
  have W0 := bel2 w (.cells #[.int .u64 (dg (a) 0), .int .u64 (dg (a) 1), .int .u64 (dg (a) 2), .int .u64 (dg (a) 3), .int .u64 (dg (a) 4), .int .u64 (dg (a) 5)] 71) (.cells #[.int .u64 (dg (b) 0), .int .u64 (dg (b) 1), .int .u64 (dg (b) 2), .int .u64 (dg (b) 3), .int .u64 (dg (b) 4), .int .u64 (dg (b) 5)] 71)
  have T0 : Hid (a / 2 ^ (32 * 6) = b / 2 ^ (32 * 6)) := by show _ = _; rw [top_none a a0 a1, top_none b b0 b1]
  simp only [World.size_alloc] at C0
  go_enter Tryd.func65, Tryd.ntmps65
  go_wp2
  go_loopw [5] (fun i wr => B6 w.heap.size (dg a) wr ∧ B6 (w.heap.size + 1) (dg b) wr ∧ Below w.heap.size w wr ∧ ((∃ q : Nat, q < 6 ∧ i = .int .i64 (q : Int) ∧ Hid (a / 2 ^ (32 * (q + 1)) = b / 2 ^ (32 * (q + 1)))) ∨ (i = .int .i64 (-1) ∧ Hid (a = b)))) (fun i _ => (intOf i + 1).toNat)
  case atStart => exact ⟨A0, C0, W0, .inl ⟨5, by omega, rfl, T0⟩⟩
  case round =>
    clear A0 C0 W0 T0
    obtain ⟨hA, hC, hW, hrel⟩ := hrel
    rcases hrel with ⟨q, hq, rfl, HQ⟩ | ⟨rfl, HE⟩
    · have x0 := hA.c q hq
      have y0 := hC.c q hq
      have hj0 : (0 : Int) ≤ (q : Int) := by omega
      have hj6 : (q : Int) < 6 := by omega
      by_cases hn : dg a q = dg b q
      · have HN : Hid (a / 2 ^ (32 * q) = b / 2 ^ (32 * q)) := same_digit a b q HQ.out hn
        have hnb : (dg a q == dg b q) = true := beq_iff_eq.2 hn
        clear hn
        go_upto_region 4 with fail
        go_quiet (fail)
        have hb0 : Below wr.heap.size wr (wr.drewN nq) := below_drewN (Below.refl _ _) nq
        have qA := hA.later hb0
        have qC := hC.later hb0
        have qW := bchain hW hb0
        clear hb0 hA hC hW x0 y0
        generalize wr.drewN nq = wq at *
        go_wp2
        go_roundw
        case rel =>
          refine ⟨qA, qC, qW, ?_⟩
          by_cases hq0 : q = 0
          · subst hq0
            refine .inr ⟨rfl, ?_⟩
            show a = b
            have := HN.out
            rw [Nat.mul_zero, Int.pow_zero, Int.ediv_one, Int.ediv_one] at this
            exact this
          · refine .inl ⟨q - 1, by omega, by rw [show ((q - 1 : Nat) : Int) = (q : Int) - 1 by omega], ?_⟩
            show a / 2 ^ (32 * (q - 1 + 1)) = b / 2 ^ (32 * (q - 1 + 1))
            rw [show q - 1 + 1 = q by omega]
            exact HN.out
        case measure => first | (simp [intOf]; done) | (simp [intOf]; omega)
      · have HN : Hid (decide (dg a q < dg b q) = decide (a < b)) := less_digit a b q HQ.out hn
        have hnb : (dg a q == dg b q) = false := beq_eq_false_iff_ne.2 hn
        clear hn
        go_upto_region 4 with fail
        go_quiet (fail)
        have hb0 : Below wr.heap.size wr (wr.drewN nq) := below_drewN (Below.refl _ _) nq
        have qA := hA.later hb0
        have qC := hC.later hb0
        have qW := bchain hW hb0
        clear hb0 hA hC hW x0 y0
        generalize wr.drewN nq = wq at *
        have x0 := qA.c q hq
        have y0 := qC.c q hq
        go_upto_region 5 with fail
        go_quiet (fail)
        have hb1 : Below wq.heap.size wq (wq.drewN nq) := below_drewN (Below.refl _ _) nq
        have sW := bchain qW hb1
        clear hb1 qA qC qW x0 y0
        generalize wq.drewN nq = ws at *
        go_wp2
        go_ret
        exact ⟨by rw [← HN.out]; rfl, sW⟩
    · have HN : Hid (decide (a < b) = false) := decide_eq_false (by have := HE.out; omega)
      clear hA hC
      go_wp2
      go_ret
      exact ⟨by rw [HN.out]; rfl, hW⟩

theorem one_digit (x : Int) (p k : Nat) (x0 : 0 ≤ x) (x1 : x ≤ 18446744073709551615) : dg (x * 2 ^ (32 * p)) k = if k = p + 1 then x / 4294967296 else if k = p then x % 4294967296 else 0 := by
  have hp := pow_pos' (32 * p)
  unfold dg
  rcases (show k < p ∨ k = p ∨ k = p + 1 ∨ p + 2 ≤ k by omega) with h | rfl | rfl | h
  · rw [if_neg (by omega), if_neg (by omega)]
    have e : x * 2 ^ (32 * p) = x * 2 ^ (32 * (p - k - 1)) * 4294967296 * 2 ^ (32 * k) := by
      rw [show (4294967296 : Int) = 2 ^ 32 from rfl, Int.mul_assoc, Int.mul_assoc, ← Int.pow_add, ← Int.pow_add]
      congr 2; omega
    have hk := pow_pos' (32 * k)
    rw [e, Int.mul_ediv_cancel _ (by omega), Int.mul_emod_left]
  · rw [if_neg (by omega), if_pos rfl, Int.mul_ediv_cancel _ (by omega)]
  · rw [if_pos rfl, pow32, ← Int.ediv_ediv_of_nonneg (by omega), Int.mul_ediv_cancel _ (by omega)]
    omega
  · rw [if_neg (by omega), if_neg (by omega)]
    have e : (2 : Int) ^ (32 * k) = 2 ^ (32 * p) * (18446744073709551616 * 2 ^ (32 * (k - p - 2))) := by
      rw [show (18446744073709551616 : Int) = 2 ^ 64 from rfl, ← Int.pow_add, ← Int.pow_add]
      congr 1; omega
    have hk := pow_pos' (32 * (k - p - 2))
    have hx : (18446744073709551616 : Int) * 1 ≤ 18446744073709551616 * 2 ^ (32 * (k - p - 2)) := Int.mul_le_mul_of_nonneg_left (by omega) (by omega)
    rw [e, ← Int.ediv_ediv_of_nonneg (by omega), Int.mul_ediv_cancel _ (by omega), Int.ediv_eq_zero_of_lt x0 (by omega)]
    rfl

set_option maxHeartbeats 1000000 in
theorem sone_any (x : Int) (p : Nat) (hp : p ≤ 4) (x0 : 0 ≤ x) (x1 : x ≤ 18446744073709551615) (w : World) :
    Calls Tryd.prog 59 #[.int .u64 x, .int .i64 (p : Int)] w fun e w' => e = .returned (.agg #[.int .u64 (dg (x * 2 ^ (32 * p)) 0), .int .u64 (dg (x * 2 ^ (32 * p)) 1), .int .u64 (dg (x * 2 ^ (32 * p)) 2), .int .u64 (dg (x * 2 ^ (32 * p)) 3), .int .u64 (dg (x * 2 ^ (32 * p)) 4), .int .u64 (dg (x * 2 ^ (32 * p)) 5)]) ∧ Below w.heap.size w w' := by
  have R0 := (B6.new w (fun _ => 0) 71).later (bel1 _ (.cells #[.int .u64 0, .int .u64 0, .int .u64 0, .int .u64 0, .int .u64 0, .int .u64 0] 71))
  have O0 := B6.new (w.alloc (.cells #[.int .u64 0, .int .u64 0, .int .u64 0, .int .u64 0, .int .u64 0, .int .u64 0] 71)) (fun _ => 0) 71
  have W0 := bel2 w (.cells #[.int .u64 0, .int .u64 0, .int .u64 0, .int .u64 0, .int .u64 0, .int .u64 0] 71) (.cells #[.int .u64 0, .int .u64 0, .int .u64 0, .int .u64 0, .int .u64 0, .int .u64 0] 71)
  have OD : Hid (∀ k, dg (x * 2 ^ (32 * p)) k = if k = p + 1 then x / 4294967296 else if k = p then x % 4294967296 else 0) := fun k => one_digit x p k x0 x1
  simp only [World.size_alloc] at O0
  have hp0 : (0 : Int) ≤ (p : Int) := by omega
  have hp6 : (p : Int) < 6 := by omega
  have hp7 : (p : Int) + 1 < 6 := by omega
  have d1 := Int.tdiv_eq_ediv_of_nonneg (b := 4294967296) x0
  have d2 := Int.tmod_eq_emod_of_nonneg (b := 4294967296) x0
  have d3 := wrap_small (x / 4294967296) (by omega) (by omega)
  have d4 := wrap_small (x % 4294967296) (by omega) (by omega)
  go_enter Tryd.func59, Tryd.ntmps59
  go_upto_region 2 with fail
  generalize (w.alloc (.cells #[.int .u64 0, .int .u64 0, .int .u64 0, .int .u64 0, .int .u64 0, .int .u64 0] 71)).alloc (.cells #[.int .u64 0, .int .u64 0, .int .u64 0, .int .u64 0, .int .u64 0, .int .u64 0] 71) = w1 at *
  have o0 := O0.c p (by omega)
  have f0 := O0.f p (by omega)
  have o1 := (O0.set p (by omega) (x % 4294967296)).c (p + 1) (by omega)
  have f1 := (O0.set p (by omega) (x % 4294967296)).f (p + 1) (by omega)
  rw [if_neg (by omega)] at o1
  have N := (O0.set p (by omega) (x % 4294967296)).set (p + 1) (by omega) (x / 4294967296)
  have N1 := (R0.far (p := ⟨w.heap.size + 1, p, none⟩) (.int .u64 (x % 4294967296)) (by dsimp only; omega)).far (p := ⟨w.heap.size + 1, p + 1, none⟩) (.int .u64 (x / 4294967296)) (by dsimp only; omega)
  have NW := (W0.setCell (p := ⟨w.heap.size + 1, p, none⟩) (by dsimp only; omega) (.int .u64 (x % 4294967296))).setCell (p := ⟨w.heap.size + 1, p + 1, none⟩) (by dsimp only; omega) (.int .u64 (x / 4294967296))
  clear R0 O0 W0
  go_upto_region 3 with fail
  generalize w1.setCell ⟨w.heap.size + 1, p, none⟩ (.int .u64 (x % 4294967296)) = w2 at *
  clear o0 f0
  go_upto_region 4 with fail
  generalize w2.setCell ⟨w.heap.size + 1, p + 1, none⟩ (.int .u64 (x / 4294967296)) = w3 at *
  replace N := N.cong (y := dg (x * 2 ^ (32 * p))) fun k hk => (OD.out k).symm
  clear o1 f1 OD
  have c0 := N.c 0 (by omega)
  have c1 := N.c 1 (by omega)
  have c2 := N.c 2 (by omega)
  have c3 := N.c 3 (by omega)
  have c4 := N.c 4 (by omega)
  have c5 := N.c 5 (by omega)
  have r0 := N1.c 0 (by omega)
  have r1 := N1.c 1 (by omega)
  have r2 := N1.c 2 (by omega)
  have r3 := N1.c 3 (by omega)
  have r4 := N1.c 4 (by omega)
  have r5 := N1.c 5 (by omega)
  have g0 := N1.f 0 (by omega)
  have g1 := N1.f 1 (by omega)
  have g2 := N1.f 2 (by omega)
  have g3 := N1.f 3 (by omega)
  have g4 := N1.f 4 (by omega)
  have g5 := N1.f 5 (by omega)
  clear N N1
  go_wp2
  exact bodyPost_ret (v := .agg #[.int .u64 (dg (x * 2 ^ (32 * p)) 0), .int .u64 (dg (x * 2 ^ (32 * p)) 1), .int .u64 (dg (x * 2 ^ (32 * p)) 2), .int .u64 (dg (x * 2 ^ (32 * p)) 3), .int .u64 (dg (x * 2 ^ (32 * p)) 4), .int .u64 (dg (x * 2 ^ (32 * p)) 5)]) (by simp [results, Tryd.results59, go_sem, r0, r1, r2, r3, r4, r5]) rfl ⟨rfl, (((((NW.setCell (by dsimp only; omega) _).setCell (by dsimp only; omega) _).setCell (by dsimp only; omega) _).setCell (by dsimp only; omega) _).setCell (by dsimp only; omega) _).setCell (by dsimp only; omega) _⟩
end Go.Proofs.YtpmlpcejmndidabDoor
