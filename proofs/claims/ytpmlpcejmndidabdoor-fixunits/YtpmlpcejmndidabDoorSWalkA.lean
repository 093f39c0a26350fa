/-
  Contracts of regattaref02's Size, Plus, Minus, One64.
-/
import Derived.Test.YtpmlpcejmndidabDoorSMath
import Derived.Test.YtpmlpcejmndidabDoorTools
set_option linter.unusedVariables false
set_option linter.unusedSimpArgs false
namespace Go.Proofs.YtpmlpcejmndidabDoor
open Go.RowKit

/-- A block of six cells. -/
structure B6 (b : Nat) (x : Nat → Int) (w : World) : Prop where
  c : ∀ k, k < 6 → w.cell? ⟨b, k, none⟩ = some (.int .u64 (x k))
  f : ∀ k, k < 6 → w.frozen? ⟨b, k, none⟩ = false
theorem six {P : Nat → Prop} (h0 : P 0) (h1 : P 1) (h2 : P 2) (h3 : P 3) (h4 : P 4) (h5 : P 5) : ∀ k, k < 6 → P k := fun k hk => by
  match k, hk with
  | 0, _ => exact h0
  | 1, _ => exact h1
  | 2, _ => exact h2
  | 3, _ => exact h3
  | 4, _ => exact h4
  | 5, _ => exact h5
theorem B6.new (w : World) (x : Nat → Int) (t : TypeId) : B6 w.heap.size x (w.alloc (.cells #[.int .u64 (x 0), .int .u64 (x 1), .int .u64 (x 2), .int .u64 (x 3), .int .u64 (x 4), .int .u64 (x 5)] t)) :=
  ⟨six (by simp [go_sem]) (by simp [go_sem]) (by simp [go_sem]) (by simp [go_sem]) (by simp [go_sem]) (by simp [go_sem]), six (by simp [go_sem]) (by simp [go_sem]) (by simp [go_sem]) (by simp [go_sem]) (by simp [go_sem]) (by simp [go_sem])⟩
theorem B6.later {b : Nat} {x : Nat → Int} {w w' : World} (h : B6 b x w) (hb : Below w.heap.size w w') : B6 b x w' :=
  ⟨fun k hk => cell_later hb (h.c k hk), fun k hk => frozen_later hb (h.c k hk) (h.f k hk)⟩
theorem B6.lt {b : Nat} {x : Nat → Int} {w : World} (h : B6 b x w) : b < w.heap.size := World.block_lt_of_cell? _ _ (h.c 0 (by omega))
theorem B6.far {b : Nat} {x : Nat → Int} {w : World} {p : Addr} (h : B6 b x w) (u : Value) (hp : p.block ≠ b) : B6 b x (w.setCell p u) :=
  ⟨fun k hk => cell_set hp (h.c k hk), fun k hk => by rw [World.frozen?_setCell]; exact h.f k hk⟩
theorem B6.set {b : Nat} {x : Nat → Int} {w : World} (h : B6 b x w) (j : Nat) (hj : j < 6) (u : Int) : B6 b (fun k => if k = j then u else x k) (w.setCell ⟨b, j, none⟩ (.int .u64 u)) := by
  refine ⟨fun k hk => ?_, fun k hk => by rw [World.frozen?_setCell]; exact h.f k hk⟩
  by_cases hkj : k = j
  · subst hkj
    rw [if_pos rfl]
    have := h.c k hk
    simp [go_sem, this]
  · rw [if_neg hkj]
    have := h.c k hk
    simp [go_sem, this, hkj]
theorem B6.cong {b : Nat} {x y : Nat → Int} {w : World} (h : B6 b x w) (e : ∀ k, k < 6 → x k = y k) : B6 b y w :=
  ⟨fun k hk => by rw [h.c k hk, e k hk], h.f⟩

theorem wrap_small (x : Int) (h0 : 0 ≤ x) (h1 : x ≤ 18446744073709551615) : IntKind.u64.wrap x = x := by rw [IntKind.wrap_u64]; omega

set_option maxHeartbeats 400000 in
theorem ssize_any (a : Int) (a0 : -9223372036854775808 ≤ a) (a1 : a ≤ 9223372036854775807) (w : World) :
    Calls Tryd.prog 60 #[.int .i64 a] w fun e w' => e = .returned (.int .u64 (ab a)) ∧ w' = w := by
  by_cases hn : a < 0
  · have e : ab a = -a := by unfold ab; rw [if_pos hn]
    rw [e]
    clear e
    have e2 : IntKind.u64.wrap (-(IntKind.u64.wrap a)) = -a := by rw [IntKind.wrap_u64, IntKind.wrap_u64]; omega
    go_enter Tryd.func60, Tryd.ntmps60
    go_wp2
    go_ret
    exact ⟨rfl, rfl⟩
  · have e : ab a = a := by unfold ab; rw [if_neg hn]
    rw [e]
    clear e
    go_enter Tryd.func60, Tryd.ntmps60
    go_wp2
    go_ret
    exact ⟨rfl, rfl⟩

set_option maxHeartbeats 1000000 in
theorem splus_any (a b : Int) (w : World) :
    Calls Tryd.prog 58 #[.agg #[.int .u64 (dg (a) 0), .int .u64 (dg (a) 1), .int .u64 (dg (a) 2), .int .u64 (dg (a) 3), .int .u64 (dg (a) 4), .int .u64 (dg (a) 5)], .agg #[.int .u64 (dg (b) 0), .int .u64 (dg (b) 1), .int .u64 (dg (b) 2), .int .u64 (dg (b) 3), .int .u64 (dg (b) 4), .int .u64 (dg (b) 5)]] w fun e w' => e = .returned (.agg #[.int .u64 (dg (a + b) 0), .int .u64 (dg (a + b) 1), .int .u64 (dg (a + b) 2), .int .u64 (dg (a + b) 3), .int .u64 (dg (a + b) 4), .int .u64 (dg (a + b) 5)]) ∧ Below w.heap.size w w' := by
  have A0 := (((B6.new w (dg a) 71).later (bel1 _ (.cells #[.int .u64 (dg (b) 0), .int .u64 (dg (b) 1), .int .u64 (dg (b) 2), .int .u64 (dg (b) 3), .int .u64 (dg (b) 4), .int .u64 (dg (b) 5)] 71))).later (bel1 _ (.cells #[.int .u64 0, .int .u64 0, .int .u64 0, .int .u64 0, .int .u64 0, .int .u64 0] 71))).later (bel1 _ (.cells #[.int .u64 0, .int .u64 0, .int .u64 0, .int .u64 0, .int .u64 0, .int .u64 0] 71))
  have C0 := ((B6.new (w.alloc (.cells #[.int .u64 (dg (a) 0), .int .u64 (dg (a) 1), .int .u64 (dg (a) 2), .int .u64 (dg (a) 3), .int .u64 (dg (a) 4), .int .u64 (dg (a) 5)] 71)) (dg b) 71).later (bel1 _ (.cells #[.int .u64 0, .int .u64 0, .int .u64 0, .int .u64 0, .int .u64 0, .int .u64 0] 71))).later (bel1 _ (.cells #[.int .u64 0, .int .u64 0, .int .u64 0, .int .u64 0, .int .u64 0, .int .u64 0] 71))
  have R0 := (B6.new ((w.alloc (.cells #[.int .u64 (dg (a) 0), .int .u64 (dg (a) 1), .int .u64 (dg (a) 2), .int .u64 (dg (a) 3), .int .u64 (dg (a) 4), .int .u64 (dg (a) 5)] 71)).alloc (.cells #[.int .u64 (dg (b) 0), .int .u64 (dg (b) 1), .int .u64 (dg (b) 2), .int .u64 (dg (b) 3), .int .u64 (dg (b) 4), .int .u64 (dg (b) 5)] 71)) (fun _ => 0) 71).later (bel1 _ (.cells #[.int .u64 0, .int .u64 0, .int .u64 0, .int .u64 0, .int .u64 0, .int .u64 0] 71))
  have O0 := B6.new (((w.alloc (.cells #[.int .u64 (dg (a) 0), .int .u64 (dg (a) 1), .int .u64 (dg (a) 2), .int .u64 (dg (a) 3), .int .u64 (dg (a) 4), .int .u64 (dg (a) 5)] 71)).alloc (.cells #[.int .u64 (dg (b) 0), .int .u64 (dg (b) 1), .int .u64 (dg (b) 2), .int .u64 (dg (b) 3), .int .u64 (dg (b) 4), .int .u64 (dg (b) 5)] 71)).alloc (.cells #[.int .u64 0, .int .u64 0, .int .u64 0, .int .u64 0, .int .u64 0, .int .u64 0] 71)) (fun _ => 0) 71
  have W0 := (bel3 w (.cells #[.int .u64 (dg (a) 0), .int .u64 (dg (a) 1), .int .u64 (dg (a) 2), .int .u64 (dg (a) 3), .int .u64 (dg (a) 4), .int .u64 (dg (a) 5)] 71) (.cells #[.int .u64 (dg (b) 0), .int .u64 (dg (b) 1), .int .u64 (dg (b) 2), .int .u64 (dg (b) 3), .int .u64 (dg (b) 4), .int .u64 (dg (b) 5)] 71) (.cells #[.int .u64 0, .int .u64 0, .int .u64 0, .int .u64 0, .int .u64 0, .int .u64 0] 71)).alloc (by simp; omega) (.cells #[.int .u64 0, .int .u64 0, .int .u64 0, .int .u64 0, .int .u64 0, .int .u64 0] 71)
  simp only [World.size_alloc] at C0 R0 O0
  go_enter Tryd.func58, Tryd.ntmps58
  go_wp2
  go_loopw [6, 7] (fun c i wr => ∃ j : Nat, j ≤ 6 ∧ i = .int .i64 (j : Int) ∧ c = .int .u64 (ca a b j) ∧ B6 w.heap.size (dg a) wr ∧ B6 (w.heap.size + 1) (dg b) wr ∧ B6 (w.heap.size + 1 + 1) (fun _ => 0) wr ∧ B6 (w.heap.size + 1 + 1 + 1) (fun k => if k < j then dg (a + b) k else 0) wr ∧ Below w.heap.size w wr) (fun _ i _ => 6 - (intOf i).toNat)
  case atStart => exact ⟨0, by omega, rfl, by rw [ca_zero], A0, C0, R0, O0, W0⟩
  case round =>
    clear A0 C0 R0 O0 W0
    obtain ⟨j, hj, rfl, rfl, hA, hC, hR, hO, hW⟩ := hrel
    by_cases hlt : (j : Int) < 6
    · have x0 := hA.c j (by omega)
      have y0 := hC.c j (by omega)
      have o0 := hO.c j (by omega)
      have f0 := hO.f j (by omega)
      obtain ⟨r1, r2⟩ := dg_rng a j
      obtain ⟨r3, r4⟩ := dg_rng b j
      obtain ⟨r5, r6⟩ := ca_rng a b j
      have HS : Hid ((dg a j + dg b j + ca a b j) % 4294967296 = dg (a + b) j ∧ (dg a j + dg b j + ca a b j) / 4294967296 = ca a b (j + 1)) := sum_digit a b j
      have hj0 : (0 : Int) ≤ (j : Int) := by omega
      have k1 : IntKind.u64.wrap (dg a j + dg b j) = dg a j + dg b j := by rw [IntKind.wrap_u64]; omega
      have k2 : IntKind.u64.wrap (dg a j + dg b j + ca a b j) = dg a j + dg b j + ca a b j := by rw [IntKind.wrap_u64]; omega
      go_upto_region 6 with fail
      go_quiet (fail)
      have hb0 : Below wr.heap.size wr (wr.drewN nq) := below_drewN (Below.refl _ _) nq
      have qA := hA.later hb0
      have qC := hC.later hb0
      have qR := hR.later hb0
      have qO := hO.later hb0
      have qW := bchain hW hb0
      clear hb0 hA hC hR hO hW x0 y0 o0 f0 k1 k2
      generalize wr.drewN nq = wq at *
      have o0 := qO.c j (by omega)
      have f0 := qO.f j (by omega)
      rw [if_neg (Nat.lt_irrefl j)] at o0
      have S0 : 0 ≤ dg a j + dg b j + ca a b j := by omega
      have S1 : dg a j + dg b j + ca a b j ≤ 18446744073709551615 := by omega
      generalize dg a j + dg b j + ca a b j = s at *
      have N := qO.set j (by omega) (s % 4294967296)
      have N1 := qA.far (p := ⟨w.heap.size + 1 + 1 + 1, j, none⟩) (.int .u64 (s % 4294967296)) (by dsimp only; omega)
      have N2 := qC.far (p := ⟨w.heap.size + 1 + 1 + 1, j, none⟩) (.int .u64 (s % 4294967296)) (by dsimp only; omega)
      have N3 := qR.far (p := ⟨w.heap.size + 1 + 1 + 1, j, none⟩) (.int .u64 (s % 4294967296)) (by dsimp only; omega)
      have NW := qW.setCell (p := ⟨w.heap.size + 1 + 1 + 1, j, none⟩) (by dsimp only; omega) (.int .u64 (s % 4294967296))
      have d1 := Int.tdiv_eq_ediv_of_nonneg (b := 4294967296) S0
      have d2 := Int.tmod_eq_emod_of_nonneg (b := 4294967296) S0
      have d3 := wrap_small (s / 4294967296) (by omega) (by omega)
      have d4 := wrap_small (s % 4294967296) (by omega) (by omega)
      clear qA qC qR qO qW
      go_wp2
      go_roundw
      case rel =>
        refine ⟨j + 1, by omega, by rw [show ((j + 1 : Nat) : Int) = (j : Int) + 1 by omega], by rw [HS.out.2], N1, N2, N3, N.cong fun k hk => ?_, NW⟩
        by_cases hkj : k = j
        · subst hkj
          rw [if_pos rfl, if_pos (by omega), HS.out.1]
        · rw [if_neg hkj]
          by_cases hkl : k < j
          · rw [if_pos hkl, if_pos (by omega)]
          · rw [if_neg hkl, if_neg (by omega)]
      case measure => simp [intOf]; omega
    · obtain rfl : j = 6 := by omega
      have c0 := hO.c 0 (by omega)
      have c1 := hO.c 1 (by omega)
      have c2 := hO.c 2 (by omega)
      have c3 := hO.c 3 (by omega)
      have c4 := hO.c 4 (by omega)
      have c5 := hO.c 5 (by omega)
      simp only [show (0 : Nat) < 6 by omega, show (1 : Nat) < 6 by omega, show (2 : Nat) < 6 by omega, show (3 : Nat) < 6 by omega, show (4 : Nat) < 6 by omega, show (5 : Nat) < 6 by omega, if_true] at c0 c1 c2 c3 c4 c5
      have r0 := hR.c 0 (by omega)
      have r1 := hR.c 1 (by omega)
      have r2 := hR.c 2 (by omega)
      have r3 := hR.c 3 (by omega)
      have r4 := hR.c 4 (by omega)
      have r5 := hR.c 5 (by omega)
      have g0 := hR.f 0 (by omega)
      have g1 := hR.f 1 (by omega)
      have g2 := hR.f 2 (by omega)
      have g3 := hR.f 3 (by omega)
      have g4 := hR.f 4 (by omega)
      have g5 := hR.f 5 (by omega)
      clear hA hC hO
      go_wp2
      exact bodyPost_ret (v := .agg #[.int .u64 (dg (a + b) 0), .int .u64 (dg (a + b) 1), .int .u64 (dg (a + b) 2), .int .u64 (dg (a + b) 3), .int .u64 (dg (a + b) 4), .int .u64 (dg (a + b) 5)]) (by simp [results, Tryd.results58, go_sem, r0, r1, r2, r3, r4, r5]) rfl ⟨rfl, (((((hW.setCell (by dsimp only; omega) _).setCell (by dsimp only; omega) _).setCell (by dsimp only; omega) _).setCell (by dsimp only; omega) _).setCell (by dsimp only; omega) _).setCell (by dsimp only; omega) _⟩
set_option maxHeartbeats 1000000 in
theorem sminus_any (a b : Int) (w : World) :
    Calls Tryd.prog 75 #[.agg #[.int .u64 (dg (a) 0), .int .u64 (dg (a) 1), .int .u64 (dg (a) 2), .int .u64 (dg (a) 3), .int .u64 (dg (a) 4), .int .u64 (dg (a) 5)], .agg #[.int .u64 (dg (b) 0), .int .u64 (dg (b) 1), .int .u64 (dg (b) 2), .int .u64 (dg (b) 3), .int .u64 (dg (b) 4), .int .u64 (dg (b) 5)]] w fun e w' => e = .returned (.agg #[.int .u64 (dg (a - b) 0), .int .u64 (dg (a - b) 1), .int .u64 (dg (a - b) 2), .int .u64 (dg (a - b) 3), .int .u64 (dg (a - b) 4), .int .u64 (dg (a - b) 5)]) ∧ Below w.heap.size w w' := by
  have A0 := (((B6.new w (dg a) 71).later (bel1 _ (.cells #[.int .u64 (dg (b) 0), .int .u64 (dg (b) 1), .int .u64 (dg (b) 2), .int .u64 (dg (b) 3), .int .u64 (dg (b) 4), .int .u64 (dg (b) 5)] 71))).later (bel1 _ (.cells #[.int .u64 0, .int .u64 0, .int .u64 0, .int .u64 0, .int .u64 0, .int .u64 0] 71))).later (bel1 _ (.cells #[.int .u64 0, .int .u64 0, .int .u64 0, .int .u64 0, .int .u64 0, .int .u64 0] 71))
  have C0 := ((B6.new (w.alloc (.cells #[.int .u64 (dg (a) 0), .int .u64 (dg (a) 1), .int .u64 (dg (a) 2), .int .u64 (dg (a) 3), .int .u64 (dg (a) 4), .int .u64 (dg (a) 5)] 71)) (dg b) 71).later (bel1 _ (.cells #[.int .u64 0, .int .u64 0, .int .u64 0, .int .u64 0, .int .u64 0, .int .u64 0] 71))).later (bel1 _ (.cells #[.int .u64 0, .int .u64 0, .int .u64 0, .int .u64 0, .int .u64 0, .int .u64 0] 71))
  have R0 := (B6.new ((w.alloc (.cells #[.int .u64 (dg (a) 0), .int .u64 (dg (a) 1), .int .u64 (dg (a) 2), .int .u64 (dg (a) 3), .int .u64 (dg (a) 4), .int .u64 (dg (a) 5)] 71)).alloc (.cells #[.int .u64 (dg (b) 0), .int .u64 (dg (b) 1), .int .u64 (dg (b) 2), .int .u64 (dg (b) 3), .int .u64 (dg (b) 4), .int .u64 (dg (b) 5)] 71)) (fun _ => 0) 71).later (bel1 _ (.cells #[.int .u64 0, .int .u64 0, .int .u64 0, .int .u64 0, .int .u64 0, .int .u64 0] 71))
  have O0 := B6.new (((w.alloc (.cells #[.int .u64 (dg (a) 0), .int .u64 (dg (a) 1), .int .u64 (dg (a) 2), .int .u64 (dg (a) 3), .int .u64 (dg (a) 4), .int .u64 (dg (a) 5)] 71)).alloc (.cells #[.int .u64 (dg (b) 0), .int .u64 (dg (b) 1), .int .u64 (dg (b) 2), .int .u64 (dg (b) 3), .int .u64 (dg (b) 4), .int .u64 (dg (b) 5)] 71)).alloc (.cells #[.int .u64 0, .int .u64 0, .int .u64 0, .int .u64 0, .int .u64 0, .int .u64 0] 71)) (fun _ => 0) 71
  have W0 := (bel3 w (.cells #[.int .u64 (dg (a) 0), .int .u64 (dg (a) 1), .int .u64 (dg (a) 2), .int .u64 (dg (a) 3), .int .u64 (dg (a) 4), .int .u64 (dg (a) 5)] 71) (.cells #[.int .u64 (dg (b) 0), .int .u64 (dg (b) 1), .int .u64 (dg (b) 2), .int .u64 (dg (b) 3), .int .u64 (dg (b) 4), .int .u64 (dg (b) 5)] 71) (.cells #[.int .u64 0, .int .u64 0, .int .u64 0, .int .u64 0, .int .u64 0, .int .u64 0] 71)).alloc (by simp; omega) (.cells #[.int .u64 0, .int .u64 0, .int .u64 0, .int .u64 0, .int .u64 0, .int .u64 0] 71)
  simp only [World.size_alloc] at C0 R0 O0
  go_enter Tryd.func75, Tryd.ntmps75
  go_wp2
  go_loopw [6, 7] (fun c i wr => ∃ j : Nat, j ≤ 6 ∧ i = .int .i64 (j : Int) ∧ c = .int .u64 (bo a b j) ∧ B6 w.heap.size (dg a) wr ∧ B6 (w.heap.size + 1) (dg b) wr ∧ B6 (w.heap.size + 1 + 1) (fun _ => 0) wr ∧ B6 (w.heap.size + 1 + 1 + 1) (fun k => if k < j then dg (a - b) k else 0) wr ∧ Below w.heap.size w wr) (fun _ i _ => 6 - (intOf i).toNat)
  case atStart => exact ⟨0, by omega, rfl, by rw [bo_zero], A0, C0, R0, O0, W0⟩
  case round =>
    clear A0 C0 R0 O0 W0
    obtain ⟨j, hj, rfl, rfl, hA, hC, hR, hO, hW⟩ := hrel
    by_cases hlt : (j : Int) < 6
    · have x0 := hA.c j (by omega)
      have y0 := hC.c j (by omega)
      have o0 := hO.c j (by omega)
      have f0 := hO.f j (by omega)
      obtain ⟨r1, r2⟩ := dg_rng a j
      obtain ⟨r3, r4⟩ := dg_rng b j
      obtain ⟨r5, r6⟩ := bo_rng a b j
      have HS : Hid ((dg a j + 4294967296 - dg b j - bo a b j) % 4294967296 = dg (a - b) j ∧ 1 - (dg a j + 4294967296 - dg b j - bo a b j) / 4294967296 = bo a b (j + 1)) := dif_digit a b j
      have hj0 : (0 : Int) ≤ (j : Int) := by omega
      have k0 : IntKind.u64.wrap (dg a j + 4294967296) = dg a j + 4294967296 := by rw [IntKind.wrap_u64]; omega
      have k1 : IntKind.u64.wrap (dg a j + 4294967296 - dg b j) = dg a j + 4294967296 - dg b j := by rw [IntKind.wrap_u64]; omega
      have k2 : IntKind.u64.wrap (dg a j + 4294967296 - dg b j - bo a b j) = dg a j + 4294967296 - dg b j - bo a b j := by rw [IntKind.wrap_u64]; omega
      go_upto_region 6 with fail
      go_quiet (fail)
      have hb0 : Below wr.heap.size wr (wr.drewN nq) := below_drewN (Below.refl _ _) nq
      have qA := hA.later hb0
      have qC := hC.later hb0
      have qR := hR.later hb0
      have qO := hO.later hb0
      have qW := bchain hW hb0
      clear hb0 hA hC hR hO hW x0 y0 o0 f0 k0 k1 k2
      generalize wr.drewN nq = wq at *
      have o0 := qO.c j (by omega)
      have f0 := qO.f j (by omega)
      rw [if_neg (Nat.lt_irrefl j)] at o0
      have S0 : 0 ≤ dg a j + 4294967296 - dg b j - bo a b j := by omega
      have S1 : dg a j + 4294967296 - dg b j - bo a b j ≤ 8589934591 := by omega
      generalize dg a j + 4294967296 - dg b j - bo a b j = s at *
      have N := qO.set j (by omega) (s % 4294967296)
      have N1 := qA.far (p := ⟨w.heap.size + 1 + 1 + 1, j, none⟩) (.int .u64 (s % 4294967296)) (by dsimp only; omega)
      have N2 := qC.far (p := ⟨w.heap.size + 1 + 1 + 1, j, none⟩) (.int .u64 (s % 4294967296)) (by dsimp only; omega)
      have N3 := qR.far (p := ⟨w.heap.size + 1 + 1 + 1, j, none⟩) (.int .u64 (s % 4294967296)) (by dsimp only; omega)
      have NW := qW.setCell (p := ⟨w.heap.size + 1 + 1 + 1, j, none⟩) (by dsimp only; omega) (.int .u64 (s % 4294967296))
      have d1 := Int.tdiv_eq_ediv_of_nonneg (b := 4294967296) S0
      have d2 := Int.tmod_eq_emod_of_nonneg (b := 4294967296) S0
      have d3 := wrap_small (s / 4294967296) (by omega) (by omega)
      have d4 := wrap_small (s % 4294967296) (by omega) (by omega)
      have d5 := wrap_small (1 - s / 4294967296) (by omega) (by omega)
      clear qA qC qR qO qW
      go_wp2
      go_roundw
      case rel =>
        refine ⟨j + 1, by omega, by rw [show ((j + 1 : Nat) : Int) = (j : Int) + 1 by omega], by rw [HS.out.2], N1, N2, N3, N.cong fun k hk => ?_, NW⟩
        by_cases hkj : k = j
        · subst hkj
          rw [if_pos rfl, if_pos (by omega), HS.out.1]
        · rw [if_neg hkj]
          by_cases hkl : k < j
          · rw [if_pos hkl, if_pos (by omega)]
          · rw [if_neg hkl, if_neg (by omega)]
      case measure => simp [intOf]; omega
    · obtain rfl : j = 6 := by omega
      have c0 := hO.c 0 (by omega)
      have c1 := hO.c 1 (by omega)
      have c2 := hO.c 2 (by omega)
      have c3 := hO.c 3 (by omega)
      have c4 := hO.c 4 (by omega)
      have c5 := hO.c 5 (by omega)
      simp only [show (0 : Nat) < 6 by omega, show (1 : Nat) < 6 by omega, show (2 : Nat) < 6 by omega, show (3 : Nat) < 6 by omega, show (4 : Nat) < 6 by omega, show (5 : Nat) < 6 by omega, if_true] at c0 c1 c2 c3 c4 c5
      have r0 := hR.c 0 (by omega)
      have r1 := hR.c 1 (by omega)
      have r2 := hR.c 2 (by omega)
      have r3 := hR.c 3 (by omega)
      have r4 := hR.c 4 (by omega)
      have r5 := hR.c 5 (by omega)
      have g0 := hR.f 0 (by omega)
      have g1 := hR.f 1 (by omega)
      have g2 := hR.f 2 (by omega)
      have g3 := hR.f 3 (by omega)
      have g4 := hR.f 4 (by omega)
      have g5 := hR.f 5 (by omega)
      clear hA hC hO
      go_wp2
      exact bodyPost_ret (v := .agg #[.int .u64 (dg (a - b) 0), .int .u64 (dg (a - b) 1), .int .u64 (dg (a - b) 2), .int .u64 (dg (a - b) 3), .int .u64 (dg (a - b) 4), .int .u64 (dg (a - b) 5)]) (by simp [results, Tryd.results75, go_sem, r0, r1, r2, r3, r4, r5]) rfl ⟨rfl, (((((hW.setCell (by dsimp only; omega) _).setCell (by dsimp only; omega) _).setCell (by dsimp only; omega) _).setCell (by dsimp only; omega) _).setCell (by dsimp only; omega) _).setCell (by dsimp only; omega) _⟩
end Go.Proofs.YtpmlpcejmndidabDoor
