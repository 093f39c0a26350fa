/-
  SWalkA, SWalkB, SWalkC, SWalkD, SWalkE, SWalkF.
-/
import Derived.Test.YtfcneciknldohaaBA
import Derived.Test.YtfcneciknldohaaBC
/-
  Contracts of regattaref02's Size, Plus, Minus, One64.
-/
set_option linter.unusedVariables false
set_option linter.unusedSimpArgs false
namespace Go.Proofs.Ytfcneciknldohaa
open Go.RowKit

/-- A block of six cells. -/
structure B6 (b : Nat) (x : Nat → Int) (w : World) : Prop where
  c : ∀ k, k < 6 → w.cell? ⟨b, k, none⟩ = some (.int .u64 (x k))
  f : ∀ k, k < 6 → w.frozen? ⟨b, k, none⟩ = false
theorem six {P : Nat → Prop} (h0 : P 0) (h1 : P 1) (h2 : P 2) (h3 : P 3) (h4 : P 4) (h5 : P 5) : ∀ k, k < 6 → P k := fun k hk => by
  match k, hk with
  | 0, _ => exact h0
  | 1, _ => exact h1
  | 2, _ => exact h2
  | 3, _ => exact h3
  | 4, _ => exact h4
  | 5, _ => exact h5
theorem B6.new (w : World) (x : Nat → Int) (t : TypeId) : B6 w.heap.size x (w.alloc (.cells #[.int .u64 (x 0), .int .u64 (x 1), .int .u64 (x 2), .int .u64 (x 3), .int .u64 (x 4), .int .u64 (x 5)] t)) :=
  ⟨six (by simp [go_sem]) (by simp [go_sem]) (by simp [go_sem]) (by simp [go_sem]) (by simp [go_sem]) (by simp [go_sem]), six (by simp [go_sem]) (by simp [go_sem]) (by simp [go_sem]) (by simp [go_sem]) (by simp [go_sem]) (by simp [go_sem])⟩
theorem B6.later {b : Nat} {x : Nat → Int} {w w' : World} (h : B6 b x w) (hb : Below w.heap.size w w') : B6 b x w' :=
  ⟨fun k hk => cell_later hb (h.c k hk), fun k hk => frozen_later hb (h.c k hk) (h.f k hk)⟩
theorem B6.lt {b : Nat} {x : Nat → Int} {w : World} (h : B6 b x w) : b < w.heap.size := World.block_lt_of_cell? _ _ (h.c 0 (by omega))
theorem B6.far {b : Nat} {x : Nat → Int} {w : World} {p : Addr} (h : B6 b x w) (u : Value) (hp : p.block ≠ b) : B6 b x (w.setCell p u) :=
  ⟨fun k hk => cell_set hp (h.c k hk), fun k hk => by rw [World.frozen?_setCell]; exact h.f k hk⟩
theorem B6.set {b : Nat} {x : Nat → Int} {w : World} (h : B6 b x w) (j : Nat) (hj : j < 6) (u : Int) : B6 b (fun k => if k = j then u else x k) (w.setCell ⟨b, j, none⟩ (.int .u64 u)) := by
  refine ⟨fun k hk => ?_, fun k hk => by rw [World.frozen?_setCell]; exact h.f k hk⟩
  by_cases hkj : k = j
  · subst hkj
    rw [if_pos rfl]
    have := h.c k hk
    simp [go_sem, this]
  · rw [if_neg hkj]
    have := h.c k hk
    simp [go_sem, this, hkj]
theorem B6.cong {b : Nat} {x y : Nat → Int} {w : World} (h : B6 b x w) (e : ∀ k, k < 6 → x k = y k) : B6 b y w :=
  ⟨fun k hk => by rw [h.c k hk, e k hk], h.f⟩

theorem wrap_small (x : Int) (h0 : 0 ≤ x) (h1 : x ≤ 18446744073709551615) : IntKind.u64.wrap x = x := by rw [IntKind.wrap_u64]; omega

set_option maxHeartbeats 400000 in
theorem ssize_any (a : Int) (a0 : -9223372036854775808 ≤ a) (a1 : a ≤ 9223372036854775807) (w : World) :
    Calls Try.prog 40 #[.int .i64 a] w fun e w' => e = .returned (.int .u64 (ab a)) ∧ w' = w := by
  by_cases hn : a < 0
  · have e : ab a = -a := by unfold ab; rw [if_pos hn]
    rw [e]
    clear e
    have e2 : IntKind.u64.wrap (-(IntKind.u64.wrap a)) = -a := by rw [IntKind.wrap_u64, IntKind.wrap_u64]; omega
    go_enter Try.func40, Try.ntmps40
    go_wp2
    go_ret
    exact ⟨rfl, rfl⟩
  · have e : ab a = a := by unfold ab; rw [if_neg hn]
    rw [e]
    clear e
    go_enter Try.func40, Try.ntmps40
    go_wp2
    go_ret
    exact ⟨rfl, rfl⟩

set_option maxHeartbeats 1000000 in
theorem splus_any (a b : Int) (w : World) :
    Calls Try.prog 41 #[.agg #[.int .u64 (dg (a) 0), .int .u64 (dg (a) 1), .int .u64 (dg (a) 2), .int .u64 (dg (a) 3), .int .u64 (dg (a) 4), .int .u64 (dg (a) 5)], .agg #[.int .u64 (dg (b) 0), .int .u64 (dg (b) 1), .int .u64 (dg (b) 2), .int .u64 (dg (b) 3), .int .u64 (dg (b) 4), .int .u64 (dg (b) 5)]] w fun e w' => e = .returned (.agg #[.int .u64 (dg (a + b) 0), .int .u64 (dg (a + b) 1), .int .u64 (dg (a + b) 2), .int .u64 (dg (a + b) 3), .int .u64 (dg (a + b) 4), .int .u64 (dg (a + b) 5)]) ∧ Below w.heap.size w w' := by
  have A0 := (((B6.new w (dg a) 66).later (bel1 _ (.cells #[.int .u64 (dg (b) 0), .int .u64 (dg (b) 1), .int .u64 (dg (b) 2), .int .u64 (dg (b) 3), .int .u64 (dg (b) 4), .int .u64 (dg (b) 5)] 66))).later (bel1 _ (.cells #[.int .u64 0, .int .u64 0, .int .u64 0, .int .u64 0, .int .u64 0, .int .u64 0] 66))).later (bel1 _ (.cells #[.int .u64 0, .int .u64 0, .int .u64 0, .int .u64 0, .int .u64 0, .int .u64 0] 66))
  have C0 := ((B6.new (w.alloc (.cells #[.int .u64 (dg (a) 0), .int .u64 (dg (a) 1), .int .u64 (dg (a) 2), .int .u64 (dg (a) 3), .int .u64 (dg (a) 4), .int .u64 (dg (a) 5)] 66)) (dg b) 66).later (bel1 _ (.cells #[.int .u64 0, .int .u64 0, .int .u64 0, .int .u64 0, .int .u64 0, .int .u64 0] 66))).later (bel1 _ (.cells #[.int .u64 0, .int .u64 0, .int .u64 0, .int .u64 0, .int .u64 0, .int .u64 0] 66))
  have R0 := (B6.new ((w.alloc (.cells #[.int .u64 (dg (a) 0), .int .u64 (dg (a) 1), .int .u64 (dg (a) 2), .int .u64 (dg (a) 3), .int .u64 (dg (a) 4), .int .u64 (dg (a) 5)] 66)).alloc (.cells #[.int .u64 (dg (b) 0), .int .u64 (dg (b) 1), .int .u64 (dg (b) 2), .int .u64 (dg (b) 3), .int .u64 (dg (b) 4), .int .u64 (dg (b) 5)] 66)) (fun _ => 0) 66).later (bel1 _ (.cells #[.int .u64 0, .int .u64 0, .int .u64 0, .int .u64 0, .int .u64 0, .int .u64 0] 66))
  have O0 := B6.new (((w.alloc (.cells #[.int .u64 (dg (a) 0), .int .u64 (dg (a) 1), .int .u64 (dg (a) 2), .int .u64 (dg (a) 3), .int .u64 (dg (a) 4), .int .u64 (dg (a) 5)] 66)).alloc (.cells #[.int .u64 (dg (b) 0), .int .u64 (dg (b) 1), .int .u64 (dg (b) 2), .int .u64 (dg (b) 3), .int .u64 (dg (b) 4), .int .u64 (dg (b) 5)] 66)).alloc (.cells #[.int .u64 0, .int .u64 0, .int .u64 0, .int .u64 0, .int .u64 0, .int .u64 0] 66)) (fun _ => 0) 66
  have W0 := (bel3 w (.cells #[.int .u64 (dg (a) 0), .int .u64 (dg (a) 1), .int .u64 (dg (a) 2), .int .u64 (dg (a) 3), .int .u64 (dg (a) 4), .int .u64 (dg (a) 5)] 66) (.cells #[.int .u64 (dg (b) 0), .int .u64 (dg (b) 1), .int .u64 (dg (b) 2), .int .u64 (dg (b) 3), .int .u64 (dg (b) 4), .int .u64 (dg (b) 5)] 66) (.cells #[.int .u64 0, .int .u64 0, .int .u64 0, .int .u64 0, .int .u64 0, .int .u64 0] 66)).alloc (by simp; omega) (.cells #[.int .u64 0, .int .u64 0, .int .u64 0, .int .u64 0, .int .u64 0, .int .u64 0] 66)
  simp only [World.size_alloc] at C0 R0 O0
  go_enter Try.func41, Try.ntmps41
  go_wp2
  go_loopw [6, 7] (fun c i wr => ∃ j : Nat, j ≤ 6 ∧ i = .int .i64 (j : Int) ∧ c = .int .u64 (ca a b j) ∧ B6 w.heap.size (dg a) wr ∧ B6 (w.heap.size + 1) (dg b) wr ∧ B6 (w.heap.size + 1 + 1) (fun _ => 0) wr ∧ B6 (w.heap.size + 1 + 1 + 1) (fun k => if k < j then dg (a + b) k else 0) wr ∧ Below w.heap.size w wr) (fun _ i _ => 6 - (intOf i).toNat)
  case atStart => exact ⟨0, by omega, rfl, by rw [ca_zero], A0, C0, R0, O0, W0⟩
  case round =>
    clear A0 C0 R0 O0 W0
    obtain ⟨j, hj, rfl, rfl, hA, hC, hR, hO, hW⟩ := hrel
    by_cases hlt : (j : Int) < 6
    · have x0 := hA.c j (by omega)
      have y0 := hC.c j (by omega)
      have o0 := hO.c j (by omega)
      have f0 := hO.f j (by omega)
      obtain ⟨r1, r2⟩ := dg_rng a j
      obtain ⟨r3, r4⟩ := dg_rng b j
      obtain ⟨r5, r6⟩ := ca_rng a b j
      have HS : Hid ((dg a j + dg b j + ca a b j) % 4294967296 = dg (a + b) j ∧ (dg a j + dg b j + ca a b j) / 4294967296 = ca a b (j + 1)) := sum_digit a b j
      have hj0 : (0 : Int) ≤ (j : Int) := by omega
      have k1 : IntKind.u64.wrap (dg a j + dg b j) = dg a j + dg b j := by rw [IntKind.wrap_u64]; omega
      have k2 : IntKind.u64.wrap (dg a j + dg b j + ca a b j) = dg a j + dg b j + ca a b j := by rw [IntKind.wrap_u64]; omega
      go_upto_region 6 with fail
      go_quiet (fail)
      have hb0 : Below wr.heap.size wr (wr.drewN nq) := below_drewN (Below.refl _ _) nq
      have qA := hA.later hb0
      have qC := hC.later hb0
      have qR := hR.later hb0
      have qO := hO.later hb0
      have qW := bchain hW hb0
      clear hb0 hA hC hR hO hW x0 y0 o0 f0 k1 k2
      generalize wr.drewN nq = wq at *
      have o0 := qO.c j (by omega)
      have f0 := qO.f j (by omega)
      rw [if_neg (Nat.lt_irrefl j)] at o0
      have S0 : 0 ≤ dg a j + dg b j + ca a b j := by omega
      have S1 : dg a j + dg b j + ca a b j ≤ 18446744073709551615 := by omega
      generalize dg a j + dg b j + ca a b j = s at *
      have N := qO.set j (by omega) (s % 4294967296)
      have N1 := qA.far (p := ⟨w.heap.size + 1 + 1 + 1, j, none⟩) (.int .u64 (s % 4294967296)) (by dsimp only; omega)
      have N2 := qC.far (p := ⟨w.heap.size + 1 + 1 + 1, j, none⟩) (.int .u64 (s % 4294967296)) (by dsimp only; omega)
      have N3 := qR.far (p := ⟨w.heap.size + 1 + 1 + 1, j, none⟩) (.int .u64 (s % 4294967296)) (by dsimp only; omega)
      have NW := qW.setCell (p := ⟨w.heap.size + 1 + 1 + 1, j, none⟩) (by dsimp only; omega) (.int .u64 (s % 4294967296))
      have d1 := Int.tdiv_eq_ediv_of_nonneg (b := 4294967296) S0
      have d2 := Int.tmod_eq_emod_of_nonneg (b := 4294967296) S0
      have d3 := wrap_small (s / 4294967296) (by omega) (by omega)
      have d4 := wrap_small (s % 4294967296) (by omega) (by omega)
      clear qA qC qR qO qW
      go_wp2
      go_roundw
      case rel =>
        refine ⟨j + 1, by omega, by rw [show ((j + 1 : Nat) : Int) = (j : Int) + 1 by omega], by rw [HS.out.2], N1, N2, N3, N.cong fun k hk => ?_, NW⟩
        by_cases hkj : k = j
        · subst hkj
          rw [if_pos rfl, if_pos (by omega), HS.out.1]
        · rw [if_neg hkj]
          by_cases hkl : k < j
          · rw [if_pos hkl, if_pos (by omega)]
          · rw [if_neg hkl, if_neg (by omega)]
      case measure => simp [intOf]; omega
    · obtain rfl : j = 6 := by omega
      have c0 := hO.c 0 (by omega)
      have c1 := hO.c 1 (by omega)
      have c2 := hO.c 2 (by omega)
      have c3 := hO.c 3 (by omega)
      have c4 := hO.c 4 (by omega)
      have c5 := hO.c 5 (by omega)
      simp only [show (0 : Nat) < 6 by omega, show (1 : Nat) < 6 by omega, show (2 : Nat) < 6 by omega, show (3 : Nat) < 6 by omega, show (4 : Nat) < 6 by omega, show (5 : Nat) < 6 by omega, if_true] at c0 c1 c2 c3 c4 c5
      have r0 := hR.c 0 (by omega)
      have r1 := hR.c 1 (by omega)
      have r2 := hR.c 2 (by omega)
      have r3 := hR.c 3 (by omega)
      have r4 := hR.c 4 (by omega)
      have r5 := hR.c 5 (by omega)
      have g0 := hR.f 0 (by omega)
      have g1 := hR.f 1 (by omega)
      have g2 := hR.f 2 (by omega)
      have g3 := hR.f 3 (by omega)
      have g4 := hR.f 4 (by omega)
      have g5 := hR.f 5 (by omega)
      clear hA hC hO
      go_wp2
      exact bodyPost_ret (v := .agg #[.int .u64 (dg (a + b) 0), .int .u64 (dg (a + b) 1), .int .u64 (dg (a + b) 2), .int .u64 (dg (a + b) 3), .int .u64 (dg (a + b) 4), .int .u64 (dg (a + b) 5)]) (by simp [results, Try.results41, go_sem, r0, r1, r2, r3, r4, r5]) rfl ⟨rfl, (((((hW.setCell (by dsimp only; omega) _).setCell (by dsimp only; omega) _).setCell (by dsimp only; omega) _).setCell (by dsimp only; omega) _).setCell (by dsimp only; omega) _).setCell (by dsimp only; omega) _⟩
set_option maxHeartbeats 1000000 in
theorem sminus_any (a b : Int) (w : World) :
    Calls Try.prog 58 #[.agg #[.int .u64 (dg (a) 0), .int .u64 (dg (a) 1), .int .u64 (dg (a) 2), .int .u64 (dg (a) 3), .int .u64 (dg (a) 4), .int .u64 (dg (a) 5)], .agg #[.int .u64 (dg (b) 0), .int .u64 (dg (b) 1), .int .u64 (dg (b) 2), .int .u64 (dg (b) 3), .int .u64 (dg (b) 4), .int .u64 (dg (b) 5)]] w fun e w' => e = .returned (.agg #[.int .u64 (dg (a - b) 0), .int .u64 (dg (a - b) 1), .int .u64 (dg (a - b) 2), .int .u64 (dg (a - b) 3), .int .u64 (dg (a - b) 4), .int .u64 (dg (a - b) 5)]) ∧ Below w.heap.size w w' := by
  have A0 := (((B6.new w (dg a) 66).later (bel1 _ (.cells #[.int .u64 (dg (b) 0), .int .u64 (dg (b) 1), .int .u64 (dg (b) 2), .int .u64 (dg (b) 3), .int .u64 (dg (b) 4), .int .u64 (dg (b) 5)] 66))).later (bel1 _ (.cells #[.int .u64 0, .int .u64 0, .int .u64 0, .int .u64 0, .int .u64 0, .int .u64 0] 66))).later (bel1 _ (.cells #[.int .u64 0, .int .u64 0, .int .u64 0, .int .u64 0, .int .u64 0, .int .u64 0] 66))
  have C0 := ((B6.new (w.alloc (.cells #[.int .u64 (dg (a) 0), .int .u64 (dg (a) 1), .int .u64 (dg (a) 2), .int .u64 (dg (a) 3), .int .u64 (dg (a) 4), .int .u64 (dg (a) 5)] 66)) (dg b) 66).later (bel1 _ (.cells #[.int .u64 0, .int .u64 0, .int .u64 0, .int .u64 0, .int .u64 0, .int .u64 0] 66))).later (bel1 _ (.cells #[.int .u64 0, .int .u64 0, .int .u64 0, .int .u64 0, .int .u64 0, .int .u64 0] 66))
  have R0 := (B6.new ((w.alloc (.cells #[.int .u64 (dg (a) 0), .int .u64 (dg (a) 1), .int .u64 (dg (a) 2), .int .u64 (dg (a) 3), .int .u64 (dg (a) 4), .int .u64 (dg (a) 5)] 66)).alloc (.cells #[.int .u64 (dg (b) 0), .int .u64 (dg (b) 1), .int .u64 (dg (b) 2), .int .u64 (dg (b) 3), .int .u64 (dg (b) 4), .int .u64 (dg (b) 5)] 66)) (fun _ => 0) 66).later (bel1 _ (.cells #[.int .u64 0, .int .u64 0, .int .u64 0, .int .u64 0, .int .u64 0, .int .u64 0] 66))
  have O0 := B6.new (((w.alloc (.cells #[.int .u64 (dg (a) 0), .int .u64 (dg (a) 1), .int .u64 (dg (a) 2), .int .u64 (dg (a) 3), .int .u64 (dg (a) 4), .int .u64 (dg (a) 5)] 66)).alloc (.cells #[.int .u64 (dg (b) 0), .int .u64 (dg (b) 1), .int .u64 (dg (b) 2), .int .u64 (dg (b) 3), .int .u64 (dg (b) 4), .int .u64 (dg (b) 5)] 66)).alloc (.cells #[.int .u64 0, .int .u64 0, .int .u64 0, .int .u64 0, .int .u64 0, .int .u64 0] 66)) (fun _ => 0) 66
  have W0 := (bel3 w (.cells #[.int .u64 (dg (a) 0), .int .u64 (dg (a) 1), .int .u64 (dg (a) 2), .int .u64 (dg (a) 3), .int .u64 (dg (a) 4), .int .u64 (dg (a) 5)] 66) (.cells #[.int .u64 (dg (b) 0), .int .u64 (dg (b) 1), .int .u64 (dg (b) 2), .int .u64 (dg (b) 3), .int .u64 (dg (b) 4), .int .u64 (dg (b) 5)] 66) (.cells #[.int .u64 0, .int .u64 0, .int .u64 0, .int .u64 0, .int .u64 0, .int .u64 0] 66)).alloc (by simp; omega) (.cells #[.int .u64 0, .int .u64 0, .int .u64 0, .int .u64 0, .int .u64 0, .int .u64 0] 66)
  simp only [World.size_alloc] at C0 R0 O0
  go_enter Try.func58, Try.ntmps58
  go_wp2
  go_loopw [6, 7] (fun c i wr => ∃ j : Nat, j ≤ 6 ∧ i = .int .i64 (j : Int) ∧ c = .int .u64 (bo a b j) ∧ B6 w.heap.size (dg a) wr ∧ B6 (w.heap.size + 1) (dg b) wr ∧ B6 (w.heap.size + 1 + 1) (fun _ => 0) wr ∧ B6 (w.heap.size + 1 + 1 + 1) (fun k => if k < j then dg (a - b) k else 0) wr ∧ Below w.heap.size w wr) (fun _ i _ => 6 - (intOf i).toNat)
  case atStart => exact ⟨0, by omega, rfl, by rw [bo_zero], A0, C0, R0, O0, W0⟩
  case round =>
    clear A0 C0 R0 O0 W0
    obtain ⟨j, hj, rfl, rfl, hA, hC, hR, hO, hW⟩ := hrel
    by_cases hlt : (j : Int) < 6
    · have x0 := hA.c j (by omega)
      have y0 := hC.c j (by omega)
      have o0 := hO.c j (by omega)
      have f0 := hO.f j (by omega)
      obtain ⟨r1, r2⟩ := dg_rng a j
      obtain ⟨r3, r4⟩ := dg_rng b j
      obtain ⟨r5, r6⟩ := bo_rng a b j
      have HS : Hid ((dg a j + 4294967296 - dg b j - bo a b j) % 4294967296 = dg (a - b) j ∧ 1 - (dg a j + 4294967296 - dg b j - bo a b j) / 4294967296 = bo a b (j + 1)) := dif_digit a b j
      have hj0 : (0 : Int) ≤ (j : Int) := by omega
      have k0 : IntKind.u64.wrap (dg a j + 4294967296) = dg a j + 4294967296 := by rw [IntKind.wrap_u64]; omega
      have k1 : IntKind.u64.wrap (dg a j + 4294967296 - dg b j) = dg a j + 4294967296 - dg b j := by rw [IntKind.wrap_u64]; omega
      have k2 : IntKind.u64.wrap (dg a j + 4294967296 - dg b j - bo a b j) = dg a j + 4294967296 - dg b j - bo a b j := by rw [IntKind.wrap_u64]; omega
      go_upto_region 6 with fail
      go_quiet (fail)
      have hb0 : Below wr.heap.size wr (wr.drewN nq) := below_drewN (Below.refl _ _) nq
      have qA := hA.later hb0
      have qC := hC.later hb0
      have qR := hR.later hb0
      have qO := hO.later hb0
      have qW := bchain hW hb0
      clear hb0 hA hC hR hO hW x0 y0 o0 f0 k0 k1 k2
      generalize wr.drewN nq = wq at *
      have o0 := qO.c j (by omega)
      have f0 := qO.f j (by omega)
      rw [if_neg (Nat.lt_irrefl j)] at o0
      have S0 : 0 ≤ dg a j + 4294967296 - dg b j - bo a b j := by omega
      have S1 : dg a j + 4294967296 - dg b j - bo a b j ≤ 8589934591 := by omega
      generalize dg a j + 4294967296 - dg b j - bo a b j = s at *
      have N := qO.set j (by omega) (s % 4294967296)
      have N1 := qA.far (p := ⟨w.heap.size + 1 + 1 + 1, j, none⟩) (.int .u64 (s % 4294967296)) (by dsimp only; omega)
      have N2 := qC.far (p := ⟨w.heap.size + 1 + 1 + 1, j, none⟩) (.int .u64 (s % 4294967296)) (by dsimp only; omega)
      have N3 := qR.far (p := ⟨w.heap.size + 1 + 1 + 1, j, none⟩) (.int .u64 (s % 4294967296)) (by dsimp only; omega)
      have NW := qW.setCell (p := ⟨w.heap.size + 1 + 1 + 1, j, none⟩) (by dsimp only; omega) (.int .u64 (s % 4294967296))
      have d1 := Int.tdiv_eq_ediv_of_nonneg (b := 4294967296) S0
      have d2 := Int.tmod_eq_emod_of_nonneg (b := 4294967296) S0
      have d3 := wrap_small (s / 4294967296) (by omega) (by omega)
      have d4 := wrap_small (s % 4294967296) (by omega) (by omega)
      have d5 := wrap_small (1 - s / 4294967296) (by omega) (by omega)
      clear qA qC qR qO qW
      go_wp2
      go_roundw
      case rel =>
        refine ⟨j + 1, by omega, by rw [show ((j + 1 : Nat) : Int) = (j : Int) + 1 by omega], by rw [HS.out.2], N1, N2, N3, N.cong fun k hk => ?_, NW⟩
        by_cases hkj : k = j
        · subst hkj
          rw [if_pos rfl, if_pos (by omega), HS.out.1]
        · rw [if_neg hkj]
          by_cases hkl : k < j
          · rw [if_pos hkl, if_pos (by omega)]
          · rw [if_neg hkl, if_neg (by omega)]
      case measure => simp [intOf]; omega
    · obtain rfl : j = 6 := by omega
      have c0 := hO.c 0 (by omega)
      have c1 := hO.c 1 (by omega)
      have c2 := hO.c 2 (by omega)
      have c3 := hO.c 3 (by omega)
      have c4 := hO.c 4 (by omega)
      have c5 := hO.c 5 (by omega)
      simp only [show (0 : Nat) < 6 by omega, show (1 : Nat) < 6 by omega, show (2 : Nat) < 6 by omega, show (3 : Nat) < 6 by omega, show (4 : Nat) < 6 by omega, show (5 : Nat) < 6 by omega, if_true] at c0 c1 c2 c3 c4 c5
      have r0 := hR.c 0 (by omega)
      have r1 := hR.c 1 (by omega)
      have r2 := hR.c 2 (by omega)
      have r3 := hR.c 3 (by omega)
      have r4 := hR.c 4 (by omega)
      have r5 := hR.c 5 (by omega)
      have g0 := hR.f 0 (by omega)
      have g1 := hR.f 1 (by omega)
      have g2 := hR.f 2 (by omega)
      have g3 := hR.f 3 (by omega)
      have g4 := hR.f 4 (by omega)
      have g5 := hR.f 5 (by omega)
      clear hA hC hO
      go_wp2
      exact bodyPost_ret (v := .agg #[.int .u64 (dg (a - b) 0), .int .u64 (dg (a - b) 1), .int .u64 (dg (a - b) 2), .int .u64 (dg (a - b) 3), .int .u64 (dg (a - b) 4), .int .u64 (dg (a - b) 5)]) (by simp [results, Try.results58, go_sem, r0, r1, r2, r3, r4, r5]) rfl ⟨rfl, (((((hW.setCell (by dsimp only; omega) _).setCell (by dsimp only; omega) _).setCell (by dsimp only; omega) _).setCell (by dsimp only; omega) _).setCell (by dsimp only; omega) _).setCell (by dsimp only; omega) _⟩
end Go.Proofs.Ytfcneciknldohaa
/-
  Contracts of regattaref02's half, Less, One64.
-/
set_option linter.unusedVariables false
set_option linter.unusedSimpArgs false
namespace Go.Proofs.Ytfcneciknldohaa
open Go.RowKit

set_option maxHeartbeats 1000000 in
theorem shalf_any (m : Int) (m0 : 0 ≤ m) (m1 : m < 6277101735386680763835789423207666416102355444464034512896) (w : World) :
    Calls Try.prog 44 #[.agg #[.int .u64 (dg (m) 0), .int .u64 (dg (m) 1), .int .u64 (dg (m) 2), .int .u64 (dg (m) 3), .int .u64 (dg (m) 4), .int .u64 (dg (m) 5)]] w fun e w' => e = .returned (.tuple #[.agg #[.int .u64 (dg (m / 2) 0), .int .u64 (dg (m / 2) 1), .int .u64 (dg (m / 2) 2), .int .u64 (dg (m / 2) 3), .int .u64 (dg (m / 2) 4), .int .u64 (dg (m / 2) 5)], .int .u64 (m % 2)]) ∧ Below w.heap.size w w' := by
  have A0 := ((B6.new w (dg m) 66).later (bel1 _ (.cells #[.int .u64 0, .int .u64 0, .int .u64 0, .int .u64 0, .int .u64 0, .int .u64 0] 66))).later (bel1 _ (.cells #[.int .u64 0, .int .u64 0, .int .u64 0, .int .u64 0, .int .u64 0, .int .u64 0] 66))
  have R0 := (B6.new (w.alloc (.cells #[.int .u64 (dg (m) 0), .int .u64 (dg (m) 1), .int .u64 (dg (m) 2), .int .u64 (dg (m) 3), .int .u64 (dg (m) 4), .int .u64 (dg (m) 5)] 66)) (fun _ => 0) 66).later (bel1 _ (.cells #[.int .u64 0, .int .u64 0, .int .u64 0, .int .u64 0, .int .u64 0, .int .u64 0] 66))
  have O0 := B6.new ((w.alloc (.cells #[.int .u64 (dg (m) 0), .int .u64 (dg (m) 1), .int .u64 (dg (m) 2), .int .u64 (dg (m) 3), .int .u64 (dg (m) 4), .int .u64 (dg (m) 5)] 66)).alloc (.cells #[.int .u64 0, .int .u64 0, .int .u64 0, .int .u64 0, .int .u64 0, .int .u64 0] 66)) (fun _ => 0) 66
  have W0 := bel3 w (.cells #[.int .u64 (dg (m) 0), .int .u64 (dg (m) 1), .int .u64 (dg (m) 2), .int .u64 (dg (m) 3), .int .u64 (dg (m) 4), .int .u64 (dg (m) 5)] 66) (.cells #[.int .u64 0, .int .u64 0, .int .u64 0, .int .u64 0, .int .u64 0, .int .u64 0] 66) (.cells #[.int .u64 0, .int .u64 0, .int .u64 0, .int .u64 0, .int .u64 0, .int .u64 0] 66)
  have T0 : Hid (m / 2 ^ (32 * 6) = 0) := top_none m m0 m1
  simp only [World.size_alloc] at R0 O0
  go_enter Try.func44, Try.ntmps44
  go_wp2
  go_loopw [5, 6] (fun c i wr => B6 w.heap.size (dg m) wr ∧ B6 (w.heap.size + 1) (fun _ => 0) wr ∧ Below w.heap.size w wr ∧ ((∃ q : Nat, q < 6 ∧ i = .int .i64 (q : Int) ∧ c = .int .u64 (m / 2 ^ (32 * (q + 1)) % 2) ∧ B6 (w.heap.size + 1 + 1) (fun k => if q < k then dg (m / 2) k else 0) wr) ∨ (i = .int .i64 (-1) ∧ c = .int .u64 (m % 2) ∧ B6 (w.heap.size + 1 + 1) (dg (m / 2)) wr))) (fun _ i _ => (intOf i + 1).toNat)
  case atStart =>
    refine ⟨A0, R0, W0, .inl ⟨5, by omega, rfl, ?_, O0.cong fun k hk => ?_⟩⟩
    · rw [show 32 * (5 + 1) = 32 * 6 by omega, T0.out]; rfl
    · rw [if_neg (by omega)]
  case round =>
    clear A0 R0 O0 W0
    obtain ⟨hA, hR, hW, hrel⟩ := hrel
    rcases hrel with ⟨q, hq, rfl, rfl, hO⟩ | ⟨rfl, rfl, hO⟩
    · have x0 := hA.c q hq
      have o0 := hO.c q hq
      have f0 := hO.f q hq
      rw [if_neg (Nat.lt_irrefl q)] at o0
      obtain ⟨r1, r2⟩ := dg_rng m q
      have HS : Hid ((m / 2 ^ (32 * (q + 1)) % 2 * 4294967296 + dg m q) / 2 = dg (m / 2) q ∧ (m / 2 ^ (32 * (q + 1)) % 2 * 4294967296 + dg m q) % 2 = m / 2 ^ (32 * q) % 2) := half_digit m q
      have hj0 : (0 : Int) ≤ (q : Int) := by omega
      have hj6 : (q : Int) < 6 := by omega
      have c0 : 0 ≤ m / 2 ^ (32 * (q + 1)) % 2 := by omega
      have c1 : m / 2 ^ (32 * (q + 1)) % 2 ≤ 1 := by omega
      generalize m / 2 ^ (32 * (q + 1)) % 2 = c at *
      have k1 := wrap_small (c * 4294967296) (by omega) (by omega)
      have k2 := wrap_small (c * 4294967296 + dg m q) (by omega) (by omega)
      have S0 : 0 ≤ c * 4294967296 + dg m q := by omega
      have S1 : c * 4294967296 + dg m q ≤ 8589934591 := by omega
      have d1 := Int.tdiv_eq_ediv_of_nonneg (b := 2) S0
      have d2 := Int.tmod_eq_emod_of_nonneg (b := 2) S0
      have d3 := wrap_small ((c * 4294967296 + dg m q) / 2) (by omega) (by omega)
      have d4 := wrap_small ((c * 4294967296 + dg m q) % 2) (by omega) (by omega)
      have N := hO.set q hq ((c * 4294967296 + dg m q) / 2)
      have N1 := hA.far (p := ⟨w.heap.size + 1 + 1, q, none⟩) (.int .u64 ((c * 4294967296 + dg m q) / 2)) (by dsimp only; omega)
      have N3 := hR.far (p := ⟨w.heap.size + 1 + 1, q, none⟩) (.int .u64 ((c * 4294967296 + dg m q) / 2)) (by dsimp only; omega)
      have NW := hW.setCell (p := ⟨w.heap.size + 1 + 1, q, none⟩) (by dsimp only; omega) (.int .u64 ((c * 4294967296 + dg m q) / 2))
      clear hA hR hO hW S0 S1
      go_wp2
      go_roundw
      case rel =>
        refine ⟨N1, N3, NW, ?_⟩
        by_cases hq0 : q = 0
        · subst hq0
          refine .inr ⟨rfl, ?_, N.cong fun k hk => ?_⟩
          · rw [HS.out.2, Nat.mul_zero, Int.pow_zero, Int.ediv_one]
          · by_cases hk0 : k = 0
            · subst hk0; rw [if_pos rfl, HS.out.1]
            · rw [if_neg hk0, if_pos (by omega)]
        · refine .inl ⟨q - 1, by omega, by rw [show ((q - 1 : Nat) : Int) = (q : Int) - 1 by omega], ?_, N.cong fun k hk => ?_⟩
          · rw [HS.out.2, show q - 1 + 1 = q by omega]
          · by_cases hk0 : k = q
            · subst hk0; rw [if_pos rfl, if_pos (by omega), HS.out.1]
            · rw [if_neg hk0]
              by_cases hkq : q < k
              · rw [if_pos hkq, if_pos (by omega)]
              · rw [if_neg hkq, if_neg (by omega)]
      case measure => first | (simp [intOf]; done) | (simp [intOf]; omega)
    · have c0 := hO.c 0 (by omega)
      have c1 := hO.c 1 (by omega)
      have c2 := hO.c 2 (by omega)
      have c3 := hO.c 3 (by omega)
      have c4 := hO.c 4 (by omega)
      have c5 := hO.c 5 (by omega)
      have r0 := hR.c 0 (by omega)
      have r1 := hR.c 1 (by omega)
      have r2 := hR.c 2 (by omega)
      have r3 := hR.c 3 (by omega)
      have r4 := hR.c 4 (by omega)
      have r5 := hR.c 5 (by omega)
      have g0 := hR.f 0 (by omega)
      have g1 := hR.f 1 (by omega)
      have g2 := hR.f 2 (by omega)
      have g3 := hR.f 3 (by omega)
      have g4 := hR.f 4 (by omega)
      have g5 := hR.f 5 (by omega)
      clear hA hO
      go_wp2
      exact bodyPost_ret (v := .tuple #[.agg #[.int .u64 (dg (m / 2) 0), .int .u64 (dg (m / 2) 1), .int .u64 (dg (m / 2) 2), .int .u64 (dg (m / 2) 3), .int .u64 (dg (m / 2) 4), .int .u64 (dg (m / 2) 5)], .int .u64 (m % 2)]) (by simp [results, Try.results44, go_sem, r0, r1, r2, r3, r4, r5]) rfl ⟨rfl, (((((hW.setCell (by dsimp only; omega) _).setCell (by dsimp only; omega) _).setCell (by dsimp only; omega) _).setCell (by dsimp only; omega) _).setCell (by dsimp only; omega) _).setCell (by dsimp only; omega) _⟩

theorem dg_up (a : Int) (q : Nat) : a / 2 ^ (32 * q) = a / 2 ^ (32 * (q + 1)) * 4294967296 + dg a q := by
  have hp := pow_pos' (32 * q)
  rw [pow32, ← Int.ediv_ediv_of_nonneg (by omega)]
  unfold dg
  omega
theorem lt_of_up (a b : Int) (q : Nat) (h : a / 2 ^ q < b / 2 ^ q) : a < b := by
  have hp := pow_pos' q
  rcases Int.lt_or_le a b with h1 | h1
  · exact h1
  · have := Int.ediv_le_ediv (show (0 : Int) < 2 ^ q by omega) h1
    omega
theorem less_digit (a b : Int) (q : Nat) (h : a / 2 ^ (32 * (q + 1)) = b / 2 ^ (32 * (q + 1))) (hn : dg a q ≠ dg b q) : decide (dg a q < dg b q) = decide (a < b) := by
  have ea := dg_up a q
  have eb := dg_up b q
  rw [h] at ea
  by_cases hl : dg a q < dg b q
  · rw [decide_eq_true hl, decide_eq_true (lt_of_up a b (32 * q) (by omega))]
  · have := lt_of_up b a (32 * q) (by omega)
    rw [decide_eq_false hl, decide_eq_false (by omega)]
theorem same_digit (a b : Int) (q : Nat) (h : a / 2 ^ (32 * (q + 1)) = b / 2 ^ (32 * (q + 1))) (hn : dg a q = dg b q) : a / 2 ^ (32 * q) = b / 2 ^ (32 * q) := by
  rw [dg_up a q, dg_up b q, h, hn]

set_option maxHeartbeats 1000000 in
theorem sless_any (a b : Int) (a0 : 0 ≤ a) (a1 : a < 6277101735386680763835789423207666416102355444464034512896) (b0 : 0 ≤ b) (b1 : b < 6277101735386680763835789423207666416102355444464034512896) (w : World) :
    Calls Try.prog 57 #[.agg #[.int .u64 (dg (a) 0), .int .u64 (dg (a) 1), .int .u64 (dg (a) 2), .int .u64 (dg (a) 3), .int .u64 (dg (a) 4), .int .u64 (dg (a) 5)], .agg #[.int .u64 (dg (b) 0), .int .u64 (dg (b) 1), .int .u64 (dg (b) 2), .int .u64 (dg (b) 3), .int .u64 (dg (b) 4), .int .u64 (dg (b) 5)]] w fun e w' => e = .returned (.bool (decide (a < b))) ∧ Below w.heap.size w w' := by
  have A0 := (B6.new w (dg a) 66).later (bel1 _ (.cells #[.int .u64 (dg (b) 0), .int .u64 (dg (b) 1), .int .u64 (dg (b) 2), .int .u64 (dg (b) 3), .int .u64 (dg (b) 4), .int .u64 (dg (b) 5)] 66))
  have C0 := B6.new (w.alloc (.cells #[.int .u64 (dg (a) 0), .int .u64 (dg (a) 1), .int .u64 (dg (a) 2), .int .u64 (dg (a) 3), .int .u64 (dg (a) 4), .int .u64 (dg (a) 5)] 66)) (dg b) 66
  have W0 := bel2 w (.cells #[.int .u64 (dg (a) 0), .int .u64 (dg (a) 1), .int .u64 (dg (a) 2), .int .u64 (dg (a) 3), .int .u64 (dg (a) 4), .int .u64 (dg (a) 5)] 66) (.cells #[.int .u64 (dg (b) 0), .int .u64 (dg (b) 1), .int .u64 (dg (b) 2), .int .u64 (dg (b) 3), .int .u64 (dg (b) 4), .int .u64 (dg (b) 5)] 66)
  have T0 : Hid (a / 2 ^ (32 * 6) = b / 2 ^ (32 * 6)) := by show _ = _; rw [top_none a a0 a1, top_none b b0 b1]
  simp only [World.size_alloc] at C0
  go_enter Try.func57, Try.ntmps57
  go_wp2
  go_loopw [5] (fun i wr => B6 w.heap.size (dg a) wr ∧ B6 (w.heap.size + 1) (dg b) wr ∧ Below w.heap.size w wr ∧ ((∃ q : Nat, q < 6 ∧ i = .int .i64 (q : Int) ∧ Hid (a / 2 ^ (32 * (q + 1)) = b / 2 ^ (32 * (q + 1)))) ∨ (i = .int .i64 (-1) ∧ Hid (a = b)))) (fun i _ => (intOf i + 1).toNat)
  case atStart => exact ⟨A0, C0, W0, .inl ⟨5, by omega, rfl, T0⟩⟩
  case round =>
    clear A0 C0 W0 T0
    obtain ⟨hA, hC, hW, hrel⟩ := hrel
    rcases hrel with ⟨q, hq, rfl, HQ⟩ | ⟨rfl, HE⟩
    · have x0 := hA.c q hq
      have y0 := hC.c q hq
      have hj0 : (0 : Int) ≤ (q : Int) := by omega
      have hj6 : (q : Int) < 6 := by omega
      by_cases hn : dg a q = dg b q
      · have HN : Hid (a / 2 ^ (32 * q) = b / 2 ^ (32 * q)) := same_digit a b q HQ.out hn
        have hnb : (dg a q == dg b q) = true := beq_iff_eq.2 hn
        clear hn
        go_upto_region 4 with fail
        go_quiet (fail)
        have hb0 : Below wr.heap.size wr (wr.drewN nq) := below_drewN (Below.refl _ _) nq
        have qA := hA.later hb0
        have qC := hC.later hb0
        have qW := bchain hW hb0
        clear hb0 hA hC hW x0 y0
        generalize wr.drewN nq = wq at *
        go_wp2
        go_roundw
        case rel =>
          refine ⟨qA, qC, qW, ?_⟩
          by_cases hq0 : q = 0
          · subst hq0
            refine .inr ⟨rfl, ?_⟩
            show a = b
            have := HN.out
            rw [Nat.mul_zero, Int.pow_zero, Int.ediv_one, Int.ediv_one] at this
            exact this
          · refine .inl ⟨q - 1, by omega, by rw [show ((q - 1 : Nat) : Int) = (q : Int) - 1 by omega], ?_⟩
            show a / 2 ^ (32 * (q - 1 + 1)) = b / 2 ^ (32 * (q - 1 + 1))
            rw [show q - 1 + 1 = q by omega]
            exact HN.out
        case measure => first | (simp [intOf]; done) | (simp [intOf]; omega)
      · have HN : Hid (decide (dg a q < dg b q) = decide (a < b)) := less_digit a b q HQ.out hn
        have hnb : (dg a q == dg b q) = false := beq_eq_false_iff_ne.2 hn
        clear hn
        go_upto_region 4 with fail
        go_quiet (fail)
        have hb0 : Below wr.heap.size wr (wr.drewN nq) := below_drewN (Below.refl _ _) nq
        have qA := hA.later hb0
        have qC := hC.later hb0
        have qW := bchain hW hb0
        clear hb0 hA hC hW x0 y0
        generalize wr.drewN nq = wq at *
        have x0 := qA.c q hq
        have y0 := qC.c q hq
        go_upto_region 5 with fail
        go_quiet (fail)
        have hb1 : Below wq.heap.size wq (wq.drewN nq) := below_drewN (Below.refl _ _) nq
        have sW := bchain qW hb1
        clear hb1 qA qC qW x0 y0
        generalize wq.drewN nq = ws at *
        go_wp2
        go_ret
        exact ⟨by rw [← HN.out]; rfl, sW⟩
    · have HN : Hid (decide (a < b) = false) := decide_eq_false (by have := HE.out; omega)
      clear hA hC
      go_wp2
      go_ret
      exact ⟨by rw [HN.out]; rfl, hW⟩

theorem one_digit (x : Int) (p k : Nat) (x0 : 0 ≤ x) (x1 : x ≤ 18446744073709551615) : dg (x * 2 ^ (32 * p)) k = if k = p + 1 then x / 4294967296 else if k = p then x % 4294967296 else 0 := by
  have hp := pow_pos' (32 * p)
  unfold dg
  rcases (show k < p ∨ k = p ∨ k = p + 1 ∨ p + 2 ≤ k by omega) with h | rfl | rfl | h
  · rw [if_neg (by omega), if_neg (by omega)]
    have e : x * 2 ^ (32 * p) = x * 2 ^ (32 * (p - k - 1)) * 4294967296 * 2 ^ (32 * k) := by
      rw [show (4294967296 : Int) = 2 ^ 32 from rfl, Int.mul_assoc, Int.mul_assoc, ← Int.pow_add, ← Int.pow_add]
      congr 2; omega
    have hk := pow_pos' (32 * k)
    rw [e, Int.mul_ediv_cancel _ (by omega), Int.mul_emod_left]
  · rw [if_neg (by omega), if_pos rfl, Int.mul_ediv_cancel _ (by omega)]
  · rw [if_pos rfl, pow32, ← Int.ediv_ediv_of_nonneg (by omega), Int.mul_ediv_cancel _ (by omega)]
    omega
  · rw [if_neg (by omega), if_neg (by omega)]
    have e : (2 : Int) ^ (32 * k) = 2 ^ (32 * p) * (18446744073709551616 * 2 ^ (32 * (k - p - 2))) := by
      rw [show (18446744073709551616 : Int) = 2 ^ 64 from rfl, ← Int.pow_add, ← Int.pow_add]
      congr 1; omega
    have hk := pow_pos' (32 * (k - p - 2))
    have hx : (18446744073709551616 : Int) * 1 ≤ 18446744073709551616 * 2 ^ (32 * (k - p - 2)) := Int.mul_le_mul_of_nonneg_left (by omega) (by omega)
    rw [e, ← Int.ediv_ediv_of_nonneg (by omega), Int.mul_ediv_cancel _ (by omega), Int.ediv_eq_zero_of_lt x0 (by omega)]
    rfl

set_option maxHeartbeats 1000000 in
theorem sone_any (x : Int) (p : Nat) (hp : p ≤ 4) (x0 : 0 ≤ x) (x1 : x ≤ 18446744073709551615) (w : World) :
    Calls Try.prog 42 #[.int .u64 x, .int .i64 (p : Int)] w fun e w' => e = .returned (.agg #[.int .u64 (dg (x * 2 ^ (32 * p)) 0), .int .u64 (dg (x * 2 ^ (32 * p)) 1), .int .u64 (dg (x * 2 ^ (32 * p)) 2), .int .u64 (dg (x * 2 ^ (32 * p)) 3), .int .u64 (dg (x * 2 ^ (32 * p)) 4), .int .u64 (dg (x * 2 ^ (32 * p)) 5)]) ∧ Below w.heap.size w w' := by
  have R0 := (B6.new w (fun _ => 0) 66).later (bel1 _ (.cells #[.int .u64 0, .int .u64 0, .int .u64 0, .int .u64 0, .int .u64 0, .int .u64 0] 66))
  have O0 := B6.new (w.alloc (.cells #[.int .u64 0, .int .u64 0, .int .u64 0, .int .u64 0, .int .u64 0, .int .u64 0] 66)) (fun _ => 0) 66
  have W0 := bel2 w (.cells #[.int .u64 0, .int .u64 0, .int .u64 0, .int .u64 0, .int .u64 0, .int .u64 0] 66) (.cells #[.int .u64 0, .int .u64 0, .int .u64 0, .int .u64 0, .int .u64 0, .int .u64 0] 66)
  have OD : Hid (∀ k, dg (x * 2 ^ (32 * p)) k = if k = p + 1 then x / 4294967296 else if k = p then x % 4294967296 else 0) := fun k => one_digit x p k x0 x1
  simp only [World.size_alloc] at O0
  have hp0 : (0 : Int) ≤ (p : Int) := by omega
  have hp6 : (p : Int) < 6 := by omega
  have hp7 : (p : Int) + 1 < 6 := by omega
  have d1 := Int.tdiv_eq_ediv_of_nonneg (b := 4294967296) x0
  have d2 := Int.tmod_eq_emod_of_nonneg (b := 4294967296) x0
  have d3 := wrap_small (x / 4294967296) (by omega) (by omega)
  have d4 := wrap_small (x % 4294967296) (by omega) (by omega)
  go_enter Try.func42, Try.ntmps42
  go_upto_region 2 with fail
  generalize (w.alloc (.cells #[.int .u64 0, .int .u64 0, .int .u64 0, .int .u64 0, .int .u64 0, .int .u64 0] 66)).alloc (.cells #[.int .u64 0, .int .u64 0, .int .u64 0, .int .u64 0, .int .u64 0, .int .u64 0] 66) = w1 at *
  have o0 := O0.c p (by omega)
  have f0 := O0.f p (by omega)
  have o1 := (O0.set p (by omega) (x % 4294967296)).c (p + 1) (by omega)
  have f1 := (O0.set p (by omega) (x % 4294967296)).f (p + 1) (by omega)
  rw [if_neg (by omega)] at o1
  have N := (O0.set p (by omega) (x % 4294967296)).set (p + 1) (by omega) (x / 4294967296)
  have N1 := (R0.far (p := ⟨w.heap.size + 1, p, none⟩) (.int .u64 (x % 4294967296)) (by dsimp only; omega)).far (p := ⟨w.heap.size + 1, p + 1, none⟩) (.int .u64 (x / 4294967296)) (by dsimp only; omega)
  have NW := (W0.setCell (p := ⟨w.heap.size + 1, p, none⟩) (by dsimp only; omega) (.int .u64 (x % 4294967296))).setCell (p := ⟨w.heap.size + 1, p + 1, none⟩) (by dsimp only; omega) (.int .u64 (x / 4294967296))
  clear R0 O0 W0
  go_upto_region 3 with fail
  generalize w1.setCell ⟨w.heap.size + 1, p, none⟩ (.int .u64 (x % 4294967296)) = w2 at *
  clear o0 f0
  go_upto_region 4 with fail
  generalize w2.setCell ⟨w.heap.size + 1, p + 1, none⟩ (.int .u64 (x / 4294967296)) = w3 at *
  replace N := N.cong (y := dg (x * 2 ^ (32 * p))) fun k hk => (OD.out k).symm
  clear o1 f1 OD
  have c0 := N.c 0 (by omega)
  have c1 := N.c 1 (by omega)
  have c2 := N.c 2 (by omega)
  have c3 := N.c 3 (by omega)
  have c4 := N.c 4 (by omega)
  have c5 := N.c 5 (by omega)
  have r0 := N1.c 0 (by omega)
  have r1 := N1.c 1 (by omega)
  have r2 := N1.c 2 (by omega)
  have r3 := N1.c 3 (by omega)
  have r4 := N1.c 4 (by omega)
  have r5 := N1.c 5 (by omega)
  have g0 := N1.f 0 (by omega)
  have g1 := N1.f 1 (by omega)
  have g2 := N1.f 2 (by omega)
  have g3 := N1.f 3 (by omega)
  have g4 := N1.f 4 (by omega)
  have g5 := N1.f 5 (by omega)
  clear N N1
  go_wp2
  exact bodyPost_ret (v := .agg #[.int .u64 (dg (x * 2 ^ (32 * p)) 0), .int .u64 (dg (x * 2 ^ (32 * p)) 1), .int .u64 (dg (x * 2 ^ (32 * p)) 2), .int .u64 (dg (x * 2 ^ (32 * p)) 3), .int .u64 (dg (x * 2 ^ (32 * p)) 4), .int .u64 (dg (x * 2 ^ (32 * p)) 5)]) (by simp [results, Try.results42, go_sem, r0, r1, r2, r3, r4, r5]) rfl ⟨rfl, (((((NW.setCell (by dsimp only; omega) _).setCell (by dsimp only; omega) _).setCell (by dsimp only; omega) _).setCell (by dsimp only; omega) _).setCell (by dsimp only; omega) _).setCell (by dsimp only; omega) _⟩
end Go.Proofs.Ytfcneciknldohaa
/-
  Contracts of regattaref02's Clamp and Whole.
-/
set_option linter.unusedVariables false
set_option linter.unusedSimpArgs false
namespace Go.Proofs.Ytfcneciknldohaa
open Go.RowKit

theorem dg_big (m : Int) (k : Nat) (hk : 2 ≤ k) (m0 : 0 ≤ m) (h : dg m k ≠ 0) : 18446744073709551616 ≤ m := by
  rcases Int.lt_or_le m 18446744073709551616 with h1 | h1
  · exfalso
    apply h
    unfold dg
    have hp : (18446744073709551616 : Int) ≤ 2 ^ (32 * k) := by
      have h2 : (2 : Nat) ^ 64 ≤ 2 ^ (32 * k) := Nat.pow_le_pow_right (by omega) (by omega)
      have h3 : (((2 : Nat) ^ 64 : Nat) : Int) ≤ (((2 : Nat) ^ (32 * k) : Nat) : Int) := by omega
      rw [Int.natCast_pow, Int.natCast_pow] at h3
      exact h3
    rw [Int.ediv_eq_zero_of_lt m0 (by omega)]
    rfl
  · exact h1
theorem dg_small (m : Int) (m0 : 0 ≤ m) (m1 : m < 6277101735386680763835789423207666416102355444464034512896) (h2 : dg m 2 = 0) (h3 : dg m 3 = 0) (h4 : dg m 4 = 0) (h5 : dg m 5 = 0) : m ≤ 18446744073709551615 ∧ dg m 1 * 4294967296 + dg m 0 = m := by
  have e0 := dg_up m 0
  have e1 := dg_up m 1
  have e2 := dg_up m 2
  have e3 := dg_up m 3
  have e4 := dg_up m 4
  have e5 := dg_up m 5
  have e6 := top_none m m0 m1
  have z0 := dg_rng m 0
  have z1 := dg_rng m 1
  rw [Nat.mul_zero, Int.pow_zero, Int.ediv_one] at e0
  simp only [show 0 + 1 = 1 from rfl, show 1 + 1 = 2 from rfl, show 2 + 1 = 3 from rfl, show 3 + 1 = 4 from rfl, show 4 + 1 = 5 from rfl, show 5 + 1 = 6 from rfl] at e0 e1 e2 e3 e4 e5
  rw [e6, h5] at e5
  rw [e5, h4] at e4
  rw [e4, h3] at e3
  rw [e3, h2] at e2
  rw [e2] at e1
  omega

set_option maxHeartbeats 2000000 in
theorem sclamp_any (m : Int) (bel : Bool) (m0 : 0 ≤ m) (m1 : m < 6277101735386680763835789423207666416102355444464034512896) (w : World) :
    Calls Try.prog 45 #[.agg #[.int .u64 (dg (m) 0), .int .u64 (dg (m) 1), .int .u64 (dg (m) 2), .int .u64 (dg (m) 3), .int .u64 (dg (m) 4), .int .u64 (dg (m) 5)], .bool bel] w fun e w' => e = .returned (.tuple #[.int .i64 (clv (if bel = true then -m else m)), .bool (ovv (if bel = true then -m else m))]) ∧ Below w.heap.size w w' := by
  obtain ⟨p1, p2⟩ := dg_rng m 0
  obtain ⟨p3, p4⟩ := dg_rng m 1
  have k1 := wrap_small (dg m 1 * 4294967296) (by omega) (by omega)
  have k2 := wrap_small (dg m 1 * 4294967296 + dg m 0) (by omega) (by omega)
  have hS := dg_small m m0 m1
  have h2 := dg_big m 2 (by omega) m0
  have h3 := dg_big m 3 (by omega) m0
  have h4 := dg_big m 4 (by omega) m0
  have h5 := dg_big m 5 (by omega) m0
  generalize dg m 0 = d0 at *
  generalize dg m 1 = d1 at *
  generalize dg m 2 = d2 at *
  generalize dg m 3 = d3 at *
  generalize dg m 4 = d4 at *
  generalize dg m 5 = d5 at *
  by_cases hov : d2 = 0 ∧ d3 = 0 ∧ d4 = 0 ∧ d5 = 0
  · obtain ⟨rfl, rfl, rfl, rfl⟩ := hov
    obtain ⟨hm, hn⟩ := hS rfl rfl rfl rfl
    clear h2 h3 h4 h5 hS
    have n0 : 0 ≤ d1 * 4294967296 + d0 := by omega
    have n1 : d1 * 4294967296 + d0 ≤ 18446744073709551615 := by omega
    subst hn
    clear hm m0 m1
    cases bel
    · rw [if_neg (by simp)]
      by_cases hc : 9223372036854775808 ≤ d1 * 4294967296 + d0
      · have HV : Hid (clv (d1 * 4294967296 + d0) = 9223372036854775807 ∧ ovv (d1 * 4294967296 + d0) = true) := clv_hi (d1 * 4294967296 + d0) (by omega)
        go_enter Try.func45, Try.ntmps45
        go_wp2
        go_ret2
        exact ⟨by rw [HV.out.1, HV.out.2]; rfl, bel1 _ _⟩
      · have HV : Hid (clv (d1 * 4294967296 + d0) = d1 * 4294967296 + d0 ∧ ovv (d1 * 4294967296 + d0) = false) := clv_in (d1 * 4294967296 + d0) (by omega) (by omega)
        have k3 : IntKind.i64.wrap (d1 * 4294967296 + d0) = d1 * 4294967296 + d0 := by rw [IntKind.wrap_i64]; omega
        have hc' : d1 * 4294967296 + d0 < 9223372036854775808 := by omega
        go_enter Try.func45, Try.ntmps45
        go_wp2
        go_ret2
        exact ⟨by rw [HV.out.1, HV.out.2]; first | rfl | (simp [k3]; done), bel1 _ _⟩
    · rw [if_pos rfl]
      by_cases hc : 9223372036854775808 < d1 * 4294967296 + d0
      · have HV : Hid (clv (-(d1 * 4294967296 + d0)) = -9223372036854775808 ∧ ovv (-(d1 * 4294967296 + d0)) = true) := clv_lo (-(d1 * 4294967296 + d0)) (by omega)
        go_enter Try.func45, Try.ntmps45
        go_wp2
        go_ret2
        exact ⟨by rw [HV.out.1, HV.out.2]; rfl, bel1 _ _⟩
      · have HV : Hid (clv (-(d1 * 4294967296 + d0)) = -(d1 * 4294967296 + d0) ∧ ovv (-(d1 * 4294967296 + d0)) = false) := clv_in (-(d1 * 4294967296 + d0)) (by omega) (by omega)
        have k3 : IntKind.i64.wrap (IntKind.u64.wrap (-(d1 * 4294967296 + d0))) = -(d1 * 4294967296 + d0) := by rw [IntKind.wrap_i64, IntKind.wrap_u64]; omega
        have hc' : d1 * 4294967296 + d0 ≤ 9223372036854775808 := by omega
        go_enter Try.func45, Try.ntmps45
        go_wp2
        go_ret2
        exact ⟨by rw [HV.out.1, HV.out.2]; first | rfl | (simp [k3]; done), bel1 _ _⟩
  · have hbig : 18446744073709551616 ≤ m := by
      by_cases g2 : d2 = 0
      · by_cases g3 : d3 = 0
        · by_cases g4 : d4 = 0
          · by_cases g5 : d5 = 0
            · exact absurd ⟨g2, g3, g4, g5⟩ hov
            · exact h5 g5
          · exact h4 g4
        · exact h3 g3
      · exact h2 g2
    clear h2 h3 h4 h5 hS
    have hcase : (¬ d2 = 0) ∨ (d2 = 0 ∧ ¬ d3 = 0) ∨ (d2 = 0 ∧ d3 = 0 ∧ ¬ d4 = 0) ∨ (d2 = 0 ∧ d3 = 0 ∧ d4 = 0 ∧ ¬ d5 = 0) := by
      by_cases g2 : d2 = 0
      · by_cases g3 : d3 = 0
        · by_cases g4 : d4 = 0
          · by_cases g5 : d5 = 0
            · exact absurd ⟨g2, g3, g4, g5⟩ hov
            · exact .inr (.inr (.inr ⟨g2, g3, g4, g5⟩))
          · exact .inr (.inr (.inl ⟨g2, g3, g4⟩))
        · exact .inr (.inl ⟨g2, g3⟩)
      · exact .inl g2
    clear hov
    cases bel
    · rw [if_neg (by simp)]
      have HV : Hid (clv m = 9223372036854775807 ∧ ovv m = true) := clv_hi m (by omega)
      clear hbig m0 m1
      rcases hcase with g2 | ⟨rfl, g3⟩ | ⟨rfl, rfl, g4⟩ | ⟨rfl, rfl, rfl, g5⟩
      all_goals
        go_enter Try.func45, Try.ntmps45
        go_wp2
        go_ret2
        exact ⟨by rw [HV.out.1, HV.out.2]; rfl, bel1 _ _⟩
    · rw [if_pos rfl]
      have HV : Hid (clv (-m) = -9223372036854775808 ∧ ovv (-m) = true) := clv_lo (-m) (by omega)
      clear hbig m0 m1
      rcases hcase with g2 | ⟨rfl, g3⟩ | ⟨rfl, rfl, g4⟩ | ⟨rfl, rfl, rfl, g5⟩
      all_goals
        go_enter Try.func45, Try.ntmps45
        go_wp2
        go_ret2
        exact ⟨by rw [HV.out.1, HV.out.2]; rfl, bel1 _ _⟩
end Go.Proofs.Ytfcneciknldohaa
/-
  Contracts of regattaref02's sums: Whole.
-/
set_option linter.unusedVariables false
set_option linter.unusedSimpArgs false
namespace Go.Proofs.Ytfcneciknldohaa
open Go.RowKit

/-- A block of twelve cells. -/
structure B12 (b : Nat) (x y : Nat → Int) (w : World) : Prop where
  c : ∀ k, k < 6 → w.cell? ⟨b, k, none⟩ = some (.int .u64 (x k))
  d : ∀ k, k < 6 → w.cell? ⟨b, 6 + k, none⟩ = some (.int .u64 (y k))
  f : ∀ k, k < 6 → w.frozen? ⟨b, k, none⟩ = false
  g : ∀ k, k < 6 → w.frozen? ⟨b, 6 + k, none⟩ = false
theorem B12.new (w : World) (x y : Nat → Int) (t : TypeId) : B12 w.heap.size x y (w.alloc (.cells #[.int .u64 (x 0), .int .u64 (x 1), .int .u64 (x 2), .int .u64 (x 3), .int .u64 (x 4), .int .u64 (x 5), .int .u64 (y 0), .int .u64 (y 1), .int .u64 (y 2), .int .u64 (y 3), .int .u64 (y 4), .int .u64 (y 5)] t)) :=
  ⟨six (by simp [go_sem]) (by simp [go_sem]) (by simp [go_sem]) (by simp [go_sem]) (by simp [go_sem]) (by simp [go_sem]), six (by simp [go_sem]) (by simp [go_sem]) (by simp [go_sem]) (by simp [go_sem]) (by simp [go_sem]) (by simp [go_sem]), six (by simp [go_sem]) (by simp [go_sem]) (by simp [go_sem]) (by simp [go_sem]) (by simp [go_sem]) (by simp [go_sem]), six (by simp [go_sem]) (by simp [go_sem]) (by simp [go_sem]) (by simp [go_sem]) (by simp [go_sem]) (by simp [go_sem])⟩
theorem B12.later {b : Nat} {x y : Nat → Int} {w w' : World} (h : B12 b x y w) (hb : Below w.heap.size w w') : B12 b x y w' :=
  ⟨fun k hk => cell_later hb (h.c k hk), fun k hk => cell_later hb (h.d k hk), fun k hk => frozen_later hb (h.c k hk) (h.f k hk), fun k hk => frozen_later hb (h.d k hk) (h.g k hk)⟩
theorem B12.lt {b : Nat} {x y : Nat → Int} {w : World} (h : B12 b x y w) : b < w.heap.size := World.block_lt_of_cell? _ _ (h.c 0 (by omega))

set_option maxHeartbeats 1000000 in
theorem swhole_any (p n : Int) (p0 : 0 ≤ p) (p1 : p < 6277101735386680763835789423207666416102355444464034512896) (n0 : 0 ≤ n) (n1 : n < 6277101735386680763835789423207666416102355444464034512896) (w : World) :
    Calls Try.prog 43 #[.agg #[.int .u64 (dg (p) 0), .int .u64 (dg (p) 1), .int .u64 (dg (p) 2), .int .u64 (dg (p) 3), .int .u64 (dg (p) 4), .int .u64 (dg (p) 5), .int .u64 (dg (n) 0), .int .u64 (dg (n) 1), .int .u64 (dg (n) 2), .int .u64 (dg (n) 3), .int .u64 (dg (n) 4), .int .u64 (dg (n) 5)]] w fun e w' => e = .returned (.tuple #[.agg #[.int .u64 (dg (ab (p - n)) 0), .int .u64 (dg (ab (p - n)) 1), .int .u64 (dg (ab (p - n)) 2), .int .u64 (dg (ab (p - n)) 3), .int .u64 (dg (ab (p - n)) 4), .int .u64 (dg (ab (p - n)) 5)], .bool (decide (p - n < 0))]) ∧ Below w.heap.size w w' := by
  have A0 := (B12.new w (dg p) (dg n) 68).later (bel1 _ (.cells #[.int .u64 0, .int .u64 0, .int .u64 0, .int .u64 0, .int .u64 0, .int .u64 0] 66))
  have R0 := B6.new (w.alloc (.cells #[.int .u64 (dg (p) 0), .int .u64 (dg (p) 1), .int .u64 (dg (p) 2), .int .u64 (dg (p) 3), .int .u64 (dg (p) 4), .int .u64 (dg (p) 5), .int .u64 (dg (n) 0), .int .u64 (dg (n) 1), .int .u64 (dg (n) 2), .int .u64 (dg (n) 3), .int .u64 (dg (n) 4), .int .u64 (dg (n) 5)] 68)) (fun _ => 0) 66
  have W0 := bel2 w (.cells #[.int .u64 (dg (p) 0), .int .u64 (dg (p) 1), .int .u64 (dg (p) 2), .int .u64 (dg (p) 3), .int .u64 (dg (p) 4), .int .u64 (dg (p) 5), .int .u64 (dg (n) 0), .int .u64 (dg (n) 1), .int .u64 (dg (n) 2), .int .u64 (dg (n) 3), .int .u64 (dg (n) 4), .int .u64 (dg (n) 5)] 68) (.cells #[.int .u64 0, .int .u64 0, .int .u64 0, .int .u64 0, .int .u64 0, .int .u64 0] 66)
  simp only [World.size_alloc] at R0
  go_enter Try.func43, Try.ntmps43
  go_wp2_with fail
  refine (sless_any p n p0 p1 n0 n1 _).mono ?_
  rintro e w1 ⟨rfl, hb⟩
  have A1 := A0.later hb
  have R1 := R0.later hb
  have W1 := bchain W0 hb
  clear hb A0 R0 W0
  have x0 : w1.cell? ⟨w.heap.size, 0, none⟩ = some (.int .u64 (dg p 0)) := A1.c 0 (by omega)
  have x1 : w1.cell? ⟨w.heap.size, 1, none⟩ = some (.int .u64 (dg p 1)) := A1.c 1 (by omega)
  have x2 : w1.cell? ⟨w.heap.size, 2, none⟩ = some (.int .u64 (dg p 2)) := A1.c 2 (by omega)
  have x3 : w1.cell? ⟨w.heap.size, 3, none⟩ = some (.int .u64 (dg p 3)) := A1.c 3 (by omega)
  have x4 : w1.cell? ⟨w.heap.size, 4, none⟩ = some (.int .u64 (dg p 4)) := A1.c 4 (by omega)
  have x5 : w1.cell? ⟨w.heap.size, 5, none⟩ = some (.int .u64 (dg p 5)) := A1.c 5 (by omega)
  have x6 : w1.cell? ⟨w.heap.size, 6, none⟩ = some (.int .u64 (dg n 0)) := A1.d 0 (by omega)
  have x7 : w1.cell? ⟨w.heap.size, 7, none⟩ = some (.int .u64 (dg n 1)) := A1.d 1 (by omega)
  have x8 : w1.cell? ⟨w.heap.size, 8, none⟩ = some (.int .u64 (dg n 2)) := A1.d 2 (by omega)
  have x9 : w1.cell? ⟨w.heap.size, 9, none⟩ = some (.int .u64 (dg n 3)) := A1.d 3 (by omega)
  have x10 : w1.cell? ⟨w.heap.size, 10, none⟩ = some (.int .u64 (dg n 4)) := A1.d 4 (by omega)
  have x11 : w1.cell? ⟨w.heap.size, 11, none⟩ = some (.int .u64 (dg n 5)) := A1.d 5 (by omega)
  by_cases hl : p < n
  · have HV : Hid (ab (p - n) = n - p ∧ decide (p - n < 0) = true) := ⟨by unfold ab; rw [if_pos (by omega)]; omega, decide_eq_true (by omega)⟩
    go_wp2_with fail
    refine (sminus_any n p _).mono ?_
    rintro e w2 ⟨rfl, hb⟩
    have R2 := R1.later hb
    have W2 := bchain W1 hb
    have r0 := R2.c 0 (by omega)
    have r1 := R2.c 1 (by omega)
    have r2 := R2.c 2 (by omega)
    have r3 := R2.c 3 (by omega)
    have r4 := R2.c 4 (by omega)
    have r5 := R2.c 5 (by omega)
    have g0 := R2.f 0 (by omega)
    have g1 := R2.f 1 (by omega)
    have g2 := R2.f 2 (by omega)
    have g3 := R2.f 3 (by omega)
    have g4 := R2.f 4 (by omega)
    have g5 := R2.f 5 (by omega)
    clear hb R1 R2 A1 W1 x0 x1 x2 x3 x4 x5 x6 x7 x8 x9 x10 x11
    go_wp2
    exact bodyPost_ret (v := .tuple #[.agg #[.int .u64 (dg (ab (p - n)) 0), .int .u64 (dg (ab (p - n)) 1), .int .u64 (dg (ab (p - n)) 2), .int .u64 (dg (ab (p - n)) 3), .int .u64 (dg (ab (p - n)) 4), .int .u64 (dg (ab (p - n)) 5)], .bool (decide (p - n < 0))]) (by rw [HV.out.1, HV.out.2]; simp [results, Try.results43, go_sem, r0, r1, r2, r3, r4, r5]) rfl ⟨rfl, ((((((W2).setCell (by dsimp only; omega) _).setCell (by dsimp only; omega) _).setCell (by dsimp only; omega) _).setCell (by dsimp only; omega) _).setCell (by dsimp only; omega) _).setCell (by dsimp only; omega) _⟩
  · have HV : Hid (ab (p - n) = p - n ∧ decide (p - n < 0) = false) := ⟨by unfold ab; rw [if_neg (by omega)], decide_eq_false (by omega)⟩
    go_wp2_with fail
    refine (sminus_any p n _).mono ?_
    rintro e w2 ⟨rfl, hb⟩
    have R2 := R1.later hb
    have W2 := bchain W1 hb
    have r0 := R2.c 0 (by omega)
    have r1 := R2.c 1 (by omega)
    have r2 := R2.c 2 (by omega)
    have r3 := R2.c 3 (by omega)
    have r4 := R2.c 4 (by omega)
    have r5 := R2.c 5 (by omega)
    have g0 := R2.f 0 (by omega)
    have g1 := R2.f 1 (by omega)
    have g2 := R2.f 2 (by omega)
    have g3 := R2.f 3 (by omega)
    have g4 := R2.f 4 (by omega)
    have g5 := R2.f 5 (by omega)
    clear hb R1 R2 A1 W1 x0 x1 x2 x3 x4 x5 x6 x7 x8 x9 x10 x11
    go_wp2
    exact bodyPost_ret (v := .tuple #[.agg #[.int .u64 (dg (ab (p - n)) 0), .int .u64 (dg (ab (p - n)) 1), .int .u64 (dg (ab (p - n)) 2), .int .u64 (dg (ab (p - n)) 3), .int .u64 (dg (ab (p - n)) 4), .int .u64 (dg (ab (p - n)) 5)], .bool (decide (p - n < 0))]) (by rw [HV.out.1, HV.out.2]; simp [results, Try.results43, go_sem, r0, r1, r2, r3, r4, r5]) rfl ⟨rfl, ((((((W2).setCell (by dsimp only; omega) _).setCell (by dsimp only; omega) _).setCell (by dsimp only; omega) _).setCell (by dsimp only; omega) _).setCell (by dsimp only; omega) _).setCell (by dsimp only; omega) _⟩
end Go.Proofs.Ytfcneciknldohaa
/-
  The contract of regattaref02's Round.
-/
set_option linter.unusedVariables false
set_option linter.unusedSimpArgs false
namespace Go.Proofs.Ytfcneciknldohaa
open Go.RowKit

theorem B6.all {b : Nat} {x : Nat → Int} {w : World} (h : B6 b x w) (y : Nat → Int) : B6 b y ((((((w.setCell ⟨b, 0, none⟩ (.int .u64 (y 0))).setCell ⟨b, 1, none⟩ (.int .u64 (y 1))).setCell ⟨b, 2, none⟩ (.int .u64 (y 2))).setCell ⟨b, 3, none⟩ (.int .u64 (y 3))).setCell ⟨b, 4, none⟩ (.int .u64 (y 4))).setCell ⟨b, 5, none⟩ (.int .u64 (y 5))) :=
  ((((((h.set 0 (by omega) (y 0)).set 1 (by omega) (y 1)).set 2 (by omega) (y 2)).set 3 (by omega) (y 3)).set 4 (by omega) (y 4)).set 5 (by omega) (y 5)).cong (six (by simp) (by simp) (by simp) (by simp) (by simp) (by simp))
theorem bel6 {w w' : World} {base b : Nat} (h : Below base w w') (hb : base ≤ b) (y : Nat → Int) : Below base w ((((((w'.setCell ⟨b, 0, none⟩ (.int .u64 (y 0))).setCell ⟨b, 1, none⟩ (.int .u64 (y 1))).setCell ⟨b, 2, none⟩ (.int .u64 (y 2))).setCell ⟨b, 3, none⟩ (.int .u64 (y 3))).setCell ⟨b, 4, none⟩ (.int .u64 (y 4))).setCell ⟨b, 5, none⟩ (.int .u64 (y 5))) :=
  ((((((h).setCell (by dsimp only; omega) _).setCell (by dsimp only; omega) _).setCell (by dsimp only; omega) _).setCell (by dsimp only; omega) _).setCell (by dsimp only; omega) _).setCell (by dsimp only; omega) _
theorem hidD' {a b c : World} (h : Hid (Below a.heap.size a b)) (k : Below b.heap.size b c) : Hid (Below a.heap.size a c) := bchain h.out k
theorem sclamp_to (m : Int) (bel : Bool) (T : Int) (h : (if bel = true then -m else m) = T) (m0 : 0 ≤ m) (m1 : m < 6277101735386680763835789423207666416102355444464034512896) (w : World) :
    Calls Try.prog 45 #[.agg #[.int .u64 (dg (m) 0), .int .u64 (dg (m) 1), .int .u64 (dg (m) 2), .int .u64 (dg (m) 3), .int .u64 (dg (m) 4), .int .u64 (dg (m) 5)], .bool bel] w fun e w' => e = .returned (.tuple #[.int .i64 (clv T), .bool (ovv T)]) ∧ Below w.heap.size w w' := by
  rw [← h]
  exact sclamp_any m bel m0 m1 w
theorem sone_10 (w : World) : Calls Try.prog 42 #[.int .u64 1, .int .i64 0] w fun e w' => e = .returned (.agg #[.int .u64 (dg (1) 0), .int .u64 (dg (1) 1), .int .u64 (dg (1) 2), .int .u64 (dg (1) 3), .int .u64 (dg (1) 4), .int .u64 (dg (1) 5)]) ∧ Below w.heap.size w w' := by
  have h := sone_any 1 0 (by omega) (by omega) (by omega) w
  rw [show (1 : Int) * 2 ^ (32 * 0) = 1 from rfl] at h
  exact h
theorem dg0_par (v : Int) : dg v 0 % 2 = v % 2 := by unfold dg; rw [Nat.mul_zero, Int.pow_zero, Int.ediv_one]; omega
theorem ab_ge' (v : Int) : 0 ≤ ab v := by unfold ab; split <;> omega

set_option maxHeartbeats 2000000 in
theorem sround_any (p q : Int) (n : Nat) (hn : n ≤ 1000) (p0 : 0 ≤ p) (p1 : p < 3138550867693340381917894711603833208051177722232017256448) (q0 : 0 ≤ q) (q1 : q < 3138550867693340381917894711603833208051177722232017256448) (w : World) :
    Calls Try.prog 26 #[.agg #[.int .u64 (dg (p) 0), .int .u64 (dg (p) 1), .int .u64 (dg (p) 2), .int .u64 (dg (p) 3), .int .u64 (dg (p) 4), .int .u64 (dg (p) 5), .int .u64 (dg (q) 0), .int .u64 (dg (q) 1), .int .u64 (dg (q) 2), .int .u64 (dg (q) 3), .int .u64 (dg (q) 4), .int .u64 (dg (q) 5)], .int .i64 (n : Int)] w fun e w' => e = .returned (.tuple #[.int .i64 (clv (rr (p - q) n)), .bool (ovv (rr (p - q) n))]) ∧ Below w.heap.size w w' := by
  have W0 := bel1 w (.cells #[.int .u64 (dg (p) 0), .int .u64 (dg (p) 1), .int .u64 (dg (p) 2), .int .u64 (dg (p) 3), .int .u64 (dg (p) 4), .int .u64 (dg (p) 5), .int .u64 (dg (q) 0), .int .u64 (dg (q) 1), .int .u64 (dg (q) 2), .int .u64 (dg (q) 3), .int .u64 (dg (q) 4), .int .u64 (dg (q) 5)] 68)
  go_enter Try.func26, Try.ntmps26
  go_wp2_with fail
  refine (swhole_any p q p0 (by omega) q0 (by omega) _).mono ?_
  rintro e w1 ⟨rfl, hb⟩
  have W1 := bchain W0 hb
  clear hb W0
  have HF : Hid ((if decide (p - q < 0) = true then -(rr (ab (p - q)) n) else rr (ab (p - q)) n) = rr (p - q) n) := rr_sign (p - q) n
  have M0 := ab_ge' (p - q)
  have M1 : ab (p - q) < 3138550867693340381917894711603833208051177722232017256448 := by unfold ab; split <;> omega
  generalize ab (p - q) = M at *
  generalize decide (p - q < 0) = bel at *
  clear p0 p1 q0 q1
  have D0 := B6.new w1 (dg M) 66
  have V0 := bchain W1 (bel1 w1 (.cells #[.int .u64 (dg (M) 0), .int .u64 (dg (M) 1), .int .u64 (dg (M) 2), .int .u64 (dg (M) 3), .int .u64 (dg (M) 4), .int .u64 (dg (M) 5)] 66))
  have hd := W1.size
  clear W1
  go_wp2
  generalize w1.alloc (.cells #[.int .u64 (dg (M) 0), .int .u64 (dg (M) 1), .int .u64 (dg (M) 2), .int .u64 (dg (M) 3), .int .u64 (dg (M) 4), .int .u64 (dg (M) 5)] 66) = w2 at *
  generalize w1.heap.size = d at *
  go_loopw [8, 9, 10] (fun l r i wr => ∃ j : Nat, j ≤ n ∧ i = .int .i64 (j : Int) ∧ l = .int .u64 (lastB M j) ∧ r = .int .u64 (restB M j) ∧ B6 d (dg (M / 2 ^ j)) wr ∧ Below w.heap.size w wr) (fun _ _ i _ => n - (intOf i).toNat)
  case atStart => exact ⟨0, by omega, rfl, rfl, by unfold restB; rw [if_pos (by omega)], by rw [Int.pow_zero, Int.ediv_one]; exact D0, V0⟩
  case round =>
    clear D0 V0
    obtain ⟨j, hj, rfl, rfl, rfl, hD, hW⟩ := hrel
    have hp := pow_pos' j
    have m0 : 0 ≤ M / 2 ^ j := Int.ediv_nonneg M0 (by omega)
    have m1 : M / 2 ^ j ≤ M := Int.ediv_le_self _ M0
    by_cases hlt : (j : Int) < (n : Int)
    · have hor := rest_step M j
      have HL : Hid (M / 2 ^ j % 2 = lastB M (j + 1)) := by show _ = _; unfold lastB; rw [if_neg (by omega), show j + 1 - 1 = j by omega]
      have HD : Hid (M / 2 ^ j / 2 = M / 2 ^ (j + 1)) := by show _ = _; rw [Int.ediv_ediv_of_nonneg (by omega), Int.pow_succ]
      have x0 := hD.c 0 (by omega)
      have x1 := hD.c 1 (by omega)
      have x2 := hD.c 2 (by omega)
      have x3 := hD.c 3 (by omega)
      have x4 := hD.c 4 (by omega)
      have x5 := hD.c 5 (by omega)
      clear hp
      go_wp2_with fail
      refine (shalf_any (M / 2 ^ j) m0 (by omega) _).mono ?_
      rintro e w3 ⟨rfl, hb⟩
      have D3 := hD.later hb
      have W3 := bchain hW hb
      clear hb hD hW x0 x1 x2 x3 x4 x5 hor
      have x0 := D3.c 0 (by omega)
      have x1 := D3.c 1 (by omega)
      have x2 := D3.c 2 (by omega)
      have x3 := D3.c 3 (by omega)
      have x4 := D3.c 4 (by omega)
      have x5 := D3.c 5 (by omega)
      have f0 := D3.f 0 (by omega)
      have f1 := D3.f 1 (by omega)
      have f2 := D3.f 2 (by omega)
      have f3 := D3.f 3 (by omega)
      have f4 := D3.f 4 (by omega)
      have f5 := D3.f 5 (by omega)
      have D4 := D3.all (dg (M / 2 ^ j / 2))
      have W4 := bel6 W3 hd (dg (M / 2 ^ j / 2))
      clear D3 W3
      go_wp2
      go_roundw
      case rel => exact ⟨j + 1, by omega, by rw [show ((j + 1 : Nat) : Int) = (j : Int) + 1 by omega], by rw [HL.out], rfl, D4.cong fun k hk => by rw [HD.out], W4⟩
      case measure => simp [intOf]; omega
    · obtain rfl : j = n := by omega
      have hU := up_iff M j M0
      have L01 := lastB_01 M j
      have R01 := restB_01 M j
      have hpar := dg0_par (M / 2 ^ j)
      have P01 : M / 2 ^ j % 2 = 0 ∨ M / 2 ^ j % 2 = 1 := by omega
      obtain ⟨z0, z1⟩ := dg_rng (M / 2 ^ j) 0
      have t1 := Int.tmod_eq_emod_of_nonneg (b := 2) z0
      have t2 := wrap_small (dg (M / 2 ^ j) 0 % 2) (by omega) (by omega)
      have hcase : (lastB M j = 0 ∧ rr M j = M / 2 ^ j) ∨ (lastB M j = 1 ∧ restB M j = 0 ∧ dg (M / 2 ^ j) 0 % 2 = 0 ∧ rr M j = M / 2 ^ j) ∨ (lastB M j = 1 ∧ restB M j = 1 ∧ rr M j = M / 2 ^ j + 1) ∨ (lastB M j = 1 ∧ restB M j = 0 ∧ dg (M / 2 ^ j) 0 % 2 = 1 ∧ rr M j = M / 2 ^ j + 1) := by
        rcases L01 with h1 | h1
        · exact .inl ⟨h1, by rw [hU, if_neg (by omega)]⟩
        · rcases R01 with h2 | h2
          · rcases P01 with h3 | h3
            · exact .inr (.inl ⟨h1, h2, by omega, by rw [hU, if_neg (by omega)]⟩)
            · exact .inr (.inr (.inr ⟨h1, h2, by omega, by rw [hU, if_pos (by omega)]⟩))
          · exact .inr (.inr (.inl ⟨h1, h2, by rw [hU, if_pos (by omega)]⟩))
      clear hU L01 R01 hpar P01
      generalize lastB M j = l at *
      generalize restB M j = r at *
      generalize rr M j = Z at *
      generalize M / 2 ^ j = X at *
      rcases hcase with ⟨rfl, hZ⟩ | ⟨rfl, rfl, hb0, hZ⟩ | ⟨rfl, rfl, hZ⟩ | ⟨rfl, rfl, hb1, hZ⟩
      · subst hZ
        have x0 := hD.c 0 (by omega)
        have x1 := hD.c 1 (by omega)
        have x2 := hD.c 2 (by omega)
        have x3 := hD.c 3 (by omega)
        have x4 := hD.c 4 (by omega)
        have x5 := hD.c 5 (by omega)
        clear hD
        go_wp2_with fail
        refine (sclamp_to Z bel _ HF.out m0 (by omega) _).mono ?_
        rintro e w4 ⟨rfl, hb⟩
        have W4 := bchain hW hb
        clear hb hW x0 x1 x2 x3 x4 x5
        go_wp2
        go_ret2
        exact ⟨rfl, W4⟩
      · subst hZ
        have x0 := hD.c 0 (by omega)
        have x1 := hD.c 1 (by omega)
        have x2 := hD.c 2 (by omega)
        have x3 := hD.c 3 (by omega)
        have x4 := hD.c 4 (by omega)
        have x5 := hD.c 5 (by omega)
        clear hD
        go_wp2_with fail
        refine (sclamp_to Z bel _ HF.out m0 (by omega) _).mono ?_
        rintro e w4 ⟨rfl, hb⟩
        have W4 := bchain hW hb
        clear hb hW x0 x1 x2 x3 x4 x5
        go_wp2
        go_ret2
        exact ⟨rfl, W4⟩
      all_goals
        subst hZ
        have CD := hD.later ((Below.refl _ _).drew : Below wr.heap.size wr wr.drew)
        have CV : Hid (Below w.heap.size w wr.drew) := hW.drew
        have x0 := hD.c 0 (by omega)
        have x1 := hD.c 1 (by omega)
        have x2 := hD.c 2 (by omega)
        have x3 := hD.c 3 (by omega)
        have x4 := hD.c 4 (by omega)
        have x5 := hD.c 5 (by omega)
        go_upto_region 10 with fail
        clear x0 x1 x2 x3 x4 x5 hD hW
        have x0 := CD.c 0 (by omega)
        have x1 := CD.c 1 (by omega)
        have x2 := CD.c 2 (by omega)
        have x3 := CD.c 3 (by omega)
        have x4 := CD.c 4 (by omega)
        have x5 := CD.c 5 (by omega)
        have f0 := CD.f 0 (by omega)
        have f1 := CD.f 1 (by omega)
        have f2 := CD.f 2 (by omega)
        have f3 := CD.f 3 (by omega)
        have f4 := CD.f 4 (by omega)
        have f5 := CD.f 5 (by omega)
        go_region_with (first
          | (go_at_call 42; refine (sone_10 _).mono ?_; rintro e wz ⟨rfl, hb⟩; clear x0 x1 x2 x3 x4 x5 f0 f1 f2 f3 f4 f5; replace CD := CD.later hb; replace CV := hidD' CV hb; clear hb; have x0 := CD.c 0 (by omega); have x1 := CD.c 1 (by omega); have x2 := CD.c 2 (by omega); have x3 := CD.c 3 (by omega); have x4 := CD.c 4 (by omega); have x5 := CD.c 5 (by omega); have f0 := CD.f 0 (by omega); have f1 := CD.f 1 (by omega); have f2 := CD.f 2 (by omega); have f3 := CD.f 3 (by omega); have f4 := CD.f 4 (by omega); have f5 := CD.f 5 (by omega))
          | (go_at_call 41; refine (splus_any X 1 _).mono ?_; rintro e wz ⟨rfl, hb⟩; clear x0 x1 x2 x3 x4 x5 f0 f1 f2 f3 f4 f5; replace CD := CD.later hb; replace CV := hidD' CV hb; clear hb; have x0 := CD.c 0 (by omega); have x1 := CD.c 1 (by omega); have x2 := CD.c 2 (by omega); have x3 := CD.c 3 (by omega); have x4 := CD.c 4 (by omega); have x5 := CD.c 5 (by omega); have f0 := CD.f 0 (by omega); have f1 := CD.f 1 (by omega); have f2 := CD.f 2 (by omega); have f3 := CD.f 3 (by omega); have f4 := CD.f 4 (by omega); have f5 := CD.f 5 (by omega)))
        all_goals
          have D5 := CD.all (dg (X + 1))
          have W5 := bel6 CV.out hd (dg (X + 1))
          clear CD CV x0 x1 x2 x3 x4 x5 f0 f1 f2 f3 f4 f5
          generalize hw10 : (((((wz.setCell ⟨d, 0, none⟩ (.int .u64 (dg (X + 1) 0))).setCell ⟨d, 1, none⟩ (.int .u64 (dg (X + 1) 1))).setCell ⟨d, 2, none⟩ (.int .u64 (dg (X + 1) 2))).setCell ⟨d, 3, none⟩ (.int .u64 (dg (X + 1) 3))).setCell ⟨d, 4, none⟩ (.int .u64 (dg (X + 1) 4))).setCell ⟨d, 5, none⟩ (.int .u64 (dg (X + 1) 5)) = w10 at *
          clear hw10
          have x0 := D5.c 0 (by omega)
          have x1 := D5.c 1 (by omega)
          have x2 := D5.c 2 (by omega)
          have x3 := D5.c 3 (by omega)
          have x4 := D5.c 4 (by omega)
          have x5 := D5.c 5 (by omega)
          clear D5
          go_wp2_with fail
          refine (sclamp_to (X + 1) bel _ HF.out (by omega) (by omega) _).mono ?_
          rintro e w4 ⟨rfl, hb⟩
          have W4 := bchain W5 hb
          clear hb W5 x0 x1 x2 x3 x4 x5
          go_wp2
          go_ret2
          exact ⟨rfl, W4⟩
end Go.Proofs.Ytfcneciknldohaa
/-
  The contract of regattaref02's sums' Add.
-/
set_option linter.unusedVariables false
set_option linter.unusedSimpArgs false
namespace Go.Proofs.Ytfcneciknldohaa
open Go.RowKit

theorem B12.allP {b : Nat} {x y : Nat → Int} {w : World} (h : B12 b x y w) (z : Nat → Int) : B12 b z y ((((((w.setCell ⟨b, 0, none⟩ (.int .u64 (z 0))).setCell ⟨b, 1, none⟩ (.int .u64 (z 1))).setCell ⟨b, 2, none⟩ (.int .u64 (z 2))).setCell ⟨b, 3, none⟩ (.int .u64 (z 3))).setCell ⟨b, 4, none⟩ (.int .u64 (z 4))).setCell ⟨b, 5, none⟩ (.int .u64 (z 5))) := by
  have x0 : w.cell? ⟨b, 0, none⟩ = some (.int .u64 (x 0)) := h.c 0 (by omega)
  have x1 : w.cell? ⟨b, 1, none⟩ = some (.int .u64 (x 1)) := h.c 1 (by omega)
  have x2 : w.cell? ⟨b, 2, none⟩ = some (.int .u64 (x 2)) := h.c 2 (by omega)
  have x3 : w.cell? ⟨b, 3, none⟩ = some (.int .u64 (x 3)) := h.c 3 (by omega)
  have x4 : w.cell? ⟨b, 4, none⟩ = some (.int .u64 (x 4)) := h.c 4 (by omega)
  have x5 : w.cell? ⟨b, 5, none⟩ = some (.int .u64 (x 5)) := h.c 5 (by omega)
  have x6 : w.cell? ⟨b, 6, none⟩ = some (.int .u64 (y 0)) := h.d 0 (by omega)
  have x7 : w.cell? ⟨b, 7, none⟩ = some (.int .u64 (y 1)) := h.d 1 (by omega)
  have x8 : w.cell? ⟨b, 8, none⟩ = some (.int .u64 (y 2)) := h.d 2 (by omega)
  have x9 : w.cell? ⟨b, 9, none⟩ = some (.int .u64 (y 3)) := h.d 3 (by omega)
  have x10 : w.cell? ⟨b, 10, none⟩ = some (.int .u64 (y 4)) := h.d 4 (by omega)
  have x11 : w.cell? ⟨b, 11, none⟩ = some (.int .u64 (y 5)) := h.d 5 (by omega)
  refine ⟨six ?_ ?_ ?_ ?_ ?_ ?_, six ?_ ?_ ?_ ?_ ?_ ?_, fun k hk => ?_, fun k hk => ?_⟩
  all_goals first | (simp [go_sem, x0, x1, x2, x3, x4, x5, x6, x7, x8, x9, x10, x11]; done) | (simp only [World.frozen?_setCell]; first | exact h.f k hk | exact h.g k hk)
theorem B12.allN {b : Nat} {x y : Nat → Int} {w : World} (h : B12 b x y w) (z : Nat → Int) : B12 b x z ((((((w.setCell ⟨b, 6, none⟩ (.int .u64 (z 0))).setCell ⟨b, 7, none⟩ (.int .u64 (z 1))).setCell ⟨b, 8, none⟩ (.int .u64 (z 2))).setCell ⟨b, 9, none⟩ (.int .u64 (z 3))).setCell ⟨b, 10, none⟩ (.int .u64 (z 4))).setCell ⟨b, 11, none⟩ (.int .u64 (z 5))) := by
  have x0 : w.cell? ⟨b, 0, none⟩ = some (.int .u64 (x 0)) := h.c 0 (by omega)
  have x1 : w.cell? ⟨b, 1, none⟩ = some (.int .u64 (x 1)) := h.c 1 (by omega)
  have x2 : w.cell? ⟨b, 2, none⟩ = some (.int .u64 (x 2)) := h.c 2 (by omega)
  have x3 : w.cell? ⟨b, 3, none⟩ = some (.int .u64 (x 3)) := h.c 3 (by omega)
  have x4 : w.cell? ⟨b, 4, none⟩ = some (.int .u64 (x 4)) := h.c 4 (by omega)
  have x5 : w.cell? ⟨b, 5, none⟩ = some (.int .u64 (x 5)) := h.c 5 (by omega)
  have x6 : w.cell? ⟨b, 6, none⟩ = some (.int .u64 (y 0)) := h.d 0 (by omega)
  have x7 : w.cell? ⟨b, 7, none⟩ = some (.int .u64 (y 1)) := h.d 1 (by omega)
  have x8 : w.cell? ⟨b, 8, none⟩ = some (.int .u64 (y 2)) := h.d 2 (by omega)
  have x9 : w.cell? ⟨b, 9, none⟩ = some (.int .u64 (y 3)) := h.d 3 (by omega)
  have x10 : w.cell? ⟨b, 10, none⟩ = some (.int .u64 (y 4)) := h.d 4 (by omega)
  have x11 : w.cell? ⟨b, 11, none⟩ = some (.int .u64 (y 5)) := h.d 5 (by omega)
  refine ⟨six ?_ ?_ ?_ ?_ ?_ ?_, six ?_ ?_ ?_ ?_ ?_ ?_, fun k hk => ?_, fun k hk => ?_⟩
  all_goals first | (simp [go_sem, x0, x1, x2, x3, x4, x5, x6, x7, x8, x9, x10, x11]; done) | (simp only [World.frozen?_setCell]; first | exact h.f k hk | exact h.g k hk)
theorem B12.far {b : Nat} {x y : Nat → Int} {w : World} {p : Addr} (h : B12 b x y w) (u : Value) (hp : p.block ≠ b) : B12 b x y (w.setCell p u) :=
  ⟨fun k hk => cell_set hp (h.c k hk), fun k hk => cell_set hp (h.d k hk), fun k hk => by rw [World.frozen?_setCell]; exact h.f k hk, fun k hk => by rw [World.frozen?_setCell]; exact h.g k hk⟩
theorem B12.farP {b d : Nat} {x y : Nat → Int} {w : World} (h : B12 b x y w) (hd : d ≠ b) (z : Nat → Int) : B12 b x y ((((((w.setCell ⟨d, 0, none⟩ (.int .u64 (z 0))).setCell ⟨d, 1, none⟩ (.int .u64 (z 1))).setCell ⟨d, 2, none⟩ (.int .u64 (z 2))).setCell ⟨d, 3, none⟩ (.int .u64 (z 3))).setCell ⟨d, 4, none⟩ (.int .u64 (z 4))).setCell ⟨d, 5, none⟩ (.int .u64 (z 5))) :=
  (((((h.far _ hd).far _ hd).far _ hd).far _ hd).far _ hd).far _ hd
theorem B12.farN {b d : Nat} {x y : Nat → Int} {w : World} (h : B12 b x y w) (hd : d ≠ b) (z : Nat → Int) : B12 b x y ((((((w.setCell ⟨d, 6, none⟩ (.int .u64 (z 0))).setCell ⟨d, 7, none⟩ (.int .u64 (z 1))).setCell ⟨d, 8, none⟩ (.int .u64 (z 2))).setCell ⟨d, 9, none⟩ (.int .u64 (z 3))).setCell ⟨d, 10, none⟩ (.int .u64 (z 4))).setCell ⟨d, 11, none⟩ (.int .u64 (z 5))) :=
  (((((h.far _ hd).far _ hd).far _ hd).far _ hd).far _ hd).far _ hd
theorem bel6N {w w' : World} {base b : Nat} (h : Below base w w') (hb : base ≤ b) (y : Nat → Int) : Below base w ((((((w'.setCell ⟨b, 6, none⟩ (.int .u64 (y 0))).setCell ⟨b, 7, none⟩ (.int .u64 (y 1))).setCell ⟨b, 8, none⟩ (.int .u64 (y 2))).setCell ⟨b, 9, none⟩ (.int .u64 (y 3))).setCell ⟨b, 10, none⟩ (.int .u64 (y 4))).setCell ⟨b, 11, none⟩ (.int .u64 (y 5))) :=
  ((((((h).setCell (by dsimp only; omega) _).setCell (by dsimp only; omega) _).setCell (by dsimp only; omega) _).setCell (by dsimp only; omega) _).setCell (by dsimp only; omega) _).setCell (by dsimp only; omega) _

theorem ab_rng' (a : Int) (a0 : -9223372036854775808 ≤ a) (a1 : a ≤ 9223372036854775807) : 0 ≤ ab a ∧ ab a ≤ 9223372036854775808 := by unfold ab; split <;> omega

set_option maxHeartbeats 2000000 in
theorem sadd_neg (p q a : Int) (k : Nat) (hk : k ≤ 4) (a0 : -9223372036854775808 ≤ a) (a1 : a < 0) (w : World) :
    Calls Try.prog 25 #[.agg #[.int .u64 (dg (p) 0), .int .u64 (dg (p) 1), .int .u64 (dg (p) 2), .int .u64 (dg (p) 3), .int .u64 (dg (p) 4), .int .u64 (dg (p) 5), .int .u64 (dg (q) 0), .int .u64 (dg (q) 1), .int .u64 (dg (q) 2), .int .u64 (dg (q) 3), .int .u64 (dg (q) 4), .int .u64 (dg (q) 5)], .int .i64 a, .int .i64 (k : Int)] w fun e w' => e = .returned (.agg #[.int .u64 (dg (p) 0), .int .u64 (dg (p) 1), .int .u64 (dg (p) 2), .int .u64 (dg (p) 3), .int .u64 (dg (p) 4), .int .u64 (dg (p) 5), .int .u64 (dg (q + ab a * 2 ^ (32 * k)) 0), .int .u64 (dg (q + ab a * 2 ^ (32 * k)) 1), .int .u64 (dg (q + ab a * 2 ^ (32 * k)) 2), .int .u64 (dg (q + ab a * 2 ^ (32 * k)) 3), .int .u64 (dg (q + ab a * 2 ^ (32 * k)) 4), .int .u64 (dg (q + ab a * 2 ^ (32 * k)) 5)]) ∧ Below w.heap.size w w' := by
  have A0 := (B12.new w (dg p) (dg q) 68).later (bel1 _ (.cells #[.int .u64 0, .int .u64 0, .int .u64 0, .int .u64 0, .int .u64 0, .int .u64 0, .int .u64 0, .int .u64 0, .int .u64 0, .int .u64 0, .int .u64 0, .int .u64 0] 68))
  have R0 := B12.new (w.alloc (.cells #[.int .u64 (dg (p) 0), .int .u64 (dg (p) 1), .int .u64 (dg (p) 2), .int .u64 (dg (p) 3), .int .u64 (dg (p) 4), .int .u64 (dg (p) 5), .int .u64 (dg (q) 0), .int .u64 (dg (q) 1), .int .u64 (dg (q) 2), .int .u64 (dg (q) 3), .int .u64 (dg (q) 4), .int .u64 (dg (q) 5)] 68)) (fun _ => 0) (fun _ => 0) 68
  have W0 := bel2 w (.cells #[.int .u64 (dg (p) 0), .int .u64 (dg (p) 1), .int .u64 (dg (p) 2), .int .u64 (dg (p) 3), .int .u64 (dg (p) 4), .int .u64 (dg (p) 5), .int .u64 (dg (q) 0), .int .u64 (dg (q) 1), .int .u64 (dg (q) 2), .int .u64 (dg (q) 3), .int .u64 (dg (q) 4), .int .u64 (dg (q) 5)] 68) (.cells #[.int .u64 0, .int .u64 0, .int .u64 0, .int .u64 0, .int .u64 0, .int .u64 0, .int .u64 0, .int .u64 0, .int .u64 0, .int .u64 0, .int .u64 0, .int .u64 0] 68)
  simp only [World.size_alloc] at R0
  obtain ⟨s0, s1⟩ := ab_rng' a a0 (by omega)
  go_enter Try.func25, Try.ntmps25
  go_upto_region 2 with fail
  generalize (w.alloc (.cells #[.int .u64 (dg (p) 0), .int .u64 (dg (p) 1), .int .u64 (dg (p) 2), .int .u64 (dg (p) 3), .int .u64 (dg (p) 4), .int .u64 (dg (p) 5), .int .u64 (dg (q) 0), .int .u64 (dg (q) 1), .int .u64 (dg (q) 2), .int .u64 (dg (q) 3), .int .u64 (dg (q) 4), .int .u64 (dg (q) 5)] 68)).alloc (.cells #[.int .u64 0, .int .u64 0, .int .u64 0, .int .u64 0, .int .u64 0, .int .u64 0, .int .u64 0, .int .u64 0, .int .u64 0, .int .u64 0, .int .u64 0, .int .u64 0] 68) = w1 at *
  have hd1 : Below w1.heap.size w1 w1.drew := (Below.refl _ _).drew
  have CA := A0.later hd1
  have CR := R0.later hd1
  have CW : Hid (Below w.heap.size w w1.drew) := W0.drew
  clear hd1 A0 R0 W0
  have x6 : w1.drew.cell? ⟨w.heap.size, 6, none⟩ = some (.int .u64 (dg q 0)) := CA.d 0 (by omega); have x7 : w1.drew.cell? ⟨w.heap.size, 7, none⟩ = some (.int .u64 (dg q 1)) := CA.d 1 (by omega); have x8 : w1.drew.cell? ⟨w.heap.size, 8, none⟩ = some (.int .u64 (dg q 2)) := CA.d 2 (by omega); have x9 : w1.drew.cell? ⟨w.heap.size, 9, none⟩ = some (.int .u64 (dg q 3)) := CA.d 3 (by omega); have x10 : w1.drew.cell? ⟨w.heap.size, 10, none⟩ = some (.int .u64 (dg q 4)) := CA.d 4 (by omega); have x11 : w1.drew.cell? ⟨w.heap.size, 11, none⟩ = some (.int .u64 (dg q 5)) := CA.d 5 (by omega); have xf6 : w1.drew.frozen? ⟨w.heap.size, 6, none⟩ = false := CA.g 0 (by omega); have xf7 : w1.drew.frozen? ⟨w.heap.size, 7, none⟩ = false := CA.g 1 (by omega); have xf8 : w1.drew.frozen? ⟨w.heap.size, 8, none⟩ = false := CA.g 2 (by omega); have xf9 : w1.drew.frozen? ⟨w.heap.size, 9, none⟩ = false := CA.g 3 (by omega); have xf10 : w1.drew.frozen? ⟨w.heap.size, 10, none⟩ = false := CA.g 4 (by omega); have xf11 : w1.drew.frozen? ⟨w.heap.size, 11, none⟩ = false := CA.g 5 (by omega)
  go_region_with (first
    | (go_at_call 40; refine (ssize_any a a0 (by omega) _).mono ?_; rintro e wy ⟨rfl, hwy⟩; subst hwy)
    | (go_at_call 42; refine (sone_any (ab a) k hk s0 (by omega) _).mono ?_; rintro e wz ⟨rfl, hb⟩; clear x6 x7 x8 x9 x10 x11 xf6 xf7 xf8 xf9 xf10 xf11; replace CA := CA.later hb; replace CR := CR.later hb; replace CW := hidD' CW hb; clear hb; have x6 : wz.cell? ⟨w.heap.size, 6, none⟩ = some (.int .u64 (dg q 0)) := CA.d 0 (by omega); have x7 : wz.cell? ⟨w.heap.size, 7, none⟩ = some (.int .u64 (dg q 1)) := CA.d 1 (by omega); have x8 : wz.cell? ⟨w.heap.size, 8, none⟩ = some (.int .u64 (dg q 2)) := CA.d 2 (by omega); have x9 : wz.cell? ⟨w.heap.size, 9, none⟩ = some (.int .u64 (dg q 3)) := CA.d 3 (by omega); have x10 : wz.cell? ⟨w.heap.size, 10, none⟩ = some (.int .u64 (dg q 4)) := CA.d 4 (by omega); have x11 : wz.cell? ⟨w.heap.size, 11, none⟩ = some (.int .u64 (dg q 5)) := CA.d 5 (by omega); have xf6 : wz.frozen? ⟨w.heap.size, 6, none⟩ = false := CA.g 0 (by omega); have xf7 : wz.frozen? ⟨w.heap.size, 7, none⟩ = false := CA.g 1 (by omega); have xf8 : wz.frozen? ⟨w.heap.size, 8, none⟩ = false := CA.g 2 (by omega); have xf9 : wz.frozen? ⟨w.heap.size, 9, none⟩ = false := CA.g 3 (by omega); have xf10 : wz.frozen? ⟨w.heap.size, 10, none⟩ = false := CA.g 4 (by omega); have xf11 : wz.frozen? ⟨w.heap.size, 11, none⟩ = false := CA.g 5 (by omega))
    | (go_at_call 41; refine (splus_any q (ab a * 2 ^ (32 * k)) _).mono ?_; rintro e wz ⟨rfl, hb⟩; clear x6 x7 x8 x9 x10 x11 xf6 xf7 xf8 xf9 xf10 xf11; replace CA := CA.later hb; replace CR := CR.later hb; replace CW := hidD' CW hb; clear hb; have x6 : wz.cell? ⟨w.heap.size, 6, none⟩ = some (.int .u64 (dg q 0)) := CA.d 0 (by omega); have x7 : wz.cell? ⟨w.heap.size, 7, none⟩ = some (.int .u64 (dg q 1)) := CA.d 1 (by omega); have x8 : wz.cell? ⟨w.heap.size, 8, none⟩ = some (.int .u64 (dg q 2)) := CA.d 2 (by omega); have x9 : wz.cell? ⟨w.heap.size, 9, none⟩ = some (.int .u64 (dg q 3)) := CA.d 3 (by omega); have x10 : wz.cell? ⟨w.heap.size, 10, none⟩ = some (.int .u64 (dg q 4)) := CA.d 4 (by omega); have x11 : wz.cell? ⟨w.heap.size, 11, none⟩ = some (.int .u64 (dg q 5)) := CA.d 5 (by omega); have xf6 : wz.frozen? ⟨w.heap.size, 6, none⟩ = false := CA.g 0 (by omega); have xf7 : wz.frozen? ⟨w.heap.size, 7, none⟩ = false := CA.g 1 (by omega); have xf8 : wz.frozen? ⟨w.heap.size, 8, none⟩ = false := CA.g 2 (by omega); have xf9 : wz.frozen? ⟨w.heap.size, 9, none⟩ = false := CA.g 3 (by omega); have xf10 : wz.frozen? ⟨w.heap.size, 10, none⟩ = false := CA.g 4 (by omega); have xf11 : wz.frozen? ⟨w.heap.size, 11, none⟩ = false := CA.g 5 (by omega)))
  all_goals
    have A2 := CA.allN (dg (q + ab a * 2 ^ (32 * k)))
    have R2 := CR.farN (d := w.heap.size) (by omega) (dg (q + ab a * 2 ^ (32 * k)))
    have W2 := bel6N CW.out (b := w.heap.size) (Nat.le_refl _) (dg (q + ab a * 2 ^ (32 * k)))
    clear x6 x7 x8 x9 x10 x11 xf6 xf7 xf8 xf9 xf10 xf11
    clear CA CR CW
    generalize ((((((wz.setCell ⟨w.heap.size, 6, none⟩ (.int .u64 (dg (q + ab a * 2 ^ (32 * k)) 0))).setCell ⟨w.heap.size, 7, none⟩ (.int .u64 (dg (q + ab a * 2 ^ (32 * k)) 1))).setCell ⟨w.heap.size, 8, none⟩ (.int .u64 (dg (q + ab a * 2 ^ (32 * k)) 2))).setCell ⟨w.heap.size, 9, none⟩ (.int .u64 (dg (q + ab a * 2 ^ (32 * k)) 3))).setCell ⟨w.heap.size, 10, none⟩ (.int .u64 (dg (q + ab a * 2 ^ (32 * k)) 4))).setCell ⟨w.heap.size, 11, none⟩ (.int .u64 (dg (q + ab a * 2 ^ (32 * k)) 5))) = w3 at *
    have x0 : w3.cell? ⟨w.heap.size, 0, none⟩ = some (.int .u64 (dg p 0)) := A2.c 0 (by omega); have x1 : w3.cell? ⟨w.heap.size, 1, none⟩ = some (.int .u64 (dg p 1)) := A2.c 1 (by omega); have x2 : w3.cell? ⟨w.heap.size, 2, none⟩ = some (.int .u64 (dg p 2)) := A2.c 2 (by omega); have x3 : w3.cell? ⟨w.heap.size, 3, none⟩ = some (.int .u64 (dg p 3)) := A2.c 3 (by omega); have x4 : w3.cell? ⟨w.heap.size, 4, none⟩ = some (.int .u64 (dg p 4)) := A2.c 4 (by omega); have x5 : w3.cell? ⟨w.heap.size, 5, none⟩ = some (.int .u64 (dg p 5)) := A2.c 5 (by omega); have x6 : w3.cell? ⟨w.heap.size, 6, none⟩ = some (.int .u64 (dg (q + ab a * 2 ^ (32 * k)) 0)) := A2.d 0 (by omega); have x7 : w3.cell? ⟨w.heap.size, 7, none⟩ = some (.int .u64 (dg (q + ab a * 2 ^ (32 * k)) 1)) := A2.d 1 (by omega); have x8 : w3.cell? ⟨w.heap.size, 8, none⟩ = some (.int .u64 (dg (q + ab a * 2 ^ (32 * k)) 2)) := A2.d 2 (by omega); have x9 : w3.cell? ⟨w.heap.size, 9, none⟩ = some (.int .u64 (dg (q + ab a * 2 ^ (32 * k)) 3)) := A2.d 3 (by omega); have x10 : w3.cell? ⟨w.heap.size, 10, none⟩ = some (.int .u64 (dg (q + ab a * 2 ^ (32 * k)) 4)) := A2.d 4 (by omega); have x11 : w3.cell? ⟨w.heap.size, 11, none⟩ = some (.int .u64 (dg (q + ab a * 2 ^ (32 * k)) 5)) := A2.d 5 (by omega); have xf0 : w3.frozen? ⟨w.heap.size, 0, none⟩ = false := A2.f 0 (by omega); have xf1 : w3.frozen? ⟨w.heap.size, 1, none⟩ = false := A2.f 1 (by omega); have xf2 : w3.frozen? ⟨w.heap.size, 2, none⟩ = false := A2.f 2 (by omega); have xf3 : w3.frozen? ⟨w.heap.size, 3, none⟩ = false := A2.f 3 (by omega); have xf4 : w3.frozen? ⟨w.heap.size, 4, none⟩ = false := A2.f 4 (by omega); have xf5 : w3.frozen? ⟨w.heap.size, 5, none⟩ = false := A2.f 5 (by omega); have xf6 : w3.frozen? ⟨w.heap.size, 6, none⟩ = false := A2.g 0 (by omega); have xf7 : w3.frozen? ⟨w.heap.size, 7, none⟩ = false := A2.g 1 (by omega); have xf8 : w3.frozen? ⟨w.heap.size, 8, none⟩ = false := A2.g 2 (by omega); have xf9 : w3.frozen? ⟨w.heap.size, 9, none⟩ = false := A2.g 3 (by omega); have xf10 : w3.frozen? ⟨w.heap.size, 10, none⟩ = false := A2.g 4 (by omega); have xf11 : w3.frozen? ⟨w.heap.size, 11, none⟩ = false := A2.g 5 (by omega)
    have r0 : w3.cell? ⟨w.heap.size + 1, 0, none⟩ = some (.int .u64 ((fun _ => 0) 0)) := R2.c 0 (by omega); have r1 : w3.cell? ⟨w.heap.size + 1, 1, none⟩ = some (.int .u64 ((fun _ => 0) 1)) := R2.c 1 (by omega); have r2 : w3.cell? ⟨w.heap.size + 1, 2, none⟩ = some (.int .u64 ((fun _ => 0) 2)) := R2.c 2 (by omega); have r3 : w3.cell? ⟨w.heap.size + 1, 3, none⟩ = some (.int .u64 ((fun _ => 0) 3)) := R2.c 3 (by omega); have r4 : w3.cell? ⟨w.heap.size + 1, 4, none⟩ = some (.int .u64 ((fun _ => 0) 4)) := R2.c 4 (by omega); have r5 : w3.cell? ⟨w.heap.size + 1, 5, none⟩ = some (.int .u64 ((fun _ => 0) 5)) := R2.c 5 (by omega); have r6 : w3.cell? ⟨w.heap.size + 1, 6, none⟩ = some (.int .u64 ((fun _ => 0) 0)) := R2.d 0 (by omega); have r7 : w3.cell? ⟨w.heap.size + 1, 7, none⟩ = some (.int .u64 ((fun _ => 0) 1)) := R2.d 1 (by omega); have r8 : w3.cell? ⟨w.heap.size + 1, 8, none⟩ = some (.int .u64 ((fun _ => 0) 2)) := R2.d 2 (by omega); have r9 : w3.cell? ⟨w.heap.size + 1, 9, none⟩ = some (.int .u64 ((fun _ => 0) 3)) := R2.d 3 (by omega); have r10 : w3.cell? ⟨w.heap.size + 1, 10, none⟩ = some (.int .u64 ((fun _ => 0) 4)) := R2.d 4 (by omega); have r11 : w3.cell? ⟨w.heap.size + 1, 11, none⟩ = some (.int .u64 ((fun _ => 0) 5)) := R2.d 5 (by omega); have rf0 : w3.frozen? ⟨w.heap.size + 1, 0, none⟩ = false := R2.f 0 (by omega); have rf1 : w3.frozen? ⟨w.heap.size + 1, 1, none⟩ = false := R2.f 1 (by omega); have rf2 : w3.frozen? ⟨w.heap.size + 1, 2, none⟩ = false := R2.f 2 (by omega); have rf3 : w3.frozen? ⟨w.heap.size + 1, 3, none⟩ = false := R2.f 3 (by omega); have rf4 : w3.frozen? ⟨w.heap.size + 1, 4, none⟩ = false := R2.f 4 (by omega); have rf5 : w3.frozen? ⟨w.heap.size + 1, 5, none⟩ = false := R2.f 5 (by omega); have rf6 : w3.frozen? ⟨w.heap.size + 1, 6, none⟩ = false := R2.g 0 (by omega); have rf7 : w3.frozen? ⟨w.heap.size + 1, 7, none⟩ = false := R2.g 1 (by omega); have rf8 : w3.frozen? ⟨w.heap.size + 1, 8, none⟩ = false := R2.g 2 (by omega); have rf9 : w3.frozen? ⟨w.heap.size + 1, 9, none⟩ = false := R2.g 3 (by omega); have rf10 : w3.frozen? ⟨w.heap.size + 1, 10, none⟩ = false := R2.g 4 (by omega); have rf11 : w3.frozen? ⟨w.heap.size + 1, 11, none⟩ = false := R2.g 5 (by omega)
    clear A2 R2
    go_wp2
    exact bodyPost_ret (v := .agg #[.int .u64 (dg (p) 0), .int .u64 (dg (p) 1), .int .u64 (dg (p) 2), .int .u64 (dg (p) 3), .int .u64 (dg (p) 4), .int .u64 (dg (p) 5), .int .u64 (dg (q + ab a * 2 ^ (32 * k)) 0), .int .u64 (dg (q + ab a * 2 ^ (32 * k)) 1), .int .u64 (dg (q + ab a * 2 ^ (32 * k)) 2), .int .u64 (dg (q + ab a * 2 ^ (32 * k)) 3), .int .u64 (dg (q + ab a * 2 ^ (32 * k)) 4), .int .u64 (dg (q + ab a * 2 ^ (32 * k)) 5)]) (by simp [results, Try.results25, go_sem, r0, r1, r2, r3, r4, r5, r6, r7, r8, r9, r10, r11]) rfl ⟨rfl, ((((((((((((W2).setCell (by dsimp only; omega) _).setCell (by dsimp only; omega) _).setCell (by dsimp only; omega) _).setCell (by dsimp only; omega) _).setCell (by dsimp only; omega) _).setCell (by dsimp only; omega) _).setCell (by dsimp only; omega) _).setCell (by dsimp only; omega) _).setCell (by dsimp only; omega) _).setCell (by dsimp only; omega) _).setCell (by dsimp only; omega) _).setCell (by dsimp only; omega) _⟩

set_option maxHeartbeats 2000000 in
theorem sadd_pos (p q a : Int) (k : Nat) (hk : k ≤ 4) (a0 : 0 ≤ a) (a1 : a ≤ 9223372036854775807) (w : World) :
    Calls Try.prog 25 #[.agg #[.int .u64 (dg (p) 0), .int .u64 (dg (p) 1), .int .u64 (dg (p) 2), .int .u64 (dg (p) 3), .int .u64 (dg (p) 4), .int .u64 (dg (p) 5), .int .u64 (dg (q) 0), .int .u64 (dg (q) 1), .int .u64 (dg (q) 2), .int .u64 (dg (q) 3), .int .u64 (dg (q) 4), .int .u64 (dg (q) 5)], .int .i64 a, .int .i64 (k : Int)] w fun e w' => e = .returned (.agg #[.int .u64 (dg (p + ab a * 2 ^ (32 * k)) 0), .int .u64 (dg (p + ab a * 2 ^ (32 * k)) 1), .int .u64 (dg (p + ab a * 2 ^ (32 * k)) 2), .int .u64 (dg (p + ab a * 2 ^ (32 * k)) 3), .int .u64 (dg (p + ab a * 2 ^ (32 * k)) 4), .int .u64 (dg (p + ab a * 2 ^ (32 * k)) 5), .int .u64 (dg (q) 0), .int .u64 (dg (q) 1), .int .u64 (dg (q) 2), .int .u64 (dg (q) 3), .int .u64 (dg (q) 4), .int .u64 (dg (q) 5)]) ∧ Below w.heap.size w w' := by
  have A0 := (B12.new w (dg p) (dg q) 68).later (bel1 _ (.cells #[.int .u64 0, .int .u64 0, .int .u64 0, .int .u64 0, .int .u64 0, .int .u64 0, .int .u64 0, .int .u64 0, .int .u64 0, .int .u64 0, .int .u64 0, .int .u64 0] 68))
  have R0 := B12.new (w.alloc (.cells #[.int .u64 (dg (p) 0), .int .u64 (dg (p) 1), .int .u64 (dg (p) 2), .int .u64 (dg (p) 3), .int .u64 (dg (p) 4), .int .u64 (dg (p) 5), .int .u64 (dg (q) 0), .int .u64 (dg (q) 1), .int .u64 (dg (q) 2), .int .u64 (dg (q) 3), .int .u64 (dg (q) 4), .int .u64 (dg (q) 5)] 68)) (fun _ => 0) (fun _ => 0) 68
  have W0 := bel2 w (.cells #[.int .u64 (dg (p) 0), .int .u64 (dg (p) 1), .int .u64 (dg (p) 2), .int .u64 (dg (p) 3), .int .u64 (dg (p) 4), .int .u64 (dg (p) 5), .int .u64 (dg (q) 0), .int .u64 (dg (q) 1), .int .u64 (dg (q) 2), .int .u64 (dg (q) 3), .int .u64 (dg (q) 4), .int .u64 (dg (q) 5)] 68) (.cells #[.int .u64 0, .int .u64 0, .int .u64 0, .int .u64 0, .int .u64 0, .int .u64 0, .int .u64 0, .int .u64 0, .int .u64 0, .int .u64 0, .int .u64 0, .int .u64 0] 68)
  simp only [World.size_alloc] at R0
  obtain ⟨s0, s1⟩ := ab_rng' a (by omega) a1
  go_enter Try.func25, Try.ntmps25
  go_upto_region 3 with fail
  generalize (w.alloc (.cells #[.int .u64 (dg (p) 0), .int .u64 (dg (p) 1), .int .u64 (dg (p) 2), .int .u64 (dg (p) 3), .int .u64 (dg (p) 4), .int .u64 (dg (p) 5), .int .u64 (dg (q) 0), .int .u64 (dg (q) 1), .int .u64 (dg (q) 2), .int .u64 (dg (q) 3), .int .u64 (dg (q) 4), .int .u64 (dg (q) 5)] 68)).alloc (.cells #[.int .u64 0, .int .u64 0, .int .u64 0, .int .u64 0, .int .u64 0, .int .u64 0, .int .u64 0, .int .u64 0, .int .u64 0, .int .u64 0, .int .u64 0, .int .u64 0] 68) = w1 at *
  have hd1 : Below w1.heap.size w1 w1.drew := (Below.refl _ _).drew
  have CA := A0.later hd1
  have CR := R0.later hd1
  have CW : Hid (Below w.heap.size w w1.drew) := W0.drew
  clear hd1 A0 R0 W0
  have x0 : w1.drew.cell? ⟨w.heap.size, 0, none⟩ = some (.int .u64 (dg p 0)) := CA.c 0 (by omega); have x1 : w1.drew.cell? ⟨w.heap.size, 1, none⟩ = some (.int .u64 (dg p 1)) := CA.c 1 (by omega); have x2 : w1.drew.cell? ⟨w.heap.size, 2, none⟩ = some (.int .u64 (dg p 2)) := CA.c 2 (by omega); have x3 : w1.drew.cell? ⟨w.heap.size, 3, none⟩ = some (.int .u64 (dg p 3)) := CA.c 3 (by omega); have x4 : w1.drew.cell? ⟨w.heap.size, 4, none⟩ = some (.int .u64 (dg p 4)) := CA.c 4 (by omega); have x5 : w1.drew.cell? ⟨w.heap.size, 5, none⟩ = some (.int .u64 (dg p 5)) := CA.c 5 (by omega); have xf0 : w1.drew.frozen? ⟨w.heap.size, 0, none⟩ = false := CA.f 0 (by omega); have xf1 : w1.drew.frozen? ⟨w.heap.size, 1, none⟩ = false := CA.f 1 (by omega); have xf2 : w1.drew.frozen? ⟨w.heap.size, 2, none⟩ = false := CA.f 2 (by omega); have xf3 : w1.drew.frozen? ⟨w.heap.size, 3, none⟩ = false := CA.f 3 (by omega); have xf4 : w1.drew.frozen? ⟨w.heap.size, 4, none⟩ = false := CA.f 4 (by omega); have xf5 : w1.drew.frozen? ⟨w.heap.size, 5, none⟩ = false := CA.f 5 (by omega)
  go_region_with (first
    | (go_at_call 40; refine (ssize_any a (by omega) a1 _).mono ?_; rintro e wy ⟨rfl, hwy⟩; subst hwy)
    | (go_at_call 42; refine (sone_any (ab a) k hk s0 (by omega) _).mono ?_; rintro e wz ⟨rfl, hb⟩; clear x0 x1 x2 x3 x4 x5 xf0 xf1 xf2 xf3 xf4 xf5; replace CA := CA.later hb; replace CR := CR.later hb; replace CW := hidD' CW hb; clear hb; have x0 : wz.cell? ⟨w.heap.size, 0, none⟩ = some (.int .u64 (dg p 0)) := CA.c 0 (by omega); have x1 : wz.cell? ⟨w.heap.size, 1, none⟩ = some (.int .u64 (dg p 1)) := CA.c 1 (by omega); have x2 : wz.cell? ⟨w.heap.size, 2, none⟩ = some (.int .u64 (dg p 2)) := CA.c 2 (by omega); have x3 : wz.cell? ⟨w.heap.size, 3, none⟩ = some (.int .u64 (dg p 3)) := CA.c 3 (by omega); have x4 : wz.cell? ⟨w.heap.size, 4, none⟩ = some (.int .u64 (dg p 4)) := CA.c 4 (by omega); have x5 : wz.cell? ⟨w.heap.size, 5, none⟩ = some (.int .u64 (dg p 5)) := CA.c 5 (by omega); have xf0 : wz.frozen? ⟨w.heap.size, 0, none⟩ = false := CA.f 0 (by omega); have xf1 : wz.frozen? ⟨w.heap.size, 1, none⟩ = false := CA.f 1 (by omega); have xf2 : wz.frozen? ⟨w.heap.size, 2, none⟩ = false := CA.f 2 (by omega); have xf3 : wz.frozen? ⟨w.heap.size, 3, none⟩ = false := CA.f 3 (by omega); have xf4 : wz.frozen? ⟨w.heap.size, 4, none⟩ = false := CA.f 4 (by omega); have xf5 : wz.frozen? ⟨w.heap.size, 5, none⟩ = false := CA.f 5 (by omega))
    | (go_at_call 41; refine (splus_any p (ab a * 2 ^ (32 * k)) _).mono ?_; rintro e wz ⟨rfl, hb⟩; clear x0 x1 x2 x3 x4 x5 xf0 xf1 xf2 xf3 xf4 xf5; replace CA := CA.later hb; replace CR := CR.later hb; replace CW := hidD' CW hb; clear hb; have x0 : wz.cell? ⟨w.heap.size, 0, none⟩ = some (.int .u64 (dg p 0)) := CA.c 0 (by omega); have x1 : wz.cell? ⟨w.heap.size, 1, none⟩ = some (.int .u64 (dg p 1)) := CA.c 1 (by omega); have x2 : wz.cell? ⟨w.heap.size, 2, none⟩ = some (.int .u64 (dg p 2)) := CA.c 2 (by omega); have x3 : wz.cell? ⟨w.heap.size, 3, none⟩ = some (.int .u64 (dg p 3)) := CA.c 3 (by omega); have x4 : wz.cell? ⟨w.heap.size, 4, none⟩ = some (.int .u64 (dg p 4)) := CA.c 4 (by omega); have x5 : wz.cell? ⟨w.heap.size, 5, none⟩ = some (.int .u64 (dg p 5)) := CA.c 5 (by omega); have xf0 : wz.frozen? ⟨w.heap.size, 0, none⟩ = false := CA.f 0 (by omega); have xf1 : wz.frozen? ⟨w.heap.size, 1, none⟩ = false := CA.f 1 (by omega); have xf2 : wz.frozen? ⟨w.heap.size, 2, none⟩ = false := CA.f 2 (by omega); have xf3 : wz.frozen? ⟨w.heap.size, 3, none⟩ = false := CA.f 3 (by omega); have xf4 : wz.frozen? ⟨w.heap.size, 4, none⟩ = false := CA.f 4 (by omega); have xf5 : wz.frozen? ⟨w.heap.size, 5, none⟩ = false := CA.f 5 (by omega)))
  all_goals
    have A2 := CA.allP (dg (p + ab a * 2 ^ (32 * k)))
    have R2 := CR.farP (d := w.heap.size) (by omega) (dg (p + ab a * 2 ^ (32 * k)))
    have W2 := bel6 CW.out (b := w.heap.size) (Nat.le_refl _) (dg (p + ab a * 2 ^ (32 * k)))
    clear x0 x1 x2 x3 x4 x5 xf0 xf1 xf2 xf3 xf4 xf5
    clear CA CR CW
    generalize ((((((wz.setCell ⟨w.heap.size, 0, none⟩ (.int .u64 (dg (p + ab a * 2 ^ (32 * k)) 0))).setCell ⟨w.heap.size, 1, none⟩ (.int .u64 (dg (p + ab a * 2 ^ (32 * k)) 1))).setCell ⟨w.heap.size, 2, none⟩ (.int .u64 (dg (p + ab a * 2 ^ (32 * k)) 2))).setCell ⟨w.heap.size, 3, none⟩ (.int .u64 (dg (p + ab a * 2 ^ (32 * k)) 3))).setCell ⟨w.heap.size, 4, none⟩ (.int .u64 (dg (p + ab a * 2 ^ (32 * k)) 4))).setCell ⟨w.heap.size, 5, none⟩ (.int .u64 (dg (p + ab a * 2 ^ (32 * k)) 5))) = w3 at *
    have x0 : w3.cell? ⟨w.heap.size, 0, none⟩ = some (.int .u64 (dg (p + ab a * 2 ^ (32 * k)) 0)) := A2.c 0 (by omega); have x1 : w3.cell? ⟨w.heap.size, 1, none⟩ = some (.int .u64 (dg (p + ab a * 2 ^ (32 * k)) 1)) := A2.c 1 (by omega); have x2 : w3.cell? ⟨w.heap.size, 2, none⟩ = some (.int .u64 (dg (p + ab a * 2 ^ (32 * k)) 2)) := A2.c 2 (by omega); have x3 : w3.cell? ⟨w.heap.size, 3, none⟩ = some (.int .u64 (dg (p + ab a * 2 ^ (32 * k)) 3)) := A2.c 3 (by omega); have x4 : w3.cell? ⟨w.heap.size, 4, none⟩ = some (.int .u64 (dg (p + ab a * 2 ^ (32 * k)) 4)) := A2.c 4 (by omega); have x5 : w3.cell? ⟨w.heap.size, 5, none⟩ = some (.int .u64 (dg (p + ab a * 2 ^ (32 * k)) 5)) := A2.c 5 (by omega); have x6 : w3.cell? ⟨w.heap.size, 6, none⟩ = some (.int .u64 (dg q 0)) := A2.d 0 (by omega); have x7 : w3.cell? ⟨w.heap.size, 7, none⟩ = some (.int .u64 (dg q 1)) := A2.d 1 (by omega); have x8 : w3.cell? ⟨w.heap.size, 8, none⟩ = some (.int .u64 (dg q 2)) := A2.d 2 (by omega); have x9 : w3.cell? ⟨w.heap.size, 9, none⟩ = some (.int .u64 (dg q 3)) := A2.d 3 (by omega); have x10 : w3.cell? ⟨w.heap.size, 10, none⟩ = some (.int .u64 (dg q 4)) := A2.d 4 (by omega); have x11 : w3.cell? ⟨w.heap.size, 11, none⟩ = some (.int .u64 (dg q 5)) := A2.d 5 (by omega); have xf0 : w3.frozen? ⟨w.heap.size, 0, none⟩ = false := A2.f 0 (by omega); have xf1 : w3.frozen? ⟨w.heap.size, 1, none⟩ = false := A2.f 1 (by omega); have xf2 : w3.frozen? ⟨w.heap.size, 2, none⟩ = false := A2.f 2 (by omega); have xf3 : w3.frozen? ⟨w.heap.size, 3, none⟩ = false := A2.f 3 (by omega); have xf4 : w3.frozen? ⟨w.heap.size, 4, none⟩ = false := A2.f 4 (by omega); have xf5 : w3.frozen? ⟨w.heap.size, 5, none⟩ = false := A2.f 5 (by omega); have xf6 : w3.frozen? ⟨w.heap.size, 6, none⟩ = false := A2.g 0 (by omega); have xf7 : w3.frozen? ⟨w.heap.size, 7, none⟩ = false := A2.g 1 (by omega); have xf8 : w3.frozen? ⟨w.heap.size, 8, none⟩ = false := A2.g 2 (by omega); have xf9 : w3.frozen? ⟨w.heap.size, 9, none⟩ = false := A2.g 3 (by omega); have xf10 : w3.frozen? ⟨w.heap.size, 10, none⟩ = false := A2.g 4 (by omega); have xf11 : w3.frozen? ⟨w.heap.size, 11, none⟩ = false := A2.g 5 (by omega)
    have r0 : w3.cell? ⟨w.heap.size + 1, 0, none⟩ = some (.int .u64 ((fun _ => 0) 0)) := R2.c 0 (by omega); have r1 : w3.cell? ⟨w.heap.size + 1, 1, none⟩ = some (.int .u64 ((fun _ => 0) 1)) := R2.c 1 (by omega); have r2 : w3.cell? ⟨w.heap.size + 1, 2, none⟩ = some (.int .u64 ((fun _ => 0) 2)) := R2.c 2 (by omega); have r3 : w3.cell? ⟨w.heap.size + 1, 3, none⟩ = some (.int .u64 ((fun _ => 0) 3)) := R2.c 3 (by omega); have r4 : w3.cell? ⟨w.heap.size + 1, 4, none⟩ = some (.int .u64 ((fun _ => 0) 4)) := R2.c 4 (by omega); have r5 : w3.cell? ⟨w.heap.size + 1, 5, none⟩ = some (.int .u64 ((fun _ => 0) 5)) := R2.c 5 (by omega); have r6 : w3.cell? ⟨w.heap.size + 1, 6, none⟩ = some (.int .u64 ((fun _ => 0) 0)) := R2.d 0 (by omega); have r7 : w3.cell? ⟨w.heap.size + 1, 7, none⟩ = some (.int .u64 ((fun _ => 0) 1)) := R2.d 1 (by omega); have r8 : w3.cell? ⟨w.heap.size + 1, 8, none⟩ = some (.int .u64 ((fun _ => 0) 2)) := R2.d 2 (by omega); have r9 : w3.cell? ⟨w.heap.size + 1, 9, none⟩ = some (.int .u64 ((fun _ => 0) 3)) := R2.d 3 (by omega); have r10 : w3.cell? ⟨w.heap.size + 1, 10, none⟩ = some (.int .u64 ((fun _ => 0) 4)) := R2.d 4 (by omega); have r11 : w3.cell? ⟨w.heap.size + 1, 11, none⟩ = some (.int .u64 ((fun _ => 0) 5)) := R2.d 5 (by omega); have rf0 : w3.frozen? ⟨w.heap.size + 1, 0, none⟩ = false := R2.f 0 (by omega); have rf1 : w3.frozen? ⟨w.heap.size + 1, 1, none⟩ = false := R2.f 1 (by omega); have rf2 : w3.frozen? ⟨w.heap.size + 1, 2, none⟩ = false := R2.f 2 (by omega); have rf3 : w3.frozen? ⟨w.heap.size + 1, 3, none⟩ = false := R2.f 3 (by omega); have rf4 : w3.frozen? ⟨w.heap.size + 1, 4, none⟩ = false := R2.f 4 (by omega); have rf5 : w3.frozen? ⟨w.heap.size + 1, 5, none⟩ = false := R2.f 5 (by omega); have rf6 : w3.frozen? ⟨w.heap.size + 1, 6, none⟩ = false := R2.g 0 (by omega); have rf7 : w3.frozen? ⟨w.heap.size + 1, 7, none⟩ = false := R2.g 1 (by omega); have rf8 : w3.frozen? ⟨w.heap.size + 1, 8, none⟩ = false := R2.g 2 (by omega); have rf9 : w3.frozen? ⟨w.heap.size + 1, 9, none⟩ = false := R2.g 3 (by omega); have rf10 : w3.frozen? ⟨w.heap.size + 1, 10, none⟩ = false := R2.g 4 (by omega); have rf11 : w3.frozen? ⟨w.heap.size + 1, 11, none⟩ = false := R2.g 5 (by omega)
    clear A2 R2
    go_wp2
    exact bodyPost_ret (v := .agg #[.int .u64 (dg (p + ab a * 2 ^ (32 * k)) 0), .int .u64 (dg (p + ab a * 2 ^ (32 * k)) 1), .int .u64 (dg (p + ab a * 2 ^ (32 * k)) 2), .int .u64 (dg (p + ab a * 2 ^ (32 * k)) 3), .int .u64 (dg (p + ab a * 2 ^ (32 * k)) 4), .int .u64 (dg (p + ab a * 2 ^ (32 * k)) 5), .int .u64 (dg (q) 0), .int .u64 (dg (q) 1), .int .u64 (dg (q) 2), .int .u64 (dg (q) 3), .int .u64 (dg (q) 4), .int .u64 (dg (q) 5)]) (by simp [results, Try.results25, go_sem, r0, r1, r2, r3, r4, r5, r6, r7, r8, r9, r10, r11]) rfl ⟨rfl, ((((((((((((W2).setCell (by dsimp only; omega) _).setCell (by dsimp only; omega) _).setCell (by dsimp only; omega) _).setCell (by dsimp only; omega) _).setCell (by dsimp only; omega) _).setCell (by dsimp only; omega) _).setCell (by dsimp only; omega) _).setCell (by dsimp only; omega) _).setCell (by dsimp only; omega) _).setCell (by dsimp only; omega) _).setCell (by dsimp only; omega) _).setCell (by dsimp only; omega) _⟩

end Go.Proofs.Ytfcneciknldohaa
