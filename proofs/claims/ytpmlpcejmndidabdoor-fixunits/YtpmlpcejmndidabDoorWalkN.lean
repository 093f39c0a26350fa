/-
  The contract of words' plus.
-/
import Derived.Test.YtpmlpcejmndidabDoorWalkM
set_option linter.unusedVariables false
set_option linter.unusedSimpArgs false
namespace Go.Proofs.YtpmlpcejmndidabDoor
open Go.RowKit

/-- A block of three cells. -/
structure B3 (b : Nat) (x y z : Value) (w : World) : Prop where
  c0 : w.cell? ⟨b, 0, none⟩ = some x
  c1 : w.cell? ⟨b, 1, none⟩ = some y
  c2 : w.cell? ⟨b, 2, none⟩ = some z
  f0 : w.frozen? ⟨b, 0, none⟩ = false
  f1 : w.frozen? ⟨b, 1, none⟩ = false
  f2 : w.frozen? ⟨b, 2, none⟩ = false
theorem B3.new (w : World) (x y z : Value) (t : TypeId) : B3 w.heap.size x y z (w.alloc (.cells #[x, y, z] t)) where
  c0 := by simp [go_sem]
  c1 := by simp [go_sem]
  c2 := by simp [go_sem]
  f0 := by simp [go_sem]
  f1 := by simp [go_sem]
  f2 := by simp [go_sem]
theorem B3.later {b : Nat} {x y z : Value} {w w' : World} (h : B3 b x y z w) (hb : Below w.heap.size w w') : B3 b x y z w' where
  c0 := cell_later hb h.c0
  c1 := cell_later hb h.c1
  c2 := cell_later hb h.c2
  f0 := frozen_later hb h.c0 h.f0
  f1 := frozen_later hb h.c1 h.f1
  f2 := frozen_later hb h.c2 h.f2
theorem B3.lt {b : Nat} {x y z : Value} {w : World} (h : B3 b x y z w) : b < w.heap.size := World.block_lt_of_cell? _ _ h.c0

theorem B3.drew {b : Nat} {x y z : Value} {w : World} (h : B3 b x y z w) : B3 b x y z w.drew := ⟨h.c0, h.c1, h.c2, h.f0, h.f1, h.f2⟩
theorem B3.far {b : Nat} {x y z : Value} {w : World} {p : Addr} (h : B3 b x y z w) (u : Value) (hp : p.block ≠ b) : B3 b x y z (w.setCell p u) where
  c0 := cell_set hp h.c0
  c1 := cell_set hp h.c1
  c2 := cell_set hp h.c2
  f0 := by rw [World.frozen?_setCell]; exact h.f0
  f1 := by rw [World.frozen?_setCell]; exact h.f1
  f2 := by rw [World.frozen?_setCell]; exact h.f2
theorem B3.set0 {b : Nat} {x y z : Value} {w : World} (h : B3 b x y z w) (u : Value) : B3 b u y z (w.setCell ⟨b, 0, none⟩ u) := by
  have c0 := h.c0
  have c1 := h.c1
  have c2 := h.c2
  have f0 := h.f0
  have f1 := h.f1
  have f2 := h.f2
  exact ⟨by simp [go_sem, c0], by simp [go_sem, c1], by simp [go_sem, c2], by simp [go_sem, f0], by simp [go_sem, f1], by simp [go_sem, f2]⟩
theorem B3.set1 {b : Nat} {x y z : Value} {w : World} (h : B3 b x y z w) (u : Value) : B3 b x u z (w.setCell ⟨b, 1, none⟩ u) := by
  have c0 := h.c0
  have c1 := h.c1
  have c2 := h.c2
  have f0 := h.f0
  have f1 := h.f1
  have f2 := h.f2
  exact ⟨by simp [go_sem, c0], by simp [go_sem, c1], by simp [go_sem, c2], by simp [go_sem, f0], by simp [go_sem, f1], by simp [go_sem, f2]⟩
theorem B3.set2 {b : Nat} {x y z : Value} {w : World} (h : B3 b x y z w) (u : Value) : B3 b x y u (w.setCell ⟨b, 2, none⟩ u) := by
  have c0 := h.c0
  have c1 := h.c1
  have c2 := h.c2
  have f0 := h.f0
  have f1 := h.f1
  have f2 := h.f2
  exact ⟨by simp [go_sem, c0], by simp [go_sem, c1], by simp [go_sem, c2], by simp [go_sem, f0], by simp [go_sem, f1], by simp [go_sem, f2]⟩

theorem plus_words (a b : Int) : (lo a + lo b) % 18446744073709551616 = lo (a + b) ∧ (m3 a + m3 b + (lo a + lo b) / 18446744073709551616) % 18446744073709551616 = m3 (a + b) ∧ (u3 a + u3 b + (m3 a + m3 b + (lo a + lo b) / 18446744073709551616) / 18446744073709551616) % 18446744073709551616 = u3 (a + b) := by
  have h2 : ∀ v : Int, v / 340282366920938463463374607431768211456 = v / 18446744073709551616 / 18446744073709551616 := by intro v; omega
  unfold u3
  rw [h2 a, h2 b, h2 (a + b)]
  have e1 : (a + b) / 18446744073709551616 = a / 18446744073709551616 + b / 18446744073709551616 + (lo a + lo b) / 18446744073709551616 := by unfold lo; omega
  have e0 : (lo a + lo b) % 18446744073709551616 = lo (a + b) := by unfold lo; omega
  unfold m3
  rw [e1, e0]
  generalize (lo a + lo b) / 18446744073709551616 = c
  generalize a / 18446744073709551616 = p
  generalize b / 18446744073709551616 = q
  refine ⟨rfl, by omega, ?_⟩
  have e2 : (p + q + c) / 18446744073709551616 = p / 18446744073709551616 + q / 18446744073709551616 + (p % 18446744073709551616 + q % 18446744073709551616 + c) / 18446744073709551616 := by omega
  rw [e2]
  omega

set_option maxHeartbeats 1000000 in
theorem wplus_any (a b : Int) (w : World) :
    Calls Tryd.prog 79 #[.agg #[.int .u64 (lo a), .int .u64 (m3 a), .int .u64 (u3 a)], .agg #[.int .u64 (lo b), .int .u64 (m3 b), .int .u64 (u3 b)]] w fun e w' => e = .returned (.agg #[.int .u64 (lo (a + b)), .int .u64 (m3 (a + b)), .int .u64 (u3 (a + b))]) ∧ Below w.heap.size w w' := by
  obtain ⟨e0, e1, e2⟩ := plus_words a b
  have HE : Hid ((lo a + lo b) % 18446744073709551616 = lo (a + b) ∧ (m3 a + m3 b + (lo a + lo b) / 18446744073709551616) % 18446744073709551616 = m3 (a + b) ∧ (u3 a + u3 b + (m3 a + m3 b + (lo a + lo b) / 18446744073709551616) / 18446744073709551616) % 18446744073709551616 = u3 (a + b)) := ⟨e0, e1, e2⟩
  clear e0 e1 e2
  have la := lo_ge a
  have la' := lo_le a
  have lb := lo_ge b
  have lb' := lo_le b
  obtain ⟨ma, ma'⟩ := m3_rng a
  obtain ⟨mb, mb'⟩ := m3_rng b
  obtain ⟨ua, ua'⟩ := u3_rng a
  obtain ⟨ub, ub'⟩ := u3_rng b
  generalize lo a = a0 at *
  generalize m3 a = a1 at *
  generalize u3 a = a2 at *
  generalize lo b = b0 at *
  generalize m3 b = b1 at *
  generalize u3 b = b2 at *
  have A0 := ((B3.new w (.int .u64 a0) (.int .u64 a1) (.int .u64 a2) 98).later (bel1 _ (.cells #[.int .u64 b0, .int .u64 b1, .int .u64 b2] 98))).later (bel1 _ (.cells #[.int .u64 0, .int .u64 0, .int .u64 0] 98))
  have C0 := (B3.new (w.alloc (.cells #[.int .u64 a0, .int .u64 a1, .int .u64 a2] 98)) (.int .u64 b0) (.int .u64 b1) (.int .u64 b2) 98).later (bel1 _ (.cells #[.int .u64 0, .int .u64 0, .int .u64 0] 98))
  have R0 := B3.new ((w.alloc (.cells #[.int .u64 a0, .int .u64 a1, .int .u64 a2] 98)).alloc (.cells #[.int .u64 b0, .int .u64 b1, .int .u64 b2] 98)) (.int .u64 0) (.int .u64 0) (.int .u64 0) 98
  have W0 := bel3 w (.cells #[.int .u64 a0, .int .u64 a1, .int .u64 a2] 98) (.cells #[.int .u64 b0, .int .u64 b1, .int .u64 b2] 98) (.cells #[.int .u64 0, .int .u64 0, .int .u64 0] 98)
  simp only [World.size_alloc] at C0 R0
  go_enter Tryd.func79, Tryd.ntmps79
  go_wp2
  go_loopw [5, 7] (fun c i wr => ∃ (x0 x1 x2 cc : Int), c = .int .u64 cc ∧ B3 w.heap.size (.int .u64 x0) (.int .u64 x1) (.int .u64 x2) wr ∧ B3 (w.heap.size + 1) (.int .u64 b0) (.int .u64 b1) (.int .u64 b2) wr ∧ B3 (w.heap.size + 2) (.int .u64 0) (.int .u64 0) (.int .u64 0) wr ∧ Below w.heap.size w wr ∧
      ((i = .int .i64 0 ∧ x0 = a0 ∧ x1 = a1 ∧ x2 = a2 ∧ cc = 0) ∨ (i = .int .i64 1 ∧ x0 = lo (a + b) ∧ x1 = a1 ∧ x2 = a2 ∧ cc = (a0 + b0) / 18446744073709551616) ∨ (i = .int .i64 2 ∧ x0 = lo (a + b) ∧ x1 = m3 (a + b) ∧ x2 = a2 ∧ cc = (a1 + b1 + (a0 + b0) / 18446744073709551616) / 18446744073709551616) ∨ (i = .int .i64 3 ∧ x0 = lo (a + b) ∧ x1 = m3 (a + b) ∧ x2 = u3 (a + b)))) (fun _ i _ => 3 - (intOf i).toNat)
  case atStart => exact ⟨a0, a1, a2, 0, rfl, A0, C0, R0, W0, .inl ⟨rfl, rfl, rfl, rfl, rfl⟩⟩
  case round =>
    clear A0 C0 R0 W0
    obtain ⟨x0, x1, x2, cc, rfl, hA, hC, hR, hW, hcase⟩ := hrel
    have q0 := hA.c0
    have q1 := hA.c1
    have q2 := hA.c2
    have g0 := hA.f0
    have g1 := hA.f1
    have g2 := hA.f2
    have p0 := hC.c0
    have p1 := hC.c1
    have p2 := hC.c2
    have hsz := hA.lt
    have hR2 : B3 (w.heap.size + 2) (.int .u64 0) (.int .u64 0) (.int .u64 0) wr := hR
    rcases hcase with ⟨rfl, hx0, hx1, hx2, hcc⟩ | ⟨rfl, hx0, hx1, hx2, hcc⟩ | ⟨rfl, hx0, hx1, hx2, hcc⟩ | ⟨rfl, hx0, hx1, hx2⟩
    · have X0 : 0 ≤ x0 := by omega
      have HX : Hid (x0 = a0 ∧ x1 = a1 ∧ x2 = a2) := ⟨hx0, hx1, hx2⟩
      subst hcc
      clear hx0 hx1 hx2 hR
      go_upto_region 5 with fail
      go_region_with (simp only [run_add64_0 x0 b0 X0 lb])
      all_goals
        have N := hA.set0 (.int .u64 ((x0 + b0) % 18446744073709551616))
        have N2 := hC.far (p := ⟨w.heap.size, 0, none⟩) (.int .u64 ((x0 + b0) % 18446744073709551616)) (by dsimp only; omega)
        have N3 := hR2.far (p := ⟨w.heap.size, 0, none⟩) (.int .u64 ((x0 + b0) % 18446744073709551616)) (by dsimp only; omega)
        have NW : Below w.heap.size w (wr.setCell ⟨w.heap.size, 0, none⟩ (.int .u64 ((x0 + b0) % 18446744073709551616))).drew := (hW.setCell (by dsimp only; omega) _).drew
        clear hA hC hW q0 q1 q2 g0 g1 g2 p0 p1 p2
        go_wp2
        go_roundw
        case rel => exact ⟨_, _, _, _, rfl, N.drew, N2.drew, N3.drew, NW, .inr (.inl ⟨rfl, by rw [← HE.out.1, HX.out.1], HX.out.2.1, HX.out.2.2, by rw [HX.out.1]⟩)⟩
        case measure => simp [intOf]
    · have X1 : 0 ≤ x1 := by omega
      have C0 : 0 ≤ cc := by omega
      have C1 : cc ≤ 1 := by omega
      have HX : Hid (x0 = lo (a + b) ∧ x1 = a1 ∧ x2 = a2 ∧ cc = (a0 + b0) / 18446744073709551616) := ⟨hx0, hx1, hx2, hcc⟩
      clear hx0 hx1 hx2 hcc hR
      go_upto_region 5 with fail
      go_region_with (simp only [run_add64_at x1 b1 cc X1 mb C0 C1])
      all_goals
        have N := hA.set1 (.int .u64 ((x1 + b1 + cc) % 18446744073709551616))
        have N2 := hC.far (p := ⟨w.heap.size, 1, none⟩) (.int .u64 ((x1 + b1 + cc) % 18446744073709551616)) (by dsimp only; omega)
        have N3 := hR2.far (p := ⟨w.heap.size, 1, none⟩) (.int .u64 ((x1 + b1 + cc) % 18446744073709551616)) (by dsimp only; omega)
        have NW : Below w.heap.size w (wr.setCell ⟨w.heap.size, 1, none⟩ (.int .u64 ((x1 + b1 + cc) % 18446744073709551616))).drew := (hW.setCell (by dsimp only; omega) _).drew
        clear hA hC hW q0 q1 q2 g0 g1 g2 p0 p1 p2
        go_wp2
        go_roundw
        case rel => exact ⟨_, _, _, _, rfl, N.drew, N2.drew, N3.drew, NW, .inr (.inr (.inl ⟨rfl, HX.out.1, by rw [← HE.out.2.1, HX.out.2.1, HX.out.2.2.2], HX.out.2.2.1, by rw [HX.out.2.1, HX.out.2.2.2]⟩))⟩
        case measure => simp [intOf]
    · have X2 : 0 ≤ x2 := by omega
      have C0 : 0 ≤ cc := by omega
      have C1 : cc ≤ 1 := by omega
      have HX : Hid (x0 = lo (a + b) ∧ x1 = m3 (a + b) ∧ x2 = a2 ∧ cc = (a1 + b1 + (a0 + b0) / 18446744073709551616) / 18446744073709551616) := ⟨hx0, hx1, hx2, hcc⟩
      clear hx0 hx1 hx2 hcc hR
      go_upto_region 5 with fail
      go_region_with (simp only [run_add64_at x2 b2 cc X2 ub C0 C1])
      all_goals
        have N := hA.set2 (.int .u64 ((x2 + b2 + cc) % 18446744073709551616))
        have N2 := hC.far (p := ⟨w.heap.size, 2, none⟩) (.int .u64 ((x2 + b2 + cc) % 18446744073709551616)) (by dsimp only; omega)
        have N3 := hR2.far (p := ⟨w.heap.size, 2, none⟩) (.int .u64 ((x2 + b2 + cc) % 18446744073709551616)) (by dsimp only; omega)
        have NW : Below w.heap.size w (wr.setCell ⟨w.heap.size, 2, none⟩ (.int .u64 ((x2 + b2 + cc) % 18446744073709551616))).drew := (hW.setCell (by dsimp only; omega) _).drew
        clear hA hC hW q0 q1 q2 g0 g1 g2 p0 p1 p2
        go_wp2
        go_roundw
        case rel => exact ⟨_, _, _, _, rfl, N.drew, N2.drew, N3.drew, NW, .inr (.inr (.inr ⟨rfl, HX.out.1, HX.out.2.1, by rw [← HE.out.2.2, HX.out.2.2.1, HX.out.2.2.2]⟩))⟩
        case measure => simp [intOf]
    · subst hx0 hx1 hx2
      have r0 := hR.c0
      have r1 := hR.c1
      have r2 := hR.c2
      have s0 := hR.f0
      have s1 := hR.f1
      have s2 := hR.f2
      go_wp2
      exact bodyPost_ret (v := .agg #[.int .u64 (lo (a + b)), .int .u64 (m3 (a + b)), .int .u64 (u3 (a + b))]) (by simp [results, Tryd.results79, go_sem, r0, r1, r2]) rfl ⟨rfl, ((hW.setCell (by dsimp only; omega) _).setCell (by dsimp only; omega) _).setCell (by dsimp only; omega) _⟩
end Go.Proofs.YtpmlpcejmndidabDoor
