/-
  Rows of wide numbers; the contracts of vec's pairs and gather over them.
-/
import Derived.Test.YtldnnjcfihjkdaaDoorPWalkB
import Derived.Test.YtldnnjcfihjkdaaDoorPWalkD
set_option linter.unusedVariables false
set_option linter.unusedSimpArgs false
namespace Go.Proofs.YtldnnjcfihjkdaaDoor
open Go.RowKit

/-- A row of so many wide numbers. -/
structure Wd (b n : Nat) (F : Nat → Int) (w : World) : Prop where
  c0 : ∀ k, k < n → w.cell? ⟨b, k * 2, none⟩ = some (.int .i64 (hi (F k)))
  c1 : ∀ k, k < n → w.cell? ⟨b, k * 2 + 1, none⟩ = some (.int .u64 (lo (F k)))
  f0 : ∀ k, k < n → w.frozen? ⟨b, k * 2, none⟩ = false
  f1 : ∀ k, k < n → w.frozen? ⟨b, k * 2 + 1, none⟩ = false
theorem Wd.later {b n : Nat} {F : Nat → Int} {w w' : World} (r : Wd b n F w) (hb : Below w.heap.size w w') : Wd b n F w' :=
  ⟨fun k hk => cell_later hb (r.c0 k hk), fun k hk => cell_later hb (r.c1 k hk), fun k hk => frozen_later hb (r.c0 k hk) (r.f0 k hk), fun k hk => frozen_later hb (r.c1 k hk) (r.f1 k hk)⟩
theorem Wd.block {b n : Nat} {F : Nat → Int} {w w' : World} (r : Wd b n F w) (hb : w'.heap[b]? = w.heap[b]?) : Wd b n F w' :=
  ⟨fun k hk => (World.cell?_of_block (w := w) hb).trans (r.c0 k hk), fun k hk => (World.cell?_of_block (w := w) hb).trans (r.c1 k hk), fun k hk => (World.frozen?_of_block (w := w) hb).trans (r.f0 k hk), fun k hk => (World.frozen?_of_block (w := w) hb).trans (r.f1 k hk)⟩
theorem Wd.far {b n : Nat} {F : Nat → Int} {w : World} {p : Addr} (r : Wd b n F w) (u : Value) (hp : p.block ≠ b) : Wd b n F (w.setCell p u) :=
  ⟨fun k hk => cell_set hp (r.c0 k hk), fun k hk => cell_set hp (r.c1 k hk), fun k hk => by rw [World.frozen?_setCell]; exact r.f0 k hk, fun k hk => by rw [World.frozen?_setCell]; exact r.f1 k hk⟩
theorem Wd.congr {b n : Nat} {F G : Nat → Int} {w : World} (r : Wd b n F w) (e : ∀ k, k < n → F k = G k) : Wd b n G w :=
  ⟨fun k hk => by rw [r.c0 k hk, e k hk], fun k hk => by rw [r.c1 k hk, e k hk], r.f0, r.f1⟩
theorem Wd.set {b n : Nat} {F : Nat → Int} {w : World} (r : Wd b n F w) (j : Nat) (X : Int) : Wd b n (fun k => if k = j then X else F k) ((w.setCell ⟨b, j * 2, none⟩ (.int .i64 (hi X))).setCell ⟨b, j * 2 + 1, none⟩ (.int .u64 (lo X))) := by
  refine ⟨fun k hk => ?_, fun k hk => ?_, fun k hk => by rw [World.frozen?_setCell, World.frozen?_setCell]; exact r.f0 k hk, fun k hk => by rw [World.frozen?_setCell, World.frozen?_setCell]; exact r.f1 k hk⟩
  · refine (World.cell?_setCell_other _ _ _ _ (by first | (simp; done) | (simp; omega))).trans ?_
    by_cases e : k = j
    · subst e
      rw [if_pos rfl]
      exact World.cell?_setCell_same' _ _ _ (by rw [r.c0 k hk]; rfl)
    · rw [if_neg e]
      exact (World.cell?_setCell_other _ _ _ _ (by first | (simp; done) | (simp; omega))).trans (r.c0 k hk)
  · by_cases e : k = j
    · subst e
      rw [if_pos rfl]
      exact World.cell?_setCell_same' _ _ _ (by rw [World.cell?_setCell_other _ _ _ _ (by first | (simp; done) | (simp; omega)), r.c1 k hk]; rfl)
    · rw [if_neg e]
      refine (World.cell?_setCell_other _ _ _ _ (by first | (simp; done) | (simp; omega))).trans ?_
      exact (World.cell?_setCell_other _ _ _ _ (by first | (simp; done) | (simp; omega))).trans (r.c1 k hk)
theorem made_get2 (y z : Value) (n k : Nat) (hk : k < n) : (madeCells #[y, z] n)[k]? = some (if k % 2 = 0 then y else z) := by
  unfold madeCells
  rw [Array.getElem?_map, Array.getElem?_eq_getElem (by simpa using hk)]
  rcases Nat.mod_two_eq_zero_or_one k with h | h <;> simp [h]
theorem hi_nought : hi 0 = 0 := by decide +kernel
theorem lo_nought : lo 0 = 0 := by decide +kernel
theorem Wd.made (w : World) (n : Nat) (t : TypeId) : Wd w.heap.size n (fun _ => 0) (w.alloc (.cells (madeCells #[.int .i64 0, .int .u64 0] (n * 2)) t)) := by
  refine ⟨fun k hk => ?_, fun k hk => ?_, fun k hk => by simp [go_sem], fun k hk => by simp [go_sem]⟩
  · have := made_get2 (.int .i64 0) (.int .u64 0) (n * 2) (k * 2) (by omega)
    rw [if_pos (by omega)] at this
    simp [go_sem, this, hi_nought]
  · have := made_get2 (.int .i64 0) (.int .u64 0) (n * 2) (k * 2 + 1) (by omega)
    rw [if_neg (by omega)] at this
    simp [go_sem, this, lo_nought]
theorem dinfo_wd : (Tryd.prog.info? 92).map (fun i => (i.zero, i.size, i.bytes)) = some (some (.agg #[.int .i64 0, .int .u64 0]), 2, 16) := by kernel_rfl
theorem make_wd (n : Nat) (hn : n ≤ 1000000) (w : World) : (Instr.makeSlice 117 (.int .i64 (n : Int)) (.int .i64 (n : Int))).run Tryd.prog w = .ok (.slice (some ⟨w.heap.size, 0, none⟩) n n) (w.alloc (.cells (madeCells #[.int .i64 0, .int .u64 0] (n * 2)) 92)) := by
  obtain ⟨i0, hi, hz0, hz1, hz2⟩ := info_parts dinfo_wd
  have h := run_make (P := Tryd.prog) w 117 92 i0 (.agg #[.int .i64 0, .int .u64 0]) Tryd.underlying117 hi hz0 .i64 .i64 (n : Int) (n : Int) (by omega) (by omega) (by rw [hz2]; omega) (by omega)
  rw [hz1] at h
  exact h

set_option maxRecDepth 100000 in
set_option maxHeartbeats 8000000 in
theorem pairs_plus (ba : Nat) (vb : Value) (n : Nat) (F g : Nat → Int) (w : World) (hn : n ≤ 70000) (hA : Wd ba n F w) (hB : Ar w vb n g) :
    Calls Tryd.prog 86 #[.slice (some ⟨ba, 0, none⟩) n n, vb, .func (.func 87) #[] #[]] w fun e w' => e = .returned (.slice (some ⟨w.heap.size, 0, none⟩) n n) ∧ Wd w.heap.size n (fun k => F k + g k) w' ∧ Below w.heap.size w w' := by
  obtain ⟨adq, caq, bq, oq, rfl, q1, q2, -, -⟩ := id hB
  unfold maxLen at *
  have hmk := make_wd n (by omega)
  have hR0 := Wd.made w n 92
  have hS0 : Hid (Below w.heap.size w (w.alloc (.cells (madeCells #[.int .i64 0, .int .u64 0] (n * 2)) 92))) := bel1 _ _
  have hz0 : w.heap.size < (w.alloc (.cells (madeCells #[.int .i64 0, .int .u64 0] (n * 2)) 92)).heap.size := by rw [World.size_alloc]; omega
  have HAB : Hid (Wd ba n F w ∧ Ar w (.slice adq n caq) n g) := ⟨hA, hB⟩
  clear hA hB
  go_enter Tryd.func86, Tryd.ntmps86
  go_upto_region 3 with fail
  generalize w.alloc (.cells (madeCells #[.int .i64 0, .int .u64 0] (n * 2)) 92) = w0 at *
  clear hmk
  go_loopw [15] (fun si wr => ∃ j : Nat, j ≤ n ∧ si = .int .i64 (j : Int) ∧ Hid (Below w.heap.size w wr) ∧ Hid (Wd w.heap.size n (fun k => if k < j then F k + g k else 0) wr) ∧ w.heap.size < wr.heap.size) (fun si _ => n - (intOf si).toNat)
  case atStart =>
    exact ⟨0, by omega, rfl, hS0, hR0.congr (fun k hk => by simp), hz0⟩
  case round =>
    obtain ⟨j, hj, rfl, hS, hR, hz⟩ := hrel
    by_cases hlt : j < n
    · have hjI : (j : Int) < (n : Int) := by omega
      obtain ⟨b, o, rfl, cB, y0, y1⟩ := (HAB.out.2.later hS.out).at j hlt
      have cA0 := (HAB.out.1.later hS.out).c0 j hlt
      have cA1 := (HAB.out.1.later hS.out).c1 j hlt
      have CM : Hid (∀ W : World, Calls Tryd.prog 87 #[.agg #[.int .i64 (hi (F j)), .int .u64 (lo (F j))], .int .i64 (g j)] W fun e w' => e = .returned (.agg #[.int .i64 (hi (F j + g j)), .int .u64 (lo (F j + g j))]) ∧ Below W.heap.size W w') := fun W => plus1_any (F j) (g j) y0 y1 W
      clear y0 y1
      obtain ⟨th, hth⟩ : ∃ x, hi (F j) = x := ⟨_, rfl⟩
      obtain ⟨tl, htl⟩ : ∃ x, lo (F j) = x := ⟨_, rfl⟩
      rw [hth] at cA0 CM
      rw [htl] at cA1 CM
      obtain ⟨rh, hrh⟩ : ∃ x, hi (F j + g j) = x := ⟨_, rfl⟩
      obtain ⟨rl, hrl⟩ : ∃ x, lo (F j + g j) = x := ⟨_, rfl⟩
      rw [hrh, hrl] at CM
      have HE : Hid (hi (F j + g j) = rh ∧ lo (F j + g j) = rl) := ⟨hrh, hrl⟩
      clear hth htl hrh hrl
      have A0 := B2.new wr (.int .i64 th) (.int .u64 tl) 92
      have hb1 := bel1 wr (.cells #[.int .i64 th, .int .u64 tl] 92)
      have cB1 := cell_later hb1 cB
      have D1 : Hid (Wd w.heap.size n (fun k => if k < j then F k + g k else 0) (wr.alloc (.cells #[.int .i64 th, .int .u64 tl] 92))) := hR.out.later hb1
      have S1 : Hid (Below w.heap.size w (wr.alloc (.cells #[.int .i64 th, .int .u64 tl] 92))) := bchain hS.out hb1
      have hz1 : w.heap.size < (wr.alloc (.cells #[.int .i64 th, .int .u64 tl] 92)).heap.size := by rw [World.size_alloc]; omega
      clear hb1 hR hS
      go_upto_region 5 with fail
      clear cB cA0 cA1
      generalize wr.alloc (.cells #[.int .i64 th, .int .u64 tl] 92) = w1 at *
      have hd1 : Below w1.heap.size w1 w1.drew := (Below.refl _ _).drew
      have A := A0.later hd1
      have V := cell_later hd1 cB1
      have D : Hid (Wd w.heap.size n (fun k => if k < j then F k + g k else 0) w1.drew) := D1.out.later hd1
      have CW : Hid (Below w.heap.size w w1.drew) := bchain S1.out hd1
      have CC0 : w1.drew.cell? ⟨w.heap.size, j * 2, none⟩ = some (.int .i64 0) := by have h := D.out.c0 j hlt; rw [if_neg (by omega), hi_nought] at h; exact h
      have CC1 : w1.drew.cell? ⟨w.heap.size, j * 2 + 1, none⟩ = some (.int .u64 0) := by have h := D.out.c1 j hlt; rw [if_neg (by omega), lo_nought] at h; exact h
      have CF0 := D.out.f0 j hlt
      have CF1 := D.out.f1 j hlt
      have hbw : b < w.heap.size := by
        obtain ⟨b', o', e', c', -, -⟩ := HAB.out.2.at j hlt
        cases e'
        exact World.block_lt_of_cell? _ _ c'
      clear hd1 A0 cB1 D1 S1
      go_region_held3 (fun w' => w'.cell? ⟨wr.heap.size, 0, none⟩ = some (.int .i64 th) ∧ w'.cell? ⟨wr.heap.size, 1, none⟩ = some (.int .u64 tl) ∧ w'.cell? ⟨b, o + j, none⟩ = some (.int .i64 (g j)))
        (first | exact ⟨A.c0, A.c1, V⟩ | (have A' := (A.far (p := ⟨w.heap.size, j * 2, none⟩) (.int .i64 rh) (by dsimp only; omega)).far (p := ⟨w.heap.size, j * 2 + 1, none⟩) (.int .u64 rl) (by dsimp only; omega); exact ⟨A'.c0, A'.c1, cell_set (by dsimp only; omega) (cell_set (by dsimp only; omega) V)⟩))
        (first | (go_at_call 87; refine (CM.out _).mono ?_; rintro e wz ⟨rfl, hb⟩; replace A := A.later hb; replace V := cell_later hb V; replace CC0 := cell_later hb CC0; replace CC1 := cell_later hb CC1; replace CF0 := (Wd.later D.out hb).f0 j hlt; replace CF1 := (Wd.later D.out hb).f1 j hlt; replace D : Hid (Wd w.heap.size n (fun k => if k < j then F k + g k else 0) wz) := D.out.later hb; replace CW : Hid (Below w.heap.size w wz) := bchain CW.out hb; clear hb))
      have D5 : Hid (Wd w.heap.size n (fun k => if k < j + 1 then F k + g k else 0) ((wz.setCell ⟨w.heap.size, j * 2, none⟩ (.int .i64 rh)).setCell ⟨w.heap.size, j * 2 + 1, none⟩ (.int .u64 rl))) := by
        have h := D.out.set j (F j + g j)
        rw [HE.out.1, HE.out.2] at h
        exact h.congr (fun k hk => by
          by_cases e : k = j
          · subst e; simp
          · rw [if_neg e]
            by_cases e2 : k < j
            · rw [if_pos e2, if_pos (by omega)]
            · rw [if_neg e2, if_neg (by omega)])
      have W5 : Hid (Below w.heap.size w ((wz.setCell ⟨w.heap.size, j * 2, none⟩ (.int .i64 rh)).setCell ⟨w.heap.size, j * 2 + 1, none⟩ (.int .u64 rl))) := (CW.out.setCell (Nat.le_refl _) _).setCell (Nat.le_refl _) _
      have hz5 : w.heap.size < ((wz.setCell ⟨w.heap.size, j * 2, none⟩ (.int .i64 rh)).setCell ⟨w.heap.size, j * 2 + 1, none⟩ (.int .u64 rl)).heap.size := by
        have h := World.block_lt_of_cell? _ _ CC0
        dsimp only at h
        rw [World.size_setCell, World.size_setCell]
        exact h
      clear D CW A V CC0 CC1 CF0 CF1 CM HE
      go_wp2
      go_roundw
      case rel => exact ⟨j + 1, by omega, by go_num, W5, D5, hz5⟩
      case measure => simp [intOf]; omega
    · obtain rfl : j = n := by omega
      have hjI : ¬ (j : Int) < (j : Int) := by omega
      have hAr : Hid (Wd w.heap.size j (fun k => F k + g k) wr) := hR.out.congr (fun k hk => by rw [if_pos hk])
      clear hR
      go_wp2
      go_ret
      exact ⟨rfl, hAr.out, hS.out⟩
end Go.Proofs.YtldnnjcfihjkdaaDoor
