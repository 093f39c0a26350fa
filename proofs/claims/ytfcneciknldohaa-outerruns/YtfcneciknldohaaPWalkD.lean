/-
  Rows of cells; the contracts of vec's each and pairs over numbers.
-/
import Derived.Test.YtfcneciknldohaaBI
import Derived.Laws.MakeOwn
import Derived.OwnWalk
set_option linter.unusedVariables false
set_option linter.unusedSimpArgs false
namespace Go.Proofs.Ytfcneciknldohaa
open Go.RowKit

/-- A row of so many cells. -/
structure Rw (b n : Nat) (h : Nat → Value) (w : World) : Prop where
  c : ∀ k, k < n → w.cell? ⟨b, k, none⟩ = some (h k)
  f : ∀ k, k < n → w.frozen? ⟨b, k, none⟩ = false
theorem Rw.later {b n : Nat} {h : Nat → Value} {w w' : World} (r : Rw b n h w) (hb : Below w.heap.size w w') : Rw b n h w' :=
  ⟨fun k hk => cell_later hb (r.c k hk), fun k hk => frozen_later hb (r.c k hk) (r.f k hk)⟩
theorem Rw.block {b n : Nat} {h : Nat → Value} {w w' : World} (r : Rw b n h w) (hb : w'.heap[b]? = w.heap[b]?) : Rw b n h w' :=
  ⟨fun k hk => (World.cell?_of_block (w := w) hb).trans (r.c k hk), fun k hk => (World.frozen?_of_block (w := w) hb).trans (r.f k hk)⟩
theorem Rw.far {b n : Nat} {h : Nat → Value} {w : World} {p : Addr} (r : Rw b n h w) (u : Value) (hp : p.block ≠ b) : Rw b n h (w.setCell p u) :=
  ⟨fun k hk => cell_set hp (r.c k hk), fun k hk => by rw [World.frozen?_setCell]; exact r.f k hk⟩
theorem Rw.set {b n : Nat} {h : Nat → Value} {w : World} (r : Rw b n h w) (j : Nat) (u : Value) : Rw b n (fun k => if k = j then u else h k) (w.setCell ⟨b, j, none⟩ u) := by
  refine ⟨fun k hk => ?_, fun k hk => by rw [World.frozen?_setCell]; exact r.f k hk⟩
  by_cases e : k = j
  · subst e
    simp only [if_true]
    exact World.cell?_setCell_same' _ _ _ (by rw [r.c k hk]; rfl)
  · simp only [if_neg e]
    exact (World.cell?_setCell_other _ _ _ _ (by first | (simp; done) | (simp; omega))).trans (r.c k hk)
theorem Rw.congr {b n : Nat} {h g : Nat → Value} {w : World} (r : Rw b n h w) (e : ∀ k, k < n → h k = g k) : Rw b n g w :=
  ⟨fun k hk => by rw [r.c k hk, e k hk], r.f⟩
theorem made_get (z : Value) (n k : Nat) (hk : k < n) : (madeCells #[z] n)[k]? = some z := by
  unfold madeCells
  rw [Array.getElem?_map, Array.getElem?_eq_getElem (by simpa using hk)]
  simp [Nat.mod_one]
theorem Rw.made (w : World) (z : Value) (n : Nat) (t : TypeId) : Rw w.heap.size n (fun _ => z) (w.alloc (.cells (madeCells #[z] n) t)) := by
  refine ⟨fun k hk => ?_, fun k hk => ?_⟩
  · have := made_get z n k hk
    simp [go_sem, this]
  · simp [go_sem]
theorem dinfo_fx : (Try.prog.info? 22).map (fun i => (i.zero, i.size, i.bytes)) = some (some (.int .i64 0), 1, 8) := by kernel_rfl
theorem make_fx (n : Nat) (hn : n ≤ 1000000) (w : World) : (Instr.makeSlice 25 (.int .i64 (n : Int)) (.int .i64 (n : Int))).run Try.prog w = .ok (.slice (some ⟨w.heap.size, 0, none⟩) n n) (w.alloc (.cells (madeCells #[.int .i64 0] n) 22)) := by
  obtain ⟨i0, hi, hz0, hz1, hz2⟩ := info_parts dinfo_fx
  have h := run_make (P := Try.prog) w 25 22 i0 (.int .i64 0) Try.underlying25 hi hz0 .i64 .i64 (n : Int) (n : Int) (by omega) (by omega) (by rw [hz2]; omega) (by omega)
  rw [hz1, Nat.mul_one] at h
  exact h
theorem Ar.at {w : World} {adr : Option Addr} {n cap : Nat} {f : Nat → Int} (h : Ar w (.slice adr n cap) n f) (j : Nat) (hj : j < n) : ∃ b o, adr = some ⟨b, o, none⟩ ∧ w.cell? ⟨b, o + j, none⟩ = some (.int .i64 (f j)) ∧ -9223372036854775808 ≤ f j ∧ f j ≤ 9223372036854775807 := by
  obtain ⟨ad, ca, b, o, e, -, -, h3, h4⟩ := h
  cases e
  exact ⟨b, o, h3 (by omega), (h4 j hj).1, (h4 j hj).2⟩
theorem Rw.ar {b n : Nat} {F : Nat → Int} {w : World} (r : Rw b n (fun k => .int .i64 (F k)) w) (hn : n ≤ 1000000) (hF : ∀ k, k < n → -9223372036854775808 ≤ F k ∧ F k ≤ 9223372036854775807) : Ar w (.slice (some ⟨b, 0, none⟩) n n) n F :=
  ⟨some ⟨b, 0, none⟩, n, b, 0, rfl, Nat.le_refl _, by unfold maxLen; omega, fun _ => rfl, fun k hk => ⟨by rw [Nat.zero_add]; exact r.c k hk, hF k hk⟩⟩

set_option maxRecDepth 100000 in
set_option maxHeartbeats 4000000 in
theorem pairs_Sub (p : Value) (S : Nat → World → Prop) (va vb : Value) (n : Nat) (f g F : Nat → Int) (w : World) (hn : n ≤ 70000) (hA : Ar w va n f) (hB : Ar w vb n g)
    (S0 : S 0 w) (SL : ∀ j W W', S j W → Below W.heap.size W W' → S j W') (SS : ∀ j W (a : Addr) u, w.heap.size ≤ a.block → S j W → S j (W.setCell a u)) (SA : ∀ j W, S j W → Ar W va n f ∧ Ar W vb n g) (hF : ∀ k, k < n → -9223372036854775808 ≤ F k ∧ F k ≤ 9223372036854775807)
    (HS : ∀ j W, j < n → w.heap.size < W.heap.size → S j W → Calls Try.prog 46 #[p, .int .i64 (f j), .int .i64 (g j)] W fun e w' => e = .returned (.int .i64 (F j)) ∧ S (j + 1) w' ∧ w'.heap[w.heap.size]? = W.heap[w.heap.size]? ∧ W.heap.size ≤ w'.heap.size) :
    Calls Try.prog 48 #[va, vb, .func (.func 46) #[p] #[]] w fun e w' => e = .returned (.slice (some ⟨w.heap.size, 0, none⟩) n n) ∧ S n w' ∧ Ar w' (.slice (some ⟨w.heap.size, 0, none⟩) n n) n F := by
  obtain ⟨adr, cap, b, o, rfl, k1, k2, -, -⟩ := id hA
  obtain ⟨adq, caq, bq, oq, rfl, q1, q2, -, -⟩ := id hB
  unfold maxLen at *
  have hmk := make_fx n (by omega)
  have hR0 := Rw.made w (.int .i64 0) n 22
  have hS0 : Hid (S 0 (w.alloc (.cells (madeCells #[.int .i64 0] n) 22))) := SL 0 _ _ S0 (bel1 _ _)
  have hz0 : w.heap.size < (w.alloc (.cells (madeCells #[.int .i64 0] n) 22)).heap.size := by rw [World.size_alloc]; omega
  have HSA : Hid (∀ j W, S j W → Ar W (.slice adr n cap) n f ∧ Ar W (.slice adq n caq) n g) := SA
  have HHS : Hid (∀ j W, j < n → w.heap.size < W.heap.size → S j W → Calls Try.prog 46 #[p, .int .i64 (f j), .int .i64 (g j)] W fun e w' => e = .returned (.int .i64 (F j)) ∧ S (j + 1) w' ∧ w'.heap[w.heap.size]? = W.heap[w.heap.size]? ∧ W.heap.size ≤ w'.heap.size) := HS
  have HSS : Hid (∀ j W (a : Addr) u, w.heap.size ≤ a.block → S j W → S j (W.setCell a u)) := SS
  have HF : Hid (∀ k, k < n → -9223372036854775808 ≤ F k ∧ F k ≤ 9223372036854775807) := hF
  clear SA HS SS SL S0 hF hA hB
  go_enter Try.func48, Try.ntmps48
  go_upto_region 3 with fail
  generalize w.alloc (.cells (madeCells #[.int .i64 0] n) 22) = w0 at *
  clear hmk
  go_loopw [15] (fun si wr => ∃ j : Nat, j ≤ n ∧ si = .int .i64 (j : Int) ∧ Hid (S j wr) ∧ Hid (Rw w.heap.size n (fun k => if k < j then .int .i64 (F k) else .int .i64 0) wr) ∧ w.heap.size < wr.heap.size) (fun si _ => n - (intOf si).toNat)
  case atStart =>
    exact ⟨0, by omega, rfl, hS0, hR0.congr (fun k hk => by simp), hz0⟩
  case round =>
    obtain ⟨j, hj, rfl, hS, hR, hz⟩ := hrel
    by_cases hlt : j < n
    · have hjI : (j : Int) < (n : Int) := by omega
      obtain ⟨b, o, rfl, cA, -, -⟩ := (HSA.out j wr hS.out).1.at j hlt
      obtain ⟨bq, oq, rfl, cB, -, -⟩ := (HSA.out j wr hS.out).2.at j hlt
      have CM : Hid (Calls Try.prog 46 #[p, .int .i64 (f j), .int .i64 (g j)] wr fun e w' => e = .returned (.int .i64 (F j)) ∧ S (j + 1) w' ∧ w'.heap[w.heap.size]? = wr.heap[w.heap.size]? ∧ wr.heap.size ≤ w'.heap.size) := HHS.out j wr hlt hz hS.out
      clear hS
      go_wp2_with (go_at_call 46; refine CM.out.mono ?_; rintro e wz ⟨rfl, hSz, hbz, hsz⟩; have HSz : Hid (S (j + 1) wz) := hSz; have HRz := hR.out.block hbz; have cz : wz.cell? ⟨w.heap.size, j, none⟩ = some (.int .i64 0) := (by have := HRz.c j hlt; rw [if_neg (by omega)] at this; exact this); have fz := HRz.f j hlt; replace HRz : Hid _ := HRz; clear hSz hbz hR cA cB)
      have hS2 : Hid (S (j + 1) (wz.setCell ⟨w.heap.size, j, none⟩ (.int .i64 (F j)))) := HSS.out _ _ _ _ (Nat.le_refl _) HSz.out
      have hR2 : Hid (Rw w.heap.size n (fun k => if k < j + 1 then .int .i64 (F k) else .int .i64 0) (wz.setCell ⟨w.heap.size, j, none⟩ (.int .i64 (F j)))) := (HRz.out.set j (.int .i64 (F j))).congr (fun k hk => by
        by_cases e : k = j
        · subst e; simp
        · rw [if_neg e]
          by_cases e2 : k < j
          · rw [if_pos e2, if_pos (by omega)]
          · rw [if_neg e2, if_neg (by omega)])
      have hz2 : w.heap.size < (wz.setCell ⟨w.heap.size, j, none⟩ (.int .i64 (F j))).heap.size := by rw [World.size_setCell]; omega
      go_roundw
      case rel => exact ⟨j + 1, by omega, by go_num, hS2, hR2, hz2⟩
      case measure => simp [intOf]; omega
    · obtain rfl : j = n := by omega
      have hjI : ¬ (j : Int) < (j : Int) := by omega
      have hAr : Hid (Ar wr (.slice (some ⟨w.heap.size, 0, none⟩) j j) j F) := (hR.out.congr (fun k hk => by rw [if_pos hk])).ar (by omega) HF.out
      clear hR
      go_wp2
      go_ret
      exact ⟨rfl, hS.out, hAr.out⟩

set_option maxRecDepth 100000 in
set_option maxHeartbeats 4000000 in
theorem pairs_Axpy (p q : Value) (S : Nat → World → Prop) (va vb : Value) (n : Nat) (f g F : Nat → Int) (w : World) (hn : n ≤ 70000) (hA : Ar w va n f) (hB : Ar w vb n g)
    (S0 : S 0 w) (SL : ∀ j W W', S j W → Below W.heap.size W W' → S j W') (SS : ∀ j W (a : Addr) u, w.heap.size ≤ a.block → S j W → S j (W.setCell a u)) (SA : ∀ j W, S j W → Ar W va n f ∧ Ar W vb n g) (hF : ∀ k, k < n → -9223372036854775808 ≤ F k ∧ F k ≤ 9223372036854775807)
    (HS : ∀ j W, j < n → w.heap.size < W.heap.size → S j W → Calls Try.prog 32 #[.int .i64 (f j), .int .i64 (g j), p, q] W fun e w' => e = .returned (.int .i64 (F j)) ∧ S (j + 1) w' ∧ w'.heap[w.heap.size]? = W.heap[w.heap.size]? ∧ W.heap.size ≤ w'.heap.size) :
    Calls Try.prog 48 #[va, vb, .func (.func 32) #[] #[p, q]] w fun e w' => e = .returned (.slice (some ⟨w.heap.size, 0, none⟩) n n) ∧ S n w' ∧ Ar w' (.slice (some ⟨w.heap.size, 0, none⟩) n n) n F := by
  obtain ⟨adr, cap, b, o, rfl, k1, k2, -, -⟩ := id hA
  obtain ⟨adq, caq, bq, oq, rfl, q1, q2, -, -⟩ := id hB
  unfold maxLen at *
  have hmk := make_fx n (by omega)
  have hR0 := Rw.made w (.int .i64 0) n 22
  have hS0 : Hid (S 0 (w.alloc (.cells (madeCells #[.int .i64 0] n) 22))) := SL 0 _ _ S0 (bel1 _ _)
  have hz0 : w.heap.size < (w.alloc (.cells (madeCells #[.int .i64 0] n) 22)).heap.size := by rw [World.size_alloc]; omega
  have HSA : Hid (∀ j W, S j W → Ar W (.slice adr n cap) n f ∧ Ar W (.slice adq n caq) n g) := SA
  have HHS : Hid (∀ j W, j < n → w.heap.size < W.heap.size → S j W → Calls Try.prog 32 #[.int .i64 (f j), .int .i64 (g j), p, q] W fun e w' => e = .returned (.int .i64 (F j)) ∧ S (j + 1) w' ∧ w'.heap[w.heap.size]? = W.heap[w.heap.size]? ∧ W.heap.size ≤ w'.heap.size) := HS
  have HSS : Hid (∀ j W (a : Addr) u, w.heap.size ≤ a.block → S j W → S j (W.setCell a u)) := SS
  have HF : Hid (∀ k, k < n → -9223372036854775808 ≤ F k ∧ F k ≤ 9223372036854775807) := hF
  clear SA HS SS SL S0 hF hA hB
  go_enter Try.func48, Try.ntmps48
  go_upto_region 3 with fail
  generalize w.alloc (.cells (madeCells #[.int .i64 0] n) 22) = w0 at *
  clear hmk
  go_loopw [15] (fun si wr => ∃ j : Nat, j ≤ n ∧ si = .int .i64 (j : Int) ∧ Hid (S j wr) ∧ Hid (Rw w.heap.size n (fun k => if k < j then .int .i64 (F k) else .int .i64 0) wr) ∧ w.heap.size < wr.heap.size) (fun si _ => n - (intOf si).toNat)
  case atStart =>
    exact ⟨0, by omega, rfl, hS0, hR0.congr (fun k hk => by simp), hz0⟩
  case round =>
    obtain ⟨j, hj, rfl, hS, hR, hz⟩ := hrel
    by_cases hlt : j < n
    · have hjI : (j : Int) < (n : Int) := by omega
      obtain ⟨b, o, rfl, cA, -, -⟩ := (HSA.out j wr hS.out).1.at j hlt
      obtain ⟨bq, oq, rfl, cB, -, -⟩ := (HSA.out j wr hS.out).2.at j hlt
      have CM : Hid (Calls Try.prog 32 #[.int .i64 (f j), .int .i64 (g j), p, q] wr fun e w' => e = .returned (.int .i64 (F j)) ∧ S (j + 1) w' ∧ w'.heap[w.heap.size]? = wr.heap[w.heap.size]? ∧ wr.heap.size ≤ w'.heap.size) := HHS.out j wr hlt hz hS.out
      clear hS
      go_wp2_with (go_at_call 32; refine CM.out.mono ?_; rintro e wz ⟨rfl, hSz, hbz, hsz⟩; have HSz : Hid (S (j + 1) wz) := hSz; have HRz := hR.out.block hbz; have cz : wz.cell? ⟨w.heap.size, j, none⟩ = some (.int .i64 0) := (by have := HRz.c j hlt; rw [if_neg (by omega)] at this; exact this); have fz := HRz.f j hlt; replace HRz : Hid _ := HRz; clear hSz hbz hR cA cB)
      have hS2 : Hid (S (j + 1) (wz.setCell ⟨w.heap.size, j, none⟩ (.int .i64 (F j)))) := HSS.out _ _ _ _ (Nat.le_refl _) HSz.out
      have hR2 : Hid (Rw w.heap.size n (fun k => if k < j + 1 then .int .i64 (F k) else .int .i64 0) (wz.setCell ⟨w.heap.size, j, none⟩ (.int .i64 (F j)))) := (HRz.out.set j (.int .i64 (F j))).congr (fun k hk => by
        by_cases e : k = j
        · subst e; simp
        · rw [if_neg e]
          by_cases e2 : k < j
          · rw [if_pos e2, if_pos (by omega)]
          · rw [if_neg e2, if_neg (by omega)])
      have hz2 : w.heap.size < (wz.setCell ⟨w.heap.size, j, none⟩ (.int .i64 (F j))).heap.size := by rw [World.size_setCell]; omega
      go_roundw
      case rel => exact ⟨j + 1, by omega, by go_num, hS2, hR2, hz2⟩
      case measure => simp [intOf]; omega
    · obtain rfl : j = n := by omega
      have hjI : ¬ (j : Int) < (j : Int) := by omega
      have hAr : Hid (Ar wr (.slice (some ⟨w.heap.size, 0, none⟩) j j) j F) := (hR.out.congr (fun k hk => by rw [if_pos hk])).ar (by omega) HF.out
      clear hR
      go_wp2
      go_ret
      exact ⟨rfl, hS.out, hAr.out⟩

end Go.Proofs.Ytfcneciknldohaa
