/-
  Texts of this proof, joined: PWalkD LWalkA LWalkB LWalkC LMath2 LRow LWalkH LWalkE2 LWalkF2 LMath3 LWalkI LMath4 BK BJ LWalkJ EMathB EWalkA EWalkB.
-/
import Derived.Test.YtdfjnbkkdgolnaaGreatDoorSI01
import Derived.Test.YtdfjnbkkdgolnaaGreatDoorSI04
import Derived.Test.YtdfjnbkkdgolnaaGreatDoorSI05
import Derived.Laws.MakeOwn
import Derived.OwnWalk
import Derived.Deep.QuietTactic
import Derived.BigQuiet
import Derived.Deep.RegionHeld3
import Derived.Maps.AppendAt
import Derived.Deep.DrawnRows
import Derived.Deep.Cut
import Derived.Deep.DeepCutAuto
import Derived.Laws.Bits64
set_option linter.unusedVariables false
set_option linter.unusedSimpArgs false
namespace Go.Proofs.YtdfjnbkkdgolnaaGreatDoor
open Go.RowKit

/-- A row of so many cells. -/
structure Rw (b n : Nat) (h : Nat → Value) (w : World) : Prop where
  c : ∀ k, k < n → w.cell? ⟨b, k, none⟩ = some (h k)
  f : ∀ k, k < n → w.frozen? ⟨b, k, none⟩ = false
theorem Rw.later {b n : Nat} {h : Nat → Value} {w w' : World} (r : Rw b n h w) (hb : Below w.heap.size w w') : Rw b n h w' :=
  ⟨fun k hk => cell_later hb (r.c k hk), fun k hk => frozen_later hb (r.c k hk) (r.f k hk)⟩
theorem Rw.block {b n : Nat} {h : Nat → Value} {w w' : World} (r : Rw b n h w) (hb : w'.heap[b]? = w.heap[b]?) : Rw b n h w' :=
  ⟨fun k hk => (World.cell?_of_block (w := w) hb).trans (r.c k hk), fun k hk => (World.frozen?_of_block (w := w) hb).trans (r.f k hk)⟩
theorem Rw.far {b n : Nat} {h : Nat → Value} {w : World} {p : Addr} (r : Rw b n h w) (u : Value) (hp : p.block ≠ b) : Rw b n h (w.setCell p u) :=
  ⟨fun k hk => cell_set hp (r.c k hk), fun k hk => by rw [World.frozen?_setCell]; exact r.f k hk⟩
theorem Rw.set {b n : Nat} {h : Nat → Value} {w : World} (r : Rw b n h w) (j : Nat) (u : Value) : Rw b n (fun k => if k = j then u else h k) (w.setCell ⟨b, j, none⟩ u) := by
  refine ⟨fun k hk => ?_, fun k hk => by rw [World.frozen?_setCell]; exact r.f k hk⟩
  by_cases e : k = j
  · subst e
    simp only [if_true]
    exact World.cell?_setCell_same' _ _ _ (by rw [r.c k hk]; rfl)
  · simp only [if_neg e]
    exact (World.cell?_setCell_other _ _ _ _ (by first | (simp; done) | (simp; omega))).trans (r.c k hk)
theorem Rw.congr {b n : Nat} {h g : Nat → Value} {w : World} (r : Rw b n h w) (e : ∀ k, k < n → h k = g k) : Rw b n g w :=
  ⟨fun k hk => by rw [r.c k hk, e k hk], r.f⟩
theorem made_get (z : Value) (n k : Nat) (hk : k < n) : (madeCells #[z] n)[k]? = some z := by
  unfold madeCells
  rw [Array.getElem?_map, Array.getElem?_eq_getElem (by simpa using hk)]
  simp [Nat.mod_one]
theorem Rw.made (w : World) (z : Value) (n : Nat) (t : TypeId) : Rw w.heap.size n (fun _ => z) (w.alloc (.cells (madeCells #[z] n) t)) := by
  refine ⟨fun k hk => ?_, fun k hk => ?_⟩
  · have := made_get z n k hk
    simp [go_sem, this]
  · simp [go_sem]
theorem dinfo_fx : (Tryz.prog.info? 41).map (fun i => (i.zero, i.size, i.bytes)) = some (some (.int .i64 0), 1, 8) := by kernel_rfl
theorem make_fx (n : Nat) (hn : n ≤ 1000000) (w : World) : (Instr.makeSlice 23 (.int .i64 (n : Int)) (.int .i64 (n : Int))).run Tryz.prog w = .ok (.slice (some ⟨w.heap.size, 0, none⟩) n n) (w.alloc (.cells (madeCells #[.int .i64 0] n) 41)) := by
  obtain ⟨i0, hi, hz0, hz1, hz2⟩ := info_parts dinfo_fx
  have h := run_make (P := Tryz.prog) w 23 41 i0 (.int .i64 0) Tryz.underlying23 hi hz0 .i64 .i64 (n : Int) (n : Int) (by omega) (by omega) (by rw [hz2]; omega) (by omega)
  rw [hz1, Nat.mul_one] at h
  exact h
theorem Ar.at {w : World} {adr : Option Addr} {n cap : Nat} {f : Nat → Int} (h : Ar w (.slice adr n cap) n f) (j : Nat) (hj : j < n) : ∃ b o, adr = some ⟨b, o, none⟩ ∧ w.cell? ⟨b, o + j, none⟩ = some (.int .i64 (f j)) ∧ -9223372036854775808 ≤ f j ∧ f j ≤ 9223372036854775807 := by
  obtain ⟨ad, ca, b, o, e, -, -, h3, h4⟩ := h
  cases e
  exact ⟨b, o, h3 (by omega), (h4 j hj).1, (h4 j hj).2⟩
theorem Rw.ar {b n : Nat} {F : Nat → Int} {w : World} (r : Rw b n (fun k => .int .i64 (F k)) w) (hn : n ≤ 1000000) (hF : ∀ k, k < n → -9223372036854775808 ≤ F k ∧ F k ≤ 9223372036854775807) : Ar w (.slice (some ⟨b, 0, none⟩) n n) n F :=
  ⟨some ⟨b, 0, none⟩, n, b, 0, rfl, Nat.le_refl _, by unfold maxLen; omega, fun _ => rfl, fun k hk => ⟨by rw [Nat.zero_add]; exact r.c k hk, hF k hk⟩⟩

set_option maxRecDepth 100000 in
set_option maxHeartbeats 4000000 in
theorem each_scaled (p q : Value) (S : Nat → World → Prop) (va : Value) (n : Nat) (f F : Nat → Int) (w : World) (hn : n ≤ 70000) (hA : Ar w va n f)
    (S0 : S 0 w) (SL : ∀ j W W', S j W → Below W.heap.size W W' → S j W') (SS : ∀ j W (a : Addr) u, w.heap.size ≤ a.block → S j W → S j (W.setCell a u)) (SA : ∀ j W, S j W → Ar W va n f) (hF : ∀ k, k < n → -9223372036854775808 ≤ F k ∧ F k ≤ 9223372036854775807)
    (HS : ∀ j W, j < n → w.heap.size < W.heap.size → S j W → Calls Tryz.prog 152 #[.int .i64 (f j), p, q] W fun e w' => e = .returned (.int .i64 (F j)) ∧ S (j + 1) w' ∧ w'.heap[w.heap.size]? = W.heap[w.heap.size]? ∧ W.heap.size ≤ w'.heap.size) :
    Calls Tryz.prog 151 #[va, .func (.func 152) #[] #[p, q]] w fun e w' => e = .returned (.slice (some ⟨w.heap.size, 0, none⟩) n n) ∧ S n w' ∧ Ar w' (.slice (some ⟨w.heap.size, 0, none⟩) n n) n F := by
  obtain ⟨adr, cap, b, o, rfl, k1, k2, -, -⟩ := id hA
  unfold maxLen at *
  have hmk := make_fx n (by omega)
  have hR0 := Rw.made w (.int .i64 0) n 41
  have hS0 : Hid (S 0 (w.alloc (.cells (madeCells #[.int .i64 0] n) 41))) := SL 0 _ _ S0 (bel1 _ _)
  have hz0 : w.heap.size < (w.alloc (.cells (madeCells #[.int .i64 0] n) 41)).heap.size := by rw [World.size_alloc]; omega
  have HSA : Hid (∀ j W, S j W → Ar W (.slice adr n cap) n f) := SA
  have HHS : Hid (∀ j W, j < n → w.heap.size < W.heap.size → S j W → Calls Tryz.prog 152 #[.int .i64 (f j), p, q] W fun e w' => e = .returned (.int .i64 (F j)) ∧ S (j + 1) w' ∧ w'.heap[w.heap.size]? = W.heap[w.heap.size]? ∧ W.heap.size ≤ w'.heap.size) := HS
  have HSS : Hid (∀ j W (a : Addr) u, w.heap.size ≤ a.block → S j W → S j (W.setCell a u)) := SS
  have HF : Hid (∀ k, k < n → -9223372036854775808 ≤ F k ∧ F k ≤ 9223372036854775807) := hF
  clear SA HS SS SL S0 hF hA
  go_enter Tryz.func151, Tryz.ntmps151
  go_upto_region 3 with fail
  generalize w.alloc (.cells (madeCells #[.int .i64 0] n) 41) = w0 at *
  clear hmk
  go_loopw [13] (fun si wr => ∃ j : Nat, j ≤ n ∧ si = .int .i64 (j : Int) ∧ Hid (S j wr) ∧ Hid (Rw w.heap.size n (fun k => if k < j then .int .i64 (F k) else .int .i64 0) wr) ∧ w.heap.size < wr.heap.size) (fun si _ => n - (intOf si).toNat)
  case atStart =>
    exact ⟨0, by omega, rfl, hS0, hR0.congr (fun k hk => by simp), hz0⟩
  case round =>
    obtain ⟨j, hj, rfl, hS, hR, hz⟩ := hrel
    by_cases hlt : j < n
    · have hjI : (j : Int) < (n : Int) := by omega
      obtain ⟨b, o, rfl, cA, -, -⟩ := (HSA.out j wr hS.out).at j hlt
      have CM : Hid (Calls Tryz.prog 152 #[.int .i64 (f j), p, q] wr fun e w' => e = .returned (.int .i64 (F j)) ∧ S (j + 1) w' ∧ w'.heap[w.heap.size]? = wr.heap[w.heap.size]? ∧ wr.heap.size ≤ w'.heap.size) := HHS.out j wr hlt hz hS.out
      clear hS
      go_wp2_with (go_at_call 152; refine CM.out.mono ?_; rintro e wz ⟨rfl, hSz, hbz, hsz⟩; have HSz : Hid (S (j + 1) wz) := hSz; have HRz := hR.out.block hbz; have cz : wz.cell? ⟨w.heap.size, j, none⟩ = some (.int .i64 0) := (by have := HRz.c j hlt; rw [if_neg (by omega)] at this; exact this); have fz := HRz.f j hlt; replace HRz : Hid _ := HRz; clear hSz hbz hR cA)
      have hS2 : Hid (S (j + 1) (wz.setCell ⟨w.heap.size, j, none⟩ (.int .i64 (F j)))) := HSS.out _ _ _ _ (Nat.le_refl _) HSz.out
      have hR2 : Hid (Rw w.heap.size n (fun k => if k < j + 1 then .int .i64 (F k) else .int .i64 0) (wz.setCell ⟨w.heap.size, j, none⟩ (.int .i64 (F j)))) := (HRz.out.set j (.int .i64 (F j))).congr (fun k hk => by
        by_cases e : k = j
        · subst e; simp
        · rw [if_neg e]
          by_cases e2 : k < j
          · rw [if_pos e2, if_pos (by omega)]
          · rw [if_neg e2, if_neg (by omega)])
      have hz2 : w.heap.size < (wz.setCell ⟨w.heap.size, j, none⟩ (.int .i64 (F j))).heap.size := by rw [World.size_setCell]; omega
      go_roundw
      case rel => exact ⟨j + 1, by omega, by go_num, hS2, hR2, hz2⟩
      case measure => simp [intOf]; omega
    · obtain rfl : j = n := by omega
      have hjI : ¬ (j : Int) < (j : Int) := by omega
      have hAr : Hid (Ar wr (.slice (some ⟨w.heap.size, 0, none⟩) j j) j F) := (hR.out.congr (fun k hk => by rw [if_pos hk])).ar (by omega) HF.out
      clear hR
      go_wp2
      go_ret
      exact ⟨rfl, hS.out, hAr.out⟩

set_option maxRecDepth 100000 in
set_option maxHeartbeats 4000000 in
theorem pairs_Sub (p : Value) (S : Nat → World → Prop) (va vb : Value) (n : Nat) (f g F : Nat → Int) (w : World) (hn : n ≤ 70000) (hA : Ar w va n f) (hB : Ar w vb n g)
    (S0 : S 0 w) (SL : ∀ j W W', S j W → Below W.heap.size W W' → S j W') (SS : ∀ j W (a : Addr) u, w.heap.size ≤ a.block → S j W → S j (W.setCell a u)) (SA : ∀ j W, S j W → Ar W va n f ∧ Ar W vb n g) (hF : ∀ k, k < n → -9223372036854775808 ≤ F k ∧ F k ≤ 9223372036854775807)
    (HS : ∀ j W, j < n → w.heap.size < W.heap.size → S j W → Calls Tryz.prog 193 #[p, .int .i64 (f j), .int .i64 (g j)] W fun e w' => e = .returned (.int .i64 (F j)) ∧ S (j + 1) w' ∧ w'.heap[w.heap.size]? = W.heap[w.heap.size]? ∧ W.heap.size ≤ w'.heap.size) :
    Calls Tryz.prog 194 #[va, vb, .func (.func 193) #[p] #[]] w fun e w' => e = .returned (.slice (some ⟨w.heap.size, 0, none⟩) n n) ∧ S n w' ∧ Ar w' (.slice (some ⟨w.heap.size, 0, none⟩) n n) n F := by
  obtain ⟨adr, cap, b, o, rfl, k1, k2, -, -⟩ := id hA
  obtain ⟨adq, caq, bq, oq, rfl, q1, q2, -, -⟩ := id hB
  unfold maxLen at *
  have hmk := make_fx n (by omega)
  have hR0 := Rw.made w (.int .i64 0) n 41
  have hS0 : Hid (S 0 (w.alloc (.cells (madeCells #[.int .i64 0] n) 41))) := SL 0 _ _ S0 (bel1 _ _)
  have hz0 : w.heap.size < (w.alloc (.cells (madeCells #[.int .i64 0] n) 41)).heap.size := by rw [World.size_alloc]; omega
  have HSA : Hid (∀ j W, S j W → Ar W (.slice adr n cap) n f ∧ Ar W (.slice adq n caq) n g) := SA
  have HHS : Hid (∀ j W, j < n → w.heap.size < W.heap.size → S j W → Calls Tryz.prog 193 #[p, .int .i64 (f j), .int .i64 (g j)] W fun e w' => e = .returned (.int .i64 (F j)) ∧ S (j + 1) w' ∧ w'.heap[w.heap.size]? = W.heap[w.heap.size]? ∧ W.heap.size ≤ w'.heap.size) := HS
  have HSS : Hid (∀ j W (a : Addr) u, w.heap.size ≤ a.block → S j W → S j (W.setCell a u)) := SS
  have HF : Hid (∀ k, k < n → -9223372036854775808 ≤ F k ∧ F k ≤ 9223372036854775807) := hF
  clear SA HS SS SL S0 hF hA hB
  go_enter Tryz.func194, Tryz.ntmps194
  go_upto_region 3 with fail
  generalize w.alloc (.cells (madeCells #[.int .i64 0] n) 41) = w0 at *
  clear hmk
  go_loopw [15] (fun si wr => ∃ j : Nat, j ≤ n ∧ si = .int .i64 (j : Int) ∧ Hid (S j wr) ∧ Hid (Rw w.heap.size n (fun k => if k < j then .int .i64 (F k) else .int .i64 0) wr) ∧ w.heap.size < wr.heap.size) (fun si _ => n - (intOf si).toNat)
  case atStart =>
    exact ⟨0, by omega, rfl, hS0, hR0.congr (fun k hk => by simp), hz0⟩
  case round =>
    obtain ⟨j, hj, rfl, hS, hR, hz⟩ := hrel
    by_cases hlt : j < n
    · have hjI : (j : Int) < (n : Int) := by omega
      obtain ⟨b, o, rfl, cA, -, -⟩ := (HSA.out j wr hS.out).1.at j hlt
      obtain ⟨bq, oq, rfl, cB, -, -⟩ := (HSA.out j wr hS.out).2.at j hlt
      have CM : Hid (Calls Tryz.prog 193 #[p, .int .i64 (f j), .int .i64 (g j)] wr fun e w' => e = .returned (.int .i64 (F j)) ∧ S (j + 1) w' ∧ w'.heap[w.heap.size]? = wr.heap[w.heap.size]? ∧ wr.heap.size ≤ w'.heap.size) := HHS.out j wr hlt hz hS.out
      clear hS
      go_wp2_with (go_at_call 193; refine CM.out.mono ?_; rintro e wz ⟨rfl, hSz, hbz, hsz⟩; have HSz : Hid (S (j + 1) wz) := hSz; have HRz := hR.out.block hbz; have cz : wz.cell? ⟨w.heap.size, j, none⟩ = some (.int .i64 0) := (by have := HRz.c j hlt; rw [if_neg (by omega)] at this; exact this); have fz := HRz.f j hlt; replace HRz : Hid _ := HRz; clear hSz hbz hR cA cB)
      have hS2 : Hid (S (j + 1) (wz.setCell ⟨w.heap.size, j, none⟩ (.int .i64 (F j)))) := HSS.out _ _ _ _ (Nat.le_refl _) HSz.out
      have hR2 : Hid (Rw w.heap.size n (fun k => if k < j + 1 then .int .i64 (F k) else .int .i64 0) (wz.setCell ⟨w.heap.size, j, none⟩ (.int .i64 (F j)))) := (HRz.out.set j (.int .i64 (F j))).congr (fun k hk => by
        by_cases e : k = j
        · subst e; simp
        · rw [if_neg e]
          by_cases e2 : k < j
          · rw [if_pos e2, if_pos (by omega)]
          · rw [if_neg e2, if_neg (by omega)])
      have hz2 : w.heap.size < (wz.setCell ⟨w.heap.size, j, none⟩ (.int .i64 (F j))).heap.size := by rw [World.size_setCell]; omega
      go_roundw
      case rel => exact ⟨j + 1, by omega, by go_num, hS2, hR2, hz2⟩
      case measure => simp [intOf]; omega
    · obtain rfl : j = n := by omega
      have hjI : ¬ (j : Int) < (j : Int) := by omega
      have hAr : Hid (Ar wr (.slice (some ⟨w.heap.size, 0, none⟩) j j) j F) := (hR.out.congr (fun k hk => by rw [if_pos hk])).ar (by omega) HF.out
      clear hR
      go_wp2
      go_ret
      exact ⟨rfl, hS.out, hAr.out⟩

end Go.Proofs.YtdfjnbkkdgolnaaGreatDoor
set_option linter.unusedVariables false
set_option linter.unusedSimpArgs false
namespace Go.Proofs.YtdfjnbkkdgolnaaGreatDoor
open Go.RowKit

/-- How far sizes are right. -/
def szB (f : Nat → Int) (m : Nat) : Prop := ∀ i, i < m → 1 ≤ f i ∧ f i ≤ 64
set_option maxRecDepth 100000 in
set_option maxHeartbeats 4000000 in
theorem count_yes (va : Value) (m : Nat) (z : Nat → Nat) (w : World) (hA : Ar w va m (fun i => ((z i : Nat) : Int))) (hz : Szs z m) :
    Calls Tryz.prog 13 #[va] w fun e w' => e = .returned (.int .i64 ((fsN z (m - 1) : Nat) : Int)) ∧ Below w.heap.size w w' := by
  obtain ⟨adr, cap, b, o, rfl, k1, k2, k3, k4⟩ := hA
  unfold maxLen at k2
  obtain ⟨m2, m6, hz⟩ := hz
  have ha := k3 (by omega)
  subst ha
  have HX : Hid (∀ i, i < m → w.cell? ⟨b, o + i, none⟩ = some (.int .i64 ((z i : Nat) : Int))) := fun i hi => (k4 i hi).1
  have HZ : Hid (∀ i, i < m → 1 ≤ z i ∧ z i ≤ 64) := hz
  clear k3 k4 hz
  have q1 : ¬ (m : Int) < 2 := by omega
  have q2 : ¬ (6 : Int) < (m : Int) := by omega
  go_enter Tryz.func13, Tryz.ntmps13
  go_upto_region 5 with fail
  go_loopw [3, 4] (fun s3 si wr => ∃ i v : Nat, i ≤ m ∧ si = .int .i64 (i : Int) ∧ s3 = .int .i64 (v : Int) ∧ Hid (v = fsN z (i - 1)) ∧ Hid (Below w.heap.size w wr)) (fun _ si _ => m - (intOf si).toNat)
  case atStart => exact ⟨0, 0, by omega, rfl, rfl, rfl, Below.refl _ _⟩
  case round =>
    obtain ⟨i, v, hi, rfl, rfl, HV, HW⟩ := hrel
    by_cases hlt : i < m
    · have hiI : (i : Int) < (m : Int) := by omega
      have cA : wr.cell? ⟨b, o + i, none⟩ = some (.int .i64 ((z i : Nat) : Int)) := cell_later HW.out (HX.out i hlt)
      obtain ⟨z1, z2⟩ := HZ.out i hlt
      have zI1 : ¬ ((z i : Nat) : Int) < 1 := by omega
      have zI2 : ¬ (64 : Int) < ((z i : Nat) : Int) := by omega
      by_cases h0 : 0 < i
      · have h0I : (0 : Int) < (i : Int) := by omega
        have cB : wr.cell? ⟨b, o + (i - 1), none⟩ = some (.int .i64 ((z (i - 1) : Nat) : Int)) := cell_later HW.out (HX.out (i - 1) (by omega))
        obtain ⟨y1, y2⟩ := HZ.out (i - 1) (by omega)
        have hvb : v ≤ 4160 * 6 := by
          have h := fsN_le z m (i - 1) HZ.out (by omega)
          rw [HV.out]; omega
        have HV2 : Hid (v + (z (i - 1) * z i + z i) = fsN z (i + 1 - 1)) := by
          show _ = _
          obtain ⟨j, rfl⟩ : ∃ j, i = j + 1 := ⟨i - 1, by omega⟩
          have h := HV.out
          simp only [Nat.add_sub_cancel] at h ⊢
          rw [h]
          rfl
        have hpb : z (i - 1) * z i ≤ 64 * 64 := Nat.mul_le_mul y2 z2
        have epr : ((z (i - 1) : Nat) : Int) * ((z i : Nat) : Int) = ((z (i - 1) * z i : Nat) : Int) := by rw [Int.natCast_mul]
        have ei : (i : Int) - 1 = ((i - 1 : Nat) : Int) := by omega
        have hi1 : ((i - 1 : Nat) : Int) < (m : Int) := by omega
        generalize z (i - 1) * z i = pr at *
        generalize z (i - 1) = za at *
        generalize z i = zb at *
        have Ei : Hid ((i : Int) - 1 = ((i - 1 : Nat) : Int)) := ei
        have w1 : IntKind.i64.wrap ((i : Int) - 1) = ((i - 1 : Nat) : Int) := by rw [IntKind.wrap_i64]; omega
        have w2 : IntKind.i64.wrap ((pr : Nat) : Int) = (pr : Int) := by rw [IntKind.wrap_i64]; omega
        have w3 : IntKind.i64.wrap ((pr : Int) + (zb : Int)) = ((pr + zb : Nat) : Int) := by rw [IntKind.wrap_i64]; omega
        have w4 : IntKind.i64.wrap ((v : Int) + ((pr + zb : Nat) : Int)) = ((v + (pr + zb) : Nat) : Int) := by rw [IntKind.wrap_i64]; omega
        clear ei
        generalize i - 1 = ip at *
        generalize v + (pr + zb) = vv at *
        generalize pr + zb = pz at *
        go_upto_region 10 with fail
        go_quiet (fail)
        go_wp2
        go_roundw
        case rel => exact ⟨i + 1, vv, by omega, by go_num, rfl, HV2, below_drewN HW.out _⟩
        case measure => simp [intOf]; omega
      · obtain rfl : i = 0 := by omega
        rw [Nat.add_zero] at cA
        go_wp2
        go_roundw
        case rel => exact ⟨1, v, by omega, by go_num, rfl, HV, HW⟩
        case measure => simp [intOf]; omega
    · obtain rfl : i = m := by omega
      have hiI : ¬ (i : Int) < (i : Int) := by omega
      have HV' : Hid (fsN z (i - 1) = v) := HV.out.symm
      go_wp2
      go_ret
      exact ⟨by show Ending.returned (Value.int .i64 (v : Int)) = _; rw [HV'.out], HW.out⟩
set_option maxRecDepth 100000 in
set_option maxHeartbeats 4000000 in
theorem count_no (va : Value) (m : Nat) (f : Nat → Int) (w : World) (hA : Ar w va m f) (hz : ¬ (2 ≤ m ∧ m ≤ 6 ∧ szB f m)) :
    Calls Tryz.prog 13 #[va] w fun e w' => e = .returned (.int .i64 (-1)) ∧ Below w.heap.size w w' := by
  have hB0 : Hid (Below w.heap.size w w) := Below.refl _ _
  by_cases h2 : m < 2
  · obtain ⟨adr, cap, b, o, rfl, k1, k2, k3, k4⟩ := hA
    have q1 : (m : Int) < 2 := by omega
    clear k3 k4 hz
    go_enter Tryz.func13, Tryz.ntmps13
    go_wp2
    go_ret
    exact ⟨rfl, hB0.out⟩
  by_cases h6 : 6 < m
  · obtain ⟨adr, cap, b, o, rfl, k1, k2, k3, k4⟩ := hA
    have q1 : ¬ (m : Int) < 2 := by omega
    have q2 : (6 : Int) < (m : Int) := by omega
    clear k3 k4 hz
    go_enter Tryz.func13, Tryz.ntmps13
    go_wp2
    go_ret
    exact ⟨rfl, hB0.out⟩
  have hex : ∃ k, k < m ∧ ¬ (1 ≤ f k ∧ f k ≤ 64) := by
    by_cases h : ∃ k, k < m ∧ ¬ (1 ≤ f k ∧ f k ≤ 64)
    · exact h
    · exact absurd ⟨by omega, by omega, fun i hi => Classical.byContradiction fun hc => h ⟨i, hi, hc⟩⟩ hz
  obtain ⟨k, ⟨hkm, hkb⟩, -, hkl⟩ : ∃ q, (q < m ∧ ¬ (1 ≤ f q ∧ f q ≤ 64)) ∧ q ≤ m ∧ ∀ j, j < q → ¬ (j < m ∧ ¬ (1 ≤ f j ∧ f j ≤ 64)) := by
    classical
    obtain ⟨k0, hk0⟩ := hex
    obtain ⟨q, a1, a2, a3⟩ := least (fun q => q < m ∧ ¬ (1 ≤ f q ∧ f q ≤ 64)) k0 hk0
    exact ⟨q, a1, by omega, a3⟩
  obtain ⟨adr, cap, b, o, rfl, k1, k2, k3, k4⟩ := hA
  unfold maxLen at k2
  have ha := k3 (by omega)
  subst ha
  have HX : Hid (∀ i, i < m → w.cell? ⟨b, o + i, none⟩ = some (.int .i64 (f i))) := fun i hi => (k4 i hi).1
  have HZ : Hid (∀ i, i < k → 1 ≤ f i ∧ f i ≤ 64) := fun i hi => Classical.byContradiction fun hc => hkl i hi ⟨by omega, hc⟩
  have HK : Hid (¬ (1 ≤ f k ∧ f k ≤ 64)) := hkb
  clear k3 k4 hz hkb hkl hex
  have q1 : ¬ (m : Int) < 2 := by omega
  have q2 : ¬ (6 : Int) < (m : Int) := by omega
  go_enter Tryz.func13, Tryz.ntmps13
  go_upto_region 5 with fail
  go_loopw [3, 4] (fun s3 si wr => ∃ i v : Nat, i ≤ k ∧ si = .int .i64 (i : Int) ∧ s3 = .int .i64 (v : Int) ∧ v ≤ 4160 * i ∧ Hid (Below w.heap.size w wr)) (fun _ si _ => m - (intOf si).toNat)
  case atStart => exact ⟨0, 0, by omega, rfl, rfl, by omega, Below.refl _ _⟩
  case round =>
    obtain ⟨i, v, hi, rfl, rfl, hvb, HW⟩ := hrel
    have hlt : i < m := by omega
    have hiI : (i : Int) < (m : Int) := by omega
    have cA : wr.cell? ⟨b, o + i, none⟩ = some (.int .i64 (f i)) := cell_later HW.out (HX.out i hlt)
    by_cases hik : i = k
    · have hb := HK.out
      rw [← hik] at hb
      generalize f i = x at *
      clear hik
      by_cases hx : x < 1
      · by_cases h0 : i = 0
        · subst h0
          rw [Nat.add_zero] at cA
          go_wp2
          go_ret
          exact ⟨rfl, HW.out⟩
        · go_wp2
          go_ret
          exact ⟨rfl, HW.out⟩
      · have hx2 : 64 < x := by omega
        by_cases h0 : i = 0
        · subst h0
          rw [Nat.add_zero] at cA
          go_wp2
          go_ret
          exact ⟨rfl, HW.out⟩
        · go_wp2
          go_ret
          exact ⟨rfl, HW.out⟩
    · obtain ⟨z1, z2⟩ := HZ.out i (by omega)
      have zI1 : ¬ f i < 1 := by omega
      have zI2 : ¬ 64 < f i := by omega
      by_cases h0 : 0 < i
      · have h0I : (0 : Int) < (i : Int) := by omega
        have cB : wr.cell? ⟨b, o + (i - 1), none⟩ = some (.int .i64 (f (i - 1))) := cell_later HW.out (HX.out (i - 1) (by omega))
        obtain ⟨y1, y2⟩ := HZ.out (i - 1) (by omega)
        obtain ⟨za, hza⟩ : ∃ y : Nat, f (i - 1) = (y : Int) := ⟨(f (i - 1)).toNat, by omega⟩
        obtain ⟨zb, hzb⟩ : ∃ y : Nat, f i = (y : Int) := ⟨(f i).toNat, by omega⟩
        rw [hza] at cB y1 y2
        rw [hzb] at cA z1 z2 zI1 zI2
        obtain ⟨pr, hpr⟩ : ∃ p, za * zb = p := ⟨_, rfl⟩
        have hpb : pr ≤ 64 * 64 := by rw [← hpr]; exact Nat.mul_le_mul (by omega) (by omega)
        have epr : (za : Int) * (zb : Int) = (pr : Int) := by rw [← hpr, Int.natCast_mul]
        have hi1 : ((i - 1 : Nat) : Int) < (m : Int) := by omega
        have w1 : IntKind.i64.wrap ((i : Int) - 1) = ((i - 1 : Nat) : Int) := by rw [IntKind.wrap_i64]; omega
        have w2 : IntKind.i64.wrap (pr : Int) = (pr : Int) := by rw [IntKind.wrap_i64]; omega
        have w3 : IntKind.i64.wrap ((pr : Int) + (zb : Int)) = ((pr + zb : Nat) : Int) := by rw [IntKind.wrap_i64]; omega
        have w4 : IntKind.i64.wrap ((v : Int) + ((pr + zb : Nat) : Int)) = ((v + (pr + zb) : Nat) : Int) := by rw [IntKind.wrap_i64]; omega
        have hv2 : v + (pr + zb) ≤ 4160 * (i + 1) := by omega
        have hik2 : i + 1 ≤ k := by omega
        clear hza hzb hpr hik
        generalize i - 1 = ip at *
        generalize v + (pr + zb) = vv at *
        generalize pr + zb = pz at *
        go_upto_region 10 with fail
        go_quiet (fail)
        go_wp2
        go_roundw
        case rel => exact ⟨i + 1, vv, hik2, by go_num, rfl, hv2, below_drewN HW.out _⟩
        case measure => simp [intOf]; omega
      · obtain rfl : i = 0 := by omega
        rw [Nat.add_zero] at cA
        go_wp2
        go_roundw
        case rel => exact ⟨1, v, by omega, by go_num, rfl, by omega, HW⟩
        case measure => simp [intOf]; omega
end Go.Proofs.YtdfjnbkkdgolnaaGreatDoor
set_option linter.unusedVariables false
set_option linter.unusedSimpArgs false
namespace Go.Proofs.YtdfjnbkkdgolnaaGreatDoor
open Go.RowKit

set_option maxRecDepth 100000 in
set_option maxHeartbeats 4000000 in
theorem first_any (vs vp : Value) (m l : Nat) (z : Nat → Nat) (w : World) (hA : Ar w vs m (fun i => ((z i : Nat) : Int))) (hz : Szs z m) (hl : l + 1 ≤ m) :
    Calls Tryz.prog 40 #[.agg #[vs, vp], .int .i64 (l : Int)] w fun e w' => e = .returned (.int .i64 ((fsN z l : Nat) : Int)) ∧ Below w.heap.size w w' := by
  obtain ⟨adr, cap, b, o, rfl, k1, k2, k3, k4⟩ := hA
  unfold maxLen at k2
  obtain ⟨m2, m6, hz⟩ := hz
  have ha := k3 (by omega)
  subst ha
  have HX : Hid (∀ i, i < m → w.cell? ⟨b, o + i, none⟩ = some (.int .i64 ((z i : Nat) : Int))) := fun i hi => (k4 i hi).1
  have HZ : Hid (∀ i, i < m → 1 ≤ z i ∧ z i ≤ 64) := hz
  clear k3 k4 hz
  have B0 : Hid (Bx w.heap.size (.slice (some ⟨b, o, none⟩) m cap) vp (w.alloc (.cells #[.slice (some ⟨b, o, none⟩) m cap, vp] 37))) := Bx.new w _ _ _
  have W0 : Hid (Below w.heap.size w (w.alloc (.cells #[.slice (some ⟨b, o, none⟩) m cap, vp] 37))) := bel1 w _
  go_enter Tryz.func40, Tryz.ntmps40
  go_upto_region 3 with fail
  generalize w.alloc (.cells #[.slice (some ⟨b, o, none⟩) m cap, vp] 37) = w1 at *
  go_loopw [5, 6] (fun s5 si wr => ∃ i v : Nat, i ≤ l ∧ si = .int .i64 (i : Int) ∧ s5 = .int .i64 (v : Int) ∧ Hid (v = fsN z i) ∧ Hid (Bx w.heap.size (.slice (some ⟨b, o, none⟩) m cap) vp wr) ∧ Hid (Below w.heap.size w wr)) (fun _ si _ => l - (intOf si).toNat)
  case atStart => exact ⟨0, 0, by omega, rfl, rfl, rfl, B0, W0⟩
  case round =>
    obtain ⟨i, v, hi, rfl, rfl, HV, HB, HW⟩ := hrel
    by_cases hlt : i < l
    · have hiI : (i : Int) < (l : Int) := by omega
      have hiM : (i : Int) < (m : Int) := by omega
      have hiM1 : (i : Int) + 1 < (m : Int) := by omega
      have cA : wr.cell? ⟨b, o + i, none⟩ = some (.int .i64 ((z i : Nat) : Int)) := cell_later HW.out (HX.out i (by omega))
      have cB : wr.cell? ⟨b, o + (i + 1), none⟩ = some (.int .i64 ((z (i + 1) : Nat) : Int)) := cell_later HW.out (HX.out (i + 1) (by omega))
      have s0 := HB.out.c0
      obtain ⟨z1, z2⟩ := HZ.out i (by omega)
      obtain ⟨y1, y2⟩ := HZ.out (i + 1) (by omega)
      have hvb : v ≤ 4160 * 6 := by
        have h := fsN_le z m i HZ.out (by omega)
        rw [HV.out]; omega
      have HV2 : Hid (v + (z i * z (i + 1) + z (i + 1)) = fsN z (i + 1)) := by show _ = _; rw [HV.out]; rfl
      have hpb : z i * z (i + 1) ≤ 64 * 64 := Nat.mul_le_mul z2 y2
      have epr : ((z i : Nat) : Int) * ((z (i + 1) : Nat) : Int) = ((z i * z (i + 1) : Nat) : Int) := by rw [Int.natCast_mul]
      generalize z i * z (i + 1) = pr at *
      generalize z i = za at *
      generalize z (i + 1) = zb at *
      have w1 : IntKind.i64.wrap ((i : Int) + 1) = ((i + 1 : Nat) : Int) := by rw [IntKind.wrap_i64]; omega
      have w2 : IntKind.i64.wrap ((pr : Nat) : Int) = (pr : Int) := by rw [IntKind.wrap_i64]; omega
      have w3 : IntKind.i64.wrap ((pr : Int) + (zb : Int)) = ((pr + zb : Nat) : Int) := by rw [IntKind.wrap_i64]; omega
      have w4 : IntKind.i64.wrap ((v : Int) + ((pr + zb : Nat) : Int)) = ((v + (pr + zb) : Nat) : Int) := by rw [IntKind.wrap_i64]; omega
      have hiM2 : ((i + 1 : Nat) : Int) < (m : Int) := by omega
      generalize v + (pr + zb) = vv at *
      generalize pr + zb = pz at *
      obtain ⟨iq, hiq⟩ : ∃ iq, i + 1 = iq := ⟨_, rfl⟩
      rw [hiq] at cB HV2 w1 hiM2
      have Hiq : Hid (i + 1 = iq) := hiq
      clear hiq
      go_upto_region 5 with fail
      go_quiet (fail)
      have HB2 : Hid (Bx w.heap.size (.slice (some ⟨b, o, none⟩) m cap) vp (wr.drewN nq)) := HB.out.later (below_drewN (Below.refl _ _) _)
      go_wp2
      go_roundw
      case rel => exact ⟨iq, vv, by have := Hiq.out; omega, rfl, rfl, HV2, HB2, below_drewN HW.out _⟩
      case measure => (have := Hiq.out; simp [intOf]; omega)
    · obtain rfl : i = l := by omega
      have hiI : ¬ (i : Int) < (i : Int) := by omega
      have HV' : Hid (fsN z i = v) := HV.out.symm
      go_wp2
      go_ret
      exact ⟨by show Ending.returned (Value.int .i64 (v : Int)) = _; rw [HV'.out], HW.out⟩
end Go.Proofs.YtdfjnbkkdgolnaaGreatDoor
set_option linter.unusedVariables false
set_option linter.unusedSimpArgs false
namespace Go.Proofs.YtdfjnbkkdgolnaaGreatDoor
open Go.RowKit

/-- Where a weight stands, and an offset. -/
def wtN (z : Nat → Nat) (l u i : Nat) : Nat := fsN z l + u * z l + i
def ofN (z : Nat → Nat) (l u : Nat) : Nat := fsN z l + z l * z (l + 1) + u
theorem wtN_lt (z : Nat → Nat) (l u i : Nat) (hu : u < z (l + 1)) (hi : i < z l) : wtN z l u i < fsN z (l + 1) := by
  have h : (u + 1) * z l ≤ z (l + 1) * z l := Nat.mul_le_mul_right _ hu
  rw [Nat.succ_mul, Nat.mul_comm (z (l + 1))] at h
  show fsN z l + u * z l + i < fsN z l + (z l * z (l + 1) + z (l + 1))
  omega
theorem ofN_lt (z : Nat → Nat) (l u : Nat) (hu : u < z (l + 1)) : ofN z l u < fsN z (l + 1) := by
  show fsN z l + z l * z (l + 1) + u < fsN z l + (z l * z (l + 1) + z (l + 1))
  omega
end Go.Proofs.YtdfjnbkkdgolnaaGreatDoor
set_option linter.unusedVariables false
set_option linter.unusedSimpArgs false
namespace Go.Proofs.YtdfjnbkkdgolnaaGreatDoor

/-- The exact sum of a layer's output. -/
def linN (z : Nat → Nat) (p v : Nat → Int) (l u : Nat) : Int := p (ofN z l u) * 4294967296 + dotV (fun i => p (wtN z l u i)) v (z l)
/-- What is below 0 becomes 0 where it is hidden. -/
def hidV (h : Bool) (v : Int) : Int := if h = true then (if v < 0 then 0 else v) else v
/-- The values of a net: the input first. -/
def vN (z : Nat → Nat) (m : Nat) (p x : Nat → Int) : Nat → Nat → Int
  | 0 => x
  | l + 1 => fun u => hidV (decide (l + 2 < m)) (clv (rr (linN z p (vN z m p x l) l u) 32))
/-- Is a layer's output held? -/
def vO (z : Nat → Nat) (m : Nat) (p x : Nat → Int) (l u : Nat) : Bool := ovv (rr (linN z p (vN z m p x l) l u) 32)
/-- How many are held ahead of a layer. -/
def vC (z : Nat → Nat) (m : Nat) (p x : Nat → Int) : Nat → Int
  | 0 => 0
  | l + 1 => vC z m p x l + cntV (vO z m p x l) (z (l + 1))
/-- Squared: the distance, and whether it is held. -/
def dsX (y t : Nat → Int) (i : Nat) : Int := clv (y i - t i)
def dsO (y t : Nat → Int) (i : Nat) : Bool := ovv (y i - t i)
/-- Hinge: the product, what lacks, and whether they are held. -/
def mpX (y t : Nat → Int) (i : Nat) : Int := clv (rr (t i * y i) 32)
def mpO (y t : Nat → Int) (i : Nat) : Bool := ovv (rr (t i * y i) 32)
def hgX (y t : Nat → Int) (i : Nat) : Int := clv (4294967296 - mpX y t i)
def hgO (y t : Nat → Int) (i : Nat) : Bool := ovv (4294967296 - mpX y t i)
/-- What is above 0, else 0. -/
def posV (f : Nat → Int) (i : Nat) : Int := if 0 < f i then f i else 0
/-- The loss, exact; rounded; how many are held of it and ahead of it. s: squared. -/
def lsS (s : Bool) (y t : Nat → Int) (n : Nat) : Int := if s = true then rr (dotV (dsX y t) (dsX y t) n) 33 else sumV (posV (hgX y t)) n
def lsX (s : Bool) (y t : Nat → Int) (n : Nat) : Int := clv (lsS s y t n)
def lsP (s : Bool) (y t : Nat → Int) (n : Nat) : Int := if s = true then cntV (dsO y t) n else cntV (mpO y t) n + cntV (hgO y t) n
def lsC (s : Bool) (y t : Nat → Int) (n : Nat) : Int := lsP s y t n + bi (ovv (lsS s y t n))
/-- The slope, and how many are held of it. -/
def slX (s : Bool) (y t : Nat → Int) (i : Nat) : Int := if s = true then dsX y t i else if 0 < hgX y t i then clv (0 - t i) else 0
def slO (y t : Nat → Int) (i : Nat) : Bool := if 0 < hgX y t i then ovv (0 - t i) else false
def slC (s : Bool) (y t : Nat → Int) (n : Nat) : Int := if s = true then cntV (dsO y t) n else cntV (mpO y t) n + cntV (hgO y t) n + cntV (slO y t) n
/-- The slope ahead of a layer. -/
def ahS (z : Nat → Nat) (p s : Nat → Int) (l i : Nat) : Int := dotV s (fun u => p (wtN z l u i)) (z (l + 1))
def ahX (z : Nat → Nat) (p s v : Nat → Int) (l i : Nat) : Int := if 0 < v i then clv (rr (ahS z p s l i) 32) else 0
def ahO (z : Nat → Nat) (p s v : Nat → Int) (l i : Nat) : Bool := if 0 < v i then ovv (rr (ahS z p s l i) 32) else false
/-- The slopes, k layers back from the last one's outputs: V the values. -/
def sB (z : Nat → Nat) (m : Nat) (p : Nat → Int) (V : Nat → Nat → Int) (s0 : Nat → Int) : Nat → Nat → Int
  | 0 => s0
  | k + 1 => ahX z p (sB z m p V s0 k) (V (m - 2 - k)) (m - 2 - k)
/-- The slope at the outputs of layer l. -/
def sL (z : Nat → Nat) (m : Nat) (p : Nat → Int) (V : Nat → Nat → Int) (s0 : Nat → Int) (l : Nat) : Nat → Int := sB z m p V s0 (m - 2 - l)
/-- A weight's part of the gradient. -/
def gwX (s v : Nat → Int) (u i : Nat) : Int := clv (rr (s u * v i) 32)
def gwO (s v : Nat → Int) (u i : Nat) : Bool := ovv (rr (s u * v i) 32)
/-- The gradient is told by its parts. -/
def Grd (z : Nat → Nat) (m : Nat) (V S : Nat → Nat → Int) (G : Nat → Int) : Prop := ∀ l, l + 1 < m → ∀ u, u < z (l + 1) → (∀ i, i < z l → G (wtN z l u i) = gwX (S l) (V l) u i) ∧ G (ofN z l u) = S l u
/-- How many are held of a layer's weights' parts: row by row. -/
def grC (s v : Nat → Int) (n : Nat) : Nat → Int
  | 0 => 0
  | u + 1 => grC s v n u + cntV (gwO s v u) n
/-- How many are held in going back: k layers done. -/
def bkC (z : Nat → Nat) (m : Nat) (p : Nat → Int) (V S : Nat → Nat → Int) : Nat → Int
  | 0 => 0
  | k + 1 => bkC z m p V S k + grC (S (m - 2 - k)) (V (m - 2 - k)) (z (m - 2 - k)) (z (m - 1 - k)) + (if m - 2 - k = 0 then 0 else cntV (ahO z p (S (m - 2 - k)) (V (m - 2 - k)) (m - 2 - k)) (z (m - 2 - k)))
/-- Each place of the parameters is a weight's or an offset's, of one layer. -/
theorem place_of (z : Nat → Nat) (m j : Nat) (hz : ∀ i, i < m → 1 ≤ z i) (hj : j < fsN z (m - 1)) : ∃ l, l + 1 < m ∧ ((∃ u i, u < z (l + 1) ∧ i < z l ∧ j = wtN z l u i) ∨ ∃ u, u < z (l + 1) ∧ j = ofN z l u) := by
  have key : ∀ k, k < m → j < fsN z k → ∃ l, l + 1 < m ∧ ((∃ u i, u < z (l + 1) ∧ i < z l ∧ j = wtN z l u i) ∨ ∃ u, u < z (l + 1) ∧ j = ofN z l u) := fun k => by
    induction k with
    | zero => intro _ h; exact absurd h (Nat.not_lt_zero _)
    | succ k ih =>
      intro hk hlt
      rcases Nat.lt_or_ge j (fsN z k) with h | h
      · exact ih (by omega) h
      · refine ⟨k, hk, ?_⟩
        have hlt2 : j < fsN z k + (z k * z (k + 1) + z (k + 1)) := hlt
        have hzk := hz k (by omega)
        rcases Nat.lt_or_ge j (fsN z k + z k * z (k + 1)) with h1 | h1
        · left
          refine ⟨(j - fsN z k) / z k, (j - fsN z k) % z k, ?_, Nat.mod_lt _ (by omega), ?_⟩
          · rw [Nat.div_lt_iff_lt_mul (by omega), Nat.mul_comm]; omega
          · unfold wtN
            have := Nat.div_add_mod (j - fsN z k) (z k)
            rw [Nat.mul_comm] at this
            omega
        · right
          exact ⟨j - (fsN z k + z k * z (k + 1)), by omega, by unfold ofN; omega⟩
  rcases Nat.eq_zero_or_pos m with h0 | h0
  · subst h0
    exact absurd hj (Nat.not_lt_zero _)
  · exact key (m - 1) (by omega) hj
/-- The gradient is one. -/
theorem Grd.one {z : Nat → Nat} {m : Nat} {V S : Nat → Nat → Int} {G H : Nat → Int} (hz : ∀ i, i < m → 1 ≤ z i) (g : Grd z m V S G) (h : Grd z m V S H) (j : Nat) (hj : j < fsN z (m - 1)) : G j = H j := by
  obtain ⟨l, hl, ⟨u, i, hu, hi, rfl⟩ | ⟨u, hu, rfl⟩⟩ := place_of z m j hz hj
  · rw [(g l hl u hu).1 i hi, (h l hl u hu).1 i hi]
  · rw [(g l hl u hu).2, (h l hl u hu).2]
theorem sL_last (z : Nat → Nat) (m : Nat) (p : Nat → Int) (V : Nat → Nat → Int) (s0 : Nat → Int) : sL z m p V s0 (m - 2) = s0 := by
  unfold sL
  rw [Nat.sub_self]
  rfl
theorem sL_step (z : Nat → Nat) (m : Nat) (p : Nat → Int) (V : Nat → Nat → Int) (s0 : Nat → Int) (l : Nat) (hl : l + 2 < m) : sL z m p V s0 l = ahX z p (sL z m p V s0 (l + 1)) (V (l + 1)) (l + 1) := by
  unfold sL
  obtain ⟨k, hk⟩ : ∃ k, m - 2 - l = k + 1 := ⟨m - 2 - l - 1, by omega⟩
  have e : m - 2 - (l + 1) = k := by omega
  have e2 : m - 2 - k = l + 1 := by omega
  rw [hk, e]
  show ahX z p (sB z m p V s0 k) (V (m - 2 - k)) (m - 2 - k) = _
  rw [e2]
theorem hidV_rng (h : Bool) (v : Int) (hv : -9223372036854775808 ≤ v ∧ v ≤ 9223372036854775807) : -9223372036854775808 ≤ hidV h v ∧ hidV h v ≤ 9223372036854775807 := by
  unfold hidV
  split
  · split <;> omega
  · exact hv
theorem vN_rng (z : Nat → Nat) (m : Nat) (p x : Nat → Int) (l u : Nat) (hx : ∀ i, i < z 0 → -9223372036854775808 ≤ x i ∧ x i ≤ 9223372036854775807) (hu : u < z l) : -9223372036854775808 ≤ vN z m p x l u ∧ vN z m p x l u ≤ 9223372036854775807 := by
  cases l with
  | zero => exact hx u hu
  | succ l => exact hidV_rng _ _ (clv_rng _)
theorem slX_rng (s : Bool) (y t : Nat → Int) (i : Nat) : -9223372036854775808 ≤ slX s y t i ∧ slX s y t i ≤ 9223372036854775807 := by
  unfold slX
  split
  · exact clv_rng _
  · split
    · exact clv_rng _
    · omega
theorem ahX_rng (z : Nat → Nat) (p s v : Nat → Int) (l i : Nat) : -9223372036854775808 ≤ ahX z p s v l i ∧ ahX z p s v l i ≤ 9223372036854775807 := by
  unfold ahX
  split
  · exact clv_rng _
  · omega
theorem vC_rng (z : Nat → Nat) (m : Nat) (p x : Nat → Int) (l : Nat) (hz : ∀ i, i < m → z i ≤ 64) (hl : l < m) : 0 ≤ vC z m p x l ∧ vC z m p x l ≤ 64 * (l : Int) := by
  induction l with
  | zero => exact ⟨Int.le_refl _, Int.le_refl _⟩
  | succ l ih =>
    have h1 := ih (by omega)
    have h2 := cnt_rng (vO z m p x l) (z (l + 1))
    have h3 := hz (l + 1) hl
    show 0 ≤ vC z m p x l + cntV (vO z m p x l) (z (l + 1)) ∧ vC z m p x l + cntV (vO z m p x l) (z (l + 1)) ≤ _
    omega
theorem slX_sq (y t : Nat → Int) (i : Nat) : slX true y t i = clv (y i - t i) := by unfold slX dsX; rw [if_pos rfl]
theorem slX_hg (y t : Nat → Int) (i : Nat) : slX false y t i = if 0 < hgX y t i then clv (0 - t i) else 0 := by unfold slX; rw [if_neg (by simp)]
theorem slC_sq (y t : Nat → Int) (n : Nat) : slC true y t n = cntV (dsO y t) n := by unfold slC; rw [if_pos rfl]
theorem slC_hg (y t : Nat → Int) (n : Nat) : slC false y t n = cntV (mpO y t) n + cntV (hgO y t) n + cntV (slO y t) n := by unfold slC; rw [if_neg (by simp)]
theorem slO_hg (y t : Nat → Int) (i : Nat) : slO y t i = if 0 < hgX y t i then ovv (0 - t i) else false := by unfold slO; rfl
theorem lsS_sq (y t : Nat → Int) (n : Nat) : lsS true y t n = rr (dotV (dsX y t) (dsX y t) n) 33 := by unfold lsS; rw [if_pos rfl]
theorem lsS_hg (y t : Nat → Int) (n : Nat) : lsS false y t n = sumV (posV (hgX y t)) n := by unfold lsS; rw [if_neg (by simp)]
theorem lsP_sq (y t : Nat → Int) (n : Nat) : lsP true y t n = cntV (dsO y t) n := by unfold lsP; rw [if_pos rfl]
theorem lsP_hg (y t : Nat → Int) (n : Nat) : lsP false y t n = cntV (mpO y t) n + cntV (hgO y t) n := by unfold lsP; rw [if_neg (by simp)]
end Go.Proofs.YtdfjnbkkdgolnaaGreatDoor
set_option linter.unusedVariables false
set_option linter.unusedSimpArgs false
namespace Go.Proofs.YtdfjnbkkdgolnaaGreatDoor
open Go.RowKit
theorem B12.block {b : Nat} {x y : Nat → Int} {w w' : World} (h : B12 b x y w) (e : w'.heap[b]? = w.heap[b]?) : B12 b x y w' :=
  ⟨fun k hk => (World.cell?_of_block (w := w) e).trans (h.c k hk), fun k hk => (World.cell?_of_block (w := w) e).trans (h.d k hk), fun k hk => (World.frozen?_of_block (w := w) e).trans (h.f k hk), fun k hk => (World.frozen?_of_block (w := w) e).trans (h.g k hk)⟩
theorem B12.un {b : Nat} {x y : Nat → Int} {w w' : World} {d : Nat} {c : Int} (h : B12 b x y w) (hU : Un d c w w') (hb : b ≠ d) : B12 b x y w' := h.block (hU.k b h.lt hb)
/-- A list's number at a place, with its address. -/
theorem Ar.spot {w : World} {v : Value} {n : Nat} {f : Nat → Int} (h : Ar w v n f) (j : Nat) (hj : j < n) : ∃ (b o cap : Nat), v = .slice (some ⟨b, o, none⟩) n cap ∧ cap ≤ maxLen ∧ n ≤ cap ∧ (∀ k, k < n → w.cell? ⟨b, o + k, none⟩ = some (.int .i64 (f k))) ∧ ∀ k, k < n → -9223372036854775808 ≤ f k ∧ f k ≤ 9223372036854775807 := by
  obtain ⟨adr, cap, b, o, h1, h2, h3, h4, h5⟩ := h
  have e := h4 (by omega)
  subst e
  exact ⟨b, o, cap, h1, h3, h2, fun k hk => (h5 k hk).1, fun k hk => (h5 k hk).2⟩
theorem Ar.spare {w : World} {v : Value} {n : Nat} {f : Nat → Int} (h : Ar w v n f) {d : Nat} (hd : w.heap.size ≤ d) : Nb v d := by
  intro a n' cap e hn
  obtain ⟨adr, ca, b, o, e2, h2, h3, h4, h5⟩ := h
  rw [e] at e2
  cases e2
  have e3 := h4 (by omega)
  cases e3
  have := World.block_lt_of_cell? _ _ (h5 0 (by omega)).1
  dsimp only at *
  omega
theorem Ar.stay {w w' : World} {v : Value} {n : Nat} {f : Nat → Int} (h : Ar w v n f) (hk : ∀ (a : Addr) (n' cap : Nat), v = .slice (some a) n' cap → 0 < n' → w'.heap[a.block]? = w.heap[a.block]?) : Ar w' v n f := by
  obtain ⟨adr, cap, b, o, e, h1, h2, h3, h4⟩ := h
  refine ⟨adr, cap, b, o, e, h1, h2, h3, fun k hk' => ⟨?_, (h4 k hk').2⟩⟩
  have e2 := h3 (by omega)
  subst e2
  exact (World.cell?_of_block (w := w) (a := ⟨b, o + k, none⟩) (hk ⟨b, o, none⟩ n cap e (by omega))).trans (h4 k hk').1
/-- A list of lists that grows: its parts lie apart from the unit and from the list itself. -/
def Alg (w : World) (B d : Nat) (v : Value) (j : Nat) (ns : Nat → Nat) (fs : Nat → Nat → Int) : Prop :=
  ∃ xs : List Value, w.ownsRow B 35 1 v j xs ∧ ∀ k, k < j → ∃ va : Value, xs[k]? = some va ∧ Ar w va (ns k) (fs k) ∧ Nb va d ∧ ∀ g, v.ownBlock = some g → Nb va g
theorem Alg.later {w w' : World} {B d : Nat} {v : Value} {j : Nat} {ns : Nat → Nat} {fs : Nat → Nat → Int} (h : Alg w B d v j ns fs) (hb : Below w.heap.size w w') : Alg w' B d v j ns fs := by
  obtain ⟨xs, h1, h2⟩ := h
  exact ⟨xs, own_later h1 hb, fun k hk => by obtain ⟨va, e, a, c, g⟩ := h2 k hk; exact ⟨va, e, a.later hb, c, g⟩⟩
theorem Alg.un {w w' : World} {B d : Nat} {v : Value} {j : Nat} {ns : Nat → Nat} {fs : Nat → Nat → Int} {c : Int} (h : Alg w B d v j ns fs) (hU : Un d c w w') (hd : d < B) : Alg w' B d v j ns fs := by
  obtain ⟨xs, h1, h2⟩ := h
  exact ⟨xs, own_un h1 hU hd, fun k hk => by obtain ⟨va, e, a, x, g⟩ := h2 k hk; exact ⟨va, e, a.un x hU, x, g⟩⟩
/-- A list of lists, apart from a unit. -/
def Ls (w : World) (d : Nat) (v : Value) (m : Nat) (ns : Nat → Nat) (fs : Nat → Nat → Int) : Prop :=
  ∃ (g cap : Nat), v = .slice (some ⟨g, 0, none⟩) m cap ∧ m ≤ cap ∧ cap ≤ maxLen ∧ g ≠ d ∧ ∀ k, k < m → ∃ va : Value, w.cell? ⟨g, k, none⟩ = some va ∧ Ar w va (ns k) (fs k) ∧ Nb va d
theorem Alg.ls {w : World} {B d : Nat} {v : Value} {j : Nat} {ns : Nat → Nat} {fs : Nat → Nat → Int} (h : Alg w B d v j ns fs) (hj : 0 < j) (hd : d < B) : Ls w d v j ns fs := by
  obtain ⟨xs, h1, h2⟩ := h
  rcases id h1.2 with ⟨_, h0⟩ | ⟨g, cap, cur, rfl, hg, hh, hc1, hc2, hsz, htk⟩
  · omega
  · refine ⟨g, cap, rfl, hc1, hc2, by omega, fun k hk => ?_⟩
    obtain ⟨va, e, a, x, _⟩ := h2 k hk
    exact ⟨va, (h1.cellAt k (by omega)).trans e, a, x⟩
theorem Ls.later {w w' : World} {d : Nat} {v : Value} {m : Nat} {ns : Nat → Nat} {fs : Nat → Nat → Int} (h : Ls w d v m ns fs) (hb : Below w.heap.size w w') : Ls w' d v m ns fs := by
  obtain ⟨g, cap, e, h1, h2, h3, h4⟩ := h
  exact ⟨g, cap, e, h1, h2, h3, fun k hk => by obtain ⟨va, c, a, x⟩ := h4 k hk; exact ⟨va, cell_later hb c, a.later hb, x⟩⟩
theorem Ls.un {w w' : World} {d : Nat} {v : Value} {m : Nat} {ns : Nat → Nat} {fs : Nat → Nat → Int} {c : Int} (h : Ls w d v m ns fs) (hU : Un d c w w') : Ls w' d v m ns fs := by
  obtain ⟨g, cap, e, h1, h2, h3, h4⟩ := h
  exact ⟨g, cap, e, h1, h2, h3, fun k hk => by obtain ⟨va, cc, a, x⟩ := h4 k hk; exact ⟨va, hU.o _ _ h3 cc, a.un x hU, x⟩⟩
theorem Bx.un {b : Nat} {x y : Value} {w w' : World} {d : Nat} {c : Int} (h : Bx b x y w) (hU : Un d c w w') (hb : b ≠ d) : Bx b x y w' := by
  have e := hU.k b (World.block_lt_of_cell? _ _ h.c0) hb
  exact ⟨(World.cell?_of_block (w := w) e).trans h.c0, (World.cell?_of_block (w := w) e).trans h.c1, (World.frozen?_of_block (w := w) e).trans h.f0, (World.frozen?_of_block (w := w) e).trans h.f1⟩
end Go.Proofs.YtdfjnbkkdgolnaaGreatDoor
set_option linter.unusedVariables false
set_option linter.unusedSimpArgs false
namespace Go.Proofs.YtdfjnbkkdgolnaaGreatDoor
open Go.RowKit

theorem make_i64 (n : Nat) (hn : n ≤ 1000000) (w : World) : (Instr.makeSlice 35 (.int .i64 (n : Int)) (.int .i64 (n : Int))).run Tryz.prog w = .ok (.slice (some ⟨w.heap.size, 0, none⟩) n n) (w.alloc (.cells (madeCells #[.int .i64 0] n) 2)) := by
  obtain ⟨i0, hi, hz0, hz1, hz2⟩ := info_parts dinfo_i64
  have h := run_make (P := Tryz.prog) w 35 2 i0 (.int .i64 0) Tryz.underlying35 hi hz0 .i64 .i64 (n : Int) (n : Int) (by omega) (by omega) (by rw [hz2]; omega) (by omega)
  rw [hz1, Nat.mul_one] at h
  exact h
theorem Rw.un {b n : Nat} {h : Nat → Value} {w w' : World} {d : Nat} {c : Int} (r : Rw b n h w) (hU : Un d c w w') (hb : b ≠ d) (hl : b < w.heap.size) : Rw b n h w' := r.block (hU.k b hl hb)
end Go.Proofs.YtdfjnbkkdgolnaaGreatDoor
set_option linter.unusedVariables false
set_option linter.unusedSimpArgs false
namespace Go.Proofs.YtdfjnbkkdgolnaaGreatDoor
open Go.RowKit

/-- How many are held of the first j of a hinge's slope. -/
def hsC (f g : Nat → Int) (j : Nat) : Int := cntV (mpO f g) j + cntV (hgO f g) j + cntV (slO f g) j
end Go.Proofs.YtdfjnbkkdgolnaaGreatDoor
set_option linter.unusedVariables false
set_option linter.unusedSimpArgs false
namespace Go.Proofs.YtdfjnbkkdgolnaaGreatDoor
open Go.RowKit

/-- How many are held of the first j of a hinge's loss. -/
def hlC (f g : Nat → Int) (j : Nat) : Int := cntV (mpO f g) j + cntV (hgO f g) j
end Go.Proofs.YtdfjnbkkdgolnaaGreatDoor
set_option linter.unusedVariables false
set_option linter.unusedSimpArgs false
namespace Go.Proofs.YtdfjnbkkdgolnaaGreatDoor
open Go.RowKit

theorem wt_rng (z : Nat → Nat) (l u i : Nat) (hu : u < z (l + 1)) (hi : i < z l) : fsN z l ≤ wtN z l u i ∧ wtN z l u i < fsN z l + z l * z (l + 1) := by
  have h : (u + 1) * z l ≤ z (l + 1) * z l := Nat.mul_le_mul_right _ hu
  rw [Nat.succ_mul, Nat.mul_comm (z (l + 1))] at h
  unfold wtN
  omega
theorem of_rng (z : Nat → Nat) (l u : Nat) (hu : u < z (l + 1)) : fsN z l + z l * z (l + 1) ≤ ofN z l u ∧ ofN z l u < fsN z (l + 1) := ⟨by unfold ofN; omega, ofN_lt z l u hu⟩
/-- The layers from l on are filled in. -/
def GrL (z : Nat → Nat) (m : Nat) (V S : Nat → Nat → Int) (l : Nat) (F : Nat → Int) : Prop := ∀ l', l ≤ l' → l' + 1 < m → ∀ u, u < z (l' + 1) → (∀ i, i < z l' → F (wtN z l' u i) = gwX (S l') (V l') u i) ∧ F (ofN z l' u) = S l' u
theorem grL_all {z : Nat → Nat} {m : Nat} {V S : Nat → Nat → Int} {F : Nat → Int} (h : GrL z m V S 0 F) : Grd z m V S F := fun l hl u hu => h l (Nat.zero_le _) hl u hu
theorem grL_none (z : Nat → Nat) (m : Nat) (V S : Nat → Nat → Int) (F : Nat → Int) (l : Nat) (hl : m ≤ l + 1) : GrL z m V S l F := fun l' h1 h2 => by omega
theorem grC_rng (s v : Nat → Int) (n u : Nat) (hn : n ≤ 64) : 0 ≤ grC s v n u ∧ grC s v n u ≤ 64 * (u : Int) := by
  induction u with
  | zero => exact ⟨Int.le_refl _, Int.le_refl _⟩
  | succ u ih =>
    have h := cnt_rng (gwO s v u) n
    show 0 ≤ grC s v n u + cntV (gwO s v u) n ∧ grC s v n u + cntV (gwO s v u) n ≤ _
    omega
theorem bkC_rng (z : Nat → Nat) (m : Nat) (p : Nat → Int) (V S : Nat → Nat → Int) (k : Nat) (hz : ∀ i, i < m → z i ≤ 64) (hk : k + 1 ≤ m) : 0 ≤ bkC z m p V S k ∧ bkC z m p V S k ≤ 4160 * (k : Int) := by
  induction k with
  | zero => exact ⟨Int.le_refl _, Int.le_refl _⟩
  | succ k ih =>
    have h0 := ih (by omega)
    have hz1 := hz (m - 2 - k) (by omega)
    have hz2 := hz (m - 1 - k) (by omega)
    have h1 := grC_rng (S (m - 2 - k)) (V (m - 2 - k)) (z (m - 2 - k)) (z (m - 1 - k)) hz1
    have h2 := cnt_rng (ahO z p (S (m - 2 - k)) (V (m - 2 - k)) (m - 2 - k)) (z (m - 2 - k))
    show 0 ≤ bkC z m p V S k + grC (S (m - 2 - k)) (V (m - 2 - k)) (z (m - 2 - k)) (z (m - 1 - k)) + (if m - 2 - k = 0 then 0 else cntV (ahO z p (S (m - 2 - k)) (V (m - 2 - k)) (m - 2 - k)) (z (m - 2 - k))) ∧ _ + _ + _ ≤ _
    split <;> omega
theorem lsC_rng (s : Bool) (y t : Nat → Int) (n : Nat) : 0 ≤ lsC s y t n ∧ lsC s y t n ≤ 2 * (n : Int) + 1 := by
  have h1 := cnt_rng (dsO y t) n
  have h2 := cnt_rng (mpO y t) n
  have h3 := cnt_rng (hgO y t) n
  have h4 := bi_rng (ovv (lsS s y t n))
  unfold lsC lsP
  split <;> omega
theorem slC_rng (s : Bool) (y t : Nat → Int) (n : Nat) : 0 ≤ slC s y t n ∧ slC s y t n ≤ 3 * (n : Int) := by
  have h1 := cnt_rng (dsO y t) n
  have h2 := cnt_rng (mpO y t) n
  have h3 := cnt_rng (hgO y t) n
  have h4 := cnt_rng (slO y t) n
  unfold slC
  split <;> omega
/-- The kind of a loss, by its number. -/
def lsK (s : Bool) : Int := if s = true then 1 else 2
theorem Ar.put {w : World} {v : Value} {n : Nat} {f : Nat → Int} (h : Ar w v n f) {p : Addr} (hN : Nb v p.block) (u : Value) : Ar (w.setCell p u) v n f := by
  refine h.stay (fun a n' cap e hn => Below.heap_setCell _ _ _ _ ?_)
  exact hN a n' cap e hn
end Go.Proofs.YtdfjnbkkdgolnaaGreatDoor
set_option linter.unusedVariables false
set_option linter.unusedSimpArgs false
namespace Go.Proofs.YtdfjnbkkdgolnaaGreatDoor
open Go.RowKit

/-- How many are held of a gradient. -/
def gdC (s : Bool) (z : Nat → Nat) (m : Nat) (P x t : Nat → Int) : Int :=
  vC z m P x (m - 1) + lsC s (vN z m P x (m - 1)) t (z (m - 1)) + slC s (vN z m P x (m - 1)) t (z (m - 1)) + bkC z m P (vN z m P x) (sL z m P (vN z m P x) (slX s (vN z m P x (m - 1)) t)) (m - 1)
/-- The slopes of a net, layer by layer. -/
def gdS (s : Bool) (z : Nat → Nat) (m : Nat) (P x t : Nat → Int) : Nat → Nat → Int := sL z m P (vN z m P x) (slX s (vN z m P x (m - 1)) t)
theorem sL_rng (z : Nat → Nat) (m : Nat) (p : Nat → Int) (V : Nat → Nat → Int) (s0 : Nat → Int) (h0 : ∀ i, -9223372036854775808 ≤ s0 i ∧ s0 i ≤ 9223372036854775807) (l i : Nat) : -9223372036854775808 ≤ sL z m p V s0 l i ∧ sL z m p V s0 l i ≤ 9223372036854775807 := by
  unfold sL
  generalize m - 2 - l = k
  cases k with
  | zero => exact h0 i
  | succ k => exact ahX_rng _ _ _ _ _ _
end Go.Proofs.YtdfjnbkkdgolnaaGreatDoor
set_option linter.unusedVariables false
set_option linter.unusedSimpArgs false
namespace Go.Proofs.YtdfjnbkkdgolnaaGreatDoor
open Go.RowKit

/-- The part of the gradient at a place of layer l. -/
def gLay (z : Nat → Nat) (V S : Nat → Nat → Int) (l j : Nat) : Int :=
  if j < fsN z l + z l * z (l + 1) then gwX (S l) (V l) ((j - fsN z l) / z l) ((j - fsN z l) % z l) else S l (j - (fsN z l + z l * z (l + 1)))
/-- The gradient of the first n layers. -/
def gAll (z : Nat → Nat) (V S : Nat → Nat → Int) : Nat → Nat → Int
  | 0, _ => 0
  | n + 1, j => if j < fsN z n then gAll z V S n j else gLay z V S n j
theorem gAll_at (z : Nat → Nat) (V S : Nat → Nat → Int) (n l j : Nat) (hl : l < n) (h1 : fsN z l ≤ j) (h2 : j < fsN z (l + 1)) : gAll z V S n j = gLay z V S l j := by
  induction n with
  | zero => omega
  | succ n ih =>
    show (if j < fsN z n then gAll z V S n j else gLay z V S n j) = _
    rcases Nat.lt_or_ge l n with h | h
    · have hm := fsN_mono z (show l + 1 ≤ n from h)
      rw [if_pos (by omega)]
      exact ih h
    · obtain rfl : l = n := by omega
      rw [if_neg (by omega)]
theorem grd_all (z : Nat → Nat) (m : Nat) (V S : Nat → Nat → Int) : Grd z m V S (gAll z V S (m - 1)) := fun l hl u hu => by
  refine ⟨fun i hi => ?_, ?_⟩
  · have h := wt_rng z l u i hu hi
    have h3 := wtN_lt z l u i hu hi
    rw [gAll_at z V S (m - 1) l _ (by omega) h.1 h3]
    unfold gLay
    rw [if_pos h.2]
    have e : wtN z l u i - fsN z l = z l * u + i := by unfold wtN; rw [Nat.mul_comm]; omega
    rw [e, Nat.mul_add_div (by omega), Nat.div_eq_of_lt hi, Nat.add_zero, Nat.mul_add_mod, Nat.mod_eq_of_lt hi]
  · have h := of_rng z l u hu
    have h4 : fsN z l ≤ ofN z l u := by omega
    rw [gAll_at z V S (m - 1) l _ (by omega) h4 h.2]
    unfold gLay
    rw [if_neg (by omega)]
    have e : ofN z l u - (fsN z l + z l * z (l + 1)) = u := by unfold ofN; omega
    rw [e]
/-- The gradient of a net at an example. -/
def gdG (s : Bool) (z : Nat → Nat) (m : Nat) (P x t : Nat → Int) : Nat → Int := gAll z (vN z m P x) (gdS s z m P x t) (m - 1)
/-- The loss of a net at an example. -/
def gdX (s : Bool) (z : Nat → Nat) (m : Nat) (P x t : Nat → Int) : Int := lsX s (vN z m P x (m - 1)) t (z (m - 1))
theorem Ar.congr {w : World} {v : Value} {n : Nat} {f g : Nat → Int} (h : Ar w v n f) (e : ∀ k, k < n → f k = g k) : Ar w v n g := by
  obtain ⟨adr, cap, b, o, h1, h2, h3, h4, h5⟩ := h
  exact ⟨adr, cap, b, o, h1, h2, h3, h4, fun k hk => by rw [← e k hk]; exact h5 k hk⟩
/-- Examples: an input and targets each, apart from a unit. -/
def Exs (w : World) (d b o K : Nat) (nx nt : Nat → Nat) (xs ts : Nat → Nat → Int) : Prop :=
  b ≠ d ∧ ∀ k, k < K → ∃ vx vt : Value, w.cell? ⟨b, o + k * 2, none⟩ = some vx ∧ w.cell? ⟨b, o + k * 2 + 1, none⟩ = some vt ∧ Ar w vx (nx k) (xs k) ∧ Ar w vt (nt k) (ts k) ∧ Nb vx d ∧ Nb vt d
theorem Exs.later {w w' : World} {d b o K : Nat} {nx nt : Nat → Nat} {xs ts : Nat → Nat → Int} (h : Exs w d b o K nx nt xs ts) (hb : Below w.heap.size w w') : Exs w' d b o K nx nt xs ts :=
  ⟨h.1, fun k hk => by obtain ⟨vx, vt, h1, h2, h3, h4, h5, h6⟩ := h.2 k hk; exact ⟨vx, vt, cell_later hb h1, cell_later hb h2, h3.later hb, h4.later hb, h5, h6⟩⟩
theorem Exs.un {w w' : World} {d b o K : Nat} {nx nt : Nat → Nat} {xs ts : Nat → Nat → Int} {c : Int} (h : Exs w d b o K nx nt xs ts) (hU : Un d c w w') : Exs w' d b o K nx nt xs ts :=
  ⟨h.1, fun k hk => by obtain ⟨vx, vt, h1, h2, h3, h4, h5, h6⟩ := h.2 k hk; exact ⟨vx, vt, hU.o _ _ h.1 h1, hU.o _ _ h.1 h2, h3.un h5 hU, h4.un h6 hU, h5, h6⟩⟩
end Go.Proofs.YtdfjnbkkdgolnaaGreatDoor
set_option linter.unusedVariables false
set_option linter.unusedSimpArgs false
namespace Go.Proofs.YtdfjnbkkdgolnaaGreatDoor
open Go.RowKit

/-- What the program's functions ask of the world (a table that they read). -/
def VT (w : World) : Prop := TabAt w
theorem VT.later {w w' : World} (h : VT w) (hb : Below w.heap.size w w') : VT w' := TabAt.later h hb
/-- A unit's cell. -/
def Uc (w : World) (d : Nat) (c : Int) : Prop := w.cell? ⟨d, 0, none⟩ = some (.int .i64 c) ∧ w.frozen? ⟨d, 0, none⟩ = false
def dE (n m : Nat) : Int := if 65536 < n ∨ 65536 < m then 3 else if n = m then 0 else 40
def dX (n m : Nat) (f g : Nat → Int) : Int := if dE n m = 0 then clv (rr (dotV f g n) 32) else 0
def dO (n m : Nat) (f g : Nat → Int) : Bool := if dE n m = 0 then ovv (rr (dotV f g n) 32) else false
def sE (n : Nat) : Int := if 65536 < n then 3 else 0
def sX (n : Nat) (f : Nat → Int) : Int := if sE n = 0 then clv (sumV f n) else 0
def sO (n : Nat) (f : Nat → Int) : Bool := if sE n = 0 then ovv (sumV f n) else false
def nX (n : Nat) (f : Nat → Int) : Int := if sE n = 0 then rtX (dotV f f n) else 0
/-- The state of a law: two units, and whatever was there is there. -/
structure L2 (w : World) (du dv : Nat) (cu cv : Int) (wz : World) : Prop where
  B : Below w.heap.size w wz
  u : Uc wz du cu
  v : Uc wz dv cv
theorem Uc.later {w w' : World} {d : Nat} {c : Int} (h : Uc w d c) (hb : Below w.heap.size w w') : Uc w' d c := ⟨cell_later hb h.1, frozen_later hb h.1 h.2⟩
theorem Uc.un {w w' : World} {d d' : Nat} {c c' : Int} (h : Uc w d c) (hU : Un d' c' w w') (hd : d ≠ d') : Uc w' d c := by
  have hb := World.block_lt_of_cell? _ _ h.1
  have e := hU.k d hb hd
  exact ⟨(World.cell?_of_block (w := w) e).trans h.1, (World.frozen?_of_block (w := w) e).trans h.2⟩
theorem L2.later {w : World} {du dv : Nat} {cu cv : Int} {wz wy : World} (h : L2 w du dv cu cv wz) (hb : Below wz.heap.size wz wy) : L2 w du dv cu cv wy := ⟨bchain h.B hb, h.u.later hb, h.v.later hb⟩
theorem Ar.nb {w : World} {v : Value} {n : Nat} {f : Nat → Int} (h : Ar w v n f) {d : Nat} (hd : w.heap.size ≤ d) : Nb v d := by
  obtain ⟨adr, cap, b, o, rfl, h2, h3, h4, h5⟩ := h
  intro a n' cap' e hn
  have e2 := h4 (by cases e; exact hn)
  subst e2
  cases e
  have h6 : b < w.heap.size := World.block_lt_of_cell? _ _ (h5 0 hn).1
  show b ≠ d
  omega
end Go.Proofs.YtdfjnbkkdgolnaaGreatDoor
set_option linter.unusedVariables false
set_option linter.unusedSimpArgs false
namespace Go.Proofs.YtdfjnbkkdgolnaaGreatDoor
open Go.RowKit
attribute [local go_sem ↓] Go.wp_at_zero Go.wp_at_succ

def two (a b : Int) (k : Nat) : Int := if k = 0 then a else b
end Go.Proofs.YtdfjnbkkdgolnaaGreatDoor
set_option linter.unusedVariables false
set_option linter.unusedSimpArgs false
namespace Go.Proofs.YtdfjnbkkdgolnaaGreatDoor
open Go.RowKit

def cE (E c : Int) : Int := if E = 0 then c else 0
/-- A list that is answered: so many numbers in memory of its own, or none beside an error. -/
def LL (w w' : World) (v' : Value) (n : Nat) (F : Nat → Int) (E : Int) : Prop :=
  (E = 0 → Ar w' v' n F) ∧ (E ≠ 0 → ∃ ad cap, v' = .slice ad 0 cap) ∧ Ow w.heap.size v'
/-- A list that lies apart from both units. -/
structure An (du dv : Nat) (v : Value) (n : Nat) (f : Nat → Int) (wz : World) : Prop where
  a : Ar wz v n f
  u : Nb v du
  v : Nb v dv
theorem An.later {du dv : Nat} {v : Value} {n : Nat} {f : Nat → Int} {wz wy : World} (h : An du dv v n f wz) (hb : Below wz.heap.size wz wy) : An du dv v n f wy := ⟨h.a.later hb, h.u, h.v⟩
theorem An.new {w : World} {du dv : Nat} {cu cv : Int} {wz wy : World} {v : Value} {n : Nat} {f : Nat → Int} (L : L2 w du dv cu cv wz) (hA : Ar wy v n f) (hO : Ow wz.heap.size v) : An du dv v n f wy :=
  ⟨hA, hO.nb (World.block_lt_of_cell? _ _ L.u.1), hO.nb (World.block_lt_of_cell? _ _ L.v.1)⟩
end Go.Proofs.YtdfjnbkkdgolnaaGreatDoor
set_option linter.unusedVariables false
set_option linter.unusedSimpArgs false
namespace Go.Proofs.YtdfjnbkkdgolnaaGreatDoor
open Go.RowKit
theorem Un.from {d : Nat} {n : Int} {w w1 w2 : World} (hb : Below w.heap.size w w1) (h : Un d n w1 w2) : Un d n w w2 := Un.after hb h
end Go.Proofs.YtdfjnbkkdgolnaaGreatDoor
set_option linter.unusedVariables false
set_option linter.unusedSimpArgs false
namespace Go.Proofs.YtdfjnbkkdgolnaaGreatDoor
open Go.RowKit
theorem below_own {B : Nat} {w wr w1 : World} {e : TypeId} {s : Nat} {v : Value} {n : Nat} {xs : List Value} {o : Obj} (hW : Below B w wr) (hB : B ≤ wr.heap.size) (hown : wr.ownsRow B e s v n xs) (hg : (wr.alloc o).grownBy w1 v.ownBlock) : Below B w w1 :=
  (hW.alloc hB o).grown hg (by rw [World.size_alloc]; omega) (fun k hk => (hown.lt k hk).1)
end Go.Proofs.YtdfjnbkkdgolnaaGreatDoor
set_option linter.unusedVariables false
set_option linter.unusedSimpArgs false
namespace Go.Proofs.YtdfjnbkkdgolnaaGreatDoor
open Go.RowKit

/-- A list of lists, apart from a block. -/
structure As (w : World) (d b o K n : Nat) (fs : Nat → Nat → Int) : Prop where
  c : ∀ k, k < K → ∃ va : Value, w.cell? ⟨b, o + k, none⟩ = some va ∧ Ar w va n (fs k) ∧ Nb va d
  a : b ≠ d
theorem As.un {w w' : World} {d b o K n : Nat} {fs : Nat → Nat → Int} {c : Int} (h : As w d b o K n fs) (hU : Un d c w w') : As w' d b o K n fs :=
  ⟨fun k hk => by obtain ⟨va, h1, h2, h3⟩ := h.c k hk; exact ⟨va, hU.o _ _ h.a h1, h2.un h3 hU, h3⟩, h.a⟩
theorem As.later {w w' : World} {d b o K n : Nat} {fs : Nat → Nat → Int} (h : As w d b o K n fs) (hb : Below w.heap.size w w') : As w' d b o K n fs :=
  ⟨fun k hk => by obtain ⟨va, h1, h2, h3⟩ := h.c k hk; exact ⟨va, cell_later hb h1, h2.later hb, h3⟩, h.a⟩
end Go.Proofs.YtdfjnbkkdgolnaaGreatDoor
set_option linter.unusedVariables false
set_option linter.unusedSimpArgs false
namespace Go.Proofs.YtdfjnbkkdgolnaaGreatDoor
open Go.RowKit

/-- A matrix's block: three cells. -/
structure M3 (b : Nat) (x y z : Value) (w : World) : Prop where
  c0 : w.cell? ⟨b, 0, none⟩ = some x
  c1 : w.cell? ⟨b, 1, none⟩ = some y
  c2 : w.cell? ⟨b, 2, none⟩ = some z
  f0 : w.frozen? ⟨b, 0, none⟩ = false
  f1 : w.frozen? ⟨b, 1, none⟩ = false
  f2 : w.frozen? ⟨b, 2, none⟩ = false
theorem M3.later {b : Nat} {x y z : Value} {w w' : World} (h : M3 b x y z w) (hb : Below w.heap.size w w') : M3 b x y z w' :=
  ⟨cell_later hb h.c0, cell_later hb h.c1, cell_later hb h.c2, frozen_later hb h.c0 h.f0, frozen_later hb h.c1 h.f1, frozen_later hb h.c2 h.f2⟩
theorem M3.lt {b : Nat} {x y z : Value} {w : World} (h : M3 b x y z w) : b < w.heap.size := World.block_lt_of_cell? _ _ h.c0
theorem M3.new (w : World) (x y z : Value) (t : TypeId) : M3 w.heap.size x y z (w.alloc (.cells #[x, y, z] t)) :=
  ⟨by simp [go_sem], by simp [go_sem], by simp [go_sem], by simp [go_sem], by simp [go_sem], by simp [go_sem]⟩
theorem M3.far {b : Nat} {x y z : Value} {w : World} {p : Addr} (h : M3 b x y z w) (u : Value) (hp : p.block ≠ b) : M3 b x y z (w.setCell p u) :=
  ⟨cell_set hp h.c0, cell_set hp h.c1, cell_set hp h.c2, by rw [World.frozen?_setCell]; exact h.f0, by rw [World.frozen?_setCell]; exact h.f1, by rw [World.frozen?_setCell]; exact h.f2⟩
theorem M3.all {b : Nat} {x y z : Value} {w : World} (h : M3 b x y z w) (x' y' z' : Value) : M3 b x' y' z' (((w.setCell ⟨b, 0, none⟩ x').setCell ⟨b, 1, none⟩ y').setCell ⟨b, 2, none⟩ z') := by
  have c0 := h.c0
  have c1 := h.c1
  have c2 := h.c2
  have f0 := h.f0
  have f1 := h.f1
  have f2 := h.f2
  refine ⟨?_, ?_, ?_, ?_, ?_, ?_⟩ <;> simp [go_sem, c0, c1, c2, f0, f1, f2]
theorem Ar.set {w : World} {v : Value} {n : Nat} {f : Nat → Int} {p : Addr} (h : Ar w v n f) (hd : Nb v p.block) (u : Value) : Ar (w.setCell p u) v n f := by
  obtain ⟨adr, cap, b, o, h1, h2, h3, h4, h5⟩ := h
  refine ⟨adr, cap, b, o, h1, h2, h3, h4, fun k hk => ⟨?_, (h5 k hk).2⟩⟩
  have e := h4 (by omega)
  subst e
  subst h1
  exact cell_set (fun e => hd _ _ _ rfl (by omega) e.symm) (h5 k hk).1
end Go.Proofs.YtdfjnbkkdgolnaaGreatDoor
set_option linter.unusedVariables false
set_option linter.unusedSimpArgs false
namespace Go.Proofs.YtdfjnbkkdgolnaaGreatDoor
open Go.RowKit

def otX (f g : Nat → Int) (m : Nat) (k : Nat) : Int := clv (rnd (f (k / m) * g (k % m)) 32)
def otN (f g : Nat → Int) (m : Nat) : Nat → Int
  | 0 => 0
  | i + 1 => otN f g m i + cntV (fun k => ovv (rnd (f i * g k) 32)) m
theorem ot_rng (f g : Nat → Int) (m : Nat) (i : Nat) : 0 ≤ otN f g m i ∧ otN f g m i ≤ ((i * m : Nat) : Int) := by
  induction i with
  | zero => simp [otN]
  | succ i ih =>
    have h := cnt_rng (fun k => ovv (rnd (f i * g k) 32)) m
    rw [Nat.add_mul, Nat.one_mul]
    show 0 ≤ otN f g m i + cntV _ m ∧ otN f g m i + cntV _ m ≤ _
    rw [Int.natCast_add]
    omega
theorem il_one (f : Nat → Int) (n : Nat) : ∀ u ∈ il f n, u.oneCell' = true := by
  intro u hu
  unfold il at hu
  obtain ⟨k, _, rfl⟩ := List.mem_map.1 hu
  rfl
theorem M3.block {b : Nat} {x y z : Value} {w w' : World} (h : M3 b x y z w) (e : w'.heap[b]? = w.heap[b]?) : M3 b x y z w' :=
  ⟨(World.cell?_of_block (w := w) e).trans h.c0, (World.cell?_of_block (w := w) e).trans h.c1, (World.cell?_of_block (w := w) e).trans h.c2, (World.frozen?_of_block (w := w) e).trans h.f0, (World.frozen?_of_block (w := w) e).trans h.f1, (World.frozen?_of_block (w := w) e).trans h.f2⟩
theorem M3.un {b : Nat} {x y z : Value} {w w' : World} {d : Nat} {c : Int} (h : M3 b x y z w) (hU : Un d c w w') (hb : b ≠ d) : M3 b x y z w' := h.block (hU.k b h.lt hb)
end Go.Proofs.YtdfjnbkkdgolnaaGreatDoor
set_option linter.unusedVariables false
set_option linter.unusedSimpArgs false
namespace Go.Proofs.YtdfjnbkkdgolnaaGreatDoor
open Go.RowKit
attribute [local go_sem ↓] Go.wp_at_zero Go.wp_at_succ

end Go.Proofs.YtdfjnbkkdgolnaaGreatDoor
set_option linter.unusedVariables false
set_option linter.unusedSimpArgs false
namespace Go.Proofs.YtdfjnbkkdgolnaaGreatDoor
open Go.RowKit
/-- A list of lists and a list, both growing; the parts lie apart from the unit and from both. -/
def Alf (w : World) (B d : Nat) (v u : Value) (j n : Nat) (fs : Nat → Nat → Int) (f : Nat → Int) : Prop :=
  ∃ xs : List Value, w.ownsRow B 35 1 v j xs ∧ w.ownsRow B 2 1 u j (il f j) ∧ ∀ k, k < j → ∃ va : Value, xs[k]? = some va ∧ Ar w va n (fs k) ∧ Nb va d ∧ (∀ g, v.ownBlock = some g → Nb va g) ∧ ∀ g, u.ownBlock = some g → Nb va g
theorem Alf.later {w w' : World} {B d : Nat} {v u : Value} {j n : Nat} {fs : Nat → Nat → Int} {f : Nat → Int} (h : Alf w B d v u j n fs f) (hb : Below w.heap.size w w') : Alf w' B d v u j n fs f := by
  obtain ⟨xs, h1, h0, h2⟩ := h
  exact ⟨xs, own_later h1 hb, own_later h0 hb, fun k hk => by obtain ⟨va, e, a, r⟩ := h2 k hk; exact ⟨va, e, a.later hb, r⟩⟩
theorem Alf.un {w w' : World} {B d : Nat} {v u : Value} {j n : Nat} {fs : Nat → Nat → Int} {f : Nat → Int} {c : Int} (h : Alf w B d v u j n fs f) (hU : Un d c w w') (hd : d < B) : Alf w' B d v u j n fs f := by
  obtain ⟨xs, h1, h0, h2⟩ := h
  exact ⟨xs, own_un h1 hU hd, own_un h0 hU hd, fun k hk => by obtain ⟨va, e, a, x, r⟩ := h2 k hk; exact ⟨va, e, a.un x hU, x, r⟩⟩
end Go.Proofs.YtdfjnbkkdgolnaaGreatDoor
set_option linter.unusedVariables false
set_option linter.unusedSimpArgs false
namespace Go.Proofs.YtdfjnbkkdgolnaaGreatDoor

/-- The stir. -/
def stY (x : Nat) : Nat := (x ^^^ x / 4294967296) * 11400714819323198549 % 18446744073709551616
def stZ (y : Nat) : Nat := (y ^^^ y / 536870912) * 15241094284759029579 % 18446744073709551616
def stN (x : Nat) : Nat := stZ (stY x) ^^^ stZ (stY x) / 4294967296
theorem xor_in (a b : Nat) (ha : a < 18446744073709551616) (hb : b < 18446744073709551616) : a ^^^ b < 18446744073709551616 := Nat.xor_lt_two_pow (n := 64) (by omega) (by omega)
theorem stZ_lt (x : Nat) : stZ x < 18446744073709551616 := Nat.mod_lt _ (by omega)
theorem stN_lt (x : Nat) : stN x < 18446744073709551616 := xor_in _ _ (stZ_lt _) (by have := stZ_lt (stY x); omega)
/-- A number as 64 bits without a sign. -/
def u6 (n : Int) : Nat := (n % 18446744073709551616).toNat
theorem u6_lt (n : Int) : u6 n < 18446744073709551616 := by unfold u6; omega
theorem u6_cast (n : Int) : ((u6 n : Nat) : Int) = n % 18446744073709551616 := by unfold u6; omega
/-- One number more stirred in. -/
def mxN (w : Nat) (n : Int) : Nat := stN (((w ^^^ u6 n) + 14029467366897019727) % 18446744073709551616)
theorem mxN_lt (w : Nat) (n : Int) : mxN w n < 18446744073709551616 := stN_lt _
/-- A key's root. -/
def rtN (s : Nat) (a b c : Int) : Nat := mxN (mxN (mxN (stN ((s + 7046029254386353131) % 18446744073709551616)) a) b) c
theorem rtN_lt (s : Nat) (a b c : Int) : rtN s a b c < 18446744073709551616 := mxN_lt _ _
/-- A word. -/
def wdN (s : Nat) (a b c i : Int) : Nat := stN (rtN s a b c ^^^ (u6 i * 11400714819323198485 % 18446744073709551616))
theorem wdN_lt (s : Nat) (a b c i : Int) : wdN s a b c i < 18446744073709551616 := stN_lt _
/-- A part. -/
def ptN (w : Nat) : Nat := w / 4294967296
theorem ptN_lt (w : Nat) (hw : w < 18446744073709551616) : ptN w < 4294967296 := by unfold ptN; omega
/-- As much more. -/
def bwN (d p : Nat) : Nat := d * p / 4294967296
theorem bwN_lt (d p : Nat) (hp : p < 4294967296) (hd : 0 < d) : bwN d p < d := by
  unfold bwN
  rw [Nat.div_lt_iff_lt_mul (by omega)]
  exact Nat.mul_lt_mul_of_pos_left hp hd
/-- What a round of a trip stirs in: the lowest bits of a word. -/
def rfN (s : Nat) (a b c : Int) (S t r : Nat) : Nat := wdN s a b c (1024 * (t : Int) + (r : Int)) % S
theorem rfN_lt (s : Nat) (a b c : Int) (S t r : Nat) (hS : 0 < S) : rfN s a b c S t r < S := Nat.mod_lt _ hS
/-- How wide a half is: the least power of two, 2 at least, whose square isn't below n. -/
def Hf (n b : Nat) : Prop := 1 ≤ b ∧ n ≤ 2 ^ b * 2 ^ b ∧ (b = 1 ∨ 2 ^ (b - 1) * 2 ^ (b - 1) < n)
theorem Hf.one {n b c : Nat} (h : Hf n b) (h' : Hf n c) : b = c := by
  have key : ∀ p q : Nat, Hf n p → Hf n q → ¬ p < q := fun p q hp hq hlt => by
    rcases hq.2.2 with h1 | h1
    · have := hp.1; omega
    · have h2 : 2 ^ p ≤ 2 ^ (q - 1) := Nat.pow_le_pow_right (by omega) (by omega)
      have h3 := Nat.mul_le_mul h2 h2
      have h4 := hp.2.1
      omega
  rcases Nat.lt_trichotomy b c with h1 | h1 | h1
  · exact absurd h1 (key b c h h')
  · exact h1
  · exact absurd h1 (key c b h' h)
/-- Where i goes. -/
def Goes (s : Nat) (a b c : Int) (n i x : Nat) : Prop := ∃ k, Hf n k ∧ Gets (trp (rfN s a b c (2 ^ k)) (2 ^ k)) n i x
def Comes (s : Nat) (a b c : Int) (n j x : Nat) : Prop := ∃ k, Hf n k ∧ Gets (prt (rfN s a b c (2 ^ k)) (2 ^ k)) n j x
theorem Goes.one {s : Nat} {a b c : Int} {n i x y : Nat} (h : Goes s a b c n i x) (h' : Goes s a b c n i y) : x = y := by
  obtain ⟨k, h1, h2⟩ := h
  obtain ⟨q, h3, h4⟩ := h'
  obtain rfl := h1.one h3
  exact h2.one h4
theorem Comes.one {s : Nat} {a b c : Int} {n i x y : Nat} (h : Comes s a b c n i x) (h' : Comes s a b c n i y) : x = y := by
  obtain ⟨k, h1, h2⟩ := h
  obtain ⟨q, h3, h4⟩ := h'
  obtain rfl := h1.one h3
  exact h2.one h4
theorem Goes.comes {s : Nat} {a b c : Int} {n i x : Nat} (hi : i < n) (h : Goes s a b c n i x) : Comes s a b c n x i := by
  obtain ⟨k, h1, h2⟩ := h
  have hf : ∀ t r, rfN s a b c (2 ^ k) t r < 2 ^ k := fun t r => rfN_lt _ _ _ _ _ _ _ (Nat.two_pow_pos k)
  exact ⟨k, h1, h2.back (fun y hy => trp_lt _ k hf y hy) (fun y hy => prt_trp _ k hf y hy) h1.2.1 hi⟩
theorem Comes.goes {s : Nat} {a b c : Int} {n i x : Nat} (hi : i < n) (h : Comes s a b c n i x) : Goes s a b c n x i := by
  obtain ⟨k, h1, h2⟩ := h
  have hf : ∀ t r, rfN s a b c (2 ^ k) t r < 2 ^ k := fun t r => rfN_lt _ _ _ _ _ _ _ (Nat.two_pow_pos k)
  exact ⟨k, h1, h2.back (fun y hy => prt_lt _ k hf y hy) (fun y hy => trp_prt _ k hf y hy) h1.2.1 hi⟩
theorem Goes.lt {s : Nat} {a b c : Int} {n i x : Nat} (h : Goes s a b c n i x) : x < n := by
  obtain ⟨k, -, m, -, -, h3, -⟩ := h
  exact h3
theorem Comes.lt {s : Nat} {a b c : Int} {n i x : Nat} (h : Comes s a b c n i x) : x < n := by
  obtain ⟨k, -, m, -, -, h3, -⟩ := h
  exact h3
end Go.Proofs.YtdfjnbkkdgolnaaGreatDoor
set_option linter.unusedVariables false
set_option linter.unusedSimpArgs false
namespace Go.Proofs.YtdfjnbkkdgolnaaGreatDoor
open Go.RowKit

/-- A block of four cells. -/
structure K4 (b : Nat) (x y z u : Value) (w : World) : Prop where
  c0 : w.cell? ⟨b, 0, none⟩ = some x
  c1 : w.cell? ⟨b, 1, none⟩ = some y
  c2 : w.cell? ⟨b, 2, none⟩ = some z
  c3 : w.cell? ⟨b, 3, none⟩ = some u
theorem K4.later {b : Nat} {x y z u : Value} {w w' : World} (h : K4 b x y z u w) (hb : Below w.heap.size w w') : K4 b x y z u w' :=
  ⟨(hb.cell (World.block_lt_of_cell? _ _ h.c0)).trans h.c0, (hb.cell (World.block_lt_of_cell? _ _ h.c1)).trans h.c1, (hb.cell (World.block_lt_of_cell? _ _ h.c2)).trans h.c2, (hb.cell (World.block_lt_of_cell? _ _ h.c3)).trans h.c3⟩
theorem xor6 (a b : Nat) (ha : a < 18446744073709551616) (hb : b < 18446744073709551616) : bits .xor .u64 (a : Int) (b : Int) = ((a ^^^ b : Nat) : Int) := bits_xor_u64_nat a b ha hb
set_option maxHeartbeats 2000000 in
theorem stir_any (X : Nat) (hX : X < 18446744073709551616) (w : World) :
    Calls Tryz.prog 126 #[.int .u64 (X : Int)] w fun e w' => e = .returned (.int .u64 ((stN X : Nat) : Int)) ∧ w' = w := by
  obtain ⟨A, hA⟩ : ∃ A, X ^^^ X / 4294967296 = A := ⟨_, rfl⟩
  obtain ⟨Y, hY⟩ : ∃ Y, A * 11400714819323198549 % 18446744073709551616 = Y := ⟨_, rfl⟩
  obtain ⟨C, hC⟩ : ∃ C, Y ^^^ Y / 536870912 = C := ⟨_, rfl⟩
  obtain ⟨Z, hZ⟩ : ∃ Z, C * 15241094284759029579 % 18446744073709551616 = Z := ⟨_, rfl⟩
  obtain ⟨R, hR⟩ : ∃ R, Z ^^^ Z / 4294967296 = R := ⟨_, rfl⟩
  have hN : stN X = R := by unfold stN stZ stY; rw [hA, hY, hC, hZ, hR]
  have lY : Y < 18446744073709551616 := by rw [← hY]; exact Nat.mod_lt _ (by omega)
  have lZ : Z < 18446744073709551616 := by rw [← hZ]; exact Nat.mod_lt _ (by omega)
  have e1 : bits .xor .u64 (X : Int) ((X : Int) / 4294967296) = (A : Int) := by rw [show ((X : Int) / 4294967296) = ((X / 4294967296 : Nat) : Int) by omega, xor6 _ _ hX (by omega), hA]
  have e2 : IntKind.u64.wrap ((A : Int) * 11400714819323198549) = (Y : Int) := by rw [IntKind.wrap_u64, ← hY]; omega
  have e3 : bits .xor .u64 (Y : Int) ((Y : Int) / 536870912) = (C : Int) := by rw [show ((Y : Int) / 536870912) = ((Y / 536870912 : Nat) : Int) by omega, xor6 _ _ lY (by omega), hC]
  have e4 : IntKind.u64.wrap ((C : Int) * 15241094284759029579) = (Z : Int) := by rw [IntKind.wrap_u64, ← hZ]; omega
  have e5 : bits .xor .u64 (Z : Int) ((Z : Int) / 4294967296) = (R : Int) := by rw [show ((Z : Int) / 4294967296) = ((Z / 4294967296 : Nat) : Int) by omega, xor6 _ _ lZ (by omega), hR]
  rw [hN]
  clear hA hY hC hZ hR hN
  go_enter Tryz.func126, Tryz.ntmps126
  go_wp2
  go_ret
  exact ⟨rfl, rfl⟩
/-- A key's numbers are of their kinds. -/
structure Ky (s : Nat) (a b c : Int) : Prop where
  s1 : s < 18446744073709551616
  a0 : -9223372036854775808 ≤ a
  a1 : a ≤ 9223372036854775807
  b0 : -9223372036854775808 ≤ b
  b1 : b ≤ 9223372036854775807
  c0 : -9223372036854775808 ≤ c
  c1 : c ≤ 9223372036854775807
theorem u6_wrap (n : Int) : IntKind.u64.wrap n = ((u6 n : Nat) : Int) := by rw [IntKind.wrap_u64, u6_cast]
theorem mix_eq (w : Nat) (n : Int) (hw : w < 18446744073709551616) : IntKind.u64.wrap (bits .xor .u64 (w : Int) ((u6 n : Nat) : Int) + 14029467366897019727) = ((((w ^^^ u6 n) + 14029467366897019727) % 18446744073709551616 : Nat) : Int) := by
  rw [xor6 _ _ hw (u6_lt n), IntKind.wrap_u64]
  omega
set_option maxHeartbeats 4000000 in
theorem refWord_any (s : Nat) (a b c i : Int) (hk : Ky s a b c) (i0 : -9223372036854775808 ≤ i) (i1 : i ≤ 9223372036854775807) (w : World) :
    Calls Tryz.prog 100 #[.agg #[.int .u64 (s : Int), .int .i64 a, .int .i64 b, .int .i64 c], .int .i64 i] w fun e w' => e = .returned (.int .u64 ((wdN s a b c i : Nat) : Int)) ∧ Below w.heap.size w w' := by
  obtain ⟨s1, -, -, -, -, -, -⟩ := id hk
  have wa := u6_wrap a
  have wb := u6_wrap b
  have wc := u6_wrap c
  have wi := u6_wrap i
  obtain ⟨X0, h0⟩ : ∃ x, (s + 7046029254386353131) % 18446744073709551616 = x := ⟨_, rfl⟩
  have l0 : X0 < 18446744073709551616 := by rw [← h0]; exact Nat.mod_lt _ (by omega)
  have e0 : IntKind.u64.wrap ((s : Int) + 7046029254386353131) = (X0 : Int) := by rw [IntKind.wrap_u64, ← h0]; omega
  obtain ⟨Y0, g0⟩ : ∃ x, stN X0 = x := ⟨_, rfl⟩
  have m0 : Y0 < 18446744073709551616 := by rw [← g0]; exact stN_lt _
  have q1 := mix_eq Y0 a m0
  obtain ⟨X1, h1⟩ : ∃ x, ((Y0 ^^^ u6 a) + 14029467366897019727) % 18446744073709551616 = x := ⟨_, rfl⟩
  have l1 : X1 < 18446744073709551616 := by rw [← h1]; exact Nat.mod_lt _ (by omega)
  rw [h1] at q1
  obtain ⟨Y1, g1⟩ : ∃ x, stN X1 = x := ⟨_, rfl⟩
  have m1 : Y1 < 18446744073709551616 := by rw [← g1]; exact stN_lt _
  have q2 := mix_eq Y1 b m1
  obtain ⟨X2, h2⟩ : ∃ x, ((Y1 ^^^ u6 b) + 14029467366897019727) % 18446744073709551616 = x := ⟨_, rfl⟩
  have l2 : X2 < 18446744073709551616 := by rw [← h2]; exact Nat.mod_lt _ (by omega)
  rw [h2] at q2
  obtain ⟨Y2, g2⟩ : ∃ x, stN X2 = x := ⟨_, rfl⟩
  have m2 : Y2 < 18446744073709551616 := by rw [← g2]; exact stN_lt _
  have q3 := mix_eq Y2 c m2
  obtain ⟨X3, h3⟩ : ∃ x, ((Y2 ^^^ u6 c) + 14029467366897019727) % 18446744073709551616 = x := ⟨_, rfl⟩
  have l3 : X3 < 18446744073709551616 := by rw [← h3]; exact Nat.mod_lt _ (by omega)
  rw [h3] at q3
  obtain ⟨Y3, g3⟩ : ∃ x, stN X3 = x := ⟨_, rfl⟩
  have m3 : Y3 < 18446744073709551616 := by rw [← g3]; exact stN_lt _
  obtain ⟨P, hP⟩ : ∃ x, u6 i * 11400714819323198485 % 18446744073709551616 = x := ⟨_, rfl⟩
  have lP : P < 18446744073709551616 := by rw [← hP]; exact Nat.mod_lt _ (by omega)
  have eP : IntKind.u64.wrap (((u6 i : Nat) : Int) * 11400714819323198485) = (P : Int) := by rw [IntKind.wrap_u64, ← hP]; omega
  have q4 := xor6 Y3 P m3 lP
  obtain ⟨X4, h4⟩ : ∃ x, Y3 ^^^ P = x := ⟨_, rfl⟩
  have l4 : X4 < 18446744073709551616 := by rw [← h4]; exact xor_in _ _ m3 lP
  rw [h4] at q4
  have hN : wdN s a b c i = stN X4 := by unfold wdN rtN mxN; rw [h0, g0, h1, g1, h2, g2, h3, g3, hP, h4]
  rw [hN]
  have S0 : Hid (∀ W : World, Calls Tryz.prog 126 #[.int .u64 (X0 : Int)] W fun e w' => e = .returned (.int .u64 (Y0 : Int)) ∧ w' = W) := fun W => g0 ▸ stir_any X0 l0 W
  have S1 : Hid (∀ W : World, Calls Tryz.prog 126 #[.int .u64 (X1 : Int)] W fun e w' => e = .returned (.int .u64 (Y1 : Int)) ∧ w' = W) := fun W => g1 ▸ stir_any X1 l1 W
  have S2 : Hid (∀ W : World, Calls Tryz.prog 126 #[.int .u64 (X2 : Int)] W fun e w' => e = .returned (.int .u64 (Y2 : Int)) ∧ w' = W) := fun W => g2 ▸ stir_any X2 l2 W
  have S3 : Hid (∀ W : World, Calls Tryz.prog 126 #[.int .u64 (X3 : Int)] W fun e w' => e = .returned (.int .u64 (Y3 : Int)) ∧ w' = W) := fun W => g3 ▸ stir_any X3 l3 W
  have S4 : Hid (∀ W : World, Calls Tryz.prog 126 #[.int .u64 (X4 : Int)] W fun e w' => e = .returned (.int .u64 ((stN X4 : Nat) : Int)) ∧ w' = W) := fun W => stir_any X4 l4 W
  generalize stN X4 = R at *
  generalize u6 a = ua at *
  generalize u6 b = ub at *
  generalize u6 c = uc at *
  generalize u6 i = ui at *
  have hb0 := bel1 w (.cells #[.int .u64 (s : Int), .int .i64 a, .int .i64 b, .int .i64 c] 103)
  clear h0 h1 h2 h3 h4 g0 g1 g2 g3 hP hN hk i0 i1 s1
  go_enter Tryz.func100, Tryz.ntmps100
  go_wp2_with fail
  refine (S0.out _).mono ?_
  rintro e w1 ⟨rfl, hz⟩
  subst hz
  clear S0
  go_wp2_with fail
  refine (S1.out _).mono ?_
  rintro e w1 ⟨rfl, hz⟩
  subst hz
  clear S1
  go_wp2_with fail
  refine (S2.out _).mono ?_
  rintro e w1 ⟨rfl, hz⟩
  subst hz
  clear S2
  go_wp2_with fail
  refine (S3.out _).mono ?_
  rintro e w1 ⟨rfl, hz⟩
  subst hz
  clear S3
  go_wp2_with fail
  refine (S4.out _).mono ?_
  rintro e w1 ⟨rfl, hz⟩
  subst hz
  clear S4
  go_wp2
  go_ret
  exact ⟨rfl, hb0⟩
end Go.Proofs.YtdfjnbkkdgolnaaGreatDoor
set_option linter.unusedVariables false
set_option linter.unusedSimpArgs false
namespace Go.Proofs.YtdfjnbkkdgolnaaGreatDoor
open Go.RowKit

set_option maxHeartbeats 2000000 in
theorem refPart_any (s : Nat) (a b c i : Int) (hk : Ky s a b c) (i0 : -9223372036854775808 ≤ i) (i1 : i ≤ 9223372036854775807) (w : World) :
    Calls Tryz.prog 68 #[.agg #[.int .u64 (s : Int), .int .i64 a, .int .i64 b, .int .i64 c], .int .i64 i] w fun e w' => e = .returned (.int .i64 ((ptN (wdN s a b c i) : Nat) : Int)) ∧ Below w.heap.size w w' := by
  have CW : Hid (∀ W : World, Calls Tryz.prog 100 #[.agg #[.int .u64 (s : Int), .int .i64 a, .int .i64 b, .int .i64 c], .int .i64 i] W fun e w' => e = .returned (.int .u64 ((wdN s a b c i : Nat) : Int)) ∧ Below W.heap.size W w') := fun W => refWord_any s a b c i hk i0 i1 W
  have hl := wdN_lt s a b c i
  generalize wdN s a b c i = X at *
  have e1 : (X : Int) / 4294967296 = ((ptN X : Nat) : Int) := by unfold ptN; omega
  have l1 := ptN_lt X hl
  generalize ptN X = p at *
  have e2 : wrap64 (p : Int) = (p : Int) := by rw [w64, sg_id _ (by omega) (by omega)]
  have hb0 := bel1 w (.cells #[.int .u64 (s : Int), .int .i64 a, .int .i64 b, .int .i64 c] 103)
  clear hk
  go_enter Tryz.func68, Tryz.ntmps68
  go_wp2_with fail
  refine (CW.out _).mono ?_
  rintro e w1 ⟨rfl, hb⟩
  have hX := bchain hb0 hb
  clear CW hb hb0
  go_wp2
  go_ret
  exact ⟨rfl, hX⟩
theorem dg_21 (V : Int) (h0 : 0 ≤ V) (h1 : V < 79228162514264337593543950336) : dg V 2 * 4294967296 + dg V 1 = V / 4294967296 := by
  simp only [dg, Nat.reduceMul, Int.reducePow]
  omega
theorem nmul_in (x y X Y : Nat) (hx : x ≤ X) (hy : y ≤ Y) : (0 : Int) ≤ (x : Int) * (y : Int) ∧ (x : Int) * (y : Int) ≤ (X : Int) * (Y : Int) := by
  rw [← Int.natCast_mul, ← Int.natCast_mul]
  have := Nat.mul_le_mul hx hy
  omega
set_option maxHeartbeats 4000000 in
theorem refBetween_any (s : Nat) (a b c i lw hg : Int) (hk : Ky s a b c) (i0 : -9223372036854775808 ≤ i) (i1 : i ≤ 9223372036854775807) (l0 : -9223372036854775808 ≤ lw) (h1 : hg ≤ 9223372036854775807) (hlh : lw < hg) (w : World) :
    Calls Tryz.prog 44 #[.agg #[.int .u64 (s : Int), .int .i64 a, .int .i64 b, .int .i64 c], .int .i64 i, .int .i64 lw, .int .i64 hg] w fun e w' => e = .returned (.int .i64 (lw + ((bwN (hg - lw).toNat (ptN (wdN s a b c i)) : Nat) : Int))) ∧ Below w.heap.size w w' := by
  have CW : Hid (∀ W : World, Calls Tryz.prog 68 #[.agg #[.int .u64 (s : Int), .int .i64 a, .int .i64 b, .int .i64 c], .int .i64 i] W fun e w' => e = .returned (.int .i64 ((ptN (wdN s a b c i) : Nat) : Int)) ∧ Below W.heap.size W w') := fun W => refPart_any s a b c i hk i0 i1 W
  have hl := ptN_lt _ (wdN_lt s a b c i)
  generalize ptN (wdN s a b c i) = p at *
  obtain ⟨D, hD⟩ : ∃ x, (hg - lw).toNat = x := ⟨_, rfl⟩
  rw [hD]
  have hDI : (D : Int) = hg - lw := by omega
  clear hD
  have CP : Hid (∀ W : World, Calls Tryz.prog 67 #[.int .u64 (D : Int), .int .u64 (p : Int)] W fun e w' => e = .returned (.agg #[.int .u64 (dg ((D : Int) * (p : Int)) 0), .int .u64 (dg ((D : Int) * (p : Int)) 1), .int .u64 (dg ((D : Int) * (p : Int)) 2), .int .u64 (dg ((D : Int) * (p : Int)) 3), .int .u64 (dg ((D : Int) * (p : Int)) 4), .int .u64 (dg ((D : Int) * (p : Int)) 5)]) ∧ Below W.heap.size W w') := fun W => sproduct_any (D : Int) (p : Int) (by omega) (by omega) (by omega) (by omega) W
  obtain ⟨v0, v1⟩ := nmul_in D p 18446744073709551615 4294967295 (by omega) (by omega)
  have hV : ((bwN D p : Nat) : Int) = (D : Int) * (p : Int) / 4294967296 := by unfold bwN; rw [Int.natCast_ediv, Int.natCast_mul]; rfl
  have hlt := bwN_lt D p hl (by omega)
  generalize bwN D p = R at *
  obtain ⟨V, hVV⟩ : ∃ x, (D : Int) * (p : Int) = x := ⟨_, rfl⟩
  rw [hVV] at CP v0 v1 hV
  have e3 := dg_21 V v0 (by omega)
  have r2 := dg_rng V 2
  have r1 := dg_rng V 1
  rw [← hV] at e3
  have hb0 := bel1 w (.cells #[.int .u64 (s : Int), .int .i64 a, .int .i64 b, .int .i64 c] 103)
  have hnI : ¬ hg ≤ lw := by omega
  obtain ⟨ul, hul⟩ : ∃ x, IntKind.u64.wrap lw = x := ⟨_, rfl⟩
  obtain ⟨uh, huh⟩ : ∃ x, IntKind.u64.wrap hg = x := ⟨_, rfl⟩
  have eD : IntKind.u64.wrap (uh - ul) = (D : Int) := by rw [← hul, ← huh, IntKind.wrap_u64, IntKind.wrap_u64, IntKind.wrap_u64]; omega
  have ep : IntKind.u64.wrap (p : Int) = (p : Int) := by rw [IntKind.wrap_u64]; omega
  obtain ⟨T, hT⟩ : ∃ x, IntKind.u64.wrap (IntKind.u64.wrap (ul + dg V 2 * 4294967296) + dg V 1) = x := ⟨_, rfl⟩
  have E5 : Hid (wrap64 T = lw + (R : Int)) := by
    show _ = _
    rw [w64, ← hT, ← hul, IntKind.wrap_u64, IntKind.wrap_u64, IntKind.wrap_u64]
    unfold sg
    omega
  clear hk v0 v1 hV hVV e3
  generalize dg V 0 = d0 at *
  generalize dg V 1 = d1 at *
  generalize dg V 2 = d2 at *
  generalize dg V 3 = d3 at *
  generalize dg V 4 = d4 at *
  generalize dg V 5 = d5 at *
  generalize lw + (R : Int) = Q at *
  clear hDI
  go_enter Tryz.func44, Tryz.ntmps44
  go_wp2_with fail
  refine (CW.out _).mono ?_
  rintro e w1 ⟨rfl, hb⟩
  have hX := bchain hb0 hb
  clear CW hb hb0
  go_wp2_with fail
  refine (CP.out _).mono ?_
  rintro e w2 ⟨rfl, hb⟩
  have hX2 := bchain (bchain hX hb) (bel1 w2 (.cells #[.int .u64 d0, .int .u64 d1, .int .u64 d2, .int .u64 d3, .int .u64 d4, .int .u64 d5] 106))
  clear CP hb hX
  go_wp2
  go_ret
  exact ⟨by show Ending.returned (Value.int .i64 (wrap64 T)) = _; rw [E5.out], hX2⟩
end Go.Proofs.YtdfjnbkkdgolnaaGreatDoor
