/-
  The contract of rand's Perm.
-/
import Derived.Test.YtoojakjbpbjeaabHWalkB
import Derived.Test.YtoojakjbpbjeaabEBase
import Derived.Test.YtoojakjbpbjeaabEDraw
set_option linter.unusedVariables false
set_option linter.unusedSimpArgs false
namespace Go.Proofs.Ytoojakjbpbjeaab
open Go.RowKit

theorem make_int (n : Nat) (hn : n ≤ 1000000) (w : World) : (Instr.makeSlice 31 (.int .i64 (n : Int)) (.int .i64 (n : Int))).run Try.prog w = .ok (.slice (some ⟨w.heap.size, 0, none⟩) n n) (w.alloc (.cells (madeCells #[.int .i64 0] n) 3)) := by
  obtain ⟨i0, hi, hz0, hz1, hz2⟩ := info_parts dinfo_int
  have h := run_make (P := Try.prog) w 31 3 i0 (.int .i64 0) Try.underlying31 hi hz0 .i64 .i64 (n : Int) (n : Int) (by omega) (by omega) (by rw [hz2]; omega) (by omega)
  rw [hz1, Nat.mul_one] at h
  exact h
set_option maxHeartbeats 1000000 in
theorem pPerm_bad (s : Nat) (a b c n : Int) (hn : n < 0 ∨ 65536 < n) (w : World) :
    Calls Try.prog 7 #[.agg #[.int .u64 (s : Int), .int .i64 a, .int .i64 b, .int .i64 c], .int .i64 n] w fun e w' => ∃ (ad : Option Addr) (cap : Nat), e = .returned (.tuple #[.slice ad 0 cap, .int .i64 2]) ∧ Below w.heap.size w w' := by
  have hb0 := bel1 w (.cells #[.int .u64 (s : Int), .int .i64 a, .int .i64 b, .int .i64 c] 24)
  by_cases h0 : n < 0
  · go_enter Try.func7, Try.ntmps7
    go_wp2
    go_ret2
    first | exact ⟨none, 0, rfl, hb0⟩ | exact ⟨⟨none, 0, rfl⟩, hb0⟩
  · have h1 : 65536 < n := by omega
    go_enter Try.func7, Try.ntmps7
    go_wp2
    go_ret2
    first | exact ⟨none, 0, rfl, hb0⟩ | exact ⟨⟨none, 0, rfl⟩, hb0⟩
set_option maxRecDepth 100000 in
set_option maxHeartbeats 8000000 in
theorem pPerm_any (s : Nat) (a b c : Int) (n : Nat) (hk : Ky s a b c) (hn : n ≤ 65536) (w : World) :
    Calls Try.prog 7 #[.agg #[.int .u64 (s : Int), .int .i64 a, .int .i64 b, .int .i64 c], .int .i64 (n : Int)] w fun e w' => ∃ v', e = .returned (.tuple #[v', .int .i64 0]) ∧ Ar w' v' n (fun k => ((pmN (jN s a b c) n (n - 1) k : Nat) : Int)) ∧ Ow w.heap.size v' ∧ Below w.heap.size w w' := by
  have HCB : Hid (∀ (i : Nat) (W : World), i < n → Calls Try.prog 15 #[.agg #[.int .u64 (s : Int), .int .i64 a, .int .i64 b, .int .i64 c], .int .i64 (i : Int), .int .i64 ((i : Int) + 1)] W fun e w' => e = .returned (.int .i64 ((jN s a b c i : Nat) : Int)) ∧ Below W.heap.size W w') := fun i W h => pBelow_any s a b c (i : Int) (i + 1) hk (by omega) (by omega) (by omega) (by omega) W
  have HJ : Hid (∀ i : Nat, i < n → jN s a b c i ≤ i) := fun i _ => by have := blN_lt (wdN s a b c (i : Int)) (i + 1) (wdN_lt _ _ _ _ _) (by omega); unfold jN; omega
  generalize jN s a b c = J at *
  clear hk
  have Kc : K4 w.heap.size (.int .u64 (s : Int)) (.int .i64 a) (.int .i64 b) (.int .i64 c) (w.alloc (.cells #[.int .u64 (s : Int), .int .i64 a, .int .i64 b, .int .i64 c] 24)) := ⟨by simp [go_sem], by simp [go_sem], by simp [go_sem], by simp [go_sem]⟩
  have hB1 : Hid (Below w.heap.size w (w.alloc (.cells #[.int .u64 (s : Int), .int .i64 a, .int .i64 b, .int .i64 c] 24))) := bel1 w _
  have hsz1 : Hid (w.heap.size < (w.alloc (.cells #[.int .u64 (s : Int), .int .i64 a, .int .i64 b, .int .i64 c] 24)).heap.size) := by show _ < _; simp
  obtain ⟨w1, hw1⟩ : ∃ w1, w1 = w.alloc (.cells #[.int .u64 (s : Int), .int .i64 a, .int .i64 b, .int .i64 c] 24) := ⟨_, rfl⟩
  rw [← hw1] at Kc hB1 hsz1
  have hmk := make_int n (by omega)
  have hR0 := Rw.made w1 (.int .i64 0) n 3
  have hB2 : Hid (Below w1.heap.size w1 (w1.alloc (.cells (madeCells #[.int .i64 0] n) 3))) := bel1 w1 _
  have hgs : Hid (w1.heap.size = w.heap.size + 1) := by show _ = _; rw [hw1]; simp
  rw [hgs.out] at hR0 hB2
  have hg0 : w.heap.size < w.heap.size + 1 := Nat.lt_succ_self _
  obtain ⟨w2, hw2⟩ : ∃ w2, w2 = w1.alloc (.cells (madeCells #[.int .i64 0] n) 3) := ⟨_, rfl⟩
  rw [← hw2] at hR0 hB2
  have HKc : Hid (K4 w.heap.size (.int .u64 (s : Int)) (.int .i64 a) (.int .i64 b) (.int .i64 c) w1) := Kc
  clear Kc
  have Hw2 : Hid (w2 = (w.alloc (.cells #[.int .u64 (s : Int), .int .i64 a, .int .i64 b, .int .i64 c] 24)).alloc (.cells (madeCells #[.int .i64 0] n) 3)) := by show _ = _; rw [hw2, hw1]
  clear hw1 hw2
  have n0 : ¬ (n : Int) < 0 := by omega
  have n1 : ¬ (65536 : Int) < (n : Int) := by omega
  go_enter Try.func7, Try.ntmps7
  go_upto_region 5 with fail
  clear hmk
  rw [← Hw2.out]
  clear Hw2
  generalize hgg : w.heap.size + 1 = g at *
  go_loopw [19] (fun si wr => ∃ j : Nat, j ≤ n ∧ si = .int .i64 (j : Int) ∧ Hid (Rw g n (fun k => .int .i64 (if k < j then (k : Int) else 0)) wr) ∧ Hid (Below g w1 wr)) (fun si _ => n - (intOf si).toNat)
  case atStart => exact ⟨0, by omega, rfl, hR0.congr (fun k hk => by simp), hB2⟩
  case round =>
    rename World => wr1
    obtain ⟨j, hj, rfl, hR, hW⟩ := hrel
    by_cases hlt : j < n
    · have hjI : (j : Int) < (n : Int) := by omega
      have cj : wr1.cell? ⟨g, j, none⟩ = some (.int .i64 0) := by have := hR.out.c j hlt; rw [if_neg (by omega)] at this; exact this
      have fj := hR.out.f j hlt
      have hR2 : Hid (Rw g n (fun k => .int .i64 (if k < j + 1 then (k : Int) else 0)) (wr1.setCell ⟨g, j, none⟩ (.int .i64 (j : Int)))) := (hR.out.set j (.int .i64 (j : Int))).congr (fun k hk => by
        by_cases e : k = j
        · subst e; simp
        · rw [if_neg e]
          by_cases e2 : k < j
          · rw [if_pos e2, if_pos (by omega)]
          · rw [if_neg e2, if_neg (by omega)])
      have hW2 : Hid (Below g w1 (wr1.setCell ⟨g, j, none⟩ (.int .i64 (j : Int)))) := hW.out.setCell (Nat.le_refl _) _
      clear hR hW
      go_wp2
      go_roundw
      case rel => exact ⟨j + 1, by omega, by go_num, hR2, hW2⟩
      case measure => simp [intOf]; omega
    · obtain rfl : j = n := by omega
      have hjI : ¬ (j : Int) < (j : Int) := by omega
      have hRj : Hid (Rw g j (fun k => .int .i64 ((pmN J j 0 k : Nat) : Int)) wr1) := hR.out.congr (fun k hk => by rw [if_pos hk]; rfl)
      clear hR hR0 hB2
      by_cases h0 : j = 0
      · subst h0
        have HAr : Hid (Ar wr1 (.slice (some ⟨g, 0, none⟩) 0 0) 0 (fun k => ((pmN J 0 (0 - 1) k : Nat) : Int))) := ⟨_, 0, g, 0, rfl, Nat.le_refl _, by unfold maxLen; omega, fun _ => rfl, fun k hk => by omega⟩
        have HX : Hid (Below w.heap.size w wr1) := bchain hB1.out (by rw [hgs.out]; exact hW.out)
        clear hRj HKc HCB HJ hW hB1 hgs hsz1
        go_upto_region 10 with fail
        go_loopw [8] (fun si wr => si = .int .i64 (-1) ∧ wr = wr1) (fun _ _ => 0)
        case atStart => exact ⟨by go_num, rfl⟩
        case round =>
          obtain ⟨rfl, rfl⟩ := hrel
          go_wp2
          go_ret2
          exact ⟨_, rfl, HAr.out, fun a' n' c' e _ => (by cases e; exact Nat.le_of_lt hg0), HX.out⟩
      · go_upto_region 10 with fail
        have hj1 : 1 ≤ j := by omega
        go_loopw [8] (fun si wr => ∃ (m i : Nat), m + i = j - 1 ∧ si = .int .i64 (i : Int) ∧ Hid (Rw g j (fun k => .int .i64 ((pmN J j m k : Nat) : Int)) wr) ∧ Hid (Below g w1 wr)) (fun si _ => (intOf si).toNat)
        case atStart => exact ⟨0, j - 1, by omega, by go_num; try omega, hRj, hW⟩
        case round =>
          rename World => wr
          obtain ⟨m, i, hmi, rfl, hRw, hWr⟩ := hrel
          have Hmi : Hid (j - 1 - m = i) := by show _ = _; omega
          have hmn : m ≤ j - 1 := by omega
          have hij : i < j := by omega
          by_cases hge : 1 ≤ i
          · have hgI : (0 : Int) < (i : Int) := by omega
            have kc := HKc.out.later (by rw [hgs.out]; exact hWr.out)
            have k0 := kc.c0
            have k1 := kc.c1
            have k2 := kc.c2
            have k3 := kc.c3
            have CB : Hid (Calls Try.prog 15 #[.agg #[.int .u64 (s : Int), .int .i64 a, .int .i64 b, .int .i64 c], .int .i64 (i : Int), .int .i64 ((i : Int) + 1)] wr fun e w' => e = .returned (.int .i64 ((J i : Nat) : Int)) ∧ Below wr.heap.size wr w') := HCB.out i wr hij
            have hJi := HJ.out i hij
            have HL : Hid (pmN J j m i < j ∧ pmN J j m (J i) < j) := ⟨pmN_lt J j HJ.out m hmn i hij, pmN_lt J j HJ.out m hmn (J i) (by omega)⟩
            clear kc hmi
            go_wp2_with fail
            refine CB.out.mono ?_
            rintro e wz ⟨rfl, hb⟩
            have HRz : Hid (Rw g j (fun k => .int .i64 ((pmN J j m k : Nat) : Int)) wz) := hRw.out.later hb
            have HWz : Hid (Below g w1 wz) := hWr.out.trans (hb.mono (by have := hWr.out.size; have := hgs.out; omega))
            have hmi2 : m + 1 + (i - 1) = j - 1 := by have := Hmi.out; omega
            clear k0 k1 k2 k3 CB hb hRw hWr
            go_upto_region 13 with fail
            have ci : wz.drew.cell? ⟨g, i, none⟩ = some (.int .i64 ((pmN J j m i : Nat) : Int)) := HRz.out.c i hij
            have fi : wz.drew.frozen? ⟨g, i, none⟩ = false := HRz.out.f i hij
            have cq : wz.drew.cell? ⟨g, J i, none⟩ = some (.int .i64 ((pmN J j m (J i) : Nat) : Int)) := HRz.out.c (J i) (by omega)
            have fq : wz.drew.frozen? ⟨g, J i, none⟩ = false := HRz.out.f (J i) (by omega)
            have hRd : Rw g j (fun k => .int .i64 ((pmN J j m k : Nat) : Int)) wz.drew := HRz.out.later ((Below.refl _ _).drew)
            have HR2 : Hid (Rw g j (fun k => .int .i64 ((pmN J j (m + 1) k : Nat) : Int)) ((wz.drew.setCell ⟨g, i, none⟩ (.int .i64 ((pmN J j m (J i) : Nat) : Int))).setCell ⟨g, J i, none⟩ (.int .i64 ((pmN J j m i : Nat) : Int)))) := by
              have h := swp_rw hRd i (J i)
              have e : pmN J j (m + 1) = swp (pmN J j m) i (J i) := by show swp _ _ _ = _; rw [Hmi.out]
              show Rw _ _ _ _
              rw [e]
              exact h
            have HW2 : Hid (Below g w1 ((wz.drew.setCell ⟨g, i, none⟩ (.int .i64 ((pmN J j m (J i) : Nat) : Int))).setCell ⟨g, J i, none⟩ (.int .i64 ((pmN J j m i : Nat) : Int)))) := (HWz.out.drew.setCell (Nat.le_refl _) _).setCell (Nat.le_refl _) _
            obtain ⟨u2, c2⟩ : ∃ u, (wz.drew.setCell ⟨g, i, none⟩ (.int .i64 ((pmN J j m (J i) : Nat) : Int))).cell? ⟨g, J i, none⟩ = some u := ⟨_, (hRd.set i (.int .i64 ((pmN J j m (J i) : Nat) : Int))).c (J i) (by omega)⟩
            have f2 : (wz.drew.setCell ⟨g, i, none⟩ (.int .i64 ((pmN J j m (J i) : Nat) : Int))).frozen? ⟨g, J i, none⟩ = false := (hRd.set i (.int .i64 ((pmN J j m (J i) : Nat) : Int))).f (J i) (by omega)
            clear hRd
            clear HRz HWz Hmi
            generalize J i = q at *
            generalize pmN J j m i = x at *
            generalize pmN J j m q = y at *
            have hqj : q < j := by omega
            refine wp_region_any (by kernel_rfl) ?_
            change wpAny _ _ _ _ _ _ _ (World.drew _)
            generalize wz.drew = wy at *
            refine wpAny_take (i := 0) (v := ?v1) rfl (by kernel_rfl) (by kernel_rfl) (by kernel_rfl) (fun _ _ _ h => h) (Or.inl ⟨by kernel_rfl, ?h1⟩) ?r1
            case h1 => (intro w; go_simp) <;> with_reducible rfl
            refine wpAny_take (i := 1) (v := ?v2) rfl (by kernel_rfl) (by kernel_rfl) (by kernel_rfl) (fun _ _ _ h => h) (Or.inl ⟨by kernel_rfl, ?h2⟩) ?r2
            case h2 => (intro w; go_simp) <;> with_reducible rfl
            refine wpAny_take (i := 2) (v := ?v3) rfl (by kernel_rfl) (by kernel_rfl) (by kernel_rfl) (fun _ _ _ h => h) (Or.inl ⟨by kernel_rfl, ?h3⟩) ?r3
            case h3 => (intro w; go_simp) <;> with_reducible rfl
            go_simp
            refine wpAny_take (i := 3) (v := ?v4) rfl (by kernel_rfl) (by kernel_rfl) (by kernel_rfl) (fun _ _ _ h => h) (Or.inl ⟨by kernel_rfl, ?h4⟩) ?r4
            case h4 => (intro w; go_simp) <;> with_reducible rfl
            refine wpAny_take (i := 4) (v := ?v5) rfl (by kernel_rfl) (by kernel_rfl) (by kernel_rfl) (fun _ _ _ h => h) (Or.inl ⟨by kernel_rfl, ?h5⟩) ?r5
            case h5 => (intro w; go_simp) <;> with_reducible rfl
            refine wpAny_take (i := 5) (v := ?v6) rfl (by kernel_rfl) (by kernel_rfl) (by kernel_rfl) (fun _ _ _ h => h) (Or.inl ⟨by kernel_rfl, ?h6⟩) ?r6
            case h6 => (intro w; go_simp) <;> with_reducible rfl
            go_simp
            refine wpAny_take (i := 8) (v := ?v7) rfl (by kernel_rfl) (by kernel_rfl) (by kernel_rfl) (fun _ _ _ h => h) (Or.inl ⟨by kernel_rfl, ?h7⟩) ?r7
            case h7 => (intro w; go_simp) <;> with_reducible rfl
            refine wpAny_take (i := 9) (v := ?v8) rfl (by kernel_rfl) (by kernel_rfl) (by kernel_rfl) (fun _ _ _ h => h) (Or.inl ⟨by kernel_rfl, ?h8⟩) ?r8
            case h8 => (intro w; go_simp) <;> with_reducible rfl
            refine wpAny_take (i := 10) (v := ?v9) rfl (by kernel_rfl) (by kernel_rfl) (by kernel_rfl) (fun _ _ _ h => h) (Or.inl ⟨by kernel_rfl, ?h9⟩) ?r9
            case h9 => (intro w; go_simp) <;> with_reducible rfl
            go_simp
            refine wpAny_ready (rs := [6, 11]) (by kernel_rfl) (by simp) (ready_cons ?_ (ready_cons ?_ AllReady.nil))
            · refine op_val (v := .pointer (some ⟨g, q, none⟩)) rfl (by kernel_rfl) (run_idx (x := 42) (y := 43) (q := q) (j := j) (cap := j) rfl (by kernel_rfl) (by kernel_rfl) hqj) ?_
              refine wpAny_ready (rs := [7, 11]) (by kernel_rfl) (by simp) (ready_cons ?_ (ready_cons ?_ AllReady.nil))
              · refine op_val (v := .int .i64 (y : Int)) rfl (by kernel_rfl) (run_ldi (x := 44) (p := ⟨g, q, none⟩) rfl (by kernel_rfl) cq) ?_
                refine wpAny_ready (rs := [11]) (by kernel_rfl) (by simp) (ready_cons ?_ AllReady.nil)
                refine op_val (v := .int .i64 (x : Int)) rfl (by kernel_rfl) (run_ldi (x := 48) (p := ⟨g, i, none⟩) rfl (by kernel_rfl) ci) ?_
                go_simp
                refine wpAny_ready (rs := [12]) (by kernel_rfl) (by simp) (ready_cons ?_ AllReady.nil)
                refine op_val (v := .pointer (some ⟨g, i, none⟩)) rfl (by kernel_rfl) (run_idx (x := 38) (y := 39) (q := i) (j := j) (cap := j) rfl (by kernel_rfl) (by kernel_rfl) hij) ?_
                refine wpAny_ready (rs := [13]) (by kernel_rfl) (by simp) (ready_cons ?_ AllReady.nil)
                refine op_skip rfl (by kernel_rfl) (run_sti (x := 50) (y := 45) (p := ⟨g, i, none⟩) (v := (y : Int)) rfl (by kernel_rfl) (by kernel_rfl) ci fi) ?_
                generalize wy.setCell ⟨g, i, none⟩ (.int .i64 (y : Int)) = wA at *
                refine wpAny_ready (rs := [14]) (by kernel_rfl) (by simp) (ready_cons ?_ AllReady.nil)
                refine op_val (v := .pointer (some ⟨g, q, none⟩)) rfl (by kernel_rfl) (run_idx (x := 40) (y := 41) (q := q) (j := j) (cap := j) rfl (by kernel_rfl) (by kernel_rfl) hqj) ?_
                refine wpAny_ready (rs := [15]) (by kernel_rfl) (by simp) (ready_cons ?_ AllReady.nil)
                refine op_skip rfl (by kernel_rfl) (run_sti (x := 51) (y := 49) (p := ⟨g, q, none⟩) (v := (x : Int)) rfl (by kernel_rfl) (by kernel_rfl) c2 f2) ?_
                generalize wA.setCell ⟨g, q, none⟩ (.int .i64 (x : Int)) = wB at *
                go_simp
                refine wpAny_done (by kernel_rfl) ?_ _
                go_wp2
                go_roundw
                case rel => exact ⟨m + 1, i - 1, hmi2, by go_num; try omega, HR2, HW2⟩
                case measure => simp [intOf]; omega
              · refine op_val (v := .int .i64 (x : Int)) rfl (by kernel_rfl) (run_ldi (x := 48) (p := ⟨g, i, none⟩) rfl (by kernel_rfl) ci) ?_
                refine wpAny_ready (rs := [7]) (by kernel_rfl) (by simp) (ready_cons ?_ AllReady.nil)
                refine op_val (v := .int .i64 (y : Int)) rfl (by kernel_rfl) (run_ldi (x := 44) (p := ⟨g, q, none⟩) rfl (by kernel_rfl) cq) ?_
                go_simp
                refine wpAny_ready (rs := [12]) (by kernel_rfl) (by simp) (ready_cons ?_ AllReady.nil)
                refine op_val (v := .pointer (some ⟨g, i, none⟩)) rfl (by kernel_rfl) (run_idx (x := 38) (y := 39) (q := i) (j := j) (cap := j) rfl (by kernel_rfl) (by kernel_rfl) hij) ?_
                refine wpAny_ready (rs := [13]) (by kernel_rfl) (by simp) (ready_cons ?_ AllReady.nil)
                refine op_skip rfl (by kernel_rfl) (run_sti (x := 50) (y := 45) (p := ⟨g, i, none⟩) (v := (y : Int)) rfl (by kernel_rfl) (by kernel_rfl) ci fi) ?_
                generalize wy.setCell ⟨g, i, none⟩ (.int .i64 (y : Int)) = wA at *
                refine wpAny_ready (rs := [14]) (by kernel_rfl) (by simp) (ready_cons ?_ AllReady.nil)
                refine op_val (v := .pointer (some ⟨g, q, none⟩)) rfl (by kernel_rfl) (run_idx (x := 40) (y := 41) (q := q) (j := j) (cap := j) rfl (by kernel_rfl) (by kernel_rfl) hqj) ?_
                refine wpAny_ready (rs := [15]) (by kernel_rfl) (by simp) (ready_cons ?_ AllReady.nil)
                refine op_skip rfl (by kernel_rfl) (run_sti (x := 51) (y := 49) (p := ⟨g, q, none⟩) (v := (x : Int)) rfl (by kernel_rfl) (by kernel_rfl) c2 f2) ?_
                generalize wA.setCell ⟨g, q, none⟩ (.int .i64 (x : Int)) = wB at *
                go_simp
                refine wpAny_done (by kernel_rfl) ?_ _
                go_wp2
                go_roundw
                case rel => exact ⟨m + 1, i - 1, hmi2, by go_num; try omega, HR2, HW2⟩
                case measure => simp [intOf]; omega
            · refine op_val (v := .int .i64 (x : Int)) rfl (by kernel_rfl) (run_ldi (x := 48) (p := ⟨g, i, none⟩) rfl (by kernel_rfl) ci) ?_
              refine wpAny_ready (rs := [6]) (by kernel_rfl) (by simp) (ready_cons ?_ AllReady.nil)
              refine op_val (v := .pointer (some ⟨g, q, none⟩)) rfl (by kernel_rfl) (run_idx (x := 42) (y := 43) (q := q) (j := j) (cap := j) rfl (by kernel_rfl) (by kernel_rfl) hqj) ?_
              refine wpAny_ready (rs := [7]) (by kernel_rfl) (by simp) (ready_cons ?_ AllReady.nil)
              refine op_val (v := .int .i64 (y : Int)) rfl (by kernel_rfl) (run_ldi (x := 44) (p := ⟨g, q, none⟩) rfl (by kernel_rfl) cq) ?_
              go_simp
              refine wpAny_ready (rs := [12]) (by kernel_rfl) (by simp) (ready_cons ?_ AllReady.nil)
              refine op_val (v := .pointer (some ⟨g, i, none⟩)) rfl (by kernel_rfl) (run_idx (x := 38) (y := 39) (q := i) (j := j) (cap := j) rfl (by kernel_rfl) (by kernel_rfl) hij) ?_
              refine wpAny_ready (rs := [13]) (by kernel_rfl) (by simp) (ready_cons ?_ AllReady.nil)
              refine op_skip rfl (by kernel_rfl) (run_sti (x := 50) (y := 45) (p := ⟨g, i, none⟩) (v := (y : Int)) rfl (by kernel_rfl) (by kernel_rfl) ci fi) ?_
              generalize wy.setCell ⟨g, i, none⟩ (.int .i64 (y : Int)) = wA at *
              refine wpAny_ready (rs := [14]) (by kernel_rfl) (by simp) (ready_cons ?_ AllReady.nil)
              refine op_val (v := .pointer (some ⟨g, q, none⟩)) rfl (by kernel_rfl) (run_idx (x := 40) (y := 41) (q := q) (j := j) (cap := j) rfl (by kernel_rfl) (by kernel_rfl) hqj) ?_
              refine wpAny_ready (rs := [15]) (by kernel_rfl) (by simp) (ready_cons ?_ AllReady.nil)
              refine op_skip rfl (by kernel_rfl) (run_sti (x := 51) (y := 49) (p := ⟨g, q, none⟩) (v := (x : Int)) rfl (by kernel_rfl) (by kernel_rfl) c2 f2) ?_
              generalize wA.setCell ⟨g, q, none⟩ (.int .i64 (x : Int)) = wB at *
              go_simp
              refine wpAny_done (by kernel_rfl) ?_ _
              go_wp2
              go_roundw
              case rel => exact ⟨m + 1, i - 1, hmi2, by go_num; try omega, HR2, HW2⟩
              case measure => simp [intOf]; omega
          · have hgI : ¬ (0 : Int) < (i : Int) := by omega
            obtain rfl : m = j - 1 := by omega
            have HX : Hid (Below w.heap.size w wr) := bchain hB1.out (by rw [hgs.out]; exact hWr.out)
            have HAr : Hid (Ar wr (.slice (some ⟨g, 0, none⟩) j j) j (fun k => ((pmN J j (j - 1) k : Nat) : Int))) := ⟨_, j, g, 0, rfl, Nat.le_refl _, by unfold maxLen; omega, fun _ => rfl, fun k hk => ⟨by rw [Nat.zero_add]; exact hRw.out.c k hk, by have := pmN_lt J j HJ.out (j - 1) (Nat.le_refl _) k hk; dsimp only; omega⟩⟩
            clear hRw hWr hRj HCB HJ HKc
            go_wp2
            go_ret2
            exact ⟨_, rfl, HAr.out, fun a' n' c' e _ => (by cases e; exact Nat.le_of_lt hg0), HX.out⟩
end Go.Proofs.Ytoojakjbpbjeaab
