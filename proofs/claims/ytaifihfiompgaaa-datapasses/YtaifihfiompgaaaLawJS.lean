/-
  DataShards: each example is just one worker's, and two workers' counts differ by one at most.
-/
import Derived.Test.YtaifihfiompgaaaLawJO
import Derived.Laws.MakeOwn
set_option linter.unusedVariables false
set_option linter.unusedSimpArgs false
namespace Go.Proofs.Ytaifihfiompgaaa
open Go.RowKit

theorem dinfo_blj : (Try.prog.info? 4).map (fun i => (i.zero, i.size, i.bytes)) = some (some (.bool false), 1, 1) := by kernel_rfl
theorem make_blj (n : Nat) (hn : n ≤ 1000000) (w : World) : (Instr.makeSlice 43 (.int .i64 (n : Int)) (.int .i64 (n : Int))).run Try.prog w = .ok (.slice (some ⟨w.heap.size, 0, none⟩) n n) (w.alloc (.cells (madeCells #[.bool false] n) 4)) := by
  obtain ⟨i0, hi, hz0, hz1, hz2⟩ := info_parts dinfo_blj
  have h := run_make (P := Try.prog) w 43 4 i0 (.bool false) Try.underlying43 hi hz0 .i64 .i64 (n : Int) (n : Int) (by omega) (by omega) (by rw [hz2]; omega) (by omega)
  rw [hz1, Nat.mul_one] at h
  exact h
set_option maxRecDepth 100000 in
set_option maxHeartbeats 8000000 in
theorem dataShards_any (V : Data1) (V2 : Data2) (V3 : Data3) (s : Nat) (W x n : Int) (hs : s < 18446744073709551616) (w : World) (hV : RT w) :
    Calls Try.prog 6 #[.agg #[.int .u64 (s : Int), .int .i64 W, .int .i64 x, .int .i64 n]] w fun e w' => e = .returned (.bool true) ∧ Below w.heap.size w w' := by
  have HA : Hid (∀ U : World, Below w.heap.size w U → Calls Try.prog 8 #[] U fun e w' => e = .returned (.bool true) ∧ Below U.heap.size U w') := fun U hb => dawake_any V V2 U (hV.later hb)
  have K0 : K4 w.heap.size (.int .u64 (s : Int)) (.int .i64 W) (.int .i64 x) (.int .i64 n) (w.alloc (.cells #[.int .u64 (s : Int), .int .i64 W, .int .i64 x, .int .i64 n] 24)) := ⟨by simp [go_sem], by simp [go_sem], by simp [go_sem], by simp [go_sem]⟩
  have B0 : Hid (Below w.heap.size w (w.alloc (.cells #[.int .u64 (s : Int), .int .i64 W, .int .i64 x, .int .i64 n] 24))) := bel1 w _
  go_enter Try.func6, Try.ntmps6
  go_wp2_with fail
  generalize w.alloc (.cells #[.int .u64 (s : Int), .int .i64 W, .int .i64 x, .int .i64 n] 24) = w1 at *
  refine (HA.out _ B0.out).mono ?_
  rintro e w2 ⟨rfl, hb⟩
  have B2 : Hid (Below w.heap.size w w2) := bchain B0.out hb
  have K2 := K0.later hb
  clear hb B0 K0 HA
  have c0 := K2.c0
  have c1 := K2.c1
  have c2 := K2.c2
  have c3 := K2.c3
  by_cases hR : Rgt W n
  · have HRt : Hid (∀ U : World, Calls Try.prog 10 #[.int .i64 W, .int .i64 n] U fun e w' => e = .returned (.bool true) ∧ w' = U) := fun U => right_yes W n hR U
    obtain ⟨r1, r2, r3, r4⟩ := hR
    go_wp2_with fail
    refine (HRt.out _).mono ?_
    rintro e w3 ⟨rfl, hz⟩
    subst hz
    clear HRt
    by_cases h300 : 300 < n
    · go_wp2
      go_ret
      exact ⟨rfl, B2.out⟩
    have h300' : ¬ 300 < n := h300
    obtain ⟨W', rfl⟩ : ∃ W' : Nat, W = (W' : Int) := ⟨W.toNat, by omega⟩
    obtain ⟨n', rfl⟩ : ∃ n' : Nat, n = (n' : Int) := ⟨n.toNat, by omega⟩
    obtain ⟨G, C, hG, hC⟩ := perm_fun s 1 0 0 n'
    have HOw : Hid (∀ (y : Nat) (U : World), y < W' → Below w.heap.size w U → Calls Try.prog 9 #[.int .u64 (s : Int), .int .i64 (W' : Int), .int .i64 (y : Int), .int .i64 (n' : Int)] U fun e w' => ∃ v', e = .returned (.tuple #[v', .int .i64 0]) ∧ Ar w' v' (dlo W' n' (y + 1) - dlo W' n' y) (fun q => ((C (dlo W' n' y + q) : Nat) : Int)) ∧ Ow U.heap.size v' ∧ Below U.heap.size U w') := fun y U hy hb => V.own s W' y n' C U hs (by omega) (by omega) hy (by omega) (by omega) hC (hV.later hb)
    have HC1 : Hid (∀ p, p < n' → C p < n' ∧ G (C p) = p ∧ ∀ i, i < n' → (i = C p ↔ G i = p)) := fun p hp => by
      have h1 := hC p hp
      have h2 : G (C p) = p := (hG (C p) h1.lt).one (h1.goes hp)
      exact ⟨h1.lt, h2, fun i hi => ⟨fun e => by rw [e, h2], fun e => ((hG i hi).comes hi).one (by rw [e]; exact h1)⟩⟩
    have HG1 : Hid (∀ i, i < n' → G i < n') := fun i hi => (hG i hi).lt
    have HOr : Hid (∀ (i y : Nat) (U : World), i < n' → dlo W' n' y ≤ G i → G i < dlo W' n' (y + 1) → Below w.heap.size w U → Calls Try.prog 16 #[.int .u64 (s : Int), .int .i64 (W' : Int), .int .i64 (n' : Int), .int .i64 (i : Int)] U fun e w' => e = .returned (.tuple #[.int .i64 (y : Int), .int .i64 0]) ∧ Below U.heap.size U w') := fun i y U hi h1 h2 hb => by
      refine (V3.owner s W' n' i U hs (by omega) (by omega) (by omega) (by omega) hi (hV.later hb)).mono ?_
      rintro e w' ⟨x', p, rfl, -, hGp, q1, q2, hb'⟩
      have e1 : p = G i := hGp.one (hG i hi)
      rw [e1] at q1 q2
      rw [dlo_one W' n' (G i) q1 q2 h1 h2]
      exact ⟨rfl, hb'⟩
    have Hst : Hid (∀ y, dlo W' n' y + n' / W' ≤ dlo W' n' (y + 1) ∧ dlo W' n' (y + 1) ≤ dlo W' n' y + n' / W' + 1) := fun y => dlo_step W' n' y (by omega)
    have Hle : Hid (∀ y, y ≤ W' → dlo W' n' y ≤ n') := fun y hy => dlo_le W' n' y (by omega) hy
    have Hz : Hid (dlo W' n' 0 = 0 ∧ dlo W' n' W' = n') := ⟨dlo_zero W' n', dlo_all W' n' (by omega)⟩
    have hQ1 : 1 ≤ n' / W' := (Nat.le_div_iff_mul_le (by omega)).2 (by omega)
    obtain ⟨D, hD⟩ : ∃ D : Nat → Nat, D = dlo W' n' := ⟨_, rfl⟩
    rw [← hD] at HOw HOr Hst Hle Hz
    generalize n' / W' = Q at *
    clear hD hG hC V V2 V3 hV
    have hmk := make_blj n' (by omega)
    have hR0 : Hid (Rw w3.heap.size n' (fun _ => .bool false) (w3.alloc (.cells (madeCells #[.bool false] n') 4))) := Rw.made w3 (.bool false) n' 4
    have hb4 : Below w3.heap.size w3 (w3.alloc (.cells (madeCells #[.bool false] n') 4)) := bel1 _ _
    have K4' := K2.later hb4
    have HB4 : Hid (Below w.heap.size w (w3.alloc (.cells (madeCells #[.bool false] n') 4))) := bchain B2.out hb4
    have hg2 : w.heap.size < w3.heap.size := World.block_lt_of_cell? _ _ c0
    go_upto_region 8 with fail
    clear hmk hb4 c0 c1 c2 c3 K2
    obtain ⟨g, hg⟩ : ∃ g, w3.heap.size = g := ⟨_, rfl⟩
    rw [hg] at hR0 hg2
    generalize w3.alloc (.cells (madeCells #[.bool false] n') 4) = w4 at *
    have HK4 : Hid (K4 w.heap.size (.int .u64 (s : Int)) (.int .i64 (W' : Int)) (.int .i64 x) (.int .i64 (n' : Int)) w4) := K4'
    clear K4'
    rw [hg]
    go_loopw [4, 5, 35] (fun s4 s5 si wr => ∃ y L Mx : Nat, y ≤ W' ∧ si = .int .i64 (y : Int) ∧ s4 = .int .i64 (L : Int) ∧ s5 = .int .i64 (Mx : Int) ∧ L ≤ 5000 ∧ Mx ≤ 5000 ∧ Hid ((y = 0 ∧ L = n' ∧ Mx = 0) ∨ (1 ≤ y ∧ Q ≤ L ∧ L ≤ Q + 1 ∧ Q ≤ Mx ∧ Mx ≤ Q + 1)) ∧ Hid (Rw g n' (fun i => .bool (decide (G i < D y))) wr) ∧ Hid (K4 w.heap.size (.int .u64 (s : Int)) (.int .i64 (W' : Int)) (.int .i64 x) (.int .i64 (n' : Int)) wr) ∧ Hid (Below w.heap.size w wr)) (fun _ _ si _ => W' - (intOf si).toNat)
    case atStart => exact ⟨0, n', 0, by omega, rfl, rfl, rfl, by omega, by omega, Or.inl ⟨rfl, rfl, rfl⟩, hR0.out.congr (fun i hi => by rw [Hz.out.1]; simp), HK4, HB4⟩
    case round =>
      rename World => wo
      obtain ⟨y, L, Mx, hy, rfl, rfl, rfl, hL5, hM5, HL, HR, HK, HW⟩ := hrel
      by_cases hlt : y < W'
      · have hyI : (y : Int) < (W' : Int) := by omega
        have c0 := HK.out.c0
        have c1 := HK.out.c1
        have c2 := HK.out.c2
        have c3 := HK.out.c3
        have CM : Hid (Calls Try.prog 9 #[.int .u64 (s : Int), .int .i64 (W' : Int), .int .i64 (y : Int), .int .i64 (n' : Int)] wo fun e w' => ∃ v', e = .returned (.tuple #[v', .int .i64 0]) ∧ Ar w' v' (D (y + 1) - D y) (fun q => ((C (D y + q) : Nat) : Int)) ∧ Ow wo.heap.size v' ∧ Below wo.heap.size wo w') := HOw.out y wo hlt HW.out
        have hst := Hst.out y
        have hle1 := Hle.out (y + 1) (by omega)
        obtain ⟨M, hM⟩ : ∃ M, D (y + 1) - D y = M := ⟨_, rfl⟩
        rw [hM] at CM
        have hMb : Q ≤ M ∧ M ≤ Q + 1 ∧ 1 ≤ M ∧ M ≤ 300 := by omega
        have HDM : Hid (D y + M = D (y + 1) ∧ D (y + 1) ≤ n') := ⟨by omega, hle1⟩
        obtain ⟨m1, m2, m3, m4⟩ := hMb
        obtain ⟨L2, hL2⟩ : ∃ L2, min L M = L2 := ⟨_, rfl⟩
        obtain ⟨Mx2, hMx2⟩ : ∃ M2, max Mx M = M2 := ⟨_, rfl⟩
        have emin : min (L : Int) (M : Int) = (L2 : Int) := by omega
        have emax : max (Mx : Int) (M : Int) = (Mx2 : Int) := by omega
        have hDn : M ≤ n' := by omega
        have HL2 : Hid ((y + 1 = 0 ∧ L2 = n' ∧ Mx2 = 0) ∨ (1 ≤ y + 1 ∧ Q ≤ L2 ∧ L2 ≤ Q + 1 ∧ Q ≤ Mx2 ∧ Mx2 ≤ Q + 1)) := by
          refine Or.inr ⟨by omega, ?_⟩
          rcases HL.out with ⟨a1, a2, a3⟩ | ⟨a1, a2, a3, a4, a5⟩
          · subst a2 a3; omega
          · omega
        have hL52 : L2 ≤ 5000 := by omega
        have hM52 : Mx2 ≤ 5000 := by omega
        clear hst hle1 hM hL2 hMx2 HL
        go_wp2_with fail
        refine CM.out.mono ?_
        rintro e w5 ⟨v', rfl, hA5, hO5, hb⟩
        have HK5 : Hid (K4 w.heap.size (.int .u64 (s : Int)) (.int .i64 (W' : Int)) (.int .i64 x) (.int .i64 (n' : Int)) w5) := HK.out.later hb
        have HR5 : Hid (Rw g n' (fun i => .bool (decide (G i < D y))) w5) := HR.out.later hb
        have HW5 : Hid (Below w.heap.size w w5) := bchain HW.out hb
        have hgo : g < wo.heap.size := World.block_lt_of_cell? _ _ (HR.out.c 0 (by omega))
        obtain ⟨adr, cap, b, o, rfl, x1, x2, x3, x4⟩ := hA5
        unfold maxLen at x2
        have ha := x3 (by omega)
        subst ha
        have hbg : b ≠ g := by have h := hO5 _ _ _ rfl (by omega); dsimp only at h; omega
        have HX5 : Hid (∀ q, q < M → w5.cell? ⟨b, o + q, none⟩ = some (.int .i64 ((C (D y + q) : Nat) : Int))) := fun q hq => (x4 q hq).1
        clear c0 c1 c2 c3 hb x3 x4 hO5 CM HK HR HW
        go_upto_region 15 with fail
        go_loopw [61] (fun si wi => ∃ j : Nat, j ≤ M ∧ si = .int .i64 (j : Int) ∧ Hid (Rw g n' (fun i => .bool (decide (G i < D y + j))) wi) ∧ Hid (∀ q, q < M → wi.cell? ⟨b, o + q, none⟩ = some (.int .i64 ((C (D y + q) : Nat) : Int))) ∧ Hid (K4 w.heap.size (.int .u64 (s : Int)) (.int .i64 (W' : Int)) (.int .i64 x) (.int .i64 (n' : Int)) wi) ∧ Hid (Below w.heap.size w wi)) (fun si _ => M - (intOf si).toNat)
        case atStart => exact ⟨0, by omega, rfl, HR5, HX5, HK5, HW5⟩
        case round =>
          rename World => wi
          obtain ⟨j, hj, rfl, HRi, HXi, HKi, HWi⟩ := hrel
          by_cases hjM : j < M
          · have hjI : (j : Int) < (M : Int) := by omega
            have cx := HXi.out j hjM
            have hpn : D y + j < n' := by have := HDM.out; omega
            obtain ⟨h1, h2, h3⟩ := HC1.out (D y + j) hpn
            have hpq : D y ≤ G (C (D y + j)) ∧ G (C (D y + j)) < D (y + 1) := by rw [h2]; have := HDM.out; omega
            obtain ⟨cc, hcc⟩ : ∃ cc, C (D y + j) = cc := ⟨_, rfl⟩
            rw [hcc] at cx h1 h2 h3 hpq
            have cS : wi.cell? ⟨g, cc, none⟩ = some (.bool false) := by have h := HRi.out.c cc h1; rw [h2] at h; simpa using h
            have fS := HRi.out.f cc h1
            have HR2 : Rw g n' (fun i => .bool (decide (G i < D y + (j + 1)))) (wi.setCell ⟨g, cc, none⟩ (.bool true)) := (HRi.out.set cc (.bool true)).congr (fun i hi => by
              by_cases e : i = cc
              · rw [if_pos e, e, h2]
                simp
              · rw [if_neg e]
                have hne : G i ≠ D y + j := fun h => e ((h3 i hi).2 h)
                have : (G i < D y + j) ↔ (G i < D y + (j + 1)) := by omega
                simp only [this])
            have HK2 : K4 w.heap.size (.int .u64 (s : Int)) (.int .i64 (W' : Int)) (.int .i64 x) (.int .i64 (n' : Int)) (wi.setCell ⟨g, cc, none⟩ (.bool true)) := HKi.out.far _ (by dsimp only; omega)
            have HX2 : ∀ q, q < M → (wi.setCell ⟨g, cc, none⟩ (.bool true)).cell? ⟨b, o + q, none⟩ = some (.int .i64 ((C (D y + q) : Nat) : Int)) := fun q hq => cell_set (by dsimp only; exact fun e => hbg e.symm) (HXi.out q hq)
            have HW2 : Below w.heap.size w (wi.setCell ⟨g, cc, none⟩ (.bool true)) := HWi.out.setCell (by dsimp only; omega) _
            have CO : Hid (Calls Try.prog 16 #[.int .u64 (s : Int), .int .i64 (W' : Int), .int .i64 (n' : Int), .int .i64 (cc : Int)] (wi.setCell ⟨g, cc, none⟩ (.bool true)) fun e w' => e = .returned (.tuple #[.int .i64 (y : Int), .int .i64 0]) ∧ Below (wi.setCell ⟨g, cc, none⟩ (.bool true)).heap.size (wi.setCell ⟨g, cc, none⟩ (.bool true)) w') := HOr.out cc y _ h1 hpq.1 hpq.2 HW2
            have H2 : Hid (Rw g n' (fun i => .bool (decide (G i < D y + (j + 1)))) (wi.setCell ⟨g, cc, none⟩ (.bool true)) ∧ (∀ q, q < M → (wi.setCell ⟨g, cc, none⟩ (.bool true)).cell? ⟨b, o + q, none⟩ = some (.int .i64 ((C (D y + q) : Nat) : Int))) ∧ Below w.heap.size w (wi.setCell ⟨g, cc, none⟩ (.bool true))) := ⟨HR2, HX2, HW2⟩
            have i0 : ¬ (cc : Int) < 0 := by omega
            have i1 : ¬ (n' : Int) ≤ (cc : Int) := by omega
            have i2 : (cc : Int) < (n' : Int) := by omega
            have kk3 := HKi.out.c3
            have eyy : (((y : Nat) : Int) != (y : Int)) = false := by simp
            clear h2 h3 hpq HR2 HX2 HW2 hcc HRi HXi HWi HKi
            have HK2' : Hid (K4 w.heap.size (.int .u64 (s : Int)) (.int .i64 (W' : Int)) (.int .i64 x) (.int .i64 (n' : Int)) (wi.setCell ⟨g, cc, none⟩ (.bool true))) := HK2
            have d0 := HK2.c0
            have d1 := HK2.c1
            have d3 := HK2.c3
            clear HK2
            go_wp2_with fail
            refine CO.out.mono ?_
            rintro e w7 ⟨rfl, hb⟩
            have HR7 : Hid (Rw g n' (fun i => .bool (decide (G i < D y + (j + 1)))) w7) := H2.out.1.later hb
            have HX7 : Hid (∀ q, q < M → w7.cell? ⟨b, o + q, none⟩ = some (.int .i64 ((C (D y + q) : Nat) : Int))) := fun q hq => cell_later hb (H2.out.2.1 q hq)
            have HW7 : Hid (Below w.heap.size w w7) := bchain H2.out.2.2 hb
            have HK7 : Hid (K4 w.heap.size (.int .u64 (s : Int)) (.int .i64 (W' : Int)) (.int .i64 x) (.int .i64 (n' : Int)) w7) := HK2'.out.later hb
            clear hb H2 HK2' CO cS fS cx kk3 d0 d1 d3
            go_wp2
            go_roundw
            case rel => exact ⟨j + 1, by omega, by go_num, HR7, HX7, HK7, HW7⟩
            case measure => simp [intOf]; omega
          · obtain rfl : j = M := by omega
            have hjI : ¬ (j : Int) < (j : Int) := by omega
            have HRn : Hid (Rw g n' (fun i => .bool (decide (G i < D (y + 1)))) wi) := by have h := HRi.out; rw [HDM.out.1] at h; exact h
            clear HRi HXi
            go_wp2
            go_roundw
            case rel => exact ⟨y + 1, L2, Mx2, by omega, by go_num, rfl, rfl, hL52, hM52, HL2, HRn, HKi, HWi⟩
            case measure => simp [intOf]; omega
      · obtain rfl : y = W' := by omega
        have hyI : ¬ (y : Int) < (y : Int) := by omega
        have HRn : Hid (∀ i, i < n' → wo.cell? ⟨g, i, none⟩ = some (.bool true)) := fun i hi => by have h := HR.out.c i hi; rw [Hz.out.2] at h; have := HG1.out i hi; simpa [this] using h
        clear HR HK
        have HLf : Hid (1 ≤ L ∧ Mx ≤ L + 1) := by
          rcases HL.out with ⟨a1, a2, a3⟩ | ⟨a1, a2, a3, a4, a5⟩
          · show _ ∧ _; omega
          · show _ ∧ _; omega
        clear HL
        go_upto_region 26 with fail
        go_loopw [104] (fun si wr => ∃ j : Nat, j ≤ n' ∧ si = .int .i64 (j : Int) ∧ wr = wo) (fun si _ => n' - (intOf si).toNat)
        case atStart => exact ⟨0, by omega, rfl, rfl⟩
        case round =>
          obtain ⟨j, hj, rfl, rfl⟩ := hrel
          by_cases hjn : j < n'
          · have hjI : (j : Int) < (n' : Int) := by omega
            have cx := HRn.out j hjn
            go_wp2
            go_roundw
            case rel => exact ⟨j + 1, by omega, by go_num, trivial⟩
            case measure => simp [intOf]; omega
          · have hjI : ¬ (j : Int) < (n' : Int) := by omega
            obtain ⟨l1, l2⟩ := HLf.out
            have l1I : (1 : Int) ≤ (L : Int) := by omega
            have l2I : (Mx : Int) - (L : Int) ≤ 1 := by omega
            go_wp2
            go_ret
            exact ⟨by first | rfl | (simp; omega) | simp, HW.out⟩
  · have HRt : Hid (∀ U : World, Calls Try.prog 10 #[.int .i64 W, .int .i64 n] U fun e w' => e = .returned (.bool false) ∧ w' = U) := fun U => right_no W n hR U
    clear hR V V2 V3 hV
    go_wp2_with fail
    refine (HRt.out _).mono ?_
    rintro e w3 ⟨rfl, hz⟩
    subst hz
    go_wp2
    go_ret
    exact ⟨rfl, B2.out⟩
end Go.Proofs.Ytaifihfiompgaaa
