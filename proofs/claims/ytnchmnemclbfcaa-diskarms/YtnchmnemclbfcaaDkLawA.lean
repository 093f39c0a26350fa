/-
  The laws of layer 15: awake, DiskArms.
-/
import Derived.Test.YtnchmnemclbfcaaDkDefs
import Derived.Lib.SlBytesConst
set_option linter.unusedVariables false
set_option linter.unusedSimpArgs false
namespace Go.Proofs.Ytnchmnemclbfcaa
open Go.RowKit

structure Aw15 (s1 s2 s3 s4 : Dsk) : Prop where
  e1 : wrS (dNew 2) 0 [97, 98] = s1
  f1 : wrE (dNew 2) 0 [97, 98] = 0
  e2 : flS s1 = s2
  f2 : flE s1 = 0
  e3 : wrS s2 0 [120, 121, 122] = s3
  f3 : wrE s2 0 [120, 121, 122] = 0
  e4 : crS s3 [(2, 1)] = s4
  f4 : dAsk s4 0 = 0
  g4 : rdB s4 0 = full [120, 98]
  l1 : s1.un.length = 1
  l2 : s2.un.length = 0
  l3 : s3.un.length = 1
theorem aw15 : ∃ s1 s2 s3 s4, Aw15 s1 s2 s3 s4 := ⟨_, _, _, _, rfl, by decide +kernel, rfl, by decide +kernel, rfl, by decide +kernel, rfl, by decide +kernel, by decide +kernel, by decide +kernel, by decide +kernel, by decide +kernel⟩
theorem bs_two15 (w : World) (x y : Nat) (t : TypeId) (fr : Nat × Nat) : Bs (w.alloc (.cells #[.int .u8 (x : Int), .int .u8 (y : Int)] t fr)) (.slice (some ⟨w.heap.size, 0, none⟩) 2 2) [x, y] :=
  ⟨_, 2, w.heap.size, 0, rfl, Nat.le_refl _, ⟨by unfold maxLen; omega, fun e => by cases e⟩, fun _ => rfl, fun k hk => by
    have hk0 : k < 2 := hk
    have : k = 0 ∨ k = 1 := by omega
    rw [Nat.zero_add, World.cell?_alloc_mark]
    rcases this with rfl | rfl <;> rfl⟩
theorem bs_three15 (w : World) (x y z : Nat) (t : TypeId) (fr : Nat × Nat) : Bs (w.alloc (.cells #[.int .u8 (x : Int), .int .u8 (y : Int), .int .u8 (z : Int)] t fr)) (.slice (some ⟨w.heap.size, 0, none⟩) 3 3) [x, y, z] :=
  ⟨_, 3, w.heap.size, 0, rfl, Nat.le_refl _, ⟨by unfold maxLen; omega, fun e => by cases e⟩, fun _ => rfl, fun k hk => by
    have hk0 : k < 3 := hk
    have : k = 0 ∨ k = 1 ∨ k = 2 := by omega
    rw [Nat.zero_add, World.cell?_alloc_mark]
    rcases this with rfl | rfl | rfl <;> rfl⟩
theorem bs_one15 (w : World) (x : Nat) (t : TypeId) : Bs (w.alloc (.cells #[.int .u8 (x : Int)] t)) (.slice (some ⟨w.heap.size, 0, none⟩) 1 1) [x] :=
  ⟨_, 1, w.heap.size, 0, rfl, Nat.le_refl _, ⟨by unfold maxLen; omega, fun e => by cases e⟩, fun _ => rfl, fun k hk => by
    have hk0 : k < 1 := hk
    obtain rfl : k = 0 := by omega
    simp [go_sem, b8f]⟩
theorem fts_one15 (w : World) (x y : Int) (t : TypeId) : Fts (w.alloc (.cells #[.int .i64 x, .int .i64 y] t)) (.slice (some ⟨w.heap.size, 0, none⟩) 1 1) [(x, y)] :=
  ⟨_, 1, w.heap.size, 0, rfl, Nat.le_refl _, by unfold maxLen; omega, fun _ => rfl, fun k hk => by
    have hk0 : k < 1 := hk
    obtain rfl : k = 0 := by omega
    simp [go_sem]⟩
theorem ow_at {B g n c : Nat} (h : B ≤ g) : Ow B (.slice (some ⟨g, 0, none⟩) n c) := fun a n' c' e hn => by cases e; exact h
set_option maxRecDepth 100000 in
set_option maxHeartbeats 8000000 in
theorem awake15 (V : Disk1) (w : World) :
    Calls Try.prog 8 #[] w fun e w' => e = .returned (.bool true) ∧ Below w.heap.size w w' := by
  obtain ⟨s1, s2, s3, s4, hS⟩ := aw15
  have HS : Hid (Aw15 s1 s2 s3 s4) := hS
  clear hS
  have kc := fun (w : World) (C : Array Value) (n c : Nat) => Lib.run_convert_bytes_const (P := Try.prog) w 32 5 C n c Try.underlying32 Try.underlying5
  go_enter Try.func8, Try.ntmps8
  go_wp2_with fail
  refine (dwNew V w w 2 (by omega) (by omega) (Below.refl _ _)).mono ?_
  rintro e w1 ⟨p, rfl, hD1⟩
  have HD1 : Hid (Dw V w w1 p (dNew 2)) := hD1
  clear hD1
  go_wp2_with fail
  refine (dwWrite (HD1.out.young (bel1 _ _) (ow_at (Nat.le_refl _))) 0 (bs_two15 w1 97 98 _ _) (by decide) (by decide) (by decide)).mono ?_
  rintro e w2 ⟨rfl, hD2⟩
  rw [HS.out.f1]
  rw [HS.out.e1] at hD2
  have HD2 : Hid (Dw V w w2 p s1) := hD2
  clear hD2 HD1
  go_wp2_with fail
  refine (dwFlush HD2.out (by have := HS.out.l1; omega)).mono ?_
  rintro e w3 ⟨rfl, hD3⟩
  rw [HS.out.f2]
  rw [HS.out.e2] at hD3
  have HD3 : Hid (Dw V w w3 p s2) := hD3
  clear hD3 HD2
  go_wp2_with fail
  refine (dwWrite (HD3.out.young (bel1 _ _) (ow_at (Nat.le_refl _))) 0 (bs_three15 w3 120 121 122 _ _) (by decide) (by decide) (by have := HS.out.l2; omega)).mono ?_
  rintro e w4 ⟨rfl, hD4⟩
  rw [HS.out.f3]
  rw [HS.out.e3] at hD4
  have HD4 : Hid (Dw V w w4 p s3) := hD4
  clear hD4 HD3
  go_wp2_with fail
  refine (dwCrash (HD4.out.young (bel1 _ _) (ow_at (Nat.le_refl _))) (fts_one15 w4 2 1 _) (by decide) (by have := HS.out.l3; omega)).mono ?_
  rintro e w5 ⟨rfl, hD5⟩
  rw [HS.out.e4] at hD5
  have HD5 : Hid (Dw V w w5 p s4) := hD5
  clear hD5 HD4
  go_wp2_with fail
  refine (dwRead HD5.out 0).mono ?_
  rintro e w6 ⟨v6, rfl, hL6, -, hb6⟩
  rw [HS.out.f4]
  rw [HS.out.g4] at hL6
  have HB6 : Hid (Below w.heap.size w w6 ∧ Bs w6 v6 (full [120, 98])) := ⟨bchain HD5.out.bel hb6, hL6⟩
  obtain ⟨a6, c6, rfl, -, -⟩ := hL6.len
  generalize (full [120, 98]).length = n6 at *
  clear hL6 hb6 HD5
  go_wp2_with fail
  refine (refFull _ [120, 98] (by decide) _ (bs_two15 w6 120 98 _ _)).mono ?_
  rintro e w7 ⟨v7, rfl, hL7, -, hb7⟩
  have hb7' := bchain (bel1 w6 _) hb7
  have HB7 : Hid (Below w.heap.size w w7 ∧ Bs w7 (.slice a6 n6 c6) (full [120, 98]) ∧ Bs w7 v7 (full [120, 98])) := ⟨bchain HB6.out.1 hb7', HB6.out.2.later hb7', hL7⟩
  obtain ⟨a7, c7, rfl, -, -⟩ := hL7.len
  clear hL7 hb7 hb7' HB6
  go_wp2_with fail
  refine (sameB _ _ _ _ _ HB7.out.2.1 HB7.out.2.2).mono ?_
  rintro e w8 ⟨rfl, hb8⟩
  have HB8 : Hid (Below w.heap.size w w8) := bchain HB7.out.1 hb8
  rw [decide_eq_true rfl]
  clear hb8 HB7
  go_wp2
  go_ret
  exact ⟨rfl, HB8.out⟩
theorem wrS_un (s : Dsk) (i : Int) (b : List Nat) : (wrS s i b).un.length ≤ s.un.length + 1 := by
  unfold wrS
  split
  · omega
  · rw [(dGone_bl _).2]
    simp
theorem flS_un (s : Dsk) : (flS s).un.length ≤ s.un.length := by
  unfold flS
  split
  · omega
  · split
    · exact Nat.zero_le _
    · rw [(dGone_bl _).2]; omega
theorem arm_new (n : Nat) : Arm n 0 (arS (dNew 4) (n : Int)) := ⟨rfl, by simp [arS], by simp [arS, dNew], fun _ => by simp [arS]⟩
theorem flE_cr (s : Dsk) (fs : List (Int × Int)) : flE (crS s fs) = 0 := rfl
set_option maxRecDepth 100000 in
set_option maxHeartbeats 8000000 in
theorem diskArms_any (V : Disk1) (n : Int) (hn : Bd64 n) (v : Value) (cs : List Int) (hok : ∀ c ∈ cs, okI c) (w : World) (h : Is w v cs) :
    Calls Try.prog 7 #[.int .i64 n, v] w fun e w' => e = .returned (.bool true) ∧ Below w.heap.size w w' := by
  have HL : Hid (Is w v cs) := h
  have HOk : Hid (∀ c ∈ cs, okI c) := hok
  have HBn : Hid (Bd64 n) := hn
  clear hn
  obtain ⟨ad, cap, rfl, k1, k2⟩ := h.len
  unfold maxLen at k2
  obtain ⟨m, hm⟩ : ∃ m, cs.length = m := ⟨_, rfl⟩
  have HM : Hid (cs.length = m) := hm
  rw [hm] at k1 HL ⊢
  clear h hm hok
  go_enter Try.func7, Try.ntmps7
  go_wp2_with fail
  refine (awake15 V w).mono ?_
  rintro e w1 ⟨rfl, hb1⟩
  have HB1 : Hid (Below w.heap.size w w1) := hb1
  clear hb1
  by_cases q1 : n < 0
  · go_wp2
    go_ret
    exact ⟨rfl, HB1.out⟩
  by_cases q2 : 60 < m
  · have q2I : (60 : Int) < (m : Int) := by omega
    go_wp2
    go_ret
    exact ⟨rfl, HB1.out⟩
  have q2I : ¬ (60 : Int) < (m : Int) := by omega
  obtain ⟨N, rfl⟩ : ∃ N : Nat, n = (N : Int) := ⟨n.toNat, by omega⟩
  have HQ : Hid (m ≤ 60) := by show _ ≤ _; omega
  clear q1 q2
  go_wp2_with fail
  refine (dwNew V w w1 4 (by omega) (by omega) HB1.out).mono ?_
  rintro e w2 ⟨p, rfl, hD2⟩
  have HD2 : Hid (Dw V w w2 p (dNew 4)) := hD2
  clear hD2 HB1
  go_wp2_with fail
  refine (dwArm HD2.out (N : Int) HBn.out).mono ?_
  rintro e w3 ⟨rfl, hD3⟩
  have HA3 : Hid (Arm N 0 (arS (dNew 4) (N : Int)) ∧ (arS (dNew 4) (N : Int)).un.length ≤ 0) := ⟨arm_new N, Nat.le_refl _⟩
  generalize arS (dNew 4) (N : Int) = s3 at *
  have HD3 : Hid (Dw V w w3 p s3) := hD3
  clear hD3 HD2
  go_upto_region 10 with fail
  go_loopw [30] (fun s30 wr => ∃ (j : Nat) (s : Dsk), j ≤ m ∧ s30 = .int .i64 (j : Int) ∧ Hid (Dw V w wr p s) ∧ Hid (Arm N j s ∧ s.un.length ≤ j)) (fun s30 _ => m - (intOf s30).toNat)
  case atStart => exact ⟨0, s3, by omega, rfl, HD3, HA3⟩
  case round =>
    obtain ⟨j, s, hj, rfl, HD, HA⟩ := hrel
    by_cases hlt : j < m
    · have hjI : (j : Int) < (m : Int) := by omega
      have hM := HM.out
      obtain ⟨b, o, rfl, ca⟩ := HL.out.cel j (by omega)
      have cA := cell_later HD.out.bel ca
      have hok : okI (cs.getD j 0) := by
        have e : cs.getD j 0 = cs[j]'(by omega) := by simp [List.getD, show j < cs.length by omega]
        rw [e]
        exact HOk.out _ (List.getElem_mem _)
      clear ca hM
      generalize cs.getD j 0 = x at *
      have hw : IntKind.i64.wrap (x.tmod 2) = x.tmod 2 := by
        have h1 : (x.tmod 2).natAbs = x.natAbs % 2 := by simp [Int.natAbs_tmod]
        generalize x.tmod 2 = y at *
        rw [IntKind.wrap_i64]; omega
      clear hok
      by_cases hy : x.tmod 2 = 0
      · have hyT : (x.tmod 2 == 0) = true := by rw [hy]; rfl
        clear hy
        go_wp2_with fail
        refine (dwWrite (HD.out.young (bel1 _ _) (ow_at (Nat.le_refl _))) 0 (bs_one15 wr 1 _) (by decide) (by decide) (by have := HA.out.2; have := HQ.out; omega)).mono ?_
        rintro e w5 ⟨rfl, hD5⟩
        obtain ⟨a1, a2⟩ := arm_wr HA.out.1 [1] (by decide)
        have a3 := wrS_un s 0 [1]
        rw [a2]
        generalize wrS s 0 [1] = s5 at *
        have HD5 : Hid (Dw V w w5 p s5) := hD5
        have HA5 : Hid (Arm N (j + 1) s5 ∧ s5.un.length ≤ j + 1) := ⟨a1, by have := HA.out.2; omega⟩
        clear hD5 a1 a2 a3 HA HD
        by_cases hN : j < N
        · have hNI : (j : Int) < (N : Int) := by omega
          have hNJ : ¬ (N : Int) ≤ (j : Int) := by omega
          have hdn : s5.dn = false := by rw [HA5.out.1.dn]; simp; omega
          rw [if_pos hN]
          go_wp2_with fail
          refine (dwDown HD5.out).mono ?_
          rintro e w6 ⟨rfl, hD6⟩
          rw [hdn]
          have HD6 : Hid (Dw V w w6 p s5) := hD6
          clear hD6 hdn HD5
          go_wp2
          go_roundw
          case rel => exact ⟨j + 1, s5, by omega, by go_num, HD6, HA5⟩
          case measure => simp [intOf]; omega
        · have hNI : ¬ (j : Int) < (N : Int) := by omega
          have hNJ : (N : Int) ≤ (j : Int) := by omega
          have hdn : s5.dn = true := by rw [HA5.out.1.dn]; simp; omega
          rw [if_neg hN]
          go_wp2_with fail
          refine (dwDown HD5.out).mono ?_
          rintro e w6 ⟨rfl, hD6⟩
          rw [hdn]
          have HD6 : Hid (Dw V w w6 p s5) := hD6
          clear hD6 hdn HD5
          go_wp2
          go_roundw
          case rel => exact ⟨j + 1, s5, by omega, by go_num, HD6, HA5⟩
          case measure => simp [intOf]; omega
      · have hyT : (x.tmod 2 == 0) = false := by simpa using hy
        go_wp2_with fail
        refine (dwFlush HD.out (by have := HA.out.2; have := HQ.out; omega)).mono ?_
        rintro e w5 ⟨rfl, hD5⟩
        obtain ⟨a1, a2⟩ := arm_fl HA.out.1
        have a3 := flS_un s
        rw [a2]
        generalize flS s = s5 at *
        have HD5 : Hid (Dw V w w5 p s5) := hD5
        have HA5 : Hid (Arm N (j + 1) s5 ∧ s5.un.length ≤ j + 1) := ⟨a1, by have := HA.out.2; omega⟩
        clear hD5 a1 a2 a3 HA HD
        by_cases hN : j < N
        · have hNI : (j : Int) < (N : Int) := by omega
          have hNJ : ¬ (N : Int) ≤ (j : Int) := by omega
          have hdn : s5.dn = false := by rw [HA5.out.1.dn]; simp; omega
          rw [if_pos hN]
          go_wp2_with fail
          refine (dwDown HD5.out).mono ?_
          rintro e w6 ⟨rfl, hD6⟩
          rw [hdn]
          have HD6 : Hid (Dw V w w6 p s5) := hD6
          clear hD6 hdn HD5
          go_wp2
          go_roundw
          case rel => exact ⟨j + 1, s5, by omega, by go_num, HD6, HA5⟩
          case measure => simp [intOf]; omega
        · have hNI : ¬ (j : Int) < (N : Int) := by omega
          have hNJ : (N : Int) ≤ (j : Int) := by omega
          have hdn : s5.dn = true := by rw [HA5.out.1.dn]; simp; omega
          rw [if_neg hN]
          go_wp2_with fail
          refine (dwDown HD5.out).mono ?_
          rintro e w6 ⟨rfl, hD6⟩
          rw [hdn]
          have HD6 : Hid (Dw V w w6 p s5) := hD6
          clear hD6 hdn HD5
          go_wp2
          go_roundw
          case rel => exact ⟨j + 1, s5, by omega, by go_num, HD6, HA5⟩
          case measure => simp [intOf]; omega
    · obtain rfl : j = m := by omega
      have hjI : ¬ (j : Int) < (j : Int) := by omega
      go_wp2_with fail
      refine (dwCrash (HD.out.old (v := .slice none 0 0) (fun a n c e hn => by cases e)) (fts_nil wr) (by decide) (by have := HA.out.2; have := HQ.out; omega)).mono ?_
      rintro e w5 ⟨rfl, hD5⟩
      have HF : Hid (flE (crS s []) = 0 ∧ (crS s []).dn = false ∧ (crS s []).un.length = 0) := ⟨rfl, rfl, rfl⟩
      generalize crS s [] = s5 at *
      have HD5 : Hid (Dw V w w5 p s5) := hD5
      clear hD5 HD HA
      go_wp2_with fail
      refine (dwDown HD5.out).mono ?_
      rintro e w6 ⟨rfl, hD6⟩
      rw [HF.out.2.1]
      have HD6 : Hid (Dw V w w6 p s5) := hD6
      clear hD6 HD5
      go_wp2_with fail
      refine (dwFlush HD6.out (by have := HF.out.2.2; omega)).mono ?_
      rintro e w7 ⟨rfl, hD7⟩
      rw [HF.out.1]
      have HB7 : Hid (Below w.heap.size w w7) := hD7.bel
      clear hD7 HD6
      go_wp2
      go_ret
      exact ⟨rfl, HB7.out⟩
end Go.Proofs.Ytnchmnemclbfcaa
