/-
  The laws of layer 15: DiskFlushed.
-/
import Derived.Test.YtnchmnemclbfcaaDkLawA
import Derived.Test.YtnchmnemclbfcaaDkOps
set_option linter.unusedVariables false
set_option linter.unusedSimpArgs false
namespace Go.Proofs.Ytnchmnemclbfcaa
open Go.RowKit

theorem dAsk_new {n : Nat} {i : Nat} (h : i < n) : dAsk (dNew n) (i : Int) = 0 := by
  have e : (dNew n).bl.length = n := List.length_replicate
  unfold dAsk
  rw [e, if_neg (by simp [dNew]), if_neg (by omega)]
theorem wr_new {n i : Nat} (h : i < n) {b : List Nat} (hb : b.length ≤ 128) : wrS (dNew n) (i : Int) b = ⟨(dNew n).bl, [(i, full b)], false, 0, false⟩ ∧ wrE (dNew n) (i : Int) b = 0 := by
  have ha := dAsk_new h
  constructor
  · unfold wrS
    rw [ha, if_neg (by omega)]
    rfl
  · unfold wrE
    rw [ha, if_neg (by omega), if_neg (by omega)]
    rfl
theorem fls_start {n i : Nat} (h : i < n) (b : List Nat) : flE ⟨(dNew n).bl, [(i, full b)], false, 0, false⟩ = 0 ∧ Fls i (full b) (flS ⟨(dNew n).bl, [(i, full b)], false, 0, false⟩) ∧ (flS ⟨(dNew n).bl, [(i, full b)], false, 0, false⟩).un.length = 0 := by
  have e : (dNew n).bl.length = n := List.length_replicate
  refine ⟨rfl, ⟨?_, ?_, fun u hu => by cases hu⟩, rfl⟩
  · show i < (lay _ _).length
    rw [lay_len, e]
    exact h
  · show (lay [(i, full b)] (dNew n).bl).getD i [] = full b
    rw [lay_last _ _ _ (by rw [e]; exact h)]
    simp [lastU]
set_option maxRecDepth 100000 in
set_option maxHeartbeats 8000000 in
theorem diskFlushed_any (V : Disk1) (i : Int) (v : Value) (l : List Nat) (hb : ∀ c ∈ l, c < 256) (vo : Value) (os : List Opv) (hbo : (∀ j, j < os.length → ∀ c ∈ (os.getD j op0).b, c < 256) ∧ ∀ j, j < os.length → Bd64 (os.getD j op0).i) (w : World) (h : Bs w v l) (ho : Ops w vo os) :
    Calls Try.prog 5 #[.int .i64 i, v, vo] w fun e w' => e = .returned (.bool true) ∧ Below w.heap.size w w' := by
  have HL : Hid (Bs w v l ∧ Ops w vo os) := ⟨h, ho⟩
  have HY : Hid ((∀ c ∈ l, c < 256) ∧ ∀ j, j < os.length → ∀ c ∈ (os.getD j op0).b, c < 256) := ⟨hb, hbo.1⟩
  have HYi : Hid (∀ j, j < os.length → Bd64 (os.getD j op0).i) := hbo.2
  obtain ⟨ad, cap, rfl, k1, k2⟩ := h.len
  obtain ⟨ao, cpo, rfl, k3, k4⟩ := ho.len
  unfold maxLen at k2 k4
  obtain ⟨n, hn⟩ : ∃ n, l.length = n := ⟨_, rfl⟩
  obtain ⟨m, hm⟩ : ∃ m, os.length = m := ⟨_, rfl⟩
  have HN : Hid (l.length = n ∧ os.length = m) := ⟨hn, hm⟩
  rw [hn] at k1
  rw [hm] at k3
  rw [hn, hm] at HL ⊢
  clear h ho hn hm hb hbo
  go_enter Try.func5, Try.ntmps5
  go_wp2_with fail
  refine (awake15 V w).mono ?_
  rintro e w1 ⟨rfl, hb1⟩
  have HB1 : Hid (Below w.heap.size w w1) := hb1
  clear hb1
  go_wp2_with fail
  refine (few15 _ os w1 (HL.out.2.later HB1.out)).mono ?_
  rintro e w2 ⟨B, rfl, hF, hb2⟩
  have HB2 : Hid (Below w.heap.size w w2) := bchain HB1.out hb2
  clear hb2 HB1
  cases B with
  | false =>
    go_wp2
    go_ret
    exact ⟨rfl, HB2.out⟩
  | true =>
  have HF : Hid (Few os) := hF rfl
  clear hF
  by_cases q1 : i < 0
  · go_wp2
    go_ret
    exact ⟨rfl, HB2.out⟩
  by_cases q2 : 15 < i
  · go_wp2
    go_ret
    exact ⟨rfl, HB2.out⟩
  by_cases q3 : 128 < n
  · have q3I : (128 : Int) < (n : Int) := by omega
    go_wp2
    go_ret
    exact ⟨rfl, HB2.out⟩
  have q3I : ¬ (128 : Int) < (n : Int) := by omega
  obtain ⟨I, rfl⟩ : ∃ I : Nat, i = (I : Int) := ⟨i.toNat, by omega⟩
  have HI : Hid (I < 16 ∧ n ≤ 128) := ⟨by omega, by omega⟩
  have HM : Hid (m ≤ 80) := by show _ ≤ _; have := HF.out.1; have := HN.out.2; omega
  go_wp2_with fail
  refine (dwNew V w w2 16 (by omega) (by omega) HB2.out).mono ?_
  rintro e w3 ⟨p, rfl, hD3⟩
  have HD3 : Hid (Dw V w w3 p (dNew 16)) := hD3
  clear hD3 HB2
  go_wp2_with fail
  refine (dwWrite (HD3.out.old (Ls.lo HL.out.1)) (I : Int) (HL.out.1.later HD3.out.bel) HY.out.1 (by have := HN.out; have := HI.out; omega) (Nat.zero_le _)).mono ?_
  rintro e w4 ⟨rfl, hD4⟩
  obtain ⟨e4, f4⟩ := wr_new (n := 16) HI.out.1 (b := l) (by have := HN.out; have := HI.out; omega)
  rw [f4]
  rw [e4] at hD4
  obtain ⟨f5, g5, l5⟩ := fls_start (n := 16) HI.out.1 l
  have HD4 : Hid (Dw V w w4 p ⟨(dNew 16).bl, [(I, full l)], false, 0, false⟩) := hD4
  have HG5 : Hid (flE ⟨(dNew 16).bl, [(I, full l)], false, 0, false⟩ = 0 ∧ Fls I (full l) (flS ⟨(dNew 16).bl, [(I, full l)], false, 0, false⟩) ∧ (flS ⟨(dNew 16).bl, [(I, full l)], false, 0, false⟩).un.length = 0) := ⟨f5, g5, l5⟩
  clear hD4 HD3 e4 f4 f5 g5 l5
  go_wp2_with fail
  refine (dwFlush HD4.out (show 1 ≤ 1000 by omega)).mono ?_
  rintro e w5 ⟨rfl, hD5⟩
  rw [HG5.out.1]
  generalize flS ⟨(dNew 16).bl, [(I, full l)], false, 0, false⟩ = s5 at *
  have HD5 : Hid (Dw V w w5 p s5) := hD5
  have HS5 : Hid (Fls I (full l) s5 ∧ s5.un.length ≤ 0) := ⟨HG5.out.2.1, by have := HG5.out.2.2; omega⟩
  clear hD5 HD4 HG5
  go_upto_region 9 with fail
  go_loopw [51] (fun s51 wr => ∃ (j : Nat) (s : Dsk), j ≤ m ∧ s51 = .int .i64 (j : Int) ∧ Hid (Dw V w wr p s) ∧ Hid (Fls I (full l) s ∧ s.un.length ≤ j)) (fun s51 _ => m - (intOf s51).toNat)
  case atStart => exact ⟨0, s5, by omega, rfl, HD5, HS5⟩
  case round =>
    obtain ⟨j, s, hj, rfl, HD, HA⟩ := hrel
    by_cases hlt : j < m
    · have hjI : (j : Int) < (m : Int) := by omega
      have hM := HN.out.2
      obtain ⟨b, o, vb, vf, rfl, c0, c1, c2, c3, hB, hF⟩ := HL.out.2.cel j (by omega)
      have HV : Hid (Lo w.heap.size vb ∧ Lo w.heap.size vf ∧ Bs w vb (os.getD j op0).b ∧ Fts w vf (os.getD j op0).fs ∧ (os.getD j op0).b.length ≤ 300 ∧ (os.getD j op0).fs.length ≤ 100 ∧ ∀ c ∈ (os.getD j op0).b, c < 256) := ⟨Ls.lo hB, hF.lo, hB, hF, (HF.out.2 j (by omega)).1, (HF.out.2 j (by omega)).2, HY.out.2 j (by omega)⟩
      obtain ⟨a1, p1, rfl, -, -⟩ := hB.len
      obtain ⟨a2, p2, rfl, -, -⟩ := hF.len
      have x0 := cell_later HD.out.bel c0
      have x1 := cell_later HD.out.bel c1
      have x2 := cell_later HD.out.bel c2
      have x3 := cell_later HD.out.bel c3
      have HBi : Hid (Bd64 (os.getD j op0).i) := HYi.out j (by omega)
      clear c0 c1 c2 c3 hB hF hM
      generalize (os.getD j op0).k = kk at *
      generalize (os.getD j op0).i = ii at *
      generalize (os.getD j op0).b = bb at *
      generalize (os.getD j op0).fs = ff at *
      have HDa : Hid (∀ ob : Obj, Dw V w (wr.alloc ob) p s) := fun ob => HD.out.later (bel1 _ _)
      have HAl : Hid (s.un.length ≤ 1000) := by show _ ≤ _; have := HA.out.2; have := HM.out; omega
      clear HD
      by_cases z1 : kk = 1 ∧ ii ≠ (I : Int)
      · obtain ⟨rfl, z2⟩ := z1
        have z3 : (ii != (I : Int)) = true := by simpa using z2
        have HA2 : Hid (Fls I (full l) (wrS s ii bb) ∧ (wrS s ii bb).un.length ≤ j + 1) := ⟨fls_wr HA.out.1 ii bb z2, by have := wrS_un s ii bb; have := HA.out.2; omega⟩
        go_wp2_with fail
        refine (dwWrite ((HDa.out _).old HV.out.1) ii (HV.out.2.2.1.later (HDa.out _).bel) HV.out.2.2.2.2.2.2 (by have := HV.out.2.2.2.2.1; omega) HAl.out).mono ?_
        rintro e w6 ⟨rfl, hD6⟩
        generalize wrS s ii bb = s6 at *
        generalize wrE s ii bb = e6 at *
        have HD6 : Hid (Dw V w w6 p s6) := hD6
        clear hD6 HDa x0 x1 x2 x3
        go_wp2
        go_roundw
        case rel => exact ⟨j + 1, s6, by omega, by go_num, HD6, HA2⟩
        case measure => simp [intOf]; omega
      by_cases y1 : kk = 1
      · obtain rfl : ii = (I : Int) := by
          by_cases q2 : ii = (I : Int)
          · exact q2
          · exact absurd ⟨y1, q2⟩ z1
        subst y1
        have z3 : ((I : Int) != (I : Int)) = false := by simp
        clear z1
        have HD6 : Hid (∀ ob : Obj, Dw V w (wr.alloc ob) p s) := HDa
        clear HDa
        go_wp2
        go_roundw
        case rel => exact ⟨j + 1, s, by omega, by go_num, HD6.out _, HA.out.1, by have := HA.out.2; omega⟩
        case measure => simp [intOf]; omega
      have y1B : (kk == 1) = false := by simpa using y1
      clear z1
      by_cases y3 : kk = 3
      · subst y3
        have HA2 : Hid (Fls I (full l) (flS s) ∧ (flS s).un.length ≤ j + 1) := ⟨fls_fl HA.out.1, by have := flS_un s; have := HA.out.2; omega⟩
        go_wp2_with fail
        refine (dwFlush (HDa.out _) HAl.out).mono ?_
        rintro e w6 ⟨rfl, hD6⟩
        generalize flS s = s6 at *
        generalize flE s = e6 at *
        have HD6 : Hid (Dw V w w6 p s6) := hD6
        clear hD6 HDa x0 x1 x2 x3
        go_wp2
        go_roundw
        case rel => exact ⟨j + 1, s6, by omega, by go_num, HD6, HA2⟩
        case measure => simp [intOf]; omega
      have y3B : (kk == 3) = false := by simpa using y3
      by_cases y4 : kk = 4
      · subst y4
        have HA2 : Hid (Fls I (full l) (arS s ii) ∧ (arS s ii).un.length ≤ j + 1) := ⟨fls_ar HA.out.1 ii, by show s.un.length ≤ _; have := HA.out.2; omega⟩
        go_wp2_with fail
        refine (dwArm (HDa.out _) ii HBi.out).mono ?_
        rintro e w6 ⟨rfl, hD6⟩
        generalize arS s ii = s6 at *
        have HD6 : Hid (Dw V w w6 p s6) := hD6
        clear hD6 HDa x0 x1 x2 x3
        go_wp2
        go_roundw
        case rel => exact ⟨j + 1, s6, by omega, by go_num, HD6, HA2⟩
        case measure => simp [intOf]; omega
      have y4B : (kk == 4) = false := by simpa using y4
      by_cases y5 : kk = 5
      · subst y5
        have HA2 : Hid (Fls I (full l) (crS s ff) ∧ (crS s ff).un.length ≤ j + 1) := ⟨fls_cr HA.out.1 ff, Nat.zero_le _⟩
        go_wp2_with fail
        refine (dwCrash ((HDa.out _).old HV.out.2.1) (HV.out.2.2.2.1.later (HDa.out _).bel) (by have := HV.out.2.2.2.2.2.1; omega) HAl.out).mono ?_
        rintro e w6 ⟨rfl, hD6⟩
        generalize crS s ff = s6 at *
        have HD6 : Hid (Dw V w w6 p s6) := hD6
        clear hD6 HDa x0 x1 x2 x3
        go_wp2
        go_roundw
        case rel => exact ⟨j + 1, s6, by omega, by go_num, HD6, HA2⟩
        case measure => simp [intOf]; omega
      have y5B : (kk == 5) = false := by simpa using y5
      have HD6 : Hid (∀ ob : Obj, Dw V w (wr.alloc ob) p s) := HDa
      clear HDa
      go_wp2
      go_roundw
      case rel => exact ⟨j + 1, s, by omega, by go_num, HD6.out _, HA.out.1, by have := HA.out.2; omega⟩
      case measure => simp [intOf]; omega
    · obtain rfl : j = m := by omega
      have hjI : ¬ (j : Int) < (j : Int) := by omega
      go_wp2_with fail
      refine (dwSafe HD.out I HA.out.1.lt).mono ?_
      rintro e w6 ⟨v6, rfl, hL6, -, hb6⟩
      rw [HA.out.1.is] at hL6
      have HB6 : Hid (Below w.heap.size w w6 ∧ Bs w6 v6 (full l)) := ⟨bchain HD.out.bel hb6, hL6⟩
      obtain ⟨a6, c6, rfl, -, -⟩ := hL6.len
      generalize (full l).length = n6 at *
      clear hL6 hb6 HD HA
      go_wp2_with fail
      refine (refFull _ l (by have := HN.out; have := HI.out; omega) _ (HL.out.1.later HB6.out.1)).mono ?_
      rintro e w7 ⟨v7, rfl, hL7, -, hb7⟩
      have HB7 : Hid (Below w.heap.size w w7 ∧ Bs w7 (.slice a6 n6 c6) (full l) ∧ Bs w7 v7 (full l)) := ⟨bchain HB6.out.1 hb7, HB6.out.2.later hb7, hL7⟩
      obtain ⟨a7, c7, rfl, -, -⟩ := hL7.len
      clear hL7 hb7 HB6
      go_wp2_with fail
      refine (sameB _ _ _ _ _ HB7.out.2.1 HB7.out.2.2).mono ?_
      rintro e w8 ⟨rfl, hb8⟩
      have HB8 : Hid (Below w.heap.size w w8) := bchain HB7.out.1 hb8
      rw [decide_eq_true rfl]
      clear hb8 HB7
      go_wp2
      go_ret
      exact ⟨rfl, HB8.out⟩
end Go.Proofs.Ytnchmnemclbfcaa
