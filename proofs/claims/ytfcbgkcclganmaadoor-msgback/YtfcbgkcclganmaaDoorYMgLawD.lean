/-
  The laws of layer 14: MsgBack.
-/
import Derived.Test.YtfcbgkcclganmaaDoorZ14
import Derived.Test.YtfcbgkcclganmaaDoorYFrLawB

set_option linter.unusedVariables false
set_option linter.unusedSimpArgs false
namespace Go.Proofs.YtfcbgkcclganmaaDoor
open Go.RowKit

set_option maxRecDepth 100000 in
set_option maxHeartbeats 8000000 in
theorem msgBack_any (V : Mg1) (m : Ms) (v : Value) (hb : ∀ c ∈ m.d, c < 256) (cut : Int) (hcut : cut ≤ 9223372036854775807) (vt : Value) (t : List Nat) (hbt : ∀ c ∈ t, c < 256) (w : World) (h : Bs w v m.d) (ht : Bs w vt t) (hT : FT w) :
    Calls Tryd.prog 5 #[msV m v, .int .i64 cut, vt] w fun e w' => e = .returned (.bool true) ∧ Below w.heap.size w w' := by
  obtain ⟨k, fr, inc, rd, hh, pt, ps, d⟩ := m
  dsimp only at h hb
  obtain ⟨M, hM⟩ : ∃ M : Ms, M = ⟨k, fr, inc, rd, hh, pt, ps, d⟩ := ⟨_, rfl⟩
  have HY : Hid ((∀ c ∈ M.d, c < 256) ∧ ∀ c ∈ t, c < 256) := ⟨by rw [hM]; exact hb, hbt⟩
  have HT : Hid (FT w) := hT
  have HMd : Hid (M.d = d) := by rw [hM]; rfl
  obtain ⟨wA, hwA⟩ : ∃ wA, wA = w.alloc (.cells #[.int .i64 k, .int .i64 fr, .int .i64 inc, .int .i64 rd, .int .i64 hh, .int .i64 pt, .int .i64 ps, v] 24) := ⟨_, rfl⟩
  have HA : Hid (B8 w.heap.size ⟨k, fr, inc, rd, hh, pt, ps, d⟩ v wA ∧ Below w.heap.size w wA ∧ Bs wA v M.d ∧ Bs wA vt t) := by
    rw [hwA, hM]
    exact ⟨B8.new w ⟨k, fr, inc, rd, hh, pt, ps, d⟩ _ _, bel1 _ _, h.later (bel1 _ _), ht.later (bel1 _ _)⟩
  obtain ⟨ad, cap, rfl, k1, k2⟩ := h.len
  obtain ⟨at', cpt, rfl, k3, k4⟩ := ht.len
  unfold maxLen at k2 k4
  obtain ⟨n, hn⟩ : ∃ n, d.length = n := ⟨_, rfl⟩
  obtain ⟨nt', hnt⟩ : ∃ nt', t.length = nt' := ⟨_, rfl⟩
  rw [hn] at k1 hwA
  rw [hnt] at k3
  rw [hn, hnt] at HA ⊢
  have HV : Hid (msV M (.slice ad n cap) = .agg #[.int .i64 k, .int .i64 fr, .int .i64 inc, .int .i64 rd, .int .i64 hh, .int .i64 pt, .int .i64 ps, .slice ad n cap]) := by rw [hM]; rfl
  have HN : Hid (M.d.length = n ∧ t.length = nt') := ⟨by rw [hM]; exact hn, hnt⟩
  show Calls Tryd.prog 5 #[.agg #[.int .i64 k, .int .i64 fr, .int .i64 inc, .int .i64 rd, .int .i64 hh, .int .i64 pt, .int .i64 ps, .slice ad n cap], .int .i64 cut, .slice at' nt' cpt] w _
  clear h ht hn hnt hb hbt hT hM
  have HRG : Hid (∀ W, Bs W (.slice ad n cap) M.d → FT W → Calls Tryd.prog 11 #[.agg #[.int .i64 k, .int .i64 fr, .int .i64 inc, .int .i64 rd, .int .i64 hh, .int .i64 pt, .int .i64 ps, .slice ad n cap]] W fun e w' => RgE M W e w') := fun W hW hF => by rw [← HV.out]; exact V.rgt W M _ hW hF
  have HPL : Hid (∀ W, Calls Tryd.prog 8 #[.agg #[.int .i64 k, .int .i64 fr, .int .i64 inc, .int .i64 rd, .int .i64 hh, .int .i64 pt, .int .i64 ps, .slice ad n cap]] W fun e w' => e = .returned (.agg #[.int .i64 k, .int .i64 fr, .int .i64 inc, .int .i64 rd, .int .i64 hh, .int .i64 pt, .int .i64 ps, .slice ad n cap]) ∧ Below W.heap.size W w') := fun W => by rw [← HV.out]; exact plain14 M ad n cap W
  go_enter Tryd.func5, Tryd.ntmps5
  go_wp2_with fail
  rw [← hwA]
  clear hwA
  refine (awake14 V wA (HT.out.later HA.out.2.1)).mono ?_
  rintro e w1 ⟨rfl, hb1⟩
  have HB1 : Hid (B8 w.heap.size ⟨k, fr, inc, rd, hh, pt, ps, d⟩ (.slice ad n cap) w1 ∧ Below w.heap.size w w1 ∧ Bs w1 (.slice ad n cap) M.d ∧ Bs w1 (.slice at' nt' cpt) t) := ⟨HA.out.1.later hb1, bchain HA.out.2.1 hb1, HA.out.2.2.1.later hb1, HA.out.2.2.2.later hb1⟩
  clear hb1 HA
  have x0 := HB1.out.1.c0
  have x1 := HB1.out.1.c1
  have x2 := HB1.out.1.c2
  have x3 := HB1.out.1.c3
  have x4 := HB1.out.1.c4
  have x5 := HB1.out.1.c5
  have x6 := HB1.out.1.c6
  have x7 := HB1.out.1.c7
  dsimp only at x0 x1 x2 x3 x4 x5 x6 x7
  by_cases q1 : 2000 < n
  · have q1I : (2000 : Int) < (n : Int) := by omega
    clear x0 x1 x2 x3 x4 x5 x6
    go_wp2
    go_ret
    exact ⟨rfl, HB1.out.2.1⟩
  have q1I : ¬ (2000 : Int) < (n : Int) := by omega
  go_wp2_with fail
  refine (HRG.out w1 HB1.out.2.2.1 (HT.out.later HB1.out.2.1)).mono ?_
  rintro e wr ⟨B, rfl, hBB, hbr⟩
  have HBr : Hid (B8 w.heap.size ⟨k, fr, inc, rd, hh, pt, ps, d⟩ (.slice ad n cap) wr ∧ Below w.heap.size w wr ∧ Bs wr (.slice ad n cap) M.d ∧ Bs wr (.slice at' nt' cpt) t) := ⟨HB1.out.1.later hbr, bchain HB1.out.2.1 hbr, HB1.out.2.2.1.later hbr, HB1.out.2.2.2.later hbr⟩
  clear hbr HB1 HRG x0 x1 x2 x3 x4 x5 x6 x7
  cases B with
  | false =>
    go_wp2
    go_ret
    exact ⟨rfl, HBr.out.2.1⟩
  | true =>
  have HR : Hid (Rgt M) := hBB.1 rfl
  clear hBB
  by_cases q2 : cut < 0
  · go_wp2
    go_ret
    exact ⟨rfl, HBr.out.2.1⟩
  by_cases q3 : nt' < 1
  · have q3I : (nt' : Int) < 1 := by omega
    go_wp2
    go_ret
    exact ⟨rfl, HBr.out.2.1⟩
  have q3I : ¬ (nt' : Int) < 1 := by omega
  by_cases q4 : 100 < nt'
  · have q4I : (100 : Int) < (nt' : Int) := by omega
    go_wp2
    go_ret
    exact ⟨rfl, HBr.out.2.1⟩
  have q4I : ¬ (100 : Int) < (nt' : Int) := by omega
  have HQ : Hid (n ≤ 2000 ∧ 1 ≤ nt' ∧ nt' ≤ 100) := ⟨by omega, by omega, by omega⟩
  have HEN : Hid (∀ W, Bs W (.slice ad n cap) M.d → FT W → Calls Tryd.prog 9 #[.agg #[.int .i64 k, .int .i64 fr, .int .i64 inc, .int .i64 rd, .int .i64 hh, .int .i64 pt, .int .i64 ps, .slice ad n cap]] W fun e w' => ∃ v', e = .returned (.tuple #[v', .int .i64 0]) ∧ Ob W.heap.size w' v' (fsl M.k.toNat (pay M)) ∧ Below W.heap.size W w') := fun W hW hF => by rw [← HV.out]; exact V.encY W M _ hW HY.out.1 HR.out hF
  have hpl := pay_len HR.out
  have hk1 := HR.out.k1
  have hk8 := HR.out.k8
  have HS : Hid ((fsl M.k.toNat (pay M)).length ≤ 50000 ∧ 12 ≤ (fsl M.k.toNat (pay M)).length ∧ ∀ c ∈ fsl M.k.toNat (pay M), c < 256) := ⟨by rw [seal_len]; omega, by rw [seal_len]; omega, seal_byte (by omega) (pay_byte HY.out.1) (by omega)⟩
  have HD1 : Hid (dcE (fsl M.k.toNat (pay M)) = 0 ∧ dcM (fsl M.k.toNat (pay M)) = M) := dc_seal HR.out HY.out.1
  have HD2 : Hid (∀ q : List Nat, q <+: fsl M.k.toNat (pay M) → q.length < (fsl M.k.toNat (pay M)).length → dcE q = 130) := fun q a b => dc_cut (by omega) (pay M) q (by omega) a b
  have HD3 : Hid (dcE (fsl M.k.toNat (pay M) ++ t) = 122) := dc_more (by omega) (pay M) t (by omega) (by have := HN.out; omega)
  clear hpl hk1 hk8 HR
  generalize fsl M.k.toNat (pay M) = S at *
  have x0 := HBr.out.1.c0
  have x1 := HBr.out.1.c1
  have x2 := HBr.out.1.c2
  have x3 := HBr.out.1.c3
  have x4 := HBr.out.1.c4
  have x5 := HBr.out.1.c5
  have x6 := HBr.out.1.c6
  have x7 := HBr.out.1.c7
  dsimp only at x0 x1 x2 x3 x4 x5 x6 x7
  go_wp2_with fail
  refine (HEN.out wr HBr.out.2.2.1 (HT.out.later HBr.out.2.1)).mono ?_
  rintro e w2 ⟨v2, rfl, hO2, hb2⟩
  have HB2 : Hid (B8 w.heap.size ⟨k, fr, inc, rd, hh, pt, ps, d⟩ (.slice ad n cap) w2 ∧ Below w.heap.size w w2 ∧ Bs w2 (.slice ad n cap) M.d ∧ Bs w2 (.slice at' nt' cpt) t ∧ Bs w2 v2 S) := ⟨HBr.out.1.later hb2, bchain HBr.out.2.1 hb2, HBr.out.2.2.1.later hb2, HBr.out.2.2.2.later hb2, hO2.bs.1⟩
  obtain ⟨ad2, cap2, rfl⟩ := hO2.sl
  have hcap2 : S.length ≤ cap2 := by
    obtain ⟨a, b, e, h1, -⟩ := hO2.bs.1.len
    injection e with e1 e2 e3
    omega
  clear hO2 hb2 HBr HEN x0 x1 x2 x3 x4 x5 x6 x7
  obtain ⟨L, hL⟩ : ∃ L, S.length = L := ⟨_, rfl⟩
  have HLL : Hid (S.length = L) := hL
  rw [hL] at HB2 HS HD2 hcap2 ⊢
  clear hL
  have HS2 : Hid (12 ≤ L ∧ L ≤ 50000) := ⟨HS.out.2.1, HS.out.1⟩
  have hL0 : ¬ (L : Int) = 0 := by have := HS2.out; omega
  go_wp2_with fail
  refine (V.dec _ _ S HB2.out.2.2.2.2 HS.out.2.2 (by have := HLL.out; have := HS2.out; omega) (HT.out.later HB2.out.2.1)).mono ?_
  rintro e w3 ⟨v3, rfl, hL3, -, hb3⟩
  rw [HD1.out.1, HD1.out.2]
  rw [HD1.out.2] at hL3
  have hnM := HN.out.1
  obtain ⟨ad3, cap3, rfl, -, -⟩ := hL3.len
  rw [hnM] at hL3 ⊢
  have hmv : msV M (.slice ad3 n cap3) = .agg #[.int .i64 k, .int .i64 fr, .int .i64 inc, .int .i64 rd, .int .i64 hh, .int .i64 pt, .int .i64 ps, .slice ad3 n cap3] := by
    have := HV.out
    unfold msV at this ⊢
    simp only [Value.agg.injEq, Array.mk.injEq, List.cons.injEq] at this
    simp [this]
  have HPL3 : Hid (∀ W, Calls Tryd.prog 8 #[.agg #[.int .i64 k, .int .i64 fr, .int .i64 inc, .int .i64 rd, .int .i64 hh, .int .i64 pt, .int .i64 ps, .slice ad3 n cap3]] W fun e w' => e = .returned (.agg #[.int .i64 k, .int .i64 fr, .int .i64 inc, .int .i64 rd, .int .i64 hh, .int .i64 pt, .int .i64 ps, .slice ad3 n cap3]) ∧ Below W.heap.size W w') := fun W => by rw [← hmv]; exact plain14 M ad3 n cap3 W
  have HSM : Hid (∀ W, Bs W (.slice ad3 n cap3) M.d → Bs W (.slice ad n cap) M.d → Calls Tryd.prog 16 #[.agg #[.int .i64 k, .int .i64 fr, .int .i64 inc, .int .i64 rd, .int .i64 hh, .int .i64 pt, .int .i64 ps, .slice ad3 n cap3], .agg #[.int .i64 k, .int .i64 fr, .int .i64 inc, .int .i64 rd, .int .i64 hh, .int .i64 pt, .int .i64 ps, .slice ad n cap]] W fun e w' => e = .returned (.bool true) ∧ Below W.heap.size W w') := fun W h1 h2 => by rw [← HV.out, ← hmv]; exact same14 M _ _ W h1 h2
  rw [hmv]
  clear hmv hnM HV HD1
  obtain ⟨wB, hwB⟩ : ∃ wB, wB = w3.alloc (.cells #[.int .i64 k, .int .i64 fr, .int .i64 inc, .int .i64 rd, .int .i64 hh, .int .i64 pt, .int .i64 ps, .slice ad3 n cap3] 24) := ⟨_, rfl⟩
  have HB3 : Hid ((B8 w3.heap.size ⟨k, fr, inc, rd, hh, pt, ps, d⟩ (.slice ad3 n cap3) wB ∧ B8 w.heap.size ⟨k, fr, inc, rd, hh, pt, ps, d⟩ (.slice ad n cap) wB) ∧ Below w.heap.size w wB ∧ Bs wB (.slice ad n cap) M.d ∧ Bs wB (.slice at' nt' cpt) t ∧ Bs wB (.slice ad2 L cap2) S ∧ Bs wB (.slice ad3 n cap3) M.d) := by
    rw [hwB]
    have hb := fun o => bchain hb3 (bel1 w3 o)
    exact ⟨⟨B8.new w3 ⟨k, fr, inc, rd, hh, pt, ps, d⟩ _ _, HB2.out.1.later (hb _)⟩, bchain HB2.out.2.1 (hb _), HB2.out.2.2.1.later (hb _), HB2.out.2.2.2.1.later (hb _), HB2.out.2.2.2.2.later (hb _), hL3.later (bel1 _ _)⟩
  clear hL3 hb3 HB2
  go_upto_region 9 with fail
  rw [← hwB]
  clear hwB
  generalize hg : w3.heap.size = g at *
  clear hg w3
  obtain ⟨c, hc⟩ : ∃ c : Nat, cut.tmod (L : Int) = (c : Int) := ⟨(cut.tmod (L : Int)).toNat, by have := Int.tmod_nonneg (L : Int) (show 0 ≤ cut by omega); omega⟩
  have hcL : c < L := by
    have := Int.tmod_lt_of_pos cut (show (0 : Int) < (L : Int) by omega)
    omega
  have hwc : IntKind.i64.wrap (c : Int) = (c : Int) := by have := HS2.out; rw [IntKind.wrap_i64]; omega
  have s1 : ∀ W : World, (Instr.sliceAt 22 (.slice ad2 L cap2) none (some (.int .i64 (c : Int))) none).run Tryd.prog W = .ok (sv ad2 0 c cap2) W := fun W => sliceAt_run0 W ad2 L cap2 c (by omega)
  have s2 : ∀ W : World, (Instr.slice 22 (.slice ad2 L cap2) none (some (.int .i64 (c : Int))) none).run Tryd.prog W = .ok (sv ad2 0 c cap2) W := fun W => slice_run0 W ad2 L cap2 c (by omega)
  have HCB : Hid (Bs wB (sv ad2 0 c cap2) (S.take c)) := by
    have := sv_bs HB3.out.2.2.2.2.1 0 c (Nat.zero_le _) (by have := HLL.out; omega)
    rw [List.drop_zero, Nat.sub_zero] at this
    exact this
  have HC1 : Hid (dcE (S.take c) = 130) := HD2.out _ (List.take_prefix _ _) (by rw [List.length_take]; omega)
  have HC2 : Hid ((∀ x ∈ S.take c, x < 256) ∧ (S.take c).length ≤ 90000) := ⟨fun x hx => HS.out.2.2 x (List.mem_of_mem_take hx), by rw [List.length_take]; have := HS2.out; omega⟩
  clear HD2 hcL
  go_wp2_with fail
  refine (V.dec _ _ (S.take c) HCB.out HC2.out.1 HC2.out.2 (HT.out.later HB3.out.2.1)).mono ?_
  rintro e w4 ⟨v4, rfl, hL4, -, hb4⟩
  rw [HC1.out]
  clear HC1 HC2 HCB s1 s2 hc hwc
  generalize dcM (S.take c) = M4 at *
  obtain ⟨a0, a1, a2, a3, a4, a5, a6, a7⟩ := M4
  obtain ⟨ad4, cap4, rfl, -, -⟩ := hL4.len
  unfold msV
  dsimp only
  generalize a7.length = n4 at *
  obtain ⟨wC, hwC⟩ : ∃ wC, wC = w4.alloc (.cells #[.int .i64 a0, .int .i64 a1, .int .i64 a2, .int .i64 a3, .int .i64 a4, .int .i64 a5, .int .i64 a6, .slice ad4 n4 cap4] 24) := ⟨_, rfl⟩
  have HB4 : Hid ((B8 g ⟨k, fr, inc, rd, hh, pt, ps, d⟩ (.slice ad3 n cap3) wC ∧ B8 w.heap.size ⟨k, fr, inc, rd, hh, pt, ps, d⟩ (.slice ad n cap) wC) ∧ Below w.heap.size w wC ∧ Bs wC (.slice ad n cap) M.d ∧ Bs wC (.slice at' nt' cpt) t ∧ Bs wC (.slice ad2 L cap2) S ∧ Bs wC (.slice ad3 n cap3) M.d) := by
    rw [hwC]
    have hb := fun o => bchain hb4 (bel1 w4 o)
    exact ⟨⟨HB3.out.1.1.later (hb _), HB3.out.1.2.later (hb _)⟩, bchain HB3.out.2.1 (hb _), HB3.out.2.2.1.later (hb _), HB3.out.2.2.2.1.later (hb _), HB3.out.2.2.2.2.1.later (hb _), HB3.out.2.2.2.2.2.later (hb _)⟩
  clear hL4 hb4 HB3
  go_upto_region 10 with fail
  rw [← hwC]
  clear hwC
  generalize hg4 : w4.heap.size = g4 at *
  clear hg4 w4
  go_wp2_with fail
  refine (joinB _ _ S t (by have := HLL.out; have := HN.out; have := HS2.out; have := HQ.out; omega) _ HB4.out.2.2.2.2.1 HB4.out.2.2.2.1).mono ?_
  rintro e w5 ⟨v5, rfl, hL5, hb5, -⟩
  have HB5 : Hid ((B8 g ⟨k, fr, inc, rd, hh, pt, ps, d⟩ (.slice ad3 n cap3) w5 ∧ B8 w.heap.size ⟨k, fr, inc, rd, hh, pt, ps, d⟩ (.slice ad n cap) w5) ∧ Below w.heap.size w w5 ∧ Bs w5 (.slice ad n cap) M.d ∧ Bs w5 (.slice ad3 n cap3) M.d ∧ Bs w5 v5 (S ++ t)) := ⟨⟨HB4.out.1.1.later hb5, HB4.out.1.2.later hb5⟩, bchain HB4.out.2.1 hb5, HB4.out.2.2.1.later hb5, HB4.out.2.2.2.2.2.later hb5, hL5⟩
  obtain ⟨ad5, cap5, rfl, -, -⟩ := hL5.len
  have HLJ : Hid ((S ++ t).length ≤ 90000 ∧ ∀ c ∈ S ++ t, c < 256) := ⟨by rw [List.length_append]; have := HLL.out; have := HN.out; have := HS2.out; have := HQ.out; omega, fun c hc => by
    rcases List.mem_append.1 hc with q | q
    · exact HS.out.2.2 c q
    · exact HY.out.2 c q⟩
  clear hL5 hb5 HB4
  generalize S ++ t = J at *
  go_wp2_with fail
  refine (V.dec _ _ J HB5.out.2.2.2.2 HLJ.out.2 HLJ.out.1 (HT.out.later HB5.out.2.1)).mono ?_
  rintro e w6 ⟨v6, rfl, hL6, -, hb6⟩
  rw [HD3.out]
  clear HD3 HLJ
  generalize dcM J = M6 at *
  obtain ⟨b0, b1, b2, b3, b4, b5, b6, b7⟩ := M6
  obtain ⟨ad6, cap6, rfl, -, -⟩ := hL6.len
  unfold msV
  dsimp only
  generalize b7.length = n6 at *
  obtain ⟨wD, hwD⟩ : ∃ wD, wD = w6.alloc (.cells #[.int .i64 b0, .int .i64 b1, .int .i64 b2, .int .i64 b3, .int .i64 b4, .int .i64 b5, .int .i64 b6, .slice ad6 n6 cap6] 24) := ⟨_, rfl⟩
  have HB6 : Hid ((B8 g ⟨k, fr, inc, rd, hh, pt, ps, d⟩ (.slice ad3 n cap3) wD.drew ∧ B8 w.heap.size ⟨k, fr, inc, rd, hh, pt, ps, d⟩ (.slice ad n cap) wD.drew) ∧ Below w.heap.size w wD.drew ∧ Bs wD.drew (.slice ad n cap) M.d ∧ Bs wD.drew (.slice ad3 n cap3) M.d) := by
    rw [hwD]
    have hb := fun o => bchain hb6 (bel1 w6 o).drew
    exact ⟨⟨HB5.out.1.1.later (hb _), HB5.out.1.2.later (hb _)⟩, bchain HB5.out.2.1 (hb _), HB5.out.2.2.1.later (hb _), HB5.out.2.2.2.1.later (hb _)⟩
  clear hL6 hb6 HB5
  go_upto_region 11 with fail
  rw [← hwD]
  clear hwD
  generalize hg6 : w6.heap.size = g6 at *
  clear hg6 w6
  refine wp_region_held_drew (S := fun W => B8 g ⟨k, fr, inc, rd, hh, pt, ps, d⟩ (.slice ad3 n cap3) W ∧ B8 w.heap.size ⟨k, fr, inc, rd, hh, pt, ps, d⟩ (.slice ad n cap) W) (by kernel_rfl) HB6.out.1 (fun HS => ?_)
  generalize wD.drew = q0 at *
  refine wpAnyH_take (i := 0) (v := ?v1) rfl (by kernel_rfl) (by kernel_rfl) (by kernel_rfl) (fun _ _ _ h => h) (Or.inl ⟨by kernel_rfl, ?h1⟩) HS ?r1
  case h1 => (rintro w ⟨⟨n0, n1, n2, n3, n4, n5, n6, n7⟩, ⟨o0, o1, o2, o3, o4, o5, o6, o7⟩⟩; go_simp) <;> with_reducible rfl
  try simp only [Act.put, List.getElem_toArray, List.getElem_cons_succ, List.getElem_cons_zero, List.setIfInBounds_toArray, List.set_cons_zero, List.set_cons_succ]
  refine wpAnyH_take (i := 1) (v := ?v2) rfl (by kernel_rfl) (by kernel_rfl) (by kernel_rfl) (fun _ _ _ h => h) (Or.inl ⟨by kernel_rfl, ?h2⟩) HS ?r2
  case h2 => (rintro w ⟨⟨n0, n1, n2, n3, n4, n5, n6, n7⟩, ⟨o0, o1, o2, o3, o4, o5, o6, o7⟩⟩; go_simp) <;> with_reducible rfl
  try simp only [Act.put, List.getElem_toArray, List.getElem_cons_succ, List.getElem_cons_zero, List.setIfInBounds_toArray, List.set_cons_zero, List.set_cons_succ]
  refine wpAnyH_take (i := 2) (v := ?v3) rfl (by kernel_rfl) (by kernel_rfl) (by kernel_rfl) (fun _ _ _ h => h) (Or.inl ⟨by kernel_rfl, ?h3⟩) HS ?r3
  case h3 => (rintro w ⟨⟨n0, n1, n2, n3, n4, n5, n6, n7⟩, ⟨o0, o1, o2, o3, o4, o5, o6, o7⟩⟩; go_simp) <;> with_reducible rfl
  try simp only [Act.put, List.getElem_toArray, List.getElem_cons_succ, List.getElem_cons_zero, List.setIfInBounds_toArray, List.set_cons_zero, List.set_cons_succ]
  refine wpAnyH_take (i := 3) (v := ?v4) rfl (by kernel_rfl) (by kernel_rfl) (by kernel_rfl) (fun _ _ _ h => h) (Or.inl ⟨by kernel_rfl, ?h4⟩) HS ?r4
  case h4 => (rintro w ⟨⟨n0, n1, n2, n3, n4, n5, n6, n7⟩, ⟨o0, o1, o2, o3, o4, o5, o6, o7⟩⟩; go_simp) <;> with_reducible rfl
  try simp only [Act.put, List.getElem_toArray, List.getElem_cons_succ, List.getElem_cons_zero, List.setIfInBounds_toArray, List.set_cons_zero, List.set_cons_succ]
  refine wpAnyH_take (i := 5) (v := ?v5) rfl (by kernel_rfl) (by kernel_rfl) (by kernel_rfl) (fun _ _ _ h => h) (Or.inl ⟨by kernel_rfl, ?h5⟩) HS ?r5
  case h5 => (rintro w ⟨⟨n0, n1, n2, n3, n4, n5, n6, n7⟩, ⟨o0, o1, o2, o3, o4, o5, o6, o7⟩⟩; go_simp) <;> with_reducible rfl
  try simp only [Act.put, List.getElem_toArray, List.getElem_cons_succ, List.getElem_cons_zero, List.setIfInBounds_toArray, List.set_cons_zero, List.set_cons_succ]
  refine wpAnyH_ready (rs := [4]) (by kernel_rfl) (by simp) ?_
  refine AllReadyH.cons rfl (fun K hK => ?_) AllReadyH.nil
  go_simp
  refine (HPL3.out q0).mono ?_
  rintro e r1 ⟨rfl, hb1⟩
  have HB7 : Hid (Below w.heap.size w r1 ∧ Bs r1 (.slice ad n cap) M.d ∧ Bs r1 (.slice ad3 n cap3) M.d) := ⟨bchain HB6.out.2.1 hb1, HB6.out.2.2.1.later hb1, HB6.out.2.2.2.later hb1⟩
  refine hK.out _ _ ⟨HS.1.later hb1, HS.2.later hb1⟩ (fun HS => ?_)
  clear hK K hb1 HB6 HPL3
  try simp only [Act.put, List.getElem_toArray, List.getElem_cons_succ, List.getElem_cons_zero, List.setIfInBounds_toArray, List.set_cons_zero, List.set_cons_succ]
  refine wpAnyH_ready (rs := [6]) (by kernel_rfl) (by simp) ?_
  refine AllReadyH.cons rfl (fun K hK => ?_) AllReadyH.nil
  go_simp
  refine (HPL.out r1).mono ?_
  rintro e r2 ⟨rfl, hb2⟩
  have HB8 : Hid (Below w.heap.size w r2 ∧ Bs r2 (.slice ad n cap) M.d ∧ Bs r2 (.slice ad3 n cap3) M.d) := ⟨bchain HB7.out.1 hb2, HB7.out.2.1.later hb2, HB7.out.2.2.later hb2⟩
  refine hK.out _ _ ⟨HS.1.later hb2, HS.2.later hb2⟩ (fun HS => ?_)
  clear hK K hb2 HB7 HPL
  try simp only [Act.put, List.getElem_toArray, List.getElem_cons_succ, List.getElem_cons_zero, List.setIfInBounds_toArray, List.set_cons_zero, List.set_cons_succ]
  refine wpAnyH_ready (rs := [7]) (by kernel_rfl) (by simp) ?_
  refine AllReadyH.cons rfl (fun K hK => ?_) AllReadyH.nil
  go_simp
  refine (HSM.out r2 HB8.out.2.2 HB8.out.2.1).mono ?_
  rintro e r3 ⟨rfl, hb3⟩
  have HB9 : Hid (Below w.heap.size w r3) := bchain HB8.out.1 hb3
  refine hK.out _ _ ⟨HS.1.later hb3, HS.2.later hb3⟩ (fun HS => ?_)
  clear hK K hb3 HB8 HSM
  try simp only [Act.put, List.getElem_toArray, List.getElem_cons_succ, List.getElem_cons_zero, List.setIfInBounds_toArray, List.set_cons_zero, List.set_cons_succ]
  refine wpAnyH_take (i := 8) (v := ?v6) rfl (by kernel_rfl) (by kernel_rfl) (by kernel_rfl) (fun _ _ _ h => h) (Or.inl ⟨by kernel_rfl, ?h6⟩) HS ?r6
  case h6 => (rintro w ⟨⟨n0, n1, n2, n3, n4, n5, n6, n7⟩, ⟨o0, o1, o2, o3, o4, o5, o6, o7⟩⟩; go_simp) <;> with_reducible rfl
  try simp only [Act.put, List.getElem_toArray, List.getElem_cons_succ, List.getElem_cons_zero, List.setIfInBounds_toArray, List.set_cons_zero, List.set_cons_succ]
  refine wpAnyH_take (i := 9) (v := ?v7) rfl (by kernel_rfl) (by kernel_rfl) (by kernel_rfl) (fun _ _ _ h => h) (Or.inl ⟨by kernel_rfl, ?h7⟩) HS ?r7
  case h7 => (rintro w ⟨⟨n0, n1, n2, n3, n4, n5, n6, n7⟩, ⟨o0, o1, o2, o3, o4, o5, o6, o7⟩⟩; go_simp) <;> with_reducible rfl
  try simp only [Act.put, List.getElem_toArray, List.getElem_cons_succ, List.getElem_cons_zero, List.setIfInBounds_toArray, List.set_cons_zero, List.set_cons_succ]
  refine wpAnyH_take (i := 10) (v := ?v8) rfl (by kernel_rfl) (by kernel_rfl) (by kernel_rfl) (fun _ _ _ h => h) (Or.inl ⟨by kernel_rfl, ?h8⟩) HS ?r8
  case h8 => (rintro w ⟨⟨n0, n1, n2, n3, n4, n5, n6, n7⟩, ⟨o0, o1, o2, o3, o4, o5, o6, o7⟩⟩; go_simp) <;> with_reducible rfl
  try simp only [Act.put, List.getElem_toArray, List.getElem_cons_succ, List.getElem_cons_zero, List.setIfInBounds_toArray, List.set_cons_zero, List.set_cons_succ]
  refine wpAnyH_take (i := 11) (v := ?v9) rfl (by kernel_rfl) (by kernel_rfl) (by kernel_rfl) (fun _ _ _ h => h) (Or.inl ⟨by kernel_rfl, ?h9⟩) HS ?r9
  case h9 => (rintro w ⟨⟨n0, n1, n2, n3, n4, n5, n6, n7⟩, ⟨o0, o1, o2, o3, o4, o5, o6, o7⟩⟩; go_simp) <;> with_reducible rfl
  try simp only [Act.put, List.getElem_toArray, List.getElem_cons_succ, List.getElem_cons_zero, List.setIfInBounds_toArray, List.set_cons_zero, List.set_cons_succ]
  refine wpAnyH_take (i := 12) (v := ?v10) rfl (by kernel_rfl) (by kernel_rfl) (by kernel_rfl) (fun _ _ _ h => h) (Or.inl ⟨by kernel_rfl, ?h10⟩) HS ?r10
  case h10 => (rintro w ⟨⟨n0, n1, n2, n3, n4, n5, n6, n7⟩, ⟨o0, o1, o2, o3, o4, o5, o6, o7⟩⟩; go_simp) <;> with_reducible rfl
  try simp only [Act.put, List.getElem_toArray, List.getElem_cons_succ, List.getElem_cons_zero, List.setIfInBounds_toArray, List.set_cons_zero, List.set_cons_succ]
  refine wpAnyH_take (i := 13) (v := ?v11) rfl (by kernel_rfl) (by kernel_rfl) (by kernel_rfl) (fun _ _ _ h => h) (Or.inl ⟨by kernel_rfl, ?h11⟩) HS ?r11
  case h11 => (rintro w ⟨⟨n0, n1, n2, n3, n4, n5, n6, n7⟩, ⟨o0, o1, o2, o3, o4, o5, o6, o7⟩⟩; go_simp) <;> with_reducible rfl
  try simp only [Act.put, List.getElem_toArray, List.getElem_cons_succ, List.getElem_cons_zero, List.setIfInBounds_toArray, List.set_cons_zero, List.set_cons_succ]
  refine wpAnyH_take (i := 14) (v := ?v12) rfl (by kernel_rfl) (by kernel_rfl) (by kernel_rfl) (fun _ _ _ h => h) (Or.inl ⟨by kernel_rfl, ?h12⟩) HS ?r12
  case h12 => (rintro w ⟨⟨n0, n1, n2, n3, n4, n5, n6, n7⟩, ⟨o0, o1, o2, o3, o4, o5, o6, o7⟩⟩; go_simp) <;> with_reducible rfl
  try simp only [Act.put, List.getElem_toArray, List.getElem_cons_succ, List.getElem_cons_zero, List.setIfInBounds_toArray, List.set_cons_zero, List.set_cons_succ]
  refine wpAnyH_take (i := 15) (v := ?v13) rfl (by kernel_rfl) (by kernel_rfl) (by kernel_rfl) (fun _ _ _ h => h) (Or.inl ⟨by kernel_rfl, ?h13⟩) HS ?r13
  case h13 => (rintro w ⟨⟨n0, n1, n2, n3, n4, n5, n6, n7⟩, ⟨o0, o1, o2, o3, o4, o5, o6, o7⟩⟩; go_simp) <;> with_reducible rfl
  try simp only [Act.put, List.getElem_toArray, List.getElem_cons_succ, List.getElem_cons_zero, List.setIfInBounds_toArray, List.set_cons_zero, List.set_cons_succ]
  refine wpAnyH_take (i := 16) (v := ?v14) rfl (by kernel_rfl) (by kernel_rfl) (by kernel_rfl) (fun _ _ _ h => h) (Or.inl ⟨by kernel_rfl, ?h14⟩) HS ?r14
  case h14 => (rintro w ⟨⟨n0, n1, n2, n3, n4, n5, n6, n7⟩, ⟨o0, o1, o2, o3, o4, o5, o6, o7⟩⟩; go_simp) <;> with_reducible rfl
  try simp only [Act.put, List.getElem_toArray, List.getElem_cons_succ, List.getElem_cons_zero, List.setIfInBounds_toArray, List.set_cons_zero, List.set_cons_succ]
  refine wpAnyH_take (i := 17) (v := ?v15) rfl (by kernel_rfl) (by kernel_rfl) (by kernel_rfl) (fun _ _ _ h => h) (Or.inl ⟨by kernel_rfl, ?h15⟩) HS ?r15
  case h15 => (rintro w ⟨⟨n0, n1, n2, n3, n4, n5, n6, n7⟩, ⟨o0, o1, o2, o3, o4, o5, o6, o7⟩⟩; go_simp) <;> with_reducible rfl
  try simp only [Act.put, List.getElem_toArray, List.getElem_cons_succ, List.getElem_cons_zero, List.setIfInBounds_toArray, List.set_cons_zero, List.set_cons_succ]
  refine wpAnyH_done (by kernel_rfl) ?_ _
  clear HS
  go_wp2
  go_ret
  exact ⟨rfl, HB9.out⟩
end Go.Proofs.YtfcbgkcclganmaaDoor
