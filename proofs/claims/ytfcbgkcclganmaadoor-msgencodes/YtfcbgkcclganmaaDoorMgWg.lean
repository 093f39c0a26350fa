/-
  Layer 14's msg: Decode; all contracts of msg.
-/
import Derived.Test.YtfcbgkcclganmaaDoorMgWf
set_option linter.unusedVariables false
set_option linter.unusedSimpArgs false
namespace Go.Proofs.YtfcbgkcclganmaaDoor
open Go.RowKit

open Classical in
theorem held14 (w : World) (k : Nat) (vp : Value) (l : List Nat) (h : Bs w vp l) (hb : ∀ c ∈ l, c < 256) (hl : l.length ≤ 2000000) :
    Calls Tryd.prog 31 #[.agg #[.int .i64 (k : Int), vp]] w fun e w' => ∃ vd, e = .returned (.tuple #[msV (if Is14 k l then rdM k l else ms0) vd, .int .i64 (((if Is14 k l then 0 else 140 : Nat) : Nat) : Int)]) ∧ Bs w' vd (if Is14 k l then rdM k l else ms0).d ∧ Ow w.heap.size vd ∧ Below w.heap.size w w' := by
  by_cases q : Is14 k l
  · rw [if_pos q, if_pos q]
    exact heldYes w k vp l h hb hl q.2.2.1 q.2.2.2
  · rw [if_neg q, if_neg q]
    by_cases hz : rdE (rdD k l) = 0
    · refine heldBad w k vp l h hb hl hz (fun r => q ?_)
      have k1 := r.k1
      have k8 := r.k8
      rw [rdM_k] at k1 k8
      exact ⟨k1, k8, hz, r⟩
    · exact heldNo w k vp l h hb hl hz
theorem bx2_zero : msV ms0 (.slice none 0 0) = .agg #[.int .i64 0, .int .i64 0, .int .i64 0, .int .i64 0, .int .i64 0, .int .i64 0, .int .i64 0, .slice none 0 0] := rfl
set_option maxRecDepth 100000 in
set_option maxHeartbeats 4000000 in
theorem decode14 (w : World) (v : Value) (l : List Nat) (h : Bs w v l) (hb : ∀ c ∈ l, c < 256) (hl : l.length ≤ 90000) (hT : FT w) :
    Calls Tryd.prog 14 #[v] w fun e w' => ∃ vd, e = .returned (.tuple #[msV (dcM l) vd, .int .i64 ((dcE l : Nat) : Int)]) ∧ Bs w' vd (dcM l).d ∧ Ow w.heap.size vd ∧ Below w.heap.size w w' := by
  have HL : Hid (Bs w v l ∧ (∀ c ∈ l, c < 256) ∧ FT w) := ⟨h, hb, hT⟩
  have HLl : Hid (∃ u, l = u ∧ u.length ≤ 90000) := ⟨_, rfl, hl⟩
  obtain ⟨ad, cap, rfl, -, -⟩ := h.len
  obtain ⟨wA, hwA⟩ : ∃ wA, wA = w.alloc (.cells #[.int .i64 0, .int .i64 0, .int .i64 0, .int .i64 0, .int .i64 0, .int .i64 0, .int .i64 0, .slice none 0 0] 24) := ⟨_, rfl⟩
  have HA : Hid (Rw w.heap.size 8 (mf ms0 (.slice none 0 0)) wA ∧ Below w.heap.size w wA) := by rw [hwA]; exact ⟨mf_new w ms0 _ _, bel1 _ _⟩
  have HC : Hid (Calls Tryd.prog 30 #[.slice ad l.length cap] wA fun e w' => ∃ vp, e = .returned (.tuple #[.agg #[.int .i64 ((opK l : Nat) : Int), vp], .int .i64 ((opN l : Nat) : Int), .int .i64 ((opE l : Nat) : Int)]) ∧ Bs w' vp (opP l) ∧ Ow wA.heap.size vp ∧ Below wA.heap.size wA w') := open13 wA _ l (HL.out.1.later HA.out.2) HL.out.2.1 hl (HL.out.2.2.later HA.out.2)
  have HP : Hid ((∀ c ∈ opP l, c < 256) ∧ (opP l).length ≤ 2000000) := ⟨opP_byte hb, by have := opP_len l; omega⟩
  have HE1 : Hid (opE l ≠ 0 → dcE l = opE l ∧ dcM l = ms0) := dc_err
  have HE2 : Hid (opE l = 0 → opN l < l.length → dcE l = 122 ∧ dcM l = ms0) := dc_left
  have HE3 : Hid (opE l = 0 → ¬ opN l < l.length → Is14 (opK l) (opP l) → dcE l = 0 ∧ dcM l = rdM (opK l) (opP l)) := dc_yes
  have HE4 : Hid (opE l = 0 → ¬ opN l < l.length → ¬ Is14 (opK l) (opP l) → dcE l = 140 ∧ dcM l = ms0) := dc_no
  clear h hb hl hT
  generalize l.length = n at *
  go_enter Tryd.func14, Tryd.ntmps14
  go_upto_region 1 with fail
  rw [← hwA]
  clear hwA
  go_wp2_with fail
  refine HC.out.mono ?_
  rintro e w1 ⟨vp, rfl, hP, hO, hb1⟩
  have HB : Hid (Rw w.heap.size 8 (mf ms0 (.slice none 0 0)) w1 ∧ Below w.heap.size w w1 ∧ Bs w1 vp (opP l)) := ⟨HA.out.1.later hb1, bchain HA.out.2 hb1, hP⟩
  obtain ⟨ap, pp, rfl, -, -⟩ := hP.len
  clear hP hO hb1 HC HA HL HLl
  generalize opE l = oe at *
  generalize opN l = on at *
  generalize opK l = K at *
  generalize opP l = P at *
  generalize hnp : P.length = np at *
  have HNp : Hid (∃ u, P = u ∧ u.length ≤ 2000000) := ⟨_, rfl, by rw [hnp]; exact HP.out.2⟩
  clear hnp
  obtain ⟨wB, hwB⟩ : ∃ wB, wB = w1.alloc (.cells #[.int .i64 (K : Int), .slice ap np pp] 62) := ⟨_, rfl⟩
  have HD : Hid (Rw w.heap.size 8 (mf ms0 (.slice none 0 0)) wB ∧ Below w.heap.size w wB ∧ Bs wB (.slice ap np pp) P ∧ wB.cell? ⟨w1.heap.size, 0, none⟩ = some (.int .i64 (K : Int)) ∧ wB.cell? ⟨w1.heap.size, 1, none⟩ = some (.slice ap np pp)) := by
    rw [hwB]
    exact ⟨HB.out.1.later (bel1 _ _), bchain HB.out.2.1 (bel1 _ _), HB.out.2.2.later (bel1 _ _), by simp [go_sem], by simp [go_sem]⟩
  go_upto_region 2 with fail
  rw [← hwB]
  clear hwB HB
  generalize w1.heap.size = g at *
  by_cases he : oe = 0
  · subst he
    by_cases hn : on < n
    · have hnI : (on : Int) < (n : Int) := by omega
      obtain ⟨e1, e2⟩ := HE2.out rfl hn
      have HV : Hid (dcE l = 122 ∧ dcM l = ms0) := ⟨e1, e2⟩
      clear e1 e2 HE1 HE2 HE3 HE4
      have z0 := HD.out.1.c 0 (by omega)
      have t0 := HD.out.1.f 0 (by omega)
      have z1 := HD.out.1.c 1 (by omega)
      have t1 := HD.out.1.f 1 (by omega)
      have z2 := HD.out.1.c 2 (by omega)
      have t2 := HD.out.1.f 2 (by omega)
      have z3 := HD.out.1.c 3 (by omega)
      have t3 := HD.out.1.f 3 (by omega)
      have z4 := HD.out.1.c 4 (by omega)
      have t4 := HD.out.1.f 4 (by omega)
      have z5 := HD.out.1.c 5 (by omega)
      have t5 := HD.out.1.f 5 (by omega)
      have z6 := HD.out.1.c 6 (by omega)
      have t6 := HD.out.1.f 6 (by omega)
      have z7 := HD.out.1.c 7 (by omega)
      have t7 := HD.out.1.f 7 (by omega)
      dsimp only [mf, ms0] at z0 z1 z2 z3 z4 z5 z6 z7
      have HG := HD
      go_wp2
      have HR := mf_put8 HG.out.1 ms0 (.slice none 0 0)
      have HBl := below_put8 HG.out.2.1 (Nat.le_refl _) (.int .i64 0) (.int .i64 0) (.int .i64 0) (.int .i64 0) (.int .i64 0) (.int .i64 0) (.int .i64 0) (.slice none 0 0)
      dsimp only [ms0] at HR
      clear z0 z1 z2 z3 z4 z5 z6 z7 t0 t1 t2 t3 t4 t5 t6 t7
      generalize World.setCell _ ⟨w.heap.size, 7, none⟩ (.slice none 0 0) = wZ at *
      have z0 := HR.c 0 (by omega)
      have z1 := HR.c 1 (by omega)
      have z2 := HR.c 2 (by omega)
      have z3 := HR.c 3 (by omega)
      have z4 := HR.c 4 (by omega)
      have z5 := HR.c 5 (by omega)
      have z6 := HR.c 6 (by omega)
      have z7 := HR.c 7 (by omega)
      dsimp only [mf] at z0 z1 z2 z3 z4 z5 z6 z7
      rw [HV.out.1, HV.out.2]
      exact bodyPost_ret (v := .tuple #[.agg #[.int .i64 0, .int .i64 0, .int .i64 0, .int .i64 0, .int .i64 0, .int .i64 0, .int .i64 0, .slice none 0 0], .int .i64 122]) (by simp [results, Tryd.results14, go_sem, z0, z1, z2, z3, z4, z5, z6, z7]) rfl ⟨.slice none 0 0, rfl, bs_nil14 _, ow_nil14 _, HBl⟩
    · have hnI : ¬ (on : Int) < (n : Int) := by omega
      have HV : Hid ((Is14 K P → dcE l = 0 ∧ dcM l = rdM K P) ∧ (¬ Is14 K P → dcE l = 140 ∧ dcM l = ms0)) := ⟨HE3.out rfl hn, HE4.out rfl hn⟩
      have HH := held14 wB K _ P HD.out.2.2.1 HP.out.1 (by obtain ⟨u, e, hu⟩ := HNp.out; rw [e]; exact hu)
      obtain ⟨M, E, hM, hEE, HH2⟩ : ∃ (M : Ms) (E : Nat), dcM l = M ∧ dcE l = E ∧ Calls Tryd.prog 31 #[.agg #[.int .i64 (K : Int), .slice ap np pp]] wB fun e w' => ∃ vd, e = .returned (.tuple #[msV M vd, .int .i64 ((E : Nat) : Int)]) ∧ Bs w' vd M.d ∧ Ow wB.heap.size vd ∧ Below wB.heap.size wB w' := by
        by_cases q : Is14 K P
        · rw [if_pos q, if_pos q] at HH
          exact ⟨_, _, (HV.out.1 q).2, (HV.out.1 q).1, HH⟩
        · rw [if_neg q, if_neg q] at HH
          exact ⟨_, _, (HV.out.2 q).2, (HV.out.2 q).1, HH⟩
      have HH3 : Hid (Calls Tryd.prog 31 #[.agg #[.int .i64 (K : Int), .slice ap np pp]] wB fun e w' => ∃ vd, e = .returned (.tuple #[msV M vd, .int .i64 ((E : Nat) : Int)]) ∧ Bs w' vd M.d ∧ Ow wB.heap.size vd ∧ Below wB.heap.size wB w') := HH2
      have HV2 : Hid (dcM l = M ∧ dcE l = E) := ⟨hM, hEE⟩
      clear HH HH2 HV hM hEE HE1 HE2 HE3 HE4 hn
      have x0 := HD.out.2.2.2.1
      have x1 := HD.out.2.2.2.2
      go_wp2_with fail
      refine HH3.out.mono ?_
      rintro e w2 ⟨vd, rfl, hDt, hO, hb2⟩
      have HG : Hid (Rw w.heap.size 8 (mf ms0 (.slice none 0 0)) w2 ∧ Below w.heap.size w w2 ∧ Bs w2 vd M.d ∧ Nb vd w.heap.size ∧ Ow w.heap.size vd) := ⟨HD.out.1.later hb2, bchain HD.out.2.1 hb2, hDt, ow_apart hO (HD.out.1.lt (by omega)), hO.low HD.out.2.1.size⟩
      obtain ⟨av, pw, rfl, -, -⟩ := hDt.len
      clear hDt hO hb2 HD x0 x1 HH3
      generalize hnv : M.d.length = nv at *
      clear hnv
      unfold msV
      have z0 := HG.out.1.c 0 (by omega)
      have t0 := HG.out.1.f 0 (by omega)
      have z1 := HG.out.1.c 1 (by omega)
      have t1 := HG.out.1.f 1 (by omega)
      have z2 := HG.out.1.c 2 (by omega)
      have t2 := HG.out.1.f 2 (by omega)
      have z3 := HG.out.1.c 3 (by omega)
      have t3 := HG.out.1.f 3 (by omega)
      have z4 := HG.out.1.c 4 (by omega)
      have t4 := HG.out.1.f 4 (by omega)
      have z5 := HG.out.1.c 5 (by omega)
      have t5 := HG.out.1.f 5 (by omega)
      have z6 := HG.out.1.c 6 (by omega)
      have t6 := HG.out.1.f 6 (by omega)
      have z7 := HG.out.1.c 7 (by omega)
      have t7 := HG.out.1.f 7 (by omega)
      dsimp only [mf, ms0] at z0 z1 z2 z3 z4 z5 z6 z7
      go_wp2
      have HR := mf_put8 HG.out.1 M (.slice av nv pw)
      have HBl := below_put8 HG.out.2.1 (Nat.le_refl _) (.int .i64 M.k) (.int .i64 M.fr) (.int .i64 M.inc) (.int .i64 M.rd) (.int .i64 M.h) (.int .i64 M.pt) (.int .i64 M.ps) (.slice av nv pw)
      have HDt : Bs _ (.slice av nv pw) M.d := bs_put8 HG.out.2.2.1 w.heap.size HG.out.2.2.2.1 (.int .i64 M.k) (.int .i64 M.fr) (.int .i64 M.inc) (.int .i64 M.rd) (.int .i64 M.h) (.int .i64 M.pt) (.int .i64 M.ps) (.slice av nv pw)
      clear z0 z1 z2 z3 z4 z5 z6 z7 t0 t1 t2 t3 t4 t5 t6 t7
      generalize World.setCell _ ⟨w.heap.size, 7, none⟩ (.slice av nv pw) = wZ at *
      have z0 := HR.c 0 (by omega)
      have z1 := HR.c 1 (by omega)
      have z2 := HR.c 2 (by omega)
      have z3 := HR.c 3 (by omega)
      have z4 := HR.c 4 (by omega)
      have z5 := HR.c 5 (by omega)
      have z6 := HR.c 6 (by omega)
      have z7 := HR.c 7 (by omega)
      dsimp only [mf] at z0 z1 z2 z3 z4 z5 z6 z7
      rw [HV2.out.1, HV2.out.2]
      exact bodyPost_ret (v := .tuple #[.agg #[.int .i64 M.k, .int .i64 M.fr, .int .i64 M.inc, .int .i64 M.rd, .int .i64 M.h, .int .i64 M.pt, .int .i64 M.ps, .slice av nv pw], .int .i64 (E : Int)]) (by simp [results, Tryd.results14, go_sem, z0, z1, z2, z3, z4, z5, z6, z7]) rfl ⟨_, rfl, HDt, HG.out.2.2.2.2, HBl⟩
  · have heI : ¬ (oe : Int) = 0 := by omega
    obtain ⟨e1, e2⟩ := HE1.out he
    have HV : Hid (dcE l = oe ∧ dcM l = ms0) := ⟨e1, e2⟩
    clear e1 e2 HE1 HE2 HE3 HE4 he
    have z0 := HD.out.1.c 0 (by omega)
    have t0 := HD.out.1.f 0 (by omega)
    have z1 := HD.out.1.c 1 (by omega)
    have t1 := HD.out.1.f 1 (by omega)
    have z2 := HD.out.1.c 2 (by omega)
    have t2 := HD.out.1.f 2 (by omega)
    have z3 := HD.out.1.c 3 (by omega)
    have t3 := HD.out.1.f 3 (by omega)
    have z4 := HD.out.1.c 4 (by omega)
    have t4 := HD.out.1.f 4 (by omega)
    have z5 := HD.out.1.c 5 (by omega)
    have t5 := HD.out.1.f 5 (by omega)
    have z6 := HD.out.1.c 6 (by omega)
    have t6 := HD.out.1.f 6 (by omega)
    have z7 := HD.out.1.c 7 (by omega)
    have t7 := HD.out.1.f 7 (by omega)
    dsimp only [mf, ms0] at z0 z1 z2 z3 z4 z5 z6 z7
    have HG := HD
    go_wp2
    have HR := mf_put8 HG.out.1 ms0 (.slice none 0 0)
    have HBl := below_put8 HG.out.2.1 (Nat.le_refl _) (.int .i64 0) (.int .i64 0) (.int .i64 0) (.int .i64 0) (.int .i64 0) (.int .i64 0) (.int .i64 0) (.slice none 0 0)
    dsimp only [ms0] at HR
    clear z0 z1 z2 z3 z4 z5 z6 z7 t0 t1 t2 t3 t4 t5 t6 t7
    generalize World.setCell _ ⟨w.heap.size, 7, none⟩ (.slice none 0 0) = wZ at *
    have z0 := HR.c 0 (by omega)
    have z1 := HR.c 1 (by omega)
    have z2 := HR.c 2 (by omega)
    have z3 := HR.c 3 (by omega)
    have z4 := HR.c 4 (by omega)
    have z5 := HR.c 5 (by omega)
    have z6 := HR.c 6 (by omega)
    have z7 := HR.c 7 (by omega)
    dsimp only [mf] at z0 z1 z2 z3 z4 z5 z6 z7
    rw [HV.out.1, HV.out.2]
    exact bodyPost_ret (v := .tuple #[.agg #[.int .i64 0, .int .i64 0, .int .i64 0, .int .i64 0, .int .i64 0, .int .i64 0, .int .i64 0, .slice none 0 0], .int .i64 (oe : Int)]) (by simp [results, Tryd.results14, go_sem, z0, z1, z2, z3, z4, z5, z6, z7]) rfl ⟨.slice none 0 0, rfl, bs_nil14 _, ow_nil14 _, HBl⟩
/-- msg meets its contracts. -/
theorem mg1 : Mg1 where
  rgt := fun w m v h _ => right14 m v w h
  encY := fun w m v h hy r hT => encY14 w m v h hy r hT
  encN := fun w m v h _ r _ => encN14 w m v h r
  dec := fun w v l h hb hl hT => decode14 w v l h hb hl hT
end Go.Proofs.YtfcbgkcclganmaaDoor
