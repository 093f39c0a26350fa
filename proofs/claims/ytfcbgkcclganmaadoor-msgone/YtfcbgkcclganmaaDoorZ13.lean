/-
The document's Decode (regattaref14), some kinds.
The document's Decode (regattaref14), some kinds.
-/
import Derived.Test.YtfcbgkcclganmaaDoorZ10

set_option linter.unusedVariables false
set_option linter.unusedSimpArgs false
namespace Go.Proofs.YtfcbgkcclganmaaDoor
open Go.RowKit

set_option maxRecDepth 100000 in
set_option maxHeartbeats 8000000 in
theorem refDec4 (v : Value) (l : List Nat) (hb : ∀ c ∈ l, c < 256) (hl : l.length ≤ 90000) (w : World) (h : Bs w v l) (hE : opE l = 0) (hN : ¬ opN l < l.length) (hk : opK l = 4) :
    Calls Tryd.prog 15 #[v] w fun e w' => ∃ vd, e = .returned (.tuple #[msV (dcM l) vd, .int .i64 ((dcE l : Nat) : Int)]) ∧ Bs w' vd (dcM l).d ∧ Ow w.heap.size vd ∧ Below w.heap.size w w' := by
  have C := refOpen v l hb hl
  rw [hE, hk] at C
  have HP : Hid ((∀ c ∈ opP l, c < 256) ∧ (opP l).length ≤ 1000000) := ⟨opP_byte hb, by have := opP_len l; omega⟩
  have HX : Hid ((rdE (rdD 4 (opP l)) = 0 → Rgt (rdM 4 (opP l)) → dcE l = 0 ∧ dcM l = rdM 4 (opP l)) ∧ (¬ (rdE (rdD 4 (opP l)) = 0 ∧ Rgt (rdM 4 (opP l))) → dcE l = 140 ∧ dcM l = ms0)) := by
    have e : ((opK l : Nat) : Int) = 4 := by rw [hk]; rfl
    refine ⟨fun q1 q2 => ?_, fun q => ?_⟩
    · have := dc_yes hE hN (by rw [e]; exact ⟨by omega, by omega, q1, q2⟩)
      rw [e] at this
      exact this
    · exact dc_no hE hN (by rw [e]; exact fun r => q ⟨r.2.2.1, r.2.2.2⟩)
  have hNI : ¬ ((opN l : Nat) : Int) < ((l.length : Nat) : Int) := by omega
  have HL : Hid (Bs w v l) := h
  obtain ⟨ad, cap, rfl, -, -⟩ := h.len
  generalize dcE l = E at *
  generalize dcM l = M at *
  generalize opP l = P at *
  generalize opN l = N at *
  clear h hE hN hk hb hl
  obtain ⟨wA, hwA⟩ : ∃ wA, wA = w.alloc (.cells #[.int .i64 0, .int .i64 0, .int .i64 0, .int .i64 0, .int .i64 0, .int .i64 0, .int .i64 0, .slice none 0 0] 26) := ⟨_, rfl⟩
  have HA : Hid (Rw w.heap.size 8 (mf ms0 (.slice none 0 0)) wA ∧ Below w.heap.size w wA ∧ wA.heap.size = w.heap.size + 1) := by rw [hwA]; exact ⟨mf_new w ms0 _ _, bel1 _ _, by simp⟩
  go_enter Tryd.func15, Tryd.ntmps15
  go_wp2_with fail
  rw [← hwA]
  refine (C wA (HL.out.later HA.out.2.1)).mono ?_
  clear C hwA
  rintro e w1 ⟨vp, rfl, hP, hO, hB⟩
  have hAs := HA.out.2.2
  have hBs := hB.size
  have HB : Hid (Bs w1 vp P ∧ Lo w1.heap.size vp ∧ Rw w.heap.size 8 (mf ms0 (.slice none 0 0)) w1 ∧ Below w.heap.size w w1 ∧ w.heap.size < w1.heap.size) := ⟨hP, Ls.lo hP, HA.out.1.later hB, bchain HA.out.2.1 hB, by omega⟩
  obtain ⟨ap, pp, rfl, -, -⟩ := hP.len
  clear hP hO hB HA HL hAs hBs
  generalize hnp : P.length = np at *
  have HNp : Hid (P.length ≤ 1000000) := by show _ ≤ _; rw [hnp]; exact HP.out.2
  clear hnp
  obtain ⟨wB, hwB⟩ : ∃ wB, wB = ((w1.alloc (.cells #[.int .i64 4, .slice ap np pp] 66)).alloc (.cells #[.slice ap np pp, .int .i64 0, .int .i64 0] 71)).alloc (.cells #[.int .i64 4, .int .i64 0, .int .i64 0, .int .i64 0, .int .i64 0, .int .i64 0, .int .i64 0, .slice none 0 0] 26) := ⟨_, rfl⟩
  have HD0 : Hid (Dst w.heap.size w1.heap.size 4 P (.slice ap np pp) (.ok P) ⟨4, 0, 0, 0, 0, 0, 0, []⟩ (.slice none 0 0) w wB) := by
    rw [hwB]
    obtain ⟨wF, hwF⟩ : ∃ wF, wF = w1.alloc (.cells #[.int .i64 4, .slice ap np pp] 66) := ⟨_, rfl⟩
    have sF : wF.heap.size = w1.heap.size + 1 := by rw [hwF]; simp
    have bF : Below w1.heap.size w1 wF := by rw [hwF]; exact bel1 _ _
    have cF : wF.cell? ⟨w1.heap.size, 0, none⟩ = some (.int .i64 4) := by rw [hwF]; simp [go_sem]
    rw [← hwF]
    clear hwF hwB
    obtain ⟨wG, hwG⟩ : ∃ wG, wG = wF.alloc (.cells #[.slice ap np pp, .int .i64 0, .int .i64 0] 71) := ⟨_, rfl⟩
    have sG : wG.heap.size = w1.heap.size + 2 := by rw [hwG]; simp [sF]
    have bG : Below wF.heap.size wF wG := by rw [hwG]; exact bel1 _ _
    have rG : R0 (w1.heap.size + 1) P (.slice ap np pp) 0 0 wG := by
      have := HB.out.1.later bF
      rw [hwG, ← sF]
      exact ⟨by simp [go_sem], by simp [go_sem], by simp [go_sem], by simp [go_sem], by simp [go_sem], this.later (bel1 _ _), Ls.nb this (Nat.le_refl _), Nat.zero_le _⟩
    rw [← hwG]
    clear hwG
    have mG := mf_new wG ⟨4, 0, 0, 0, 0, 0, 0, []⟩ (.slice none 0 0) 26
    rw [sG] at mG
    have bH : ∀ o, Below w1.heap.size w1 (wG.alloc o) := fun o => bchain (bchain bF bG) (bel1 _ _)
    exact ⟨cell_later (bel1 _ _) (cell_later bG cF), ⟨0, 0, rG.later (bel1 _ _), rfl, rfl⟩, mG, HB.out.2.2.1.later (bH _), HB.out.2.1, HB.out.2.2.2.2, bchain HB.out.2.2.2.1 (bH _)⟩
  go_upto_region 8 with fail
  rw [← hwB]
  clear hwB HB
  generalize hg : w1.heap.size = g at *
  clear hg w1
  have HDa := HD0
  clear HD0
  have x0 := HDa.out.kc
  go_wp2_with fail
  refine (refRInt (g + 1) P _ (.ok P) wB HP.out.1 HNp.out HDa.out.rr).mono ?_
  rintro e wc0 ⟨rfl, hr, hk⟩
  have HDb : Hid (Dst w.heap.size g 4 P (.slice ap np pp) (pn rI (.ok P)) ⟨4, 0, 0, 0, 0, 0, 0, []⟩ (.slice none 0 0) w wc0) := HDa.out.read hr hk
  clear hr hk HDa x0
  have x0 := HDb.out.kc
  have y0 := HDb.out.mb.c 3 (by omega)
  have t0 := HDb.out.mb.f 3 (by omega)
  dsimp only [mf] at y0
  go_upto_region 14 with fail
  have HDa : Hid (Dst w.heap.size g 4 P (.slice ap np pp) (pn rI (.ok P)) ⟨4, 0, 0, (pv rI 0 (.ok P)), 0, 0, 0, []⟩ (.slice none 0 0) w (wc0.setCell ⟨g + 2, 3, none⟩ (.int .i64 (pv rI 0 (.ok P))))) := by
    refine HDb.out.put 3 _ _ _ fun j hj => ?_
    rcases less8 hj with rfl | rfl | rfl | rfl | rfl | rfl | rfl | rfl <;> rfl
  clear HDb x0 y0 t0
  generalize wc0.setCell ⟨g + 2, 3, none⟩ (.int .i64 (pv rI 0 (.ok P))) = wd0 at *
  clear wc0
  have x0 := HDa.out.kc
  go_wp2_with fail
  refine (refRInt (g + 1) P _ (pn rI (.ok P)) wd0 HP.out.1 HNp.out HDa.out.rr).mono ?_
  rintro e wc1 ⟨rfl, hr, hk⟩
  have HDb : Hid (Dst w.heap.size g 4 P (.slice ap np pp) (pn rI (pn rI (.ok P))) ⟨4, 0, 0, (pv rI 0 (.ok P)), 0, 0, 0, []⟩ (.slice none 0 0) w wc1) := HDa.out.read hr hk
  clear hr hk HDa x0
  have x0 := HDb.out.kc
  have y0 := HDb.out.mb.c 5 (by omega)
  have t0 := HDb.out.mb.f 5 (by omega)
  dsimp only [mf] at y0
  go_upto_region 18 with fail
  have HDa : Hid (Dst w.heap.size g 4 P (.slice ap np pp) (pn rI (pn rI (.ok P))) ⟨4, 0, 0, (pv rI 0 (.ok P)), 0, (pv rI 0 (pn rI (.ok P))), 0, []⟩ (.slice none 0 0) w (wc1.setCell ⟨g + 2, 5, none⟩ (.int .i64 (pv rI 0 (pn rI (.ok P)))))) := by
    refine HDb.out.put 5 _ _ _ fun j hj => ?_
    rcases less8 hj with rfl | rfl | rfl | rfl | rfl | rfl | rfl | rfl <;> rfl
  clear HDb x0 y0 t0
  generalize wc1.setCell ⟨g + 2, 5, none⟩ (.int .i64 (pv rI 0 (pn rI (.ok P)))) = wd1 at *
  clear wc1
  have x0 := HDa.out.kc
  go_wp2_with fail
  refine (refRInt (g + 1) P _ (pn rI (pn rI (.ok P))) wd1 HP.out.1 HNp.out HDa.out.rr).mono ?_
  rintro e wc2 ⟨rfl, hr, hk⟩
  have HDb : Hid (Dst w.heap.size g 4 P (.slice ap np pp) (pn rI (pn rI (pn rI (.ok P)))) ⟨4, 0, 0, (pv rI 0 (.ok P)), 0, (pv rI 0 (pn rI (.ok P))), 0, []⟩ (.slice none 0 0) w wc2) := HDa.out.read hr hk
  clear hr hk HDa x0
  have x0 := HDb.out.kc
  have y0 := HDb.out.mb.c 6 (by omega)
  have t0 := HDb.out.mb.f 6 (by omega)
  dsimp only [mf] at y0
  go_upto_region 20 with fail
  have HDa : Hid (Dst w.heap.size g 4 P (.slice ap np pp) (pn rI (pn rI (pn rI (.ok P)))) ⟨4, 0, 0, (pv rI 0 (.ok P)), 0, (pv rI 0 (pn rI (.ok P))), (pv rI 0 (pn rI (pn rI (.ok P)))), []⟩ (.slice none 0 0) w (wc2.setCell ⟨g + 2, 6, none⟩ (.int .i64 (pv rI 0 (pn rI (pn rI (.ok P))))))) := by
    refine HDb.out.put 6 _ _ _ fun j hj => ?_
    rcases less8 hj with rfl | rfl | rfl | rfl | rfl | rfl | rfl | rfl <;> rfl
  clear HDb x0 y0 t0
  generalize wc2.setCell ⟨g + 2, 6, none⟩ (.int .i64 (pv rI 0 (pn rI (pn rI (.ok P))))) = wd2 at *
  clear wc2
  have x0 := HDa.out.kc
  go_wp2_with fail
  refine (refRBytes (g + 1) P _ (pn rI (pn rI (pn rI (.ok P)))) wd2 HP.out.1 HNp.out HDa.out.rr).mono ?_
  rintro e wc3 ⟨vd, rfl, hD, hO, hr, hk⟩
  have HDb : Hid (Dst w.heap.size g 4 P (.slice ap np pp) (pn rB (pn rI (pn rI (pn rI (.ok P))))) ⟨4, 0, 0, (pv rI 0 (.ok P)), 0, (pv rI 0 (pn rI (.ok P))), (pv rI 0 (pn rI (pn rI (.ok P)))), []⟩ (.slice none 0 0) w wc3) := HDa.out.read hr hk
  have HVd : Hid (Bs wc3 vd (pv rB [] (pn rI (pn rI (pn rI (.ok P))))) ∧ Ow w.heap.size vd ∧ Nb vd (g + 2)) := ⟨hD, hO.low (by have := HDa.out.szs; have := HDa.out.lt; omega), ow_apart hO HDa.out.szs⟩
  have HVn0 : Hid (Nb vd w.heap.size) := ow_apart hO (by have := HDa.out.szs; have := HDa.out.lt; omega)
  obtain ⟨av, pw, rfl, -, -⟩ := hD.len
  generalize hnv : (pv rB [] (pn rI (pn rI (pn rI (.ok P))))).length = nv at *
  clear hnv hD hO
  clear hr hk HDa x0
  have x0 := HDb.out.kc
  have y0 := HDb.out.mb.c 7 (by omega)
  have t0 := HDb.out.mb.f 7 (by omega)
  dsimp only [mf] at y0
  go_upto_region 22 with fail
  have HV2 : Hid (Bs (wc3.setCell ⟨g + 2, 7, none⟩ (.slice av nv pw)) (.slice av nv pw) (pv rB [] (pn rI (pn rI (pn rI (.ok P))))) ∧ Ow w.heap.size (.slice av nv pw)) := ⟨Ls.set HVd.out.1 _ _ HVd.out.2.2, HVd.out.2.1⟩
  clear HVd
  have HDa : Hid (Dst w.heap.size g 4 P (.slice ap np pp) (pn rB (pn rI (pn rI (pn rI (.ok P))))) ⟨4, 0, 0, (pv rI 0 (.ok P)), 0, (pv rI 0 (pn rI (.ok P))), (pv rI 0 (pn rI (pn rI (.ok P)))), []⟩ (.slice av nv pw) w (wc3.setCell ⟨g + 2, 7, none⟩ (.slice av nv pw))) := by
    refine HDb.out.put 7 _ _ _ fun j hj => ?_
    rcases less8 hj with rfl | rfl | rfl | rfl | rfl | rfl | rfl | rfl <;> rfl
  clear HDb x0 y0 t0
  generalize wc3.setCell ⟨g + 2, 7, none⟩ (.slice av nv pw) = wd3 at *
  clear wc3
  have x0 := HDa.out.kc
  go_wp2_with fail
  refine (refRDone (g + 1) P _ (pn rB (pn rI (pn rI (pn rI (.ok P))))) wd3 HNp.out HDa.out.rr).mono ?_
  rintro e we ⟨rfl, hbe⟩
  have HDe : Hid (Dst w.heap.size g 4 P (.slice ap np pp) (pn rB (pn rI (pn rI (pn rI (.ok P))))) ⟨4, 0, 0, (pv rI 0 (.ok P)), 0, (pv rI 0 (pn rI (.ok P))), (pv rI 0 (pn rI (pn rI (.ok P)))), []⟩ (.slice av nv pw) w we) := HDa.out.later hbe
  have HVe : Hid (Bs we (.slice av nv pw) (pv rB [] (pn rI (pn rI (pn rI (.ok P))))) ∧ Ow w.heap.size (.slice av nv pw)) := ⟨HV2.out.1.later hbe, HV2.out.2⟩
  clear HV2
  clear HDa x0 hbe
  have HXa : Hid ((rdE (pn rB (pn rI (pn rI (pn rI (.ok P))))) = 0 → Rgt ⟨4, 0, 0, (pv rI 0 (.ok P)), 0, (pv rI 0 (pn rI (.ok P))), (pv rI 0 (pn rI (pn rI (.ok P)))), pv rB [] (pn rI (pn rI (pn rI (.ok P))))⟩ → E = 0 ∧ M = ⟨4, 0, 0, (pv rI 0 (.ok P)), 0, (pv rI 0 (pn rI (.ok P))), (pv rI 0 (pn rI (pn rI (.ok P)))), pv rB [] (pn rI (pn rI (pn rI (.ok P))))⟩) ∧ (¬ (rdE (pn rB (pn rI (pn rI (pn rI (.ok P))))) = 0 ∧ Rgt ⟨4, 0, 0, (pv rI 0 (.ok P)), 0, (pv rI 0 (pn rI (.ok P))), (pv rI 0 (pn rI (pn rI (.ok P)))), pv rB [] (pn rI (pn rI (pn rI (.ok P))))⟩) → E = 140 ∧ M = ms0)) := HX.out
  clear HX
  by_cases hz : rdE (pn rB (pn rI (pn rI (pn rI (.ok P))))) = 0
  · have hzI : ((rdE (pn rB (pn rI (pn rI (pn rI (.ok P))))) : Nat) : Int) = 0 := by omega
    have HZe : Hid (rdE _ = 0) := hz
    rw [hzI]
    clear hz hzI
    have y0 := HDe.out.mb.c 0 (by omega)
    have y1 := HDe.out.mb.c 1 (by omega)
    have y2 := HDe.out.mb.c 2 (by omega)
    have y3 := HDe.out.mb.c 3 (by omega)
    have y4 := HDe.out.mb.c 4 (by omega)
    have y5 := HDe.out.mb.c 5 (by omega)
    have y6 := HDe.out.mb.c 6 (by omega)
    have y7 := HDe.out.mb.c 7 (by omega)
    dsimp only [mf] at y0 y1 y2 y3 y4 y5 y6 y7
    go_wp2_with fail
    refine (refRight14 ⟨4, 0, 0, (pv rI 0 (.ok P)), 0, (pv rI 0 (pn rI (.ok P))), (pv rI 0 (pn rI (pn rI (.ok P)))), pv rB [] (pn rI (pn rI (pn rI (.ok P))))⟩ (.slice av nv pw) we (HVe.out.1)).mono ?_
    rintro e wf ⟨B, rfl, hB, hbf⟩
    have HZ : Hid (Dst w.heap.size g 4 P (.slice ap np pp) (pn rB (pn rI (pn rI (pn rI (.ok P))))) ⟨4, 0, 0, (pv rI 0 (.ok P)), 0, (pv rI 0 (pn rI (.ok P))), (pv rI 0 (pn rI (pn rI (.ok P)))), []⟩ (.slice av nv pw) w wf) := HDe.out.later hbf
    have HV2 : Hid (Bs wf (.slice av nv pw) (pv rB [] (pn rI (pn rI (pn rI (.ok P))))) ∧ Ow w.heap.size (.slice av nv pw)) := ⟨HVe.out.1.later hbf, HVe.out.2⟩
    clear y0 y1 y2 y3 y4 y5 y6 y7 HDe hbf
    cases B with
    | false =>
      have HE : Hid (E = 140 ∧ M = ms0) := HXa.out.2 (fun q => by have := hB.2 q.2; cases this)
      clear hB HXa HZe
      have z0 := HZ.out.rb.c 0 (by omega)
      have t0 := HZ.out.rb.f 0 (by omega)
      have z1 := HZ.out.rb.c 1 (by omega)
      have t1 := HZ.out.rb.f 1 (by omega)
      have z2 := HZ.out.rb.c 2 (by omega)
      have t2 := HZ.out.rb.f 2 (by omega)
      have z3 := HZ.out.rb.c 3 (by omega)
      have t3 := HZ.out.rb.f 3 (by omega)
      have z4 := HZ.out.rb.c 4 (by omega)
      have t4 := HZ.out.rb.f 4 (by omega)
      have z5 := HZ.out.rb.c 5 (by omega)
      have t5 := HZ.out.rb.f 5 (by omega)
      have z6 := HZ.out.rb.c 6 (by omega)
      have t6 := HZ.out.rb.f 6 (by omega)
      have z7 := HZ.out.rb.c 7 (by omega)
      have t7 := HZ.out.rb.f 7 (by omega)
      dsimp only [mf, ms0] at z0 z1 z2 z3 z4 z5 z6 z7
      go_wp2
      have HR := mf_put8 HZ.out.rb ms0 (.slice none 0 0)
      have HBl := below_put8 HZ.out.bl (Nat.le_refl _) (.int .i64 0) (.int .i64 0) (.int .i64 0) (.int .i64 0) (.int .i64 0) (.int .i64 0) (.int .i64 0) (.slice none 0 0)
      dsimp only [ms0] at HR
      clear z0 z1 z2 z3 z4 z5 z6 z7 t0 t1 t2 t3 t4 t5 t6 t7 HZ
      generalize World.setCell _ ⟨w.heap.size, 7, none⟩ (.slice none 0 0) = wZ at *
      have z0 := HR.c 0 (by omega)
      have z1 := HR.c 1 (by omega)
      have z2 := HR.c 2 (by omega)
      have z3 := HR.c 3 (by omega)
      have z4 := HR.c 4 (by omega)
      have z5 := HR.c 5 (by omega)
      have z6 := HR.c 6 (by omega)
      have z7 := HR.c 7 (by omega)
      dsimp only [mf] at z0 z1 z2 z3 z4 z5 z6 z7
      obtain ⟨rfl, rfl⟩ := HE.out
      exact bodyPost_ret (v := .tuple #[.agg #[.int .i64 0, .int .i64 0, .int .i64 0, .int .i64 0, .int .i64 0, .int .i64 0, .int .i64 0, .slice none 0 0], .int .i64 140]) (by simp [results, Tryd.results15, go_sem, z0, z1, z2, z3, z4, z5, z6, z7]) rfl ⟨.slice none 0 0, rfl, bs_nil14 _, ow_nil14 _, HBl⟩
    | true =>
      have HE : Hid (E = 0 ∧ M = ⟨4, 0, 0, (pv rI 0 (.ok P)), 0, (pv rI 0 (pn rI (.ok P))), (pv rI 0 (pn rI (pn rI (.ok P)))), pv rB [] (pn rI (pn rI (pn rI (.ok P))))⟩) := HXa.out.1 HZe.out (hB.1 rfl)
      have HVn : Hid (Nb (.slice av nv pw) w.heap.size) := HVn0.out
      clear hB HXa HZe
      have z0 := HZ.out.rb.c 0 (by omega)
      have t0 := HZ.out.rb.f 0 (by omega)
      have y0 := HZ.out.mb.c 0 (by omega)
      have z1 := HZ.out.rb.c 1 (by omega)
      have t1 := HZ.out.rb.f 1 (by omega)
      have y1 := HZ.out.mb.c 1 (by omega)
      have z2 := HZ.out.rb.c 2 (by omega)
      have t2 := HZ.out.rb.f 2 (by omega)
      have y2 := HZ.out.mb.c 2 (by omega)
      have z3 := HZ.out.rb.c 3 (by omega)
      have t3 := HZ.out.rb.f 3 (by omega)
      have y3 := HZ.out.mb.c 3 (by omega)
      have z4 := HZ.out.rb.c 4 (by omega)
      have t4 := HZ.out.rb.f 4 (by omega)
      have y4 := HZ.out.mb.c 4 (by omega)
      have z5 := HZ.out.rb.c 5 (by omega)
      have t5 := HZ.out.rb.f 5 (by omega)
      have y5 := HZ.out.mb.c 5 (by omega)
      have z6 := HZ.out.rb.c 6 (by omega)
      have t6 := HZ.out.rb.f 6 (by omega)
      have y6 := HZ.out.mb.c 6 (by omega)
      have z7 := HZ.out.rb.c 7 (by omega)
      have t7 := HZ.out.rb.f 7 (by omega)
      have y7 := HZ.out.mb.c 7 (by omega)
      dsimp only [mf, ms0] at z0 z1 z2 z3 z4 z5 z6 z7 y0 y1 y2 y3 y4 y5 y6 y7
      go_wp2
      have HR := mf_put8 HZ.out.rb ⟨4, 0, 0, (pv rI 0 (.ok P)), 0, (pv rI 0 (pn rI (.ok P))), (pv rI 0 (pn rI (pn rI (.ok P)))), pv rB [] (pn rI (pn rI (pn rI (.ok P))))⟩ (.slice av nv pw)
      have HBl := below_put8 HZ.out.bl (Nat.le_refl _) (.int .i64 4) (.int .i64 0) (.int .i64 0) (.int .i64 (pv rI 0 (.ok P))) (.int .i64 0) (.int .i64 (pv rI 0 (pn rI (.ok P)))) (.int .i64 (pv rI 0 (pn rI (pn rI (.ok P))))) (.slice av nv pw)
      dsimp only at HR
      have HVz := bs_put8 HV2.out.1 w.heap.size HVn.out (.int .i64 4) (.int .i64 0) (.int .i64 0) (.int .i64 (pv rI 0 (.ok P))) (.int .i64 0) (.int .i64 (pv rI 0 (pn rI (.ok P)))) (.int .i64 (pv rI 0 (pn rI (pn rI (.ok P))))) (.slice av nv pw)
      clear z0 z1 z2 z3 z4 z5 z6 z7 t0 t1 t2 t3 t4 t5 t6 t7 y0 y1 y2 y3 y4 y5 y6 y7 HZ
      generalize World.setCell _ ⟨w.heap.size, 7, none⟩ (.slice av nv pw) = wZ at *
      have z0 := HR.c 0 (by omega)
      have z1 := HR.c 1 (by omega)
      have z2 := HR.c 2 (by omega)
      have z3 := HR.c 3 (by omega)
      have z4 := HR.c 4 (by omega)
      have z5 := HR.c 5 (by omega)
      have z6 := HR.c 6 (by omega)
      have z7 := HR.c 7 (by omega)
      dsimp only [mf] at z0 z1 z2 z3 z4 z5 z6 z7
      obtain ⟨rfl, rfl⟩ := HE.out
      exact bodyPost_ret (v := .tuple #[.agg #[.int .i64 4, .int .i64 0, .int .i64 0, .int .i64 (pv rI 0 (.ok P)), .int .i64 0, .int .i64 (pv rI 0 (pn rI (.ok P))), .int .i64 (pv rI 0 (pn rI (pn rI (.ok P)))), (.slice av nv pw)], .int .i64 0]) (by simp [results, Tryd.results15, go_sem, z0, z1, z2, z3, z4, z5, z6, z7]) rfl ⟨(.slice av nv pw), rfl, HVz, HV2.out.2, HBl⟩
  · have hzI : ¬ ((rdE (pn rB (pn rI (pn rI (pn rI (.ok P))))) : Nat) : Int) = 0 := by omega
    have HE : Hid (E = 140 ∧ M = ms0) := HXa.out.2 (fun q => hz q.1)
    have HZ := HDe
    clear HDe HXa hz
    generalize rdE (pn rB (pn rI (pn rI (pn rI (.ok P))))) = er at *
    have z0 := HZ.out.rb.c 0 (by omega)
    have t0 := HZ.out.rb.f 0 (by omega)
    have z1 := HZ.out.rb.c 1 (by omega)
    have t1 := HZ.out.rb.f 1 (by omega)
    have z2 := HZ.out.rb.c 2 (by omega)
    have t2 := HZ.out.rb.f 2 (by omega)
    have z3 := HZ.out.rb.c 3 (by omega)
    have t3 := HZ.out.rb.f 3 (by omega)
    have z4 := HZ.out.rb.c 4 (by omega)
    have t4 := HZ.out.rb.f 4 (by omega)
    have z5 := HZ.out.rb.c 5 (by omega)
    have t5 := HZ.out.rb.f 5 (by omega)
    have z6 := HZ.out.rb.c 6 (by omega)
    have t6 := HZ.out.rb.f 6 (by omega)
    have z7 := HZ.out.rb.c 7 (by omega)
    have t7 := HZ.out.rb.f 7 (by omega)
    dsimp only [mf, ms0] at z0 z1 z2 z3 z4 z5 z6 z7
    go_wp2
    have HR := mf_put8 HZ.out.rb ms0 (.slice none 0 0)
    have HBl := below_put8 HZ.out.bl (Nat.le_refl _) (.int .i64 0) (.int .i64 0) (.int .i64 0) (.int .i64 0) (.int .i64 0) (.int .i64 0) (.int .i64 0) (.slice none 0 0)
    dsimp only [ms0] at HR
    clear z0 z1 z2 z3 z4 z5 z6 z7 t0 t1 t2 t3 t4 t5 t6 t7 HZ
    generalize World.setCell _ ⟨w.heap.size, 7, none⟩ (.slice none 0 0) = wZ at *
    have z0 := HR.c 0 (by omega)
    have z1 := HR.c 1 (by omega)
    have z2 := HR.c 2 (by omega)
    have z3 := HR.c 3 (by omega)
    have z4 := HR.c 4 (by omega)
    have z5 := HR.c 5 (by omega)
    have z6 := HR.c 6 (by omega)
    have z7 := HR.c 7 (by omega)
    dsimp only [mf] at z0 z1 z2 z3 z4 z5 z6 z7
    obtain ⟨rfl, rfl⟩ := HE.out
    exact bodyPost_ret (v := .tuple #[.agg #[.int .i64 0, .int .i64 0, .int .i64 0, .int .i64 0, .int .i64 0, .int .i64 0, .int .i64 0, .slice none 0 0], .int .i64 140]) (by simp [results, Tryd.results15, go_sem, z0, z1, z2, z3, z4, z5, z6, z7]) rfl ⟨.slice none 0 0, rfl, bs_nil14 _, ow_nil14 _, HBl⟩
end Go.Proofs.YtfcbgkcclganmaaDoor
set_option linter.unusedVariables false
set_option linter.unusedSimpArgs false
namespace Go.Proofs.YtfcbgkcclganmaaDoor
open Go.RowKit

set_option maxRecDepth 100000 in
set_option maxHeartbeats 8000000 in
theorem refDec5 (v : Value) (l : List Nat) (hb : ∀ c ∈ l, c < 256) (hl : l.length ≤ 90000) (w : World) (h : Bs w v l) (hE : opE l = 0) (hN : ¬ opN l < l.length) (hk : opK l = 5) :
    Calls Tryd.prog 15 #[v] w fun e w' => ∃ vd, e = .returned (.tuple #[msV (dcM l) vd, .int .i64 ((dcE l : Nat) : Int)]) ∧ Bs w' vd (dcM l).d ∧ Ow w.heap.size vd ∧ Below w.heap.size w w' := by
  have C := refOpen v l hb hl
  rw [hE, hk] at C
  have HP : Hid ((∀ c ∈ opP l, c < 256) ∧ (opP l).length ≤ 1000000) := ⟨opP_byte hb, by have := opP_len l; omega⟩
  have HX : Hid ((rdE (rdD 5 (opP l)) = 0 → Rgt (rdM 5 (opP l)) → dcE l = 0 ∧ dcM l = rdM 5 (opP l)) ∧ (¬ (rdE (rdD 5 (opP l)) = 0 ∧ Rgt (rdM 5 (opP l))) → dcE l = 140 ∧ dcM l = ms0)) := by
    have e : ((opK l : Nat) : Int) = 5 := by rw [hk]; rfl
    refine ⟨fun q1 q2 => ?_, fun q => ?_⟩
    · have := dc_yes hE hN (by rw [e]; exact ⟨by omega, by omega, q1, q2⟩)
      rw [e] at this
      exact this
    · exact dc_no hE hN (by rw [e]; exact fun r => q ⟨r.2.2.1, r.2.2.2⟩)
  have hNI : ¬ ((opN l : Nat) : Int) < ((l.length : Nat) : Int) := by omega
  have HL : Hid (Bs w v l) := h
  obtain ⟨ad, cap, rfl, -, -⟩ := h.len
  generalize dcE l = E at *
  generalize dcM l = M at *
  generalize opP l = P at *
  generalize opN l = N at *
  clear h hE hN hk hb hl
  obtain ⟨wA, hwA⟩ : ∃ wA, wA = w.alloc (.cells #[.int .i64 0, .int .i64 0, .int .i64 0, .int .i64 0, .int .i64 0, .int .i64 0, .int .i64 0, .slice none 0 0] 26) := ⟨_, rfl⟩
  have HA : Hid (Rw w.heap.size 8 (mf ms0 (.slice none 0 0)) wA ∧ Below w.heap.size w wA ∧ wA.heap.size = w.heap.size + 1) := by rw [hwA]; exact ⟨mf_new w ms0 _ _, bel1 _ _, by simp⟩
  go_enter Tryd.func15, Tryd.ntmps15
  go_wp2_with fail
  rw [← hwA]
  refine (C wA (HL.out.later HA.out.2.1)).mono ?_
  clear C hwA
  rintro e w1 ⟨vp, rfl, hP, hO, hB⟩
  have hAs := HA.out.2.2
  have hBs := hB.size
  have HB : Hid (Bs w1 vp P ∧ Lo w1.heap.size vp ∧ Rw w.heap.size 8 (mf ms0 (.slice none 0 0)) w1 ∧ Below w.heap.size w w1 ∧ w.heap.size < w1.heap.size) := ⟨hP, Ls.lo hP, HA.out.1.later hB, bchain HA.out.2.1 hB, by omega⟩
  obtain ⟨ap, pp, rfl, -, -⟩ := hP.len
  clear hP hO hB HA HL hAs hBs
  generalize hnp : P.length = np at *
  have HNp : Hid (P.length ≤ 1000000) := by show _ ≤ _; rw [hnp]; exact HP.out.2
  clear hnp
  obtain ⟨wB, hwB⟩ : ∃ wB, wB = ((w1.alloc (.cells #[.int .i64 5, .slice ap np pp] 66)).alloc (.cells #[.slice ap np pp, .int .i64 0, .int .i64 0] 71)).alloc (.cells #[.int .i64 5, .int .i64 0, .int .i64 0, .int .i64 0, .int .i64 0, .int .i64 0, .int .i64 0, .slice none 0 0] 26) := ⟨_, rfl⟩
  have HD0 : Hid (Dst w.heap.size w1.heap.size 5 P (.slice ap np pp) (.ok P) ⟨5, 0, 0, 0, 0, 0, 0, []⟩ (.slice none 0 0) w wB) := by
    rw [hwB]
    obtain ⟨wF, hwF⟩ : ∃ wF, wF = w1.alloc (.cells #[.int .i64 5, .slice ap np pp] 66) := ⟨_, rfl⟩
    have sF : wF.heap.size = w1.heap.size + 1 := by rw [hwF]; simp
    have bF : Below w1.heap.size w1 wF := by rw [hwF]; exact bel1 _ _
    have cF : wF.cell? ⟨w1.heap.size, 0, none⟩ = some (.int .i64 5) := by rw [hwF]; simp [go_sem]
    rw [← hwF]
    clear hwF hwB
    obtain ⟨wG, hwG⟩ : ∃ wG, wG = wF.alloc (.cells #[.slice ap np pp, .int .i64 0, .int .i64 0] 71) := ⟨_, rfl⟩
    have sG : wG.heap.size = w1.heap.size + 2 := by rw [hwG]; simp [sF]
    have bG : Below wF.heap.size wF wG := by rw [hwG]; exact bel1 _ _
    have rG : R0 (w1.heap.size + 1) P (.slice ap np pp) 0 0 wG := by
      have := HB.out.1.later bF
      rw [hwG, ← sF]
      exact ⟨by simp [go_sem], by simp [go_sem], by simp [go_sem], by simp [go_sem], by simp [go_sem], this.later (bel1 _ _), Ls.nb this (Nat.le_refl _), Nat.zero_le _⟩
    rw [← hwG]
    clear hwG
    have mG := mf_new wG ⟨5, 0, 0, 0, 0, 0, 0, []⟩ (.slice none 0 0) 26
    rw [sG] at mG
    have bH : ∀ o, Below w1.heap.size w1 (wG.alloc o) := fun o => bchain (bchain bF bG) (bel1 _ _)
    exact ⟨cell_later (bel1 _ _) (cell_later bG cF), ⟨0, 0, rG.later (bel1 _ _), rfl, rfl⟩, mG, HB.out.2.2.1.later (bH _), HB.out.2.1, HB.out.2.2.2.2, bchain HB.out.2.2.2.1 (bH _)⟩
  go_upto_region 8 with fail
  rw [← hwB]
  clear hwB HB
  generalize hg : w1.heap.size = g at *
  clear hg w1
  have HDa := HD0
  clear HD0
  have x0 := HDa.out.kc
  go_wp2_with fail
  refine (refRInt (g + 1) P _ (.ok P) wB HP.out.1 HNp.out HDa.out.rr).mono ?_
  rintro e wc0 ⟨rfl, hr, hk⟩
  have HDb : Hid (Dst w.heap.size g 5 P (.slice ap np pp) (pn rI (.ok P)) ⟨5, 0, 0, 0, 0, 0, 0, []⟩ (.slice none 0 0) w wc0) := HDa.out.read hr hk
  clear hr hk HDa x0
  have x0 := HDb.out.kc
  have y0 := HDb.out.mb.c 1 (by omega)
  have t0 := HDb.out.mb.f 1 (by omega)
  dsimp only [mf] at y0
  go_upto_region 10 with fail
  have HDa : Hid (Dst w.heap.size g 5 P (.slice ap np pp) (pn rI (.ok P)) ⟨5, (pv rI 0 (.ok P)), 0, 0, 0, 0, 0, []⟩ (.slice none 0 0) w (wc0.setCell ⟨g + 2, 1, none⟩ (.int .i64 (pv rI 0 (.ok P))))) := by
    refine HDb.out.put 1 _ _ _ fun j hj => ?_
    rcases less8 hj with rfl | rfl | rfl | rfl | rfl | rfl | rfl | rfl <;> rfl
  clear HDb x0 y0 t0
  generalize wc0.setCell ⟨g + 2, 1, none⟩ (.int .i64 (pv rI 0 (.ok P))) = wd0 at *
  clear wc0
  have x0 := HDa.out.kc
  go_wp2_with fail
  refine (refRInt (g + 1) P _ (pn rI (.ok P)) wd0 HP.out.1 HNp.out HDa.out.rr).mono ?_
  rintro e wc1 ⟨rfl, hr, hk⟩
  have HDb : Hid (Dst w.heap.size g 5 P (.slice ap np pp) (pn rI (pn rI (.ok P))) ⟨5, (pv rI 0 (.ok P)), 0, 0, 0, 0, 0, []⟩ (.slice none 0 0) w wc1) := HDa.out.read hr hk
  clear hr hk HDa x0
  have x0 := HDb.out.kc
  have y0 := HDb.out.mb.c 2 (by omega)
  have t0 := HDb.out.mb.f 2 (by omega)
  dsimp only [mf] at y0
  go_upto_region 12 with fail
  have HDa : Hid (Dst w.heap.size g 5 P (.slice ap np pp) (pn rI (pn rI (.ok P))) ⟨5, (pv rI 0 (.ok P)), (pv rI 0 (pn rI (.ok P))), 0, 0, 0, 0, []⟩ (.slice none 0 0) w (wc1.setCell ⟨g + 2, 2, none⟩ (.int .i64 (pv rI 0 (pn rI (.ok P)))))) := by
    refine HDb.out.put 2 _ _ _ fun j hj => ?_
    rcases less8 hj with rfl | rfl | rfl | rfl | rfl | rfl | rfl | rfl <;> rfl
  clear HDb x0 y0 t0
  generalize wc1.setCell ⟨g + 2, 2, none⟩ (.int .i64 (pv rI 0 (pn rI (.ok P)))) = wd1 at *
  clear wc1
  have x0 := HDa.out.kc
  go_wp2_with fail
  refine (refRInt (g + 1) P _ (pn rI (pn rI (.ok P))) wd1 HP.out.1 HNp.out HDa.out.rr).mono ?_
  rintro e wc2 ⟨rfl, hr, hk⟩
  have HDb : Hid (Dst w.heap.size g 5 P (.slice ap np pp) (pn rI (pn rI (pn rI (.ok P)))) ⟨5, (pv rI 0 (.ok P)), (pv rI 0 (pn rI (.ok P))), 0, 0, 0, 0, []⟩ (.slice none 0 0) w wc2) := HDa.out.read hr hk
  clear hr hk HDa x0
  have x0 := HDb.out.kc
  have y0 := HDb.out.mb.c 3 (by omega)
  have t0 := HDb.out.mb.f 3 (by omega)
  dsimp only [mf] at y0
  go_upto_region 14 with fail
  have HDa : Hid (Dst w.heap.size g 5 P (.slice ap np pp) (pn rI (pn rI (pn rI (.ok P)))) ⟨5, (pv rI 0 (.ok P)), (pv rI 0 (pn rI (.ok P))), (pv rI 0 (pn rI (pn rI (.ok P)))), 0, 0, 0, []⟩ (.slice none 0 0) w (wc2.setCell ⟨g + 2, 3, none⟩ (.int .i64 (pv rI 0 (pn rI (pn rI (.ok P))))))) := by
    refine HDb.out.put 3 _ _ _ fun j hj => ?_
    rcases less8 hj with rfl | rfl | rfl | rfl | rfl | rfl | rfl | rfl <;> rfl
  clear HDb x0 y0 t0
  generalize wc2.setCell ⟨g + 2, 3, none⟩ (.int .i64 (pv rI 0 (pn rI (pn rI (.ok P))))) = wd2 at *
  clear wc2
  have x0 := HDa.out.kc
  go_wp2_with fail
  refine (refRInt (g + 1) P _ (pn rI (pn rI (pn rI (.ok P)))) wd2 HP.out.1 HNp.out HDa.out.rr).mono ?_
  rintro e wc3 ⟨rfl, hr, hk⟩
  have HDb : Hid (Dst w.heap.size g 5 P (.slice ap np pp) (pn rI (pn rI (pn rI (pn rI (.ok P))))) ⟨5, (pv rI 0 (.ok P)), (pv rI 0 (pn rI (.ok P))), (pv rI 0 (pn rI (pn rI (.ok P)))), 0, 0, 0, []⟩ (.slice none 0 0) w wc3) := HDa.out.read hr hk
  clear hr hk HDa x0
  have x0 := HDb.out.kc
  have y0 := HDb.out.mb.c 5 (by omega)
  have t0 := HDb.out.mb.f 5 (by omega)
  dsimp only [mf] at y0
  go_upto_region 18 with fail
  have HDa : Hid (Dst w.heap.size g 5 P (.slice ap np pp) (pn rI (pn rI (pn rI (pn rI (.ok P))))) ⟨5, (pv rI 0 (.ok P)), (pv rI 0 (pn rI (.ok P))), (pv rI 0 (pn rI (pn rI (.ok P)))), 0, (pv rI 0 (pn rI (pn rI (pn rI (.ok P))))), 0, []⟩ (.slice none 0 0) w (wc3.setCell ⟨g + 2, 5, none⟩ (.int .i64 (pv rI 0 (pn rI (pn rI (pn rI (.ok P)))))))) := by
    refine HDb.out.put 5 _ _ _ fun j hj => ?_
    rcases less8 hj with rfl | rfl | rfl | rfl | rfl | rfl | rfl | rfl <;> rfl
  clear HDb x0 y0 t0
  generalize wc3.setCell ⟨g + 2, 5, none⟩ (.int .i64 (pv rI 0 (pn rI (pn rI (pn rI (.ok P)))))) = wd3 at *
  clear wc3
  have x0 := HDa.out.kc
  go_wp2_with fail
  refine (refRInt (g + 1) P _ (pn rI (pn rI (pn rI (pn rI (.ok P))))) wd3 HP.out.1 HNp.out HDa.out.rr).mono ?_
  rintro e wc4 ⟨rfl, hr, hk⟩
  have HDb : Hid (Dst w.heap.size g 5 P (.slice ap np pp) (pn rI (pn rI (pn rI (pn rI (pn rI (.ok P)))))) ⟨5, (pv rI 0 (.ok P)), (pv rI 0 (pn rI (.ok P))), (pv rI 0 (pn rI (pn rI (.ok P)))), 0, (pv rI 0 (pn rI (pn rI (pn rI (.ok P))))), 0, []⟩ (.slice none 0 0) w wc4) := HDa.out.read hr hk
  clear hr hk HDa x0
  have x0 := HDb.out.kc
  have y0 := HDb.out.mb.c 6 (by omega)
  have t0 := HDb.out.mb.f 6 (by omega)
  dsimp only [mf] at y0
  go_upto_region 20 with fail
  have HDa : Hid (Dst w.heap.size g 5 P (.slice ap np pp) (pn rI (pn rI (pn rI (pn rI (pn rI (.ok P)))))) ⟨5, (pv rI 0 (.ok P)), (pv rI 0 (pn rI (.ok P))), (pv rI 0 (pn rI (pn rI (.ok P)))), 0, (pv rI 0 (pn rI (pn rI (pn rI (.ok P))))), (pv rI 0 (pn rI (pn rI (pn rI (pn rI (.ok P)))))), []⟩ (.slice none 0 0) w (wc4.setCell ⟨g + 2, 6, none⟩ (.int .i64 (pv rI 0 (pn rI (pn rI (pn rI (pn rI (.ok P))))))))) := by
    refine HDb.out.put 6 _ _ _ fun j hj => ?_
    rcases less8 hj with rfl | rfl | rfl | rfl | rfl | rfl | rfl | rfl <;> rfl
  clear HDb x0 y0 t0
  generalize wc4.setCell ⟨g + 2, 6, none⟩ (.int .i64 (pv rI 0 (pn rI (pn rI (pn rI (pn rI (.ok P))))))) = wd4 at *
  clear wc4
  have x0 := HDa.out.kc
  go_wp2_with fail
  refine (refRBytes (g + 1) P _ (pn rI (pn rI (pn rI (pn rI (pn rI (.ok P)))))) wd4 HP.out.1 HNp.out HDa.out.rr).mono ?_
  rintro e wc5 ⟨vd, rfl, hD, hO, hr, hk⟩
  have HDb : Hid (Dst w.heap.size g 5 P (.slice ap np pp) (pn rB (pn rI (pn rI (pn rI (pn rI (pn rI (.ok P))))))) ⟨5, (pv rI 0 (.ok P)), (pv rI 0 (pn rI (.ok P))), (pv rI 0 (pn rI (pn rI (.ok P)))), 0, (pv rI 0 (pn rI (pn rI (pn rI (.ok P))))), (pv rI 0 (pn rI (pn rI (pn rI (pn rI (.ok P)))))), []⟩ (.slice none 0 0) w wc5) := HDa.out.read hr hk
  have HVd : Hid (Bs wc5 vd (pv rB [] (pn rI (pn rI (pn rI (pn rI (pn rI (.ok P))))))) ∧ Ow w.heap.size vd ∧ Nb vd (g + 2)) := ⟨hD, hO.low (by have := HDa.out.szs; have := HDa.out.lt; omega), ow_apart hO HDa.out.szs⟩
  have HVn0 : Hid (Nb vd w.heap.size) := ow_apart hO (by have := HDa.out.szs; have := HDa.out.lt; omega)
  obtain ⟨av, pw, rfl, -, -⟩ := hD.len
  generalize hnv : (pv rB [] (pn rI (pn rI (pn rI (pn rI (pn rI (.ok P))))))).length = nv at *
  clear hnv hD hO
  clear hr hk HDa x0
  have x0 := HDb.out.kc
  have y0 := HDb.out.mb.c 7 (by omega)
  have t0 := HDb.out.mb.f 7 (by omega)
  dsimp only [mf] at y0
  go_upto_region 22 with fail
  have HV2 : Hid (Bs (wc5.setCell ⟨g + 2, 7, none⟩ (.slice av nv pw)) (.slice av nv pw) (pv rB [] (pn rI (pn rI (pn rI (pn rI (pn rI (.ok P))))))) ∧ Ow w.heap.size (.slice av nv pw)) := ⟨Ls.set HVd.out.1 _ _ HVd.out.2.2, HVd.out.2.1⟩
  clear HVd
  have HDa : Hid (Dst w.heap.size g 5 P (.slice ap np pp) (pn rB (pn rI (pn rI (pn rI (pn rI (pn rI (.ok P))))))) ⟨5, (pv rI 0 (.ok P)), (pv rI 0 (pn rI (.ok P))), (pv rI 0 (pn rI (pn rI (.ok P)))), 0, (pv rI 0 (pn rI (pn rI (pn rI (.ok P))))), (pv rI 0 (pn rI (pn rI (pn rI (pn rI (.ok P)))))), []⟩ (.slice av nv pw) w (wc5.setCell ⟨g + 2, 7, none⟩ (.slice av nv pw))) := by
    refine HDb.out.put 7 _ _ _ fun j hj => ?_
    rcases less8 hj with rfl | rfl | rfl | rfl | rfl | rfl | rfl | rfl <;> rfl
  clear HDb x0 y0 t0
  generalize wc5.setCell ⟨g + 2, 7, none⟩ (.slice av nv pw) = wd5 at *
  clear wc5
  have x0 := HDa.out.kc
  go_wp2_with fail
  refine (refRDone (g + 1) P _ (pn rB (pn rI (pn rI (pn rI (pn rI (pn rI (.ok P))))))) wd5 HNp.out HDa.out.rr).mono ?_
  rintro e we ⟨rfl, hbe⟩
  have HDe : Hid (Dst w.heap.size g 5 P (.slice ap np pp) (pn rB (pn rI (pn rI (pn rI (pn rI (pn rI (.ok P))))))) ⟨5, (pv rI 0 (.ok P)), (pv rI 0 (pn rI (.ok P))), (pv rI 0 (pn rI (pn rI (.ok P)))), 0, (pv rI 0 (pn rI (pn rI (pn rI (.ok P))))), (pv rI 0 (pn rI (pn rI (pn rI (pn rI (.ok P)))))), []⟩ (.slice av nv pw) w we) := HDa.out.later hbe
  have HVe : Hid (Bs we (.slice av nv pw) (pv rB [] (pn rI (pn rI (pn rI (pn rI (pn rI (.ok P))))))) ∧ Ow w.heap.size (.slice av nv pw)) := ⟨HV2.out.1.later hbe, HV2.out.2⟩
  clear HV2
  clear HDa x0 hbe
  have HXa : Hid ((rdE (pn rB (pn rI (pn rI (pn rI (pn rI (pn rI (.ok P))))))) = 0 → Rgt ⟨5, (pv rI 0 (.ok P)), (pv rI 0 (pn rI (.ok P))), (pv rI 0 (pn rI (pn rI (.ok P)))), 0, (pv rI 0 (pn rI (pn rI (pn rI (.ok P))))), (pv rI 0 (pn rI (pn rI (pn rI (pn rI (.ok P)))))), pv rB [] (pn rI (pn rI (pn rI (pn rI (pn rI (.ok P))))))⟩ → E = 0 ∧ M = ⟨5, (pv rI 0 (.ok P)), (pv rI 0 (pn rI (.ok P))), (pv rI 0 (pn rI (pn rI (.ok P)))), 0, (pv rI 0 (pn rI (pn rI (pn rI (.ok P))))), (pv rI 0 (pn rI (pn rI (pn rI (pn rI (.ok P)))))), pv rB [] (pn rI (pn rI (pn rI (pn rI (pn rI (.ok P))))))⟩) ∧ (¬ (rdE (pn rB (pn rI (pn rI (pn rI (pn rI (pn rI (.ok P))))))) = 0 ∧ Rgt ⟨5, (pv rI 0 (.ok P)), (pv rI 0 (pn rI (.ok P))), (pv rI 0 (pn rI (pn rI (.ok P)))), 0, (pv rI 0 (pn rI (pn rI (pn rI (.ok P))))), (pv rI 0 (pn rI (pn rI (pn rI (pn rI (.ok P)))))), pv rB [] (pn rI (pn rI (pn rI (pn rI (pn rI (.ok P))))))⟩) → E = 140 ∧ M = ms0)) := HX.out
  clear HX
  by_cases hz : rdE (pn rB (pn rI (pn rI (pn rI (pn rI (pn rI (.ok P))))))) = 0
  · have hzI : ((rdE (pn rB (pn rI (pn rI (pn rI (pn rI (pn rI (.ok P))))))) : Nat) : Int) = 0 := by omega
    have HZe : Hid (rdE _ = 0) := hz
    rw [hzI]
    clear hz hzI
    have y0 := HDe.out.mb.c 0 (by omega)
    have y1 := HDe.out.mb.c 1 (by omega)
    have y2 := HDe.out.mb.c 2 (by omega)
    have y3 := HDe.out.mb.c 3 (by omega)
    have y4 := HDe.out.mb.c 4 (by omega)
    have y5 := HDe.out.mb.c 5 (by omega)
    have y6 := HDe.out.mb.c 6 (by omega)
    have y7 := HDe.out.mb.c 7 (by omega)
    dsimp only [mf] at y0 y1 y2 y3 y4 y5 y6 y7
    go_wp2_with fail
    refine (refRight14 ⟨5, (pv rI 0 (.ok P)), (pv rI 0 (pn rI (.ok P))), (pv rI 0 (pn rI (pn rI (.ok P)))), 0, (pv rI 0 (pn rI (pn rI (pn rI (.ok P))))), (pv rI 0 (pn rI (pn rI (pn rI (pn rI (.ok P)))))), pv rB [] (pn rI (pn rI (pn rI (pn rI (pn rI (.ok P))))))⟩ (.slice av nv pw) we (HVe.out.1)).mono ?_
    rintro e wf ⟨B, rfl, hB, hbf⟩
    have HZ : Hid (Dst w.heap.size g 5 P (.slice ap np pp) (pn rB (pn rI (pn rI (pn rI (pn rI (pn rI (.ok P))))))) ⟨5, (pv rI 0 (.ok P)), (pv rI 0 (pn rI (.ok P))), (pv rI 0 (pn rI (pn rI (.ok P)))), 0, (pv rI 0 (pn rI (pn rI (pn rI (.ok P))))), (pv rI 0 (pn rI (pn rI (pn rI (pn rI (.ok P)))))), []⟩ (.slice av nv pw) w wf) := HDe.out.later hbf
    have HV2 : Hid (Bs wf (.slice av nv pw) (pv rB [] (pn rI (pn rI (pn rI (pn rI (pn rI (.ok P))))))) ∧ Ow w.heap.size (.slice av nv pw)) := ⟨HVe.out.1.later hbf, HVe.out.2⟩
    clear y0 y1 y2 y3 y4 y5 y6 y7 HDe hbf
    cases B with
    | false =>
      have HE : Hid (E = 140 ∧ M = ms0) := HXa.out.2 (fun q => by have := hB.2 q.2; cases this)
      clear hB HXa HZe
      have z0 := HZ.out.rb.c 0 (by omega)
      have t0 := HZ.out.rb.f 0 (by omega)
      have z1 := HZ.out.rb.c 1 (by omega)
      have t1 := HZ.out.rb.f 1 (by omega)
      have z2 := HZ.out.rb.c 2 (by omega)
      have t2 := HZ.out.rb.f 2 (by omega)
      have z3 := HZ.out.rb.c 3 (by omega)
      have t3 := HZ.out.rb.f 3 (by omega)
      have z4 := HZ.out.rb.c 4 (by omega)
      have t4 := HZ.out.rb.f 4 (by omega)
      have z5 := HZ.out.rb.c 5 (by omega)
      have t5 := HZ.out.rb.f 5 (by omega)
      have z6 := HZ.out.rb.c 6 (by omega)
      have t6 := HZ.out.rb.f 6 (by omega)
      have z7 := HZ.out.rb.c 7 (by omega)
      have t7 := HZ.out.rb.f 7 (by omega)
      dsimp only [mf, ms0] at z0 z1 z2 z3 z4 z5 z6 z7
      go_wp2
      have HR := mf_put8 HZ.out.rb ms0 (.slice none 0 0)
      have HBl := below_put8 HZ.out.bl (Nat.le_refl _) (.int .i64 0) (.int .i64 0) (.int .i64 0) (.int .i64 0) (.int .i64 0) (.int .i64 0) (.int .i64 0) (.slice none 0 0)
      dsimp only [ms0] at HR
      clear z0 z1 z2 z3 z4 z5 z6 z7 t0 t1 t2 t3 t4 t5 t6 t7 HZ
      generalize World.setCell _ ⟨w.heap.size, 7, none⟩ (.slice none 0 0) = wZ at *
      have z0 := HR.c 0 (by omega)
      have z1 := HR.c 1 (by omega)
      have z2 := HR.c 2 (by omega)
      have z3 := HR.c 3 (by omega)
      have z4 := HR.c 4 (by omega)
      have z5 := HR.c 5 (by omega)
      have z6 := HR.c 6 (by omega)
      have z7 := HR.c 7 (by omega)
      dsimp only [mf] at z0 z1 z2 z3 z4 z5 z6 z7
      obtain ⟨rfl, rfl⟩ := HE.out
      exact bodyPost_ret (v := .tuple #[.agg #[.int .i64 0, .int .i64 0, .int .i64 0, .int .i64 0, .int .i64 0, .int .i64 0, .int .i64 0, .slice none 0 0], .int .i64 140]) (by simp [results, Tryd.results15, go_sem, z0, z1, z2, z3, z4, z5, z6, z7]) rfl ⟨.slice none 0 0, rfl, bs_nil14 _, ow_nil14 _, HBl⟩
    | true =>
      have HE : Hid (E = 0 ∧ M = ⟨5, (pv rI 0 (.ok P)), (pv rI 0 (pn rI (.ok P))), (pv rI 0 (pn rI (pn rI (.ok P)))), 0, (pv rI 0 (pn rI (pn rI (pn rI (.ok P))))), (pv rI 0 (pn rI (pn rI (pn rI (pn rI (.ok P)))))), pv rB [] (pn rI (pn rI (pn rI (pn rI (pn rI (.ok P))))))⟩) := HXa.out.1 HZe.out (hB.1 rfl)
      have HVn : Hid (Nb (.slice av nv pw) w.heap.size) := HVn0.out
      clear hB HXa HZe
      have z0 := HZ.out.rb.c 0 (by omega)
      have t0 := HZ.out.rb.f 0 (by omega)
      have y0 := HZ.out.mb.c 0 (by omega)
      have z1 := HZ.out.rb.c 1 (by omega)
      have t1 := HZ.out.rb.f 1 (by omega)
      have y1 := HZ.out.mb.c 1 (by omega)
      have z2 := HZ.out.rb.c 2 (by omega)
      have t2 := HZ.out.rb.f 2 (by omega)
      have y2 := HZ.out.mb.c 2 (by omega)
      have z3 := HZ.out.rb.c 3 (by omega)
      have t3 := HZ.out.rb.f 3 (by omega)
      have y3 := HZ.out.mb.c 3 (by omega)
      have z4 := HZ.out.rb.c 4 (by omega)
      have t4 := HZ.out.rb.f 4 (by omega)
      have y4 := HZ.out.mb.c 4 (by omega)
      have z5 := HZ.out.rb.c 5 (by omega)
      have t5 := HZ.out.rb.f 5 (by omega)
      have y5 := HZ.out.mb.c 5 (by omega)
      have z6 := HZ.out.rb.c 6 (by omega)
      have t6 := HZ.out.rb.f 6 (by omega)
      have y6 := HZ.out.mb.c 6 (by omega)
      have z7 := HZ.out.rb.c 7 (by omega)
      have t7 := HZ.out.rb.f 7 (by omega)
      have y7 := HZ.out.mb.c 7 (by omega)
      dsimp only [mf, ms0] at z0 z1 z2 z3 z4 z5 z6 z7 y0 y1 y2 y3 y4 y5 y6 y7
      go_wp2
      have HR := mf_put8 HZ.out.rb ⟨5, (pv rI 0 (.ok P)), (pv rI 0 (pn rI (.ok P))), (pv rI 0 (pn rI (pn rI (.ok P)))), 0, (pv rI 0 (pn rI (pn rI (pn rI (.ok P))))), (pv rI 0 (pn rI (pn rI (pn rI (pn rI (.ok P)))))), pv rB [] (pn rI (pn rI (pn rI (pn rI (pn rI (.ok P))))))⟩ (.slice av nv pw)
      have HBl := below_put8 HZ.out.bl (Nat.le_refl _) (.int .i64 5) (.int .i64 (pv rI 0 (.ok P))) (.int .i64 (pv rI 0 (pn rI (.ok P)))) (.int .i64 (pv rI 0 (pn rI (pn rI (.ok P))))) (.int .i64 0) (.int .i64 (pv rI 0 (pn rI (pn rI (pn rI (.ok P)))))) (.int .i64 (pv rI 0 (pn rI (pn rI (pn rI (pn rI (.ok P))))))) (.slice av nv pw)
      dsimp only at HR
      have HVz := bs_put8 HV2.out.1 w.heap.size HVn.out (.int .i64 5) (.int .i64 (pv rI 0 (.ok P))) (.int .i64 (pv rI 0 (pn rI (.ok P)))) (.int .i64 (pv rI 0 (pn rI (pn rI (.ok P))))) (.int .i64 0) (.int .i64 (pv rI 0 (pn rI (pn rI (pn rI (.ok P)))))) (.int .i64 (pv rI 0 (pn rI (pn rI (pn rI (pn rI (.ok P))))))) (.slice av nv pw)
      clear z0 z1 z2 z3 z4 z5 z6 z7 t0 t1 t2 t3 t4 t5 t6 t7 y0 y1 y2 y3 y4 y5 y6 y7 HZ
      generalize World.setCell _ ⟨w.heap.size, 7, none⟩ (.slice av nv pw) = wZ at *
      have z0 := HR.c 0 (by omega)
      have z1 := HR.c 1 (by omega)
      have z2 := HR.c 2 (by omega)
      have z3 := HR.c 3 (by omega)
      have z4 := HR.c 4 (by omega)
      have z5 := HR.c 5 (by omega)
      have z6 := HR.c 6 (by omega)
      have z7 := HR.c 7 (by omega)
      dsimp only [mf] at z0 z1 z2 z3 z4 z5 z6 z7
      obtain ⟨rfl, rfl⟩ := HE.out
      exact bodyPost_ret (v := .tuple #[.agg #[.int .i64 5, .int .i64 (pv rI 0 (.ok P)), .int .i64 (pv rI 0 (pn rI (.ok P))), .int .i64 (pv rI 0 (pn rI (pn rI (.ok P)))), .int .i64 0, .int .i64 (pv rI 0 (pn rI (pn rI (pn rI (.ok P))))), .int .i64 (pv rI 0 (pn rI (pn rI (pn rI (pn rI (.ok P)))))), (.slice av nv pw)], .int .i64 0]) (by simp [results, Tryd.results15, go_sem, z0, z1, z2, z3, z4, z5, z6, z7]) rfl ⟨(.slice av nv pw), rfl, HVz, HV2.out.2, HBl⟩
  · have hzI : ¬ ((rdE (pn rB (pn rI (pn rI (pn rI (pn rI (pn rI (.ok P))))))) : Nat) : Int) = 0 := by omega
    have HE : Hid (E = 140 ∧ M = ms0) := HXa.out.2 (fun q => hz q.1)
    have HZ := HDe
    clear HDe HXa hz
    generalize rdE (pn rB (pn rI (pn rI (pn rI (pn rI (pn rI (.ok P))))))) = er at *
    have z0 := HZ.out.rb.c 0 (by omega)
    have t0 := HZ.out.rb.f 0 (by omega)
    have z1 := HZ.out.rb.c 1 (by omega)
    have t1 := HZ.out.rb.f 1 (by omega)
    have z2 := HZ.out.rb.c 2 (by omega)
    have t2 := HZ.out.rb.f 2 (by omega)
    have z3 := HZ.out.rb.c 3 (by omega)
    have t3 := HZ.out.rb.f 3 (by omega)
    have z4 := HZ.out.rb.c 4 (by omega)
    have t4 := HZ.out.rb.f 4 (by omega)
    have z5 := HZ.out.rb.c 5 (by omega)
    have t5 := HZ.out.rb.f 5 (by omega)
    have z6 := HZ.out.rb.c 6 (by omega)
    have t6 := HZ.out.rb.f 6 (by omega)
    have z7 := HZ.out.rb.c 7 (by omega)
    have t7 := HZ.out.rb.f 7 (by omega)
    dsimp only [mf, ms0] at z0 z1 z2 z3 z4 z5 z6 z7
    go_wp2
    have HR := mf_put8 HZ.out.rb ms0 (.slice none 0 0)
    have HBl := below_put8 HZ.out.bl (Nat.le_refl _) (.int .i64 0) (.int .i64 0) (.int .i64 0) (.int .i64 0) (.int .i64 0) (.int .i64 0) (.int .i64 0) (.slice none 0 0)
    dsimp only [ms0] at HR
    clear z0 z1 z2 z3 z4 z5 z6 z7 t0 t1 t2 t3 t4 t5 t6 t7 HZ
    generalize World.setCell _ ⟨w.heap.size, 7, none⟩ (.slice none 0 0) = wZ at *
    have z0 := HR.c 0 (by omega)
    have z1 := HR.c 1 (by omega)
    have z2 := HR.c 2 (by omega)
    have z3 := HR.c 3 (by omega)
    have z4 := HR.c 4 (by omega)
    have z5 := HR.c 5 (by omega)
    have z6 := HR.c 6 (by omega)
    have z7 := HR.c 7 (by omega)
    dsimp only [mf] at z0 z1 z2 z3 z4 z5 z6 z7
    obtain ⟨rfl, rfl⟩ := HE.out
    exact bodyPost_ret (v := .tuple #[.agg #[.int .i64 0, .int .i64 0, .int .i64 0, .int .i64 0, .int .i64 0, .int .i64 0, .int .i64 0, .slice none 0 0], .int .i64 140]) (by simp [results, Tryd.results15, go_sem, z0, z1, z2, z3, z4, z5, z6, z7]) rfl ⟨.slice none 0 0, rfl, bs_nil14 _, ow_nil14 _, HBl⟩
end Go.Proofs.YtfcbgkcclganmaaDoor
