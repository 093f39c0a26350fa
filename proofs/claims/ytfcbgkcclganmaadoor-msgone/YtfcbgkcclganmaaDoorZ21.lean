/-
  Layer 14's msg: read.
-/
import Derived.Test.YtfcbgkcclganmaaDoorZ20

set_option linter.unusedVariables false
set_option linter.unusedSimpArgs false
namespace Go.Proofs.YtfcbgkcclganmaaDoor
open Go.RowKit

/-- How a reading of a frame ends. -/
def EndM (k : Int) (p : List Nat) (w : World) (e : Ending) (w' : World) : Prop :=
  Below w.heap.size w w' ∧ ((rdE (rdD k p) = 0 ∧ ∃ vd, e = .returned (msV (rdM k p) vd) ∧ Bs w' vd (rdM k p).d ∧ Ow w.heap.size vd) ∨ (rdE (rdD k p) ≠ 0 ∧ e = .panicked [{ v := .iface 28 (.int .i64 140), recovered := false }]))
/-- While a frame is read: the reader p with the blocks F, the message in the block g, the answer's in the block b. -/
structure Rst (b g : Nat) (p : Value) (F : Nat → Prop) (s : Sta) (m : Ms) (vd : Value) (w0 w : World) : Prop where
  rp : Rp w p F s
  up : ∀ i, F i → g < i
  mb : Rw g 8 (mf m vd) w
  rb : Rw b 8 (mf ms0 (.slice none 0 0)) w
  lt : w0.heap.size ≤ b ∧ b < g
  bl : Below w0.heap.size w0 w
theorem Rst.later {b g : Nat} {p : Value} {F : Nat → Prop} {s : Sta} {m : Ms} {vd : Value} {w0 w w' : World} (h : Rst b g p F s m vd w0 w) (k : Below w.heap.size w w') : Rst b g p F s m vd w0 w' :=
  ⟨h.rp.kept (fun i hi => k.block i (h.rp.lt i hi)) k.size, h.up, h.mb.later k, h.rb.later k, h.lt, h.bl.trans (k.mono h.bl.size)⟩
theorem Rst.next {b g : Nat} {p : Value} {F : Nat → Prop} {s s' : Sta} {m m' : Ms} {vd vd' : Value} {w0 w w' : World} (h : Rst b g p F s m vd w0 w) (r : Rdl p F g s' m' vd' w w') : ∃ F', Rst b g p F' s' m' vd' w0 w' := by
  obtain ⟨F', h1, h2⟩ := r.rd
  have hg := h.mb.lt (by omega)
  have l1 := h.lt.1
  have l2 := h.lt.2
  refine ⟨F', h1, fun i hi => ?_, r.mb, h.rb.block (r.kp.block b (by omega) (fun q => ?_)), h.lt, ?_⟩
  · rcases h2 i hi with q | q
    · exact h.up i q
    · omega
  · rcases q with q | q
    · have := h.up b q; omega
    · omega
  · exact r.kp.next h.bl (fun i hi => by rcases hi with q | q; (have := h.up i q; omega); omega) h.bl.size
theorem size_free (w : World) : w.heap.size = w.heap.size := rfl
set_option maxRecDepth 100000 in
set_option maxHeartbeats 4000000 in
theorem read14 (w : World) (k : Int) (vp : Value) (l : List Nat) (h : Bs w vp l) (hb : ∀ c ∈ l, c < 256) (hl : l.length ≤ 2000000) :
    Calls Tryd.prog 49 #[.agg #[.int .i64 k, vp]] w fun e w' => EndM k l w e w' := by
  have HL : Hid (Bs w vp l ∧ (∀ c ∈ l, c < 256) ∧ ∃ u, l = u ∧ u.length ≤ 2000000) := ⟨h, hb, _, rfl, hl⟩
  obtain ⟨ad, cap, rfl, -, -⟩ := h.len
  have HF : Hid (∀ W, Calls Tryd.prog 19 #[.int .i64 k] W fun e w' => ∃ v, e = .returned v ∧ Is w' v (fdL k) ∧ Ow W.heap.size v ∧ Below W.heap.size W w') := fun W => fieldsOf_any k W
  have HX : Hid (∀ x ∈ fdL k, 0 ≤ x ∧ x < 7) := fdL_lt k
  have HLen := fdL_len k
  clear h hb hl
  generalize l.length = n at *
  obtain ⟨wC, hwC⟩ : ∃ wC, wC = (((w.alloc (.cells #[.int .i64 k, .slice ad n cap] 62)).alloc (.cells #[.int .i64 0, .int .i64 0, .int .i64 0, .int .i64 0, .int .i64 0, .int .i64 0, .int .i64 0, .slice none 0 0] 24)).alloc (.cells #[.int .i64 k, .int .i64 0, .int .i64 0, .int .i64 0, .int .i64 0, .int .i64 0, .int .i64 0, .slice none 0 0] 24)) := ⟨_, rfl⟩
  have HC : Hid (Rw (w.heap.size + 1 + 1) 8 (mf ⟨k, 0, 0, 0, 0, 0, 0, []⟩ (.slice none 0 0)) wC ∧ Rw (w.heap.size + 1) 8 (mf ms0 (.slice none 0 0)) wC ∧ wC.cell? ⟨w.heap.size, 0, none⟩ = some (.int .i64 k) ∧ wC.cell? ⟨w.heap.size, 1, none⟩ = some (.slice ad n cap) ∧ Below w.heap.size w wC ∧ wC.heap.size = w.heap.size + 1 + 1 + 1) := by
    obtain ⟨wF, hwF⟩ : ∃ wF, wF = w.alloc (.cells #[.int .i64 k, .slice ad n cap] 62) := ⟨_, rfl⟩
    rw [← hwF] at hwC
    have c0 : wF.cell? ⟨w.heap.size, 0, none⟩ = some (.int .i64 k) := by rw [hwF]; simp [go_sem]
    have c1 : wF.cell? ⟨w.heap.size, 1, none⟩ = some (.slice ad n cap) := by rw [hwF]; simp [go_sem]
    have sF : wF.heap.size = w.heap.size + 1 := by rw [hwF]; simp
    have bF : Below w.heap.size w wF := by rw [hwF]; exact bel1 _ _
    clear hwF
    obtain ⟨wG, hwG⟩ : ∃ wG, wG = wF.alloc (.cells #[.int .i64 0, .int .i64 0, .int .i64 0, .int .i64 0, .int .i64 0, .int .i64 0, .int .i64 0, .slice none 0 0] 24) := ⟨_, rfl⟩
    have mG := mf_new wF ms0 (.slice none 0 0) 24
    rw [← hwG] at hwC
    have bG : Below wF.heap.size wF wG := by rw [hwG]; exact bel1 _ _
    have mG2 : Rw (w.heap.size + 1) 8 (mf ms0 (.slice none 0 0)) wG := by rw [hwG, ← sF]; exact mG
    have sG : wG.heap.size = w.heap.size + 1 + 1 := by rw [hwG]; simp [sF]
    clear hwG mG
    have mC := mf_new wG ⟨k, 0, 0, 0, 0, 0, 0, []⟩ (.slice none 0 0) 24
    have bC : Below wG.heap.size wG wC := by rw [hwC]; exact bel1 _ _
    refine ⟨by rw [hwC, ← sG]; exact mC, mG2.later bC, cell_later (bchain bG bC) c0, cell_later (bchain bG bC) c1, bchain (bchain bF bG) bC, by rw [hwC]; simp [sG]⟩
  go_enter Tryd.func49, Tryd.ntmps49
  go_upto_region 2 with fail
  rw [← hwC]
  clear hwC
  obtain ⟨b, hbb⟩ : ∃ b, w.heap.size + 1 = b := ⟨_, rfl⟩
  obtain ⟨g, hgg⟩ : ∃ g, b + 1 = g := ⟨_, rfl⟩
  rw [hbb, hgg] at HC ⊢
  have HBG : Hid (w.heap.size < b ∧ b < g) := ⟨by omega, by omega⟩
  clear hbb hgg
  have x0 := HC.out.2.2.1
  have x1 := HC.out.2.2.2.1
  go_wp2_with fail
  refine (read_any wC _ l (HL.out.1.later HC.out.2.2.2.2.1) HL.out.2.1 (by obtain ⟨u, e, hu⟩ := HL.out.2.2; rw [e]; exact hu)).mono ?_
  rintro e w1 ⟨p, F, rfl, hR, hF, hb1⟩
  have HR : Hid (Rst b g p F (.ok l) ⟨k, 0, 0, 0, 0, 0, 0, []⟩ (.slice none 0 0) w w1 ∧ w1.cell? ⟨w.heap.size, 0, none⟩ = some (.int .i64 k) ∧ w.heap.size < w1.heap.size) := by
    have hs := HC.out.2.2.2.2.2
    have hs2 := hb1.size
    have l1 := HBG.out.1
    have l2 := HBG.out.2
    exact ⟨⟨hR, fun i hi => by have := hF i hi; omega, HC.out.1.later hb1, HC.out.2.1.later hb1, ⟨by omega, by omega⟩, bchain HC.out.2.2.2.2.1 hb1⟩, cell_later hb1 HC.out.2.2.1, by omega⟩
  clear hR hF hb1 x0 x1 HC
  have x0 := HR.out.2.1
  go_wp2_with fail
  refine (HF.out _).mono ?_
  rintro e w2 ⟨v1, rfl, hI, hO, hb2⟩
  have HI : Hid (Is w2 v1 (fdL k)) := hI
  have HO : Hid (Ow w1.heap.size v1 ∧ w1.heap.size ≤ w2.heap.size) := ⟨hO, hb2.size⟩
  have HR2 : Hid (Rst b g p F (.ok l) ⟨k, 0, 0, 0, 0, 0, 0, []⟩ (.slice none 0 0) w w2) := HR.out.1.later hb2
  have HFl : Hid (∀ i, F i ∨ i = g → i < w1.heap.size) := fun i hi => by
    rcases hi with q | q
    · exact HR.out.1.rp.lt i q
    · rw [q]; exact HR.out.1.mb.lt (by omega)
  obtain ⟨ad1, cap1, rfl, l1, l2⟩ := hI.len
  unfold maxLen at l2
  clear hI hO hb2 x0 HR
  generalize hq : (fdL k).length = q at *
  have HQ : Hid ((fdL k).length = q) := hq
  clear hq
  go_upto_region 4 with fail
  go_loopw [17] (fun s17 wr => ∃ j : Nat, j ≤ q ∧ s17 = .int .i64 (j : Int) ∧ Hid (∃ F' vd, Rst b g p F' (rdFold k l j).1 (rdFold k l j).2 vd w wr ∧ Gr F F' w2 ∧ Kp (fun i => F i ∨ i = g) w2 wr ∧ (((rdFold k l j).2.d = [] ∧ vd = .slice none 0 0) ∨ (j = q ∧ Bs wr vd (rdFold k l j).2.d ∧ Ow w.heap.size vd ∧ Nb vd b)))) (fun s17 _ => q - (intOf s17).toNat)
  case atStart => exact ⟨0, by omega, rfl, ⟨F, _, HR2.out, fun _ h => Or.inl h, Kp.refl _ _, Or.inl ⟨rfl, rfl⟩⟩⟩
  case round =>
    obtain ⟨j, hj, rfl, HW⟩ := hrel
    by_cases hlt : j < q
    · have hjI : (j : Int) < (q : Int) := by omega
      have HI2 : Hid (Is wr (.slice ad1 q cap1) (fdL k)) := by
        obtain ⟨F', vd, -, -, hk, -⟩ := HW.out
        exact hk.is HI.out (ow_nf HO.out.1 (fun i hi => HFl.out i hi))
      obtain ⟨bb, o, rfl, ca⟩ := HI2.out.cel j (by have := HQ.out; omega)
      have HM : Hid ((fdL k).getD j 0 ∈ fdL k) := getI_mem (by have := HQ.out; omega)
      obtain ⟨f, hf⟩ : ∃ f : Nat, (fdL k).getD j 0 = (f : Int) := ⟨((fdL k).getD j 0).toNat, by have := (HX.out _ HM.out).1; omega⟩
      have hf7 : f < 7 := by have := (HX.out _ HM.out).2; omega
      have HN : Hid (rdFold k l (j + 1) = rdStep (rdFold k l j) (f : Int)) := by
        show _ = _
        rw [rdFold_next k l j (by have := HQ.out; omega), hf]
      have HZ : Hid (f = 6 → j + 1 = q) := fun e => by
        have := fd_last k j (by have := HQ.out; omega) (by rw [hf, e]; rfl)
        rw [HQ.out] at this
        exact this
      rw [hf] at ca
      clear HM hf HX HI2
      obtain ⟨F', vd, hS, hG, hk, hD⟩ := HW.out
      have HS : Hid (Rst b g p F' (rdFold k l j).1 (rdFold k l j).2 vd w wr ∧ Gr F F' w2 ∧ Kp (fun i => F i ∨ i = g) w2 wr ∧ (rdFold k l j).2.d = [] ∧ vd = .slice none 0 0) := ⟨hS, hG, hk, by rcases hD with q1 | q1; (exact q1); (have := q1.1; omega)⟩
      have HGg : Hid (¬ F' g) := fun q1 => by have := hS.up g q1; omega
      clear hS hG hk hD HW
      have HK : Hid (∀ W s m v, Rdl p F' g s m v wr W → (∃ F2, Rst b g p F2 s m v w W ∧ Gr F F2 w2) ∧ Kp (fun i => F i ∨ i = g) w2 W) := fun W s m v r => by
        refine ⟨?_, ?_⟩
        · obtain ⟨F2, h1, h2⟩ := r.rd
          obtain ⟨F3, h3⟩ := HS.out.1.next ⟨⟨F2, h1, h2⟩, r.mb, r.kp⟩
          have hs := HS.out.2.2.1.size
          refine ⟨F2, ⟨h1, fun i hi => ?_, h3.mb, h3.rb, h3.lt, h3.bl⟩, fun i hi => ?_⟩
          · rcases h2 i hi with q1 | q1
            · exact HS.out.1.up i q1
            · have := HS.out.1.mb.lt (by omega); omega
          · rcases h2 i hi with q1 | q1
            · exact HS.out.2.1 i q1
            · exact Or.inr (by omega)
        · refine HS.out.2.2.1.trans r.kp (fun i hi => ?_)
          rcases hi with q1 | q1
          · rcases HS.out.2.1 i q1 with q2 | q2
            · exact Or.inl (Or.inl q2)
            · exact Or.inr q2
          · exact Or.inl (Or.inr q1)
      by_cases h6 : f = 6
      · subst h6
        have HE2 : Hid (rdStep (rdFold k l j) ((6 : Nat) : Int) = (pn rB (rdFold k l j).1, { (rdFold k l j).2 with d := pv rB [] (rdFold k l j).1 })) := rfl
        go_wp2_with fail
        refine (readField6 p F' g _ _ vd wr HS.out.1.rp HS.out.1.mb HGg.out).mono ?_
        rintro e w3 ⟨rfl, v3, hr, hB, hO⟩
        have HW2 : Hid (∃ F' vd, Rst b g p F' (rdFold k l (j + 1)).1 (rdFold k l (j + 1)).2 vd w w3 ∧ Gr F F' w2 ∧ Kp (fun i => F i ∨ i = g) w2 w3 ∧ (((rdFold k l (j + 1)).2.d = [] ∧ vd = .slice none 0 0) ∨ (j + 1 = q ∧ Bs w3 vd (rdFold k l (j + 1)).2.d ∧ Ow w.heap.size vd ∧ Nb vd b))) := by
          obtain ⟨⟨F2, q1, q2⟩, q3⟩ := HK.out _ _ _ _ hr
          rw [HN.out, HE2.out]
          exact ⟨F2, v3, q1, q2, q3, Or.inr ⟨HZ.out (by trivial), hB, hO.low HS.out.1.bl.size, ow_apart hO (HS.out.1.rb.lt (by omega))⟩⟩
        clear hr hB hO HK HS HGg HE2 HN ca
        go_wp2
        go_roundw
        case rel => exact ⟨j + 1, by omega, by go_num, HW2⟩
        case measure => simp [intOf]; omega
      · have h6I : ¬ (f : Int) = 6 := by omega
        have HE2 : Hid (rdStep (rdFold k l j) (f : Int) = (pn rI (rdFold k l j).1, setF (rdFold k l j).2 f (pv rI 0 (rdFold k l j).1))) := by show _ = _; unfold rdStep; rw [if_neg h6I, Int.toNat_natCast]
        have HSd : Hid (∀ m f x, (setF m f x).d = m.d) := fun m f x => by
          unfold setF
          split <;> rfl
        go_wp2_with fail
        refine (readField_any p F' g _ _ vd f (by omega) wr HS.out.1.rp HS.out.1.mb HGg.out).mono ?_
        rintro e w3 ⟨rfl, hr⟩
        have HW2 : Hid (∃ F' vd, Rst b g p F' (rdFold k l (j + 1)).1 (rdFold k l (j + 1)).2 vd w w3 ∧ Gr F F' w2 ∧ Kp (fun i => F i ∨ i = g) w2 w3 ∧ (((rdFold k l (j + 1)).2.d = [] ∧ vd = .slice none 0 0) ∨ (j + 1 = q ∧ Bs w3 vd (rdFold k l (j + 1)).2.d ∧ Ow w.heap.size vd ∧ Nb vd b))) := by
          obtain ⟨⟨F2, q1, q2⟩, q3⟩ := HK.out _ _ _ _ hr
          rw [HN.out, HE2.out]
          exact ⟨F2, vd, q1, q2, q3, Or.inl ⟨by rw [HSd.out]; exact HS.out.2.2.2.1, HS.out.2.2.2.2⟩⟩
        clear hr HK HS HGg HE2 HN HSd ca
        go_wp2
        go_roundw
        case rel => exact ⟨j + 1, by omega, by go_num, HW2⟩
        case measure => simp [intOf]; omega
    · obtain rfl : j = q := by omega
      have hjI : ¬ (j : Int) < (j : Int) := by omega
      have HFo : Hid (rdFold k l j = (rdD k l, rdM k l)) := by
        have := rdFold_all k l
        rw [HQ.out] at this
        exact this
      obtain ⟨F', vd, hS, hG, hk, hD⟩ := HW.out
      rw [HFo.out] at hS hD
      have HS : Hid (Rst b g p F' (rdD k l) (rdM k l) vd w wr ∧ Bs wr vd (rdM k l).d ∧ Ow w.heap.size vd ∧ Nb vd b) := by
        refine ⟨hS, ?_, ?_, ?_⟩
        · rcases hD with q1 | q1
          · rw [q1.2]
            have e := q1.1
            dsimp only at e
            rw [e]
            exact bs_nil14 _
          · exact q1.2.1
        · rcases hD with q1 | q1
          · rw [q1.2]; exact ow_nil14 _
          · exact q1.2.2.1
        · rcases hD with q1 | q1
          · rw [q1.2]; intro a n cap e; cases e
          · exact q1.2.2.2
      obtain ⟨av, pw, rfl, -, -⟩ := HS.out.2.1.len
      clear hS hG hk hD HW HFo HI HX
      by_cases hz : rdE (rdD k l) = 0
      · have HZ : Hid (Calls Tryd.prog 57 #[p] wr fun e w' => e = .returned (.int .i64 0) ∧ w' = wr) := by
          have := rdone_any wr p F' _ HS.out.1.rp
          rw [hz] at this
          exact this
        have HE : Hid (rdE (rdD k l) = 0) := hz
        clear hz
        go_wp2_with fail
        refine HZ.out.mono ?_
        rintro e wx ⟨rfl, hw⟩
        have hw := hw.symm
        subst hw
        clear HZ
        go_wp2_with fail
        refine (must_yes _).mono ?_
        rintro e wx ⟨rfl, hw⟩
        have hw := hw.symm
        subst hw
        have HM : Hid (mf (rdM k l) (.slice av (rdM k l).d.length pw) = mf (rdM k l) (.slice av (rdM k l).d.length pw)) := rfl
        have HNb : Hid (Nb (.slice av (rdM k l).d.length pw) b) := HS.out.2.2.2
        have HR := mf_put8 HS.out.1.rb (rdM k l) (.slice av (rdM k l).d.length pw)
        have HBl := below_put8 HS.out.1.bl HS.out.1.lt.1 (.int .i64 (rdM k l).k) (.int .i64 (rdM k l).fr) (.int .i64 (rdM k l).inc) (.int .i64 (rdM k l).rd) (.int .i64 (rdM k l).h) (.int .i64 (rdM k l).pt) (.int .i64 (rdM k l).ps) (.slice av (rdM k l).d.length pw)
        have HDt : Bs _ (.slice av (rdM k l).d.length pw) (rdM k l).d := bs_put8 HS.out.2.1 b (HNb.out) (.int .i64 (rdM k l).k) (.int .i64 (rdM k l).fr) (.int .i64 (rdM k l).inc) (.int .i64 (rdM k l).rd) (.int .i64 (rdM k l).h) (.int .i64 (rdM k l).pt) (.int .i64 (rdM k l).ps) (.slice av (rdM k l).d.length pw)
        have HR : Hid _ := HR
        have HBl : Hid _ := HBl
        have HDt : Hid _ := HDt
        have z0 := HS.out.1.rb.c 0 (by omega)
        have t0 := HS.out.1.rb.f 0 (by omega)
        have y0 := HS.out.1.mb.c 0 (by omega)
        have z1 := HS.out.1.rb.c 1 (by omega)
        have t1 := HS.out.1.rb.f 1 (by omega)
        have y1 := HS.out.1.mb.c 1 (by omega)
        have z2 := HS.out.1.rb.c 2 (by omega)
        have t2 := HS.out.1.rb.f 2 (by omega)
        have y2 := HS.out.1.mb.c 2 (by omega)
        have z3 := HS.out.1.rb.c 3 (by omega)
        have t3 := HS.out.1.rb.f 3 (by omega)
        have y3 := HS.out.1.mb.c 3 (by omega)
        have z4 := HS.out.1.rb.c 4 (by omega)
        have t4 := HS.out.1.rb.f 4 (by omega)
        have y4 := HS.out.1.mb.c 4 (by omega)
        have z5 := HS.out.1.rb.c 5 (by omega)
        have t5 := HS.out.1.rb.f 5 (by omega)
        have y5 := HS.out.1.mb.c 5 (by omega)
        have z6 := HS.out.1.rb.c 6 (by omega)
        have t6 := HS.out.1.rb.f 6 (by omega)
        have y6 := HS.out.1.mb.c 6 (by omega)
        have z7 := HS.out.1.rb.c 7 (by omega)
        have t7 := HS.out.1.rb.f 7 (by omega)
        have y7 := HS.out.1.mb.c 7 (by omega)
        dsimp only [mf, ms0] at z0 z1 z2 z3 z4 z5 z6 z7 y0 y1 y2 y3 y4 y5 y6 y7
        have HOw := HS.out.2.2.1
        have HOw : Hid (Ow w.heap.size (.slice av (rdM k l).d.length pw)) := HOw
        have HV : Hid (msV (rdM k l) (.slice av (rdM k l).d.length pw) = .agg #[.int .i64 (rdM k l).k, .int .i64 (rdM k l).fr, .int .i64 (rdM k l).inc, .int .i64 (rdM k l).rd, .int .i64 (rdM k l).h, .int .i64 (rdM k l).pt, .int .i64 (rdM k l).ps, .slice av (rdM k l).d.length pw]) := rfl
        go_wp2
        replace HR := HR.out
        replace HBl := HBl.out
        replace HDt := HDt.out
        clear z0 z1 z2 z3 z4 z5 z6 z7 t0 t1 t2 t3 t4 t5 t6 t7 y0 y1 y2 y3 y4 y5 y6 y7
        generalize World.setCell _ ⟨b, 7, none⟩ (.slice av (rdM k l).d.length pw) = wZ at *
        have z0 := HR.c 0 (by omega)
        have z1 := HR.c 1 (by omega)
        have z2 := HR.c 2 (by omega)
        have z3 := HR.c 3 (by omega)
        have z4 := HR.c 4 (by omega)
        have z5 := HR.c 5 (by omega)
        have z6 := HR.c 6 (by omega)
        have z7 := HR.c 7 (by omega)
        dsimp only [mf] at z0 z1 z2 z3 z4 z5 z6 z7
        exact bodyPost_ret (v := .agg #[.int .i64 (rdM k l).k, .int .i64 (rdM k l).fr, .int .i64 (rdM k l).inc, .int .i64 (rdM k l).rd, .int .i64 (rdM k l).h, .int .i64 (rdM k l).pt, .int .i64 (rdM k l).ps, .slice av (rdM k l).d.length pw]) (by simp [results, Tryd.results49, go_sem, z0, z1, z2, z3, z4, z5, z6, z7]) rfl ⟨HBl, Or.inl ⟨HE.out, _, by rw [← HV.out], HDt, HOw.out⟩⟩
      · have hzI : ¬ ((rdE (rdD k l) : Nat) : Int) = 0 := by omega
        have HZ : Hid (Calls Tryd.prog 57 #[p] wr fun e w' => e = .returned (.int .i64 ((rdE (rdD k l) : Nat) : Int)) ∧ w' = wr) := rdone_any wr p F' _ HS.out.1.rp
        have HE : Hid (rdE (rdD k l) ≠ 0) := hz
        clear hz
        generalize hre : rdE (rdD k l) = re at *
        have hzB : ((re : Int) == 0) = false := by rw [beq_eq_false_iff_ne]; exact hzI
        go_wp2_with fail
        refine HZ.out.mono ?_
        rintro e wx ⟨rfl, hw⟩
        have hw := hw.symm
        subst hw
        clear HZ
        go_wp2_with fail
        refine (must_no _).mono ?_
        rintro e wx ⟨rfl, hw⟩
        have hw := hw.symm
        subst hw
        go_wp2
        exact ⟨rfl, HS.out.1.bl, Or.inr ⟨by rw [hre]; exact HE.out, rfl⟩⟩
end Go.Proofs.YtfcbgkcclganmaaDoor
