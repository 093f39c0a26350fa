/-
  The document's reader (regattaref12.R): Ints, Fixes.
-/
import Derived.Test.YtahbpegjdmblaaaPkRefG
set_option linter.unusedVariables false
set_option linter.unusedSimpArgs false
namespace Go.Proofs.Ytahbpegjdmblaaa
open Go.RowKit

theorem pvS_err {each : Nat} {s : Sta} {x : Nat} (h : pn (rS each) s = .error x) : pv (rS each) 0 s = 0 := by
  rcases pnS_err h with rfl | ⟨r, rfl, h2 | ⟨n, t, h2, h3, rfl⟩⟩
  · rfl
  · exact pv_no (rS_no h2)
  · exact pv_no (rS_lack h2 h3)
set_option maxRecDepth 100000 in
set_option maxHeartbeats 8000000 in
theorem refRInts (b : Nat) (l : List Nat) (v : Value) (s : Sta) (w : World) (hb : ∀ c ∈ l, c < 256) (hl : l.length ≤ 1000000) (h : Rr b l v s w) :
    Calls Try.prog 42 #[.pointer (some ⟨b, 0, none⟩)] w fun e w' => ∃ v', e = .returned v' ∧ Is w' v' (pv rIs [] s) ∧ Ow w.heap.size v' ∧ Rr b l v (pn rIs s) w' ∧ Kp (· = b) w w' := by
  have C := refRSize 1 (by omega) b l v s w hb hl h
  have HU : Hid (∀ t, pn (rS 1) s = .ok t → ∃ r, s = .ok r ∧ rU r = .ok (pv (rS 1) 0 s, t) ∧ ¬ t.length / 1 < pv (rS 1) 0 s) := fun t q => pnS_ok q
  have HX : Hid (∀ x, pn (rS 1) s = .error x → (pn rIs s = .error x ∧ pv rIs [] s = []) ∧ pv (rS 1) 0 s = 0) := fun x q => ⟨sIs_err q, pvS_err q⟩
  have CP : Hid (∀ (s : Sta) (W : World), Rr b l v s W → Calls Try.prog 37 #[.pointer (some ⟨b, 0, none⟩)] W fun e w' => e = .returned (.int .i64 (pv rI 0 s)) ∧ Rr b l v (pn rI s) w' ∧ Kp (· = b) W w') := fun s W q => refRInt b l v s W hb hl q
  generalize pv (rS 1) 0 s = m at *
  generalize pn (rS 1) s = s1 at *
  have hbw : b < w.heap.size := by
    obtain ⟨p, e, h1, -⟩ := h
    exact World.block_lt_of_cell? _ _ h1.c0
  have HLo : Hid (Lo w.heap.size v) := by
    obtain ⟨p, e, h1, -⟩ := h
    exact Ls.lo h1.bs
  clear h
  go_enter Try.func42, Try.ntmps42
  go_wp2_with fail
  refine C.mono ?_
  rintro e w1 ⟨rfl, h1, hk⟩
  have HK : Hid (Kp (· = b) w w1) := hk
  have hsz : w.heap.size ≤ w1.heap.size := hk.size
  clear hk C
  cases s1 with
  | error x =>
    obtain ⟨⟨e1, e2⟩, rfl⟩ := HX.out x rfl
    have HV : Hid (pv rIs [] s = []) := e2
    have HP : Hid (pn rIs s = .error x) := e1
    obtain ⟨hx, hx2, p, h2⟩ := h1.error
    have HR : Hid (R0 b l v p x w1) := h2
    have c2 := h2.c2
    have hxI : ¬ (x : Int) = 0 := by omega
    clear h1 h2 HX HU e1 e2 CP
    go_upto_region 4 with fail
    go_loopw [4, 5] (fun s4 s5 wr => s4 = .slice none 0 0 ∧ s5 = .int .i64 0 ∧ wr = w1) (fun _ _ _ => 0)
    case atStart => exact ⟨rfl, rfl, rfl⟩
    case round =>
      obtain ⟨rfl, rfl, rfl⟩ := hrel
      go_wp2
      go_ret
      exact ⟨_, rfl, by rw [HV.out]; exact (oi_nil 0 _).is.1, fun a n c e => by (cases e), ⟨p, x, HR.out, by rw [HP.out]; exact ⟨rfl, hx, hx2⟩⟩, HK.out⟩
  | ok t =>
    obtain ⟨r, rfl, hr, hm⟩ := HU.out t rfl
    rw [Nat.div_one] at hm
    have htl : t.length ≤ 1000000 := by
      obtain ⟨p, h2, hd⟩ := h1.ok
      rw [← hd, List.length_drop]
      omega
    have HR0 : Hid (rIs r = rep rI 0 m t) := rIs_ok hr (by omega)
    have hm2 : m ≤ 1000000 := by omega
    have HRr : Hid (Rr b l v (itS rI 0 (.ok t)) w1) := h1
    clear h1 HX HU hr hm htl
    go_upto_region 4 with fail
    go_loopw [4, 5] (fun s4 s5 wr => ∃ j : Nat, j ≤ m ∧ s5 = .int .i64 (j : Int) ∧ Hid (Oi w1.heap.size wr s4 (itV rI 0 j (.ok t))) ∧ Hid (Rr b l v (itS rI j (.ok t)) wr) ∧ Hid (Kp (· = b) w wr ∧ w1.heap.size ≤ wr.heap.size)) (fun _ s5 _ => m - (intOf s5).toNat)
    case atStart => exact ⟨0, by omega, rfl, oi_nil _ _, HRr, HK.out, Nat.le_refl _⟩
    case round =>
      clear HRr HK
      obtain ⟨j, hj, rfl, HO, HRr, HK⟩ := hrel
      have HIV : Hid (itV rI 0 (j + 1) (.ok t) = itV rI 0 j (.ok t) ++ [pv rI 0 (itS rI j (.ok t))]) := rfl
      have HIS : Hid (itS rI (j + 1) (.ok t) = pn rI (itS rI j (.ok t))) := rfl
      have HLn : Hid ((itV rI 0 j (.ok t)).length = j) := itV_len _ _ _ _
      have HMo : Hid (∀ e, itS rI j (.ok t) = .error e → itS rI m (.ok t) = .error e) := fun e q => itS_mono rI m j e _ q hj
      cases hs : itS rI j (.ok t) with
      | error x =>
        rw [hs] at HRr
        have hS := HMo.out x hs
        have HV : Hid (pv rIs [] (.ok r) = []) := pv_no (HR0.out.trans (rep_no hS))
        have HP : Hid (pn rIs (.ok r) = .error x) := pn_no (HR0.out.trans (rep_no hS))
        obtain ⟨hx, hx2, p, h2⟩ := HRr.out.error
        have HR : Hid (R0 b l v p x wr) := h2
        have c2 := h2.c2
        have hxI : ¬ (x : Int) = 0 := by omega
        have hxb : ((x : Int) == 0) = false := by simp; omega
        clear h2 hS HMo HIV HIS HRr hs CP
        by_cases hlt : j < m
        · have hjI : (j : Int) < (m : Int) := by omega
          go_wp2
          go_ret
          exact ⟨_, rfl, by rw [HV.out]; exact (oi_nil 0 _).is.1, fun a n c e => by (cases e), ⟨p, x, HR.out, by rw [HP.out]; exact ⟨rfl, hx, hx2⟩⟩, HK.out.1⟩
        · have hjI : ¬ (j : Int) < (m : Int) := by omega
          go_wp2
          go_ret
          exact ⟨_, rfl, by rw [HV.out]; exact (oi_nil 0 _).is.1, fun a n c e => by (cases e), ⟨p, x, HR.out, by rw [HP.out]; exact ⟨rfl, hx, hx2⟩⟩, HK.out.1⟩
      | ok u =>
        rw [hs] at HRr HIV HIS
        obtain ⟨p, h2, hd⟩ := HRr.out.ok
        have c2 := h2.c2
        by_cases hlt : j < m
        · have hjI : (j : Int) < (m : Int) := by omega
          have C1 := CP.out _ wr HRr.out
          generalize pv rI 0 (.ok u) = x at *
          generalize itV rI 0 j (.ok t) = L at *
          clear HMo h2 hd hs HRr HR0
          go_wp2_with fail
          refine C1.mono ?_
          rintro e wx ⟨rfl, h3, h4⟩
          have HO2 : Hid (Oi w1.heap.size wx u4 L) := own_kp HO.out h4 (fun i hi => by omega)
          have HR2 : Hid (Rr b l v (itS rI (j + 1) (.ok t)) wx) := by rw [HIS.out]; exact h3
          have HK2 : Hid (Kp (· = b) w wx ∧ w1.heap.size ≤ wx.heap.size) := ⟨HK.out.1.trans h4 (fun i hi => Or.inl hi), Nat.le_trans HK.out.2 h4.size⟩
          clear h3 h4 C1 HO HK c2
          go_wp2_with (at_builtin; refine apI rfl _ _ rfl w1.heap.size _ _ rfl (HO2.out.later (bel1 _ _)) _ _ rfl (is_one wx x _) (by have := HLn.out; simp; omega) (by have := HK2.out.2; simp; omega) ?_; intro v' w3 hO3 hg)
          have hb3 : Below w1.heap.size wx w3 := hg.1 _ ((Below.refl _ _).alloc HK2.out.2 _)
          have HO3 : Hid (Oi w1.heap.size w3 v' (itV rI 0 (j + 1) (.ok t))) := by rw [HIV.out]; exact hO3
          have HR3 : Hid (Rr b l v (itS rI (j + 1) (.ok t)) w3) := HR2.out.upto hb3 (by omega) (HLo.out.up hsz)
          have HK3 : Hid (Kp (· = b) w w3 ∧ w1.heap.size ≤ w3.heap.size) := ⟨HK2.out.1.grow hb3 hsz, Nat.le_trans HK2.out.2 hb3.size⟩
          clear hO3 hg hb3 HO2 HR2 HK2 HIV HIS
          go_wp2
          go_roundw
          case rel => exact ⟨j + 1, by omega, by go_num, HO3, HR3, HK3⟩
          case measure => simp [intOf]; omega
        · obtain rfl : j = m := by omega
          have hjI : ¬ (j : Int) < (j : Int) := by omega
          have hP : rIs r = .ok (itV rI 0 j (.ok t), u) := HR0.out.trans (rep_ok hs)
          have HV : Hid (pv rIs [] (.ok r) = itV rI 0 j (.ok t)) := pv_ok hP
          have HP : Hid (pn rIs (.ok r) = .ok u) := pn_ok hP
          have hO := HO.out
          generalize itV rI 0 j (.ok t) = L at *
          obtain ⟨ad2, cap2, rfl⟩ := hO.sl
          have HI : Hid (Is wr (.slice ad2 L.length cap2) L ∧ Ow w1.heap.size (.slice ad2 L.length cap2)) := hO.is
          clear hO HO hP hs h2 hd HMo HIV HIS CP
          go_wp2
          go_ret
          exact ⟨_, rfl, by rw [HV.out]; exact HI.out.1, HI.out.2.low hsz, by rw [HP.out]; exact HRr.out, HK.out.1⟩
set_option maxRecDepth 100000 in
set_option maxHeartbeats 8000000 in
theorem refRFixes (b : Nat) (l : List Nat) (v : Value) (s : Sta) (w : World) (hb : ∀ c ∈ l, c < 256) (hl : l.length ≤ 1000000) (h : Rr b l v s w) :
    Calls Try.prog 44 #[.pointer (some ⟨b, 0, none⟩)] w fun e w' => ∃ v', e = .returned v' ∧ Is w' v' (pv rFs [] s) ∧ Ow w.heap.size v' ∧ Rr b l v (pn rFs s) w' ∧ Kp (· = b) w w' := by
  have C := refRSize 8 (by omega) b l v s w hb hl h
  have HU : Hid (∀ t, pn (rS 8) s = .ok t → ∃ r, s = .ok r ∧ rU r = .ok (pv (rS 8) 0 s, t) ∧ ¬ t.length / 8 < pv (rS 8) 0 s) := fun t q => pnS_ok q
  have HX : Hid (∀ x, pn (rS 8) s = .error x → (pn rFs s = .error x ∧ pv rFs [] s = []) ∧ pv (rS 8) 0 s = 0) := fun x q => ⟨sFs_err q, pvS_err q⟩
  have CP : Hid (∀ (s : Sta) (W : World), Rr b l v s W → Calls Try.prog 38 #[.pointer (some ⟨b, 0, none⟩)] W fun e w' => e = .returned (.int .i64 (pv rF 0 s)) ∧ Rr b l v (pn rF s) w' ∧ Kp (· = b) W w') := fun s W q => refRFix b l v s W hb hl q
  generalize pv (rS 8) 0 s = m at *
  generalize pn (rS 8) s = s1 at *
  have hbw : b < w.heap.size := by
    obtain ⟨p, e, h1, -⟩ := h
    exact World.block_lt_of_cell? _ _ h1.c0
  have HLo : Hid (Lo w.heap.size v) := by
    obtain ⟨p, e, h1, -⟩ := h
    exact Ls.lo h1.bs
  clear h
  go_enter Try.func44, Try.ntmps44
  go_wp2_with fail
  refine C.mono ?_
  rintro e w1 ⟨rfl, h1, hk⟩
  have HK : Hid (Kp (· = b) w w1) := hk
  have hsz : w.heap.size ≤ w1.heap.size := hk.size
  clear hk C
  cases s1 with
  | error x =>
    obtain ⟨⟨e1, e2⟩, rfl⟩ := HX.out x rfl
    have HV : Hid (pv rFs [] s = []) := e2
    have HP : Hid (pn rFs s = .error x) := e1
    obtain ⟨hx, hx2, p, h2⟩ := h1.error
    have HR : Hid (R0 b l v p x w1) := h2
    have c2 := h2.c2
    have hxI : ¬ (x : Int) = 0 := by omega
    clear h1 h2 HX HU e1 e2 CP
    go_upto_region 4 with fail
    go_loopw [4, 5] (fun s4 s5 wr => s4 = .slice none 0 0 ∧ s5 = .int .i64 0 ∧ wr = w1) (fun _ _ _ => 0)
    case atStart => exact ⟨rfl, rfl, rfl⟩
    case round =>
      obtain ⟨rfl, rfl, rfl⟩ := hrel
      go_wp2
      go_ret
      exact ⟨_, rfl, by rw [HV.out]; exact (oi_nil 0 _).is.1, fun a n c e => by (cases e), ⟨p, x, HR.out, by rw [HP.out]; exact ⟨rfl, hx, hx2⟩⟩, HK.out⟩
  | ok t =>
    obtain ⟨r, rfl, hr, hm⟩ := HU.out t rfl
    have htl : t.length ≤ 1000000 := by
      obtain ⟨p, h2, hd⟩ := h1.ok
      rw [← hd, List.length_drop]
      omega
    have HR0 : Hid (rFs r = rep rF 0 m t) := rFs_ok hr (by omega)
    have hm2 : m ≤ 1000000 := by omega
    have HRr : Hid (Rr b l v (itS rF 0 (.ok t)) w1) := h1
    clear h1 HX HU hr hm htl
    go_upto_region 4 with fail
    go_loopw [4, 5] (fun s4 s5 wr => ∃ j : Nat, j ≤ m ∧ s5 = .int .i64 (j : Int) ∧ Hid (Oi w1.heap.size wr s4 (itV rF 0 j (.ok t))) ∧ Hid (Rr b l v (itS rF j (.ok t)) wr) ∧ Hid (Kp (· = b) w wr ∧ w1.heap.size ≤ wr.heap.size)) (fun _ s5 _ => m - (intOf s5).toNat)
    case atStart => exact ⟨0, by omega, rfl, oi_nil _ _, HRr, HK.out, Nat.le_refl _⟩
    case round =>
      clear HRr HK
      obtain ⟨j, hj, rfl, HO, HRr, HK⟩ := hrel
      have HIV : Hid (itV rF 0 (j + 1) (.ok t) = itV rF 0 j (.ok t) ++ [pv rF 0 (itS rF j (.ok t))]) := rfl
      have HIS : Hid (itS rF (j + 1) (.ok t) = pn rF (itS rF j (.ok t))) := rfl
      have HLn : Hid ((itV rF 0 j (.ok t)).length = j) := itV_len _ _ _ _
      have HMo : Hid (∀ e, itS rF j (.ok t) = .error e → itS rF m (.ok t) = .error e) := fun e q => itS_mono rF m j e _ q hj
      cases hs : itS rF j (.ok t) with
      | error x =>
        rw [hs] at HRr
        have hS := HMo.out x hs
        have HV : Hid (pv rFs [] (.ok r) = []) := pv_no (HR0.out.trans (rep_no hS))
        have HP : Hid (pn rFs (.ok r) = .error x) := pn_no (HR0.out.trans (rep_no hS))
        obtain ⟨hx, hx2, p, h2⟩ := HRr.out.error
        have HR : Hid (R0 b l v p x wr) := h2
        have c2 := h2.c2
        have hxI : ¬ (x : Int) = 0 := by omega
        have hxb : ((x : Int) == 0) = false := by simp; omega
        clear h2 hS HMo HIV HIS HRr hs CP
        by_cases hlt : j < m
        · have hjI : (j : Int) < (m : Int) := by omega
          go_wp2
          go_ret
          exact ⟨_, rfl, by rw [HV.out]; exact (oi_nil 0 _).is.1, fun a n c e => by (cases e), ⟨p, x, HR.out, by rw [HP.out]; exact ⟨rfl, hx, hx2⟩⟩, HK.out.1⟩
        · have hjI : ¬ (j : Int) < (m : Int) := by omega
          go_wp2
          go_ret
          exact ⟨_, rfl, by rw [HV.out]; exact (oi_nil 0 _).is.1, fun a n c e => by (cases e), ⟨p, x, HR.out, by rw [HP.out]; exact ⟨rfl, hx, hx2⟩⟩, HK.out.1⟩
      | ok u =>
        rw [hs] at HRr HIV HIS
        obtain ⟨p, h2, hd⟩ := HRr.out.ok
        have c2 := h2.c2
        by_cases hlt : j < m
        · have hjI : (j : Int) < (m : Int) := by omega
          have C1 := CP.out _ wr HRr.out
          generalize pv rF 0 (.ok u) = x at *
          generalize itV rF 0 j (.ok t) = L at *
          clear HMo h2 hd hs HRr HR0
          go_wp2_with fail
          refine C1.mono ?_
          rintro e wx ⟨rfl, h3, h4⟩
          have HO2 : Hid (Oi w1.heap.size wx u4 L) := own_kp HO.out h4 (fun i hi => by omega)
          have HR2 : Hid (Rr b l v (itS rF (j + 1) (.ok t)) wx) := by rw [HIS.out]; exact h3
          have HK2 : Hid (Kp (· = b) w wx ∧ w1.heap.size ≤ wx.heap.size) := ⟨HK.out.1.trans h4 (fun i hi => Or.inl hi), Nat.le_trans HK.out.2 h4.size⟩
          clear h3 h4 C1 HO HK c2
          go_wp2_with (at_builtin; refine apI rfl _ _ rfl w1.heap.size _ _ rfl (HO2.out.later (bel1 _ _)) _ _ rfl (is_one wx x _) (by have := HLn.out; simp; omega) (by have := HK2.out.2; simp; omega) ?_; intro v' w3 hO3 hg)
          have hb3 : Below w1.heap.size wx w3 := hg.1 _ ((Below.refl _ _).alloc HK2.out.2 _)
          have HO3 : Hid (Oi w1.heap.size w3 v' (itV rF 0 (j + 1) (.ok t))) := by rw [HIV.out]; exact hO3
          have HR3 : Hid (Rr b l v (itS rF (j + 1) (.ok t)) w3) := HR2.out.upto hb3 (by omega) (HLo.out.up hsz)
          have HK3 : Hid (Kp (· = b) w w3 ∧ w1.heap.size ≤ w3.heap.size) := ⟨HK2.out.1.grow hb3 hsz, Nat.le_trans HK2.out.2 hb3.size⟩
          clear hO3 hg hb3 HO2 HR2 HK2 HIV HIS
          go_wp2
          go_roundw
          case rel => exact ⟨j + 1, by omega, by go_num, HO3, HR3, HK3⟩
          case measure => simp [intOf]; omega
        · obtain rfl : j = m := by omega
          have hjI : ¬ (j : Int) < (j : Int) := by omega
          have hP : rFs r = .ok (itV rF 0 j (.ok t), u) := HR0.out.trans (rep_ok hs)
          have HV : Hid (pv rFs [] (.ok r) = itV rF 0 j (.ok t)) := pv_ok hP
          have HP : Hid (pn rFs (.ok r) = .ok u) := pn_ok hP
          have hO := HO.out
          generalize itV rF 0 j (.ok t) = L at *
          obtain ⟨ad2, cap2, rfl⟩ := hO.sl
          have HI : Hid (Is wr (.slice ad2 L.length cap2) L ∧ Ow w1.heap.size (.slice ad2 L.length cap2)) := hO.is
          clear hO HO hP hs h2 hd HMo HIV HIS CP
          go_wp2
          go_ret
          exact ⟨_, rfl, by rw [HV.out]; exact HI.out.1, HI.out.2.low hsz, by rw [HP.out]; exact HRr.out, HK.out.1⟩
end Go.Proofs.Ytahbpegjdmblaaa
