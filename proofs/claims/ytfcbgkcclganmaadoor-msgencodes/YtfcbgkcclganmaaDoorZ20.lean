/-
Layer 14's msg: Encode.
Layer 14's msg: readField, must, read.
-/
import Derived.Test.YtfcbgkcclganmaaDoorZ19

set_option linter.unusedVariables false
set_option linter.unusedSimpArgs false
namespace Go.Proofs.YtfcbgkcclganmaaDoor
open Go.RowKit

theorem B8.kept {b : Nat} {m : Ms} {v : Value} {w w' : World} {F : Nat → Prop} (h : B8 b m v w) (k : Kp F w w') (hb : ¬ F b) : B8 b m v w' :=
  ⟨k.cell hb h.c0, k.cell hb h.c1, k.cell hb h.c2, k.cell hb h.c3, k.cell hb h.c4, k.cell hb h.c5, k.cell hb h.c6, k.cell hb h.c7⟩
/-- A field's form. -/
def fdB (m : Ms) (x : Int) : List Nat := if x = 6 then enB m.d else enI (szF m x.toNat)
theorem pay_fd (m : Ms) (h1 : 1 ≤ m.k) (h8 : m.k ≤ 8) : pay m = (fdL m.k).flatMap (fdB m) := by
  obtain ⟨k, fr, inc, rd, h, pt, ps, d⟩ := m
  dsimp only at h1 h8
  rcases kind8 h1 h8 with rfl | rfl | rfl | rfl | rfl | rfl | rfl | rfl <;> simp [pay, ints, fdL, fdB, szF]
theorem fd_ok {m : Ms} (r : Rgt m) (f : Nat) (hf : f < 7) : okI (szF m f) := by
  obtain ⟨b0, b1, b2, b3, b4, b5, b6⟩ := rgt_bounds r
  have b7 : okI (m.d.length : Int) := by have := r.d; unfold okI; omega
  rcases less7 hf with rfl | rfl | rfl | rfl | rfl | rfl | rfl <;> assumption
theorem flat_take (g : Int → List Nat) (l : List Int) (j : Nat) (hj : j < l.length) : (l.take (j + 1)).flatMap g = (l.take j).flatMap g ++ g (l.getD j 0) := by
  rw [List.take_succ_eq_append_getElem hj, List.flatMap_append]
  simp [List.getD, hj]
theorem wz14 (w : World) : Wp (w.alloc (.cells #[.slice none 0 0, .bool false] 46)) (.pointer (some ⟨w.heap.size, 0, none⟩)) (· = w.heap.size) (.ok []) :=
  Or.inr ⟨w.heap.size, .slice none 0 0, rfl, Or.inr ⟨[], rfl, ⟨fun k hk => by rw [hk, World.size_alloc]; omega, rfl, by simp [go_sem], by simp [go_sem], by simp [go_sem], by simp [go_sem], by simp, ob_nil _ _, fun k hk => by cases hk⟩⟩⟩
set_option maxRecDepth 100000 in
set_option maxHeartbeats 4000000 in
theorem encN14 (w : World) (m : Ms) (v : Value) (h : Bs w v m.d) (r : ¬ Rgt m) :
    Calls Tryd.prog 9 #[msV m v] w fun e w' => ∃ v', e = .returned (.tuple #[v', .int .i64 140]) ∧ Bs w' v' [] ∧ Below w.heap.size w w' := by
  obtain ⟨ad, cap, rfl, -, -⟩ := h.len
  have HR : Hid (∀ W, Below w.heap.size w W → Calls Tryd.prog 11 #[.agg #[.int .i64 m.k, .int .i64 m.fr, .int .i64 m.inc, .int .i64 m.rd, .int .i64 m.h, .int .i64 m.pt, .int .i64 m.ps, .slice ad m.d.length cap]] W fun e w' => RgE m W e w') := fun W hW => right14 m (.slice ad m.d.length cap) W (h.later hW)
  have HN : Hid (¬ Rgt m) := r
  have HB0 : Hid (B8 w.heap.size ⟨m.k, m.fr, m.inc, m.rd, m.h, m.pt, m.ps, []⟩ (.slice ad m.d.length cap) (w.alloc (.cells #[.int .i64 m.k, .int .i64 m.fr, .int .i64 m.inc, .int .i64 m.rd, .int .i64 m.h, .int .i64 m.pt, .int .i64 m.ps, .slice ad m.d.length cap] 24))) := B8.new w ⟨m.k, m.fr, m.inc, m.rd, m.h, m.pt, m.ps, []⟩ _ _
  clear h r
  unfold msV
  generalize m.k = k at *
  generalize m.fr = fr at *
  generalize m.inc = inc at *
  generalize m.rd = rd at *
  generalize m.h = hx at *
  generalize m.pt = pz at *
  generalize m.ps = ps at *
  generalize m.d.length = n at *
  go_enter Tryd.func9, Tryd.ntmps9
  obtain ⟨wA, hwA⟩ : ∃ wA, wA = (w.alloc (.cells #[.int .i64 k, .int .i64 fr, .int .i64 inc, .int .i64 rd, .int .i64 hx, .int .i64 pz, .int .i64 ps, .slice ad n cap] 24)) := ⟨_, rfl⟩
  have HA : Hid (Below w.heap.size w wA) := by rw [hwA]; exact bel1 _ _
  rw [← hwA] at HB0
  obtain ⟨x0, x1, x2, x3, x4, x5, x6, x7⟩ := HB0.out
  dsimp only at x0 x1 x2 x3 x4 x5 x6 x7
  go_upto_region 1 with fail
  rw [← hwA]
  clear hwA
  go_wp2_with fail
  refine (HR.out _ HA.out).mono ?_
  rintro e w1 ⟨B, rfl, hB, hb1⟩
  obtain rfl : B = false := by
    cases B with
    | false => rfl
    | true => exact absurd (hB.1 rfl) HN.out
  have HB : Hid (Below w.heap.size w w1) := bchain HA.out hb1
  clear hB hb1 HR HN HB0 HA x0 x1 x2 x3 x4 x5 x6 x7
  go_wp2
  go_ret2
  exact ⟨.slice none 0 0, rfl, bs_nil14 _, HB.out⟩
set_option maxRecDepth 100000 in
set_option maxHeartbeats 4000000 in
theorem encY14 (w : World) (m : Ms) (v : Value) (h : Bs w v m.d) (hy : ∀ c ∈ m.d, c < 256) (r : Rgt m) (hT : FT w) :
    Calls Tryd.prog 9 #[msV m v] w fun e w' => ∃ v', e = .returned (.tuple #[v', .int .i64 0]) ∧ Ob w.heap.size w' v' (fsl m.k.toNat (pay m)) ∧ Below w.heap.size w w' := by
  have k1 := r.k1
  have k8 := r.k8
  obtain ⟨ad, cap, rfl, -, -⟩ := h.len
  have HL : Hid (Bs w (.slice ad m.d.length cap) m.d ∧ ∃ u, m.d = u ∧ u.length ≤ 2000000) := ⟨h, _, rfl, by have := r.d; omega⟩
  have HR : Hid (∀ W, Below w.heap.size w W → Calls Tryd.prog 11 #[.agg #[.int .i64 m.k, .int .i64 m.fr, .int .i64 m.inc, .int .i64 m.rd, .int .i64 m.h, .int .i64 m.pt, .int .i64 m.ps, .slice ad m.d.length cap]] W fun e w' => RgE m W e w') := fun W hW => right14 m (.slice ad m.d.length cap) W (h.later hW)
  have HF : Hid (∀ W, Calls Tryd.prog 19 #[.int .i64 m.k] W fun e w' => ∃ v, e = .returned v ∧ Is w' v (fdL m.k) ∧ Ow W.heap.size v ∧ Below W.heap.size W w') := fun W => fieldsOf_any m.k W
  have HZ : Hid (∀ (f : Nat) W, f < 7 → Calls Tryd.prog 22 #[.agg #[.int .i64 m.k, .int .i64 m.fr, .int .i64 m.inc, .int .i64 m.rd, .int .i64 m.h, .int .i64 m.pt, .int .i64 m.ps, .slice ad m.d.length cap], .int .i64 (f : Int)] W fun e w' => e = .returned (.int .i64 (szF m f)) ∧ Below W.heap.size W w') := fun f W hf => size_any m ad cap f hf W
  have HP : Hid ((fdL m.k).flatMap (fdB m) = pay m ∧ (pay m).length ≤ 65536 ∧ ∀ c ∈ pay m, c < 256) := ⟨(pay_fd m k1 k8).symm, by have := pay_len r; omega, pay_byte hy⟩
  have HO : Hid (∀ f, f < 7 → okI (szF m f)) := fun f hf => fd_ok r f hf
  have HT : Hid (∀ W, Below w.heap.size w W → FT W) := fun W hW => hT.later hW
  have HX : Hid (∀ x ∈ fdL m.k, 0 ≤ x ∧ x < 7) := fdL_lt m.k
  have HN : Hid (Rgt m) := r
  have HLen := fdL_len m.k
  have HB0 : Hid (B8 w.heap.size ⟨m.k, m.fr, m.inc, m.rd, m.h, m.pt, m.ps, []⟩ (.slice ad m.d.length cap) (w.alloc (.cells #[.int .i64 m.k, .int .i64 m.fr, .int .i64 m.inc, .int .i64 m.rd, .int .i64 m.h, .int .i64 m.pt, .int .i64 m.ps, .slice ad m.d.length cap] 24))) := B8.new w ⟨m.k, m.fr, m.inc, m.rd, m.h, m.pt, m.ps, []⟩ _ _
  clear h r hT hy
  unfold msV
  generalize m.k = k at *
  generalize m.fr = fr at *
  generalize m.inc = inc at *
  generalize m.rd = rd at *
  generalize m.h = hx at *
  generalize m.pt = pz at *
  generalize m.ps = ps at *
  generalize m.d.length = n at *
  obtain ⟨K, rfl⟩ : ∃ K : Nat, k = (K : Int) := ⟨k.toNat, by omega⟩
  have HK : Hid (1 ≤ K ∧ K ≤ 255) := ⟨by omega, by omega⟩
  rw [Int.toNat_natCast]
  clear k1 k8
  go_enter Tryd.func9, Tryd.ntmps9
  obtain ⟨wA, hwA⟩ : ∃ wA, wA = (w.alloc (.cells #[.int .i64 (K : Int), .int .i64 fr, .int .i64 inc, .int .i64 rd, .int .i64 hx, .int .i64 pz, .int .i64 ps, .slice ad n cap] 24)) := ⟨_, rfl⟩
  have HA : Hid (Below w.heap.size w wA) := by rw [hwA]; exact bel1 _ _
  rw [← hwA] at HB0
  obtain ⟨x0, x1, x2, x3, x4, x5, x6, x7⟩ := HB0.out
  dsimp only at x0 x1 x2 x3 x4 x5 x6 x7
  go_upto_region 1 with fail
  rw [← hwA]
  clear hwA
  go_wp2_with fail
  refine (HR.out _ HA.out).mono ?_
  rintro e w1 ⟨B, rfl, hB, hb1⟩
  obtain rfl : B = true := hB.2 HN.out
  have HB : Hid (B8 w.heap.size ⟨K, fr, inc, rd, hx, pz, ps, []⟩ (.slice ad n cap) w1 ∧ Below w.heap.size w w1) := ⟨HB0.out.later hb1, bchain HA.out hb1⟩
  clear hB hb1 HR HN HB0 HA x0 x1 x2 x3 x4 x5 x6 x7
  obtain ⟨wB, hwB⟩ : ∃ wB, wB = w1.alloc (.cells #[.slice none 0 0, .bool false] 46) := ⟨_, rfl⟩
  have HB1 : Hid (B8 w.heap.size ⟨K, fr, inc, rd, hx, pz, ps, []⟩ (.slice ad n cap) wB ∧ Below w.heap.size w wB ∧ Wp wB (.pointer (some ⟨w1.heap.size, 0, none⟩)) (· = w1.heap.size) (.ok [])) := by
    rw [hwB]
    exact ⟨HB.out.1.later (bel1 _ _), bchain HB.out.2 (bel1 _ _), wz14 w1⟩
  have HS1 : Hid (w.heap.size < w1.heap.size) := World.block_lt_of_cell? _ _ HB.out.1.c0
  clear HB
  obtain ⟨x0, x1, x2, x3, x4, x5, x6, x7⟩ := HB1.out.1
  dsimp only at x0 x1 x2 x3 x4 x5 x6 x7
  go_upto_region 4 with fail
  rw [← hwB]
  clear hwB
  generalize w1.heap.size = g at *
  go_wp2_with fail
  refine (HF.out _).mono ?_
  rintro e w2 ⟨v1, rfl, hI1, hO1, hb2⟩
  have HI : Hid (Is w2 v1 (fdL K) ∧ Ow wB.heap.size v1) := ⟨hI1, hO1⟩
  obtain ⟨ad1, cap1, rfl, l1, l2⟩ := hI1.len
  unfold maxLen at l2
  have HB2 : Hid (B8 w.heap.size ⟨K, fr, inc, rd, hx, pz, ps, []⟩ (.slice ad n cap) w2 ∧ Below w.heap.size w w2 ∧ Wp w2 (.pointer (some ⟨g, 0, none⟩)) (· = g) (.ok []) ∧ g < wB.heap.size) := ⟨HB1.out.1.later hb2, bchain HB1.out.2.1 hb2, HB1.out.2.2.later hb2, HB1.out.2.2.lt g rfl⟩
  clear hI1 hO1 hb2 HF HB1 x0 x1 x2 x3 x4 x5 x6 x7
  generalize hq : (fdL K).length = q at *
  have HQ : Hid ((fdL K).length = q) := hq
  clear hq
  generalize wB.heap.size = gB at *
  go_upto_region 5 with fail
  go_loopw [16] (fun s16 wr => ∃ j : Nat, j ≤ q ∧ s16 = .int .i64 (j : Int) ∧ Hid (∃ F1, Wp wr (.pointer (some ⟨g, 0, none⟩)) F1 (pt (.ok []) (((fdL K).take j).flatMap (fdB m))) ∧ Gr (· = g) F1 w2 ∧ Kp (· = g) w2 wr)) (fun s16 _ => q - (intOf s16).toNat)
  case atStart => exact ⟨0, by omega, rfl, ⟨(· = g), HB2.out.2.2.1, fun _ h => Or.inl h, Kp.refl _ _⟩⟩
  case round =>
    obtain ⟨j, hj, rfl, HW⟩ := hrel
    have HBl : Hid (∀ W, Kp (· = g) w2 W → Below w.heap.size w W) := fun W hk => hk.next HB2.out.2.1 (fun i hi => by rw [hi]; exact Nat.le_of_lt HS1.out) (HB2.out.2.1.size)
    by_cases hlt : j < q
    · have hjI : (j : Int) < (q : Int) := by omega
      have HI2 : Hid (Is wr (.slice ad1 q cap1) (fdL K)) := by
        obtain ⟨F1, -, -, hk⟩ := HW.out
        exact hk.is HI.out.1 (ow_nf HI.out.2 (fun i hi => by rw [hi]; exact HB2.out.2.2.2))
      obtain ⟨b, o, rfl, ca⟩ := HI2.out.cel j (by have := HQ.out; omega)
      have HB3 : Hid (B8 w.heap.size ⟨K, fr, inc, rd, hx, pz, ps, []⟩ (.slice ad n cap) wr) := by
        obtain ⟨F1, -, -, hk⟩ := HW.out
        exact HB2.out.1.kept hk (fun e => by have := HS1.out; omega)
      obtain ⟨x0, x1, x2, x3, x4, x5, x6, x7⟩ := HB3.out
      dsimp only at x0 x1 x2 x3 x4 x5 x6 x7
      have HM : Hid ((fdL K).getD j 0 ∈ fdL K) := getI_mem (by have := HQ.out; omega)
      obtain ⟨f, hf⟩ : ∃ f : Nat, (fdL K).getD j 0 = (f : Int) := ⟨((fdL K).getD j 0).toNat, by have := (HX.out _ HM.out).1; omega⟩
      have hf7 : f < 7 := by have := (HX.out _ HM.out).2; omega
      have HE : Hid ((((fdL K).take (j + 1)).flatMap (fdB m)) = (((fdL K).take j).flatMap (fdB m)) ++ fdB m (f : Int)) := by
        show _ = _
        rw [flat_take _ _ _ (by have := HQ.out; omega), hf]
      rw [hf] at ca
      clear HM hf HX
      by_cases h6 : f = 6
      · subst h6
        have HE2 : Hid (fdB m ((6 : Nat) : Int) = enB m.d) := rfl
        go_wp2_with fail
        obtain ⟨F1, hW, hG, hk⟩ := HW.out
        have hlo : ∀ i, F1 i → w.heap.size ≤ i := fun i hi => by
          rcases hG i hi with q2 | q2
          · rw [q2]; exact Nat.le_of_lt HS1.out
          · exact Nat.le_trans HB2.out.2.1.size q2
        refine (wbytes_any _ _ F1 _ _ m.d hW (HL.out.1.later (HBl.out _ hk)) (Ls.nf HL.out.1 hlo) (by obtain ⟨u, e, hu⟩ := HL.out.2; rw [e]; exact hu)).mono ?_
        rintro e w3 ⟨rfl, hA⟩
        have HW2 : Hid (∃ F1, Wp w3 (.pointer (some ⟨g, 0, none⟩)) F1 (pt (.ok []) (((fdL K).take (j + 1)).flatMap (fdB m))) ∧ Gr (· = g) F1 w2 ∧ Kp (· = g) w2 w3) := by
          rw [pt_pt] at hA
          rw [HE.out, HE2.out]
          exact Af.tr hG hk hA
        clear hA hW hG hk hlo HW HE HE2 HI2 HB3 x0 x1 x2 x3 x4 x5 x6 x7 ca
        go_wp2
        go_roundw
        case rel => exact ⟨j + 1, by omega, by go_num, HW2⟩
        case measure => simp [intOf]; omega
      · have h6I : ¬ (f : Int) = 6 := by omega
        have HE2 : Hid (fdB m (f : Int) = enI (szF m f)) := by show _ = _; unfold fdB; rw [if_neg h6I, Int.toNat_natCast]
        have HZ1 := HZ.out f wr hf7
        have HO1 : Hid (okI (szF m f)) := HO.out f hf7
        generalize szF m f = z at *
        have HZ1 : Hid (Calls Tryd.prog 22 #[.agg #[.int .i64 K, .int .i64 fr, .int .i64 inc, .int .i64 rd, .int .i64 hx, .int .i64 pz, .int .i64 ps, .slice ad n cap], .int .i64 (f : Int)] wr fun e w' => e = .returned (.int .i64 z) ∧ Below wr.heap.size wr w') := HZ1
        go_wp2_with fail
        refine HZ1.out.mono ?_
        rintro e w3 ⟨rfl, hb3⟩
        have HW1 : Hid (∃ F1, Wp w3 (.pointer (some ⟨g, 0, none⟩)) F1 (pt (.ok []) (((fdL K).take j).flatMap (fdB m))) ∧ Gr (· = g) F1 w2 ∧ Kp (· = g) w2 w3) := by
          obtain ⟨F1, hW, hG, hk⟩ := HW.out
          exact ⟨F1, hW.later hb3, hG, hk.trans (Kp.of (F := fun _ => False) hb3) (fun i hi => absurd hi id)⟩
        clear hb3 HZ1 HI2 HB3 x0 x1 x2 x3 x4 x5 x6 x7 ca HW
        go_wp2_with fail
        obtain ⟨F1, hW, hG, hk⟩ := HW1.out
        refine (wint_any _ _ F1 _ z hW HO1.out).mono ?_
        rintro e w4 ⟨rfl, hA⟩
        have HW2 : Hid (∃ F1, Wp w4 (.pointer (some ⟨g, 0, none⟩)) F1 (pt (.ok []) (((fdL K).take (j + 1)).flatMap (fdB m))) ∧ Gr (· = g) F1 w2 ∧ Kp (· = g) w2 w4) := by
          rw [pt_pt] at hA
          rw [HE.out, HE2.out]
          exact Af.tr hG hk hA
        clear hA hW hG hk HW1 HE HE2
        go_wp2
        go_roundw
        case rel => exact ⟨j + 1, by omega, by go_num, HW2⟩
        case measure => simp [intOf]; omega
    · obtain rfl : j = q := by omega
      have hjI : ¬ (j : Int) < (j : Int) := by omega
      have HB3 : Hid (B8 w.heap.size ⟨K, fr, inc, rd, hx, pz, ps, []⟩ (.slice ad n cap) wr ∧ Below w.heap.size w wr) := by
        obtain ⟨F1, -, -, hk⟩ := HW.out
        exact ⟨HB2.out.1.kept hk (fun e => by have := HS1.out; omega), HBl.out _ hk⟩
      have HW1 : Hid (∃ F1, Wp wr (.pointer (some ⟨g, 0, none⟩)) F1 (.ok (pay m))) := by
        obtain ⟨F1, hW, -, -⟩ := HW.out
        refine ⟨F1, ?_⟩
        rw [← HQ.out, List.take_length, HP.out.1, pt_ok (by have := HP.out.2.1; simp; omega)] at hW
        exact hW
      clear HW HZ HO HX HI HB2
      go_wp2_with fail
      obtain ⟨F1, hW⟩ := HW1.out
      refine (wdone_any _ _ F1 _ hW).mono ?_
      rintro e w3 ⟨v3, rfl, hB3, hO3, hb3⟩
      have HB4 : Hid (B8 w.heap.size ⟨K, fr, inc, rd, hx, pz, ps, []⟩ (.slice ad n cap) w3 ∧ Below w.heap.size w w3) := ⟨HB3.out.1.later hb3, bchain HB3.out.2 hb3⟩
      have HV : Hid (Bs w3 v3 (pay m)) := hB3
      obtain ⟨ad3, cap3, rfl, -, -⟩ := hB3.len
      obtain ⟨x0, x1, x2, x3, x4, x5, x6, x7⟩ := HB4.out.1
      dsimp only at x0 x1 x2 x3 x4 x5 x6 x7
      have HD : Hid (dnE (.ok (pay m)) = 0) := rfl
      rw [HD.out]
      clear hB3 hO3 hb3 hW HW1 HB3 HD
      go_wp2_with fail
      refine (sealOk13 _ K _ (pay m) HK.out.1 HK.out.2 HV.out HP.out.2.2 HP.out.2.1 (HT.out _ HB4.out.2)).mono ?_
      rintro e w4 ⟨v4, rfl, hO4, hb4⟩
      have HE : Hid (Ob w.heap.size w4 v4 (fsl K (pay m)) ∧ Below w.heap.size w w4) := ⟨hO4.low HB4.out.2.size, bchain HB4.out.2 hb4⟩
      obtain ⟨ad4, cap4, rfl⟩ := hO4.sl
      clear hO4 hb4
      go_wp2
      go_ret2
      exact ⟨_, rfl, HE.out.1, HE.out.2⟩
end Go.Proofs.YtfcbgkcclganmaaDoor
set_option linter.unusedVariables false
set_option linter.unusedSimpArgs false
namespace Go.Proofs.YtfcbgkcclganmaaDoor
open Go.RowKit

/-- A number put into a field. -/
def setF (m : Ms) : Nat → Int → Ms
  | 0, x => { m with fr := x }
  | 1, x => { m with inc := x }
  | 2, x => { m with rd := x }
  | 3, x => { m with h := x }
  | 4, x => { m with pt := x }
  | 5, x => { m with ps := x }
  | _, _ => m
def rdStep (z : Sta × Ms) (x : Int) : Sta × Ms := if x = 6 then (pn rB z.1, { z.2 with d := pv rB [] z.1 }) else (pn rI z.1, setF z.2 x.toNat (pv rI 0 z.1))
def rdFold (k : Int) (p : List Nat) (j : Nat) : Sta × Ms := ((fdL k).take j).foldl rdStep (.ok p, ⟨k, 0, 0, 0, 0, 0, 0, []⟩)
theorem rdFold_zero (k : Int) (p : List Nat) : rdFold k p 0 = (.ok p, ⟨k, 0, 0, 0, 0, 0, 0, []⟩) := rfl
theorem rdFold_next (k : Int) (p : List Nat) (j : Nat) (hj : j < (fdL k).length) : rdFold k p (j + 1) = rdStep (rdFold k p j) ((fdL k).getD j 0) := by
  unfold rdFold
  rw [List.take_succ_eq_append_getElem hj, List.foldl_append]
  simp [List.getD, hj]
theorem rdFold_all (k : Int) (p : List Nat) : rdFold k p (fdL k).length = (rdD k p, rdM k p) := by
  by_cases hk : 1 ≤ k ∧ k ≤ 8
  · rcases kind8 hk.1 hk.2 with rfl | rfl | rfl | rfl | rfl | rfl | rfl | rfl <;> rfl
  · unfold rdFold rdD rdM rdI
    rw [fdL_none hk, if_neg (by omega), if_neg (by omega), if_neg (by omega), if_neg (by omega), if_neg (by omega), if_neg (by omega), if_neg (by omega), if_neg (by omega)]
    have : cnt k = 0 := by unfold cnt; rw [if_neg (by omega), if_neg (by omega), if_neg (by omega), if_neg (by omega), if_neg (by omega), if_neg (by omega), if_neg (by omega)]
    rw [this]
    rfl
theorem fd_last (k : Int) (j : Nat) (hj : j < (fdL k).length) (h : (fdL k).getD j 0 = 6) : j + 1 = (fdL k).length := by
  by_cases hk : 1 ≤ k ∧ k ≤ 8
  · rcases kind8 hk.1 hk.2 with rfl | rfl | rfl | rfl | rfl | rfl | rfl | rfl
    all_goals
      revert j
      decide
  · rw [fdL_none hk] at hj; cases hj
/-- What a field's reading leaves: the reader, the message. -/
structure Rdl (p : Value) (F : Nat → Prop) (g : Nat) (s : Sta) (m : Ms) (vd : Value) (w w' : World) : Prop where
  rd : ∃ F', Rp w' p F' s ∧ Gr F F' w
  mb : Rw g 8 (mf m vd) w'
  kp : Kp (fun i => F i ∨ i = g) w w'
theorem mf_put {g : Nat} {m m' : Ms} {vd vd' : Value} {w : World} (r : Rw g 8 (mf m vd) w) (j : Nat) (u : Value) (e : ∀ k, k < 8 → (if k = j then u else mf m vd k) = mf m' vd' k) : Rw g 8 (mf m' vd') (w.setCell ⟨g, j, none⟩ u) := (r.set j u).congr e
theorem Rdl.mk2 {p : Value} {F : Nat → Prop} {g : Nat} {s : Sta} {m m' : Ms} {vd vd' : Value} {w w1 : World} (hg : ¬ F g) (r : Rw g 8 (mf m vd) w) (hA : Af Rp p F s w w1) (j : Nat) (u : Value) (e : ∀ k, k < 8 → (if k = j then u else mf m vd k) = mf m' vd' k) : Rdl p F g s m' vd' w (w1.setCell ⟨g, j, none⟩ u) := by
  have hlt := r.lt (by omega)
  obtain ⟨F', h1, h2, h3⟩ := hA
  have hn : ¬ F' g := fun q => by
    rcases h2 g q with q | q
    · exact hg q
    · omega
  have r1 : Rw g 8 (mf m vd) w1 := r.block (h3.block g hlt hg)
  refine ⟨⟨F', h1.kept (fun k hk => Below.heap_setCell _ _ _ _ (fun e => hn (by have e2 : k = g := e; rw [← e2]; exact hk))) (by rw [World.size_setCell]; exact Nat.le_refl _), h2⟩, mf_put r1 j u e, ?_⟩
  exact (Kp.mono (G := fun i => F i ∨ i = g) h3 (fun i hi => Or.inl hi)).set (p := ⟨g, j, none⟩) (Or.inl (Or.inr rfl)) u
set_option maxRecDepth 100000 in
set_option maxHeartbeats 1000000 in
theorem must_yes (w : World) : Calls Tryd.prog 50 #[.bool true] w fun e w' => e = .returned (.tuple #[]) ∧ w' = w := by
  go_enter Tryd.func50, Tryd.ntmps50
  go_wp2
  go_end0
  exact ⟨rfl, rfl⟩
set_option maxRecDepth 100000 in
set_option maxHeartbeats 1000000 in
theorem must_no (w : World) : Calls Tryd.prog 50 #[.bool false] w fun e w' => e = .panicked [{ v := .iface 28 (.int .i64 140), recovered := false }] ∧ w' = w := by
  go_enter Tryd.func50, Tryd.ntmps50
  go_wp2
  exact ⟨rfl, rfl, rfl⟩
set_option maxRecDepth 100000 in
set_option maxHeartbeats 2000000 in
theorem readField0 (p : Value) (F : Nat → Prop) (g : Nat) (s : Sta) (m : Ms) (vd : Value) (w : World) (h : Rp w p F s) (r : Rw g 8 (mf m vd) w) (hg : ¬ F g) :
    Calls Tryd.prog 56 #[p, .pointer (some ⟨g, 0, none⟩), .int .i64 0] w fun e w' => e = .returned (.tuple #[]) ∧ Rdl p F g (pn rI s) (setF m 0 (pv rI 0 s)) vd w w' := by
  have HR : Hid (Rp w p F s ∧ Rw g 8 (mf m vd) w ∧ ¬ F g) := ⟨h, r, hg⟩
  clear h r hg
  go_enter Tryd.func56, Tryd.ntmps56
  go_wp2_with fail
  refine (rInt_any _ _ F _ HR.out.1).mono ?_
  rintro e w1 ⟨rfl, hA⟩
  have HA : Hid (Af Rp p F (pn rI s) w w1) := hA
  have HW : Hid (Rw g 8 (mf m vd) w1) := by
    obtain ⟨F', -, -, h3⟩ := hA
    exact HR.out.2.1.block (h3.block g (HR.out.2.1.lt (by omega)) HR.out.2.2)
  have x := HW.out.c 1 (by omega)
  have y := HW.out.f 1 (by omega)
  clear hA
  dsimp only [mf] at x
  go_wp2
  go_end0
  refine ⟨rfl, Rdl.mk2 HR.out.2.2 HR.out.2.1 HA.out 1 _ fun k hk => ?_⟩
  rcases less8 hk with rfl | rfl | rfl | rfl | rfl | rfl | rfl | rfl <;> rfl
set_option maxRecDepth 100000 in
set_option maxHeartbeats 2000000 in
theorem readField1 (p : Value) (F : Nat → Prop) (g : Nat) (s : Sta) (m : Ms) (vd : Value) (w : World) (h : Rp w p F s) (r : Rw g 8 (mf m vd) w) (hg : ¬ F g) :
    Calls Tryd.prog 56 #[p, .pointer (some ⟨g, 0, none⟩), .int .i64 1] w fun e w' => e = .returned (.tuple #[]) ∧ Rdl p F g (pn rI s) (setF m 1 (pv rI 0 s)) vd w w' := by
  have HR : Hid (Rp w p F s ∧ Rw g 8 (mf m vd) w ∧ ¬ F g) := ⟨h, r, hg⟩
  clear h r hg
  go_enter Tryd.func56, Tryd.ntmps56
  go_wp2_with fail
  refine (rInt_any _ _ F _ HR.out.1).mono ?_
  rintro e w1 ⟨rfl, hA⟩
  have HA : Hid (Af Rp p F (pn rI s) w w1) := hA
  have HW : Hid (Rw g 8 (mf m vd) w1) := by
    obtain ⟨F', -, -, h3⟩ := hA
    exact HR.out.2.1.block (h3.block g (HR.out.2.1.lt (by omega)) HR.out.2.2)
  have x := HW.out.c 2 (by omega)
  have y := HW.out.f 2 (by omega)
  clear hA
  dsimp only [mf] at x
  go_wp2
  go_end0
  refine ⟨rfl, Rdl.mk2 HR.out.2.2 HR.out.2.1 HA.out 2 _ fun k hk => ?_⟩
  rcases less8 hk with rfl | rfl | rfl | rfl | rfl | rfl | rfl | rfl <;> rfl
set_option maxRecDepth 100000 in
set_option maxHeartbeats 2000000 in
theorem readField2 (p : Value) (F : Nat → Prop) (g : Nat) (s : Sta) (m : Ms) (vd : Value) (w : World) (h : Rp w p F s) (r : Rw g 8 (mf m vd) w) (hg : ¬ F g) :
    Calls Tryd.prog 56 #[p, .pointer (some ⟨g, 0, none⟩), .int .i64 2] w fun e w' => e = .returned (.tuple #[]) ∧ Rdl p F g (pn rI s) (setF m 2 (pv rI 0 s)) vd w w' := by
  have HR : Hid (Rp w p F s ∧ Rw g 8 (mf m vd) w ∧ ¬ F g) := ⟨h, r, hg⟩
  clear h r hg
  go_enter Tryd.func56, Tryd.ntmps56
  go_wp2_with fail
  refine (rInt_any _ _ F _ HR.out.1).mono ?_
  rintro e w1 ⟨rfl, hA⟩
  have HA : Hid (Af Rp p F (pn rI s) w w1) := hA
  have HW : Hid (Rw g 8 (mf m vd) w1) := by
    obtain ⟨F', -, -, h3⟩ := hA
    exact HR.out.2.1.block (h3.block g (HR.out.2.1.lt (by omega)) HR.out.2.2)
  have x := HW.out.c 3 (by omega)
  have y := HW.out.f 3 (by omega)
  clear hA
  dsimp only [mf] at x
  go_wp2
  go_end0
  refine ⟨rfl, Rdl.mk2 HR.out.2.2 HR.out.2.1 HA.out 3 _ fun k hk => ?_⟩
  rcases less8 hk with rfl | rfl | rfl | rfl | rfl | rfl | rfl | rfl <;> rfl
set_option maxRecDepth 100000 in
set_option maxHeartbeats 2000000 in
theorem readField3 (p : Value) (F : Nat → Prop) (g : Nat) (s : Sta) (m : Ms) (vd : Value) (w : World) (h : Rp w p F s) (r : Rw g 8 (mf m vd) w) (hg : ¬ F g) :
    Calls Tryd.prog 56 #[p, .pointer (some ⟨g, 0, none⟩), .int .i64 3] w fun e w' => e = .returned (.tuple #[]) ∧ Rdl p F g (pn rI s) (setF m 3 (pv rI 0 s)) vd w w' := by
  have HR : Hid (Rp w p F s ∧ Rw g 8 (mf m vd) w ∧ ¬ F g) := ⟨h, r, hg⟩
  clear h r hg
  go_enter Tryd.func56, Tryd.ntmps56
  go_wp2_with fail
  refine (rInt_any _ _ F _ HR.out.1).mono ?_
  rintro e w1 ⟨rfl, hA⟩
  have HA : Hid (Af Rp p F (pn rI s) w w1) := hA
  have HW : Hid (Rw g 8 (mf m vd) w1) := by
    obtain ⟨F', -, -, h3⟩ := hA
    exact HR.out.2.1.block (h3.block g (HR.out.2.1.lt (by omega)) HR.out.2.2)
  have x := HW.out.c 4 (by omega)
  have y := HW.out.f 4 (by omega)
  clear hA
  dsimp only [mf] at x
  go_wp2
  go_end0
  refine ⟨rfl, Rdl.mk2 HR.out.2.2 HR.out.2.1 HA.out 4 _ fun k hk => ?_⟩
  rcases less8 hk with rfl | rfl | rfl | rfl | rfl | rfl | rfl | rfl <;> rfl
set_option maxRecDepth 100000 in
set_option maxHeartbeats 2000000 in
theorem readField4 (p : Value) (F : Nat → Prop) (g : Nat) (s : Sta) (m : Ms) (vd : Value) (w : World) (h : Rp w p F s) (r : Rw g 8 (mf m vd) w) (hg : ¬ F g) :
    Calls Tryd.prog 56 #[p, .pointer (some ⟨g, 0, none⟩), .int .i64 4] w fun e w' => e = .returned (.tuple #[]) ∧ Rdl p F g (pn rI s) (setF m 4 (pv rI 0 s)) vd w w' := by
  have HR : Hid (Rp w p F s ∧ Rw g 8 (mf m vd) w ∧ ¬ F g) := ⟨h, r, hg⟩
  clear h r hg
  go_enter Tryd.func56, Tryd.ntmps56
  go_wp2_with fail
  refine (rInt_any _ _ F _ HR.out.1).mono ?_
  rintro e w1 ⟨rfl, hA⟩
  have HA : Hid (Af Rp p F (pn rI s) w w1) := hA
  have HW : Hid (Rw g 8 (mf m vd) w1) := by
    obtain ⟨F', -, -, h3⟩ := hA
    exact HR.out.2.1.block (h3.block g (HR.out.2.1.lt (by omega)) HR.out.2.2)
  have x := HW.out.c 5 (by omega)
  have y := HW.out.f 5 (by omega)
  clear hA
  dsimp only [mf] at x
  go_wp2
  go_end0
  refine ⟨rfl, Rdl.mk2 HR.out.2.2 HR.out.2.1 HA.out 5 _ fun k hk => ?_⟩
  rcases less8 hk with rfl | rfl | rfl | rfl | rfl | rfl | rfl | rfl <;> rfl
set_option maxRecDepth 100000 in
set_option maxHeartbeats 2000000 in
theorem readField5 (p : Value) (F : Nat → Prop) (g : Nat) (s : Sta) (m : Ms) (vd : Value) (w : World) (h : Rp w p F s) (r : Rw g 8 (mf m vd) w) (hg : ¬ F g) :
    Calls Tryd.prog 56 #[p, .pointer (some ⟨g, 0, none⟩), .int .i64 5] w fun e w' => e = .returned (.tuple #[]) ∧ Rdl p F g (pn rI s) (setF m 5 (pv rI 0 s)) vd w w' := by
  have HR : Hid (Rp w p F s ∧ Rw g 8 (mf m vd) w ∧ ¬ F g) := ⟨h, r, hg⟩
  clear h r hg
  go_enter Tryd.func56, Tryd.ntmps56
  go_wp2_with fail
  refine (rInt_any _ _ F _ HR.out.1).mono ?_
  rintro e w1 ⟨rfl, hA⟩
  have HA : Hid (Af Rp p F (pn rI s) w w1) := hA
  have HW : Hid (Rw g 8 (mf m vd) w1) := by
    obtain ⟨F', -, -, h3⟩ := hA
    exact HR.out.2.1.block (h3.block g (HR.out.2.1.lt (by omega)) HR.out.2.2)
  have x := HW.out.c 6 (by omega)
  have y := HW.out.f 6 (by omega)
  clear hA
  dsimp only [mf] at x
  go_wp2
  go_end0
  refine ⟨rfl, Rdl.mk2 HR.out.2.2 HR.out.2.1 HA.out 6 _ fun k hk => ?_⟩
  rcases less8 hk with rfl | rfl | rfl | rfl | rfl | rfl | rfl | rfl <;> rfl
set_option maxRecDepth 100000 in
set_option maxHeartbeats 2000000 in
theorem readField6 (p : Value) (F : Nat → Prop) (g : Nat) (s : Sta) (m : Ms) (vd : Value) (w : World) (h : Rp w p F s) (r : Rw g 8 (mf m vd) w) (hg : ¬ F g) :
    Calls Tryd.prog 56 #[p, .pointer (some ⟨g, 0, none⟩), .int .i64 6] w fun e w' => e = .returned (.tuple #[]) ∧ ∃ v, Rdl p F g (pn rB s) { m with d := pv rB [] s } v w w' ∧ Bs w' v (pv rB [] s) ∧ Ow w.heap.size v := by
  have HR : Hid (Rp w p F s ∧ Rw g 8 (mf m vd) w ∧ ¬ F g) := ⟨h, r, hg⟩
  clear h r hg
  go_enter Tryd.func56, Tryd.ntmps56
  go_wp2_with fail
  refine (rBytes_any _ _ F _ HR.out.1).mono ?_
  rintro e w1 ⟨v1, rfl, hB, hO, hA⟩
  have HA : Hid (Af Rp p F (pn rB s) w w1 ∧ Bs w1 v1 (pv rB [] s) ∧ Ow w.heap.size v1) := ⟨hA, hB, hO⟩
  have HW : Hid (Rw g 8 (mf m vd) w1) := by
    obtain ⟨F', -, -, h3⟩ := hA
    exact HR.out.2.1.block (h3.block g (HR.out.2.1.lt (by omega)) HR.out.2.2)
  have x := HW.out.c 7 (by omega)
  have y := HW.out.f 7 (by omega)
  obtain ⟨ad, cap, rfl, -, -⟩ := hB.len
  clear hA hB hO
  dsimp only [mf] at x
  go_wp2
  go_end0
  refine ⟨rfl, _, Rdl.mk2 HR.out.2.2 HR.out.2.1 HA.out.1 7 _ fun k hk => ?_, Ls.set HA.out.2.1 _ _ (ow_apart HA.out.2.2 (HR.out.2.1.lt (by omega))), HA.out.2.2⟩
  rcases less8 hk with rfl | rfl | rfl | rfl | rfl | rfl | rfl | rfl <;> rfl
theorem readField_any (p : Value) (F : Nat → Prop) (g : Nat) (s : Sta) (m : Ms) (vd : Value) (f : Nat) (hf : f < 6) (w : World) (h : Rp w p F s) (r : Rw g 8 (mf m vd) w) (hg : ¬ F g) :
    Calls Tryd.prog 56 #[p, .pointer (some ⟨g, 0, none⟩), .int .i64 (f : Int)] w fun e w' => e = .returned (.tuple #[]) ∧ Rdl p F g (pn rI s) (setF m f (pv rI 0 s)) vd w w' := by
  have : f = 0 ∨ f = 1 ∨ f = 2 ∨ f = 3 ∨ f = 4 ∨ f = 5 := by omega
  rcases this with rfl | rfl | rfl | rfl | rfl | rfl
  · exact readField0 p F g s m vd w h r hg
  · exact readField1 p F g s m vd w h r hg
  · exact readField2 p F g s m vd w h r hg
  · exact readField3 p F g s m vd w h r hg
  · exact readField4 p F g s m vd w h r hg
  · exact readField5 p F g s m vd w h r hg
end Go.Proofs.YtfcbgkcclganmaaDoor
