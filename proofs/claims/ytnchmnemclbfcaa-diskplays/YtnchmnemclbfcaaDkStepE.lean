/-
  Layer 15: a step of a play, of both disks: Under; any step.
-/
import Derived.Test.YtnchmnemclbfcaaDkStepD
set_option linter.unusedVariables false
set_option linter.unusedSimpArgs false
namespace Go.Proofs.Ytnchmnemclbfcaa
open Go.RowKit

set_option maxRecDepth 100000 in
set_option maxHeartbeats 4000000 in
theorem same06 (va vb : Value) (l m : List Int) (w : World) (hA : Is w va l) (hB : Is w vb m) :
    Calls Try.prog 31 #[va, vb] w fun e w' => e = .returned (.bool (decide (l = m))) ∧ Below w.heap.size w w' := by
  have HA : Hid (Is w va l) := hA
  have HB : Hid (Is w vb m) := hB
  obtain ⟨ad, cap, rfl, k1, k2⟩ := hA.len
  obtain ⟨bd, bap, rfl, q1, q2⟩ := hB.len
  unfold maxLen at k2 q2
  clear hA hB
  by_cases hlen : l.length = m.length
  · have HE : Hid (l.length = m.length) := hlen
    have hne : ((l.length : Int) != (m.length : Int)) = false := by simp [hlen]
    have hnI : (l.length : Int) = (m.length : Int) := by omega
    obtain ⟨n, hn⟩ : ∃ n, l.length = n := ⟨_, rfl⟩
    obtain ⟨n2, hn2⟩ : ∃ n2, m.length = n2 := ⟨_, rfl⟩
    have HN : Hid (l.length = n ∧ m.length = n) := ⟨hn, by omega⟩
    rw [hn, hn2] at hlen
    rw [hn] at k1 HA ⊢
    rw [hn2] at q1 HB ⊢
    subst hlen
    clear hn hn2 hnI HE hne
    go_enter Try.func31, Try.ntmps31
    go_upto_region 4 with fail
    go_loopw [5] (fun s5 wr => ∃ j : Nat, j ≤ n ∧ s5 = .int .i64 (j : Int) ∧ Hid (∀ k, k < j → l.getD k 0 = m.getD k 0) ∧ Hid (Below w.heap.size w wr)) (fun s5 _ => n - (intOf s5).toNat)
    case atStart => exact ⟨0, by omega, rfl, fun k hk => by omega, Below.refl _ _⟩
    case round =>
      obtain ⟨j, hj, rfl, HS, HW⟩ := hrel
      by_cases hlt : j < n
      · have hjI : (j : Int) < (n : Int) := by omega
        have hN := HN.out
        obtain ⟨b, o, rfl, ca⟩ := HA.out.cel j (by omega)
        obtain ⟨b2, o2, rfl, cb⟩ := HB.out.cel j (by omega)
        have cA := cell_later HW.out ca
        have cB := cell_later HW.out cb
        by_cases heq : l.getD j 0 = m.getD j 0
        · have HS2 : Hid (∀ k, k < j + 1 → l.getD k 0 = m.getD k 0) := fun k hk => by
            by_cases e : k = j
            · subst e; exact heq
            · exact HS.out k (by omega)
          have hne : (l.getD j 0 != m.getD j 0) = false := neF (by rw [heq])
          have heq2 : l.getD j 0 = m.getD j 0 := heq
          clear ca cb HS hN heq
          generalize l.getD j 0 = x at *
          generalize m.getD j 0 = y at *
          go_wp2
          go_quiet (fail)
          go_wp2
          go_roundw
          case rel => exact ⟨j + 1, by omega, by go_num, HS2, below_drewP HW.out _⟩
          case measure => simp [intOf]; omega
        · have HF : Hid (decide (l = m) = false) := by
            show _ = _
            simp only [decide_eq_false_iff_not]
            intro e
            exact heq (by rw [e])
          have hne : (l.getD j 0 != m.getD j 0) = true := neT (by omega)
          have heq2 : ¬ l.getD j 0 = m.getD j 0 := by omega
          clear ca cb HS hN heq
          generalize l.getD j 0 = x at *
          generalize m.getD j 0 = y at *
          go_wp2
          go_quiet (fail)
          go_wp2
          go_ret
          exact ⟨by rw [HF.out]; rfl, below_drewP HW.out _⟩
      · obtain rfl : j = n := by omega
        have hjI : ¬ (j : Int) < (j : Int) := by omega
        have HF : Hid (decide (l = m) = true) := by
          show _ = _
          simp only [decide_eq_true_eq]
          have hN := HN.out
          exact ext0 0 (by omega) (fun k hk => HS.out k (by omega))
        go_wp2
        go_ret
        exact ⟨by rw [HF.out]; rfl, HW.out⟩
  · have hne : ((l.length : Int) != (m.length : Int)) = true := neT (by omega)
    have hnI : ¬ (l.length : Int) = (m.length : Int) := by omega
    have HF : Hid (decide (l = m) = false) := by
      show _ = _
      simp only [decide_eq_false_iff_not]
      intro e
      exact hlen (by rw [e])
    rw [HF.out]
    clear HA HB
    go_enter Try.func31, Try.ntmps31
    go_wp2
    go_ret
    exact ⟨rfl, Below.refl _ _⟩
/-- A list of ints of one's own. -/
def Oj (base : Nat) (w : World) (v : Value) (l : List Int) : Prop := w.ownsRow base 3 1 v l.length (i6 l)
theorem Oj.is {base : Nat} {w : World} {v : Value} {l : List Int} (h : Oj base w v l) : Is w v l ∧ Ow base v := by
  unfold Oj at h
  rw [← vl_i6] at h
  exact ls_of_own h
theorem oj_nil (base : Nat) (w : World) : Oj base w (.slice none 0 0) [] := World.ownsRow_nil _ _ _ _
theorem Oj.later {base : Nat} {w w' : World} {v : Value} {l : List Int} (h : Oj base w v l) (hb : Below w.heap.size w w') : Oj base w' v l := own_later h hb
theorem Oj.sl {base : Nat} {w : World} {v : Value} {l : List Int} (h : Oj base w v l) : ∃ ad cap, v = .slice ad l.length cap := own_sl h
theorem dinfo_int15 : (Try.prog.info? 3).map (fun i => (i.zero, i.size, i.bytes)) = some (some (.int .i64 0), 1, 8) := by kernel_rfl
theorem intInfo15 : ∃ i, Try.prog.info? 3 = some i ∧ i.zero = some (.int .i64 0) ∧ i.size = 1 ∧ i.bytes = 8 := by
  obtain ⟨i0, hti, hi0, hi1, hi2⟩ := info_parts dinfo_int15
  exact ⟨i0, hti, hi0, hi1, hi2⟩
/-- A list of one's own grows by numbers. -/
theorem apJ {ops : Array Oper} {rest : List Oper} {o : Oper} {a : Act} {w : World} {Q : Exit → Act → World → Prop} (hgd : o.guard = none) (s x : Operand)
    (ho : o.op = .call { callee := .builtin .append, args := #[s, x], argTypes := #[54, 54] })
    (base : Nat) (v : Value) (l : List Int) (hs : a.eval s = v) (hO : Oj base w v l) (vx : Value) (m : List Int) (hx : a.eval x = vx) (hL : Is w vx m)
    (hlen : l.length + m.length ≤ 1073741824) (hbase : base ≤ w.heap.size)
    (h : ∀ v' w', Oj base w' v' (l ++ m) → Gw base w w' → wpList Try.prog ops Q rest (a.put o.dst v') w') : wpList Try.prog ops Q (o :: rest) a w := by
  obtain ⟨i0, hti, hi0, hi1, hi2⟩ := intInfo15
  obtain ⟨ad, cap, e, h1, h2⟩ := hL.len
  subst e
  cases ad with
  | none =>
    obtain ⟨e0, e1⟩ := Ls.nil hL
    obtain rfl : m = [] := List.eq_nil_of_length_eq_zero e0
    subst e1
    refine wpList_append_own_none hgd s x 54 ho base 3 i0 1 Try.underlying54 hti v _ _ hs hO hx ?_
    refine h v w ?_ ⟨fun _ h => h, Nat.le_refl _⟩
    rw [List.append_nil]; exact hO
  | some ad =>
    have hnews := ls_news hL
    refine wpList_append_own w hgd s x 54 ho base 3 i0 (.int .i64 0) 1 8 Try.underlying54 hti hi0 hi1 hi2 rfl (by decide) v l.length (i6 l) hs hO ad m.length cap (i6 m) hx (by rw [i6_len, Nat.mul_one]) (by rw [← vl_i6]; exact hnews) (i6_one m) (by unfold maxLen; omega) (by omega) hbase ?_
    intro v' w' hown hg _
    refine h v' w' ?_ ⟨fun w0 hb => hb.grown hg hbase (fun k hk => (hO.lt k hk).1), hg.size⟩
    unfold Oj
    rw [List.length_append, i6_app]
    exact hown
set_option maxRecDepth 100000 in
set_option maxHeartbeats 16000000 in
theorem step15_7 (V : Disk1) (w0 w : World) (d r : Value) (s : Dsk) (h : D2 V w0 w d r s s (fun _ => False)) (hu : s.un.length ≤ 900) (i : Int) (hi : Bd64 i) (vb vf : Value) (b : List Nat) (fs : List (Int × Int)) (hb : Bs w vb b) (hbl : b.length ≤ 300) (hbb : ∀ c ∈ b, c < 256) (hlb : Lo w0.heap.size vb) (hf : Fts w vf fs) (hfl : fs.length ≤ 100) (hlf : Lo w0.heap.size vf) :
    Calls Try.prog 13 #[d, r, .agg #[.int .i64 7, .int .i64 i, vb, vf]] w fun e w' => StE V w0 d r s e w' := by
  obtain ⟨ab, pb, rfl, -, -⟩ := hb.len
  obtain ⟨af, pf, rfl, -, -⟩ := hf.len
  obtain ⟨nb, hnb⟩ : ∃ nb, b.length = nb := ⟨_, rfl⟩
  obtain ⟨nf, hnf⟩ : ∃ nf, fs.length = nf := ⟨_, rfl⟩
  have HN : Hid (b.length = nb ∧ nb ≤ 300 ∧ fs.length = nf ∧ nf ≤ 100 ∧ s.un.length ≤ 900) := ⟨hnb, by omega, hnf, by omega, hu⟩
  rw [hnb] at hb hlb ⊢
  rw [hnf] at hf hlf ⊢
  obtain ⟨w1, hw1⟩ : ∃ w1, w1 = w.alloc (.cells #[.int .i64 7, .int .i64 i, .slice ab nb pb, .slice af nf pf] 35) := ⟨_, rfl⟩
  obtain ⟨bo, hbo⟩ : ∃ bo, w.heap.size = bo := ⟨_, rfl⟩
  have hk1 : Below w.heap.size w w1 := by rw [hw1]; exact bel1 _ _
  have HB : Hid (Bs w1 (.slice ab nb pb) b ∧ (∀ c ∈ b, c < 256) ∧ Lo w0.heap.size (.slice ab nb pb) ∧ Fts w1 (.slice af nf pf) fs ∧ Lo w0.heap.size (.slice af nf pf) ∧ Bd64 i) := ⟨hb.later hk1, hbb, hlb, hf.later hk1, hlf, hi⟩
  have HD : Hid (D2 V w0 w1 d r s s (fun k => bo ≤ k ∧ k < w1.heap.size)) := (h.later hk1).weak (fun k hk => Or.inr (by rw [hbo]; exact hk))
  have HX : Hid (Bo bo 7 i (.slice ab nb pb) (.slice af nf pf) w1 ∧ w1.heap.size = bo + 1) := ⟨by rw [hw1, ← hbo]; exact ⟨by simp [go_sem], by simp [go_sem], by simp [go_sem], by simp [go_sem]⟩, by rw [hw1, World.size_alloc, hbo]⟩
  clear hb hbl hbb hlb hf hfl hlf hi hk1 h hu hnb hnf
  go_enter Try.func13, Try.ntmps13
  go_upto_region 1 with fail
  rw [← hw1]
  clear hw1
  try rw [hbo]
  clear hbo
  have x0 := HX.out.1.x0
  have x1 := HX.out.1.x1
  have x2 := HX.out.1.x2
  have x3 := HX.out.1.x3
  obtain ⟨br, vB, vU, cs, ds, G, er, hR⟩ := HD.out.ref
  subst er
  obtain ⟨aU, pU, rfl⟩ := hR.sU
  obtain ⟨m, hm⟩ : ∃ m, s.un.length = m := ⟨_, rfl⟩
  rw [hm] at hR
  have HR : Hid (Rd5 w1 br vB (.slice aU m pU) cs ds G s ∧ s.un.length = m) := ⟨hR, hm⟩
  have z1 := hR.c1
  obtain ⟨us, hus⟩ : ∃ us : List Int, us = s.un.map fun u => ((u.1 : Nat) : Int) := ⟨_, rfl⟩
  have HU : Hid (us.length = m ∧ ∀ j, j < m → (((s.un.getD j (0, [])).1 : Nat) : Int) = us.getD j 0) := by
    subst hus
    refine ⟨by rw [List.length_map, hm], fun j hj => ?_⟩
    have hj2 : j < s.un.length := by omega
    simp [List.getD, hj2]
  have HUs : Hid (us = s.un.map fun u => ((u.1 : Nat) : Int)) := hus
  have HM9 : Hid (m ≤ 900) := by have := HN.out; show _ ≤ _; omega
  clear hR hm x1 x2 x3 hus
  go_upto_region 40 with fail
  go_loopw [21, 176] (fun s21 s176 we => ∃ j : Nat, j ≤ m ∧ s176 = .int .i64 (j : Int) ∧ Hid (Oj w1.heap.size we s21 (us.take j) ∧ Below w1.heap.size w1 we)) (fun _ s176 _ => m - (intOf s176).toNat)
  case atStart => exact ⟨0, by omega, rfl, oj_nil _ _, Below.refl _ _⟩
  case round =>
    rename World => we
    obtain ⟨j, hj, rfl, HW⟩ := hrel
    by_cases hlt : j < m
    · have hjI : (j : Int) < (m : Int) := by omega
      have hj0 : (0 : Int) ≤ (j : Int) := by omega
      have hjw : IntKind.i64.wrap ((j : Int) + 1) = ((j + 1 : Nat) : Int) := by have := HM9.out; rw [IntKind.wrap_i64]; omega
      obtain ⟨gU, x, eU, ca, cx, tx, -⟩ := (HR.out.1.later HW.out.2).atU j (by have := HR.out.2; omega)
      subst eU
      obtain ⟨ax, px, ex, -, -⟩ := tx.1.len
      subst ex
      have hat := HU.out.2 j hlt
      rw [hat] at ca
      have HS : Hid (us.take j ++ [us.getD j 0] = us.take (j + 1)) := by
        show _ = _
        rw [List.take_add_one]
        congr 1
        have hj2 : j < us.length := by have := HU.out.1; omega
        simp [List.getD, hj2]
      have HTl : Hid ((us.take j).length ≤ 900) := by show _ ≤ _; rw [List.length_take]; have := HM9.out; omega
      generalize us.getD j 0 = a at *
      generalize (s.un.getD j (0, [])).2.length = L at *
      clear tx hat z1 x0
      go_upto_region 43 with (at_builtin; refine apJ rfl _ _ rfl w1.heap.size u21 (us.take j) rfl ((HW.out.1.later (bel1 _ _)).later (bel1 _ _)) _ [a] (by first | rfl | (rw [World.size_alloc]; rfl)) (is_one _ a _) (by have := HTl.out; rw [List.length_singleton]; omega) (by rw [World.size_alloc, World.size_alloc]; have := HW.out.2.size; omega) ?_; intro v2 w2 hO2 hg2)
      have HW2 : Hid (Oj w1.heap.size w2 v2 (us.take (j + 1)) ∧ Below w1.heap.size w1 w2) := ⟨by rw [← HS.out]; exact hO2, hg2.1 _ ((HW.out.2.alloc HW.out.2.size _).alloc (by rw [World.size_alloc]; have := HW.out.2.size; omega) _)⟩
      clear hO2 hg2 HW HS HTl ca cx
      go_wp2
      go_roundw
      case rel => exact ⟨j + 1, by omega, by first | rfl | go_num, HW2⟩
      case measure => simp only [intOf]; omega
    · obtain rfl : j = m := by omega
      have hjI : ¬ (j : Int) < (j : Int) := by omega
      have hall : us.take j = us := List.take_of_length_le (by have := HU.out.1; omega)
      have hO := HW.out.1
      rw [hall] at hO
      obtain ⟨a21, p21, e21⟩ := hO.sl
      subst e21
      have HO : Hid (Is we (.slice a21 us.length p21) us ∧ Below w1.heap.size w1 we) := ⟨hO.is.1, HW.out.2⟩
      have HD2 := hid5 (HD.out.later HW.out.2)
      clear hall hO HW z1 x0 HD
      generalize us.length = nu at *
      go_wp2_with fail
      refine (d2Un HD2.out (by have := HN.out; omega)).mono ?_
      rintro e w3 ⟨v3, rfl, hI3, hO3, hB3⟩
      rw [← HUs.out] at hI3
      obtain ⟨a3, p3, rfl, -, -⟩ := hI3.len
      have HI3 : Hid (Is w3 (.slice a3 us.length p3) us ∧ Is w3 (.slice a21 nu p21) us) := ⟨hI3, HO.out.1.later hB3⟩
      have HD3 := hid5 (HD2.out.later hB3)
      clear hI3 hO3 hB3 HD2 HO
      go_wp2_with fail
      refine (same06 _ _ _ _ w3 HI3.out.1 HI3.out.2).mono ?_
      rintro e w4 ⟨rfl, hB4⟩
      rw [decide_eq_true (rfl : us = us)]
      have HE : Hid (D2 V w0 w4 d (.pointer (some ⟨br, 0, none⟩)) s s (fun _ => False)) := (HD3.out.later hB4).weak (fun k hk => hk.elim)
      clear hB4 HD3 HI3
      go_wp2
      go_ret
      exact ⟨rfl, s, HE.out, by omega, rfl⟩
theorem step15 (V : Disk1) (w0 w : World) (d r : Value) (s : Dsk) (h : D2 V w0 w d r s s (fun _ => False)) (hu : s.un.length ≤ 900) (k : Int) (i : Int) (hi : Bd64 i) (vb vf : Value) (b : List Nat) (fs : List (Int × Int)) (hb : Bs w vb b) (hbl : b.length ≤ 300) (hbb : ∀ c ∈ b, c < 256) (hlb : Lo w0.heap.size vb) (hf : Fts w vf fs) (hfl : fs.length ≤ 100) (hlf : Lo w0.heap.size vf) :
    Calls Try.prog 13 #[d, r, .agg #[.int .i64 k, .int .i64 i, vb, vf]] w fun e w' => StE V w0 d r s e w' := by
  by_cases k1 : k = 1
  · subst k1; exact step15_1 V w0 w d r s h hu i hi vb vf b fs hb hbl hbb hlb hf hfl hlf
  by_cases k2 : k = 2
  · subst k2; exact step15_2 V w0 w d r s h hu i hi vb vf b fs hb hbl hbb hlb hf hfl hlf
  by_cases k3 : k = 3
  · subst k3; exact step15_3 V w0 w d r s h hu i hi vb vf b fs hb hbl hbb hlb hf hfl hlf
  by_cases k4 : k = 4
  · subst k4; exact step15_4 V w0 w d r s h hu i hi vb vf b fs hb hbl hbb hlb hf hfl hlf
  by_cases k5 : k = 5
  · subst k5; exact step15_5 V w0 w d r s h hu i hi vb vf b fs hb hbl hbb hlb hf hfl hlf
  by_cases k6 : k = 6
  · subst k6; exact step15_6 V w0 w d r s h hu i hi vb vf b fs hb hbl hbb hlb hf hfl hlf
  by_cases k7 : k = 7
  · subst k7; exact step15_7 V w0 w d r s h hu i hi vb vf b fs hb hbl hbb hlb hf hfl hlf
  exact step15_0 V w0 w d r s h hu k k1 k2 k3 k4 k5 k6 k7 i hi vb vf b fs hb hbl hbb hlb hf hfl hlf
end Go.Proofs.Ytnchmnemclbfcaa
