/-
  A thing's form, by the document (regattalaw12's Thing.form).
-/
import Derived.Test.YtahbpegjdmblaaaPkLawA
set_option linter.unusedVariables false
set_option linter.unusedSimpArgs false
namespace Go.Proofs.Ytahbpegjdmblaaa
open Go.RowKit

theorem flat_take {en : Int → List Nat} {l : List Int} {j : Nat} (h : j < l.length) : (l.take (j + 1)).flatMap en = (l.take j).flatMap en ++ en (l.getD j 0) := by
  rw [is_take_succ h, List.flatMap_append]
  simp
theorem flat_len {en : Int → List Nat} {c : Nat} : ∀ l : List Int, (∀ x ∈ l, (en x).length ≤ c) → (l.flatMap en).length ≤ c * l.length := by
  intro l
  induction l with
  | nil => intro _; simp
  | cons x l ih =>
    intro h
    have h1 := h x (by simp)
    have h2 := ih (fun y hy => h y (by simp [hy]))
    rw [List.flatMap_cons, List.length_append, List.length_cons, Nat.mul_add]
    omega
theorem okI_get {l : List Int} (h : ∀ n ∈ l, okI n) {j : Nat} (hj : j < l.length) : okI (l.getD j 0) := by
  have e : l.getD j 0 = l[j] := by simp [List.getD, hj]
  rw [e]
  exact h _ (List.getElem_mem hj)
theorem enI_ten {x : Int} (h : okI x) : (enI x).length ≤ 10 := enU_ten (ctI_lt h.1 h.2)
set_option maxRecDepth 100000 in
set_option maxHeartbeats 8000000 in
theorem form12 (t : Th) (g : t.good) (g2 : t.b.length ≤ 2000000 ∧ t.l.length ≤ 2000000 ∧ t.f.length ≤ 2000000) (vb vl vf : Value) (w : World) (hb : Bs w vb t.b) (hl : Is w vl t.l) (hf : Is w vf t.f) :
    Calls Try.prog 34 #[.agg #[.int .i64 t.k, .int .u64 (t.u : Int), .int .i64 t.n, .int .i64 t.x, vb, vl, vf]] w fun e w' => ∃ v, e = .returned v ∧ Ob w.heap.size w' v t.form ∧ Below w.heap.size w w' := by
  have H1 : Hid (∀ o : Obj, Bs (w.alloc o) vb t.b ∧ Is (w.alloc o) vl t.l ∧ Is (w.alloc o) vf t.f) := fun o => ⟨hb.later (bel1 w o), hl.later (bel1 w o), hf.later (bel1 w o)⟩
  have HG : Hid (t.good) := g
  have HG2 : Hid (t.b.length ≤ 2000000 ∧ t.l.length ≤ 2000000 ∧ t.f.length ≤ 2000000) := g2
  have HLO : Hid (Lo w.heap.size vb ∧ Lo w.heap.size vl ∧ Lo w.heap.size vf) := ⟨Ls.lo hb, Ls.lo hl, Ls.lo hf⟩
  obtain ⟨k, hk⟩ : ∃ k, t.k = k := ⟨_, rfl⟩
  have HT : Hid (t.k = k) := hk
  obtain ⟨vbl, vbc, evb, kb1, kb2⟩ := hb.len
  obtain ⟨vll, vlc, evl, kl1, kl2⟩ := hl.len
  obtain ⟨vfl, vfc, evf, kf1, kf2⟩ := hf.len
  unfold maxLen at kb2 kl2 kf2
  subst evb evl evf
  rw [hk]
  clear hb hl hf g g2 hk
  rcases kinds k with rfl | rfl | rfl | rfl | rfl | rfl | hk
  · rw [form_1 HT.out]
    go_enter Try.func34, Try.ntmps34
    go_wp2_with fail
    refine (refUint _ HG.out.u _).mono ?_
    rintro e w1 ⟨v, rfl, hO, hB⟩
    have HO : Hid (Ob w.heap.size w1 v (enU t.u) ∧ Below w.heap.size w w1) := ⟨hO.low (by simp), bchain (bel1 w _) hB⟩
    obtain ⟨ad, cap, rfl⟩ := hO.sl
    clear hO hB H1
    go_wp2
    go_ret
    exact ⟨_, rfl, HO.out⟩
  · rw [form_2 HT.out]
    go_enter Try.func34, Try.ntmps34
    go_wp2_with fail
    refine (refCount _ HG.out.n.1 HG.out.n.2 _).mono ?_
    rintro e w0 ⟨rfl, rfl⟩
    go_wp2_with fail
    refine (refUint _ (ctI_lt HG.out.n.1 HG.out.n.2) _).mono ?_
    rintro e w1 ⟨v, rfl, hO, hB⟩
    have HO : Hid (Ob w.heap.size w1 v (enI t.n) ∧ Below w.heap.size w w1) := ⟨hO.low (by simp), bchain (bel1 w _) hB⟩
    obtain ⟨ad, cap, rfl⟩ := hO.sl
    clear hO hB H1
    go_wp2
    go_ret
    exact ⟨_, rfl, HO.out⟩
  · rw [form_3 HT.out]
    go_enter Try.func34, Try.ntmps34
    go_wp2_with fail
    refine (refFix _ HG.out.x.1 HG.out.x.2 _).mono ?_
    rintro e w1 ⟨v, rfl, hO, hB⟩
    have HO : Hid (Ob w.heap.size w1 v (enF t.x) ∧ Below w.heap.size w w1) := ⟨hO.low (by simp), bchain (bel1 w _) hB⟩
    obtain ⟨ad, cap, rfl⟩ := hO.sl
    clear hO hB H1
    go_wp2
    go_ret
    exact ⟨_, rfl, HO.out⟩
  · rw [form_4 HT.out]
    have HB0 : Hid (∀ o : Obj, Bs (w.alloc o) (.slice vbl t.b.length vbc) t.b) := fun o => (H1.out o).1
    have HE : Hid (enB t.b = enU t.b.length ++ t.b) := rfl
    have hbl := HG2.out.1
    have hbw : IntKind.u64.wrap (t.b.length : Int) = (t.b.length : Int) := by rw [IntKind.wrap_u64]; omega
    generalize t.b = L at *
    obtain ⟨n, hn⟩ : ∃ n, L.length = n := ⟨_, rfl⟩
    have HN : Hid (L.length = n) := hn
    rw [hn] at hbl hbw HB0 HE ⊢
    clear hn H1
    go_enter Try.func34, Try.ntmps34
    go_upto_region 10 with fail
    have HX : Hid (B7 w.heap.size (.int .i64 4) (.int .u64 (t.u : Int)) (.int .i64 t.n) (.int .i64 t.x) (.slice vbl n vbc) (.slice vll t.l.length vlc) (.slice vfl t.f.length vfc) (w.alloc (.cells #[.int .i64 4, .int .u64 (t.u : Int), .int .i64 t.n, .int .i64 t.x, .slice vbl n vbc, .slice vll t.l.length vlc, .slice vfl t.f.length vfc] 34))) := B7.new _ _ _ _ _ _ _ _ _
    have HW1 : Hid (Below w.heap.size w (w.alloc (.cells #[.int .i64 4, .int .u64 (t.u : Int), .int .i64 t.n, .int .i64 t.x, .slice vbl n vbc, .slice vll t.l.length vlc, .slice vfl t.f.length vfc] 34)).drew ∧ Bs (w.alloc (.cells #[.int .i64 4, .int .u64 (t.u : Int), .int .i64 t.n, .int .i64 t.x, .slice vbl n vbc, .slice vll t.l.length vlc, .slice vfl t.f.length vfc] 34)).drew (.slice vbl n vbc) L) := ⟨(bel1 w _).drew, (HB0.out _).later ((Below.refl _ _).drew)⟩
    have hbx : w.heap.size < (w.alloc (.cells #[.int .i64 4, .int .u64 (t.u : Int), .int .i64 t.n, .int .i64 t.x, .slice vbl n vbc, .slice vll t.l.length vlc, .slice vfl t.f.length vfc] 34)).drew.heap.size := by
      show _ < (w.alloc _).heap.size
      rw [World.size_alloc]
      omega
    refine wp_region_held_drew (S := fun W => W.cell? ⟨w.heap.size, 4, none⟩ = some (.slice vbl n vbc)) (by kernel_rfl) HX.out.drew.c4 (fun HS => ?_)
    clear HX HB0
    generalize (w.alloc (.cells #[.int .i64 4, .int .u64 (t.u : Int), .int .i64 t.n, .int .i64 t.x, .slice vbl n vbc, .slice vll t.l.length vlc, .slice vfl t.f.length vfc] 34)).drew = q0 at *
    refine wpAnyH_take (i := 0) (v := ?v1) rfl (by kernel_rfl) (by kernel_rfl) (by kernel_rfl) (fun _ _ _ h => h) (Or.inl ⟨by kernel_rfl, ?h1⟩) HS ?r1
    case h1 => (rintro w n0; go_simp) <;> with_reducible rfl
    try simp only [Act.put, List.getElem_toArray, List.getElem_cons_succ, List.getElem_cons_zero, List.setIfInBounds_toArray, List.set_cons_zero, List.set_cons_succ]
    refine wpAnyH_take (i := 1) (v := ?v2) rfl (by kernel_rfl) (by kernel_rfl) (by kernel_rfl) (fun _ _ _ h => h) (Or.inl ⟨by kernel_rfl, ?h2⟩) HS ?r2
    case h2 => (rintro w n0; go_simp) <;> with_reducible rfl
    try simp only [Act.put, List.getElem_toArray, List.getElem_cons_succ, List.getElem_cons_zero, List.setIfInBounds_toArray, List.set_cons_zero, List.set_cons_succ]
    refine wpAnyH_take (i := 2) (v := ?v3) rfl (by kernel_rfl) (by kernel_rfl) (by kernel_rfl) (fun _ _ _ h => h) (Or.inl ⟨by kernel_rfl, ?h3⟩) HS ?r3
    case h3 => (rintro w n0; go_simp) <;> with_reducible rfl
    try simp only [Act.put, List.getElem_toArray, List.getElem_cons_succ, List.getElem_cons_zero, List.setIfInBounds_toArray, List.set_cons_zero, List.set_cons_succ]
    refine wpAnyH_take (i := 3) (v := ?v4) rfl (by kernel_rfl) (by kernel_rfl) (by kernel_rfl) (fun _ _ _ h => h) (Or.inl ⟨by kernel_rfl, ?h4⟩) HS ?r4
    case h4 => (rintro w n0; go_simp) <;> with_reducible rfl
    try simp only [Act.put, List.getElem_toArray, List.getElem_cons_succ, List.getElem_cons_zero, List.setIfInBounds_toArray, List.set_cons_zero, List.set_cons_succ]
    refine wpAnyH_take (i := 5) (v := ?v5) rfl (by kernel_rfl) (by kernel_rfl) (by kernel_rfl) (fun _ _ _ h => h) (Or.inl ⟨by kernel_rfl, ?h5⟩) HS ?r5
    case h5 => (rintro w n0; go_simp) <;> with_reducible rfl
    try simp only [Act.put, List.getElem_toArray, List.getElem_cons_succ, List.getElem_cons_zero, List.setIfInBounds_toArray, List.set_cons_zero, List.set_cons_succ]
    refine wpAnyH_take (i := 6) (v := ?v6) rfl (by kernel_rfl) (by kernel_rfl) (by kernel_rfl) (fun _ _ _ h => h) (Or.inl ⟨by kernel_rfl, ?h6⟩) HS ?r6
    case h6 => (rintro w n0; go_simp) <;> with_reducible rfl
    try simp only [Act.put, List.getElem_toArray, List.getElem_cons_succ, List.getElem_cons_zero, List.setIfInBounds_toArray, List.set_cons_zero, List.set_cons_succ]
    refine wpAnyH_ready (rs := [4]) (by kernel_rfl) (by simp) ?_
    refine AllReadyH.cons rfl (fun K hK => ?_) AllReadyH.nil
    go_simp
    refine (refUint n (by omega) _).mono ?_
    rintro e q1 ⟨v, rfl, hO, hB⟩
    have HW2 : Hid (Below w.heap.size w q1 ∧ Bs q1 (.slice vbl n vbc) L) := ⟨bchain HW1.out.1 hB, HW1.out.2.later hB⟩
    have HO : Hid (Ob q0.heap.size q1 v (enU n) ∧ q0.heap.size ≤ q1.heap.size) := ⟨hO, hB.size⟩
    have HTN : Hid ((enU n).length ≤ 10) := enU_ten (by omega)
    obtain ⟨ad, cap, rfl⟩ := hO.sl
    refine hK.out _ _ (cell_later hB HS) (fun HS => ?_)
    clear hK K hO hB HW1
    try simp only [Act.put, List.getElem_toArray, List.getElem_cons_succ, List.getElem_cons_zero, List.setIfInBounds_toArray, List.set_cons_zero, List.set_cons_succ]
    refine wpAnyH_ready (rs := [7]) (by kernel_rfl) (by simp) ?_
    refine AllReadyH.cons rfl (fun K hK => ?_) AllReadyH.nil
    rw [if_pos (by kernel_rfl)]
    refine apB_op _ _ rfl q0.heap.size _ _ rfl HO.out.1 (.slice vbl n vbc) L rfl HW2.out.2 (by have := HN.out; have := HTN.out; omega) HO.out.2 ?_
    intro v' w3 hO3 hg
    have HO3 : Hid (Ob w.heap.size w3 v' (enB L) ∧ Below w.heap.size w w3) := ⟨by rw [HE.out]; exact hO3.low (by omega), HW2.out.1.trans ((hg.1 _ (Below.refl _ _)).mono (by omega))⟩
    refine hK.out _ _ ((Below.cell (hg.1 _ (Below.refl _ _)) (p := ⟨w.heap.size, 4, none⟩) hbx).trans HS) (fun HS => ?_)
    clear hK K hO3 hg HW2 HO HE
    obtain ⟨ad3, cap3, rfl⟩ := HO3.out.1.sl
    try simp only [Act.put, List.getElem_toArray, List.getElem_cons_succ, List.getElem_cons_zero, List.setIfInBounds_toArray, List.set_cons_zero, List.set_cons_succ]
    refine wpAnyH_take (i := 8) (v := ?v7) rfl (by kernel_rfl) (by kernel_rfl) (by kernel_rfl) (fun _ _ _ h => h) (Or.inl ⟨by kernel_rfl, ?h7⟩) HS ?r7
    case h7 => (rintro w n0; go_simp) <;> with_reducible rfl
    try simp only [Act.put, List.getElem_toArray, List.getElem_cons_succ, List.getElem_cons_zero, List.setIfInBounds_toArray, List.set_cons_zero, List.set_cons_succ]
    refine wpAnyH_done (by kernel_rfl) ?_ _
    clear HS
    go_wp2
    go_ret
    exact ⟨_, rfl, HO3.out⟩
  · rw [form_5 HT.out]
    have HB0 : Hid (∀ o : Obj, Is (w.alloc o) (.slice vll t.l.length vlc) t.l) := fun o => (H1.out o).2.1
    have HE : Hid (enIs t.l = enU t.l.length ++ (t.l).flatMap enI) := rfl
    have hbl := HG2.out.2.1
    have HA : Hid (∀ n ∈ t.l, okI n) := HG.out.l.1
    have hbw : IntKind.u64.wrap (t.l.length : Int) = (t.l.length : Int) := by rw [IntKind.wrap_u64]; omega
    generalize t.l = L at *
    obtain ⟨n, hn⟩ : ∃ n, L.length = n := ⟨_, rfl⟩
    have HN : Hid (L.length = n) := hn
    rw [hn] at hbl hbw HB0 HE HLO ⊢
    clear hn H1
    go_enter Try.func34, Try.ntmps34
    go_wp2_with fail
    refine (refUint n (by omega) _).mono ?_
    rintro e w1 ⟨v, rfl, hO, hB⟩
    have hwa : Below w.heap.size w w1 := bchain (bel1 w _) hB
    have HWA : Hid (Below w.heap.size w w1) := hwa
    have hsz1 : w.heap.size ≤ w1.heap.size := hwa.size
    have HO : Hid (Ob w.heap.size w1 v (enU n)) := hO.low (by simp)
    have bx := (B7.new w (.int .i64 5) (.int .u64 (t.u : Int)) (.int .i64 t.n) (.int .i64 t.x) (.slice vbl t.b.length vbc) (.slice vll n vlc) (.slice vfl t.f.length vfc) 34).later hB
    have bc := bx.c5
    have HI : Hid (Is w1 (.slice vll n vlc) L) := (HB0.out _).later hB
    have HTN : Hid ((enU n).length ≤ 10) := enU_ten (by omega)
    clear hO hB hwa bx HB0
    go_upto_region 14 with fail
    clear bc
    go_loopw [3, 46] (fun s3 si wr => ∃ j : Nat, j ≤ n ∧ si = .int .i64 (j : Int) ∧ Hid (Ob w.heap.size wr s3 (enU n ++ (L.take j).flatMap enI)) ∧ Hid (Below w.heap.size w wr ∧ Is wr (.slice vll n vlc) L)) (fun _ si _ => n - (intOf si).toNat)
    case atStart => exact ⟨0, by omega, rfl, by simpa using HO, HWA.out, HI.out⟩
    case round =>
      clear HO HWA HI
      obtain ⟨j, hj, rfl, HO, HW⟩ := hrel
      have hsz := HW.out.1.size
      by_cases hlt : j < n
      · have hjI : (j : Int) < (n : Int) := by omega
        have hN := HN.out
        obtain ⟨bb, oo, rfl, ca⟩ := HW.out.2.cel j (by omega)
        have HF : Hid ((L.take (j + 1)).flatMap enI = (L.take j).flatMap enI ++ enI (L.getD j 0)) := flat_take (by omega)
        have HX : Hid (okI (L.getD j 0)) := okI_get HA.out (by omega)
        have HLn : Hid ((enU n ++ (L.take j).flatMap enI).length ≤ 30000000) := by
          have h1 := flat_len (en := enI) (c := 10) (L.take j) (fun x hx => enI_ten (HA.out x (List.mem_of_mem_take hx)))
          have h2 := HTN.out
          show _ ≤ _
          rw [List.length_append]
          rw [List.length_take] at h1
          omega
        generalize L.getD j 0 = x at *
        clear hN
        go_wp2_with fail
        refine (refCount x HX.out.1 HX.out.2 _).mono ?_
        rintro e wc ⟨rfl, rfl⟩
        go_wp2_with fail
        refine (refUint (ctI x) (ctI_lt HX.out.1 HX.out.2) _).mono ?_
        rintro e wx ⟨vx, rfl, hO2, hB2⟩
        have HL2 : Hid (Bs wx vx (enI x) ∧ (enI x).length ≤ 10) := ⟨hO2.bs.1, enI_ten HX.out⟩
        have HO2 : Hid (Ob w.heap.size wx u3 (enU n ++ (L.take j).flatMap enI)) := HO.out.later hB2
        have HW2 : Hid (Below w.heap.size w wx ∧ Is wx (.slice (some ⟨bb, oo, none⟩) n vlc) L) := ⟨bchain HW.out.1 hB2, HW.out.2.later hB2⟩
        obtain ⟨ad2, cap2, rfl⟩ := hO2.sl
        clear hO2 hB2 HO HW ca
        go_wp2_with (at_builtin; refine apB rfl _ _ rfl w.heap.size _ _ rfl HO2.out _ _ rfl HL2.out.1 (by have := HLn.out; have := HL2.out.2; omega) HW2.out.1.size ?_; intro v' w3 hO3 hg)
        have HO3 : Hid (Ob w.heap.size w3 v' (enU n ++ (L.take (j + 1)).flatMap enI)) := by
          show Ob _ _ _ _
          rw [HF.out, ← List.append_assoc]
          exact hO3
        have HW3 : Hid (Below w.heap.size w w3 ∧ Is w3 (.slice (some ⟨bb, oo, none⟩) n vlc) L) := ⟨hg.1 _ HW2.out.1, Ls.upto HW2.out.2 (hg.1 _ (Below.refl _ _)) HLO.out.2.1⟩
        clear hO3 hg HO2 HW2 HF
        go_wp2
        go_roundw
        case rel => exact ⟨j + 1, by omega, by go_num, HO3, HW3⟩
        case measure => simp [intOf]; omega
      · obtain rfl : j = n := by omega
        have hjI : ¬ (j : Int) < (j : Int) := by omega
        have HO4 : Hid (Ob w.heap.size wr u3 (enIs L)) := by
          have h := HO.out
          rw [List.take_of_length_le (by have := HN.out; omega)] at h
          rw [HE.out]
          exact h
        obtain ⟨ad2, cap2, rfl⟩ := HO4.out.sl
        clear HO HE
        go_wp2
        go_ret
        exact ⟨_, rfl, HO4.out, HW.out.1⟩
  · rw [form_6 HT.out]
    have HB0 : Hid (∀ o : Obj, Is (w.alloc o) (.slice vfl t.f.length vfc) t.f) := fun o => (H1.out o).2.2
    have HE : Hid (enFs t.f = enU t.f.length ++ (t.f).flatMap enF) := rfl
    have hbl := HG2.out.2.2
    have HA : Hid (∀ n ∈ t.f, okI n) := HG.out.f.1
    have hbw : IntKind.u64.wrap (t.f.length : Int) = (t.f.length : Int) := by rw [IntKind.wrap_u64]; omega
    generalize t.f = L at *
    obtain ⟨n, hn⟩ : ∃ n, L.length = n := ⟨_, rfl⟩
    have HN : Hid (L.length = n) := hn
    rw [hn] at hbl hbw HB0 HE HLO ⊢
    clear hn H1
    go_enter Try.func34, Try.ntmps34
    go_wp2_with fail
    refine (refUint n (by omega) _).mono ?_
    rintro e w1 ⟨v, rfl, hO, hB⟩
    have hwa : Below w.heap.size w w1 := bchain (bel1 w _) hB
    have HWA : Hid (Below w.heap.size w w1) := hwa
    have hsz1 : w.heap.size ≤ w1.heap.size := hwa.size
    have HO : Hid (Ob w.heap.size w1 v (enU n)) := hO.low (by simp)
    have bx := (B7.new w (.int .i64 6) (.int .u64 (t.u : Int)) (.int .i64 t.n) (.int .i64 t.x) (.slice vbl t.b.length vbc) (.slice vll t.l.length vlc) (.slice vfl n vfc) 34).later hB
    have bc := bx.c6
    have HI : Hid (Is w1 (.slice vfl n vfc) L) := (HB0.out _).later hB
    have HTN : Hid ((enU n).length ≤ 10) := enU_ten (by omega)
    clear hO hB hwa bx HB0
    go_upto_region 21 with fail
    clear bc
    go_loopw [3, 66] (fun s3 si wr => ∃ j : Nat, j ≤ n ∧ si = .int .i64 (j : Int) ∧ Hid (Ob w.heap.size wr s3 (enU n ++ (L.take j).flatMap enF)) ∧ Hid (Below w.heap.size w wr ∧ Is wr (.slice vfl n vfc) L)) (fun _ si _ => n - (intOf si).toNat)
    case atStart => exact ⟨0, by omega, rfl, by simpa using HO, HWA.out, HI.out⟩
    case round =>
      clear HO HWA HI
      obtain ⟨j, hj, rfl, HO, HW⟩ := hrel
      have hsz := HW.out.1.size
      by_cases hlt : j < n
      · have hjI : (j : Int) < (n : Int) := by omega
        have hN := HN.out
        obtain ⟨bb, oo, rfl, ca⟩ := HW.out.2.cel j (by omega)
        have HF : Hid ((L.take (j + 1)).flatMap enF = (L.take j).flatMap enF ++ enF (L.getD j 0)) := flat_take (by omega)
        have HX : Hid (okI (L.getD j 0)) := okI_get HA.out (by omega)
        have HLn : Hid ((enU n ++ (L.take j).flatMap enF).length ≤ 30000000) := by
          have h1 := flat_len (en := enF) (c := 10) (L.take j) (fun x hx => (fun {x} _ => Nat.le_trans (Nat.le_of_eq (enF_len x)) (by omega)) (HA.out x (List.mem_of_mem_take hx)))
          have h2 := HTN.out
          show _ ≤ _
          rw [List.length_append]
          rw [List.length_take] at h1
          omega
        generalize L.getD j 0 = x at *
        clear hN
        go_wp2_with fail
        refine (refFix x HX.out.1 HX.out.2 _).mono ?_
        rintro e wx ⟨vx, rfl, hO2, hB2⟩
        have HL2 : Hid (Bs wx vx (enF x) ∧ (enF x).length ≤ 10) := ⟨hO2.bs.1, (fun {x} _ => Nat.le_trans (Nat.le_of_eq (enF_len x)) (by omega)) HX.out⟩
        have HO2 : Hid (Ob w.heap.size wx u3 (enU n ++ (L.take j).flatMap enF)) := HO.out.later hB2
        have HW2 : Hid (Below w.heap.size w wx ∧ Is wx (.slice (some ⟨bb, oo, none⟩) n vfc) L) := ⟨bchain HW.out.1 hB2, HW.out.2.later hB2⟩
        obtain ⟨ad2, cap2, rfl⟩ := hO2.sl
        clear hO2 hB2 HO HW ca
        go_wp2_with (at_builtin; refine apB rfl _ _ rfl w.heap.size _ _ rfl HO2.out _ _ rfl HL2.out.1 (by have := HLn.out; have := HL2.out.2; omega) HW2.out.1.size ?_; intro v' w3 hO3 hg)
        have HO3 : Hid (Ob w.heap.size w3 v' (enU n ++ (L.take (j + 1)).flatMap enF)) := by
          show Ob _ _ _ _
          rw [HF.out, ← List.append_assoc]
          exact hO3
        have HW3 : Hid (Below w.heap.size w w3 ∧ Is w3 (.slice (some ⟨bb, oo, none⟩) n vfc) L) := ⟨hg.1 _ HW2.out.1, Ls.upto HW2.out.2 (hg.1 _ (Below.refl _ _)) HLO.out.2.2⟩
        clear hO3 hg HO2 HW2 HF
        go_wp2
        go_roundw
        case rel => exact ⟨j + 1, by omega, by go_num, HO3, HW3⟩
        case measure => simp [intOf]; omega
      · obtain rfl : j = n := by omega
        have hjI : ¬ (j : Int) < (j : Int) := by omega
        have HO4 : Hid (Ob w.heap.size wr u3 (enFs L)) := by
          have h := HO.out
          rw [List.take_of_length_le (by have := HN.out; omega)] at h
          rw [HE.out]
          exact h
        obtain ⟨ad2, cap2, rfl⟩ := HO4.out.sl
        clear HO HE
        go_wp2
        go_ret
        exact ⟨_, rfl, HO4.out, HW.out.1⟩
  · obtain ⟨k1, k2, k3, k4, k5, k6⟩ := hk
    have HF : Hid (t.form = []) := form_0 (by rw [HT.out]; omega)
    have HA : Hid (∀ o : Obj, Below w.heap.size w (w.alloc o)) := fun o => bel1 w o
    rw [HF.out]
    clear H1 HF
    go_enter Try.func34, Try.ntmps34
    go_wp2
    go_ret
    exact ⟨_, rfl, ob_nil _ _, HA.out _⟩
end Go.Proofs.Ytahbpegjdmblaaa
