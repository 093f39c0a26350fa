/-
  Is a thing read as it is (regattalaw12's Thing.again).
-/
import Derived.Test.YtahbpegjdmblaaaPkLawF
set_option linter.unusedVariables false
set_option linter.unusedSimpArgs false
namespace Go.Proofs.Ytahbpegjdmblaaa
open Go.RowKit

/-- What again answers. -/
def ag (t : Th) (s : Sta) : Bool :=
  if t.k = 1 then ((pv rU 0 s : Nat) : Int) == (t.u : Int) else if t.k = 2 then pv rI 0 s == t.n else if t.k = 3 then pv rF 0 s == t.x else if t.k = 4 then decide (pv rB [] s = t.b) else if t.k = 5 then decide (pv rIs [] s = t.l) else if t.k = 6 then decide (pv rFs [] s = t.f) else true
theorem ag_1 {t : Th} (h : t.k = 1) (s : Sta) : ag t s = (((pv rU 0 s : Nat) : Int) == (t.u : Int)) := by simp [ag, h]
theorem ag_2 {t : Th} (h : t.k = 2) (s : Sta) : ag t s = (pv rI 0 s == t.n) := by simp [ag, h]
theorem ag_3 {t : Th} (h : t.k = 3) (s : Sta) : ag t s = (pv rF 0 s == t.x) := by simp [ag, h]
theorem ag_4 {t : Th} (h : t.k = 4) (s : Sta) : ag t s = decide (pv rB [] s = t.b) := by simp [ag, h]
theorem ag_5 {t : Th} (h : t.k = 5) (s : Sta) : ag t s = decide (pv rIs [] s = t.l) := by simp [ag, h]
theorem ag_6 {t : Th} (h : t.k = 6) (s : Sta) : ag t s = decide (pv rFs [] s = t.f) := by simp [ag, h]
theorem ag_0 {t : Th} (h : t.k ≠ 1 ∧ t.k ≠ 2 ∧ t.k ≠ 3 ∧ t.k ≠ 4 ∧ t.k ≠ 5 ∧ t.k ≠ 6) (s : Sta) : ag t s = true := by simp [ag, h]
theorem ag_form (t : Th) (g : t.good) (s : List Nat) : ag t (.ok (t.form ++ s)) = true := by
  rcases kinds t.k with h | h | h | h | h | h | h
  · rw [form_1 h, ag_1 h, pv_ok (oneU.back _ s g.u)]; simp
  · rw [form_2 h, ag_2 h, pv_ok (oneI.back _ s g.n)]; simp
  · rw [form_3 h, ag_3 h, pv_ok (oneF.back _ s g.x)]; simp
  · rw [form_4 h, ag_4 h, pv_ok (oneB.back _ s g.b)]; simp
  · rw [form_5 h, ag_5 h, pv_ok (oneIs.back _ s g.l)]; simp
  · rw [form_6 h, ag_6 h, pv_ok (oneFs.back _ s g.f)]; simp
  · rw [ag_0 h]
theorem Af.drewpre {T : World → Value → (Nat → Prop) → Sta → Prop} {p : Value} {F : Nat → Prop} {s : Sta} {w w1 w' : World} (hb : Below w.heap.size w w1) (h : Af T p F s w1 w') : Af T p F s w w' := Af.pre hb h
set_option maxRecDepth 100000 in
set_option maxHeartbeats 8000000 in
theorem again12 (V : Pack1) (t : Th) (g2 : t.b.length ≤ 1000000 ∧ t.l.length ≤ 1000000 ∧ t.f.length ≤ 1000000) (vb vl vf p : Value) (F : Nat → Prop) (s : Sta) (hS : Sl s 1000000) (w : World) (hb : Bs w vb t.b) (hl : Is w vl t.l) (hf : Is w vf t.f) (nb : Nf F vb) (nl : Nf F vl) (nf : Nf F vf) (hR : V.Rt w p F s) :
    Calls Try.prog 20 #[.agg #[.int .i64 t.k, .int .u64 (t.u : Int), .int .i64 t.n, .int .i64 t.x, vb, vl, vf], p] w fun e w' => e = .returned (.bool (ag t s)) ∧ Af V.Rt p F (nxt t.k s) w w' := by
  have hFb : ¬ F w.heap.size := fun q => Nat.lt_irrefl _ (V.rtB hR _ q)
  have H1 : Hid (∀ o : Obj, V.Rt (w.alloc o).drew p F s ∧ Bs (w.alloc o).drew vb t.b ∧ Is (w.alloc o).drew vl t.l ∧ Is (w.alloc o).drew vf t.f ∧ Below w.heap.size w (w.alloc o).drew) := fun o => ⟨V.rl hR (bel1 w o).drew, hb.later (bel1 w o).drew, hl.later (bel1 w o).drew, hf.later (bel1 w o).drew, (bel1 w o).drew⟩
  have H2 : Hid (∀ o : Obj, Af V.Rt p F s w (w.alloc o)) := fun o => ⟨F, V.rl hR (bel1 w o), fun k hk => Or.inl hk, Kp.of (bel1 w o)⟩
  have HN : Hid (Nf F vb ∧ Nf F vl ∧ Nf F vf) := ⟨nb, nl, nf⟩
  have HG2 : Hid (t.b.length ≤ 1000000 ∧ t.l.length ≤ 1000000 ∧ t.f.length ≤ 1000000) := g2
  have HSl : Hid (Sl s 1000000) := hS
  obtain ⟨k, hk⟩ : ∃ k, t.k = k := ⟨_, rfl⟩
  have HT : Hid (t.k = k) := hk
  obtain ⟨vbl, vbc, rfl, -, -⟩ := hb.len
  obtain ⟨vll, vlc, rfl, -, -⟩ := hl.len
  obtain ⟨vfl, vfc, rfl, -, -⟩ := hf.len
  rw [hk]
  clear hR hb hl hf nb nl nf g2 hk hS
  rcases kinds k with rfl | rfl | rfl | rfl | rfl | rfl | hk
  · rw [nxt_1 rfl, ag_1 HT.out]
    go_enter Try.func20, Try.ntmps20
    go_upto_region 3 with fail
    have HX : Hid (B7 w.heap.size (.int .i64 1) (.int .u64 (t.u : Int)) (.int .i64 t.n) (.int .i64 t.x) (.slice vbl t.b.length vbc) (.slice vll t.l.length vlc) (.slice vfl t.f.length vfc) (w.alloc (.cells #[.int .i64 1, .int .u64 (t.u : Int), .int .i64 t.n, .int .i64 t.x, .slice vbl t.b.length vbc, .slice vll t.l.length vlc, .slice vfl t.f.length vfc] 34))) := B7.new _ _ _ _ _ _ _ _ _
    have HQ := hidI (H1.out (.cells #[.int .i64 1, .int .u64 (t.u : Int), .int .i64 t.n, .int .i64 t.x, .slice vbl t.b.length vbc, .slice vll t.l.length vlc, .slice vfl t.f.length vfc] 34))
    refine wp_region_held_drew (S := fun W => W.cell? ⟨w.heap.size, 1, none⟩ = some (.int .u64 (t.u : Int))) (by kernel_rfl) HX.out.drew.c1 (fun HS => ?_)
    clear HX H1 H2
    generalize (w.alloc (.cells #[.int .i64 1, .int .u64 (t.u : Int), .int .i64 t.n, .int .i64 t.x, .slice vbl t.b.length vbc, .slice vll t.l.length vlc, .slice vfl t.f.length vfc] 34)).drew = q0 at *
    refine wpAnyH_take (i := 0) (v := ?v1) rfl (by kernel_rfl) (by kernel_rfl) (by kernel_rfl) (fun _ _ _ h => h) (Or.inl ⟨by kernel_rfl, ?h1⟩) HS ?r1
    case h1 => (rintro w n0; go_simp) <;> with_reducible rfl
    try simp only [Act.put, List.getElem_toArray, List.getElem_cons_succ, List.getElem_cons_zero, List.setIfInBounds_toArray, List.set_cons_zero, List.set_cons_succ]
    refine wpAnyH_take (i := 2) (v := ?v2) rfl (by kernel_rfl) (by kernel_rfl) (by kernel_rfl) (fun _ _ _ h => h) (Or.inl ⟨by kernel_rfl, ?h2⟩) HS ?r2
    case h2 => (rintro w n0; go_simp) <;> with_reducible rfl
    try simp only [Act.put, List.getElem_toArray, List.getElem_cons_succ, List.getElem_cons_zero, List.setIfInBounds_toArray, List.set_cons_zero, List.set_cons_succ]
    refine wpAnyH_take (i := 3) (v := ?v3) rfl (by kernel_rfl) (by kernel_rfl) (by kernel_rfl) (fun _ _ _ h => h) (Or.inl ⟨by kernel_rfl, ?h3⟩) HS ?r3
    case h3 => (rintro w n0; go_simp) <;> with_reducible rfl
    try simp only [Act.put, List.getElem_toArray, List.getElem_cons_succ, List.getElem_cons_zero, List.setIfInBounds_toArray, List.set_cons_zero, List.set_cons_succ]
    refine wpAnyH_ready (rs := [1]) (by kernel_rfl) (by simp) ?_
    refine AllReadyH.cons rfl (fun K hK => ?_) AllReadyH.nil
    go_simp
    refine (V.ruint _ _ _ _ HQ.out.1).mono ?_
    rintro e q1 ⟨rfl, hA⟩
    have hkp : Kp F q0 q1 := by
      obtain ⟨F', -, -, h⟩ := hA
      exact h
    have HA : Hid (Af V.Rt p F (pn rU s) w q1) := Af.pre HQ.out.2.2.2.2 hA
    refine hK.out _ _ (hkp.cell hFb HS) (fun HS => ?_)
    clear hK K hA HQ hkp
    try simp only [Act.put, List.getElem_toArray, List.getElem_cons_succ, List.getElem_cons_zero, List.setIfInBounds_toArray, List.set_cons_zero, List.set_cons_succ]
    refine wpAnyH_take (i := 4) (v := ?v4) rfl (by kernel_rfl) (by kernel_rfl) (by kernel_rfl) (fun _ _ _ h => h) (Or.inl ⟨by kernel_rfl, ?h4⟩) HS ?r4
    case h4 => (rintro w n0; go_simp) <;> with_reducible rfl
    try simp only [Act.put, List.getElem_toArray, List.getElem_cons_succ, List.getElem_cons_zero, List.setIfInBounds_toArray, List.set_cons_zero, List.set_cons_succ]
    refine wpAnyH_take (i := 5) (v := ?v5) rfl (by kernel_rfl) (by kernel_rfl) (by kernel_rfl) (fun _ _ _ h => h) (Or.inl ⟨by kernel_rfl, ?h5⟩) HS ?r5
    case h5 => (rintro w n0; go_simp) <;> with_reducible rfl
    try simp only [Act.put, List.getElem_toArray, List.getElem_cons_succ, List.getElem_cons_zero, List.setIfInBounds_toArray, List.set_cons_zero, List.set_cons_succ]
    refine wpAnyH_done (by kernel_rfl) ?_ _
    clear HS
    go_wp2
    go_ret
    exact ⟨rfl, HA.out⟩
  · rw [nxt_2 rfl, ag_2 HT.out]
    go_enter Try.func20, Try.ntmps20
    go_upto_region 5 with fail
    have HX : Hid (B7 w.heap.size (.int .i64 2) (.int .u64 (t.u : Int)) (.int .i64 t.n) (.int .i64 t.x) (.slice vbl t.b.length vbc) (.slice vll t.l.length vlc) (.slice vfl t.f.length vfc) (w.alloc (.cells #[.int .i64 2, .int .u64 (t.u : Int), .int .i64 t.n, .int .i64 t.x, .slice vbl t.b.length vbc, .slice vll t.l.length vlc, .slice vfl t.f.length vfc] 34))) := B7.new _ _ _ _ _ _ _ _ _
    have HQ := hidI (H1.out (.cells #[.int .i64 2, .int .u64 (t.u : Int), .int .i64 t.n, .int .i64 t.x, .slice vbl t.b.length vbc, .slice vll t.l.length vlc, .slice vfl t.f.length vfc] 34))
    refine wp_region_held_drew (S := fun W => W.cell? ⟨w.heap.size, 2, none⟩ = some (.int .i64 t.n)) (by kernel_rfl) HX.out.drew.c2 (fun HS => ?_)
    clear HX H1 H2
    generalize (w.alloc (.cells #[.int .i64 2, .int .u64 (t.u : Int), .int .i64 t.n, .int .i64 t.x, .slice vbl t.b.length vbc, .slice vll t.l.length vlc, .slice vfl t.f.length vfc] 34)).drew = q0 at *
    refine wpAnyH_take (i := 0) (v := ?v6) rfl (by kernel_rfl) (by kernel_rfl) (by kernel_rfl) (fun _ _ _ h => h) (Or.inl ⟨by kernel_rfl, ?h6⟩) HS ?r6
    case h6 => (rintro w n0; go_simp) <;> with_reducible rfl
    try simp only [Act.put, List.getElem_toArray, List.getElem_cons_succ, List.getElem_cons_zero, List.setIfInBounds_toArray, List.set_cons_zero, List.set_cons_succ]
    refine wpAnyH_take (i := 2) (v := ?v7) rfl (by kernel_rfl) (by kernel_rfl) (by kernel_rfl) (fun _ _ _ h => h) (Or.inl ⟨by kernel_rfl, ?h7⟩) HS ?r7
    case h7 => (rintro w n0; go_simp) <;> with_reducible rfl
    try simp only [Act.put, List.getElem_toArray, List.getElem_cons_succ, List.getElem_cons_zero, List.setIfInBounds_toArray, List.set_cons_zero, List.set_cons_succ]
    refine wpAnyH_take (i := 3) (v := ?v8) rfl (by kernel_rfl) (by kernel_rfl) (by kernel_rfl) (fun _ _ _ h => h) (Or.inl ⟨by kernel_rfl, ?h8⟩) HS ?r8
    case h8 => (rintro w n0; go_simp) <;> with_reducible rfl
    try simp only [Act.put, List.getElem_toArray, List.getElem_cons_succ, List.getElem_cons_zero, List.setIfInBounds_toArray, List.set_cons_zero, List.set_cons_succ]
    refine wpAnyH_ready (rs := [1]) (by kernel_rfl) (by simp) ?_
    refine AllReadyH.cons rfl (fun K hK => ?_) AllReadyH.nil
    go_simp
    refine (V.rint _ _ _ _ HQ.out.1).mono ?_
    rintro e q1 ⟨rfl, hA⟩
    have hkp : Kp F q0 q1 := by
      obtain ⟨F', -, -, h⟩ := hA
      exact h
    have HA : Hid (Af V.Rt p F (pn rI s) w q1) := Af.pre HQ.out.2.2.2.2 hA
    refine hK.out _ _ (hkp.cell hFb HS) (fun HS => ?_)
    clear hK K hA HQ hkp
    try simp only [Act.put, List.getElem_toArray, List.getElem_cons_succ, List.getElem_cons_zero, List.setIfInBounds_toArray, List.set_cons_zero, List.set_cons_succ]
    refine wpAnyH_take (i := 4) (v := ?v9) rfl (by kernel_rfl) (by kernel_rfl) (by kernel_rfl) (fun _ _ _ h => h) (Or.inl ⟨by kernel_rfl, ?h9⟩) HS ?r9
    case h9 => (rintro w n0; go_simp) <;> with_reducible rfl
    try simp only [Act.put, List.getElem_toArray, List.getElem_cons_succ, List.getElem_cons_zero, List.setIfInBounds_toArray, List.set_cons_zero, List.set_cons_succ]
    refine wpAnyH_take (i := 5) (v := ?v10) rfl (by kernel_rfl) (by kernel_rfl) (by kernel_rfl) (fun _ _ _ h => h) (Or.inl ⟨by kernel_rfl, ?h10⟩) HS ?r10
    case h10 => (rintro w n0; go_simp) <;> with_reducible rfl
    try simp only [Act.put, List.getElem_toArray, List.getElem_cons_succ, List.getElem_cons_zero, List.setIfInBounds_toArray, List.set_cons_zero, List.set_cons_succ]
    refine wpAnyH_done (by kernel_rfl) ?_ _
    clear HS
    go_wp2
    go_ret
    exact ⟨rfl, HA.out⟩
  · rw [nxt_3 rfl, ag_3 HT.out]
    go_enter Try.func20, Try.ntmps20
    go_upto_region 7 with fail
    have HX : Hid (B7 w.heap.size (.int .i64 3) (.int .u64 (t.u : Int)) (.int .i64 t.n) (.int .i64 t.x) (.slice vbl t.b.length vbc) (.slice vll t.l.length vlc) (.slice vfl t.f.length vfc) (w.alloc (.cells #[.int .i64 3, .int .u64 (t.u : Int), .int .i64 t.n, .int .i64 t.x, .slice vbl t.b.length vbc, .slice vll t.l.length vlc, .slice vfl t.f.length vfc] 34))) := B7.new _ _ _ _ _ _ _ _ _
    have HQ := hidI (H1.out (.cells #[.int .i64 3, .int .u64 (t.u : Int), .int .i64 t.n, .int .i64 t.x, .slice vbl t.b.length vbc, .slice vll t.l.length vlc, .slice vfl t.f.length vfc] 34))
    refine wp_region_held_drew (S := fun W => W.cell? ⟨w.heap.size, 3, none⟩ = some (.int .i64 t.x)) (by kernel_rfl) HX.out.drew.c3 (fun HS => ?_)
    clear HX H1 H2
    generalize (w.alloc (.cells #[.int .i64 3, .int .u64 (t.u : Int), .int .i64 t.n, .int .i64 t.x, .slice vbl t.b.length vbc, .slice vll t.l.length vlc, .slice vfl t.f.length vfc] 34)).drew = q0 at *
    refine wpAnyH_take (i := 0) (v := ?v11) rfl (by kernel_rfl) (by kernel_rfl) (by kernel_rfl) (fun _ _ _ h => h) (Or.inl ⟨by kernel_rfl, ?h11⟩) HS ?r11
    case h11 => (rintro w n0; go_simp) <;> with_reducible rfl
    try simp only [Act.put, List.getElem_toArray, List.getElem_cons_succ, List.getElem_cons_zero, List.setIfInBounds_toArray, List.set_cons_zero, List.set_cons_succ]
    refine wpAnyH_take (i := 2) (v := ?v12) rfl (by kernel_rfl) (by kernel_rfl) (by kernel_rfl) (fun _ _ _ h => h) (Or.inl ⟨by kernel_rfl, ?h12⟩) HS ?r12
    case h12 => (rintro w n0; go_simp) <;> with_reducible rfl
    try simp only [Act.put, List.getElem_toArray, List.getElem_cons_succ, List.getElem_cons_zero, List.setIfInBounds_toArray, List.set_cons_zero, List.set_cons_succ]
    refine wpAnyH_take (i := 3) (v := ?v13) rfl (by kernel_rfl) (by kernel_rfl) (by kernel_rfl) (fun _ _ _ h => h) (Or.inl ⟨by kernel_rfl, ?h13⟩) HS ?r13
    case h13 => (rintro w n0; go_simp) <;> with_reducible rfl
    try simp only [Act.put, List.getElem_toArray, List.getElem_cons_succ, List.getElem_cons_zero, List.setIfInBounds_toArray, List.set_cons_zero, List.set_cons_succ]
    refine wpAnyH_ready (rs := [1]) (by kernel_rfl) (by simp) ?_
    refine AllReadyH.cons rfl (fun K hK => ?_) AllReadyH.nil
    go_simp
    refine (V.rfix _ _ _ _ HQ.out.1).mono ?_
    rintro e q1 ⟨rfl, hA⟩
    have hkp : Kp F q0 q1 := by
      obtain ⟨F', -, -, h⟩ := hA
      exact h
    have HA : Hid (Af V.Rt p F (pn rF s) w q1) := Af.pre HQ.out.2.2.2.2 hA
    refine hK.out _ _ (hkp.cell hFb HS) (fun HS => ?_)
    clear hK K hA HQ hkp
    try simp only [Act.put, List.getElem_toArray, List.getElem_cons_succ, List.getElem_cons_zero, List.setIfInBounds_toArray, List.set_cons_zero, List.set_cons_succ]
    refine wpAnyH_take (i := 4) (v := ?v14) rfl (by kernel_rfl) (by kernel_rfl) (by kernel_rfl) (fun _ _ _ h => h) (Or.inl ⟨by kernel_rfl, ?h14⟩) HS ?r14
    case h14 => (rintro w n0; go_simp) <;> with_reducible rfl
    try simp only [Act.put, List.getElem_toArray, List.getElem_cons_succ, List.getElem_cons_zero, List.setIfInBounds_toArray, List.set_cons_zero, List.set_cons_succ]
    refine wpAnyH_take (i := 5) (v := ?v15) rfl (by kernel_rfl) (by kernel_rfl) (by kernel_rfl) (fun _ _ _ h => h) (Or.inl ⟨by kernel_rfl, ?h15⟩) HS ?r15
    case h15 => (rintro w n0; go_simp) <;> with_reducible rfl
    try simp only [Act.put, List.getElem_toArray, List.getElem_cons_succ, List.getElem_cons_zero, List.setIfInBounds_toArray, List.set_cons_zero, List.set_cons_succ]
    refine wpAnyH_done (by kernel_rfl) ?_ _
    clear HS
    go_wp2
    go_ret
    exact ⟨rfl, HA.out⟩
  · rw [nxt_4 rfl, ag_4 HT.out]
    go_enter Try.func20, Try.ntmps20
    go_upto_region 9 with fail
    have HX : Hid (B7 w.heap.size (.int .i64 4) (.int .u64 (t.u : Int)) (.int .i64 t.n) (.int .i64 t.x) (.slice vbl t.b.length vbc) (.slice vll t.l.length vlc) (.slice vfl t.f.length vfc) (w.alloc (.cells #[.int .i64 4, .int .u64 (t.u : Int), .int .i64 t.n, .int .i64 t.x, .slice vbl t.b.length vbc, .slice vll t.l.length vlc, .slice vfl t.f.length vfc] 34))) := B7.new _ _ _ _ _ _ _ _ _
    have HQ := hidI (H1.out (.cells #[.int .i64 4, .int .u64 (t.u : Int), .int .i64 t.n, .int .i64 t.x, .slice vbl t.b.length vbc, .slice vll t.l.length vlc, .slice vfl t.f.length vfc] 34))
    refine wp_region_held_drew (S := fun W => W.cell? ⟨w.heap.size, 4, none⟩ = some (.slice vbl t.b.length vbc)) (by kernel_rfl) HX.out.drew.c4 (fun HS => ?_)
    clear HX H1 H2
    generalize (w.alloc (.cells #[.int .i64 4, .int .u64 (t.u : Int), .int .i64 t.n, .int .i64 t.x, .slice vbl t.b.length vbc, .slice vll t.l.length vlc, .slice vfl t.f.length vfc] 34)).drew = q0 at *
    refine wpAnyH_take (i := 0) (v := ?v16) rfl (by kernel_rfl) (by kernel_rfl) (by kernel_rfl) (fun _ _ _ h => h) (Or.inl ⟨by kernel_rfl, ?h16⟩) HS ?r16
    case h16 => (rintro w n0; go_simp) <;> with_reducible rfl
    try simp only [Act.put, List.getElem_toArray, List.getElem_cons_succ, List.getElem_cons_zero, List.setIfInBounds_toArray, List.set_cons_zero, List.set_cons_succ]
    refine wpAnyH_take (i := 2) (v := ?v17) rfl (by kernel_rfl) (by kernel_rfl) (by kernel_rfl) (fun _ _ _ h => h) (Or.inl ⟨by kernel_rfl, ?h17⟩) HS ?r17
    case h17 => (rintro w n0; go_simp) <;> with_reducible rfl
    try simp only [Act.put, List.getElem_toArray, List.getElem_cons_succ, List.getElem_cons_zero, List.setIfInBounds_toArray, List.set_cons_zero, List.set_cons_succ]
    refine wpAnyH_take (i := 3) (v := ?v18) rfl (by kernel_rfl) (by kernel_rfl) (by kernel_rfl) (fun _ _ _ h => h) (Or.inl ⟨by kernel_rfl, ?h18⟩) HS ?r18
    case h18 => (rintro w n0; go_simp) <;> with_reducible rfl
    try simp only [Act.put, List.getElem_toArray, List.getElem_cons_succ, List.getElem_cons_zero, List.setIfInBounds_toArray, List.set_cons_zero, List.set_cons_succ]
    refine wpAnyH_ready (rs := [1]) (by kernel_rfl) (by simp) ?_
    refine AllReadyH.cons rfl (fun K hK => ?_) AllReadyH.nil
    go_simp
    refine (V.rbytes _ _ _ _ HQ.out.1).mono ?_
    rintro e q1 ⟨v1, rfl, hL1, hO1, hA⟩
    have hkp : Kp F q0 q1 := by
      obtain ⟨F', -, -, h⟩ := hA
      exact h
    have HA : Hid (Af V.Rt p F (pn rB s) w q1 ∧ Bs q1 v1 (pv rB [] s) ∧ Bs q1 (.slice vbl t.b.length vbc) t.b) := ⟨Af.pre HQ.out.2.2.2.2 hA, hL1, hkp.bs HQ.out.2.1 HN.out.1⟩
    obtain ⟨ad1, cap1, rfl, -, -⟩ := hL1.len
    refine hK.out _ _ (hkp.cell hFb HS) (fun HS => ?_)
    clear hK K hA HQ hkp hL1 hO1
    try simp only [Act.put, List.getElem_toArray, List.getElem_cons_succ, List.getElem_cons_zero, List.setIfInBounds_toArray, List.set_cons_zero, List.set_cons_succ]
    refine wpAnyH_ready (rs := [4]) (by kernel_rfl) (by simp) ?_
    refine AllReadyH.cons rfl (fun K hK => ?_) AllReadyH.nil
    go_simp
    refine (sameB _ _ _ _ _ HA.out.2.1 HA.out.2.2).mono ?_
    rintro e q2 ⟨rfl, hb2⟩
    have HA2 : Hid (Af V.Rt p F (pn rB s) w q2) := Af.post (fun h k => V.rl h k) HA.out.1 hb2
    refine hK.out _ _ (cell_later hb2 HS) (fun HS => ?_)
    clear hK K hb2 HA
    try simp only [Act.put, List.getElem_toArray, List.getElem_cons_succ, List.getElem_cons_zero, List.setIfInBounds_toArray, List.set_cons_zero, List.set_cons_succ]
    refine wpAnyH_take (i := 5) (v := ?v19) rfl (by kernel_rfl) (by kernel_rfl) (by kernel_rfl) (fun _ _ _ h => h) (Or.inl ⟨by kernel_rfl, ?h19⟩) HS ?r19
    case h19 => (rintro w n0; go_simp) <;> with_reducible rfl
    try simp only [Act.put, List.getElem_toArray, List.getElem_cons_succ, List.getElem_cons_zero, List.setIfInBounds_toArray, List.set_cons_zero, List.set_cons_succ]
    refine wpAnyH_done (by kernel_rfl) ?_ _
    clear HS
    go_wp2
    go_ret
    exact ⟨rfl, HA2.out⟩
  · rw [nxt_5 rfl, ag_5 HT.out]
    go_enter Try.func20, Try.ntmps20
    go_upto_region 11 with fail
    have HX : Hid (B7 w.heap.size (.int .i64 5) (.int .u64 (t.u : Int)) (.int .i64 t.n) (.int .i64 t.x) (.slice vbl t.b.length vbc) (.slice vll t.l.length vlc) (.slice vfl t.f.length vfc) (w.alloc (.cells #[.int .i64 5, .int .u64 (t.u : Int), .int .i64 t.n, .int .i64 t.x, .slice vbl t.b.length vbc, .slice vll t.l.length vlc, .slice vfl t.f.length vfc] 34))) := B7.new _ _ _ _ _ _ _ _ _
    have HQ := hidI (H1.out (.cells #[.int .i64 5, .int .u64 (t.u : Int), .int .i64 t.n, .int .i64 t.x, .slice vbl t.b.length vbc, .slice vll t.l.length vlc, .slice vfl t.f.length vfc] 34))
    refine wp_region_held_drew (S := fun W => W.cell? ⟨w.heap.size, 5, none⟩ = some (.slice vll t.l.length vlc)) (by kernel_rfl) HX.out.drew.c5 (fun HS => ?_)
    clear HX H1 H2
    generalize (w.alloc (.cells #[.int .i64 5, .int .u64 (t.u : Int), .int .i64 t.n, .int .i64 t.x, .slice vbl t.b.length vbc, .slice vll t.l.length vlc, .slice vfl t.f.length vfc] 34)).drew = q0 at *
    refine wpAnyH_take (i := 0) (v := ?v20) rfl (by kernel_rfl) (by kernel_rfl) (by kernel_rfl) (fun _ _ _ h => h) (Or.inl ⟨by kernel_rfl, ?h20⟩) HS ?r20
    case h20 => (rintro w n0; go_simp) <;> with_reducible rfl
    try simp only [Act.put, List.getElem_toArray, List.getElem_cons_succ, List.getElem_cons_zero, List.setIfInBounds_toArray, List.set_cons_zero, List.set_cons_succ]
    refine wpAnyH_take (i := 3) (v := ?v21) rfl (by kernel_rfl) (by kernel_rfl) (by kernel_rfl) (fun _ _ _ h => h) (Or.inl ⟨by kernel_rfl, ?h21⟩) HS ?r21
    case h21 => (rintro w n0; go_simp) <;> with_reducible rfl
    try simp only [Act.put, List.getElem_toArray, List.getElem_cons_succ, List.getElem_cons_zero, List.setIfInBounds_toArray, List.set_cons_zero, List.set_cons_succ]
    refine wpAnyH_take (i := 4) (v := ?v22) rfl (by kernel_rfl) (by kernel_rfl) (by kernel_rfl) (fun _ _ _ h => h) (Or.inl ⟨by kernel_rfl, ?h22⟩) HS ?r22
    case h22 => (rintro w n0; go_simp) <;> with_reducible rfl
    try simp only [Act.put, List.getElem_toArray, List.getElem_cons_succ, List.getElem_cons_zero, List.setIfInBounds_toArray, List.set_cons_zero, List.set_cons_succ]
    refine wpAnyH_ready (rs := [1]) (by kernel_rfl) (by simp) ?_
    refine AllReadyH.cons rfl (fun K hK => ?_) AllReadyH.nil
    go_simp
    refine (V.rints _ _ _ _ HQ.out.1).mono ?_
    rintro e q1 ⟨v1, rfl, hL1, hO1, hA⟩
    have hkp : Kp F q0 q1 := by
      obtain ⟨F', -, -, h⟩ := hA
      exact h
    have HA : Hid (Af V.Rt p F (pn rIs s) w q1 ∧ Is q1 v1 (pv rIs [] s) ∧ Is q1 (.slice vll t.l.length vlc) t.l) := ⟨Af.pre HQ.out.2.2.2.2 hA, hL1, hkp.is HQ.out.2.2.1 HN.out.2.1⟩
    obtain ⟨ad1, cap1, rfl, -, -⟩ := hL1.len
    refine hK.out _ _ (hkp.cell hFb HS) (fun HS => ?_)
    clear hK K hA HQ hkp hL1 hO1
    try simp only [Act.put, List.getElem_toArray, List.getElem_cons_succ, List.getElem_cons_zero, List.setIfInBounds_toArray, List.set_cons_zero, List.set_cons_succ]
    refine wpAnyH_ready (rs := [2]) (by kernel_rfl) (by simp) ?_
    refine AllReadyH.cons rfl (fun K hK => ?_) AllReadyH.nil
    go_simp
    refine (wide12 _ _ (pvIs_len HSl.out) _ HA.out.2.1).mono ?_
    rintro e q2 ⟨v2, rfl, hL2, hO2, hb2⟩
    have HA2 : Hid (Af V.Rt p F (pn rIs s) w q2 ∧ Is q2 v2 (pv rIs [] s) ∧ Is q2 (.slice vll t.l.length vlc) t.l) := ⟨Af.post (fun h k => V.rl h k) HA.out.1 hb2, hL2, HA.out.2.2.later hb2⟩
    obtain ⟨ad2, cap2, rfl, -, -⟩ := hL2.len
    refine hK.out _ _ (cell_later hb2 HS) (fun HS => ?_)
    clear hK K hb2 HA hL2 hO2
    try simp only [Act.put, List.getElem_toArray, List.getElem_cons_succ, List.getElem_cons_zero, List.setIfInBounds_toArray, List.set_cons_zero, List.set_cons_succ]
    refine wpAnyH_ready (rs := [5]) (by kernel_rfl) (by simp) ?_
    refine AllReadyH.cons rfl (fun K hK => ?_) AllReadyH.nil
    go_simp
    refine (wide12 _ _ HG2.out.2.1 _ HA2.out.2.2).mono ?_
    rintro e q3 ⟨v3, rfl, hL3, hO3, hb3⟩
    have HA3 : Hid (Af V.Rt p F (pn rIs s) w q3 ∧ Is q3 (.slice ad2 (pv rIs [] s).length cap2) (pv rIs [] s) ∧ Is q3 v3 t.l) := ⟨Af.post (fun h k => V.rl h k) HA2.out.1 hb3, HA2.out.2.1.later hb3, hL3⟩
    obtain ⟨ad3, cap3, rfl, -, -⟩ := hL3.len
    refine hK.out _ _ (cell_later hb3 HS) (fun HS => ?_)
    clear hK K hb3 HA2 hL3 hO3
    try simp only [Act.put, List.getElem_toArray, List.getElem_cons_succ, List.getElem_cons_zero, List.setIfInBounds_toArray, List.set_cons_zero, List.set_cons_succ]
    refine wpAnyH_ready (rs := [6]) (by kernel_rfl) (by simp) ?_
    refine AllReadyH.cons rfl (fun K hK => ?_) AllReadyH.nil
    go_simp
    refine (sameI _ _ _ _ _ HA3.out.2.1 HA3.out.2.2).mono ?_
    rintro e q4 ⟨rfl, hb4⟩
    have HA4 : Hid (Af V.Rt p F (pn rIs s) w q4) := Af.post (fun h k => V.rl h k) HA3.out.1 hb4
    refine hK.out _ _ (cell_later hb4 HS) (fun HS => ?_)
    clear hK K hb4 HA3
    try simp only [Act.put, List.getElem_toArray, List.getElem_cons_succ, List.getElem_cons_zero, List.setIfInBounds_toArray, List.set_cons_zero, List.set_cons_succ]
    refine wpAnyH_take (i := 7) (v := ?v23) rfl (by kernel_rfl) (by kernel_rfl) (by kernel_rfl) (fun _ _ _ h => h) (Or.inl ⟨by kernel_rfl, ?h23⟩) HS ?r23
    case h23 => (rintro w n0; go_simp) <;> with_reducible rfl
    try simp only [Act.put, List.getElem_toArray, List.getElem_cons_succ, List.getElem_cons_zero, List.setIfInBounds_toArray, List.set_cons_zero, List.set_cons_succ]
    refine wpAnyH_done (by kernel_rfl) ?_ _
    clear HS
    go_wp2
    go_ret
    exact ⟨rfl, HA4.out⟩
  · rw [nxt_6 rfl, ag_6 HT.out]
    go_enter Try.func20, Try.ntmps20
    go_upto_region 13 with fail
    have HX : Hid (B7 w.heap.size (.int .i64 6) (.int .u64 (t.u : Int)) (.int .i64 t.n) (.int .i64 t.x) (.slice vbl t.b.length vbc) (.slice vll t.l.length vlc) (.slice vfl t.f.length vfc) (w.alloc (.cells #[.int .i64 6, .int .u64 (t.u : Int), .int .i64 t.n, .int .i64 t.x, .slice vbl t.b.length vbc, .slice vll t.l.length vlc, .slice vfl t.f.length vfc] 34))) := B7.new _ _ _ _ _ _ _ _ _
    have HQ := hidI (H1.out (.cells #[.int .i64 6, .int .u64 (t.u : Int), .int .i64 t.n, .int .i64 t.x, .slice vbl t.b.length vbc, .slice vll t.l.length vlc, .slice vfl t.f.length vfc] 34))
    refine wp_region_held_drew (S := fun W => W.cell? ⟨w.heap.size, 6, none⟩ = some (.slice vfl t.f.length vfc)) (by kernel_rfl) HX.out.drew.c6 (fun HS => ?_)
    clear HX H1 H2
    generalize (w.alloc (.cells #[.int .i64 6, .int .u64 (t.u : Int), .int .i64 t.n, .int .i64 t.x, .slice vbl t.b.length vbc, .slice vll t.l.length vlc, .slice vfl t.f.length vfc] 34)).drew = q0 at *
    refine wpAnyH_take (i := 0) (v := ?v24) rfl (by kernel_rfl) (by kernel_rfl) (by kernel_rfl) (fun _ _ _ h => h) (Or.inl ⟨by kernel_rfl, ?h24⟩) HS ?r24
    case h24 => (rintro w n0; go_simp) <;> with_reducible rfl
    try simp only [Act.put, List.getElem_toArray, List.getElem_cons_succ, List.getElem_cons_zero, List.setIfInBounds_toArray, List.set_cons_zero, List.set_cons_succ]
    refine wpAnyH_take (i := 3) (v := ?v25) rfl (by kernel_rfl) (by kernel_rfl) (by kernel_rfl) (fun _ _ _ h => h) (Or.inl ⟨by kernel_rfl, ?h25⟩) HS ?r25
    case h25 => (rintro w n0; go_simp) <;> with_reducible rfl
    try simp only [Act.put, List.getElem_toArray, List.getElem_cons_succ, List.getElem_cons_zero, List.setIfInBounds_toArray, List.set_cons_zero, List.set_cons_succ]
    refine wpAnyH_take (i := 4) (v := ?v26) rfl (by kernel_rfl) (by kernel_rfl) (by kernel_rfl) (fun _ _ _ h => h) (Or.inl ⟨by kernel_rfl, ?h26⟩) HS ?r26
    case h26 => (rintro w n0; go_simp) <;> with_reducible rfl
    try simp only [Act.put, List.getElem_toArray, List.getElem_cons_succ, List.getElem_cons_zero, List.setIfInBounds_toArray, List.set_cons_zero, List.set_cons_succ]
    refine wpAnyH_ready (rs := [1]) (by kernel_rfl) (by simp) ?_
    refine AllReadyH.cons rfl (fun K hK => ?_) AllReadyH.nil
    go_simp
    refine (V.rfixes _ _ _ _ HQ.out.1).mono ?_
    rintro e q1 ⟨v1, rfl, hL1, hO1, hA⟩
    have hkp : Kp F q0 q1 := by
      obtain ⟨F', -, -, h⟩ := hA
      exact h
    have HA : Hid (Af V.Rt p F (pn rFs s) w q1 ∧ Is q1 v1 (pv rFs [] s) ∧ Is q1 (.slice vfl t.f.length vfc) t.f) := ⟨Af.pre HQ.out.2.2.2.2 hA, hL1, hkp.is HQ.out.2.2.2.1 HN.out.2.2⟩
    obtain ⟨ad1, cap1, rfl, -, -⟩ := hL1.len
    refine hK.out _ _ (hkp.cell hFb HS) (fun HS => ?_)
    clear hK K hA HQ hkp hL1 hO1
    try simp only [Act.put, List.getElem_toArray, List.getElem_cons_succ, List.getElem_cons_zero, List.setIfInBounds_toArray, List.set_cons_zero, List.set_cons_succ]
    refine wpAnyH_ready (rs := [2]) (by kernel_rfl) (by simp) ?_
    refine AllReadyH.cons rfl (fun K hK => ?_) AllReadyH.nil
    go_simp
    refine (plain12 _ _ (pvFs_len HSl.out) _ HA.out.2.1).mono ?_
    rintro e q2 ⟨v2, rfl, hL2, hO2, hb2⟩
    have HA2 : Hid (Af V.Rt p F (pn rFs s) w q2 ∧ Is q2 v2 (pv rFs [] s) ∧ Is q2 (.slice vfl t.f.length vfc) t.f) := ⟨Af.post (fun h k => V.rl h k) HA.out.1 hb2, hL2, HA.out.2.2.later hb2⟩
    obtain ⟨ad2, cap2, rfl, -, -⟩ := hL2.len
    refine hK.out _ _ (cell_later hb2 HS) (fun HS => ?_)
    clear hK K hb2 HA hL2 hO2
    try simp only [Act.put, List.getElem_toArray, List.getElem_cons_succ, List.getElem_cons_zero, List.setIfInBounds_toArray, List.set_cons_zero, List.set_cons_succ]
    refine wpAnyH_ready (rs := [5]) (by kernel_rfl) (by simp) ?_
    refine AllReadyH.cons rfl (fun K hK => ?_) AllReadyH.nil
    go_simp
    refine (plain12 _ _ HG2.out.2.2 _ HA2.out.2.2).mono ?_
    rintro e q3 ⟨v3, rfl, hL3, hO3, hb3⟩
    have HA3 : Hid (Af V.Rt p F (pn rFs s) w q3 ∧ Is q3 (.slice ad2 (pv rFs [] s).length cap2) (pv rFs [] s) ∧ Is q3 v3 t.f) := ⟨Af.post (fun h k => V.rl h k) HA2.out.1 hb3, HA2.out.2.1.later hb3, hL3⟩
    obtain ⟨ad3, cap3, rfl, -, -⟩ := hL3.len
    refine hK.out _ _ (cell_later hb3 HS) (fun HS => ?_)
    clear hK K hb3 HA2 hL3 hO3
    try simp only [Act.put, List.getElem_toArray, List.getElem_cons_succ, List.getElem_cons_zero, List.setIfInBounds_toArray, List.set_cons_zero, List.set_cons_succ]
    refine wpAnyH_ready (rs := [6]) (by kernel_rfl) (by simp) ?_
    refine AllReadyH.cons rfl (fun K hK => ?_) AllReadyH.nil
    go_simp
    refine (sameI _ _ _ _ _ HA3.out.2.1 HA3.out.2.2).mono ?_
    rintro e q4 ⟨rfl, hb4⟩
    have HA4 : Hid (Af V.Rt p F (pn rFs s) w q4) := Af.post (fun h k => V.rl h k) HA3.out.1 hb4
    refine hK.out _ _ (cell_later hb4 HS) (fun HS => ?_)
    clear hK K hb4 HA3
    try simp only [Act.put, List.getElem_toArray, List.getElem_cons_succ, List.getElem_cons_zero, List.setIfInBounds_toArray, List.set_cons_zero, List.set_cons_succ]
    refine wpAnyH_take (i := 7) (v := ?v27) rfl (by kernel_rfl) (by kernel_rfl) (by kernel_rfl) (fun _ _ _ h => h) (Or.inl ⟨by kernel_rfl, ?h27⟩) HS ?r27
    case h27 => (rintro w n0; go_simp) <;> with_reducible rfl
    try simp only [Act.put, List.getElem_toArray, List.getElem_cons_succ, List.getElem_cons_zero, List.setIfInBounds_toArray, List.set_cons_zero, List.set_cons_succ]
    refine wpAnyH_done (by kernel_rfl) ?_ _
    clear HS
    go_wp2
    go_ret
    exact ⟨rfl, HA4.out⟩
  · rw [nxt_0 hk, ag_0 (by rw [HT.out]; exact hk)]
    obtain ⟨k1, k2, k3, k4, k5, k6⟩ := hk
    clear H1
    go_enter Try.func20, Try.ntmps20
    go_wp2
    go_ret
    exact ⟨rfl, H2.out _⟩
end Go.Proofs.Ytahbpegjdmblaaa
