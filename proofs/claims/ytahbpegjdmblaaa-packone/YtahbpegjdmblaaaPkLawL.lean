/-
  The law PackOne.
-/
import Derived.Test.YtahbpegjdmblaaaPkLawJ
set_option linter.unusedVariables false
set_option linter.unusedSimpArgs false
namespace Go.Proofs.Ytahbpegjdmblaaa
open Go.RowKit

/-- All that was read is written, or there was an error. -/
def Inv (l : List Nat) (sR sW : Sta) : Prop := (∃ e, sR = .error e) ∨ ∃ rest dn, sR = .ok rest ∧ sW = .ok dn ∧ dn ++ rest = l
theorem Inv.step {α : Type} {P : Rdr α} {en : α → List Nat} {good : α → Prop} (o : One P en good) (d : α) {l : List Nat} {sR sW : Sta} {T : Th} (h : Inv l sR sW) (hl : ∀ c ∈ l, c < 256) (hn : l.length ≤ 1000) (hT : T.form = en (pv P d sR)) : Inv l (pn P sR) (putT T sW) := by
  rcases h with ⟨e, rfl⟩ | ⟨rest, dn, rfl, rfl, rfl⟩
  · exact Or.inl ⟨e, rfl⟩
  · cases hP : P rest with
    | error e => exact Or.inl ⟨e, pn_no hP⟩
    | ok z =>
      obtain ⟨x, t⟩ := z
      obtain ⟨h1, -⟩ := o.one rest x t (fun c hc => hl c (List.mem_append_right _ hc)) hP
      rw [pv_ok hP] at hT
      refine Or.inr ⟨t, dn ++ T.form, pn_ok hP, putT_ok ?_, ?_⟩
      · rw [h1] at hn
        rw [hT]
        simp only [List.length_append] at hn
        omega
      · rw [hT, h1, List.append_assoc]
theorem pv_good {α : Type} {P : Rdr α} {en : α → List Nat} {good : α → Prop} (o : One P en good) {d : α} (hd : good d) {s : Sta} (h : Byt s) : good (pv P d s) := by
  cases s with
  | error e => exact hd
  | ok r =>
    cases hP : P r with
    | error e => rw [pv_no hP]; exact hd
    | ok z =>
      obtain ⟨x, t⟩ := z
      rw [pv_ok hP]
      exact (o.one r x t h hP).2
theorem okU0 : okU 0 := by unfold okU; omega
theorem okI0 : okI 0 := by unfold okI; omega
theorem okB0 : okB [] := ⟨fun c hc => (by cases hc), by simp⟩
theorem okL0 : okL [] := ⟨fun c hc => (by cases hc), by simp⟩
/-- A box of a thing that may be written. -/
def v7 (v0 v1 v2 v3 v4 v5 v6 : Value) : Nat → Value := fun k => if k = 0 then v0 else if k = 1 then v1 else if k = 2 then v2 else if k = 3 then v3 else if k = 4 then v4 else if k = 5 then v5 else v6
theorem rw_new7 (w : World) (v0 v1 v2 v3 v4 v5 v6 : Value) (t : TypeId) : Rw w.heap.size 7 (v7 v0 v1 v2 v3 v4 v5 v6) (w.alloc (.cells #[v0, v1, v2, v3, v4, v5, v6] t)) := by
  refine ⟨fun k hk => ?_, fun k hk => by simp [go_sem]⟩
  have : k = 0 ∨ k = 1 ∨ k = 2 ∨ k = 3 ∨ k = 4 ∨ k = 5 ∨ k = 6 := by omega
  rcases this with rfl | rfl | rfl | rfl | rfl | rfl | rfl <;> simp [go_sem, v7]
theorem Rw.kp {b n : Nat} {h : Nat → Value} {w w' : World} {F : Nat → Prop} (r : Rw b n h w) (k : Kp F w w') (hb : ¬ F b) : Rw b n h w' :=
  ⟨fun i hi => k.cell (a := ⟨b, i, none⟩) hb (r.c i hi), fun i hi => k.frozen (a := ⟨b, i, none⟩) hb (r.c i hi) (r.f i hi)⟩
/-- The reader and the writer. -/
structure On (V : Pack1) (w : World) (p : Value) (hw : Nat) (l : List Nat) (FR FW : Nat → Prop) (sR sW : Sta) (W : World) : Prop where
  rt : V.Rt W p FR sR
  wt : V.Wt W (.pointer (some ⟨hw, 0, none⟩)) FW sW
  dj : ∀ i, FR i → ¬ FW i
  r : ∀ i, FR i → w.heap.size ≤ i
  wf : ∀ i, FW i → w.heap.size ≤ i
  b : Below w.heap.size w W
  i : Inv l sR sW
theorem On.sl {V : Pack1} {w : World} {p : Value} {hw : Nat} {l : List Nat} {FR FW : Nat → Prop} {sR sW : Sta} {W : World} (h : On V w p hw l FR FW sR sW W) (hn : l.length ≤ 1000) : Sl sR 1000 := by
  rcases h.i with ⟨e, rfl⟩ | ⟨rest, dn, rfl, -, rfl⟩
  · trivial
  · show _ ≤ _
    rw [List.length_append] at hn
    omega
theorem Sl.up {s : Sta} {N M : Nat} (h : Sl s N) (hN : N ≤ M) : Sl s M := by
  cases s with
  | error e => trivial
  | ok r => exact Nat.le_trans h hN
theorem On.later {V : Pack1} {w : World} {p : Value} {hw : Nat} {l : List Nat} {FR FW : Nat → Prop} {sR sW : Sta} {W W' : World} (h : On V w p hw l FR FW sR sW W) (k : Below W.heap.size W W') : On V w p hw l FR FW sR sW W' :=
  ⟨V.rl h.rt k, V.wl h.wt k, h.dj, h.r, h.wf, bchain h.b k, h.i⟩
/-- A read into a box, and all that it leaves. -/
structure Om (V : Pack1) (w : World) (p : Value) (hw : Nat) (FR FW : Nat → Prop) (sR sW : Sta) (W : World) : Prop where
  rt : V.Rt W p FR sR
  wt : V.Wt W (.pointer (some ⟨hw, 0, none⟩)) FW sW
  dj : ∀ i, FR i → ¬ FW i
  r : ∀ i, FR i → w.heap.size ≤ i
  wf : ∀ i, FW i → w.heap.size ≤ i
  b : Below w.heap.size w W
theorem Om.set {V : Pack1} {w : World} {p : Value} {hw : Nat} {FR FW : Nat → Prop} {sR sW : Sta} {W : World} (h : Om V w p hw FR FW sR sW W) (b j : Nat) (u : Value) (n1 : ¬ FR b) (n2 : ¬ FW b) (hb : w.heap.size ≤ b) : Om V w p hw FR FW sR sW (W.setCell ⟨b, j, none⟩ u) := by
  have k : Kp (· = b) W (W.setCell ⟨b, j, none⟩ u) := kset (Kp.refl _ _) u
  exact ⟨V.rk h.rt k (fun i hi q => n1 (by rw [← q]; exact hi)), V.wk h.wt k (fun i hi q => n2 (by rw [← q]; exact hi)), h.dj, h.r, h.wf, h.b.setCell (by dsimp only; omega) u⟩
theorem On.read {V : Pack1} {w : World} {p : Value} {hw : Nat} {l : List Nat} {FR FW : Nat → Prop} {sR sW s' : Sta} {W W' : World} (h : On V w p hw l FR FW sR sW W) (a : Af V.Rt p FR s' W W') : ∃ F' : Nat → Prop, Om V w p hw F' FW s' sW W' ∧ Kp FR W W' ∧ Gr FR F' W := by
  obtain ⟨F', h1, h2, h3⟩ := a
  have hs := h.b.size
  exact ⟨F', ⟨h1, V.wk h.wt h3 (fun i hi q => h.dj i q hi), h2.apart h.dj (fun i hi => V.wtB h.wt i hi), h2.up h.r hs, h.wf, h3.next h.b h.r hs⟩, h3, h2⟩
theorem Om.write {V : Pack1} {w : World} {p : Value} {hw : Nat} {l : List Nat} {FR FW : Nat → Prop} {sR sW s' : Sta} {W W' : World} (h : Om V w p hw FR FW sR sW W) (a : Af V.Wt (.pointer (some ⟨hw, 0, none⟩)) FW s' W W') (hI : Inv l sR s') : ∃ F' : Nat → Prop, On V w p hw l FR F' sR s' W' := by
  obtain ⟨F', h1, h2, h3⟩ := a
  have hs := h.b.size
  refine ⟨F', V.rk h.rt h3 (fun i hi q => h.dj i hi q), h1, fun i hi q => ?_, h.r, h2.up h.wf hs, h3.next h.b h.wf hs, hI⟩
  rcases h2 i q with q | q
  · exact h.dj i hi q
  · have := V.rtB h.rt i hi; omega
theorem rdE_zero {s : Sta} (h : rdE s = 0) : s = .ok [] ∨ s = .error 0 := by
  cases s with
  | error e => right; exact congrArg _ h
  | ok r =>
    left
    have h : (if r.length = 0 then 0 else 122) = 0 := h
    split at h
    · rename_i q
      rw [List.eq_nil_of_length_eq_zero q]
    · omega
set_option maxRecDepth 100000 in
set_option maxHeartbeats 8000000 in
theorem packOne_any (V : Pack1) (vb : Value) (l : List Nat) (hb : ∀ c ∈ l, c < 256) (vk : Value) (ks : List Int) (w : World) (h : Bs w vb l) (h2 : Is w vk ks) :
    Calls Try.prog 7 #[vb, vk] w fun e w' => e = .returned (.bool true) ∧ Below w.heap.size w w' := by
  have HL : Hid (Bs w vb l) := h
  have HK : Hid (Is w vk ks) := h2
  have HY : Hid (∀ c ∈ l, c < 256) := hb
  obtain ⟨ad, cap, rfl, k1, k2⟩ := h.len
  obtain ⟨ad2, cap2, rfl, k3, k4⟩ := h2.len
  unfold maxLen at k2 k4
  obtain ⟨n, hn⟩ : ∃ n, l.length = n := ⟨_, rfl⟩
  have HN : Hid (l.length = n) := hn
  obtain ⟨m, hm⟩ : ∃ m, ks.length = m := ⟨_, rfl⟩
  have HM : Hid (ks.length = m) := hm
  rw [hn] at k1 HL ⊢
  rw [hm] at k3 HK ⊢
  clear h h2 hn hm hb
  go_enter Try.func7, Try.ntmps7
  go_wp2_with fail
  refine (awake12 V w).mono ?_
  rintro e w1 ⟨rfl, hb1⟩
  have HB1 : Hid (Below w.heap.size w w1) := hb1
  have hs1 : w.heap.size ≤ w1.heap.size := hb1.size
  clear hb1
  by_cases q1 : 1000 < n
  · have q1I : (1000 : Int) < (n : Int) := by omega
    go_wp2
    go_ret
    exact ⟨rfl, HB1.out⟩
  have q1I : ¬ (1000 : Int) < (n : Int) := by omega
  by_cases q2 : 60 < m
  · have q2I : (60 : Int) < (m : Int) := by omega
    go_wp2
    go_ret
    exact ⟨rfl, HB1.out⟩
  have q2I : ¬ (60 : Int) < (m : Int) := by omega
  go_wp2_with fail
  refine (V.read _ _ l (HL.out.later HB1.out) HY.out (by have := HN.out; omega)).mono ?_
  rintro e w2 ⟨p, F, rfl, hR, hF, hb2⟩
  have hs2 : w1.heap.size ≤ w2.heap.size := hb2.size
  have HO : Hid (On V w p w2.heap.size l F (· = w2.heap.size) (.ok l) (.ok []) (w2.alloc (.cells #[.slice none 0 0, .bool false] 28))) := by
    refine ⟨V.rl hR (bel1 _ _), V.wz w2, fun i hi q => ?_, fun i hi => ?_, fun i hi => by omega, (bchain HB1.out hb2).alloc (by omega) _, Or.inr ⟨l, [], rfl, rfl, rfl⟩⟩
    · have := V.rtB hR i hi; omega
    · have := hF i hi; omega
  clear hR hF hb2 HB1
  go_upto_region 7 with fail
  go_loopw [28] (fun s28 wr => ∃ j : Nat, j ≤ m ∧ s28 = .int .i64 (j : Int) ∧ Hid (∃ (FR FW : Nat → Prop) (sR sW : Sta), On V w p w2.heap.size l FR FW sR sW wr)) (fun s28 _ => m - (intOf s28).toNat)
  case atStart => exact ⟨0, by omega, rfl, _, _, _, _, HO.out⟩
  case round =>
    clear HO
    obtain ⟨j, hj, rfl, HO⟩ := hrel
    obtain ⟨FR, FW, sR, sW, hO⟩ := HO.out
    by_cases hlt : j < m
    · have hjI : (j : Int) < (m : Int) := by omega
      have hM := HM.out
      obtain ⟨bb, oo, rfl, ca0⟩ := HK.out.cel j (by omega)
      have ca := cell_later hO.b ca0
      generalize ks.getD j 0 = k at *
      have hSl : Sl sR 1000000 := (hO.sl (by have := HN.out; omega)).up (by omega)
      have HSl := hidI hSl
      have HYt : Hid (Byt sR) := V.rtY hO.rt
      have HI : Hid (Inv l sR sW) := hO.i
      have hbx : w.heap.size ≤ wr.heap.size := hO.b.size
      have hnR : ¬ FR wr.heap.size := fun q => Nat.lt_irrefl _ (V.rtB hO.rt _ q)
      have hnW : ¬ FW wr.heap.size := fun q => Nat.lt_irrefl _ (V.wtB hO.wt _ q)
      have HO1 : Hid (∀ o : Obj, On V w p w2.heap.size l FR FW sR sW (wr.alloc o)) := fun o => hO.later (bel1 _ _)
      have HW1 : Hid (∀ i, FW i → i < wr.heap.size) := fun i hi => V.wtB hO.wt i hi
      clear ca0 hM HO hO hSl
      rcases kinds k with rfl | rfl | rfl | rfl | rfl | rfl | hk
      · go_wp2_with fail
        refine (V.ruint _ _ _ _ (HO1.out _).rt).mono ?_
        rintro e w3 ⟨rfl, hA⟩
        obtain ⟨F3, hm3, hk3, hg3⟩ := (HO1.out _).read hA
        have hbx3 : ¬ F3 wr.heap.size := fun q => by
          rcases hg3 _ q with q | q
          · exact hnR q
          · rw [World.size_alloc] at q; omega
        have hrw := (rw_new7 wr (.int .i64 1) (.int .u64 0) (.int .i64 0) (.int .i64 0) (.slice none 0 0) (.slice none 0 0) (.slice none 0 0) 34).kp hk3 hnR
        have f1 := hrw.f 1 (by omega)
        have e1 : w3.cell? ⟨wr.heap.size, 1, none⟩ = some (.int .u64 0) := hrw.c 1 (by omega)
        have hrw2 := hrw.set 1 (.int .u64 ((pv rU 0 sR : Nat) : Int))
        have HM3 : Hid (Om V w p w2.heap.size F3 FW (pn rU sR) sW (w3.setCell ⟨wr.heap.size, 1, none⟩ (.int .u64 ((pv rU 0 sR : Nat) : Int)))) := hm3.set _ _ _ hbx3 hnW hbx
        have x0 : (w3.setCell ⟨wr.heap.size, 1, none⟩ (.int .u64 ((pv rU 0 sR : Nat) : Int))).cell? ⟨wr.heap.size, 0, none⟩ = some (.int .i64 1) := hrw2.c 0 (by omega)
        have x1 : (w3.setCell ⟨wr.heap.size, 1, none⟩ (.int .u64 ((pv rU 0 sR : Nat) : Int))).cell? ⟨wr.heap.size, 1, none⟩ = some (.int .u64 ((pv rU 0 sR : Nat) : Int)) := hrw2.c 1 (by omega)
        have x2 : (w3.setCell ⟨wr.heap.size, 1, none⟩ (.int .u64 ((pv rU 0 sR : Nat) : Int))).cell? ⟨wr.heap.size, 2, none⟩ = some (.int .i64 0) := hrw2.c 2 (by omega)
        have x3 : (w3.setCell ⟨wr.heap.size, 1, none⟩ (.int .u64 ((pv rU 0 sR : Nat) : Int))).cell? ⟨wr.heap.size, 3, none⟩ = some (.int .i64 0) := hrw2.c 3 (by omega)
        have x4 : (w3.setCell ⟨wr.heap.size, 1, none⟩ (.int .u64 ((pv rU 0 sR : Nat) : Int))).cell? ⟨wr.heap.size, 4, none⟩ = some (.slice none 0 0) := hrw2.c 4 (by omega)
        have x5 : (w3.setCell ⟨wr.heap.size, 1, none⟩ (.int .u64 ((pv rU 0 sR : Nat) : Int))).cell? ⟨wr.heap.size, 5, none⟩ = some (.slice none 0 0) := hrw2.c 5 (by omega)
        have x6 : (w3.setCell ⟨wr.heap.size, 1, none⟩ (.int .u64 ((pv rU 0 sR : Nat) : Int))).cell? ⟨wr.heap.size, 6, none⟩ = some (.slice none 0 0) := hrw2.c 6 (by omega)
        have HLs : Hid ((Bs (w3.setCell ⟨wr.heap.size, 1, none⟩ (.int .u64 ((pv rU 0 sR : Nat) : Int))) (.slice none 0 0) ([]) ∧ Is (w3.setCell ⟨wr.heap.size, 1, none⟩ (.int .u64 ((pv rU 0 sR : Nat) : Int))) (.slice none 0 0) ([]) ∧ Is (w3.setCell ⟨wr.heap.size, 1, none⟩ (.int .u64 ((pv rU 0 sR : Nat) : Int))) (.slice none 0 0) ([])) ∧ Nf FW (.slice none 0 0) ∧ Nf FW (.slice none 0 0) ∧ Nf FW (.slice none 0 0)) := ⟨⟨(ob_nil 0 _).bs.1, (oi_nil 0 _).is.1, (oi_nil 0 _).is.1⟩, fun a n c e => (by cases e), fun a n c e => (by cases e), fun a n c e => (by cases e)⟩
        have HG : Hid ((⟨1, pv rU 0 sR, 0, 0, [], [], []⟩ : Th).good) := ⟨(pv_good oneU okU0 HYt.out), okI0, okI0, okB0, okL0, okL0⟩
        have HG2 : Hid (([] : List Nat).length ≤ 2000000 ∧ ([] : List Int).length ≤ 2000000 ∧ ([] : List Int).length ≤ 2000000) := ⟨Nat.le_trans (Nat.zero_le _ : _ ≤ 1000000) (by omega), Nat.le_trans (Nat.zero_le _ : _ ≤ 1000000) (by omega), Nat.le_trans (Nat.zero_le _ : _ ≤ 1000000) (by omega)⟩
        have HI2 : Hid (Inv l (pn rU sR) (putT (⟨1, pv rU 0 sR, 0, 0, [], [], []⟩ : Th) sW)) := HI.out.step oneU 0 HY.out (by have := HN.out; omega) (form_1 rfl)
        clear hA hm3 hk3 hg3 hrw hrw2 HO1 
        go_upto_region 23 with fail
        go_wp2_with fail
        refine (write12 V (⟨1, pv rU 0 sR, 0, 0, [], [], []⟩ : Th) HG.out HG2.out _ _ _ _ FW sW _ HLs.out.1.1 HLs.out.1.2.1 HLs.out.1.2.2 HLs.out.2.1 HLs.out.2.2.1 HLs.out.2.2.2 HM3.out.wt).mono ?_
        rintro e w4 ⟨rfl, hA⟩
        obtain ⟨F4, h4⟩ := HM3.out.write hA HI2.out
        have HO4 : Hid (∃ (FR FW : Nat → Prop) (sR sW : Sta), On V w p w2.heap.size l FR FW sR sW w4) := ⟨_, _, _, _, h4⟩
        clear hA h4 HM3 HLs HG HG2 HI2 x0 x1 x2 x3 x4 x5 x6 f1 e1
        go_wp2
        go_roundw
        case rel => exact ⟨j + 1, by omega, by go_num, HO4⟩
        case measure => simp [intOf]; omega
      · go_wp2_with fail
        refine (V.rint _ _ _ _ (HO1.out _).rt).mono ?_
        rintro e w3 ⟨rfl, hA⟩
        obtain ⟨F3, hm3, hk3, hg3⟩ := (HO1.out _).read hA
        have hbx3 : ¬ F3 wr.heap.size := fun q => by
          rcases hg3 _ q with q | q
          · exact hnR q
          · rw [World.size_alloc] at q; omega
        have hrw := (rw_new7 wr (.int .i64 2) (.int .u64 0) (.int .i64 0) (.int .i64 0) (.slice none 0 0) (.slice none 0 0) (.slice none 0 0) 34).kp hk3 hnR
        have f2 := hrw.f 2 (by omega)
        have e2 : w3.cell? ⟨wr.heap.size, 2, none⟩ = some (.int .i64 0) := hrw.c 2 (by omega)
        have hrw2 := hrw.set 2 (.int .i64 (pv rI 0 sR))
        have HM3 : Hid (Om V w p w2.heap.size F3 FW (pn rI sR) sW (w3.setCell ⟨wr.heap.size, 2, none⟩ (.int .i64 (pv rI 0 sR)))) := hm3.set _ _ _ hbx3 hnW hbx
        have x0 : (w3.setCell ⟨wr.heap.size, 2, none⟩ (.int .i64 (pv rI 0 sR))).cell? ⟨wr.heap.size, 0, none⟩ = some (.int .i64 2) := hrw2.c 0 (by omega)
        have x1 : (w3.setCell ⟨wr.heap.size, 2, none⟩ (.int .i64 (pv rI 0 sR))).cell? ⟨wr.heap.size, 1, none⟩ = some (.int .u64 0) := hrw2.c 1 (by omega)
        have x2 : (w3.setCell ⟨wr.heap.size, 2, none⟩ (.int .i64 (pv rI 0 sR))).cell? ⟨wr.heap.size, 2, none⟩ = some (.int .i64 (pv rI 0 sR)) := hrw2.c 2 (by omega)
        have x3 : (w3.setCell ⟨wr.heap.size, 2, none⟩ (.int .i64 (pv rI 0 sR))).cell? ⟨wr.heap.size, 3, none⟩ = some (.int .i64 0) := hrw2.c 3 (by omega)
        have x4 : (w3.setCell ⟨wr.heap.size, 2, none⟩ (.int .i64 (pv rI 0 sR))).cell? ⟨wr.heap.size, 4, none⟩ = some (.slice none 0 0) := hrw2.c 4 (by omega)
        have x5 : (w3.setCell ⟨wr.heap.size, 2, none⟩ (.int .i64 (pv rI 0 sR))).cell? ⟨wr.heap.size, 5, none⟩ = some (.slice none 0 0) := hrw2.c 5 (by omega)
        have x6 : (w3.setCell ⟨wr.heap.size, 2, none⟩ (.int .i64 (pv rI 0 sR))).cell? ⟨wr.heap.size, 6, none⟩ = some (.slice none 0 0) := hrw2.c 6 (by omega)
        have HLs : Hid ((Bs (w3.setCell ⟨wr.heap.size, 2, none⟩ (.int .i64 (pv rI 0 sR))) (.slice none 0 0) ([]) ∧ Is (w3.setCell ⟨wr.heap.size, 2, none⟩ (.int .i64 (pv rI 0 sR))) (.slice none 0 0) ([]) ∧ Is (w3.setCell ⟨wr.heap.size, 2, none⟩ (.int .i64 (pv rI 0 sR))) (.slice none 0 0) ([])) ∧ Nf FW (.slice none 0 0) ∧ Nf FW (.slice none 0 0) ∧ Nf FW (.slice none 0 0)) := ⟨⟨(ob_nil 0 _).bs.1, (oi_nil 0 _).is.1, (oi_nil 0 _).is.1⟩, fun a n c e => (by cases e), fun a n c e => (by cases e), fun a n c e => (by cases e)⟩
        have HG : Hid ((⟨2, 0, pv rI 0 sR, 0, [], [], []⟩ : Th).good) := ⟨okU0, (pv_good oneI okI0 HYt.out), okI0, okB0, okL0, okL0⟩
        have HG2 : Hid (([] : List Nat).length ≤ 2000000 ∧ ([] : List Int).length ≤ 2000000 ∧ ([] : List Int).length ≤ 2000000) := ⟨Nat.le_trans (Nat.zero_le _ : _ ≤ 1000000) (by omega), Nat.le_trans (Nat.zero_le _ : _ ≤ 1000000) (by omega), Nat.le_trans (Nat.zero_le _ : _ ≤ 1000000) (by omega)⟩
        have HI2 : Hid (Inv l (pn rI sR) (putT (⟨2, 0, pv rI 0 sR, 0, [], [], []⟩ : Th) sW)) := HI.out.step oneI 0 HY.out (by have := HN.out; omega) (form_2 rfl)
        clear hA hm3 hk3 hg3 hrw hrw2 HO1 
        go_upto_region 23 with fail
        go_wp2_with fail
        refine (write12 V (⟨2, 0, pv rI 0 sR, 0, [], [], []⟩ : Th) HG.out HG2.out _ _ _ _ FW sW _ HLs.out.1.1 HLs.out.1.2.1 HLs.out.1.2.2 HLs.out.2.1 HLs.out.2.2.1 HLs.out.2.2.2 HM3.out.wt).mono ?_
        rintro e w4 ⟨rfl, hA⟩
        obtain ⟨F4, h4⟩ := HM3.out.write hA HI2.out
        have HO4 : Hid (∃ (FR FW : Nat → Prop) (sR sW : Sta), On V w p w2.heap.size l FR FW sR sW w4) := ⟨_, _, _, _, h4⟩
        clear hA h4 HM3 HLs HG HG2 HI2 x0 x1 x2 x3 x4 x5 x6 f2 e2
        go_wp2
        go_roundw
        case rel => exact ⟨j + 1, by omega, by go_num, HO4⟩
        case measure => simp [intOf]; omega
      · go_wp2_with fail
        refine (V.rfix _ _ _ _ (HO1.out _).rt).mono ?_
        rintro e w3 ⟨rfl, hA⟩
        obtain ⟨F3, hm3, hk3, hg3⟩ := (HO1.out _).read hA
        have hbx3 : ¬ F3 wr.heap.size := fun q => by
          rcases hg3 _ q with q | q
          · exact hnR q
          · rw [World.size_alloc] at q; omega
        have hrw := (rw_new7 wr (.int .i64 3) (.int .u64 0) (.int .i64 0) (.int .i64 0) (.slice none 0 0) (.slice none 0 0) (.slice none 0 0) 34).kp hk3 hnR
        have f3 := hrw.f 3 (by omega)
        have e3 : w3.cell? ⟨wr.heap.size, 3, none⟩ = some (.int .i64 0) := hrw.c 3 (by omega)
        have hrw2 := hrw.set 3 (.int .i64 (pv rF 0 sR))
        have HM3 : Hid (Om V w p w2.heap.size F3 FW (pn rF sR) sW (w3.setCell ⟨wr.heap.size, 3, none⟩ (.int .i64 (pv rF 0 sR)))) := hm3.set _ _ _ hbx3 hnW hbx
        have x0 : (w3.setCell ⟨wr.heap.size, 3, none⟩ (.int .i64 (pv rF 0 sR))).cell? ⟨wr.heap.size, 0, none⟩ = some (.int .i64 3) := hrw2.c 0 (by omega)
        have x1 : (w3.setCell ⟨wr.heap.size, 3, none⟩ (.int .i64 (pv rF 0 sR))).cell? ⟨wr.heap.size, 1, none⟩ = some (.int .u64 0) := hrw2.c 1 (by omega)
        have x2 : (w3.setCell ⟨wr.heap.size, 3, none⟩ (.int .i64 (pv rF 0 sR))).cell? ⟨wr.heap.size, 2, none⟩ = some (.int .i64 0) := hrw2.c 2 (by omega)
        have x3 : (w3.setCell ⟨wr.heap.size, 3, none⟩ (.int .i64 (pv rF 0 sR))).cell? ⟨wr.heap.size, 3, none⟩ = some (.int .i64 (pv rF 0 sR)) := hrw2.c 3 (by omega)
        have x4 : (w3.setCell ⟨wr.heap.size, 3, none⟩ (.int .i64 (pv rF 0 sR))).cell? ⟨wr.heap.size, 4, none⟩ = some (.slice none 0 0) := hrw2.c 4 (by omega)
        have x5 : (w3.setCell ⟨wr.heap.size, 3, none⟩ (.int .i64 (pv rF 0 sR))).cell? ⟨wr.heap.size, 5, none⟩ = some (.slice none 0 0) := hrw2.c 5 (by omega)
        have x6 : (w3.setCell ⟨wr.heap.size, 3, none⟩ (.int .i64 (pv rF 0 sR))).cell? ⟨wr.heap.size, 6, none⟩ = some (.slice none 0 0) := hrw2.c 6 (by omega)
        have HLs : Hid ((Bs (w3.setCell ⟨wr.heap.size, 3, none⟩ (.int .i64 (pv rF 0 sR))) (.slice none 0 0) ([]) ∧ Is (w3.setCell ⟨wr.heap.size, 3, none⟩ (.int .i64 (pv rF 0 sR))) (.slice none 0 0) ([]) ∧ Is (w3.setCell ⟨wr.heap.size, 3, none⟩ (.int .i64 (pv rF 0 sR))) (.slice none 0 0) ([])) ∧ Nf FW (.slice none 0 0) ∧ Nf FW (.slice none 0 0) ∧ Nf FW (.slice none 0 0)) := ⟨⟨(ob_nil 0 _).bs.1, (oi_nil 0 _).is.1, (oi_nil 0 _).is.1⟩, fun a n c e => (by cases e), fun a n c e => (by cases e), fun a n c e => (by cases e)⟩
        have HG : Hid ((⟨3, 0, 0, pv rF 0 sR, [], [], []⟩ : Th).good) := ⟨okU0, okI0, (pv_good oneF okI0 HYt.out), okB0, okL0, okL0⟩
        have HG2 : Hid (([] : List Nat).length ≤ 2000000 ∧ ([] : List Int).length ≤ 2000000 ∧ ([] : List Int).length ≤ 2000000) := ⟨Nat.le_trans (Nat.zero_le _ : _ ≤ 1000000) (by omega), Nat.le_trans (Nat.zero_le _ : _ ≤ 1000000) (by omega), Nat.le_trans (Nat.zero_le _ : _ ≤ 1000000) (by omega)⟩
        have HI2 : Hid (Inv l (pn rF sR) (putT (⟨3, 0, 0, pv rF 0 sR, [], [], []⟩ : Th) sW)) := HI.out.step oneF 0 HY.out (by have := HN.out; omega) (form_3 rfl)
        clear hA hm3 hk3 hg3 hrw hrw2 HO1 
        go_upto_region 23 with fail
        go_wp2_with fail
        refine (write12 V (⟨3, 0, 0, pv rF 0 sR, [], [], []⟩ : Th) HG.out HG2.out _ _ _ _ FW sW _ HLs.out.1.1 HLs.out.1.2.1 HLs.out.1.2.2 HLs.out.2.1 HLs.out.2.2.1 HLs.out.2.2.2 HM3.out.wt).mono ?_
        rintro e w4 ⟨rfl, hA⟩
        obtain ⟨F4, h4⟩ := HM3.out.write hA HI2.out
        have HO4 : Hid (∃ (FR FW : Nat → Prop) (sR sW : Sta), On V w p w2.heap.size l FR FW sR sW w4) := ⟨_, _, _, _, h4⟩
        clear hA h4 HM3 HLs HG HG2 HI2 x0 x1 x2 x3 x4 x5 x6 f3 e3
        go_wp2
        go_roundw
        case rel => exact ⟨j + 1, by omega, by go_num, HO4⟩
        case measure => simp [intOf]; omega
      · go_wp2_with fail
        refine (V.rbytes _ _ _ _ (HO1.out _).rt).mono ?_
        rintro e w3 ⟨v1, rfl, hL1, hO1, hA⟩
        obtain ⟨F3, hm3, hk3, hg3⟩ := (HO1.out _).read hA
        have hbx3 : ¬ F3 wr.heap.size := fun q => by
          rcases hg3 _ q with q | q
          · exact hnR q
          · rw [World.size_alloc] at q; omega
        have hrw := (rw_new7 wr (.int .i64 4) (.int .u64 0) (.int .i64 0) (.int .i64 0) (.slice none 0 0) (.slice none 0 0) (.slice none 0 0) 34).kp hk3 hnR
        obtain ⟨ad1, cap1, rfl, -, -⟩ := hL1.len
        have hnb : Nb (.slice ad1 (pv rB [] sR).length cap1) wr.heap.size := ow_apart hO1 (by rw [World.size_alloc]; omega)
        have hnf : Nf FW (.slice ad1 (pv rB [] sR).length cap1) := ow_nf hO1 (fun i hi => by have := HW1.out i hi; rw [World.size_alloc]; omega)
        have f4 := hrw.f 4 (by omega)
        have e4 : w3.cell? ⟨wr.heap.size, 4, none⟩ = some (.slice none 0 0) := hrw.c 4 (by omega)
        have hrw2 := hrw.set 4 (.slice ad1 (pv rB [] sR).length cap1)
        have HM3 : Hid (Om V w p w2.heap.size F3 FW (pn rB sR) sW (w3.setCell ⟨wr.heap.size, 4, none⟩ (.slice ad1 (pv rB [] sR).length cap1))) := hm3.set _ _ _ hbx3 hnW hbx
        have x0 : (w3.setCell ⟨wr.heap.size, 4, none⟩ (.slice ad1 (pv rB [] sR).length cap1)).cell? ⟨wr.heap.size, 0, none⟩ = some (.int .i64 4) := hrw2.c 0 (by omega)
        have x1 : (w3.setCell ⟨wr.heap.size, 4, none⟩ (.slice ad1 (pv rB [] sR).length cap1)).cell? ⟨wr.heap.size, 1, none⟩ = some (.int .u64 0) := hrw2.c 1 (by omega)
        have x2 : (w3.setCell ⟨wr.heap.size, 4, none⟩ (.slice ad1 (pv rB [] sR).length cap1)).cell? ⟨wr.heap.size, 2, none⟩ = some (.int .i64 0) := hrw2.c 2 (by omega)
        have x3 : (w3.setCell ⟨wr.heap.size, 4, none⟩ (.slice ad1 (pv rB [] sR).length cap1)).cell? ⟨wr.heap.size, 3, none⟩ = some (.int .i64 0) := hrw2.c 3 (by omega)
        have x4 : (w3.setCell ⟨wr.heap.size, 4, none⟩ (.slice ad1 (pv rB [] sR).length cap1)).cell? ⟨wr.heap.size, 4, none⟩ = some (.slice ad1 (pv rB [] sR).length cap1) := hrw2.c 4 (by omega)
        have x5 : (w3.setCell ⟨wr.heap.size, 4, none⟩ (.slice ad1 (pv rB [] sR).length cap1)).cell? ⟨wr.heap.size, 5, none⟩ = some (.slice none 0 0) := hrw2.c 5 (by omega)
        have x6 : (w3.setCell ⟨wr.heap.size, 4, none⟩ (.slice ad1 (pv rB [] sR).length cap1)).cell? ⟨wr.heap.size, 6, none⟩ = some (.slice none 0 0) := hrw2.c 6 (by omega)
        have HLs : Hid ((Bs (w3.setCell ⟨wr.heap.size, 4, none⟩ (.slice ad1 (pv rB [] sR).length cap1)) (.slice ad1 (pv rB [] sR).length cap1) (pv rB [] sR) ∧ Is (w3.setCell ⟨wr.heap.size, 4, none⟩ (.slice ad1 (pv rB [] sR).length cap1)) (.slice none 0 0) ([]) ∧ Is (w3.setCell ⟨wr.heap.size, 4, none⟩ (.slice ad1 (pv rB [] sR).length cap1)) (.slice none 0 0) ([])) ∧ Nf FW (.slice ad1 (pv rB [] sR).length cap1) ∧ Nf FW (.slice none 0 0) ∧ Nf FW (.slice none 0 0)) := ⟨⟨Ls.set hL1 _ _ hnb, (oi_nil 0 _).is.1, (oi_nil 0 _).is.1⟩, hnf, fun a n c e => (by cases e), fun a n c e => (by cases e)⟩
        have HG : Hid ((⟨4, 0, 0, 0, pv rB [] sR, [], []⟩ : Th).good) := ⟨okU0, okI0, okI0, (pv_good oneB okB0 HYt.out), okL0, okL0⟩
        have HG2 : Hid ((pv rB [] sR : List Nat).length ≤ 2000000 ∧ ([] : List Int).length ≤ 2000000 ∧ ([] : List Int).length ≤ 2000000) := ⟨Nat.le_trans (pvB_len HSl.out : _ ≤ 1000000) (by omega), Nat.le_trans (Nat.zero_le _ : _ ≤ 1000000) (by omega), Nat.le_trans (Nat.zero_le _ : _ ≤ 1000000) (by omega)⟩
        have HI2 : Hid (Inv l (pn rB sR) (putT (⟨4, 0, 0, 0, pv rB [] sR, [], []⟩ : Th) sW)) := HI.out.step oneB [] HY.out (by have := HN.out; omega) (form_4 rfl)
        clear hA hm3 hk3 hg3 hrw hrw2 HO1 hL1 hO1 hnb hnf
        go_upto_region 23 with fail
        go_wp2_with fail
        refine (write12 V (⟨4, 0, 0, 0, pv rB [] sR, [], []⟩ : Th) HG.out HG2.out _ _ _ _ FW sW _ HLs.out.1.1 HLs.out.1.2.1 HLs.out.1.2.2 HLs.out.2.1 HLs.out.2.2.1 HLs.out.2.2.2 HM3.out.wt).mono ?_
        rintro e w4 ⟨rfl, hA⟩
        obtain ⟨F4, h4⟩ := HM3.out.write hA HI2.out
        have HO4 : Hid (∃ (FR FW : Nat → Prop) (sR sW : Sta), On V w p w2.heap.size l FR FW sR sW w4) := ⟨_, _, _, _, h4⟩
        clear hA h4 HM3 HLs HG HG2 HI2 x0 x1 x2 x3 x4 x5 x6 f4 e4
        go_wp2
        go_roundw
        case rel => exact ⟨j + 1, by omega, by go_num, HO4⟩
        case measure => simp [intOf]; omega
      · go_wp2_with fail
        refine (V.rints _ _ _ _ (HO1.out _).rt).mono ?_
        rintro e w3 ⟨v1, rfl, hL1, hO1, hA⟩
        obtain ⟨F3, hm3, hk3, hg3⟩ := (HO1.out _).read hA
        have hbx3 : ¬ F3 wr.heap.size := fun q => by
          rcases hg3 _ q with q | q
          · exact hnR q
          · rw [World.size_alloc] at q; omega
        have hrw := (rw_new7 wr (.int .i64 5) (.int .u64 0) (.int .i64 0) (.int .i64 0) (.slice none 0 0) (.slice none 0 0) (.slice none 0 0) 34).kp hk3 hnR
        obtain ⟨ad1, cap1, rfl, -, -⟩ := hL1.len
        have hnb : Nb (.slice ad1 (pv rIs [] sR).length cap1) wr.heap.size := ow_apart hO1 (by rw [World.size_alloc]; omega)
        have hnf : Nf FW (.slice ad1 (pv rIs [] sR).length cap1) := ow_nf hO1 (fun i hi => by have := HW1.out i hi; rw [World.size_alloc]; omega)
        have f5 := hrw.f 5 (by omega)
        have e5 : w3.cell? ⟨wr.heap.size, 5, none⟩ = some (.slice none 0 0) := hrw.c 5 (by omega)
        have hrw2 := hrw.set 5 (.slice ad1 (pv rIs [] sR).length cap1)
        have HM3 : Hid (Om V w p w2.heap.size F3 FW (pn rIs sR) sW (w3.setCell ⟨wr.heap.size, 5, none⟩ (.slice ad1 (pv rIs [] sR).length cap1))) := hm3.set _ _ _ hbx3 hnW hbx
        have x0 : (w3.setCell ⟨wr.heap.size, 5, none⟩ (.slice ad1 (pv rIs [] sR).length cap1)).cell? ⟨wr.heap.size, 0, none⟩ = some (.int .i64 5) := hrw2.c 0 (by omega)
        have x1 : (w3.setCell ⟨wr.heap.size, 5, none⟩ (.slice ad1 (pv rIs [] sR).length cap1)).cell? ⟨wr.heap.size, 1, none⟩ = some (.int .u64 0) := hrw2.c 1 (by omega)
        have x2 : (w3.setCell ⟨wr.heap.size, 5, none⟩ (.slice ad1 (pv rIs [] sR).length cap1)).cell? ⟨wr.heap.size, 2, none⟩ = some (.int .i64 0) := hrw2.c 2 (by omega)
        have x3 : (w3.setCell ⟨wr.heap.size, 5, none⟩ (.slice ad1 (pv rIs [] sR).length cap1)).cell? ⟨wr.heap.size, 3, none⟩ = some (.int .i64 0) := hrw2.c 3 (by omega)
        have x4 : (w3.setCell ⟨wr.heap.size, 5, none⟩ (.slice ad1 (pv rIs [] sR).length cap1)).cell? ⟨wr.heap.size, 4, none⟩ = some (.slice none 0 0) := hrw2.c 4 (by omega)
        have x5 : (w3.setCell ⟨wr.heap.size, 5, none⟩ (.slice ad1 (pv rIs [] sR).length cap1)).cell? ⟨wr.heap.size, 5, none⟩ = some (.slice ad1 (pv rIs [] sR).length cap1) := hrw2.c 5 (by omega)
        have x6 : (w3.setCell ⟨wr.heap.size, 5, none⟩ (.slice ad1 (pv rIs [] sR).length cap1)).cell? ⟨wr.heap.size, 6, none⟩ = some (.slice none 0 0) := hrw2.c 6 (by omega)
        have HLs : Hid ((Bs (w3.setCell ⟨wr.heap.size, 5, none⟩ (.slice ad1 (pv rIs [] sR).length cap1)) (.slice none 0 0) ([]) ∧ Is (w3.setCell ⟨wr.heap.size, 5, none⟩ (.slice ad1 (pv rIs [] sR).length cap1)) (.slice ad1 (pv rIs [] sR).length cap1) (pv rIs [] sR) ∧ Is (w3.setCell ⟨wr.heap.size, 5, none⟩ (.slice ad1 (pv rIs [] sR).length cap1)) (.slice none 0 0) ([])) ∧ Nf FW (.slice none 0 0) ∧ Nf FW (.slice ad1 (pv rIs [] sR).length cap1) ∧ Nf FW (.slice none 0 0)) := ⟨⟨(ob_nil 0 _).bs.1, Ls.set hL1 _ _ hnb, (oi_nil 0 _).is.1⟩, fun a n c e => (by cases e), hnf, fun a n c e => (by cases e)⟩
        have HG : Hid ((⟨5, 0, 0, 0, [], pv rIs [] sR, []⟩ : Th).good) := ⟨okU0, okI0, okI0, okB0, (pv_good oneIs okL0 HYt.out), okL0⟩
        have HG2 : Hid (([] : List Nat).length ≤ 2000000 ∧ (pv rIs [] sR : List Int).length ≤ 2000000 ∧ ([] : List Int).length ≤ 2000000) := ⟨Nat.le_trans (Nat.zero_le _ : _ ≤ 1000000) (by omega), Nat.le_trans (pvIs_len HSl.out : _ ≤ 1000000) (by omega), Nat.le_trans (Nat.zero_le _ : _ ≤ 1000000) (by omega)⟩
        have HI2 : Hid (Inv l (pn rIs sR) (putT (⟨5, 0, 0, 0, [], pv rIs [] sR, []⟩ : Th) sW)) := HI.out.step oneIs [] HY.out (by have := HN.out; omega) (form_5 rfl)
        clear hA hm3 hk3 hg3 hrw hrw2 HO1 hL1 hO1 hnb hnf
        go_upto_region 23 with fail
        go_wp2_with fail
        refine (write12 V (⟨5, 0, 0, 0, [], pv rIs [] sR, []⟩ : Th) HG.out HG2.out _ _ _ _ FW sW _ HLs.out.1.1 HLs.out.1.2.1 HLs.out.1.2.2 HLs.out.2.1 HLs.out.2.2.1 HLs.out.2.2.2 HM3.out.wt).mono ?_
        rintro e w4 ⟨rfl, hA⟩
        obtain ⟨F4, h4⟩ := HM3.out.write hA HI2.out
        have HO4 : Hid (∃ (FR FW : Nat → Prop) (sR sW : Sta), On V w p w2.heap.size l FR FW sR sW w4) := ⟨_, _, _, _, h4⟩
        clear hA h4 HM3 HLs HG HG2 HI2 x0 x1 x2 x3 x4 x5 x6 f5 e5
        go_wp2
        go_roundw
        case rel => exact ⟨j + 1, by omega, by go_num, HO4⟩
        case measure => simp [intOf]; omega
      · go_wp2_with fail
        refine (V.rfixes _ _ _ _ (HO1.out _).rt).mono ?_
        rintro e w3 ⟨v1, rfl, hL1, hO1, hA⟩
        obtain ⟨F3, hm3, hk3, hg3⟩ := (HO1.out _).read hA
        have hbx3 : ¬ F3 wr.heap.size := fun q => by
          rcases hg3 _ q with q | q
          · exact hnR q
          · rw [World.size_alloc] at q; omega
        have hrw := (rw_new7 wr (.int .i64 6) (.int .u64 0) (.int .i64 0) (.int .i64 0) (.slice none 0 0) (.slice none 0 0) (.slice none 0 0) 34).kp hk3 hnR
        obtain ⟨ad1, cap1, rfl, -, -⟩ := hL1.len
        have hnb : Nb (.slice ad1 (pv rFs [] sR).length cap1) wr.heap.size := ow_apart hO1 (by rw [World.size_alloc]; omega)
        have hnf : Nf FW (.slice ad1 (pv rFs [] sR).length cap1) := ow_nf hO1 (fun i hi => by have := HW1.out i hi; rw [World.size_alloc]; omega)
        have f6 := hrw.f 6 (by omega)
        have e6 : w3.cell? ⟨wr.heap.size, 6, none⟩ = some (.slice none 0 0) := hrw.c 6 (by omega)
        have hrw2 := hrw.set 6 (.slice ad1 (pv rFs [] sR).length cap1)
        have HM3 : Hid (Om V w p w2.heap.size F3 FW (pn rFs sR) sW (w3.setCell ⟨wr.heap.size, 6, none⟩ (.slice ad1 (pv rFs [] sR).length cap1))) := hm3.set _ _ _ hbx3 hnW hbx
        have x0 : (w3.setCell ⟨wr.heap.size, 6, none⟩ (.slice ad1 (pv rFs [] sR).length cap1)).cell? ⟨wr.heap.size, 0, none⟩ = some (.int .i64 6) := hrw2.c 0 (by omega)
        have x1 : (w3.setCell ⟨wr.heap.size, 6, none⟩ (.slice ad1 (pv rFs [] sR).length cap1)).cell? ⟨wr.heap.size, 1, none⟩ = some (.int .u64 0) := hrw2.c 1 (by omega)
        have x2 : (w3.setCell ⟨wr.heap.size, 6, none⟩ (.slice ad1 (pv rFs [] sR).length cap1)).cell? ⟨wr.heap.size, 2, none⟩ = some (.int .i64 0) := hrw2.c 2 (by omega)
        have x3 : (w3.setCell ⟨wr.heap.size, 6, none⟩ (.slice ad1 (pv rFs [] sR).length cap1)).cell? ⟨wr.heap.size, 3, none⟩ = some (.int .i64 0) := hrw2.c 3 (by omega)
        have x4 : (w3.setCell ⟨wr.heap.size, 6, none⟩ (.slice ad1 (pv rFs [] sR).length cap1)).cell? ⟨wr.heap.size, 4, none⟩ = some (.slice none 0 0) := hrw2.c 4 (by omega)
        have x5 : (w3.setCell ⟨wr.heap.size, 6, none⟩ (.slice ad1 (pv rFs [] sR).length cap1)).cell? ⟨wr.heap.size, 5, none⟩ = some (.slice none 0 0) := hrw2.c 5 (by omega)
        have x6 : (w3.setCell ⟨wr.heap.size, 6, none⟩ (.slice ad1 (pv rFs [] sR).length cap1)).cell? ⟨wr.heap.size, 6, none⟩ = some (.slice ad1 (pv rFs [] sR).length cap1) := hrw2.c 6 (by omega)
        have HLs : Hid ((Bs (w3.setCell ⟨wr.heap.size, 6, none⟩ (.slice ad1 (pv rFs [] sR).length cap1)) (.slice none 0 0) ([]) ∧ Is (w3.setCell ⟨wr.heap.size, 6, none⟩ (.slice ad1 (pv rFs [] sR).length cap1)) (.slice none 0 0) ([]) ∧ Is (w3.setCell ⟨wr.heap.size, 6, none⟩ (.slice ad1 (pv rFs [] sR).length cap1)) (.slice ad1 (pv rFs [] sR).length cap1) (pv rFs [] sR)) ∧ Nf FW (.slice none 0 0) ∧ Nf FW (.slice none 0 0) ∧ Nf FW (.slice ad1 (pv rFs [] sR).length cap1)) := ⟨⟨(ob_nil 0 _).bs.1, (oi_nil 0 _).is.1, Ls.set hL1 _ _ hnb⟩, fun a n c e => (by cases e), fun a n c e => (by cases e), hnf⟩
        have HG : Hid ((⟨6, 0, 0, 0, [], [], pv rFs [] sR⟩ : Th).good) := ⟨okU0, okI0, okI0, okB0, okL0, (pv_good oneFs okL0 HYt.out)⟩
        have HG2 : Hid (([] : List Nat).length ≤ 2000000 ∧ ([] : List Int).length ≤ 2000000 ∧ (pv rFs [] sR : List Int).length ≤ 2000000) := ⟨Nat.le_trans (Nat.zero_le _ : _ ≤ 1000000) (by omega), Nat.le_trans (Nat.zero_le _ : _ ≤ 1000000) (by omega), Nat.le_trans (pvFs_len HSl.out : _ ≤ 1000000) (by omega)⟩
        have HI2 : Hid (Inv l (pn rFs sR) (putT (⟨6, 0, 0, 0, [], [], pv rFs [] sR⟩ : Th) sW)) := HI.out.step oneFs [] HY.out (by have := HN.out; omega) (form_6 rfl)
        clear hA hm3 hk3 hg3 hrw hrw2 HO1 hL1 hO1 hnb hnf
        go_upto_region 23 with fail
        go_wp2_with fail
        refine (write12 V (⟨6, 0, 0, 0, [], [], pv rFs [] sR⟩ : Th) HG.out HG2.out _ _ _ _ FW sW _ HLs.out.1.1 HLs.out.1.2.1 HLs.out.1.2.2 HLs.out.2.1 HLs.out.2.2.1 HLs.out.2.2.2 HM3.out.wt).mono ?_
        rintro e w4 ⟨rfl, hA⟩
        obtain ⟨F4, h4⟩ := HM3.out.write hA HI2.out
        have HO4 : Hid (∃ (FR FW : Nat → Prop) (sR sW : Sta), On V w p w2.heap.size l FR FW sR sW w4) := ⟨_, _, _, _, h4⟩
        clear hA h4 HM3 HLs HG HG2 HI2 x0 x1 x2 x3 x4 x5 x6 f6 e6
        go_wp2
        go_roundw
        case rel => exact ⟨j + 1, by omega, by go_num, HO4⟩
        case measure => simp [intOf]; omega
      · obtain ⟨j1, j2, j3, j4, j5, j6⟩ := hk
        have hrw := rw_new7 wr (.int .i64 k) (.int .u64 0) (.int .i64 0) (.int .i64 0) (.slice none 0 0) (.slice none 0 0) (.slice none 0 0) 34
        have HG : Hid ((⟨k, 0, 0, 0, [], [], []⟩ : Th).good) := ⟨okU0, okI0, okI0, okB0, okL0, okL0⟩
        have HPT : Hid (putT (⟨k, 0, 0, 0, [], [], []⟩ : Th) sW = sW) := putT_out (by show ¬ (1 ≤ k ∧ k ≤ 6); omega) sW
        have HNf : Hid (Nf FW (.slice none 0 0)) := fun a n c e => by cases e
        clear hrw
        go_wp2_with fail
        refine (write12 V (⟨k, 0, 0, 0, [], [], []⟩ : Th) HG.out ⟨Nat.zero_le _, Nat.zero_le _, Nat.zero_le _⟩ _ _ _ _ FW sW _ (ob_nil 0 _).bs.1 (oi_nil 0 _).is.1 (oi_nil 0 _).is.1 HNf.out HNf.out HNf.out (HO1.out _).wt).mono ?_
        rintro e w4 ⟨rfl, hA⟩
        rw [HPT.out] at hA
        have hm := HO1.out (.cells #[.int .i64 k, .int .u64 0, .int .i64 0, .int .i64 0, .slice none 0 0, .slice none 0 0, .slice none 0 0] 34)
        obtain ⟨F4, h4⟩ := Om.write ⟨hm.rt, hm.wt, hm.dj, hm.r, hm.wf, hm.b⟩ hA HI.out
        have HO4 : Hid (∃ (FR FW : Nat → Prop) (sR sW : Sta), On V w p w2.heap.size l FR FW sR sW w4) := ⟨_, _, _, _, h4⟩
        clear hA h4 hm HG HPT HO1
        go_wp2
        go_roundw
        case rel => exact ⟨j + 1, by omega, by go_num, HO4⟩
        case measure => simp [intOf]; omega
    · obtain rfl : j = m := by omega
      have hjI : ¬ (j : Int) < (j : Int) := by omega
      have HO1 := hidI hO
      clear hO HO
      go_wp2_with fail
      refine (V.rdone _ _ _ _ HO1.out.rt).mono ?_
      rintro e w5 ⟨rfl, hb5⟩
      have HO5 := hidI (HO1.out.later hb5)
      clear hb5 HO1
      by_cases hz : rdE sR = 0
      · rw [hz]
        have HW5 : Hid (V.Wt w5 (.pointer (some ⟨w2.heap.size, 0, none⟩)) FW (.ok l)) := by
          have hw := HO5.out.wt
          rcases rdE_zero hz with rfl | rfl
          · rcases HO5.out.i with ⟨e, he⟩ | ⟨rest, dn, h1, rfl, h3⟩
            · cases he
            · cases h1
              rw [List.append_nil] at h3
              rw [← h3]
              exact hw
          · exact absurd rfl (V.rtE HO5.out.rt)
        have HB5 : Hid (Below w.heap.size w w5) := HO5.out.b
        clear HO5 hz
        go_wp2_with fail
        refine (V.wdone _ _ _ _ HW5.out).mono ?_
        rintro e w6 ⟨v6, rfl, hL6, hO6, hb6⟩
        rw [dnV_ok] at hL6
        obtain ⟨ad6, cap6, rfl, -, -⟩ := hL6.len
        have HB6 : Hid (Below w.heap.size w w6 ∧ Bs w6 (.slice ad6 l.length cap6) l) := ⟨bchain HB5.out hb6, hL6⟩
        have HL6 : Hid (Bs w6 (.slice ad n cap) l) := HL.out.later HB6.out.1
        clear hL6 hO6 hb6 HB5 HW5
        rw [dnE_ok]
        go_wp2_with fail
        refine (sameB _ _ _ _ _ HB6.out.2 HL6.out).mono ?_
        rintro e w7 ⟨rfl, hb7⟩
        have HB7 : Hid (Below w.heap.size w w7) := bchain HB6.out.1 hb7
        rw [decide_eq_true rfl]
        clear hb7 HB6 HL6
        go_wp2
        go_ret
        exact ⟨rfl, HB7.out⟩
      · obtain ⟨z, hzz⟩ : ∃ z, rdE sR = z := ⟨_, rfl⟩
        rw [hzz] at hz
        rw [hzz]
        have hzI : ¬ ((z : Nat) : Int) = 0 := by omega
        have HB5 : Hid (Below w.heap.size w w5) := HO5.out.b
        clear HO5 hzz
        go_wp2
        go_ret
        exact ⟨rfl, HB5.out⟩
end Go.Proofs.Ytahbpegjdmblaaa
