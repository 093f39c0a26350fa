/-
  The program's frame: Open.
-/
import Derived.Test.YtfcbgkcclganmaaDoorFwC
set_option linter.unusedVariables false
set_option linter.unusedSimpArgs false
namespace Go.Proofs.YtfcbgkcclganmaaDoor
open Go.RowKit

theorem bs_take {w : World} {ad : Option Addr} {n cap : Nat} {l : List Nat} (h : Bs w (.slice ad n cap) l) (q : Nat) (hq : q ≤ l.length) : Bs w (.slice ad q cap) (l.take q) := by
  obtain ⟨adr, c, b, o, e, h3, h4, h5, h6⟩ := h
  injection e with e1 e2 e3
  subst e1 e3
  have hl : (l.take q).length = q := by rw [List.length_take]; omega
  refine ⟨_, cap, b, o, by rw [hl], by rw [hl]; omega, h4, fun hp => h5 (by rw [hl] at hp; omega), fun k hk => ?_⟩
  rw [hl] at hk
  rw [h6 k (by omega)]
  unfold b8f
  congr 3
  simp [List.getD, List.getElem?_take, hk]
theorem four_n4 {l : List Nat} (hb : ∀ c ∈ l, c < 256) (p : Nat) (hp : p + 4 ≤ l.length) : (l.drop p).take 4 = four (n4 l p) := by
  have h0 := getD_byte hb p
  have h1 := getD_byte hb (p + 1)
  have h2 := getD_byte hb (p + 2)
  have h3 := getD_byte hb (p + 3)
  have e : (l.drop p).take 4 = [l.getD p 0, l.getD (p + 1) 0, l.getD (p + 2) 0, l.getD (p + 3) 0] := by
    rw [drop_cons (by omega : p < l.length), drop_cons (by omega : p + 1 < l.length), drop_cons (by omega : p + 1 + 1 < l.length), drop_cons (by omega : p + 1 + 1 + 1 < l.length)]
    rfl
  rw [e]
  unfold four n4
  congr 1
  · omega
  congr 1
  · omega
  congr 1
  · omega
  congr 1
  omega
theorem n4_lt {l : List Nat} (hb : ∀ c ∈ l, c < 256) (p : Nat) : n4 l p < 4294967296 := by
  have h0 := getD_byte hb p
  have h1 := getD_byte hb (p + 1)
  have h2 := getD_byte hb (p + 2)
  have h3 := getD_byte hb (p + 3)
  unfold n4
  omega
theorem number4 (w : World) (v : Value) (l : List Nat) (h : Bs w v l) (hb : ∀ c ∈ l, c < 256) (hl : l.length ≤ 1000000) (hp : 8 ≤ l.length) :
    Calls Tryd.prog 47 #[v, .int .i64 4] w fun e w' => e = .returned (.int .u32 ((nn l : Nat) : Int)) ∧ w' = w := numberAt_any w v l 4 h hb hl (by omega)
set_option maxRecDepth 100000 in
set_option maxHeartbeats 8000000 in
theorem open13 (w : World) (v : Value) (l : List Nat) (h : Bs w v l) (hb : ∀ c ∈ l, c < 256) (hl : l.length ≤ 90000) (hT : FT w) :
    Calls Tryd.prog 30 #[v] w fun e w' => ∃ vp, e = .returned (.tuple #[.agg #[.int .i64 ((opK l : Nat) : Int), vp], .int .i64 ((opN l : Nat) : Int), .int .i64 ((opE l : Nat) : Int)]) ∧ Bs w' vp (opP l) ∧ Ow w.heap.size vp ∧ Below w.heap.size w w' := by
  have HL : Hid (Bs w v l) := h
  have HY : Hid (∀ c ∈ l, c < 256) := hb
  obtain ⟨ad, cap, rfl, k1, k2⟩ := h.len
  unfold maxLen at k2
  obtain ⟨n, hn⟩ : ∃ n, l.length = n := ⟨_, rfl⟩
  have HN : Hid (l.length = n) := hn
  rw [hn] at k1 hl HL ⊢
  have HX : Hid (Bx2 w.heap.size (.int .i64 0) (.slice none 0 0) (w.alloc (.cells #[.int .i64 0, .slice none 0 0] 62))) := Bx2.new _ _ _ _
  have HB0 : Hid (Below w.heap.size w (w.alloc (.cells #[.int .i64 0, .slice none 0 0] 62)) ∧ Bs (w.alloc (.cells #[.int .i64 0, .slice none 0 0] 62)) (.slice ad n cap) l ∧ FT (w.alloc (.cells #[.int .i64 0, .slice none 0 0] 62))) := ⟨bel1 _ _, HL.out.later (bel1 _ _), hT.later (bel1 _ _)⟩
  clear h hn hb hT
  go_enter Tryd.func30, Tryd.ntmps30
  go_upto_region 1 with fail
  generalize w.alloc (.cells #[.int .i64 0, .slice none 0 0] 62) = W0 at *
  have z0 := HX.out.c0
  have z1 := HX.out.c1
  have f0 := HX.out.f0
  have f1 := HX.out.f1
  have HB : Hid (Below w.heap.size w W0) := HB0.out.1
  go_wp2_with fail
  refine (beginning_any W0 _ l HB0.out.2.1 HY.out (by have := HN.out; omega) HB0.out.2.2.ah).mono ?_
  rintro e w1 ⟨E, rfl, hBg, rfl⟩
  by_cases hE : E ≠ 0
  · have hEI : ¬ (E : Int) = 0 := by omega
    have HE : Hid (opE l = E) := hBg.no hE
    clear hBg
    have HO : Hid (opK l = 0 ∧ opP l = [] ∧ opN l = 0) := op_no HE.out hE
    go_wp2
    exact bodyPost_ret (v := .tuple #[.agg #[.int .i64 0, .slice none 0 0], .int .i64 0, .int .i64 (E : Int)]) (by simp [results, Tryd.results30, go_sem, z0, z1, f0, f1]) rfl ⟨.slice none 0 0, by rw [HE.out, HO.out.1, HO.out.2.2]; rfl, by rw [HO.out.2.1]; exact (ob_nil 0 _).bs.1, fun a n c e => (by cases e), (HB.out.setCell (by dsimp only; omega) _).setCell (by dsimp only; omega) _⟩
  obtain rfl : E = 0 := by omega
  clear hE
  have HBg : Hid (Bg l 0) := hBg
  clear hBg
  by_cases h8 : n < 8
  · have h8I : (n : Int) < 8 := by omega
    have HE : Hid (opE l = 130) := by
      have hN := HN.out
      by_cases h3 : l.length ≤ 3
      · exact HBg.out.lo rfl h3
      · exact opE_l8 (HBg.out.hd rfl (by omega)) (by omega)
    have HO : Hid (opK l = 0 ∧ opP l = [] ∧ opN l = 0) := op_no HE.out (by omega)
    go_wp2
    exact bodyPost_ret (v := .tuple #[.agg #[.int .i64 0, .slice none 0 0], .int .i64 0, .int .i64 130]) (by simp [results, Tryd.results30, go_sem, z0, z1, f0, f1]) rfl ⟨.slice none 0 0, by rw [HE.out, HO.out.1, HO.out.2.2]; rfl, by rw [HO.out.2.1]; exact (ob_nil 0 _).bs.1, fun a n c e => (by cases e), (HB.out.setCell (by dsimp only; omega) _).setCell (by dsimp only; omega) _⟩
  have h8I : ¬ (n : Int) < 8 := by omega
  have HQ : Hid (Hd4 l) := HBg.out.hd rfl (by have := HN.out; omega)
  clear HBg
  go_upto_region 6 with fail
  go_wp2_with fail
  refine (number4 _ _ l HB0.out.2.1 HY.out (by have := HN.out; omega) (by have := HN.out; omega)).mono ?_
  rintro e w1 ⟨rfl, rfl⟩
  obtain ⟨m, hm⟩ : ∃ m, nn l = m := ⟨_, rfl⟩
  have HMm : Hid (nn l = m) := hm
  rw [hm]
  clear hm
  by_cases hm1 : 65536 < m
  · have hm1I : (65536 : Int) < (m : Int) := by omega
    have HE : Hid (opE l = 134) := opE_n HQ.out (by have := HN.out; omega) (by rw [HMm.out]; exact hm1)
    have HO : Hid (opK l = 0 ∧ opP l = [] ∧ opN l = 0) := op_no HE.out (by omega)
    go_wp2
    exact bodyPost_ret (v := .tuple #[.agg #[.int .i64 0, .slice none 0 0], .int .i64 0, .int .i64 134]) (by simp [results, Tryd.results30, go_sem, z0, z1, f0, f1]) rfl ⟨.slice none 0 0, by rw [HE.out, HO.out.1, HO.out.2.2]; rfl, by rw [HO.out.2.1]; exact (ob_nil 0 _).bs.1, fun a n c e => (by cases e), (HB.out.setCell (by dsimp only; omega) _).setCell (by dsimp only; omega) _⟩
  have hm1I : ¬ (65536 : Int) < (m : Int) := by omega
  obtain ⟨M8, hM8⟩ : ∃ M8, m + 8 = M8 := ⟨_, rfl⟩
  obtain ⟨M12, hM12⟩ : ∃ M12, m + 12 = M12 := ⟨_, rfl⟩
  have HM8 : Hid (M8 = m + 8 ∧ M12 = m + 12) := ⟨by omega, by omega⟩
  have w1m : IntKind.i64.wrap (m : Int) = (m : Int) := by rw [IntKind.wrap_i64]; omega
  have w2m : IntKind.i64.wrap (8 + (m : Int)) = (M8 : Int) := by rw [IntKind.wrap_i64]; omega
  have p12 : IntKind.i64.wrap ((M8 : Int) + 4) = (M12 : Int) := by rw [IntKind.wrap_i64]; omega
  by_cases hm2 : n < M12
  · have hm2I : (n : Int) < (M12 : Int) := by omega
    have HE : Hid (opE l = 130) := opE_ln HQ.out (by have := HN.out; omega) (by rw [HMm.out]; omega) (by rw [HMm.out]; have := HN.out; omega)
    clear hM8 hM12
    have HO : Hid (opK l = 0 ∧ opP l = [] ∧ opN l = 0) := op_no HE.out (by omega)
    go_wp2
    exact bodyPost_ret (v := .tuple #[.agg #[.int .i64 0, .slice none 0 0], .int .i64 0, .int .i64 130]) (by simp [results, Tryd.results30, go_sem, z0, z1, f0, f1]) rfl ⟨.slice none 0 0, by rw [HE.out, HO.out.1, HO.out.2.2]; rfl, by rw [HO.out.2.1]; exact (ob_nil 0 _).bs.1, fun a n c e => (by cases e), (HB.out.setCell (by dsimp only; omega) _).setCell (by dsimp only; omega) _⟩
  have hm2I : ¬ (n : Int) < (M12 : Int) := by omega
  have hMc : (M8 : Int) ≤ (cap : Int) := by omega
  have hM0 : (0 : Int) ≤ (M8 : Int) := by omega
  obtain ⟨a, ha⟩ : ∃ a, n4 l M8 = a := ⟨_, rfl⟩
  obtain ⟨b, hb⟩ : ∃ b, sm (l.take M8) = b := ⟨_, rfl⟩
  have HAB : Hid (n4 l M8 = a ∧ sm (l.take M8) = b) := ⟨ha, hb⟩
  have HT4 : Hid ((l.drop M8).take 4 = four a) := by
    show _ = _
    rw [← ha]
    exact four_n4 HY.out M8 (by have := HN.out; omega)
  have HTl : Hid ((l.take M8).length = M8 ∧ (l.take M8).length ≤ 100000 ∧ ∀ c ∈ l.take M8, c < 256) := ⟨by rw [List.length_take]; have := HN.out; omega, by rw [List.length_take]; have := HN.out; omega, fun c hc => HY.out c (List.mem_of_mem_take hc)⟩
  have HgL : Hid (∀ (g o : Nat), ad = some ⟨g, o, none⟩ → g < w.heap.size) := fun g o e => by
    have := HL.out.lo ⟨g, o, none⟩ n cap (by rw [e]) (by omega)
    exact this
  clear hM8 hM12 ha hb
  go_upto_region 12 with fail
  have hbD : Below w1.heap.size w1 w1.drew := (Below.refl _ _).drew
  have HXb : Hid (Bx2 w.heap.size (.int .i64 0) (.slice none 0 0) w1.drew) := HX.out.later hbD
  have HBb : Hid (Below w.heap.size w w1.drew ∧ Bs w1.drew (.slice ad n cap) l ∧ FT w1.drew) := ⟨bchain HB0.out.1 hbD, HB0.out.2.1.later hbD, HB0.out.2.2.later hbD⟩
  refine wp_region_held_drew (S := fun _ => True) (by kernel_rfl) trivial (fun HS => ?_)
  clear hbD HX HB0 z0 z1 f0 f1 HB
  generalize w1.drew = q0 at *
  have HRT : Hid (Below w.heap.size w (q0.alloc (.cells #[.slice ad M8 cap] 22)) ∧ Bs (q0.alloc (.cells #[.slice ad M8 cap] 22)) (.slice ad n cap) l) := ⟨bchain HBb.out.1 (bel1 _ _), HBb.out.2.1.later (bel1 _ _)⟩
  refine wpAnyH_take (i := 0) (v := ?v1) rfl (by kernel_rfl) (by kernel_rfl) (by kernel_rfl) (fun _ _ _ h => h) (Or.inl ⟨by kernel_rfl, ?h1⟩) HS ?r1
  case h1 => (rintro w n0; go_simp) <;> with_reducible rfl
  try simp only [Act.put, List.getElem_toArray, List.getElem_cons_succ, List.getElem_cons_zero, List.setIfInBounds_toArray, List.set_cons_zero, List.set_cons_succ]
  refine wpAnyH_take (i := 1) (v := ?v2) rfl (by kernel_rfl) (by kernel_rfl) (by kernel_rfl) (fun _ _ _ h => h) (Or.inl ⟨by kernel_rfl, ?h2⟩) HS ?r2
  case h2 => (rintro w n0; go_simp) <;> with_reducible rfl
  try simp only [Act.put, List.getElem_toArray, List.getElem_cons_succ, List.getElem_cons_zero, List.setIfInBounds_toArray, List.set_cons_zero, List.set_cons_succ]
  refine wpAnyH_take (i := 3) (v := ?v3) rfl (by kernel_rfl) (by kernel_rfl) (by kernel_rfl) (fun _ _ _ h => h) (Or.inl ⟨by kernel_rfl, ?h3⟩) HS ?r3
  case h3 => (rintro w n0; go_simp) <;> with_reducible rfl
  try simp only [Act.put, List.getElem_toArray, List.getElem_cons_succ, List.getElem_cons_zero, List.setIfInBounds_toArray, List.set_cons_zero, List.set_cons_succ]
  refine wpAnyH_take (i := 4) (v := ?v4) rfl (by kernel_rfl) (by kernel_rfl) (by kernel_rfl) (fun _ _ _ h => h) (Or.inl ⟨by kernel_rfl, ?h4⟩) HS ?r4
  case h4 => (rintro w n0; go_simp) <;> with_reducible rfl
  try simp only [Act.put, List.getElem_toArray, List.getElem_cons_succ, List.getElem_cons_zero, List.setIfInBounds_toArray, List.set_cons_zero, List.set_cons_succ]
  refine wpAnyH_take (i := 5) (v := ?v5) rfl (by kernel_rfl) (by kernel_rfl) (by kernel_rfl) (fun _ _ _ h => h) (Or.inl ⟨by kernel_rfl, ?h5⟩) HS ?r5
  case h5 => (rintro w n0; go_simp) <;> with_reducible rfl
  try simp only [Act.put, List.getElem_toArray, List.getElem_cons_succ, List.getElem_cons_zero, List.setIfInBounds_toArray, List.set_cons_zero, List.set_cons_succ]
  by_cases hab : a = b
  · have hneB : ((a : Int) != (b : Int)) = false := by subst hab; simp
    have hneI : (a : Int) = (b : Int) := by omega
    have HE : Hid (opE l = 0) := opE_ok HQ.out (by rw [HMm.out]; omega) (by rw [HMm.out]; have := HN.out; have := HM8.out; omega) (by rw [HMm.out, ← HM8.out.1, HT4.out, HAB.out.2, hab])
    subst hab
    clear hneI
    refine wpAnyH_ready (rs := [2, 6]) (by kernel_rfl) (by simp) ?_
    refine AllReadyH.cons rfl (fun K hK => ?ba) (AllReadyH.cons rfl (fun K hK => ?bb) AllReadyH.nil)
    case' ba =>
      go_simp
      refine (numberAt_any q0 _ l M8 HBb.out.2.1 HY.out (by have := HN.out; omega) (by have := HN.out; have := HM8.out; omega)).mono ?_
      rintro e q1 ⟨rfl, rfl⟩
      rw [HAB.out.1]
      refine hK.out _ _ trivial (fun HS => ?_)
      clear hK K
      try simp only [Act.put, List.getElem_toArray, List.getElem_cons_succ, List.getElem_cons_zero, List.setIfInBounds_toArray, List.set_cons_zero, List.set_cons_succ]
      refine wpAnyH_ready (rs := [6]) (by kernel_rfl) (by simp) ?_
      refine AllReadyH.cons rfl (fun K hK => ?_) AllReadyH.nil
      go_simp
      refine hK.out _ _ trivial (fun HS => ?_)
      clear hK K
      try simp only [Act.put, List.getElem_toArray, List.getElem_cons_succ, List.getElem_cons_zero, List.setIfInBounds_toArray, List.set_cons_zero, List.set_cons_succ]
    case' bb =>
      go_simp
      refine hK.out _ _ trivial (fun HS => ?_)
      clear hK K
      try simp only [Act.put, List.getElem_toArray, List.getElem_cons_succ, List.getElem_cons_zero, List.setIfInBounds_toArray, List.set_cons_zero, List.set_cons_succ]
      refine wpAnyH_ready (rs := [2]) (by kernel_rfl) (by simp) ?_
      refine AllReadyH.cons rfl (fun K hK => ?_) AllReadyH.nil
      go_simp
      refine (numberAt_any _ _ l M8 HRT.out.2 HY.out (by have := HN.out; omega) (by have := HN.out; have := HM8.out; omega)).mono ?_
      rintro e q1 ⟨rfl, rfl⟩
      rw [HAB.out.1]
      refine hK.out _ _ trivial (fun HS => ?_)
      clear hK K
      try simp only [Act.put, List.getElem_toArray, List.getElem_cons_succ, List.getElem_cons_zero, List.setIfInBounds_toArray, List.set_cons_zero, List.set_cons_succ]
    all_goals
      refine wpAnyH_ready (rs := [7]) (by kernel_rfl) (by simp) ?_
      refine AllReadyH.cons rfl (fun K hK => ?_) AllReadyH.nil
      go_simp
      refine (ofOne _ ad M8 cap (l.take M8) _ (bs_take HBb.out.2.1 M8 (by have := HN.out; have := HM8.out; omega)) HTl.out.1 HTl.out.2.2 HTl.out.2.1 HBb.out.2.2.tb).mono ?_
      rintro e q3 ⟨rfl, hB3⟩
      rw [HAB.out.2]
      have HXe : Hid (Bx2 w.heap.size (.int .i64 0) (.slice none 0 0) q3) := HXb.out.later hB3
      have HBe : Hid (Below w.heap.size w q3 ∧ Bs q3 (.slice ad n cap) l) := ⟨bchain HBb.out.1 hB3, HBb.out.2.1.later hB3⟩
      refine hK.out _ _ trivial (fun HS => ?_)
      clear hK K hB3 HXb HBb HRT
      try simp only [Act.put, List.getElem_toArray, List.getElem_cons_succ, List.getElem_cons_zero, List.setIfInBounds_toArray, List.set_cons_zero, List.set_cons_succ]
      refine wpAnyH_take (i := 8) (v := ?_) rfl (by kernel_rfl) (by kernel_rfl) (by kernel_rfl) (fun _ _ _ h => h) (Or.inl ⟨by kernel_rfl, ?_⟩) HS ?_
      rotate_left
      · (rintro w n0; go_simp) <;> with_reducible rfl
      try simp only [Act.put, List.getElem_toArray, List.getElem_cons_succ, List.getElem_cons_zero, List.setIfInBounds_toArray, List.set_cons_zero, List.set_cons_succ]
      refine wpAnyH_take (i := 9) (v := ?_) rfl (by kernel_rfl) (by kernel_rfl) (by kernel_rfl) (fun _ _ _ h => h) (Or.inl ⟨by kernel_rfl, ?_⟩) HS ?_
      rotate_left
      · (rintro w n0; go_simp) <;> with_reducible rfl
      try simp only [Act.put, List.getElem_toArray, List.getElem_cons_succ, List.getElem_cons_zero, List.setIfInBounds_toArray, List.set_cons_zero, List.set_cons_succ]
      refine wpAnyH_done (by kernel_rfl) ?_ _
      clear HS
      have z0 := HXe.out.c0
      have z1 := HXe.out.c1
      have f0 := HXe.out.f0
      have f1 := HXe.out.f1
      have HB : Hid (Below w.heap.size w q3) := HBe.out.1
      obtain ⟨x3, hx3⟩ : ∃ x, l.getD 3 0 = x := ⟨_, rfl⟩
      have HO : Hid (opK l = x3 ∧ opP l = (l.drop 8).take m ∧ opN l = M12) := ⟨by rw [(op_yes HE.out).1, hx3], by rw [(op_yes HE.out).2.1, HMm.out], by rw [(op_yes HE.out).2.2, HMm.out, HM8.out.2]⟩
      obtain ⟨g, o, e3, c3⟩ := HBe.out.2.cel 3 (by have := HN.out; omega)
      subst e3
      have hgw := HgL.out g o rfl
      have b3 := getD_byte HY.out 3
      rw [hx3] at c3 b3
      clear hx3
      have n3 : (3 : Int) < (n : Int) := by omega
      have wx : IntKind.i64.wrap (x3 : Int) = (x3 : Int) := by rw [IntKind.wrap_i64]; omega
      obtain ⟨T, hT⟩ : ∃ T, (l.drop 8).take m = T := ⟨_, rfl⟩
      have HTT : Hid ((l.drop 8).take m = T) := hT
      have hsv := sv_bs HBe.out.2 8 M8 (by have := HM8.out; omega) (by have := HN.out; have := HM8.out; omega)
      rw [show M8 - 8 = m by have := HM8.out; omega, hT] at hsv
      have HTm : Hid (T.length ≤ 70000) := by
        show _ ≤ _
        rw [← hT, List.length_take]
        omega
      obtain ⟨a8, c8, e8, -, -⟩ := hsv.len
      have s6 : ∀ W : World, (Instr.slice 22 (.slice (some ⟨g, o, none⟩) n cap) (some (.int .i64 8)) (some (.int .i64 (M8 : Int))) none).run Tryd.prog W = .ok (.slice a8 T.length c8) W := fun W => by rw [← e8]; exact slice_run W _ n cap 8 M8 (by have := HM8.out; omega) (by have := HM8.out; omega)
      rw [e8] at hsv
      have HSV : Hid (Bs q3 (.slice a8 T.length c8) T) := hsv
      clear hT hsv e8
      go_upto_region 14 with fail
      have hbD : Below q3.heap.size q3 q3.drew := (Below.refl _ _).drew
      have HX5 : Hid (Bx2 w.heap.size (.int .i64 0) (.slice none 0 0) q3.drew) := HXe.out.later hbD
      have HB5 : Hid (Below w.heap.size w q3.drew ∧ Bs q3.drew (.slice a8 T.length c8) T) := ⟨bchain HBe.out.1 hbD, HSV.out.later hbD⟩
      have c3d := cell_later hbD c3
      refine wp_region_held_drew (S := fun W => W.cell? ⟨g, o + 3, none⟩ = some (.int .u8 (x3 : Int))) (by kernel_rfl) c3d (fun HS => ?_)
      clear hbD HXe HBe HSV z0 z1 f0 f1 HB c3 c3d
      generalize q3.drew = q4 at *
      refine wpAnyH_take (i := 0) (v := ?_) rfl (by kernel_rfl) (by kernel_rfl) (by kernel_rfl) (fun _ _ _ h => h) (Or.inl ⟨by kernel_rfl, ?_⟩) HS ?_
      rotate_left
      · (rintro w n0; go_simp) <;> with_reducible rfl
      try simp only [Act.put, List.getElem_toArray, List.getElem_cons_succ, List.getElem_cons_zero, List.setIfInBounds_toArray, List.set_cons_zero, List.set_cons_succ]
      refine wpAnyH_take (i := 1) (v := ?_) rfl (by kernel_rfl) (by kernel_rfl) (by kernel_rfl) (fun _ _ _ h => h) (Or.inl ⟨by kernel_rfl, ?_⟩) HS ?_
      rotate_left
      · (rintro w n0; go_simp) <;> with_reducible rfl
      try simp only [Act.put, List.getElem_toArray, List.getElem_cons_succ, List.getElem_cons_zero, List.setIfInBounds_toArray, List.set_cons_zero, List.set_cons_succ]
      refine wpAnyH_take (i := 2) (v := ?_) rfl (by kernel_rfl) (by kernel_rfl) (by kernel_rfl) (fun _ _ _ h => h) (Or.inl ⟨by kernel_rfl, ?_⟩) HS ?_
      rotate_left
      · (rintro w n0; go_simp) <;> with_reducible rfl
      try simp only [Act.put, List.getElem_toArray, List.getElem_cons_succ, List.getElem_cons_zero, List.setIfInBounds_toArray, List.set_cons_zero, List.set_cons_succ]
      refine wpAnyH_take (i := 3) (v := ?_) rfl (by kernel_rfl) (by kernel_rfl) (by kernel_rfl) (fun _ _ _ h => h) (Or.inl ⟨by kernel_rfl, ?_⟩) HS ?_
      rotate_left
      · (rintro w n0; go_simp) <;> with_reducible rfl
      try simp only [Act.put, List.getElem_toArray, List.getElem_cons_succ, List.getElem_cons_zero, List.setIfInBounds_toArray, List.set_cons_zero, List.set_cons_succ]
      refine wpAnyH_take (i := 4) (v := ?_) rfl (by kernel_rfl) (by kernel_rfl) (by kernel_rfl) (fun _ _ _ h => h) (Or.inl ⟨by kernel_rfl, ?_⟩) HS ?_
      rotate_left
      · (rintro w n0; go_simp) <;> with_reducible rfl
      try simp only [Act.put, List.getElem_toArray, List.getElem_cons_succ, List.getElem_cons_zero, List.setIfInBounds_toArray, List.set_cons_zero, List.set_cons_succ]
      refine wpAnyH_take (i := 5) (v := ?_) rfl (by kernel_rfl) (by kernel_rfl) (by kernel_rfl) (fun _ _ _ h => h) (Or.inl ⟨by kernel_rfl, ?_⟩) HS ?_
      rotate_left
      · (rintro w n0; go_simp) <;> with_reducible rfl
      try simp only [Act.put, List.getElem_toArray, List.getElem_cons_succ, List.getElem_cons_zero, List.setIfInBounds_toArray, List.set_cons_zero, List.set_cons_succ]
      refine wpAnyH_take (i := 6) (v := ?_) rfl (by kernel_rfl) (by kernel_rfl) (by kernel_rfl) (fun _ _ _ h => h) (Or.inl ⟨by kernel_rfl, ?_⟩) HS ?_
      rotate_left
      · (rintro w n0; go_simp) <;> with_reducible rfl
      try simp only [Act.put, List.getElem_toArray, List.getElem_cons_succ, List.getElem_cons_zero, List.setIfInBounds_toArray, List.set_cons_zero, List.set_cons_succ]
      refine wpAnyH_take (i := 9) (v := ?_) rfl (by kernel_rfl) (by kernel_rfl) (by kernel_rfl) (fun _ _ _ h => h) (Or.inl ⟨by kernel_rfl, ?_⟩) HS ?_
      rotate_left
      · (rintro w n0; go_simp) <;> with_reducible rfl
      try simp only [Act.put, List.getElem_toArray, List.getElem_cons_succ, List.getElem_cons_zero, List.setIfInBounds_toArray, List.set_cons_zero, List.set_cons_succ]
      refine wpAnyH_take (i := 10) (v := ?_) rfl (by kernel_rfl) (by kernel_rfl) (by kernel_rfl) (fun _ _ _ h => h) (Or.inl ⟨by kernel_rfl, ?_⟩) HS ?_
      rotate_left
      · (rintro w n0; go_simp) <;> with_reducible rfl
      try simp only [Act.put, List.getElem_toArray, List.getElem_cons_succ, List.getElem_cons_zero, List.setIfInBounds_toArray, List.set_cons_zero, List.set_cons_succ]
      refine wpAnyH_ready (rs := [7]) (by kernel_rfl) (by simp) ?_
      refine AllReadyH.cons rfl (fun K hK => ?_) AllReadyH.nil
      go_simp
      refine (clone_any _ _ T HB5.out.2 (by have := HTm.out; omega)).mono ?_
      rintro e q6 ⟨v6, rfl, hO6, hB6⟩
      obtain ⟨ad6, cap6, rfl⟩ := hO6.sl
      have HX6 : Hid (Bx2 w.heap.size (.int .i64 0) (.slice none 0 0) q6) := HX5.out.later hB6
      have HB6 : Hid (Below w.heap.size w q6 ∧ Ow q4.heap.size (.slice ad6 T.length cap6) ∧ Bs q6 (.slice ad6 T.length cap6) T ∧ w.heap.size < q4.heap.size) := ⟨bchain HB5.out.1 hB6, hO6.bs.2, hO6.bs.1, World.block_lt_of_cell? _ _ HX5.out.c0⟩
      refine hK.out _ _ (cell_later hB6 HS) (fun HS => ?_)
      clear hK K hO6 hB6 HX5 HB5 s6
      try simp only [Act.put, List.getElem_toArray, List.getElem_cons_succ, List.getElem_cons_zero, List.setIfInBounds_toArray, List.set_cons_zero, List.set_cons_succ]
      refine wpAnyH_take (i := 8) (v := ?_) rfl (by kernel_rfl) (by kernel_rfl) (by kernel_rfl) (fun _ _ _ h => h) (Or.inl ⟨by kernel_rfl, ?_⟩) HS ?_
      rotate_left
      · (rintro w n0; go_simp) <;> with_reducible rfl
      try simp only [Act.put, List.getElem_toArray, List.getElem_cons_succ, List.getElem_cons_zero, List.setIfInBounds_toArray, List.set_cons_zero, List.set_cons_succ]
      have z0 := HX6.out.c0
      have z1 := HX6.out.c1
      have f0 := HX6.out.f0
      have f1 := HX6.out.f1
      refine wpAnyH_ready (rs := [11]) (by kernel_rfl) (by simp) ?_
      refine AllReadyH.cons rfl (fun K hK => ?_) AllReadyH.nil
      go_simp
      refine hK.out _ _ ((World.cell?_setCell_far _ _ _ _ (by dsimp only; omega)).trans ((World.cell?_setCell_far _ _ _ _ (by dsimp only; omega)).trans HS)) (fun HS => ?_)
      clear hK K
      try simp only [Act.put, List.getElem_toArray, List.getElem_cons_succ, List.getElem_cons_zero, List.setIfInBounds_toArray, List.set_cons_zero, List.set_cons_succ]
      refine wpAnyH_take (i := 12) (v := ?_) rfl (by kernel_rfl) (by kernel_rfl) (by kernel_rfl) (fun _ _ _ h => h) (Or.inl ⟨by kernel_rfl, ?_⟩) HS ?_
      rotate_left
      · (rintro w n0; go_simp) <;> with_reducible rfl
      try simp only [Act.put, List.getElem_toArray, List.getElem_cons_succ, List.getElem_cons_zero, List.setIfInBounds_toArray, List.set_cons_zero, List.set_cons_succ]
      refine wpAnyH_take (i := 13) (v := ?_) rfl (by kernel_rfl) (by kernel_rfl) (by kernel_rfl) (fun _ _ _ h => h) (Or.inl ⟨by kernel_rfl, ?_⟩) HS ?_
      rotate_left
      · (rintro w n0; go_simp) <;> with_reducible rfl
      try simp only [Act.put, List.getElem_toArray, List.getElem_cons_succ, List.getElem_cons_zero, List.setIfInBounds_toArray, List.set_cons_zero, List.set_cons_succ]
      refine wpAnyH_done (by kernel_rfl) ?_ _
      clear HS
      have HR6 : Hid (Bs ((q6.setCell ⟨w.heap.size, 0, none⟩ (.int .i64 (x3 : Int))).setCell ⟨w.heap.size, 1, none⟩ (.slice ad6 T.length cap6)) (.slice ad6 T.length cap6) T) := by
        have hnb : Nb (.slice ad6 T.length cap6) w.heap.size := ow_apart HB6.out.2.1 HB6.out.2.2.2
        exact Ls.set (Ls.set HB6.out.2.2.1 _ _ hnb) _ _ hnb
      go_wp2
      exact bodyPost_ret (v := .tuple #[.agg #[.int .i64 (x3 : Int), .slice ad6 T.length cap6], .int .i64 (M12 : Int), .int .i64 0]) (by simp [results, Tryd.results30, go_sem, z0, z1, f0, f1]) rfl ⟨.slice ad6 T.length cap6, by rw [HE.out, HO.out.1, HO.out.2.2]; rfl, by rw [HO.out.2.1, HTT.out]; exact HR6.out, HB6.out.2.1.low (Nat.le_of_lt HB6.out.2.2.2), (HB6.out.1.setCell (by dsimp only; omega) _).setCell (by dsimp only; omega) _⟩
  · have hneB : ((a : Int) != (b : Int)) = true := by simp; omega
    have hneI : ¬ (a : Int) = (b : Int) := by omega
    have HE : Hid (opE l = 135) := opE_s HQ.out (by rw [HMm.out]; omega) (by rw [HMm.out]; have := HN.out; have := HM8.out; omega) (by rw [HMm.out, ← HM8.out.1, HT4.out, HAB.out.2]; exact fun q => hab (four_eq q).symm)
    clear hab
    refine wpAnyH_ready (rs := [2, 6]) (by kernel_rfl) (by simp) ?_
    refine AllReadyH.cons rfl (fun K hK => ?bc) (AllReadyH.cons rfl (fun K hK => ?bd) AllReadyH.nil)
    case' bc =>
      go_simp
      refine (numberAt_any q0 _ l M8 HBb.out.2.1 HY.out (by have := HN.out; omega) (by have := HN.out; have := HM8.out; omega)).mono ?_
      rintro e q1 ⟨rfl, rfl⟩
      rw [HAB.out.1]
      refine hK.out _ _ trivial (fun HS => ?_)
      clear hK K
      try simp only [Act.put, List.getElem_toArray, List.getElem_cons_succ, List.getElem_cons_zero, List.setIfInBounds_toArray, List.set_cons_zero, List.set_cons_succ]
      refine wpAnyH_ready (rs := [6]) (by kernel_rfl) (by simp) ?_
      refine AllReadyH.cons rfl (fun K hK => ?_) AllReadyH.nil
      go_simp
      refine hK.out _ _ trivial (fun HS => ?_)
      clear hK K
      try simp only [Act.put, List.getElem_toArray, List.getElem_cons_succ, List.getElem_cons_zero, List.setIfInBounds_toArray, List.set_cons_zero, List.set_cons_succ]
    case' bd =>
      go_simp
      refine hK.out _ _ trivial (fun HS => ?_)
      clear hK K
      try simp only [Act.put, List.getElem_toArray, List.getElem_cons_succ, List.getElem_cons_zero, List.setIfInBounds_toArray, List.set_cons_zero, List.set_cons_succ]
      refine wpAnyH_ready (rs := [2]) (by kernel_rfl) (by simp) ?_
      refine AllReadyH.cons rfl (fun K hK => ?_) AllReadyH.nil
      go_simp
      refine (numberAt_any _ _ l M8 HRT.out.2 HY.out (by have := HN.out; omega) (by have := HN.out; have := HM8.out; omega)).mono ?_
      rintro e q1 ⟨rfl, rfl⟩
      rw [HAB.out.1]
      refine hK.out _ _ trivial (fun HS => ?_)
      clear hK K
      try simp only [Act.put, List.getElem_toArray, List.getElem_cons_succ, List.getElem_cons_zero, List.setIfInBounds_toArray, List.set_cons_zero, List.set_cons_succ]
    all_goals
      refine wpAnyH_ready (rs := [7]) (by kernel_rfl) (by simp) ?_
      refine AllReadyH.cons rfl (fun K hK => ?_) AllReadyH.nil
      go_simp
      refine (ofOne _ ad M8 cap (l.take M8) _ (bs_take HBb.out.2.1 M8 (by have := HN.out; have := HM8.out; omega)) HTl.out.1 HTl.out.2.2 HTl.out.2.1 HBb.out.2.2.tb).mono ?_
      rintro e q3 ⟨rfl, hB3⟩
      rw [HAB.out.2]
      have HXe : Hid (Bx2 w.heap.size (.int .i64 0) (.slice none 0 0) q3) := HXb.out.later hB3
      have HBe : Hid (Below w.heap.size w q3 ∧ Bs q3 (.slice ad n cap) l) := ⟨bchain HBb.out.1 hB3, HBb.out.2.1.later hB3⟩
      refine hK.out _ _ trivial (fun HS => ?_)
      clear hK K hB3 HXb HBb HRT
      try simp only [Act.put, List.getElem_toArray, List.getElem_cons_succ, List.getElem_cons_zero, List.setIfInBounds_toArray, List.set_cons_zero, List.set_cons_succ]
      refine wpAnyH_take (i := 8) (v := ?_) rfl (by kernel_rfl) (by kernel_rfl) (by kernel_rfl) (fun _ _ _ h => h) (Or.inl ⟨by kernel_rfl, ?_⟩) HS ?_
      rotate_left
      · (rintro w n0; go_simp) <;> with_reducible rfl
      try simp only [Act.put, List.getElem_toArray, List.getElem_cons_succ, List.getElem_cons_zero, List.setIfInBounds_toArray, List.set_cons_zero, List.set_cons_succ]
      refine wpAnyH_take (i := 9) (v := ?_) rfl (by kernel_rfl) (by kernel_rfl) (by kernel_rfl) (fun _ _ _ h => h) (Or.inl ⟨by kernel_rfl, ?_⟩) HS ?_
      rotate_left
      · (rintro w n0; go_simp) <;> with_reducible rfl
      try simp only [Act.put, List.getElem_toArray, List.getElem_cons_succ, List.getElem_cons_zero, List.setIfInBounds_toArray, List.set_cons_zero, List.set_cons_succ]
      refine wpAnyH_done (by kernel_rfl) ?_ _
      clear HS
      have z0 := HXe.out.c0
      have z1 := HXe.out.c1
      have f0 := HXe.out.f0
      have f1 := HXe.out.f1
      have HB : Hid (Below w.heap.size w q3) := HBe.out.1
      have HO : Hid (opK l = 0 ∧ opP l = [] ∧ opN l = 0) := op_no HE.out (by omega)
      go_wp2
      exact bodyPost_ret (v := .tuple #[.agg #[.int .i64 0, .slice none 0 0], .int .i64 0, .int .i64 135]) (by simp [results, Tryd.results30, go_sem, z0, z1, f0, f1]) rfl ⟨.slice none 0 0, by rw [HE.out, HO.out.1, HO.out.2.2]; rfl, by rw [HO.out.2.1]; exact (ob_nil 0 _).bs.1, fun a n c e => (by cases e), (HB.out.setCell (by dsimp only; omega) _).setCell (by dsimp only; omega) _⟩
theorem fr1 : Fr1 := ⟨sealOk13, sealKind13, sealSize13, open13⟩
end Go.Proofs.YtfcbgkcclganmaaDoor
