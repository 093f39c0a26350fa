/-
  Texts of this proof, joined: DqH DqJ SqN.
-/
import Derived.Test.YthnpdcblfocemaaGreatDoorSP24
import Derived.Test.YthnpdcblfocemaaGreatDoorSP27
import Derived.Test.YthnpdcblfocemaaGreatDoorSP28
import Derived.Test.YthnpdcblfocemaaGreatDoorSP31
set_option linter.unusedVariables false
set_option linter.unusedSimpArgs false
namespace Go.Proofs.YthnpdcblfocemaaGreatDoor
open Go.RowKit

def fj (un : List (Nat × List Nat)) (fs : List (Int × Int)) (bl : List (List Nat)) (j : Nat) : List (List Nat) := fall (un.take j) fs bl
theorem fj_none (un : List (Nat × List Nat)) (fs : List (Int × Int)) (bl : List (List Nat)) : fj un fs bl 0 = bl := by unfold fj; rw [List.take_zero]; exact fall_none _ _
theorem fall_snoc : ∀ (a : List (Nat × List Nat)) (u : Nat × List Nat) (fs : List (Int × Int)) (bl : List (List Nat)), a.length < fs.length → fall (a ++ [u]) fs bl = (fall a fs bl).set u.1 (torn (fn (fs.getD a.length (0, 0))) u.2 ((fall a fs bl).getD u.1 [])) := by
  intro a
  induction a with
  | nil =>
    intro u fs bl h
    cases fs with
    | nil => simp at h
    | cons f fs => rfl
  | cons x a ih =>
    intro u fs bl h
    cases fs with
    | nil => simp at h
    | cons f fs =>
      rw [List.cons_append, fall_cons, fall_cons, ih u fs _ (by simpa using h)]
      simp
theorem fj_more (un : List (Nat × List Nat)) (fs : List (Int × Int)) (bl : List (List Nat)) (j : Nat) (h1 : j < un.length) (h2 : j < fs.length) :
    fj un fs bl (j + 1) = (fj un fs bl j).set (un.getD j (0, [])).1 (torn (fn (fs.getD j (0, 0))) (un.getD j (0, [])).2 ((fj un fs bl j).getD (un.getD j (0, [])).1 [])) := by
  have e : un.take (j + 1) = un.take j ++ [un.getD j (0, [])] := by
    rw [List.take_add_one]
    congr 1
    simp [List.getD, h1]
  have e2 : (un.take j).length = j := by rw [List.length_take]; omega
  unfold fj
  rw [e, fall_snoc _ _ _ _ (by rw [e2]; exact h2), e2]
theorem fall_cut : ∀ (un : List (Nat × List Nat)) (fs : List (Int × Int)) (bl : List (List Nat)), fall (un.take fs.length) fs bl = fall un fs bl := by
  intro un
  induction un with
  | nil => intro fs bl; rw [List.take_nil]
  | cons u un ih =>
    intro fs bl
    cases fs with
    | nil => rw [fall_nil, fall_nil]
    | cons f fs => rw [List.length_cons, List.take_succ_cons, fall_cons, fall_cons, ih]
theorem fj_all (un : List (Nat × List Nat)) (fs : List (Int × Int)) (bl : List (List Nat)) (c : Nat) (h : c = min un.length fs.length) : fj un fs bl c = fall un fs bl := by
  unfold fj
  rcases Nat.le_total un.length fs.length with q | q
  · rw [List.take_of_length_le (by omega)]
  · rw [h, Nat.min_eq_right q, fall_cut]
theorem Fts.len15 {w : World} {v : Value} {fs : List (Int × Int)} (h : Fts w v fs) : ∃ (ad : Option Addr) (cap : Nat), v = .slice ad fs.length cap ∧ fs.length ≤ cap ∧ cap ≤ maxLen := by
  obtain ⟨ad, cap, b, o, e, h1, h2, h3, h4⟩ := h
  exact ⟨ad, cap, e, h1, h2⟩
theorem Fts.cel15 {w : World} {ad : Option Addr} {n cap : Nat} {fs : List (Int × Int)} (h : Fts w (.slice ad n cap) fs) (j : Nat) (hj : j < fs.length) : ∃ b o : Nat, ad = some ⟨b, o, none⟩ ∧ w.cell? ⟨b, o + j * 2, none⟩ = some (.int .i64 (fs.getD j (0, 0)).1) ∧ w.cell? ⟨b, o + j * 2 + 1, none⟩ = some (.int .i64 (fs.getD j (0, 0)).2) := by
  obtain ⟨ad', cap', b, o, e, h1, h2, h3, h4⟩ := h
  cases e
  exact ⟨b, o, h3 (by omega), h4 j hj⟩
set_option maxRecDepth 100000 in
set_option maxHeartbeats 8000000 in
theorem crash15 (w : World) (p : Value) (F : Nat → Prop) (s : Dsk) (v : Value) (fs : List (Int × Int)) (h : PD w p F s) (hf : Fts w v fs) (hnf : Nf F v) (hfl : fs.length ≤ 1000) (hu : s.un.length ≤ 1000) :
    Calls Tryz.prog 17 #[p, v] w fun e w' => e = .returned (.int .i64 0) ∧ Ad PD p F (crS s fs) w w' := by
  obtain ⟨d, M, vU, L, rfl, h⟩ := h
  have hmd := made_yes h
  have HR : Hid (Pd w d M vU L F s) := h
  obtain ⟨aU, pU, rfl⟩ := h.sU
  have hcap : s.un.length ≤ pU := by
    rcases h.rU.2 with ⟨e, h0⟩ | ⟨g, c, cur, e, -, -, hc, -⟩
    · omega
    · cases e; exact hc
  obtain ⟨av, cv, rfl, hk1, hk2⟩ := hf.len15
  obtain ⟨m, hm⟩ : ∃ m, s.un.length = m := ⟨_, rfl⟩
  obtain ⟨n, hn⟩ : ∃ n, fs.length = n := ⟨_, rfl⟩
  have HM : Hid (s.un.length = m ∧ fs.length = n ∧ m ≤ 1000) := ⟨hm, hn, by omega⟩
  have HFt : Hid (Fts w (.slice av n cv) fs ∧ Nf F (.slice av n cv)) := by rw [hn] at hf hnf; exact ⟨hf, hnf⟩
  have c2 := h.c2
  rw [hm] at HR c2 hcap
  rw [hn]
  obtain ⟨c, HC⟩ : ∃ c, Hid (c = min m n) := ⟨_, rfl⟩
  have hcm : c ≤ m := by have := HC.out; omega
  have hcp : c ≤ pU := by omega
  have hz := zero_wr15
  have HZ : Hid ((wr15 (0, zr15)).length = 129) := wr15_len zr_len
  obtain ⟨fds, hfs⟩ := und_wr15
  clear h hf hnf hfl hu hm hn hk1 hk2
  go_enter Tryz.func17, Tryz.ntmps17
  go_upto_region 3 with (go_at_call 41; refine hmd.mono ?_; rintro e w' ⟨rfl, hw⟩; replace hw := hw.symm; subst hw; clear hmd)
  refine wp_region_held_drew (S := fun W => W.cell? ⟨d, 2, none⟩ = some (.slice aU m pU)) (by kernel_rfl) c2 (fun HS => ?_)
  have HRd : Hid (Pd w.drew d M (.slice aU m pU) L F s ∧ Kp F w w.drew) := ⟨HR.out.kept (fun _ _ => rfl) (Nat.le_refl _), (Kp.refl F w).drew⟩
  clear c2
  generalize w.drew = q0 at *
  refine wpAnyH_take (i := 0) (v := ?v1) rfl (by kernel_rfl) (by kernel_rfl) (by kernel_rfl) (fun _ _ _ h => h) (Or.inl ⟨by kernel_rfl, ?h1⟩) HS ?r1
  case h1 => (rintro w n0; go_simp) <;> with_reducible rfl
  try simp only [Act.put, List.getElem_toArray, List.getElem_cons_succ, List.getElem_cons_zero, List.setIfInBounds_toArray, List.set_cons_zero, List.set_cons_succ]
  refine wpAnyH_take (i := 1) (v := ?v2) rfl (by kernel_rfl) (by kernel_rfl) (by kernel_rfl) (fun _ _ _ h => h) (Or.inl ⟨by kernel_rfl, ?h2⟩) HS ?r2
  case h2 => (rintro w n0; go_simp) <;> with_reducible rfl
  try simp only [Act.put, List.getElem_toArray, List.getElem_cons_succ, List.getElem_cons_zero, List.setIfInBounds_toArray, List.set_cons_zero, List.set_cons_succ]
  refine wpAnyH_take (i := 2) (v := ?v3) rfl (by kernel_rfl) (by kernel_rfl) (by kernel_rfl) (fun _ _ _ h => h) (Or.inl ⟨by kernel_rfl, ?h3⟩) HS ?r3
  case h3 => (rintro w n0; go_simp) <;> with_reducible rfl
  try simp only [Act.put, List.getElem_toArray, List.getElem_cons_succ, List.getElem_cons_zero, List.setIfInBounds_toArray, List.set_cons_zero, List.set_cons_succ]
  refine wpAnyH_take (i := 3) (v := ?v4) rfl (by kernel_rfl) (by kernel_rfl) (by kernel_rfl) (fun _ _ _ h => h) (Or.inl ⟨by kernel_rfl, ?h4⟩) HS ?r4
  case h4 => (rintro w n0; go_simp) <;> with_reducible rfl
  try simp only [Act.put, List.getElem_toArray, List.getElem_cons_succ, List.getElem_cons_zero, List.setIfInBounds_toArray, List.set_cons_zero, List.set_cons_succ]
  refine wpAnyH_take (i := 4) (v := ?v5) rfl (by kernel_rfl) (by kernel_rfl) (by kernel_rfl) (fun _ _ _ h => h) (Or.inl ⟨by kernel_rfl, ?h5⟩) HS ?r5
  case h5 => (rintro w n0; go_simp) <;> with_reducible rfl
  try simp only [Act.put, List.getElem_toArray, List.getElem_cons_succ, List.getElem_cons_zero, List.setIfInBounds_toArray, List.set_cons_zero, List.set_cons_succ]
  refine wpAnyH_take (i := 5) (v := ?v6) rfl (by kernel_rfl) (by kernel_rfl) (by kernel_rfl) (fun _ _ _ h => h) (Or.inl ⟨by kernel_rfl, ?h6⟩) HS ?r6
  case h6 => (rintro w n0; go_simp) <;> with_reducible rfl
  try simp only [Act.put, List.getElem_toArray, List.getElem_cons_succ, List.getElem_cons_zero, List.setIfInBounds_toArray, List.set_cons_zero, List.set_cons_succ]
  refine wpAnyH_take (i := 6) (v := ?v7) rfl (by kernel_rfl) (by kernel_rfl) (by kernel_rfl) (fun _ _ _ h => h) (Or.inl ⟨by kernel_rfl, ?h7⟩) HS ?r7
  case h7 => (rintro w n0; go_simp) <;> with_reducible rfl
  try simp only [Act.put, List.getElem_toArray, List.getElem_cons_succ, List.getElem_cons_zero, List.setIfInBounds_toArray, List.set_cons_zero, List.set_cons_succ]
  refine wpAnyH_take (i := 7) (v := ?v8) rfl (by kernel_rfl) (by kernel_rfl) (by kernel_rfl) (fun _ _ _ h => h) (Or.inl ⟨by kernel_rfl, ?h8⟩) HS ?r8
  case h8 => (rintro w n0; go_simp) <;> with_reducible rfl
  try simp only [Act.put, List.getElem_toArray, List.getElem_cons_succ, List.getElem_cons_zero, List.setIfInBounds_toArray, List.set_cons_zero, List.set_cons_succ]
  refine wpAnyH_take (i := 8) (v := ?v9) rfl (by kernel_rfl) (by kernel_rfl) (by kernel_rfl) (fun _ _ _ h => h) (Or.inl ⟨by kernel_rfl, ?h9⟩) HS ?r9
  case h9 => (rintro w n0; go_simp) <;> with_reducible rfl
  try simp only [Act.put, List.getElem_toArray, List.getElem_cons_succ, List.getElem_cons_zero, List.setIfInBounds_toArray, List.set_cons_zero, List.set_cons_succ]
  refine wpAnyH_take (i := 9) (v := ?v10) rfl (by kernel_rfl) (by kernel_rfl) (by kernel_rfl) (fun _ _ _ h => h) (Or.inl ⟨by kernel_rfl, ?h10⟩) HS ?r10
  case h10 => (rintro w n0; go_simp) <;> with_reducible rfl
  try simp only [Act.put, List.getElem_toArray, List.getElem_cons_succ, List.getElem_cons_zero, List.setIfInBounds_toArray, List.set_cons_zero, List.set_cons_succ]
  refine wpAnyH_take (i := 10) (v := ?v11) rfl (by kernel_rfl) (by kernel_rfl) (by kernel_rfl) (fun _ _ _ h => h) (Or.inl ⟨by kernel_rfl, ?h11⟩) HS ?r11
  case h11 => (rintro w n0; go_simp) <;> with_reducible rfl
  try simp only [Act.put, List.getElem_toArray, List.getElem_cons_succ, List.getElem_cons_zero, List.setIfInBounds_toArray, List.set_cons_zero, List.set_cons_succ]
  refine wpAnyH_take (i := 11) (v := .int .i64 (c : Int)) rfl (by kernel_rfl) (by kernel_rfl) (by kernel_rfl) (fun _ _ _ h => h) (Or.inl ⟨by kernel_rfl, ?hmin⟩) HS ?_
  case hmin =>
    clear HR HRd HFt HZ hz HS
    have hC := HC.out
    rintro w n0
    rcases Nat.lt_or_ge n m with q | q
    · obtain rfl : c = n := by omega
      have q2 : (c : Int) < (m : Int) := by omega
      clear hC HC
      go_simp
    · obtain rfl : c = m := by omega
      have q2 : ¬ (n : Int) < (c : Int) := by omega
      clear hC HC
      go_simp
  try simp only [Act.put, List.getElem_toArray, List.getElem_cons_succ, List.getElem_cons_zero, List.setIfInBounds_toArray, List.set_cons_zero, List.set_cons_succ]
  have hcpI : (c : Int) ≤ (pU : Int) := by omega
  refine wpAnyH_take (i := 12) (v := ?v12) rfl (by kernel_rfl) (by kernel_rfl) (by kernel_rfl) (fun _ _ _ h => h) (Or.inl ⟨by kernel_rfl, ?h12⟩) HS ?r12
  case h12 => (rintro w n0; go_simp) <;> with_reducible rfl
  try simp only [Act.put, List.getElem_toArray, List.getElem_cons_succ, List.getElem_cons_zero, List.setIfInBounds_toArray, List.set_cons_zero, List.set_cons_succ]
  refine wpAnyH_take (i := 13) (v := ?v13) rfl (by kernel_rfl) (by kernel_rfl) (by kernel_rfl) (fun _ _ _ h => h) (Or.inl ⟨by kernel_rfl, ?h13⟩) HS ?r13
  case h13 => (rintro w n0; go_simp) <;> with_reducible rfl
  try simp only [Act.put, List.getElem_toArray, List.getElem_cons_succ, List.getElem_cons_zero, List.setIfInBounds_toArray, List.set_cons_zero, List.set_cons_succ]
  refine wpAnyH_take (i := 14) (v := ?v14) rfl (by kernel_rfl) (by kernel_rfl) (by kernel_rfl) (fun _ _ _ h => h) (Or.inl ⟨by kernel_rfl, ?h14⟩) HS ?r14
  case h14 => (rintro w n0; go_simp) <;> with_reducible rfl
  try simp only [Act.put, List.getElem_toArray, List.getElem_cons_succ, List.getElem_cons_zero, List.setIfInBounds_toArray, List.set_cons_zero, List.set_cons_succ]
  refine wpAnyH_done (by kernel_rfl) ?_ _
  clear HS hcpI
  go_upto_region 4 with fail
  have hc9 : c ≤ 1000 := by have := HM.out.2.2; omega
  go_loopw [24] (fun s24 wr => ∃ j : Nat, j ≤ c ∧ s24 = .int .i64 (j : Int) ∧ Hid (Pd wr d M (.slice aU m pU) L F { s with bl := fj s.un fs s.bl j } ∧ Kp F w wr)) (fun s24 _ => c - (intOf s24).toNat)
  case atStart => exact ⟨0, by omega, rfl, by rw [fj_none]; exact HRd.out.1, HRd.out.2⟩
  case round =>
    obtain ⟨j, hj, rfl, HR2⟩ := hrel
    by_cases hlt : j < c
    · have hjI : (j : Int) < (c : Int) := by omega
      have hjl : j < s.un.length := by have := HM.out.1; omega
      have hjf : j < fs.length := by have := HM.out.2.1; have := HC.out; omega
      have hjn : j < n := by have := HC.out; omega
      obtain ⟨g, rfl⟩ := HR2.out.1.adr (by show 0 < s.un.length; omega)
      obtain ⟨bf, qf, rfl, g1, g2⟩ := HFt.out.1.cel15 j hjf
      have hrg := HR2.out.1.rng rfl j hjl
      have hug := un_get HR2.out.1.ok hjl
      have hlm := fj_more s.un fs s.bl j hjl hjf
      obtain ⟨⟨uI, uT⟩, hu⟩ : ∃ u, s.un.getD j (0, []) = u := ⟨_, rfl⟩
      obtain ⟨⟨fk, fb⟩, hfj⟩ : ∃ f, fs.getD j (0, 0) = f := ⟨_, rfl⟩
      dsimp only at hrg hug hlm
      rw [hu] at hrg hug hlm
      rw [hfj] at hlm g1 g2
      dsimp only at hlm g1 g2
      have hnb : ¬ F bf := HFt.out.2 ⟨bf, qf, none⟩ n cv rfl (by omega)
      have HG : Hid (wr.cell? ⟨bf, qf + j * 2, none⟩ = some (.int .i64 fk) ∧ wr.cell? ⟨bf, qf + j * 2 + 1, none⟩ = some (.int .i64 fb)) := ⟨HR2.out.2.cell hnb g1, HR2.out.2.cell hnb g2⟩
      have HU : Hid (uI < (fj s.un fs s.bl j).length ∧ okb uT ∧ (wr15 (uI, uT)).length = 129) := ⟨hug.1, hug.2, wr15_len hug.2.1⟩
      have HLm : Hid (fj s.un fs s.bl (j + 1) = (fj s.un fs s.bl j).set uI (torn (fn (fk, fb)) uT ((fj s.un fs s.bl j).getD uI []))) := hlm
      have HO : Hid (okb ((fj s.un fs s.bl j).getD uI [])) := getD_ok HR2.out.1.ok.bl hug.1
      clear hu hug hlm hjl hjf g1 g2 hnb hfj
      go_upto_region 6 with (first
        | (refine wpList_load_mid rfl 94 _ rfl g (j * 129) rfl (wr15 (uI, uT)) _ hrg hfs rfl (by rw [HU.out.2.2]; exact sz_wr15) ?_)
        | (refine alV rfl 94 (wr15 (0, zr15)) hz rfl ?_; intro wB hV hB hS)
        | (refine stV rfl 94 _ _ rfl _ (wr15 (0, zr15)) (wr15 (uI, uT)) rfl rfl hV (by rw [HZ.out, HU.out.2.2]) (by rw [HU.out.2.2]; exact sz_wr15) (wr15_one _) ?_; intro wC hVC hKC hSC))
      have hBC : Below wr.heap.size wr wC := hKC.next hB (fun i hi => by omega) hB.size
      have HP2 : Hid (Pd wC.drew d M (.slice (some ⟨g, 0, none⟩) m pU) L F { s with bl := fj s.un fs s.bl j } ∧ Kp F w wC.drew) := ⟨HR2.out.1.later hBC.drew, HR2.out.2.grow hBC.drew HR2.out.2.size⟩
      have HS9 : Hid (wC.drew.cell? ⟨d, 1, none⟩ = some (.map (some M)) ∧ wC.drew.cell? ⟨wr.heap.size, 0, none⟩ = some (.int .i64 (uI : Int)) ∧ wC.drew.cell? ⟨bf, qf + j * 2, none⟩ = some (.int .i64 fk) ∧ wC.drew.cell? ⟨bf, qf + j * 2 + 1, none⟩ = some (.int .i64 fb) ∧ Vb wC.drew wr.heap.size 94 (wr15 (uI, uT))) :=
        ⟨HP2.out.1.c1, hVC.cell 0 _ rfl, cell_later hBC.drew HG.out.1, cell_later hBC.drew HG.out.2, hVC⟩
      clear hV hB hS hVC hKC hSC hBC hrg HG
      refine wp_region_held_drew (S := fun W => W.cell? ⟨d, 1, none⟩ = some (.map (some M)) ∧ W.cell? ⟨wr.heap.size, 0, none⟩ = some (.int .i64 (uI : Int)) ∧ W.cell? ⟨bf, qf + j * 2, none⟩ = some (.int .i64 fk) ∧ W.cell? ⟨bf, qf + j * 2 + 1, none⟩ = some (.int .i64 fb) ∧ Vb W wr.heap.size 94 (wr15 (uI, uT))) (by kernel_rfl) HS9.out (fun HS => ?_)
      generalize wC.drew = q1 at *
      refine wpAnyH_take (i := 0) (v := ?v15) rfl (by kernel_rfl) (by kernel_rfl) (by kernel_rfl) (fun _ _ _ h => h) (Or.inl ⟨by kernel_rfl, ?h15⟩) HS ?r15
      case h15 => (rintro w ⟨n0, n1, n2, n3, n4⟩; go_simp) <;> with_reducible rfl
      try simp only [Act.put, List.getElem_toArray, List.getElem_cons_succ, List.getElem_cons_zero, List.setIfInBounds_toArray, List.set_cons_zero, List.set_cons_succ]
      refine wpAnyH_take (i := 1) (v := ?v16) rfl (by kernel_rfl) (by kernel_rfl) (by kernel_rfl) (fun _ _ _ h => h) (Or.inl ⟨by kernel_rfl, ?h16⟩) HS ?r16
      case h16 => (rintro w ⟨n0, n1, n2, n3, n4⟩; go_simp) <;> with_reducible rfl
      try simp only [Act.put, List.getElem_toArray, List.getElem_cons_succ, List.getElem_cons_zero, List.setIfInBounds_toArray, List.set_cons_zero, List.set_cons_succ]
      refine wpAnyH_take (i := 2) (v := ?v17) rfl (by kernel_rfl) (by kernel_rfl) (by kernel_rfl) (fun _ _ _ h => h) (Or.inl ⟨by kernel_rfl, ?h17⟩) HS ?r17
      case h17 => (rintro w ⟨n0, n1, n2, n3, n4⟩; go_simp) <;> with_reducible rfl
      try simp only [Act.put, List.getElem_toArray, List.getElem_cons_succ, List.getElem_cons_zero, List.setIfInBounds_toArray, List.set_cons_zero, List.set_cons_succ]
      refine wpAnyH_take (i := 3) (v := ?v18) rfl (by kernel_rfl) (by kernel_rfl) (by kernel_rfl) (fun _ _ _ h => h) (Or.inl ⟨by kernel_rfl, ?h18⟩) HS ?r18
      case h18 => (rintro w ⟨n0, n1, n2, n3, n4⟩; go_simp) <;> with_reducible rfl
      try simp only [Act.put, List.getElem_toArray, List.getElem_cons_succ, List.getElem_cons_zero, List.setIfInBounds_toArray, List.set_cons_zero, List.set_cons_succ]
      refine wpAnyH_take (i := 4) (v := ?v19) rfl (by kernel_rfl) (by kernel_rfl) (by kernel_rfl) (fun _ _ _ h => h) (Or.inl ⟨by kernel_rfl, ?h19⟩) HS ?r19
      case h19 => (rintro w ⟨n0, n1, n2, n3, n4⟩; go_simp) <;> with_reducible rfl
      try simp only [Act.put, List.getElem_toArray, List.getElem_cons_succ, List.getElem_cons_zero, List.setIfInBounds_toArray, List.set_cons_zero, List.set_cons_succ]
      refine wpAnyH_take (i := 5) (v := ?v20) rfl (by kernel_rfl) (by kernel_rfl) (by kernel_rfl) (fun _ _ _ h => h) (Or.inl ⟨by kernel_rfl, ?h20⟩) HS ?r20
      case h20 => (rintro w ⟨n0, n1, n2, n3, n4⟩; go_simp) <;> with_reducible rfl
      try simp only [Act.put, List.getElem_toArray, List.getElem_cons_succ, List.getElem_cons_zero, List.setIfInBounds_toArray, List.set_cons_zero, List.set_cons_succ]
      refine wpAnyH_take (i := 6) (v := ?v21) rfl (by kernel_rfl) (by kernel_rfl) (by kernel_rfl) (fun _ _ _ h => h) (Or.inl ⟨by kernel_rfl, ?h21⟩) HS ?r21
      case h21 => (rintro w ⟨n0, n1, n2, n3, n4⟩; go_simp) <;> with_reducible rfl
      try simp only [Act.put, List.getElem_toArray, List.getElem_cons_succ, List.getElem_cons_zero, List.setIfInBounds_toArray, List.set_cons_zero, List.set_cons_succ]
      refine wpAnyH_take (i := 7) (v := ?v22) rfl (by kernel_rfl) (by kernel_rfl) (by kernel_rfl) (fun _ _ _ h => h) (Or.inl ⟨by kernel_rfl, ?h22⟩) HS ?r22
      case h22 => (rintro w ⟨n0, n1, n2, n3, n4⟩; go_simp) <;> with_reducible rfl
      try simp only [Act.put, List.getElem_toArray, List.getElem_cons_succ, List.getElem_cons_zero, List.setIfInBounds_toArray, List.set_cons_zero, List.set_cons_succ]
      refine wpAnyH_take (i := 8) (v := ?v23) rfl (by kernel_rfl) (by kernel_rfl) (by kernel_rfl) (fun _ _ _ h => h) (Or.inl ⟨by kernel_rfl, ?h23⟩) HS ?r23
      case h23 => (rintro w ⟨n0, n1, n2, n3, n4⟩; go_simp) <;> with_reducible rfl
      try simp only [Act.put, List.getElem_toArray, List.getElem_cons_succ, List.getElem_cons_zero, List.setIfInBounds_toArray, List.set_cons_zero, List.set_cons_succ]
      refine wpAnyH_take (i := 9) (v := ?v24) rfl (by kernel_rfl) (by kernel_rfl) (by kernel_rfl) (fun _ _ _ h => h) (Or.inl ⟨by kernel_rfl, ?h24⟩) HS ?r24
      case h24 => (rintro w ⟨n0, n1, n2, n3, n4⟩; go_simp) <;> with_reducible rfl
      try simp only [Act.put, List.getElem_toArray, List.getElem_cons_succ, List.getElem_cons_zero, List.setIfInBounds_toArray, List.set_cons_zero, List.set_cons_succ]
      refine wpAnyH_take (i := 10) (v := ?v25) rfl (by kernel_rfl) (by kernel_rfl) (by kernel_rfl) (fun _ _ _ h => h) (Or.inl ⟨by kernel_rfl, ?h25⟩) HS ?r25
      case h25 => (rintro w ⟨n0, n1, n2, n3, n4⟩; go_simp) <;> with_reducible rfl
      try simp only [Act.put, List.getElem_toArray, List.getElem_cons_succ, List.getElem_cons_zero, List.setIfInBounds_toArray, List.set_cons_zero, List.set_cons_succ]
      refine wpAnyH_take (i := 11) (v := ?v26) rfl (by kernel_rfl) (by kernel_rfl) (by kernel_rfl) (fun _ _ _ h => h) (Or.inl ⟨by kernel_rfl, ?h26⟩) HS ?r26
      case h26 => (rintro w ⟨n0, n1, n2, n3, n4⟩; go_simp) <;> with_reducible rfl
      try simp only [Act.put, List.getElem_toArray, List.getElem_cons_succ, List.getElem_cons_zero, List.setIfInBounds_toArray, List.set_cons_zero, List.set_cons_succ]
      refine wpAnyH_take (i := 12) (v := ?v27) rfl (by kernel_rfl) (by kernel_rfl) (by kernel_rfl) (fun _ _ _ h => h) (Or.inl ⟨by kernel_rfl, ?h27⟩) HS ?r27
      case h27 => (rintro w ⟨n0, n1, n2, n3, n4⟩; go_simp) <;> with_reducible rfl
      try simp only [Act.put, List.getElem_toArray, List.getElem_cons_succ, List.getElem_cons_zero, List.setIfInBounds_toArray, List.set_cons_zero, List.set_cons_succ]
      refine wpAnyH_take (i := 14) (v := ?v28) rfl (by kernel_rfl) (by kernel_rfl) (by kernel_rfl) (fun _ _ _ h => h) (Or.inl ⟨by kernel_rfl, ?h28⟩) HS ?r28
      case h28 => (rintro w ⟨n0, n1, n2, n3, n4⟩; go_simp) <;> with_reducible rfl
      try simp only [Act.put, List.getElem_toArray, List.getElem_cons_succ, List.getElem_cons_zero, List.setIfInBounds_toArray, List.set_cons_zero, List.set_cons_succ]
      refine wpAnyH_take (i := 15) (v := .agg (b8 uT).toArray) rfl (by kernel_rfl) (by kernel_rfl) (by kernel_rfl) (fun _ _ _ h => h) ?ha HS ?_
      case ha =>
        refine yieldsIf_load_mid (by kernel_rfl) 92 _ rfl wr.heap.size 1 rfl (b8 uT) _ ?_ und_blk15 rfl (by rw [b8_len, HU.out.2.1.1]; exact sz_blk15)
        exact fun W hW => hW.2.2.2.2.range 1 (b8 uT) (sz_bV (uI, uT) HU.out.2.1.1)
      try simp only [Act.put, List.getElem_toArray, List.getElem_cons_succ, List.getElem_cons_zero, List.setIfInBounds_toArray, List.set_cons_zero, List.set_cons_succ]
      have hlk := map_look HP2.out.1.mz uI HU.out.1
      unfold bkV key15 at hlk
      dsimp only at hlk
      have HO2 : Hid (Calls Tryz.prog 43 #[.agg #[.int .i64 fk, .int .i64 fb], .agg (b8 ((fj s.un fs s.bl j).getD uI [])).toArray, .agg (b8 uT).toArray] q1 fun e w' => e = .returned (.agg (b8 (torn (fn (fk, fb)) uT ((fj s.un fs s.bl j).getD uI []))).toArray) ∧ Below q1.heap.size q1 w') := outcome15 (fk, fb) _ uT HO.out.1 HU.out.2.1.1 q1
      have HTk : Hid (okb (torn (fn (fk, fb)) uT ((fj s.un fs s.bl j).getD uI []))) := torn_ok (fn_le _) HU.out.2.1 HO.out
      generalize (fj s.un fs s.bl j).getD uI [] = old at *
      generalize torn (fn (fk, fb)) uT old = tk at *
      refine wpAnyH_ready (rs := [13]) (by kernel_rfl) (by simp) ?_
      refine AllReadyH.cons rfl (fun K hK => ?_) AllReadyH.nil
      go_simp
      refine hK.out _ _ HS9.out (fun HS => ?_)
      clear hK K hlk
      try simp only [Act.put, List.getElem_toArray, List.getElem_cons_succ, List.getElem_cons_zero, List.setIfInBounds_toArray, List.set_cons_zero, List.set_cons_succ]
      refine wpAnyH_ready (rs := [16]) (by kernel_rfl) (by simp) ?_
      refine AllReadyH.cons rfl (fun K hK => ?_) AllReadyH.nil
      go_simp
      refine HO2.out.mono ?_
      rintro e q2 ⟨rfl, hB2⟩
      have HP3 : Hid (Pd q2 d M (.slice (some ⟨g, 0, none⟩) m pU) L F { s with bl := fj s.un fs s.bl j } ∧ Kp F w q2) := ⟨HP2.out.1.later hB2, HP2.out.2.grow hB2 HP2.out.2.size⟩
      have HS8 : Hid (q2.cell? ⟨d, 1, none⟩ = some (.map (some M)) ∧ q2.cell? ⟨wr.heap.size, 0, none⟩ = some (.int .i64 (uI : Int)) ∧ q2.cell? ⟨bf, qf + j * 2, none⟩ = some (.int .i64 fk) ∧ q2.cell? ⟨bf, qf + j * 2 + 1, none⟩ = some (.int .i64 fb) ∧ Vb q2 wr.heap.size 94 (wr15 (uI, uT))) :=
        ⟨cell_later hB2 HS9.out.1, cell_later hB2 HS9.out.2.1, cell_later hB2 HS9.out.2.2.1, cell_later hB2 HS9.out.2.2.2.1, HS9.out.2.2.2.2.later hB2⟩
      refine hK.out _ _ HS8.out (fun HS => ?_)
      clear hK K HO2 hB2
      try simp only [Act.put, List.getElem_toArray, List.getElem_cons_succ, List.getElem_cons_zero, List.setIfInBounds_toArray, List.set_cons_zero, List.set_cons_succ]
      refine wpAnyH_ready (rs := [17]) (by kernel_rfl) (by simp) ?_
      refine AllReadyH.cons rfl (fun K hK => ?_) AllReadyH.nil
      go_simp
      refine (keep15 HP3.out.1 uI tk HU.out.1 HTk.out).mono ?_
      rintro e q3 ⟨rfl, hX⟩
      have HX : Hid (Pd q3 d M (.slice (some ⟨g, 0, none⟩) m pU) L F { s with bl := fj s.un fs s.bl (j + 1) } ∧ Kp F w q3) := by
        refine ⟨?_, HP3.out.2.trans hX.2 (fun k hk => Or.inl (by rw [hk]; exact hX.1.fM))⟩
        rw [HLm.out]
        exact hX.1
      have hne : ∀ k, k < q2.heap.size → k ≠ M → q3.heap[k]? = q2.heap[k]? := fun k hk hn => hX.2.block k hk hn
      have HS7 : Hid (q3.cell? ⟨d, 1, none⟩ = some (.map (some M)) ∧ q3.cell? ⟨wr.heap.size, 0, none⟩ = some (.int .i64 (uI : Int)) ∧ q3.cell? ⟨bf, qf + j * 2, none⟩ = some (.int .i64 fk) ∧ q3.cell? ⟨bf, qf + j * 2 + 1, none⟩ = some (.int .i64 fb) ∧ Vb q3 wr.heap.size 94 (wr15 (uI, uT))) := by
        have hM := HX.out.1.fM
        have hMl := HR2.out.1.lt M hM
        have n1 : bf ≠ M := fun e => HFt.out.2 ⟨bf, qf, none⟩ n cv rfl (by omega) (by show F bf; rw [e]; exact hM)
        have l1 := World.block_lt_of_cell? _ _ HS8.out.2.2.1
        exact ⟨HX.out.1.c1, cell_blk5 (a := ⟨wr.heap.size, 0, none⟩) (hne _ HS8.out.2.2.2.2.lt (by show wr.heap.size ≠ M; omega)) HS8.out.2.1, cell_blk5 (a := ⟨bf, qf + j * 2, none⟩) (hne _ l1 n1) HS8.out.2.2.1, cell_blk5 (a := ⟨bf, qf + j * 2 + 1, none⟩) (hne _ l1 n1) HS8.out.2.2.2.1, HS8.out.2.2.2.2.kept (hne _ HS8.out.2.2.2.2.lt (by show wr.heap.size ≠ M; omega))⟩
      refine hK.out _ _ HS7.out (fun HS => ?_)
      clear hK K hX hne
      try simp only [Act.put, List.getElem_toArray, List.getElem_cons_succ, List.getElem_cons_zero, List.setIfInBounds_toArray, List.set_cons_zero, List.set_cons_succ]
      refine wpAnyH_done (by kernel_rfl) ?_ _
      clear HS HS7 HS8 HS9
      go_upto_region 7 with fail
      go_wp2
      go_roundw
      case rel => exact ⟨j + 1, by omega, by go_num, HX.out⟩
      case measure => simp [intOf]; omega
    · obtain rfl : j = c := by omega
      have hjI : ¬ (j : Int) < (j : Int) := by omega
      have HX : Hid (Pd (((wr.setCell ⟨d, 2, none⟩ (.slice none 0 0)).setCell ⟨d, 3, none⟩ (.int .i64 (-1))).setCell ⟨d, 4, none⟩ (.bool false)) d M (.slice none 0 0) (-1) F (crS s fs) ∧ Kp F w (((wr.setCell ⟨d, 2, none⟩ (.slice none 0 0)).setCell ⟨d, 3, none⟩ (.int .i64 (-1))).setCell ⟨d, 4, none⟩ (.bool false))) := by
        have e : fj s.un fs s.bl j = fall s.un fs s.bl := fj_all _ _ _ _ (by have h1 := HM.out.1; have h2 := HM.out.2.1; have := HC.out; rw [h1, h2]; exact this)
        have h := ((HR2.out.1.nil).left (-1) 0 ⟨by omega, by omega⟩ (fun q => by omega)).dn false
        rw [e] at h
        exact ⟨h, ((HR2.out.2.set (p := ⟨d, 2, none⟩) (Or.inl HR2.out.1.fd) _).set (p := ⟨d, 3, none⟩) (Or.inl HR2.out.1.fd) _).set (p := ⟨d, 4, none⟩) (Or.inl HR2.out.1.fd) _⟩
      have e2 := HR2.out.1.c2
      have e3 : ∀ u, (wr.setCell ⟨d, 2, none⟩ u).cell? ⟨d, 3, none⟩ = some (.int .i64 L) := fun u => far5 HR2.out.1.c3 (by omega)
      have e4 : ∀ u v, ((wr.setCell ⟨d, 2, none⟩ u).setCell ⟨d, 3, none⟩ v).cell? ⟨d, 4, none⟩ = some (.bool s.dn) := fun u v => far5 (far5 HR2.out.1.c4 (by omega)) (by omega)
      have f2 := HR2.out.1.f0 2 (by omega)
      have f3 := HR2.out.1.f0 3 (by omega)
      have f4 := HR2.out.1.f0 4 (by omega)
      go_wp2
      go_ret
      exact ⟨rfl, F, ⟨d, M, _, -1, rfl, HX.out.1⟩, fun k hk => Or.inl hk, HX.out.2⟩
end Go.Proofs.YthnpdcblfocemaaGreatDoor
set_option linter.unusedVariables false
set_option linter.unusedSimpArgs false
namespace Go.Proofs.YthnpdcblfocemaaGreatDoor
open Go.RowKit

def disk1 : Disk1 where
  Dt := PD
  dtK := fun h k hs => h.kept k hs
  dtB := fun h => h.lt
  dtO := fun h => h.ok
  new := fun w n h1 h2 => new15 w n h1 h2
  newN := fun w n h => newN15 w n h
  write := fun w p F s i v b h hv hnf hb hl hu => write15 w p F s i v b h hv hnf hb hl hu
  read := fun w p F s i h => read15 w p F s i h
  safeY := fun w p F s i h hi => by
    obtain ⟨d, M, vU, L, rfl, h⟩ := h
    exact (safe15 h i hi).mono fun e w' ⟨v, q1, q2, q3, q4⟩ => ⟨v, q1, q2, q3.1, q4⟩
  safeN := fun w p F s i h hi => by
    obtain ⟨d, M, vU, L, rfl, h⟩ := h
    exact (safeN15 h i hi).mono fun e w' ⟨q1, q2⟩ => ⟨_, q1, ls_none _ _, by rw [q2]; exact Below.refl _ _⟩
  flush := fun w p F s h hu => flush15 w p F s h hu
  arm := fun w p F s n h hn => arm15 w p F s n h hn
  blocks := fun w p F s h => blocks15 w p F s h
  down := fun w p F s h => down15 w p F s h
  crash := fun w p F s v fs h hf hnf hl hu => crash15 w p F s v fs h hf hnf hl hu
end Go.Proofs.YthnpdcblfocemaaGreatDoor
set_option linter.unusedVariables false
set_option linter.unusedSimpArgs false
namespace Go.Proofs.YthnpdcblfocemaaGreatDoor
open Go.RowKit

theorem svF_kp (a n : Nat) (d : List Nat) (s : Dsk) : svF a n d (svW a d ((d.length + 127) / 128) 0 s) = (if kpE a n d s = 0 then n else 0, kpE a n d s, kpS a n d s) := by
  unfold svF kpE kpS twE twS
  generalize svW a d ((d.length + 127) / 128) 0 s = W
  obtain ⟨e, t⟩ := W
  dsimp only
  by_cases h1 : e = 0
  · subst h1
    simp only [ne_eq, not_true_eq_false, if_false]
    by_cases h2 : flE t = 0
    · rw [h2]
      simp only [not_true_eq_false, if_false]
      unfold svH swE swS
      by_cases h3 : wrE (flS t) (a : Int) (hdB n d) = 0
      · rw [h3]
        simp only [ne_eq, not_true_eq_false, if_false]
        by_cases h4 : flE (wrS (flS t) (a : Int) (hdB n d)) = 0
        · rw [h4]
          simp
        · simp [h4]
      · simp [h3]
    · simp [h2]
  · simp [h1]
set_option maxRecDepth 100000 in
set_option maxHeartbeats 8000000 in
theorem load16 (V : Disk1) (w : World) (c g : Nat) (F : Nat → Prop) (s : Dsk) (at_ room : Nat) (hS : Ps w c g at_ room) (hD : V.Dt w (.pointer (some ⟨g, 0, none⟩)) F s) (hT : TbAt w) (hr : at_ + 2 * (room + 1) ≤ s.bl.length) (hbl : s.bl.length ≤ 1000) :
    Calls Tryz.prog 50 #[.pointer (some ⟨c, 0, none⟩)] w fun e w' => ∃ v, e = .returned (.tuple #[v, .int .i64 (((ldW s at_ room).2.1 : Nat) : Int), .int .i64 (((ldW s at_ room).2.2 : Nat) : Int)]) ∧ Bs w' v (ldW s at_ room).1 ∧ Ow w.heap.size v ∧ Below w.heap.size w w' := by
  have hz := zero_tx16
  have hm := made16 hS
  have C := last16 V w c g F s at_ room hS hD hT hr hbl
  have hL := ldW_ls s at_ room
  obtain ⟨Y, hY⟩ : ∃ Y, ldW s at_ room = Y := ⟨_, rfl⟩
  obtain ⟨X, hX⟩ : ∃ X, lsW s at_ room = X := ⟨_, rfl⟩
  rw [hX] at C hL
  rw [hY] at hL ⊢
  obtain ⟨l, n, er⟩ := X
  have HL : Hid (Y = if er ≠ 0 then ([], 0, er) else if n = 0 then ([], 0, 160) else (l, n, 0)) := hL
  dsimp only at C
  clear hS hD hT hr hbl hL hY hX
  go_enter Tryz.func50, Tryz.ntmps50
  go_upto_region 3 with (go_at_call 63; refine hm.mono ?_; rintro e w' ⟨rfl, hw⟩; replace hw := hw.symm; subst hw; clear hm)
  go_wp2_with fail
  refine C.mono ?_
  rintro e w1 ⟨q0, q1, q2, q3, v, rfl, hLv, hOv, hB1⟩
  obtain ⟨ad, cp, rfl, -, -⟩ := hLv.len
  obtain ⟨m, hm⟩ : ∃ m, l.length = m := ⟨_, rfl⟩
  rw [hm] at hLv hOv ⊢
  have H1 : Hid (Bs w1 (.slice ad m cp) l ∧ Ow w.heap.size (.slice ad m cp) ∧ Below w.heap.size w w1) := ⟨hLv, hOv, hB1⟩
  clear hLv hOv hB1 C hm
  by_cases he : er = 0
  · subst he
    have HL2 : Hid (Y = if n = 0 then ([], 0, 160) else (l, n, 0)) := by have := HL.out; rw [if_neg (by omega)] at this; exact this
    clear HL
    go_upto_region 4 with (first
      | (refine alV rfl 128 tz16 hz rfl ?_; intro w7 hV7 hB7 hS7)
      | (refine stV rfl 128 _ _ rfl w1.heap.size tz16 (txC q0 q1 q2 q3 (n : Int) (.slice ad m cp)) rfl rfl hV7 rfl sz_tx16 (txC_one _ _ _ _ _ _ _ _) ?_; intro w8 hV8 hK8 hS8))
    have hb8 : Below w1.heap.size w1 w8 := hK8.next hB7 (fun i hi => by omega) hB7.size
    have H8 : Hid (Bs w8 (.slice ad m cp) l ∧ Ow w.heap.size (.slice ad m cp) ∧ Below w.heap.size w w8) := ⟨H1.out.1.later hb8, H1.out.2.1, bchain H1.out.2.2 hb8⟩
    have z4 := hV8.cell 4 _ rfl
    have z5 := hV8.cell 5 _ rfl
    clear hV7 hB7 hS7 hV8 hK8 hS8 hb8 H1 hz
    by_cases hn : n = 0
    · subst hn
      have HL3 : Hid (Y = ([], 0, 160)) := by have := HL2.out; rw [if_pos rfl] at this; exact this
      go_wp2_with fail
      go_ret3
      rw [HL3.out]
      exact ⟨.slice none 0 0, rfl, bs_nilS _, ow_nilS _, H8.out.2.2⟩
    · have HL3 : Hid (Y = (l, n, 0)) := by have := HL2.out; rw [if_neg hn] at this; exact this
      have hnI : ¬ (n : Int) = 0 := by omega
      have hnB : ((n : Int) == 0) = false := by rw [beq_eq_false_iff_ne]; exact hnI
      go_upto_region 8 with fail
      refine wp_region_held_drew (S := fun W => W.cell? ⟨w1.heap.size, 4, none⟩ = some (.int .i64 (n : Int)) ∧ W.cell? ⟨w1.heap.size, 5, none⟩ = some (.slice ad m cp)) (by kernel_rfl) ⟨z4, z5⟩ (fun HS => ?_)
      have H9 : Hid (Bs w8.drew (.slice ad m cp) l ∧ Ow w.heap.size (.slice ad m cp) ∧ Below w.heap.size w w8.drew) := ⟨H8.out.1.later (Below.refl _ _).drew, H8.out.2.1, H8.out.2.2.drew⟩
      clear H8 z4 z5
      generalize w8.drew = q0 at *
      refine wpAnyH_take (i := 0) (v := ?v1) rfl (by kernel_rfl) (by kernel_rfl) (by kernel_rfl) (fun _ _ _ h => h) (Or.inl ⟨by kernel_rfl, ?h1⟩) HS ?r1
      case h1 => (rintro w ⟨n0, n1⟩; go_simp) <;> with_reducible rfl
      try simp only [Act.put, List.getElem_toArray, List.getElem_cons_succ, List.getElem_cons_zero, List.setIfInBounds_toArray, List.set_cons_zero, List.set_cons_succ]
      refine wpAnyH_take (i := 1) (v := ?v2) rfl (by kernel_rfl) (by kernel_rfl) (by kernel_rfl) (fun _ _ _ h => h) (Or.inl ⟨by kernel_rfl, ?h2⟩) HS ?r2
      case h2 => (rintro w ⟨n0, n1⟩; go_simp) <;> with_reducible rfl
      try simp only [Act.put, List.getElem_toArray, List.getElem_cons_succ, List.getElem_cons_zero, List.setIfInBounds_toArray, List.set_cons_zero, List.set_cons_succ]
      refine wpAnyH_take (i := 2) (v := ?v3) rfl (by kernel_rfl) (by kernel_rfl) (by kernel_rfl) (fun _ _ _ h => h) (Or.inl ⟨by kernel_rfl, ?h3⟩) HS ?r3
      case h3 => (rintro w ⟨n0, n1⟩; go_simp) <;> with_reducible rfl
      try simp only [Act.put, List.getElem_toArray, List.getElem_cons_succ, List.getElem_cons_zero, List.setIfInBounds_toArray, List.set_cons_zero, List.set_cons_succ]
      refine wpAnyH_take (i := 3) (v := ?v4) rfl (by kernel_rfl) (by kernel_rfl) (by kernel_rfl) (fun _ _ _ h => h) (Or.inl ⟨by kernel_rfl, ?h4⟩) HS ?r4
      case h4 => (rintro w ⟨n0, n1⟩; go_simp) <;> with_reducible rfl
      try simp only [Act.put, List.getElem_toArray, List.getElem_cons_succ, List.getElem_cons_zero, List.setIfInBounds_toArray, List.set_cons_zero, List.set_cons_succ]
      refine wpAnyH_take (i := 4) (v := ?v5) rfl (by kernel_rfl) (by kernel_rfl) (by kernel_rfl) (fun _ _ _ h => h) (Or.inl ⟨by kernel_rfl, ?h5⟩) HS ?r5
      case h5 => (rintro w ⟨n0, n1⟩; go_simp) <;> with_reducible rfl
      try simp only [Act.put, List.getElem_toArray, List.getElem_cons_succ, List.getElem_cons_zero, List.setIfInBounds_toArray, List.set_cons_zero, List.set_cons_succ]
      refine wpAnyH_take (i := 5) (v := ?v6) rfl (by kernel_rfl) (by kernel_rfl) (by kernel_rfl) (fun _ _ _ h => h) (Or.inl ⟨by kernel_rfl, ?h6⟩) HS ?r6
      case h6 => (rintro w ⟨n0, n1⟩; go_simp) <;> with_reducible rfl
      try simp only [Act.put, List.getElem_toArray, List.getElem_cons_succ, List.getElem_cons_zero, List.setIfInBounds_toArray, List.set_cons_zero, List.set_cons_succ]
      refine wpAnyH_take (i := 6) (v := ?v7) rfl (by kernel_rfl) (by kernel_rfl) (by kernel_rfl) (fun _ _ _ h => h) (Or.inl ⟨by kernel_rfl, ?h7⟩) HS ?r7
      case h7 => (rintro w ⟨n0, n1⟩; go_simp) <;> with_reducible rfl
      try simp only [Act.put, List.getElem_toArray, List.getElem_cons_succ, List.getElem_cons_zero, List.setIfInBounds_toArray, List.set_cons_zero, List.set_cons_succ]
      refine wpAnyH_done (by kernel_rfl) ?_ _
      clear HS
      go_wp2_with fail
      go_ret3
      rw [HL3.out]
      exact ⟨_, rfl, H9.out⟩
  · have HL2 : Hid (Y = ([], 0, er)) := by have := HL.out; rw [if_pos he] at this; exact this
    have heI : ¬ (er : Int) = 0 := by omega
    have heB : ((er : Int) == 0) = false := by rw [beq_eq_false_iff_ne]; exact heI
    have heC : ((er : Int) != 0) = true := by rw [bne_iff_ne]; exact heI
    clear HL
    go_upto_region 4 with (first
      | (refine alV rfl 128 tz16 hz rfl ?_; intro w7 hV7 hB7 hS7)
      | (refine stV rfl 128 _ _ rfl w1.heap.size tz16 (txC q0 q1 q2 q3 (n : Int) (.slice ad m cp)) rfl rfl hV7 rfl sz_tx16 (txC_one _ _ _ _ _ _ _ _) ?_; intro w8 hV8 hK8 hS8))
    have hb8 : Below w1.heap.size w1 w8 := hK8.next hB7 (fun i hi => by omega) hB7.size
    have H8 : Hid (Below w.heap.size w w8) := bchain H1.out.2.2 hb8
    clear hV7 hB7 hS7 hV8 hK8 hS8 hb8 H1 hz
    go_wp2_with fail
    go_ret3
    rw [HL2.out]
    exact ⟨.slice none 0 0, rfl, bs_nilS _, ow_nilS _, H8.out⟩
end Go.Proofs.YthnpdcblfocemaaGreatDoor
