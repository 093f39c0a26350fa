/-
  Texts of this proof, joined: NWalkK.
-/
import Derived.Test.YtcaficenocblfaaGreatDoorSU14
import Derived.Test.YtcaficenocblfaaGreatDoorSU15
import Derived.Test.YtcaficenocblfaaGreatDoorSU16
set_option linter.unusedVariables false
set_option linter.unusedSimpArgs false
namespace Go.Proofs.YtcaficenocblfaaGreatDoor
open Go.RowKit

set_option maxRecDepth 100000 in
set_option maxHeartbeats 32000000 in
theorem gradient_sq (vs vx vt : Value) (m b o cp cap : Nat) (z : Nat → Nat) (P x t : Nat → Int) (p : Option Addr) (c : Int) (c0 : 0 ≤ c) (c1 : c ≤ 500000000) (w : World) (hS : Ar w vs m (fun i => ((z i : Nat) : Int))) (hP : Ar w (.slice (some ⟨b, o, none⟩) cp cap) cp P) (hX : Ar w vx (z 0) x) (hT : Ar w vt (z (m - 1)) t) (hz : Szs z m) (hcp : cp = fsN z (m - 1)) (nS : Nv vs p) (nP : Nu b p) (nX : Nv vx p) (nT : Nv vt p) (hp : Up p c w) (hTab : TabAt w) :
    Calls Tryz.prog 17 #[.pointer p, .iface 90 (.agg #[]), vs, .slice (some ⟨b, o, none⟩) cp cap, .agg #[vx, vt]] w fun e w' => ∃ g, e = .returned (.tuple #[.slice (some ⟨g, 0, none⟩) cp cp, .int .i64 (gdX true z m P x t)]) ∧ Ar w' (.slice (some ⟨g, 0, none⟩) cp cp) cp (gdG true z m P x t) ∧ w.heap.size ≤ g ∧ Ux p (c + gdC true z m P x t) w w' := by
  obtain ⟨m2, m6, hz6⟩ := id hz
  have hcpB : cp ≤ 20800 := by have := fsN_le z m (m - 1) hz6 (by omega); omega
  have hcp2 : 2 ≤ cp := by have h1 := fsN_mono z (show 1 ≤ m - 1 by omega); have h2 := (lyN_le z m 0 hz6 (by omega)).2; have h3 : fsN z 1 = 0 + lyN z 0 := rfl; omega
  obtain ⟨hcc1, hcc2⟩ : cp ≤ cap ∧ cap ≤ maxLen := by obtain ⟨_, _, _, _, e, h2, h3, _⟩ := hP; cases e; exact ⟨h2, h3⟩
  obtain ⟨zn1, zn2⟩ := hz6 (m - 1) (by omega)
  have hvC := vC_rng z m P x (m - 1) (fun i hi => (hz6 i hi).2) (by omega)
  obtain ⟨V, hV⟩ : ∃ V, vN z m P x = V := ⟨_, rfl⟩
  obtain ⟨Sf, hSf⟩ : ∃ Sf, gdS true z m P x t = Sf := ⟨_, rfl⟩
  have HS0 : Hid (slX true (V (m - 1)) t = Sf (m - 2)) := by show _ = _; rw [← hSf, ← hV]; unfold gdS; rw [sL_last]
  have HSt : Hid (∀ l, l + 2 < m → Sf l = ahX z P (Sf (l + 1)) (V (l + 1)) (l + 1)) := fun l hl => by rw [← hSf, ← hV]; unfold gdS; exact sL_step _ _ _ _ _ l hl
  have HSr : Hid (∀ l i, -9223372036854775808 ≤ Sf l i ∧ Sf l i ≤ 9223372036854775807) := fun l i => by rw [← hSf]; exact sL_rng _ _ _ _ _ (fun i => slX_rng _ _ _ _) _ _
  have HgC : Hid (gdC true z m P x t = vC z m P x (m - 1) + lsC true (V (m - 1)) t (z (m - 1)) + slC true (V (m - 1)) t (z (m - 1)) + bkC z m P V Sf (m - 1)) := by show _ = _; rw [← hSf, ← hV]; rfl
  have HgX : Hid (gdX true z m P x t = lsX true (V (m - 1)) t (z (m - 1))) := by show _ = _; rw [← hV]; rfl
  have HgG : Hid (∀ G, Grd z m V Sf G → ∀ j, j < cp → G j = gdG true z m P x t j) := fun G hG j hj => by
    unfold gdG
    rw [hV, hSf]
    exact hG.one (fun i hi => (hz6 i hi).1) (grd_all z m _ _) j (by omega)
  have hlC := lsC_rng true (V (m - 1)) t (z (m - 1))
  have hsC := slC_rng true (V (m - 1)) t (z (m - 1))
  have HbC : Hid (∀ k, k + 1 ≤ m → 0 ≤ bkC z m P V Sf k ∧ bkC z m P V Sf k ≤ 4160 * (k : Int)) := fun k hk => bkC_rng z m P V Sf k (fun i hi => (hz6 i hi).2) hk
  have HbS : Hid (∀ k, bkC z m P V Sf (k + 1) = bkC z m P V Sf k + grC (Sf (m - 2 - k)) (V (m - 2 - k)) (z (m - 2 - k)) (z (m - 1 - k)) + (if m - 2 - k = 0 then 0 else cntV (ahO z P (Sf (m - 2 - k)) (V (m - 2 - k)) (m - 2 - k)) (z (m - 2 - k)))) := fun k => rfl
  have HgR : Hid (∀ l u, l < m → 0 ≤ grC (Sf l) (V l) (z l) u ∧ grC (Sf l) (V l) (z l) u ≤ 64 * (u : Int)) := fun l u hl => grC_rng _ _ _ _ (hz6 l hl).2
  have HUp : Hid (Up p c w ∧ TabAt w) := ⟨hp, hTab⟩
  have HNw : Hid (∀ g, w.heap.size ≤ g → Nu g p) := fun g hg => hp.lt hg
  have HLy : Hid (∀ W : World, Below w.heap.size w W → Calls Tryz.prog 28 #[vs, .slice (some ⟨b, o, none⟩) cp cap] W fun e w' => ∃ g cL, e = .returned (.slice (some ⟨g, 0, none⟩) (m - 1) cL) ∧ Lyr w' (.slice (some ⟨g, 0, none⟩) (m - 1) cL) (m - 1) z b o cap ∧ W.heap.size ≤ g ∧ Below W.heap.size W w') := fun W hb => layersOf_any vs m b o cp cap z W (hS.later hb) hz hcp hcc1 hcc2
  have HLg : Hid (∀ (g : Nat) (c2 : Int) (W : World), Ux p c2 w W → Calls Tryz.prog 28 #[vs, .slice (some ⟨g, 0, none⟩) cp cp] W fun e w' => ∃ q cL, e = .returned (.slice (some ⟨q, 0, none⟩) (m - 1) cL) ∧ Lyr w' (.slice (some ⟨q, 0, none⟩) (m - 1) cL) (m - 1) z g 0 cp ∧ W.heap.size ≤ q ∧ Below W.heap.size W w') := fun g c2 W hU => layersOf_any vs m g 0 cp cp z W (hS.ux nS hU) hz hcp (Nat.le_refl _) (by unfold maxLen; omega)
  have HFw : Hid (∀ (vL : Value) (W : World), Below w.heap.size w W → Lyr W vL (m - 1) z b o cap → Nv vL p → Calls Tryz.prog 29 #[.pointer p, vL, vx] W fun e w' => ∃ v', e = .returned v' ∧ Vls W.heap.size w' v' m z V ∧ Ux p (c + vC z m P x (m - 1)) W w') := fun vL W hb hL nL => by rw [← hV]; exact forward_any vL vx m b o cp cap z P x p c c0 (by omega) W hL nL (hP.later hb) nP (hX.later hb) nX hz hcp (hp.later hb) (hTab.later hb)
  have HP : Hid (Ar w (.slice (some ⟨b, o, none⟩) cp cap) cp P ∧ Nv (.slice (some ⟨b, o, none⟩) cp cap) p) := ⟨hP, nP.nv _ _ _⟩
  have HTt : Hid (Ar w vt (z (m - 1)) t ∧ Nv vt p) := ⟨hT, nT⟩
  have HSz : Hid (Szs z m ∧ cp = fsN z (m - 1) ∧ cp ≤ cap ∧ cap ≤ maxLen) := ⟨hz, hcp, hcc1, hcc2⟩
  have HZ6 : Hid (∀ i, i < m → 1 ≤ z i ∧ z i ≤ 64) := hz6
  have HVr : Hid (∀ l u, u < z l → -9223372036854775808 ≤ V l u ∧ V l u ≤ 9223372036854775807) := fun l u hu => by rw [← hV]; exact vN_rng z m P x l u hX.rng hu
  rw [HgC.out, HgX.out]
  clear hV hSf HgC HgX
  generalize hvc : vC z m P x (m - 1) = vc at *
  clear hvc
  have Hls : Hid (∀ (W : World) (va : Value), Ar W va (z (m - 1)) (V (m - 1)) → Nv va p → Ux p (c + vc) w W → Calls Tryz.prog 160 #[.agg #[], .pointer p, va, vt] W fun e w' => e = .returned (.int .i64 (lsX true (V (m - 1)) t (z (m - 1)))) ∧ Ux p (c + vc + lsC true (V (m - 1)) t (z (m - 1))) W w') := fun W va h1 h2 h3 => sqFar_ux va vt _ _ _ (by omega) p (c + vc) (by omega) (by omega) W h1 (hT.ux nT h3) h2 nT h3.up (hTab.ux hp h3)
  have Hsl : Hid (∀ (W : World) (va : Value), Ar W va (z (m - 1)) (V (m - 1)) → Nv va p → Ux p (c + vc + lsC true (V (m - 1)) t (z (m - 1))) w W → Calls Tryz.prog 161 #[.agg #[], .pointer p, va, vt] W fun e w' => ∃ v', e = .returned v' ∧ Ar w' v' (z (m - 1)) (Sf (m - 2)) ∧ Ow W.heap.size v' ∧ Ux p (c + vc + lsC true (V (m - 1)) t (z (m - 1)) + slC true (V (m - 1)) t (z (m - 1))) W w') := fun W va h1 h2 h3 => by
    rw [← HS0.out]
    exact sqSlope_ux va vt _ _ _ (by omega) p (c + vc + lsC true (V (m - 1)) t (z (m - 1))) (by omega) (by omega) W h1 (hT.ux nT h3) h2 nT h3.up
  obtain ⟨c5, hc5⟩ : ∃ c5, c + vc + lsC true (V (m - 1)) t (z (m - 1)) + slC true (V (m - 1)) t (z (m - 1)) = c5 := ⟨_, rfl⟩
  have Hc5 : Hid (c + (vc + lsC true (V (m - 1)) t (z (m - 1)) + slC true (V (m - 1)) t (z (m - 1)) + bkC z m P V Sf (m - 1)) = c5 + bkC z m P V Sf (m - 1)) := by show _ = _; omega
  have hc50 : 0 ≤ c5 ∧ c5 ≤ 510000000 := by omega
  rw [Hc5.out]
  rw [hc5] at Hsl
  clear hc5 Hc5 hlC hsC hvC
  generalize lsC true (V (m - 1)) t (z (m - 1)) = lc at *
  generalize slC true (V (m - 1)) t (z (m - 1)) = sc at *
  generalize lsX true (V (m - 1)) t (z (m - 1)) = lx at *
  obtain ⟨ads, cas, bs, os, rfl, k1, k2, -, -⟩ := hS
  obtain ⟨adx, cax, bx, ox, rfl, -, -, -, -⟩ := hX
  obtain ⟨adt, cat, bt, ot, rfl, -, -, -, -⟩ := hT
  obtain ⟨w1, hw1⟩ : ∃ w1, w1 = w.alloc (.cells #[.slice adx (z 0) cax, .slice adt (z (m - 1)) cat] 42) := ⟨_, rfl⟩
  have HB1 : Hid (Below w.heap.size w w1) := by rw [hw1]; exact bel1 _ _
  have HX1 : Hid (B2 w.heap.size (.slice adx (z 0) cax) (.slice adt (z (m - 1)) cat) w1) := by rw [hw1]; exact B2.new w _ _ _
  have hs1 : w1.heap.size = w.heap.size + 1 := by rw [hw1, World.size_alloc]
  have hmk := make_fx cp (by omega)
  have nW : Nu w.heap.size p := HNw.out _ (Nat.le_refl _)
  obtain ⟨M, hM⟩ : ∃ M, m - 1 = M := ⟨_, rfl⟩
  have HM : Hid (m = M + 1 ∧ 1 ≤ M ∧ M ≤ 5) := by show _ ∧ _; omega
  have wM1 : IntKind.i64.wrap ((M : Int) - 1) = (M : Int) - 1 := by rw [IntKind.wrap_i64]; omega
  clear nS nP nX nT hp hTab hz hz6 hcp hcc1 hcc2 hP
  rw [hM] at HX1 HTt HSz HLy HLg HFw Hls Hsl hw1 ⊢
  rw [show m - 2 = M - 1 by omega] at Hsl
  have hM1 : 1 ≤ M := by omega
  have hM5 : M ≤ 5 := by omega
  have hMm : M < m := by omega
  rw [hM] at zn1 zn2
  go_enter Tryz.func17, Tryz.ntmps17
  go_upto_region 1 with fail
  rw [← hw1]
  clear hw1
  go_wp2_with fail
  refine (HLy.out _ HB1.out).mono ?_
  rintro e w2 ⟨gL, cL, rfl, hLy, hgL, h2⟩
  have HB2 : Hid (Below w.heap.size w w2) := bchain HB1.out h2
  have HX2 : Hid (B2 w.heap.size (.slice adx (z 0) cax) (.slice adt (z M) cat) w2) := HX1.out.later h2
  have HL2 : Hid (Lyr w2 (.slice (some ⟨gL, 0, none⟩) M cL) M z b o cap) := hLy
  have nL : Nu gL p := HNw.out _ (by omega)
  have CF := HFw.out _ w2 HB2.out hLy (nL.nv _ _ _)
  have y0 := HX2.out.c0
  have hs2 := h2.size
  clear hLy h2 HB1 HX1 HLy HFw
  go_wp2_with fail
  refine CF.mono ?_
  rintro e w3 ⟨vV, rfl, hVl, h3⟩
  have HU3 : Hid (Ux p (c + vc) w w3) := (HUp.out.1.ux HB2.out).chain h3
  have HX3 : Hid (w3.cell? ⟨w.heap.size, 1, none⟩ = some (.slice adt (z M) cat)) := h3.cell nW HX2.out.c1
  have hLc : ∀ k, k < M → w3.cell? ⟨gL, k * 4, none⟩ = some (.int .i64 ((z (k + 1) : Nat) : Int)) ∧ w3.cell? ⟨gL, k * 4 + 1, none⟩ = some (.int .i64 ((z k : Nat) : Int)) ∧ w3.cell? ⟨gL, k * 4 + 2, none⟩ = some (lyA b o cap z k) ∧ w3.cell? ⟨gL, k * 4 + 3, none⟩ = some (lyB b o cap z k) := fun k hk => by
    obtain ⟨g', c', e, -, -, h⟩ := HL2.out
    cases e
    obtain ⟨a1, a2, a3, a4⟩ := h k hk
    exact ⟨h3.cell nL a1, h3.cell nL a2, h3.cell nL a3, h3.cell nL a4⟩
  have HLc : Hid _ := hLc
  have hcL : M ≤ cL ∧ cL ≤ maxLen := by obtain ⟨g', c', e, a1, a2, -⟩ := HL2.out; cases e; exact ⟨a1, a2⟩
  obtain ⟨gV, cV, rfl, v1, v2, v3, v4⟩ := hVl
  have HVc : Hid (∀ k, k < m → ∃ va : Value, w3.cell? ⟨gV, k, none⟩ = some va ∧ Ar w3 va (z k) (V k) ∧ Ow w2.heap.size va ∧ Nb va gV) := v4
  have nV : Nu gV p := HNw.out _ (by omega)
  obtain ⟨vy, hvy, hAy, hOy, -⟩ := v4 M hMm
  obtain ⟨ady, cay, by', oy, rfl, -, -, -, -⟩ := id hAy
  have hNy : Nv (.slice ady (z M) cay) p := HUp.out.1.ow (fun a n cap e h0 => by have := hOy a n cap e h0; omega)
  have hs3 := h3.size
  clear CF h3 HB2 HX2 HL2 y0 v4 hLc
  unfold maxLen at v2 hcL
  have hMI : (M : Int) < (m : Int) := by omega
  go_upto_region 4 with fail
  have HU4 : Hid (Ux p (c + vc) w w3.drew) := HU3.out.drew
  have y1 : w3.drew.cell? ⟨w.heap.size, 1, none⟩ = some (.slice adt (z M) cat) := HX3.out
  have CFa := Hls.out w3.drew _ (hAy.later (Below.refl _ _).drew) hNy HU4.out
  refine wp_region_held_drew (S := fun W' => W'.cell? ⟨w.heap.size, 1, none⟩ = some (.slice adt (z M) cat)) (by kernel_rfl) y1 (fun HS => ?_)
  have hDr : Below w3.heap.size w3 w3.drew := (Below.refl _ _).drew
  clear y1
  refine wpAnyH_take (i := 0) (v := ?v1) rfl (by kernel_rfl) (by kernel_rfl) (by kernel_rfl) (fun _ _ _ h => h) (Or.inl ⟨by kernel_rfl, ?h1⟩) HS ?r1
  case h1 => (rintro w s1; go_simp) <;> with_reducible rfl
  try simp only [Act.put, List.getElem_toArray, List.getElem_cons_succ, List.getElem_cons_zero, List.setIfInBounds_toArray, List.set_cons_zero, List.set_cons_succ]
  refine wpAnyH_take (i := 1) (v := ?v2) rfl (by kernel_rfl) (by kernel_rfl) (by kernel_rfl) (fun _ _ _ h => h) (Or.inl ⟨by kernel_rfl, ?h2⟩) HS ?r2
  case h2 => (rintro w s1; go_simp) <;> with_reducible rfl
  try simp only [Act.put, List.getElem_toArray, List.getElem_cons_succ, List.getElem_cons_zero, List.setIfInBounds_toArray, List.set_cons_zero, List.set_cons_succ]
  refine wpAnyH_take (i := 2) (v := ?v3) rfl (by kernel_rfl) (by kernel_rfl) (by kernel_rfl) (fun _ _ _ h => h) (Or.inl ⟨by kernel_rfl, ?h3⟩) HS ?r3
  case h3 => (rintro w s1; go_simp) <;> with_reducible rfl
  try simp only [Act.put, List.getElem_toArray, List.getElem_cons_succ, List.getElem_cons_zero, List.setIfInBounds_toArray, List.set_cons_zero, List.set_cons_succ]
  refine wpAnyH_take (i := 3) (v := ?v4) rfl (by kernel_rfl) (by kernel_rfl) (by kernel_rfl) (fun _ _ _ h => h) (Or.inl ⟨by kernel_rfl, ?h4⟩) HS ?r4
  case h4 => (rintro w s1; go_simp) <;> with_reducible rfl
  try simp only [Act.put, List.getElem_toArray, List.getElem_cons_succ, List.getElem_cons_zero, List.setIfInBounds_toArray, List.set_cons_zero, List.set_cons_succ]
  refine wpAnyH_take (i := 4) (v := ?v5) rfl (by kernel_rfl) (by kernel_rfl) (by kernel_rfl) (fun _ _ _ h => h) (Or.inl ⟨by kernel_rfl, ?h5⟩) HS ?r5
  case h5 => (rintro w s1; go_simp) <;> with_reducible rfl
  try simp only [Act.put, List.getElem_toArray, List.getElem_cons_succ, List.getElem_cons_zero, List.setIfInBounds_toArray, List.set_cons_zero, List.set_cons_succ]
  refine wpAnyH_take (i := 6) (v := ?v6) rfl (by kernel_rfl) (by kernel_rfl) (by kernel_rfl) (fun _ _ _ h => h) (Or.inl ⟨by kernel_rfl, ?h6⟩) HS ?r6
  case h6 => (rintro w s1; go_simp) <;> with_reducible rfl
  try simp only [Act.put, List.getElem_toArray, List.getElem_cons_succ, List.getElem_cons_zero, List.setIfInBounds_toArray, List.set_cons_zero, List.set_cons_succ]
  refine wpAnyH_take (i := 7) (v := ?v7) rfl (by kernel_rfl) (by kernel_rfl) (by kernel_rfl) (fun _ _ _ h => h) (Or.inl ⟨by kernel_rfl, ?h7⟩) HS ?r7
  case h7 => (rintro w s1; go_simp) <;> with_reducible rfl
  try simp only [Act.put, List.getElem_toArray, List.getElem_cons_succ, List.getElem_cons_zero, List.setIfInBounds_toArray, List.set_cons_zero, List.set_cons_succ]
  refine wpAnyH_take (i := 8) (v := ?v8) rfl (by kernel_rfl) (by kernel_rfl) (by kernel_rfl) (fun _ _ _ h => h) (Or.inl ⟨by kernel_rfl, ?h8⟩) HS ?r8
  case h8 => (rintro w s1; go_simp) <;> with_reducible rfl
  try simp only [Act.put, List.getElem_toArray, List.getElem_cons_succ, List.getElem_cons_zero, List.setIfInBounds_toArray, List.set_cons_zero, List.set_cons_succ]
  refine wpAnyH_take (i := 9) (v := ?v9) rfl (by kernel_rfl) (by kernel_rfl) (by kernel_rfl) (fun _ _ _ h => h) (Or.inl ⟨by kernel_rfl, ?h9⟩) HS ?r9
  case h9 => (rintro w s1; go_simp) <;> with_reducible rfl
  try simp only [Act.put, List.getElem_toArray, List.getElem_cons_succ, List.getElem_cons_zero, List.setIfInBounds_toArray, List.set_cons_zero, List.set_cons_succ]
  refine wpAnyH_take (i := 10) (v := ?v10) rfl (by kernel_rfl) (by kernel_rfl) (by kernel_rfl) (fun _ _ _ h => h) (Or.inl ⟨by kernel_rfl, ?h10⟩) HS ?r10
  case h10 => (rintro w s1; go_simp) <;> with_reducible rfl
  try simp only [Act.put, List.getElem_toArray, List.getElem_cons_succ, List.getElem_cons_zero, List.setIfInBounds_toArray, List.set_cons_zero, List.set_cons_succ]
  refine wpAnyH_ready (rs := [5]) (by kernel_rfl) (by simp) ?_
  refine AllReadyH.cons rfl (fun K hK => ?_) AllReadyH.nil
  go_simp
  refine CFa.mono ?_
  rintro e w4 ⟨rfl, h4⟩
  refine hK.out _ _ (h4.cell nW HS) (fun HS => ?_)
  clear hK K
  have HU5 : Hid (Ux p (c + vc + lc) w w4) := HU4.out.chain h4
  have h34 : Ux p (c + vc + lc) w3 w4 := (HU3.out.up.ux hDr).chain h4
  have CSl := Hsl.out w4 _ (hAy.ux hNy h34) hNy HU5.out
  refine wpAnyH_ready (rs := [11]) (by kernel_rfl) (by simp) ?_
  refine AllReadyH.cons rfl (fun K hK => ?_) AllReadyH.nil
  go_simp
  refine CSl.mono ?_
  rintro e w5 ⟨v5, rfl, hA5, hO5, h5⟩
  refine hK.out _ _ (h5.cell nW HS) (fun HS => ?_)
  clear hK K
  obtain ⟨ad5, ca5, b5, o5, rfl, -, -, -, -⟩ := id hA5
  refine wpAnyH_take (i := 12) (v := ?v11) rfl (by kernel_rfl) (by kernel_rfl) (by kernel_rfl) (fun _ _ _ h => h) (Or.inl ⟨by kernel_rfl, ?h11⟩) HS ?r11
  case h11 => (rintro w s1; go_simp) <;> with_reducible rfl
  try simp only [Act.put, List.getElem_toArray, List.getElem_cons_succ, List.getElem_cons_zero, List.setIfInBounds_toArray, List.set_cons_zero, List.set_cons_succ]
  refine wpAnyH_take (i := 13) (v := ?v12) rfl (by kernel_rfl) (by kernel_rfl) (by kernel_rfl) (fun _ _ _ h => h) (Or.inl ⟨by kernel_rfl, ?h12⟩) HS ?r12
  case h12 => (rintro w s1; go_simp) <;> with_reducible rfl
  try simp only [Act.put, List.getElem_toArray, List.getElem_cons_succ, List.getElem_cons_zero, List.setIfInBounds_toArray, List.set_cons_zero, List.set_cons_succ]
  refine wpAnyH_done (by kernel_rfl) ?_ _
  have HU6 : Hid (Ux p c5 w w5) := HU5.out.chain h5
  have h35 : Ux p c5 w3 w5 := h34.chain h5
  have hs4 := HU5.out.size
  have H5 : Hid (Ar w5 (.slice ad5 (z M) ca5) (z M) (Sf (M - 1)) ∧ Nv (.slice ad5 (z M) ca5) p) := ⟨hA5, HUp.out.1.ow (fun a n cap e h0 => by have := hO5 a n cap e h0; omega)⟩
  have HLc5 : Hid (∀ k, k < M → w5.cell? ⟨gL, k * 4, none⟩ = some (.int .i64 ((z (k + 1) : Nat) : Int)) ∧ w5.cell? ⟨gL, k * 4 + 1, none⟩ = some (.int .i64 ((z k : Nat) : Int)) ∧ w5.cell? ⟨gL, k * 4 + 2, none⟩ = some (lyA b o cap z k) ∧ w5.cell? ⟨gL, k * 4 + 3, none⟩ = some (lyB b o cap z k)) := fun k hk => by
    obtain ⟨a1, a2, a3, a4⟩ := HLc.out k hk
    exact ⟨h35.cell nL a1, h35.cell nL a2, h35.cell nL a3, h35.cell nL a4⟩
  have HVc5 : Hid (∀ k, k < m → ∃ va : Value, w5.cell? ⟨gV, k, none⟩ = some va ∧ Ar w5 va (z k) (V k) ∧ Nv va p) := fun k hk => by
    obtain ⟨va, a1, a2, a3, -⟩ := HVc.out k hk
    have hn : Nv va p := HUp.out.1.ow (fun a n cap e h0 => by have := a3 a n cap e h0; omega)
    exact ⟨va, h35.cell nV a1, a2.ux hn h35, hn⟩
  have hgL5 : gL < w5.heap.size := by have := World.block_lt_of_cell? _ _ (HLc5.out 0 (by omega)).1; dsimp only at this; exact this
  have hgV5 : gV < w5.heap.size := by obtain ⟨va, a1, -, -⟩ := HVc5.out 0 (by omega); have := World.block_lt_of_cell? _ _ a1; dsimp only at this; exact this
  clear HS CFa CSl hDr h4 h5 h34 h35 hA5 hO5 hAy hOy hvy HLc HVc HU3 HU4 HU5 HX3
  obtain ⟨gG, hgG⟩ : ∃ g, w5.heap.size = g := ⟨_, rfl⟩
  obtain ⟨w6, hw6⟩ : ∃ w6, w6 = w5.alloc (.cells (madeCells #[.int .i64 0] cp) 36) := ⟨_, rfl⟩
  have hb6 : Below w5.heap.size w5 w6 := by rw [hw6]; exact bel1 _ _
  have HR6 : Rw gG cp (fun j => .int .i64 ((fun _ => (0 : Int)) j)) w6 := by rw [hw6, ← hgG]; exact Rw.made w5 (.int .i64 0) cp 36
  have HU7 : Ux p c5 w w6 := HU6.out.later hb6
  have CQ := HLg.out gG c5 w6 HU7
  have hs6 : w6.heap.size = gG + 1 := by rw [hw6, World.size_alloc, hgG]
  have nG : Nu gG p := HNw.out _ (by have := HU6.out.size; omega)
  go_upto_region 6 with fail
  rw [← hw6]
  try rw [hgG]
  clear hw6 hmk
  go_wp2_with fail
  refine CQ.mono ?_
  rintro e w7 ⟨gQ, cQ, rfl, hLq, hgQ, h7⟩
  have HR7 : Hid (Rw gG cp (fun j => .int .i64 ((fun _ => (0 : Int)) j)) w7) := HR6.later h7
  have h57 : Below w5.heap.size w5 w7 := bchain hb6 h7
  have HU7' : Hid (Ux p c5 w w7) := HU7.later h7
  have nQ : Nu gQ p := HNw.out _ (by have := HU7.size; omega)
  have hcQ : M ≤ cQ ∧ cQ ≤ maxLen := by obtain ⟨g', c', e, a1, a2, -⟩ := id hLq; cases e; exact ⟨a1, a2⟩
  unfold maxLen at hcQ
  have HQc : Hid (∀ k, k < M → w7.cell? ⟨gQ, k * 4, none⟩ = some (.int .i64 ((z (k + 1) : Nat) : Int)) ∧ w7.cell? ⟨gQ, k * 4 + 1, none⟩ = some (.int .i64 ((z k : Nat) : Int)) ∧ w7.cell? ⟨gQ, k * 4 + 2, none⟩ = some (lyA gG 0 cp z k) ∧ w7.cell? ⟨gQ, k * 4 + 3, none⟩ = some (lyB gG 0 cp z k)) := by obtain ⟨g', c', e, -, -, h⟩ := hLq; cases e; exact h
  have HLc7 : Hid (∀ k, k < M → w7.cell? ⟨gL, k * 4, none⟩ = some (.int .i64 ((z (k + 1) : Nat) : Int)) ∧ w7.cell? ⟨gL, k * 4 + 1, none⟩ = some (.int .i64 ((z k : Nat) : Int)) ∧ w7.cell? ⟨gL, k * 4 + 2, none⟩ = some (lyA b o cap z k) ∧ w7.cell? ⟨gL, k * 4 + 3, none⟩ = some (lyB b o cap z k)) := fun k hk => by
    obtain ⟨a1, a2, a3, a4⟩ := HLc5.out k hk
    exact ⟨cell_later h57 a1, cell_later h57 a2, cell_later h57 a3, cell_later h57 a4⟩
  have HVc7 : Hid (∀ k, k < m → ∃ va : Value, w7.cell? ⟨gV, k, none⟩ = some va ∧ Ar w7 va (z k) (V k) ∧ Nv va p ∧ Nb va gG) := fun k hk => by
    obtain ⟨va, a1, a2, a3⟩ := HVc5.out k hk
    exact ⟨va, cell_later h57 a1, a2.later h57, a3, a2.spare (by omega)⟩
  have H7 : Hid (Ar w7 (.slice ad5 (z M) ca5) (z M) (Sf (M - 1)) ∧ Nv (.slice ad5 (z M) ca5) p ∧ Nb (.slice ad5 (z M) ca5) gG) := ⟨H5.out.1.later h57, H5.out.2, H5.out.1.spare (by omega)⟩
  have HP7 : Hid (Ar w7 (.slice (some ⟨b, o, none⟩) cp cap) cp P ∧ Nb (.slice (some ⟨b, o, none⟩) cp cap) gG) := ⟨HP.out.1.ux HP.out.2 HU7'.out, HP.out.1.spare (by have := HU6.out.size; omega)⟩
  have HT7 : Hid (TabAt w7) := HUp.out.2.ux HUp.out.1 HU7'.out
  have hgG7 : gG < w7.heap.size := by have := h7.size; omega
  have hwG : w.heap.size ≤ gG := by have := HU6.out.size; omega
  clear hLq h7 h57 hb6 CQ HR6 HU7 HU6 HLc5 HVc5 H5 HLg
  go_upto_region 8 with fail
  go_loopw [16, 54] (fun s16 si wr => ∃ (k : Nat) (F : Nat → Int), k ≤ M ∧ si = .int .i64 (k : Int) ∧ Hid (Rw gG cp (fun j => .int .i64 (F j)) wr) ∧ Hid (GrL z m V Sf (M - k) F) ∧ Hid (∀ j, -9223372036854775808 ≤ F j ∧ F j ≤ 9223372036854775807) ∧ Hid (Uy p (c5 + bkC z m P V Sf k) gG w7 wr) ∧ Hid (k < M → Ar wr s16 (z (M - k)) (Sf (M - 1 - k)) ∧ Nv s16 p ∧ Nb s16 gG)) (fun _ si _ => M - (intOf si).toNat)
  case atStart =>
    refine ⟨0, fun _ => 0, by omega, rfl, HR7, grL_none _ _ _ _ _ _ (by omega), fun _ => ⟨by show (-9223372036854775808 : Int) ≤ 0; omega, by show (0 : Int) ≤ 9223372036854775807; omega⟩, ?_, fun _ => H7.out⟩
    show Uy p (c5 + 0) gG w7 w7
    rw [Int.add_zero]
    exact HU7'.out.up.same.uy gG
  case round =>
    rename World => wo
    obtain ⟨k, F, hk, rfl, HRo, HGo, HFo, HYo, Hso⟩ := hrel
    by_cases hlt : k < M
    · obtain ⟨l, hl⟩ : ∃ l, l + 1 + k = M := ⟨M - 1 - k, by omega⟩
      have hkI : (k : Int) < (M : Int) := by omega
      have wl : IntKind.i64.wrap ((M : Int) - 1 - (k : Int)) = (l : Int) := by rw [IntKind.wrap_i64]; omega
      have hlM : (l : Int) < (M : Int) := by omega
      have hlm : (l : Int) < (m : Int) := by omega
      obtain ⟨hS16, nS16, gS16⟩ := Hso.out hlt
      have hGo := HGo.out
      rw [show M - k = l + 1 by omega] at hGo hS16
      rw [show M - 1 - k = l by omega] at hS16
      obtain ⟨ad16, ca16, b16, o16, hu16, -, -, -, -⟩ := id hS16
      subst hu16
      have hbD : Below wo.heap.size wo wo.drew := (Below.refl _ _).drew
      have HYd : Uy p (c5 + bkC z m P V Sf k) gG w7 wo.drew := HYo.out.chain ((HYo.out.up.ux hbD).uy gG)
      have HRd : Rw gG cp (fun j => .int .i64 (F j)) wo.drew := HRo.out.later hbD
      obtain ⟨a0, a1, a2, a3⟩ := HQc.out l (by omega)
      obtain ⟨vl, hvl, hAl, hnl, hgl⟩ := HVc7.out l (by omega)
      obtain ⟨adl, cal, bl', ol', rfl, -, -, -, -⟩ := id hAl
      have eA : lyA gG 0 cp z l = .slice (some ⟨gG, fsN z l, none⟩) (z (l + 1) * z l) (cp - fsN z l) := by unfold lyA; rw [Nat.zero_add]
      have eB : lyB gG 0 cp z l = .slice (some ⟨gG, fsN z l + z (l + 1) * z l, none⟩) (z (l + 1)) (cp - fsN z l - z (l + 1) * z l) := by unfold lyB; rw [Nat.zero_add]
      rw [eA] at a2
      rw [eB] at a3
      have hgQG : gQ ≠ gG := by omega
      have hgVG : gV ≠ gG := by omega
      have hgLG : gL ≠ gG := by omega
      have d0 := HYd.cell hgQG nQ a0
      have d1 := HYd.cell hgQG nQ a1
      have d2 := HYd.cell hgQG nQ a2
      have d3 := HYd.cell hgQG nQ a3
      have d4 := HYd.cell hgVG nV hvl
      obtain ⟨z1, z2⟩ := HZ6.out l (by omega)
      obtain ⟨y1, y2⟩ := HZ6.out (l + 1) (by omega)
      have hbk := HbC.out k (by omega)
      have hq : fsN z l + z (l + 1) * z l + z (l + 1) ≤ cp := by
        have h1 := fsN_mono z (show l + 1 ≤ M by omega)
        have h2 : fsN z (l + 1) = fsN z l + (z l * z (l + 1) + z (l + 1)) := rfl
        rw [Nat.mul_comm (z l)] at h2
        have h3 := HSz.out.2.1
        omega
      have CFi := fill_any (z (l + 1)) (z l) gG (fsN z l) (cp - fsN z l) (cp - fsN z l - z (l + 1) * z l) cp F (Sf l) (V l) (.slice ad16 (z (l + 1)) ca16) (.slice adl (z l) cal) p (c5 + bkC z m P V Sf k) y2 z2 y1 z1 (by omega) (by omega) hq wo.drew HRd (hS16.later hbD) (hAl.uy hnl hgl HYd) nS16 hnl nG gS16 HYd.up
      obtain ⟨F2, hF2⟩ : ∃ F2, flX (z (l + 1)) (z l) (fsN z l) F (Sf l) (V l) = F2 := ⟨_, rfl⟩
      have HG2 : Hid (GrL z m V Sf l F2) := by rw [← hF2]; exact fl_grL hGo z1
      have HF2 : Hid (∀ j, -9223372036854775808 ≤ F2 j ∧ F2 j ≤ 9223372036854775807) := by rw [← hF2]; exact flX_rng _ _ _ _ _ _ HFo.out (HSr.out l)
      rw [hF2, ot_gr] at CFi
      have hgr := HgR.out l (z (l + 1)) (by omega)
      have hbS := HbS.out k
      rw [show m - 2 - k = l by omega, show m - 1 - k = l + 1 by omega] at hbS
      obtain ⟨c8, hc8⟩ : ∃ c8, c5 + bkC z m P V Sf k + grC (Sf l) (V l) (z l) (z (l + 1)) = c8 := ⟨_, rfl⟩
      have Hc8 : Hid (c5 + bkC z m P V Sf (k + 1) = c8 + (if l = 0 then 0 else cntV (ahO z P (Sf l) (V l) l) (z l))) := by show _ = _; rw [hbS]; omega
      have c80 : 0 ≤ c8 ∧ c8 ≤ 600000000 := by have h1 : (64 : Int) * ((z (l + 1) : Nat) : Int) ≤ 4096 := (by omega); omega
      rw [hc8] at CFi
      have HPb : Nu b p := HP.out.2.nu (by omega)
      have HS16 : Hid (Ar wo.drew (.slice ad16 (z (l + 1)) ca16) (z (l + 1)) (Sf l)) := hS16.later hbD
      have HAl : Hid (Ar w7 (.slice adl (z l) cal) (z l) (V l)) := hAl
      have HvlE : Hid (w7.cell? ⟨gV, l, none⟩ = some (.slice adl (z l) cal)) := hvl
      have HYd' : Hid (Uy p (c5 + bkC z m P V Sf k) gG w7 wo.drew) := HYd
      clear a0 a1 a2 a3 hvl hAl eA eB hGo HRo HGo HFo HYo Hso hS16 hF2 hgr hbS hc8 hbk HRd hbD
      obtain ⟨l4, hl4⟩ : ∃ l4, l * 4 = l4 := ⟨_, rfl⟩
      rw [hl4] at d0 d1 d2 d3
      have hl4I : (l : Int) * 4 = (l4 : Int) := by omega
      obtain ⟨nA, hnA⟩ : ∃ x, z (l + 1) * z l = x := ⟨_, rfl⟩
      obtain ⟨qB, hqB⟩ : ∃ x, fsN z l + nA = x := ⟨_, rfl⟩
      obtain ⟨kA, hkA⟩ : ∃ x, cp - fsN z l = x := ⟨_, rfl⟩
      obtain ⟨kB, hkB⟩ : ∃ x, kA - nA = x := ⟨_, rfl⟩
      obtain ⟨qA, hqA⟩ : ∃ x, fsN z l = x := ⟨_, rfl⟩
      rw [hnA, hkA] at d2 CFi
      rw [hnA, hkA] at d3
      rw [hkB, hqB] at d3 CFi
      rw [hqA] at d2 CFi
      clear hqB hkA hkB hqA
      go_upto_region 11 with fail
      refine wp_region_held_drew (S := fun W' => W'.cell? ⟨gQ, l4, none⟩ = some (.int .i64 ((z (l + 1) : Nat) : Int)) ∧ W'.cell? ⟨gQ, l4 + 1, none⟩ = some (.int .i64 ((z l : Nat) : Int)) ∧ W'.cell? ⟨gQ, l4 + 2, none⟩ = some (.slice (some ⟨gG, qA, none⟩) nA kA) ∧ W'.cell? ⟨gQ, l4 + 3, none⟩ = some (.slice (some ⟨gG, qB, none⟩) (z (l + 1)) kB) ∧ W'.cell? ⟨gV, l, none⟩ = some (.slice adl (z l) cal)) (by kernel_rfl) ⟨d0, d1, d2, d3, d4⟩ (fun HS => ?_)
      generalize wo.drew = wd at *
      clear d0 d1 d2 d3 d4 HYd
      refine wpAnyH_take (i := 0) (v := ?v13) rfl (by kernel_rfl) (by kernel_rfl) (by kernel_rfl) (fun _ _ _ h => h) (Or.inl ⟨by kernel_rfl, ?h13⟩) HS ?r13
      case h13 => (rintro w ⟨e0, e1, e2, e3, e4⟩; go_simp) <;> with_reducible rfl
      try simp only [Act.put, List.getElem_toArray, List.getElem_cons_succ, List.getElem_cons_zero, List.setIfInBounds_toArray, List.set_cons_zero, List.set_cons_succ]
      refine wpAnyH_take (i := 1) (v := ?v14) rfl (by kernel_rfl) (by kernel_rfl) (by kernel_rfl) (fun _ _ _ h => h) (Or.inl ⟨by kernel_rfl, ?h14⟩) HS ?r14
      case h14 => (rintro w ⟨e0, e1, e2, e3, e4⟩; go_simp) <;> with_reducible rfl
      try simp only [Act.put, List.getElem_toArray, List.getElem_cons_succ, List.getElem_cons_zero, List.setIfInBounds_toArray, List.set_cons_zero, List.set_cons_succ]
      refine wpAnyH_take (i := 2) (v := ?v15) rfl (by kernel_rfl) (by kernel_rfl) (by kernel_rfl) (fun _ _ _ h => h) (Or.inl ⟨by kernel_rfl, ?h15⟩) HS ?r15
      case h15 => (rintro w ⟨e0, e1, e2, e3, e4⟩; go_simp) <;> with_reducible rfl
      try simp only [Act.put, List.getElem_toArray, List.getElem_cons_succ, List.getElem_cons_zero, List.setIfInBounds_toArray, List.set_cons_zero, List.set_cons_succ]
      refine wpAnyH_take (i := 3) (v := ?v16) rfl (by kernel_rfl) (by kernel_rfl) (by kernel_rfl) (fun _ _ _ h => h) (Or.inl ⟨by kernel_rfl, ?h16⟩) HS ?r16
      case h16 => (rintro w ⟨e0, e1, e2, e3, e4⟩; go_simp) <;> with_reducible rfl
      try simp only [Act.put, List.getElem_toArray, List.getElem_cons_succ, List.getElem_cons_zero, List.setIfInBounds_toArray, List.set_cons_zero, List.set_cons_succ]
      refine wpAnyH_take (i := 4) (v := ?v17) rfl (by kernel_rfl) (by kernel_rfl) (by kernel_rfl) (fun _ _ _ h => h) (Or.inl ⟨by kernel_rfl, ?h17⟩) HS ?r17
      case h17 => (rintro w ⟨e0, e1, e2, e3, e4⟩; go_simp) <;> with_reducible rfl
      try simp only [Act.put, List.getElem_toArray, List.getElem_cons_succ, List.getElem_cons_zero, List.setIfInBounds_toArray, List.set_cons_zero, List.set_cons_succ]
      refine wpAnyH_take (i := 5) (v := ?v18) rfl (by kernel_rfl) (by kernel_rfl) (by kernel_rfl) (fun _ _ _ h => h) (Or.inl ⟨by kernel_rfl, ?h18⟩) HS ?r18
      case h18 => (rintro w ⟨e0, e1, e2, e3, e4⟩; go_simp) <;> with_reducible rfl
      try simp only [Act.put, List.getElem_toArray, List.getElem_cons_succ, List.getElem_cons_zero, List.setIfInBounds_toArray, List.set_cons_zero, List.set_cons_succ]
      refine wpAnyH_take (i := 6) (v := ?v19) rfl (by kernel_rfl) (by kernel_rfl) (by kernel_rfl) (fun _ _ _ h => h) (Or.inl ⟨by kernel_rfl, ?h19⟩) HS ?r19
      case h19 => (rintro w ⟨e0, e1, e2, e3, e4⟩; go_simp) <;> with_reducible rfl
      try simp only [Act.put, List.getElem_toArray, List.getElem_cons_succ, List.getElem_cons_zero, List.setIfInBounds_toArray, List.set_cons_zero, List.set_cons_succ]
      refine wpAnyH_take (i := 7) (v := ?v20) rfl (by kernel_rfl) (by kernel_rfl) (by kernel_rfl) (fun _ _ _ h => h) (Or.inl ⟨by kernel_rfl, ?h20⟩) HS ?r20
      case h20 => (rintro w ⟨e0, e1, e2, e3, e4⟩; go_simp) <;> with_reducible rfl
      try simp only [Act.put, List.getElem_toArray, List.getElem_cons_succ, List.getElem_cons_zero, List.setIfInBounds_toArray, List.set_cons_zero, List.set_cons_succ]
      refine wpAnyH_take (i := 8) (v := ?v21) rfl (by kernel_rfl) (by kernel_rfl) (by kernel_rfl) (fun _ _ _ h => h) (Or.inl ⟨by kernel_rfl, ?h21⟩) HS ?r21
      case h21 => (rintro w ⟨e0, e1, e2, e3, e4⟩; go_simp) <;> with_reducible rfl
      try simp only [Act.put, List.getElem_toArray, List.getElem_cons_succ, List.getElem_cons_zero, List.setIfInBounds_toArray, List.set_cons_zero, List.set_cons_succ]
      refine wpAnyH_take (i := 9) (v := ?v22) rfl (by kernel_rfl) (by kernel_rfl) (by kernel_rfl) (fun _ _ _ h => h) (Or.inl ⟨by kernel_rfl, ?h22⟩) HS ?r22
      case h22 => (rintro w ⟨e0, e1, e2, e3, e4⟩; go_simp) <;> with_reducible rfl
      try simp only [Act.put, List.getElem_toArray, List.getElem_cons_succ, List.getElem_cons_zero, List.setIfInBounds_toArray, List.set_cons_zero, List.set_cons_succ]
      refine wpAnyH_ready (rs := [10]) (by kernel_rfl) (by simp) ?_
      refine AllReadyH.cons rfl (fun K hK => ?_) AllReadyH.nil
      go_simp
      refine CFi.mono ?_
      rintro e w8 ⟨rfl, hR8, h8⟩
      refine hK.out _ _ ⟨h8.cell hgQG nQ HS.1, h8.cell hgQG nQ HS.2.1, h8.cell hgQG nQ HS.2.2.1, h8.cell hgQG nQ HS.2.2.2.1, h8.cell hgVG nV HS.2.2.2.2⟩ (fun HS => ?_)
      clear hK K HS CFi
      refine wpAnyH_done (by kernel_rfl) ?_ _
      have HY8 : Hid (Uy p c8 gG w7 w8) := HYd'.out.chain h8
      have HR8 : Hid (Rw gG cp (fun j => .int .i64 (F2 j)) w8) := hR8
      have HS8 : Hid (Ar w8 (.slice ad16 (z (l + 1)) ca16) (z (l + 1)) (Sf l)) := HS16.out.uy nS16 gS16 h8
      clear hR8 h8 HS16 HYd'
      by_cases h0 : l = 0
      · have h0I : ¬ (0 : Int) < (l : Int) := by omega
        have HY10 : Hid (Uy p (c5 + bkC z m P V Sf (k + 1)) gG w7 w8) := by rw [Hc8.out, if_pos h0, Int.add_zero]; exact HY8.out
        have HG10 : Hid (GrL z m V Sf (M - (k + 1)) F2) := by rw [show M - (k + 1) = l by omega]; exact HG2.out
        clear HY8 HG2 HS8
        go_wp2
        go_roundw
        case rel => exact ⟨k + 1, F2, by omega, by go_num, HR8, HG10, HF2, HY10, fun h => absurd h (by omega)⟩
        case measure => simp [intOf]; omega
      · have h0I : (0 : Int) < (l : Int) := by omega
        have hbD : Below w8.heap.size w8 w8.drew := (Below.refl _ _).drew
        have HYe : Uy p c8 gG w7 w8.drew := HY8.out.chain ((HY8.out.up.ux hbD).uy gG)
        have HUe : Ux p c8 w w8.drew := HYe.base w c5 HU7'.out hwG
        obtain ⟨a0, a1, a2, a3⟩ := HLc7.out l (by omega)
        obtain ⟨vl, hvl, -, -, -⟩ := HVc7.out l (by omega)
        have eA : lyA b o cap z l = .slice (some ⟨b, o + fsN z l, none⟩) (z (l + 1) * z l) (cap - fsN z l) := rfl
        have eB : lyB b o cap z l = .slice (some ⟨b, o + fsN z l + z (l + 1) * z l, none⟩) (z (l + 1)) (cap - fsN z l - z (l + 1) * z l) := rfl
        have CA := slopesAhead_any (z (l + 1)) (z l) b (o + fsN z l) (cap - fsN z l) (fun i => P (fsN z l + i)) (Sf l) (V l) (some ⟨b, o + fsN z l + z (l + 1) * z l, none⟩) (z (l + 1)) (cap - fsN z l - z (l + 1) * z l) (.slice ad16 (z (l + 1)) ca16) (.slice adl (z l) cal) p c8 y2 z2 c80.1 (by omega) w8.drew
          (lyA_ar (m := m) (HP7.out.1.uy HP.out.2 HP7.out.2 HYe) (by rw [hM]; exact HSz.out.2.1) (by omega) HSz.out.2.2.1 HSz.out.2.2.2)
          (HS8.out.later hbD) (HAl.out.uy hnl hgl HYe) (HPb.nv _ _ _) nS16 hnl HYe.up (HUp.out.2.ux HUp.out.1 HUe)
        have eSO : slaO (z (l + 1)) (z l) (fun i => P (fsN z l + i)) (Sf l) (V l) = ahO z P (Sf l) (V l) l := funext (fun i => sla_ahO z P (Sf l) (V l) l i)
        have eSX : slaX (z (l + 1)) (z l) (fun i => P (fsN z l + i)) (Sf l) (V l) = Sf (l - 1) := by
          have h := HSt.out (l - 1) (by omega)
          rw [show l - 1 + 1 = l by omega] at h
          rw [h]
          exact funext (fun i => sla_ah z P (Sf l) (V l) l i)
        rw [eSO, eSX] at CA
        rw [eA] at a2
        rw [eB] at a3
        have d0 := HYe.cell hgLG nL a0
        have d1 := HYe.cell hgLG nL a1
        have d2 := HYe.cell hgLG nL a2
        have d3 := HYe.cell hgLG nL a3
        have hvl' : vl = .slice adl (z l) cal := Option.some.inj (hvl.symm.trans HvlE.out)
        have d4 := HYe.cell hgVG nV hvl
        rw [hvl'] at d4
        have HRe : Hid (Rw gG cp (fun j => .int .i64 (F2 j)) w8.drew) := HR8.out.later hbD
        have HYe' : Hid (Uy p c8 gG w7 w8.drew) := HYe
        have hsz8 : gG < w8.drew.heap.size := World.block_lt_of_cell? _ _ (HRe.out.c 0 (by omega))
        have hwz : w.heap.size ≤ w8.drew.heap.size := by omega
        rw [hl4] at d0 d1 d2 d3
        rw [hnA] at d2 d3 CA
        clear a0 a1 a2 a3 hvl hvl' eA eB eSO eSX HUe HYe HS8 HY8 HR8 hbD
        generalize cap - fsN z l - nA = kD at *
        generalize o + fsN z l + nA = qD at *
        generalize cap - fsN z l = kC at *
        generalize o + fsN z l = qC at *
        go_upto_region 13 with fail
        refine wp_region_held_drew (S := fun W' => W'.cell? ⟨gL, l4, none⟩ = some (.int .i64 ((z (l + 1) : Nat) : Int)) ∧ W'.cell? ⟨gL, l4 + 1, none⟩ = some (.int .i64 ((z l : Nat) : Int)) ∧ W'.cell? ⟨gL, l4 + 2, none⟩ = some (.slice (some ⟨b, qC, none⟩) nA kC) ∧ W'.cell? ⟨gL, l4 + 3, none⟩ = some (.slice (some ⟨b, qD, none⟩) (z (l + 1)) kD) ∧ W'.cell? ⟨gV, l, none⟩ = some (.slice adl (z l) cal)) (by kernel_rfl) ⟨d0, d1, d2, d3, d4⟩ (fun HS => ?_)
        generalize w8.drew = we at *
        clear d0 d1 d2 d3 d4
        refine wpAnyH_take (i := 0) (v := ?v23) rfl (by kernel_rfl) (by kernel_rfl) (by kernel_rfl) (fun _ _ _ h => h) (Or.inl ⟨by kernel_rfl, ?h23⟩) HS ?r23
        case h23 => (rintro w ⟨e0, e1, e2, e3, e4⟩; go_simp) <;> with_reducible rfl
        try simp only [Act.put, List.getElem_toArray, List.getElem_cons_succ, List.getElem_cons_zero, List.setIfInBounds_toArray, List.set_cons_zero, List.set_cons_succ]
        refine wpAnyH_take (i := 1) (v := ?v24) rfl (by kernel_rfl) (by kernel_rfl) (by kernel_rfl) (fun _ _ _ h => h) (Or.inl ⟨by kernel_rfl, ?h24⟩) HS ?r24
        case h24 => (rintro w ⟨e0, e1, e2, e3, e4⟩; go_simp) <;> with_reducible rfl
        try simp only [Act.put, List.getElem_toArray, List.getElem_cons_succ, List.getElem_cons_zero, List.setIfInBounds_toArray, List.set_cons_zero, List.set_cons_succ]
        refine wpAnyH_take (i := 2) (v := ?v25) rfl (by kernel_rfl) (by kernel_rfl) (by kernel_rfl) (fun _ _ _ h => h) (Or.inl ⟨by kernel_rfl, ?h25⟩) HS ?r25
        case h25 => (rintro w ⟨e0, e1, e2, e3, e4⟩; go_simp) <;> with_reducible rfl
        try simp only [Act.put, List.getElem_toArray, List.getElem_cons_succ, List.getElem_cons_zero, List.setIfInBounds_toArray, List.set_cons_zero, List.set_cons_succ]
        refine wpAnyH_take (i := 3) (v := ?v26) rfl (by kernel_rfl) (by kernel_rfl) (by kernel_rfl) (fun _ _ _ h => h) (Or.inl ⟨by kernel_rfl, ?h26⟩) HS ?r26
        case h26 => (rintro w ⟨e0, e1, e2, e3, e4⟩; go_simp) <;> with_reducible rfl
        try simp only [Act.put, List.getElem_toArray, List.getElem_cons_succ, List.getElem_cons_zero, List.setIfInBounds_toArray, List.set_cons_zero, List.set_cons_succ]
        refine wpAnyH_take (i := 4) (v := ?v27) rfl (by kernel_rfl) (by kernel_rfl) (by kernel_rfl) (fun _ _ _ h => h) (Or.inl ⟨by kernel_rfl, ?h27⟩) HS ?r27
        case h27 => (rintro w ⟨e0, e1, e2, e3, e4⟩; go_simp) <;> with_reducible rfl
        try simp only [Act.put, List.getElem_toArray, List.getElem_cons_succ, List.getElem_cons_zero, List.setIfInBounds_toArray, List.set_cons_zero, List.set_cons_succ]
        refine wpAnyH_take (i := 5) (v := ?v28) rfl (by kernel_rfl) (by kernel_rfl) (by kernel_rfl) (fun _ _ _ h => h) (Or.inl ⟨by kernel_rfl, ?h28⟩) HS ?r28
        case h28 => (rintro w ⟨e0, e1, e2, e3, e4⟩; go_simp) <;> with_reducible rfl
        try simp only [Act.put, List.getElem_toArray, List.getElem_cons_succ, List.getElem_cons_zero, List.setIfInBounds_toArray, List.set_cons_zero, List.set_cons_succ]
        refine wpAnyH_take (i := 6) (v := ?v29) rfl (by kernel_rfl) (by kernel_rfl) (by kernel_rfl) (fun _ _ _ h => h) (Or.inl ⟨by kernel_rfl, ?h29⟩) HS ?r29
        case h29 => (rintro w ⟨e0, e1, e2, e3, e4⟩; go_simp) <;> with_reducible rfl
        try simp only [Act.put, List.getElem_toArray, List.getElem_cons_succ, List.getElem_cons_zero, List.setIfInBounds_toArray, List.set_cons_zero, List.set_cons_succ]
        refine wpAnyH_take (i := 7) (v := ?v30) rfl (by kernel_rfl) (by kernel_rfl) (by kernel_rfl) (fun _ _ _ h => h) (Or.inl ⟨by kernel_rfl, ?h30⟩) HS ?r30
        case h30 => (rintro w ⟨e0, e1, e2, e3, e4⟩; go_simp) <;> with_reducible rfl
        try simp only [Act.put, List.getElem_toArray, List.getElem_cons_succ, List.getElem_cons_zero, List.setIfInBounds_toArray, List.set_cons_zero, List.set_cons_succ]
        refine wpAnyH_take (i := 8) (v := ?v31) rfl (by kernel_rfl) (by kernel_rfl) (by kernel_rfl) (fun _ _ _ h => h) (Or.inl ⟨by kernel_rfl, ?h31⟩) HS ?r31
        case h31 => (rintro w ⟨e0, e1, e2, e3, e4⟩; go_simp) <;> with_reducible rfl
        try simp only [Act.put, List.getElem_toArray, List.getElem_cons_succ, List.getElem_cons_zero, List.setIfInBounds_toArray, List.set_cons_zero, List.set_cons_succ]
        refine wpAnyH_take (i := 9) (v := ?v32) rfl (by kernel_rfl) (by kernel_rfl) (by kernel_rfl) (fun _ _ _ h => h) (Or.inl ⟨by kernel_rfl, ?h32⟩) HS ?r32
        case h32 => (rintro w ⟨e0, e1, e2, e3, e4⟩; go_simp) <;> with_reducible rfl
        try simp only [Act.put, List.getElem_toArray, List.getElem_cons_succ, List.getElem_cons_zero, List.setIfInBounds_toArray, List.set_cons_zero, List.set_cons_succ]
        refine wpAnyH_ready (rs := [10]) (by kernel_rfl) (by simp) ?_
        refine AllReadyH.cons rfl (fun K hK => ?_) AllReadyH.nil
        go_simp
        refine CA.mono ?_
        rintro e w9 ⟨g9, rfl, hA9, hg9, h9⟩
        refine hK.out _ _ ⟨h9.cell nL HS.1, h9.cell nL HS.2.1, h9.cell nL HS.2.2.1, h9.cell nL HS.2.2.2.1, h9.cell nV HS.2.2.2.2⟩ (fun HS => ?_)
        clear hK K CA
        refine wpAnyH_take (i := 11) (v := ?v33) rfl (by kernel_rfl) (by kernel_rfl) (by kernel_rfl) (fun _ _ _ h => h) (Or.inl ⟨by kernel_rfl, ?h33⟩) HS ?r33
        case h33 => (rintro w ⟨e0, e1, e2, e3, e4⟩; go_simp) <;> with_reducible rfl
        try simp only [Act.put, List.getElem_toArray, List.getElem_cons_succ, List.getElem_cons_zero, List.setIfInBounds_toArray, List.set_cons_zero, List.set_cons_succ]
        refine wpAnyH_done (by kernel_rfl) ?_ _
        have HY10 : Hid (Uy p (c5 + bkC z m P V Sf (k + 1)) gG w7 w9) := by rw [Hc8.out, if_neg h0]; exact HYe'.out.chain (h9.uy gG)
        have HG10 : Hid (GrL z m V Sf (M - (k + 1)) F2) := by rw [show M - (k + 1) = l by omega]; exact HG2.out
        have HR10 : Hid (Rw gG cp (fun j => .int .i64 (F2 j)) w9) := HRe.out.ux nG h9
        have HA10 : Hid (k + 1 < M → Ar w9 (.slice (some ⟨g9, 0, none⟩) (z l) (z l)) (z (M - (k + 1))) (Sf (M - 1 - (k + 1))) ∧ Nv (.slice (some ⟨g9, 0, none⟩) (z l) (z l)) p ∧ Nb (.slice (some ⟨g9, 0, none⟩) (z l) (z l)) gG) := fun _ => by
          rw [show M - (k + 1) = l by omega, show M - 1 - (k + 1) = l - 1 by omega]
          exact ⟨hA9, (HNw.out g9 (by omega)).nv _ _ _, fun a n cap e _ => by cases e; dsimp only; omega⟩
        clear HS hA9 h9 HYe' HG2 HRe Hc8
        go_wp2
        go_roundw
        case rel => exact ⟨k + 1, F2, by omega, by go_num, HR10, HG10, HF2, HY10, HA10⟩
        case measure => simp [intOf]; omega
    · obtain rfl : k = M := by omega
      have hkI : ¬ (k : Int) < (k : Int) := by omega
      have HQ : Hid (Ar wo (.slice (some ⟨gG, 0, none⟩) cp cp) cp (gdG true z m P x t) ∧ Ux p (c5 + bkC z m P V Sf k) w wo) := by
        have hg := HGo.out
        rw [Nat.sub_self] at hg
        exact ⟨(HRo.out.ar (by omega) (fun j _ => HFo.out j)).congr (fun j hj => HgG.out F (grL_all hg) j hj), HYo.out.base w c5 HU7'.out hwG⟩
      clear HRo HYo Hso HGo HFo
      go_wp2
      go_ret2
      exact ⟨gG, rfl, HQ.out.1, hwG, HQ.out.2⟩
set_option maxRecDepth 100000 in
set_option maxHeartbeats 32000000 in
theorem gradient_hg (vs vx vt : Value) (m b o cp cap : Nat) (z : Nat → Nat) (P x t : Nat → Int) (p : Option Addr) (c : Int) (c0 : 0 ≤ c) (c1 : c ≤ 500000000) (w : World) (hS : Ar w vs m (fun i => ((z i : Nat) : Int))) (hP : Ar w (.slice (some ⟨b, o, none⟩) cp cap) cp P) (hX : Ar w vx (z 0) x) (hT : Ar w vt (z (m - 1)) t) (hz : Szs z m) (hcp : cp = fsN z (m - 1)) (nS : Nv vs p) (nP : Nu b p) (nX : Nv vx p) (nT : Nv vt p) (hp : Up p c w) (hTab : TabAt w) :
    Calls Tryz.prog 17 #[.pointer p, .iface 91 (.agg #[]), vs, .slice (some ⟨b, o, none⟩) cp cap, .agg #[vx, vt]] w fun e w' => ∃ g, e = .returned (.tuple #[.slice (some ⟨g, 0, none⟩) cp cp, .int .i64 (gdX false z m P x t)]) ∧ Ar w' (.slice (some ⟨g, 0, none⟩) cp cp) cp (gdG false z m P x t) ∧ w.heap.size ≤ g ∧ Ux p (c + gdC false z m P x t) w w' := by
  obtain ⟨m2, m6, hz6⟩ := id hz
  have hcpB : cp ≤ 20800 := by have := fsN_le z m (m - 1) hz6 (by omega); omega
  have hcp2 : 2 ≤ cp := by have h1 := fsN_mono z (show 1 ≤ m - 1 by omega); have h2 := (lyN_le z m 0 hz6 (by omega)).2; have h3 : fsN z 1 = 0 + lyN z 0 := rfl; omega
  obtain ⟨hcc1, hcc2⟩ : cp ≤ cap ∧ cap ≤ maxLen := by obtain ⟨_, _, _, _, e, h2, h3, _⟩ := hP; cases e; exact ⟨h2, h3⟩
  obtain ⟨zn1, zn2⟩ := hz6 (m - 1) (by omega)
  have hvC := vC_rng z m P x (m - 1) (fun i hi => (hz6 i hi).2) (by omega)
  obtain ⟨V, hV⟩ : ∃ V, vN z m P x = V := ⟨_, rfl⟩
  obtain ⟨Sf, hSf⟩ : ∃ Sf, gdS false z m P x t = Sf := ⟨_, rfl⟩
  have HS0 : Hid (slX false (V (m - 1)) t = Sf (m - 2)) := by show _ = _; rw [← hSf, ← hV]; unfold gdS; rw [sL_last]
  have HSt : Hid (∀ l, l + 2 < m → Sf l = ahX z P (Sf (l + 1)) (V (l + 1)) (l + 1)) := fun l hl => by rw [← hSf, ← hV]; unfold gdS; exact sL_step _ _ _ _ _ l hl
  have HSr : Hid (∀ l i, -9223372036854775808 ≤ Sf l i ∧ Sf l i ≤ 9223372036854775807) := fun l i => by rw [← hSf]; exact sL_rng _ _ _ _ _ (fun i => slX_rng _ _ _ _) _ _
  have HgC : Hid (gdC false z m P x t = vC z m P x (m - 1) + lsC false (V (m - 1)) t (z (m - 1)) + slC false (V (m - 1)) t (z (m - 1)) + bkC z m P V Sf (m - 1)) := by show _ = _; rw [← hSf, ← hV]; rfl
  have HgX : Hid (gdX false z m P x t = lsX false (V (m - 1)) t (z (m - 1))) := by show _ = _; rw [← hV]; rfl
  have HgG : Hid (∀ G, Grd z m V Sf G → ∀ j, j < cp → G j = gdG false z m P x t j) := fun G hG j hj => by
    unfold gdG
    rw [hV, hSf]
    exact hG.one (fun i hi => (hz6 i hi).1) (grd_all z m _ _) j (by omega)
  have hlC := lsC_rng false (V (m - 1)) t (z (m - 1))
  have hsC := slC_rng false (V (m - 1)) t (z (m - 1))
  have HbC : Hid (∀ k, k + 1 ≤ m → 0 ≤ bkC z m P V Sf k ∧ bkC z m P V Sf k ≤ 4160 * (k : Int)) := fun k hk => bkC_rng z m P V Sf k (fun i hi => (hz6 i hi).2) hk
  have HbS : Hid (∀ k, bkC z m P V Sf (k + 1) = bkC z m P V Sf k + grC (Sf (m - 2 - k)) (V (m - 2 - k)) (z (m - 2 - k)) (z (m - 1 - k)) + (if m - 2 - k = 0 then 0 else cntV (ahO z P (Sf (m - 2 - k)) (V (m - 2 - k)) (m - 2 - k)) (z (m - 2 - k)))) := fun k => rfl
  have HgR : Hid (∀ l u, l < m → 0 ≤ grC (Sf l) (V l) (z l) u ∧ grC (Sf l) (V l) (z l) u ≤ 64 * (u : Int)) := fun l u hl => grC_rng _ _ _ _ (hz6 l hl).2
  have HUp : Hid (Up p c w ∧ TabAt w) := ⟨hp, hTab⟩
  have HNw : Hid (∀ g, w.heap.size ≤ g → Nu g p) := fun g hg => hp.lt hg
  have HLy : Hid (∀ W : World, Below w.heap.size w W → Calls Tryz.prog 28 #[vs, .slice (some ⟨b, o, none⟩) cp cap] W fun e w' => ∃ g cL, e = .returned (.slice (some ⟨g, 0, none⟩) (m - 1) cL) ∧ Lyr w' (.slice (some ⟨g, 0, none⟩) (m - 1) cL) (m - 1) z b o cap ∧ W.heap.size ≤ g ∧ Below W.heap.size W w') := fun W hb => layersOf_any vs m b o cp cap z W (hS.later hb) hz hcp hcc1 hcc2
  have HLg : Hid (∀ (g : Nat) (c2 : Int) (W : World), Ux p c2 w W → Calls Tryz.prog 28 #[vs, .slice (some ⟨g, 0, none⟩) cp cp] W fun e w' => ∃ q cL, e = .returned (.slice (some ⟨q, 0, none⟩) (m - 1) cL) ∧ Lyr w' (.slice (some ⟨q, 0, none⟩) (m - 1) cL) (m - 1) z g 0 cp ∧ W.heap.size ≤ q ∧ Below W.heap.size W w') := fun g c2 W hU => layersOf_any vs m g 0 cp cp z W (hS.ux nS hU) hz hcp (Nat.le_refl _) (by unfold maxLen; omega)
  have HFw : Hid (∀ (vL : Value) (W : World), Below w.heap.size w W → Lyr W vL (m - 1) z b o cap → Nv vL p → Calls Tryz.prog 29 #[.pointer p, vL, vx] W fun e w' => ∃ v', e = .returned v' ∧ Vls W.heap.size w' v' m z V ∧ Ux p (c + vC z m P x (m - 1)) W w') := fun vL W hb hL nL => by rw [← hV]; exact forward_any vL vx m b o cp cap z P x p c c0 (by omega) W hL nL (hP.later hb) nP (hX.later hb) nX hz hcp (hp.later hb) (hTab.later hb)
  have HP : Hid (Ar w (.slice (some ⟨b, o, none⟩) cp cap) cp P ∧ Nv (.slice (some ⟨b, o, none⟩) cp cap) p) := ⟨hP, nP.nv _ _ _⟩
  have HTt : Hid (Ar w vt (z (m - 1)) t ∧ Nv vt p) := ⟨hT, nT⟩
  have HSz : Hid (Szs z m ∧ cp = fsN z (m - 1) ∧ cp ≤ cap ∧ cap ≤ maxLen) := ⟨hz, hcp, hcc1, hcc2⟩
  have HZ6 : Hid (∀ i, i < m → 1 ≤ z i ∧ z i ≤ 64) := hz6
  have HVr : Hid (∀ l u, u < z l → -9223372036854775808 ≤ V l u ∧ V l u ≤ 9223372036854775807) := fun l u hu => by rw [← hV]; exact vN_rng z m P x l u hX.rng hu
  rw [HgC.out, HgX.out]
  clear hV hSf HgC HgX
  generalize hvc : vC z m P x (m - 1) = vc at *
  clear hvc
  have Hls : Hid (∀ (W : World) (va : Value), Ar W va (z (m - 1)) (V (m - 1)) → Nv va p → Ux p (c + vc) w W → Calls Tryz.prog 168 #[.agg #[], .pointer p, va, vt] W fun e w' => e = .returned (.int .i64 (lsX false (V (m - 1)) t (z (m - 1)))) ∧ Ux p (c + vc + lsC false (V (m - 1)) t (z (m - 1))) W w') := fun W va h1 h2 h3 => hgFar_ux va vt _ _ _ (by omega) p (c + vc) (by omega) (by omega) W h1 (hT.ux nT h3) h2 nT h3.up (hTab.ux hp h3)
  have Hsl : Hid (∀ (W : World) (va : Value), Ar W va (z (m - 1)) (V (m - 1)) → Nv va p → Ux p (c + vc + lsC false (V (m - 1)) t (z (m - 1))) w W → Calls Tryz.prog 169 #[.agg #[], .pointer p, va, vt] W fun e w' => ∃ v', e = .returned v' ∧ Ar w' v' (z (m - 1)) (Sf (m - 2)) ∧ Ow W.heap.size v' ∧ Ux p (c + vc + lsC false (V (m - 1)) t (z (m - 1)) + slC false (V (m - 1)) t (z (m - 1))) W w') := fun W va h1 h2 h3 => by
    rw [← HS0.out]
    exact hgSlope_ux va vt _ _ _ (by omega) p (c + vc + lsC false (V (m - 1)) t (z (m - 1))) (by omega) (by omega) W h1 (hT.ux nT h3) h2 nT h3.up
  obtain ⟨c5, hc5⟩ : ∃ c5, c + vc + lsC false (V (m - 1)) t (z (m - 1)) + slC false (V (m - 1)) t (z (m - 1)) = c5 := ⟨_, rfl⟩
  have Hc5 : Hid (c + (vc + lsC false (V (m - 1)) t (z (m - 1)) + slC false (V (m - 1)) t (z (m - 1)) + bkC z m P V Sf (m - 1)) = c5 + bkC z m P V Sf (m - 1)) := by show _ = _; omega
  have hc50 : 0 ≤ c5 ∧ c5 ≤ 510000000 := by omega
  rw [Hc5.out]
  rw [hc5] at Hsl
  clear hc5 Hc5 hlC hsC hvC
  generalize lsC false (V (m - 1)) t (z (m - 1)) = lc at *
  generalize slC false (V (m - 1)) t (z (m - 1)) = sc at *
  generalize lsX false (V (m - 1)) t (z (m - 1)) = lx at *
  obtain ⟨ads, cas, bs, os, rfl, k1, k2, -, -⟩ := hS
  obtain ⟨adx, cax, bx, ox, rfl, -, -, -, -⟩ := hX
  obtain ⟨adt, cat, bt, ot, rfl, -, -, -, -⟩ := hT
  obtain ⟨w1, hw1⟩ : ∃ w1, w1 = w.alloc (.cells #[.slice adx (z 0) cax, .slice adt (z (m - 1)) cat] 42) := ⟨_, rfl⟩
  have HB1 : Hid (Below w.heap.size w w1) := by rw [hw1]; exact bel1 _ _
  have HX1 : Hid (B2 w.heap.size (.slice adx (z 0) cax) (.slice adt (z (m - 1)) cat) w1) := by rw [hw1]; exact B2.new w _ _ _
  have hs1 : w1.heap.size = w.heap.size + 1 := by rw [hw1, World.size_alloc]
  have hmk := make_fx cp (by omega)
  have nW : Nu w.heap.size p := HNw.out _ (Nat.le_refl _)
  obtain ⟨M, hM⟩ : ∃ M, m - 1 = M := ⟨_, rfl⟩
  have HM : Hid (m = M + 1 ∧ 1 ≤ M ∧ M ≤ 5) := by show _ ∧ _; omega
  have wM1 : IntKind.i64.wrap ((M : Int) - 1) = (M : Int) - 1 := by rw [IntKind.wrap_i64]; omega
  clear nS nP nX nT hp hTab hz hz6 hcp hcc1 hcc2 hP
  rw [hM] at HX1 HTt HSz HLy HLg HFw Hls Hsl hw1 ⊢
  rw [show m - 2 = M - 1 by omega] at Hsl
  have hM1 : 1 ≤ M := by omega
  have hM5 : M ≤ 5 := by omega
  have hMm : M < m := by omega
  rw [hM] at zn1 zn2
  go_enter Tryz.func17, Tryz.ntmps17
  go_upto_region 1 with fail
  rw [← hw1]
  clear hw1
  go_wp2_with fail
  refine (HLy.out _ HB1.out).mono ?_
  rintro e w2 ⟨gL, cL, rfl, hLy, hgL, h2⟩
  have HB2 : Hid (Below w.heap.size w w2) := bchain HB1.out h2
  have HX2 : Hid (B2 w.heap.size (.slice adx (z 0) cax) (.slice adt (z M) cat) w2) := HX1.out.later h2
  have HL2 : Hid (Lyr w2 (.slice (some ⟨gL, 0, none⟩) M cL) M z b o cap) := hLy
  have nL : Nu gL p := HNw.out _ (by omega)
  have CF := HFw.out _ w2 HB2.out hLy (nL.nv _ _ _)
  have y0 := HX2.out.c0
  have hs2 := h2.size
  clear hLy h2 HB1 HX1 HLy HFw
  go_wp2_with fail
  refine CF.mono ?_
  rintro e w3 ⟨vV, rfl, hVl, h3⟩
  have HU3 : Hid (Ux p (c + vc) w w3) := (HUp.out.1.ux HB2.out).chain h3
  have HX3 : Hid (w3.cell? ⟨w.heap.size, 1, none⟩ = some (.slice adt (z M) cat)) := h3.cell nW HX2.out.c1
  have hLc : ∀ k, k < M → w3.cell? ⟨gL, k * 4, none⟩ = some (.int .i64 ((z (k + 1) : Nat) : Int)) ∧ w3.cell? ⟨gL, k * 4 + 1, none⟩ = some (.int .i64 ((z k : Nat) : Int)) ∧ w3.cell? ⟨gL, k * 4 + 2, none⟩ = some (lyA b o cap z k) ∧ w3.cell? ⟨gL, k * 4 + 3, none⟩ = some (lyB b o cap z k) := fun k hk => by
    obtain ⟨g', c', e, -, -, h⟩ := HL2.out
    cases e
    obtain ⟨a1, a2, a3, a4⟩ := h k hk
    exact ⟨h3.cell nL a1, h3.cell nL a2, h3.cell nL a3, h3.cell nL a4⟩
  have HLc : Hid _ := hLc
  have hcL : M ≤ cL ∧ cL ≤ maxLen := by obtain ⟨g', c', e, a1, a2, -⟩ := HL2.out; cases e; exact ⟨a1, a2⟩
  obtain ⟨gV, cV, rfl, v1, v2, v3, v4⟩ := hVl
  have HVc : Hid (∀ k, k < m → ∃ va : Value, w3.cell? ⟨gV, k, none⟩ = some va ∧ Ar w3 va (z k) (V k) ∧ Ow w2.heap.size va ∧ Nb va gV) := v4
  have nV : Nu gV p := HNw.out _ (by omega)
  obtain ⟨vy, hvy, hAy, hOy, -⟩ := v4 M hMm
  obtain ⟨ady, cay, by', oy, rfl, -, -, -, -⟩ := id hAy
  have hNy : Nv (.slice ady (z M) cay) p := HUp.out.1.ow (fun a n cap e h0 => by have := hOy a n cap e h0; omega)
  have hs3 := h3.size
  clear CF h3 HB2 HX2 HL2 y0 v4 hLc
  unfold maxLen at v2 hcL
  have hMI : (M : Int) < (m : Int) := by omega
  go_upto_region 4 with fail
  have HU4 : Hid (Ux p (c + vc) w w3.drew) := HU3.out.drew
  have y1 : w3.drew.cell? ⟨w.heap.size, 1, none⟩ = some (.slice adt (z M) cat) := HX3.out
  have CFa := Hls.out w3.drew _ (hAy.later (Below.refl _ _).drew) hNy HU4.out
  refine wp_region_held_drew (S := fun W' => W'.cell? ⟨w.heap.size, 1, none⟩ = some (.slice adt (z M) cat)) (by kernel_rfl) y1 (fun HS => ?_)
  have hDr : Below w3.heap.size w3 w3.drew := (Below.refl _ _).drew
  clear y1
  refine wpAnyH_take (i := 0) (v := ?v34) rfl (by kernel_rfl) (by kernel_rfl) (by kernel_rfl) (fun _ _ _ h => h) (Or.inl ⟨by kernel_rfl, ?h34⟩) HS ?r34
  case h34 => (rintro w s1; go_simp) <;> with_reducible rfl
  try simp only [Act.put, List.getElem_toArray, List.getElem_cons_succ, List.getElem_cons_zero, List.setIfInBounds_toArray, List.set_cons_zero, List.set_cons_succ]
  refine wpAnyH_take (i := 1) (v := ?v35) rfl (by kernel_rfl) (by kernel_rfl) (by kernel_rfl) (fun _ _ _ h => h) (Or.inl ⟨by kernel_rfl, ?h35⟩) HS ?r35
  case h35 => (rintro w s1; go_simp) <;> with_reducible rfl
  try simp only [Act.put, List.getElem_toArray, List.getElem_cons_succ, List.getElem_cons_zero, List.setIfInBounds_toArray, List.set_cons_zero, List.set_cons_succ]
  refine wpAnyH_take (i := 2) (v := ?v36) rfl (by kernel_rfl) (by kernel_rfl) (by kernel_rfl) (fun _ _ _ h => h) (Or.inl ⟨by kernel_rfl, ?h36⟩) HS ?r36
  case h36 => (rintro w s1; go_simp) <;> with_reducible rfl
  try simp only [Act.put, List.getElem_toArray, List.getElem_cons_succ, List.getElem_cons_zero, List.setIfInBounds_toArray, List.set_cons_zero, List.set_cons_succ]
  refine wpAnyH_take (i := 3) (v := ?v37) rfl (by kernel_rfl) (by kernel_rfl) (by kernel_rfl) (fun _ _ _ h => h) (Or.inl ⟨by kernel_rfl, ?h37⟩) HS ?r37
  case h37 => (rintro w s1; go_simp) <;> with_reducible rfl
  try simp only [Act.put, List.getElem_toArray, List.getElem_cons_succ, List.getElem_cons_zero, List.setIfInBounds_toArray, List.set_cons_zero, List.set_cons_succ]
  refine wpAnyH_take (i := 4) (v := ?v38) rfl (by kernel_rfl) (by kernel_rfl) (by kernel_rfl) (fun _ _ _ h => h) (Or.inl ⟨by kernel_rfl, ?h38⟩) HS ?r38
  case h38 => (rintro w s1; go_simp) <;> with_reducible rfl
  try simp only [Act.put, List.getElem_toArray, List.getElem_cons_succ, List.getElem_cons_zero, List.setIfInBounds_toArray, List.set_cons_zero, List.set_cons_succ]
  refine wpAnyH_take (i := 6) (v := ?v39) rfl (by kernel_rfl) (by kernel_rfl) (by kernel_rfl) (fun _ _ _ h => h) (Or.inl ⟨by kernel_rfl, ?h39⟩) HS ?r39
  case h39 => (rintro w s1; go_simp) <;> with_reducible rfl
  try simp only [Act.put, List.getElem_toArray, List.getElem_cons_succ, List.getElem_cons_zero, List.setIfInBounds_toArray, List.set_cons_zero, List.set_cons_succ]
  refine wpAnyH_take (i := 7) (v := ?v40) rfl (by kernel_rfl) (by kernel_rfl) (by kernel_rfl) (fun _ _ _ h => h) (Or.inl ⟨by kernel_rfl, ?h40⟩) HS ?r40
  case h40 => (rintro w s1; go_simp) <;> with_reducible rfl
  try simp only [Act.put, List.getElem_toArray, List.getElem_cons_succ, List.getElem_cons_zero, List.setIfInBounds_toArray, List.set_cons_zero, List.set_cons_succ]
  refine wpAnyH_take (i := 8) (v := ?v41) rfl (by kernel_rfl) (by kernel_rfl) (by kernel_rfl) (fun _ _ _ h => h) (Or.inl ⟨by kernel_rfl, ?h41⟩) HS ?r41
  case h41 => (rintro w s1; go_simp) <;> with_reducible rfl
  try simp only [Act.put, List.getElem_toArray, List.getElem_cons_succ, List.getElem_cons_zero, List.setIfInBounds_toArray, List.set_cons_zero, List.set_cons_succ]
  refine wpAnyH_take (i := 9) (v := ?v42) rfl (by kernel_rfl) (by kernel_rfl) (by kernel_rfl) (fun _ _ _ h => h) (Or.inl ⟨by kernel_rfl, ?h42⟩) HS ?r42
  case h42 => (rintro w s1; go_simp) <;> with_reducible rfl
  try simp only [Act.put, List.getElem_toArray, List.getElem_cons_succ, List.getElem_cons_zero, List.setIfInBounds_toArray, List.set_cons_zero, List.set_cons_succ]
  refine wpAnyH_take (i := 10) (v := ?v43) rfl (by kernel_rfl) (by kernel_rfl) (by kernel_rfl) (fun _ _ _ h => h) (Or.inl ⟨by kernel_rfl, ?h43⟩) HS ?r43
  case h43 => (rintro w s1; go_simp) <;> with_reducible rfl
  try simp only [Act.put, List.getElem_toArray, List.getElem_cons_succ, List.getElem_cons_zero, List.setIfInBounds_toArray, List.set_cons_zero, List.set_cons_succ]
  refine wpAnyH_ready (rs := [5]) (by kernel_rfl) (by simp) ?_
  refine AllReadyH.cons rfl (fun K hK => ?_) AllReadyH.nil
  go_simp
  refine CFa.mono ?_
  rintro e w4 ⟨rfl, h4⟩
  refine hK.out _ _ (h4.cell nW HS) (fun HS => ?_)
  clear hK K
  have HU5 : Hid (Ux p (c + vc + lc) w w4) := HU4.out.chain h4
  have h34 : Ux p (c + vc + lc) w3 w4 := (HU3.out.up.ux hDr).chain h4
  have CSl := Hsl.out w4 _ (hAy.ux hNy h34) hNy HU5.out
  refine wpAnyH_ready (rs := [11]) (by kernel_rfl) (by simp) ?_
  refine AllReadyH.cons rfl (fun K hK => ?_) AllReadyH.nil
  go_simp
  refine CSl.mono ?_
  rintro e w5 ⟨v5, rfl, hA5, hO5, h5⟩
  refine hK.out _ _ (h5.cell nW HS) (fun HS => ?_)
  clear hK K
  obtain ⟨ad5, ca5, b5, o5, rfl, -, -, -, -⟩ := id hA5
  refine wpAnyH_take (i := 12) (v := ?v44) rfl (by kernel_rfl) (by kernel_rfl) (by kernel_rfl) (fun _ _ _ h => h) (Or.inl ⟨by kernel_rfl, ?h44⟩) HS ?r44
  case h44 => (rintro w s1; go_simp) <;> with_reducible rfl
  try simp only [Act.put, List.getElem_toArray, List.getElem_cons_succ, List.getElem_cons_zero, List.setIfInBounds_toArray, List.set_cons_zero, List.set_cons_succ]
  refine wpAnyH_take (i := 13) (v := ?v45) rfl (by kernel_rfl) (by kernel_rfl) (by kernel_rfl) (fun _ _ _ h => h) (Or.inl ⟨by kernel_rfl, ?h45⟩) HS ?r45
  case h45 => (rintro w s1; go_simp) <;> with_reducible rfl
  try simp only [Act.put, List.getElem_toArray, List.getElem_cons_succ, List.getElem_cons_zero, List.setIfInBounds_toArray, List.set_cons_zero, List.set_cons_succ]
  refine wpAnyH_done (by kernel_rfl) ?_ _
  have HU6 : Hid (Ux p c5 w w5) := HU5.out.chain h5
  have h35 : Ux p c5 w3 w5 := h34.chain h5
  have hs4 := HU5.out.size
  have H5 : Hid (Ar w5 (.slice ad5 (z M) ca5) (z M) (Sf (M - 1)) ∧ Nv (.slice ad5 (z M) ca5) p) := ⟨hA5, HUp.out.1.ow (fun a n cap e h0 => by have := hO5 a n cap e h0; omega)⟩
  have HLc5 : Hid (∀ k, k < M → w5.cell? ⟨gL, k * 4, none⟩ = some (.int .i64 ((z (k + 1) : Nat) : Int)) ∧ w5.cell? ⟨gL, k * 4 + 1, none⟩ = some (.int .i64 ((z k : Nat) : Int)) ∧ w5.cell? ⟨gL, k * 4 + 2, none⟩ = some (lyA b o cap z k) ∧ w5.cell? ⟨gL, k * 4 + 3, none⟩ = some (lyB b o cap z k)) := fun k hk => by
    obtain ⟨a1, a2, a3, a4⟩ := HLc.out k hk
    exact ⟨h35.cell nL a1, h35.cell nL a2, h35.cell nL a3, h35.cell nL a4⟩
  have HVc5 : Hid (∀ k, k < m → ∃ va : Value, w5.cell? ⟨gV, k, none⟩ = some va ∧ Ar w5 va (z k) (V k) ∧ Nv va p) := fun k hk => by
    obtain ⟨va, a1, a2, a3, -⟩ := HVc.out k hk
    have hn : Nv va p := HUp.out.1.ow (fun a n cap e h0 => by have := a3 a n cap e h0; omega)
    exact ⟨va, h35.cell nV a1, a2.ux hn h35, hn⟩
  have hgL5 : gL < w5.heap.size := by have := World.block_lt_of_cell? _ _ (HLc5.out 0 (by omega)).1; dsimp only at this; exact this
  have hgV5 : gV < w5.heap.size := by obtain ⟨va, a1, -, -⟩ := HVc5.out 0 (by omega); have := World.block_lt_of_cell? _ _ a1; dsimp only at this; exact this
  clear HS CFa CSl hDr h4 h5 h34 h35 hA5 hO5 hAy hOy hvy HLc HVc HU3 HU4 HU5 HX3
  obtain ⟨gG, hgG⟩ : ∃ g, w5.heap.size = g := ⟨_, rfl⟩
  obtain ⟨w6, hw6⟩ : ∃ w6, w6 = w5.alloc (.cells (madeCells #[.int .i64 0] cp) 36) := ⟨_, rfl⟩
  have hb6 : Below w5.heap.size w5 w6 := by rw [hw6]; exact bel1 _ _
  have HR6 : Rw gG cp (fun j => .int .i64 ((fun _ => (0 : Int)) j)) w6 := by rw [hw6, ← hgG]; exact Rw.made w5 (.int .i64 0) cp 36
  have HU7 : Ux p c5 w w6 := HU6.out.later hb6
  have CQ := HLg.out gG c5 w6 HU7
  have hs6 : w6.heap.size = gG + 1 := by rw [hw6, World.size_alloc, hgG]
  have nG : Nu gG p := HNw.out _ (by have := HU6.out.size; omega)
  go_upto_region 6 with fail
  rw [← hw6]
  try rw [hgG]
  clear hw6 hmk
  go_wp2_with fail
  refine CQ.mono ?_
  rintro e w7 ⟨gQ, cQ, rfl, hLq, hgQ, h7⟩
  have HR7 : Hid (Rw gG cp (fun j => .int .i64 ((fun _ => (0 : Int)) j)) w7) := HR6.later h7
  have h57 : Below w5.heap.size w5 w7 := bchain hb6 h7
  have HU7' : Hid (Ux p c5 w w7) := HU7.later h7
  have nQ : Nu gQ p := HNw.out _ (by have := HU7.size; omega)
  have hcQ : M ≤ cQ ∧ cQ ≤ maxLen := by obtain ⟨g', c', e, a1, a2, -⟩ := id hLq; cases e; exact ⟨a1, a2⟩
  unfold maxLen at hcQ
  have HQc : Hid (∀ k, k < M → w7.cell? ⟨gQ, k * 4, none⟩ = some (.int .i64 ((z (k + 1) : Nat) : Int)) ∧ w7.cell? ⟨gQ, k * 4 + 1, none⟩ = some (.int .i64 ((z k : Nat) : Int)) ∧ w7.cell? ⟨gQ, k * 4 + 2, none⟩ = some (lyA gG 0 cp z k) ∧ w7.cell? ⟨gQ, k * 4 + 3, none⟩ = some (lyB gG 0 cp z k)) := by obtain ⟨g', c', e, -, -, h⟩ := hLq; cases e; exact h
  have HLc7 : Hid (∀ k, k < M → w7.cell? ⟨gL, k * 4, none⟩ = some (.int .i64 ((z (k + 1) : Nat) : Int)) ∧ w7.cell? ⟨gL, k * 4 + 1, none⟩ = some (.int .i64 ((z k : Nat) : Int)) ∧ w7.cell? ⟨gL, k * 4 + 2, none⟩ = some (lyA b o cap z k) ∧ w7.cell? ⟨gL, k * 4 + 3, none⟩ = some (lyB b o cap z k)) := fun k hk => by
    obtain ⟨a1, a2, a3, a4⟩ := HLc5.out k hk
    exact ⟨cell_later h57 a1, cell_later h57 a2, cell_later h57 a3, cell_later h57 a4⟩
  have HVc7 : Hid (∀ k, k < m → ∃ va : Value, w7.cell? ⟨gV, k, none⟩ = some va ∧ Ar w7 va (z k) (V k) ∧ Nv va p ∧ Nb va gG) := fun k hk => by
    obtain ⟨va, a1, a2, a3⟩ := HVc5.out k hk
    exact ⟨va, cell_later h57 a1, a2.later h57, a3, a2.spare (by omega)⟩
  have H7 : Hid (Ar w7 (.slice ad5 (z M) ca5) (z M) (Sf (M - 1)) ∧ Nv (.slice ad5 (z M) ca5) p ∧ Nb (.slice ad5 (z M) ca5) gG) := ⟨H5.out.1.later h57, H5.out.2, H5.out.1.spare (by omega)⟩
  have HP7 : Hid (Ar w7 (.slice (some ⟨b, o, none⟩) cp cap) cp P ∧ Nb (.slice (some ⟨b, o, none⟩) cp cap) gG) := ⟨HP.out.1.ux HP.out.2 HU7'.out, HP.out.1.spare (by have := HU6.out.size; omega)⟩
  have HT7 : Hid (TabAt w7) := HUp.out.2.ux HUp.out.1 HU7'.out
  have hgG7 : gG < w7.heap.size := by have := h7.size; omega
  have hwG : w.heap.size ≤ gG := by have := HU6.out.size; omega
  clear hLq h7 h57 hb6 CQ HR6 HU7 HU6 HLc5 HVc5 H5 HLg
  go_upto_region 8 with fail
  go_loopw [16, 54] (fun s16 si wr => ∃ (k : Nat) (F : Nat → Int), k ≤ M ∧ si = .int .i64 (k : Int) ∧ Hid (Rw gG cp (fun j => .int .i64 (F j)) wr) ∧ Hid (GrL z m V Sf (M - k) F) ∧ Hid (∀ j, -9223372036854775808 ≤ F j ∧ F j ≤ 9223372036854775807) ∧ Hid (Uy p (c5 + bkC z m P V Sf k) gG w7 wr) ∧ Hid (k < M → Ar wr s16 (z (M - k)) (Sf (M - 1 - k)) ∧ Nv s16 p ∧ Nb s16 gG)) (fun _ si _ => M - (intOf si).toNat)
  case atStart =>
    refine ⟨0, fun _ => 0, by omega, rfl, HR7, grL_none _ _ _ _ _ _ (by omega), fun _ => ⟨by show (-9223372036854775808 : Int) ≤ 0; omega, by show (0 : Int) ≤ 9223372036854775807; omega⟩, ?_, fun _ => H7.out⟩
    show Uy p (c5 + 0) gG w7 w7
    rw [Int.add_zero]
    exact HU7'.out.up.same.uy gG
  case round =>
    rename World => wo
    obtain ⟨k, F, hk, rfl, HRo, HGo, HFo, HYo, Hso⟩ := hrel
    by_cases hlt : k < M
    · obtain ⟨l, hl⟩ : ∃ l, l + 1 + k = M := ⟨M - 1 - k, by omega⟩
      have hkI : (k : Int) < (M : Int) := by omega
      have wl : IntKind.i64.wrap ((M : Int) - 1 - (k : Int)) = (l : Int) := by rw [IntKind.wrap_i64]; omega
      have hlM : (l : Int) < (M : Int) := by omega
      have hlm : (l : Int) < (m : Int) := by omega
      obtain ⟨hS16, nS16, gS16⟩ := Hso.out hlt
      have hGo := HGo.out
      rw [show M - k = l + 1 by omega] at hGo hS16
      rw [show M - 1 - k = l by omega] at hS16
      obtain ⟨ad16, ca16, b16, o16, hu16, -, -, -, -⟩ := id hS16
      subst hu16
      have hbD : Below wo.heap.size wo wo.drew := (Below.refl _ _).drew
      have HYd : Uy p (c5 + bkC z m P V Sf k) gG w7 wo.drew := HYo.out.chain ((HYo.out.up.ux hbD).uy gG)
      have HRd : Rw gG cp (fun j => .int .i64 (F j)) wo.drew := HRo.out.later hbD
      obtain ⟨a0, a1, a2, a3⟩ := HQc.out l (by omega)
      obtain ⟨vl, hvl, hAl, hnl, hgl⟩ := HVc7.out l (by omega)
      obtain ⟨adl, cal, bl', ol', rfl, -, -, -, -⟩ := id hAl
      have eA : lyA gG 0 cp z l = .slice (some ⟨gG, fsN z l, none⟩) (z (l + 1) * z l) (cp - fsN z l) := by unfold lyA; rw [Nat.zero_add]
      have eB : lyB gG 0 cp z l = .slice (some ⟨gG, fsN z l + z (l + 1) * z l, none⟩) (z (l + 1)) (cp - fsN z l - z (l + 1) * z l) := by unfold lyB; rw [Nat.zero_add]
      rw [eA] at a2
      rw [eB] at a3
      have hgQG : gQ ≠ gG := by omega
      have hgVG : gV ≠ gG := by omega
      have hgLG : gL ≠ gG := by omega
      have d0 := HYd.cell hgQG nQ a0
      have d1 := HYd.cell hgQG nQ a1
      have d2 := HYd.cell hgQG nQ a2
      have d3 := HYd.cell hgQG nQ a3
      have d4 := HYd.cell hgVG nV hvl
      obtain ⟨z1, z2⟩ := HZ6.out l (by omega)
      obtain ⟨y1, y2⟩ := HZ6.out (l + 1) (by omega)
      have hbk := HbC.out k (by omega)
      have hq : fsN z l + z (l + 1) * z l + z (l + 1) ≤ cp := by
        have h1 := fsN_mono z (show l + 1 ≤ M by omega)
        have h2 : fsN z (l + 1) = fsN z l + (z l * z (l + 1) + z (l + 1)) := rfl
        rw [Nat.mul_comm (z l)] at h2
        have h3 := HSz.out.2.1
        omega
      have CFi := fill_any (z (l + 1)) (z l) gG (fsN z l) (cp - fsN z l) (cp - fsN z l - z (l + 1) * z l) cp F (Sf l) (V l) (.slice ad16 (z (l + 1)) ca16) (.slice adl (z l) cal) p (c5 + bkC z m P V Sf k) y2 z2 y1 z1 (by omega) (by omega) hq wo.drew HRd (hS16.later hbD) (hAl.uy hnl hgl HYd) nS16 hnl nG gS16 HYd.up
      obtain ⟨F2, hF2⟩ : ∃ F2, flX (z (l + 1)) (z l) (fsN z l) F (Sf l) (V l) = F2 := ⟨_, rfl⟩
      have HG2 : Hid (GrL z m V Sf l F2) := by rw [← hF2]; exact fl_grL hGo z1
      have HF2 : Hid (∀ j, -9223372036854775808 ≤ F2 j ∧ F2 j ≤ 9223372036854775807) := by rw [← hF2]; exact flX_rng _ _ _ _ _ _ HFo.out (HSr.out l)
      rw [hF2, ot_gr] at CFi
      have hgr := HgR.out l (z (l + 1)) (by omega)
      have hbS := HbS.out k
      rw [show m - 2 - k = l by omega, show m - 1 - k = l + 1 by omega] at hbS
      obtain ⟨c8, hc8⟩ : ∃ c8, c5 + bkC z m P V Sf k + grC (Sf l) (V l) (z l) (z (l + 1)) = c8 := ⟨_, rfl⟩
      have Hc8 : Hid (c5 + bkC z m P V Sf (k + 1) = c8 + (if l = 0 then 0 else cntV (ahO z P (Sf l) (V l) l) (z l))) := by show _ = _; rw [hbS]; omega
      have c80 : 0 ≤ c8 ∧ c8 ≤ 600000000 := by have h1 : (64 : Int) * ((z (l + 1) : Nat) : Int) ≤ 4096 := (by omega); omega
      rw [hc8] at CFi
      have HPb : Nu b p := HP.out.2.nu (by omega)
      have HS16 : Hid (Ar wo.drew (.slice ad16 (z (l + 1)) ca16) (z (l + 1)) (Sf l)) := hS16.later hbD
      have HAl : Hid (Ar w7 (.slice adl (z l) cal) (z l) (V l)) := hAl
      have HvlE : Hid (w7.cell? ⟨gV, l, none⟩ = some (.slice adl (z l) cal)) := hvl
      have HYd' : Hid (Uy p (c5 + bkC z m P V Sf k) gG w7 wo.drew) := HYd
      clear a0 a1 a2 a3 hvl hAl eA eB hGo HRo HGo HFo HYo Hso hS16 hF2 hgr hbS hc8 hbk HRd hbD
      obtain ⟨l4, hl4⟩ : ∃ l4, l * 4 = l4 := ⟨_, rfl⟩
      rw [hl4] at d0 d1 d2 d3
      have hl4I : (l : Int) * 4 = (l4 : Int) := by omega
      obtain ⟨nA, hnA⟩ : ∃ x, z (l + 1) * z l = x := ⟨_, rfl⟩
      obtain ⟨qB, hqB⟩ : ∃ x, fsN z l + nA = x := ⟨_, rfl⟩
      obtain ⟨kA, hkA⟩ : ∃ x, cp - fsN z l = x := ⟨_, rfl⟩
      obtain ⟨kB, hkB⟩ : ∃ x, kA - nA = x := ⟨_, rfl⟩
      obtain ⟨qA, hqA⟩ : ∃ x, fsN z l = x := ⟨_, rfl⟩
      rw [hnA, hkA] at d2 CFi
      rw [hnA, hkA] at d3
      rw [hkB, hqB] at d3 CFi
      rw [hqA] at d2 CFi
      clear hqB hkA hkB hqA
      go_upto_region 11 with fail
      refine wp_region_held_drew (S := fun W' => W'.cell? ⟨gQ, l4, none⟩ = some (.int .i64 ((z (l + 1) : Nat) : Int)) ∧ W'.cell? ⟨gQ, l4 + 1, none⟩ = some (.int .i64 ((z l : Nat) : Int)) ∧ W'.cell? ⟨gQ, l4 + 2, none⟩ = some (.slice (some ⟨gG, qA, none⟩) nA kA) ∧ W'.cell? ⟨gQ, l4 + 3, none⟩ = some (.slice (some ⟨gG, qB, none⟩) (z (l + 1)) kB) ∧ W'.cell? ⟨gV, l, none⟩ = some (.slice adl (z l) cal)) (by kernel_rfl) ⟨d0, d1, d2, d3, d4⟩ (fun HS => ?_)
      generalize wo.drew = wd at *
      clear d0 d1 d2 d3 d4 HYd
      refine wpAnyH_take (i := 0) (v := ?v46) rfl (by kernel_rfl) (by kernel_rfl) (by kernel_rfl) (fun _ _ _ h => h) (Or.inl ⟨by kernel_rfl, ?h46⟩) HS ?r46
      case h46 => (rintro w ⟨e0, e1, e2, e3, e4⟩; go_simp) <;> with_reducible rfl
      try simp only [Act.put, List.getElem_toArray, List.getElem_cons_succ, List.getElem_cons_zero, List.setIfInBounds_toArray, List.set_cons_zero, List.set_cons_succ]
      refine wpAnyH_take (i := 1) (v := ?v47) rfl (by kernel_rfl) (by kernel_rfl) (by kernel_rfl) (fun _ _ _ h => h) (Or.inl ⟨by kernel_rfl, ?h47⟩) HS ?r47
      case h47 => (rintro w ⟨e0, e1, e2, e3, e4⟩; go_simp) <;> with_reducible rfl
      try simp only [Act.put, List.getElem_toArray, List.getElem_cons_succ, List.getElem_cons_zero, List.setIfInBounds_toArray, List.set_cons_zero, List.set_cons_succ]
      refine wpAnyH_take (i := 2) (v := ?v48) rfl (by kernel_rfl) (by kernel_rfl) (by kernel_rfl) (fun _ _ _ h => h) (Or.inl ⟨by kernel_rfl, ?h48⟩) HS ?r48
      case h48 => (rintro w ⟨e0, e1, e2, e3, e4⟩; go_simp) <;> with_reducible rfl
      try simp only [Act.put, List.getElem_toArray, List.getElem_cons_succ, List.getElem_cons_zero, List.setIfInBounds_toArray, List.set_cons_zero, List.set_cons_succ]
      refine wpAnyH_take (i := 3) (v := ?v49) rfl (by kernel_rfl) (by kernel_rfl) (by kernel_rfl) (fun _ _ _ h => h) (Or.inl ⟨by kernel_rfl, ?h49⟩) HS ?r49
      case h49 => (rintro w ⟨e0, e1, e2, e3, e4⟩; go_simp) <;> with_reducible rfl
      try simp only [Act.put, List.getElem_toArray, List.getElem_cons_succ, List.getElem_cons_zero, List.setIfInBounds_toArray, List.set_cons_zero, List.set_cons_succ]
      refine wpAnyH_take (i := 4) (v := ?v50) rfl (by kernel_rfl) (by kernel_rfl) (by kernel_rfl) (fun _ _ _ h => h) (Or.inl ⟨by kernel_rfl, ?h50⟩) HS ?r50
      case h50 => (rintro w ⟨e0, e1, e2, e3, e4⟩; go_simp) <;> with_reducible rfl
      try simp only [Act.put, List.getElem_toArray, List.getElem_cons_succ, List.getElem_cons_zero, List.setIfInBounds_toArray, List.set_cons_zero, List.set_cons_succ]
      refine wpAnyH_take (i := 5) (v := ?v51) rfl (by kernel_rfl) (by kernel_rfl) (by kernel_rfl) (fun _ _ _ h => h) (Or.inl ⟨by kernel_rfl, ?h51⟩) HS ?r51
      case h51 => (rintro w ⟨e0, e1, e2, e3, e4⟩; go_simp) <;> with_reducible rfl
      try simp only [Act.put, List.getElem_toArray, List.getElem_cons_succ, List.getElem_cons_zero, List.setIfInBounds_toArray, List.set_cons_zero, List.set_cons_succ]
      refine wpAnyH_take (i := 6) (v := ?v52) rfl (by kernel_rfl) (by kernel_rfl) (by kernel_rfl) (fun _ _ _ h => h) (Or.inl ⟨by kernel_rfl, ?h52⟩) HS ?r52
      case h52 => (rintro w ⟨e0, e1, e2, e3, e4⟩; go_simp) <;> with_reducible rfl
      try simp only [Act.put, List.getElem_toArray, List.getElem_cons_succ, List.getElem_cons_zero, List.setIfInBounds_toArray, List.set_cons_zero, List.set_cons_succ]
      refine wpAnyH_take (i := 7) (v := ?v53) rfl (by kernel_rfl) (by kernel_rfl) (by kernel_rfl) (fun _ _ _ h => h) (Or.inl ⟨by kernel_rfl, ?h53⟩) HS ?r53
      case h53 => (rintro w ⟨e0, e1, e2, e3, e4⟩; go_simp) <;> with_reducible rfl
      try simp only [Act.put, List.getElem_toArray, List.getElem_cons_succ, List.getElem_cons_zero, List.setIfInBounds_toArray, List.set_cons_zero, List.set_cons_succ]
      refine wpAnyH_take (i := 8) (v := ?v54) rfl (by kernel_rfl) (by kernel_rfl) (by kernel_rfl) (fun _ _ _ h => h) (Or.inl ⟨by kernel_rfl, ?h54⟩) HS ?r54
      case h54 => (rintro w ⟨e0, e1, e2, e3, e4⟩; go_simp) <;> with_reducible rfl
      try simp only [Act.put, List.getElem_toArray, List.getElem_cons_succ, List.getElem_cons_zero, List.setIfInBounds_toArray, List.set_cons_zero, List.set_cons_succ]
      refine wpAnyH_take (i := 9) (v := ?v55) rfl (by kernel_rfl) (by kernel_rfl) (by kernel_rfl) (fun _ _ _ h => h) (Or.inl ⟨by kernel_rfl, ?h55⟩) HS ?r55
      case h55 => (rintro w ⟨e0, e1, e2, e3, e4⟩; go_simp) <;> with_reducible rfl
      try simp only [Act.put, List.getElem_toArray, List.getElem_cons_succ, List.getElem_cons_zero, List.setIfInBounds_toArray, List.set_cons_zero, List.set_cons_succ]
      refine wpAnyH_ready (rs := [10]) (by kernel_rfl) (by simp) ?_
      refine AllReadyH.cons rfl (fun K hK => ?_) AllReadyH.nil
      go_simp
      refine CFi.mono ?_
      rintro e w8 ⟨rfl, hR8, h8⟩
      refine hK.out _ _ ⟨h8.cell hgQG nQ HS.1, h8.cell hgQG nQ HS.2.1, h8.cell hgQG nQ HS.2.2.1, h8.cell hgQG nQ HS.2.2.2.1, h8.cell hgVG nV HS.2.2.2.2⟩ (fun HS => ?_)
      clear hK K HS CFi
      refine wpAnyH_done (by kernel_rfl) ?_ _
      have HY8 : Hid (Uy p c8 gG w7 w8) := HYd'.out.chain h8
      have HR8 : Hid (Rw gG cp (fun j => .int .i64 (F2 j)) w8) := hR8
      have HS8 : Hid (Ar w8 (.slice ad16 (z (l + 1)) ca16) (z (l + 1)) (Sf l)) := HS16.out.uy nS16 gS16 h8
      clear hR8 h8 HS16 HYd'
      by_cases h0 : l = 0
      · have h0I : ¬ (0 : Int) < (l : Int) := by omega
        have HY10 : Hid (Uy p (c5 + bkC z m P V Sf (k + 1)) gG w7 w8) := by rw [Hc8.out, if_pos h0, Int.add_zero]; exact HY8.out
        have HG10 : Hid (GrL z m V Sf (M - (k + 1)) F2) := by rw [show M - (k + 1) = l by omega]; exact HG2.out
        clear HY8 HG2 HS8
        go_wp2
        go_roundw
        case rel => exact ⟨k + 1, F2, by omega, by go_num, HR8, HG10, HF2, HY10, fun h => absurd h (by omega)⟩
        case measure => simp [intOf]; omega
      · have h0I : (0 : Int) < (l : Int) := by omega
        have hbD : Below w8.heap.size w8 w8.drew := (Below.refl _ _).drew
        have HYe : Uy p c8 gG w7 w8.drew := HY8.out.chain ((HY8.out.up.ux hbD).uy gG)
        have HUe : Ux p c8 w w8.drew := HYe.base w c5 HU7'.out hwG
        obtain ⟨a0, a1, a2, a3⟩ := HLc7.out l (by omega)
        obtain ⟨vl, hvl, -, -, -⟩ := HVc7.out l (by omega)
        have eA : lyA b o cap z l = .slice (some ⟨b, o + fsN z l, none⟩) (z (l + 1) * z l) (cap - fsN z l) := rfl
        have eB : lyB b o cap z l = .slice (some ⟨b, o + fsN z l + z (l + 1) * z l, none⟩) (z (l + 1)) (cap - fsN z l - z (l + 1) * z l) := rfl
        have CA := slopesAhead_any (z (l + 1)) (z l) b (o + fsN z l) (cap - fsN z l) (fun i => P (fsN z l + i)) (Sf l) (V l) (some ⟨b, o + fsN z l + z (l + 1) * z l, none⟩) (z (l + 1)) (cap - fsN z l - z (l + 1) * z l) (.slice ad16 (z (l + 1)) ca16) (.slice adl (z l) cal) p c8 y2 z2 c80.1 (by omega) w8.drew
          (lyA_ar (m := m) (HP7.out.1.uy HP.out.2 HP7.out.2 HYe) (by rw [hM]; exact HSz.out.2.1) (by omega) HSz.out.2.2.1 HSz.out.2.2.2)
          (HS8.out.later hbD) (HAl.out.uy hnl hgl HYe) (HPb.nv _ _ _) nS16 hnl HYe.up (HUp.out.2.ux HUp.out.1 HUe)
        have eSO : slaO (z (l + 1)) (z l) (fun i => P (fsN z l + i)) (Sf l) (V l) = ahO z P (Sf l) (V l) l := funext (fun i => sla_ahO z P (Sf l) (V l) l i)
        have eSX : slaX (z (l + 1)) (z l) (fun i => P (fsN z l + i)) (Sf l) (V l) = Sf (l - 1) := by
          have h := HSt.out (l - 1) (by omega)
          rw [show l - 1 + 1 = l by omega] at h
          rw [h]
          exact funext (fun i => sla_ah z P (Sf l) (V l) l i)
        rw [eSO, eSX] at CA
        rw [eA] at a2
        rw [eB] at a3
        have d0 := HYe.cell hgLG nL a0
        have d1 := HYe.cell hgLG nL a1
        have d2 := HYe.cell hgLG nL a2
        have d3 := HYe.cell hgLG nL a3
        have hvl' : vl = .slice adl (z l) cal := Option.some.inj (hvl.symm.trans HvlE.out)
        have d4 := HYe.cell hgVG nV hvl
        rw [hvl'] at d4
        have HRe : Hid (Rw gG cp (fun j => .int .i64 (F2 j)) w8.drew) := HR8.out.later hbD
        have HYe' : Hid (Uy p c8 gG w7 w8.drew) := HYe
        have hsz8 : gG < w8.drew.heap.size := World.block_lt_of_cell? _ _ (HRe.out.c 0 (by omega))
        have hwz : w.heap.size ≤ w8.drew.heap.size := by omega
        rw [hl4] at d0 d1 d2 d3
        rw [hnA] at d2 d3 CA
        clear a0 a1 a2 a3 hvl hvl' eA eB eSO eSX HUe HYe HS8 HY8 HR8 hbD
        generalize cap - fsN z l - nA = kD at *
        generalize o + fsN z l + nA = qD at *
        generalize cap - fsN z l = kC at *
        generalize o + fsN z l = qC at *
        go_upto_region 13 with fail
        refine wp_region_held_drew (S := fun W' => W'.cell? ⟨gL, l4, none⟩ = some (.int .i64 ((z (l + 1) : Nat) : Int)) ∧ W'.cell? ⟨gL, l4 + 1, none⟩ = some (.int .i64 ((z l : Nat) : Int)) ∧ W'.cell? ⟨gL, l4 + 2, none⟩ = some (.slice (some ⟨b, qC, none⟩) nA kC) ∧ W'.cell? ⟨gL, l4 + 3, none⟩ = some (.slice (some ⟨b, qD, none⟩) (z (l + 1)) kD) ∧ W'.cell? ⟨gV, l, none⟩ = some (.slice adl (z l) cal)) (by kernel_rfl) ⟨d0, d1, d2, d3, d4⟩ (fun HS => ?_)
        generalize w8.drew = we at *
        clear d0 d1 d2 d3 d4
        refine wpAnyH_take (i := 0) (v := ?v56) rfl (by kernel_rfl) (by kernel_rfl) (by kernel_rfl) (fun _ _ _ h => h) (Or.inl ⟨by kernel_rfl, ?h56⟩) HS ?r56
        case h56 => (rintro w ⟨e0, e1, e2, e3, e4⟩; go_simp) <;> with_reducible rfl
        try simp only [Act.put, List.getElem_toArray, List.getElem_cons_succ, List.getElem_cons_zero, List.setIfInBounds_toArray, List.set_cons_zero, List.set_cons_succ]
        refine wpAnyH_take (i := 1) (v := ?v57) rfl (by kernel_rfl) (by kernel_rfl) (by kernel_rfl) (fun _ _ _ h => h) (Or.inl ⟨by kernel_rfl, ?h57⟩) HS ?r57
        case h57 => (rintro w ⟨e0, e1, e2, e3, e4⟩; go_simp) <;> with_reducible rfl
        try simp only [Act.put, List.getElem_toArray, List.getElem_cons_succ, List.getElem_cons_zero, List.setIfInBounds_toArray, List.set_cons_zero, List.set_cons_succ]
        refine wpAnyH_take (i := 2) (v := ?v58) rfl (by kernel_rfl) (by kernel_rfl) (by kernel_rfl) (fun _ _ _ h => h) (Or.inl ⟨by kernel_rfl, ?h58⟩) HS ?r58
        case h58 => (rintro w ⟨e0, e1, e2, e3, e4⟩; go_simp) <;> with_reducible rfl
        try simp only [Act.put, List.getElem_toArray, List.getElem_cons_succ, List.getElem_cons_zero, List.setIfInBounds_toArray, List.set_cons_zero, List.set_cons_succ]
        refine wpAnyH_take (i := 3) (v := ?v59) rfl (by kernel_rfl) (by kernel_rfl) (by kernel_rfl) (fun _ _ _ h => h) (Or.inl ⟨by kernel_rfl, ?h59⟩) HS ?r59
        case h59 => (rintro w ⟨e0, e1, e2, e3, e4⟩; go_simp) <;> with_reducible rfl
        try simp only [Act.put, List.getElem_toArray, List.getElem_cons_succ, List.getElem_cons_zero, List.setIfInBounds_toArray, List.set_cons_zero, List.set_cons_succ]
        refine wpAnyH_take (i := 4) (v := ?v60) rfl (by kernel_rfl) (by kernel_rfl) (by kernel_rfl) (fun _ _ _ h => h) (Or.inl ⟨by kernel_rfl, ?h60⟩) HS ?r60
        case h60 => (rintro w ⟨e0, e1, e2, e3, e4⟩; go_simp) <;> with_reducible rfl
        try simp only [Act.put, List.getElem_toArray, List.getElem_cons_succ, List.getElem_cons_zero, List.setIfInBounds_toArray, List.set_cons_zero, List.set_cons_succ]
        refine wpAnyH_take (i := 5) (v := ?v61) rfl (by kernel_rfl) (by kernel_rfl) (by kernel_rfl) (fun _ _ _ h => h) (Or.inl ⟨by kernel_rfl, ?h61⟩) HS ?r61
        case h61 => (rintro w ⟨e0, e1, e2, e3, e4⟩; go_simp) <;> with_reducible rfl
        try simp only [Act.put, List.getElem_toArray, List.getElem_cons_succ, List.getElem_cons_zero, List.setIfInBounds_toArray, List.set_cons_zero, List.set_cons_succ]
        refine wpAnyH_take (i := 6) (v := ?v62) rfl (by kernel_rfl) (by kernel_rfl) (by kernel_rfl) (fun _ _ _ h => h) (Or.inl ⟨by kernel_rfl, ?h62⟩) HS ?r62
        case h62 => (rintro w ⟨e0, e1, e2, e3, e4⟩; go_simp) <;> with_reducible rfl
        try simp only [Act.put, List.getElem_toArray, List.getElem_cons_succ, List.getElem_cons_zero, List.setIfInBounds_toArray, List.set_cons_zero, List.set_cons_succ]
        refine wpAnyH_take (i := 7) (v := ?v63) rfl (by kernel_rfl) (by kernel_rfl) (by kernel_rfl) (fun _ _ _ h => h) (Or.inl ⟨by kernel_rfl, ?h63⟩) HS ?r63
        case h63 => (rintro w ⟨e0, e1, e2, e3, e4⟩; go_simp) <;> with_reducible rfl
        try simp only [Act.put, List.getElem_toArray, List.getElem_cons_succ, List.getElem_cons_zero, List.setIfInBounds_toArray, List.set_cons_zero, List.set_cons_succ]
        refine wpAnyH_take (i := 8) (v := ?v64) rfl (by kernel_rfl) (by kernel_rfl) (by kernel_rfl) (fun _ _ _ h => h) (Or.inl ⟨by kernel_rfl, ?h64⟩) HS ?r64
        case h64 => (rintro w ⟨e0, e1, e2, e3, e4⟩; go_simp) <;> with_reducible rfl
        try simp only [Act.put, List.getElem_toArray, List.getElem_cons_succ, List.getElem_cons_zero, List.setIfInBounds_toArray, List.set_cons_zero, List.set_cons_succ]
        refine wpAnyH_take (i := 9) (v := ?v65) rfl (by kernel_rfl) (by kernel_rfl) (by kernel_rfl) (fun _ _ _ h => h) (Or.inl ⟨by kernel_rfl, ?h65⟩) HS ?r65
        case h65 => (rintro w ⟨e0, e1, e2, e3, e4⟩; go_simp) <;> with_reducible rfl
        try simp only [Act.put, List.getElem_toArray, List.getElem_cons_succ, List.getElem_cons_zero, List.setIfInBounds_toArray, List.set_cons_zero, List.set_cons_succ]
        refine wpAnyH_ready (rs := [10]) (by kernel_rfl) (by simp) ?_
        refine AllReadyH.cons rfl (fun K hK => ?_) AllReadyH.nil
        go_simp
        refine CA.mono ?_
        rintro e w9 ⟨g9, rfl, hA9, hg9, h9⟩
        refine hK.out _ _ ⟨h9.cell nL HS.1, h9.cell nL HS.2.1, h9.cell nL HS.2.2.1, h9.cell nL HS.2.2.2.1, h9.cell nV HS.2.2.2.2⟩ (fun HS => ?_)
        clear hK K CA
        refine wpAnyH_take (i := 11) (v := ?v66) rfl (by kernel_rfl) (by kernel_rfl) (by kernel_rfl) (fun _ _ _ h => h) (Or.inl ⟨by kernel_rfl, ?h66⟩) HS ?r66
        case h66 => (rintro w ⟨e0, e1, e2, e3, e4⟩; go_simp) <;> with_reducible rfl
        try simp only [Act.put, List.getElem_toArray, List.getElem_cons_succ, List.getElem_cons_zero, List.setIfInBounds_toArray, List.set_cons_zero, List.set_cons_succ]
        refine wpAnyH_done (by kernel_rfl) ?_ _
        have HY10 : Hid (Uy p (c5 + bkC z m P V Sf (k + 1)) gG w7 w9) := by rw [Hc8.out, if_neg h0]; exact HYe'.out.chain (h9.uy gG)
        have HG10 : Hid (GrL z m V Sf (M - (k + 1)) F2) := by rw [show M - (k + 1) = l by omega]; exact HG2.out
        have HR10 : Hid (Rw gG cp (fun j => .int .i64 (F2 j)) w9) := HRe.out.ux nG h9
        have HA10 : Hid (k + 1 < M → Ar w9 (.slice (some ⟨g9, 0, none⟩) (z l) (z l)) (z (M - (k + 1))) (Sf (M - 1 - (k + 1))) ∧ Nv (.slice (some ⟨g9, 0, none⟩) (z l) (z l)) p ∧ Nb (.slice (some ⟨g9, 0, none⟩) (z l) (z l)) gG) := fun _ => by
          rw [show M - (k + 1) = l by omega, show M - 1 - (k + 1) = l - 1 by omega]
          exact ⟨hA9, (HNw.out g9 (by omega)).nv _ _ _, fun a n cap e _ => by cases e; dsimp only; omega⟩
        clear HS hA9 h9 HYe' HG2 HRe Hc8
        go_wp2
        go_roundw
        case rel => exact ⟨k + 1, F2, by omega, by go_num, HR10, HG10, HF2, HY10, HA10⟩
        case measure => simp [intOf]; omega
    · obtain rfl : k = M := by omega
      have hkI : ¬ (k : Int) < (k : Int) := by omega
      have HQ : Hid (Ar wo (.slice (some ⟨gG, 0, none⟩) cp cp) cp (gdG false z m P x t) ∧ Ux p (c5 + bkC z m P V Sf k) w wo) := by
        have hg := HGo.out
        rw [Nat.sub_self] at hg
        exact ⟨(HRo.out.ar (by omega) (fun j _ => HFo.out j)).congr (fun j hj => HgG.out F (grL_all hg) j hj), HYo.out.base w c5 HU7'.out hwG⟩
      clear HRo HYo Hso HGo HFo
      go_wp2
      go_ret2
      exact ⟨gG, rfl, HQ.out.1, hwG, HQ.out.2⟩
end Go.Proofs.YtcaficenocblfaaGreatDoor
