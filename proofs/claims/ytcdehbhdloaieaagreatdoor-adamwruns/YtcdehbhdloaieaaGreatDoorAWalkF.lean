/-
  adamw's Step: what it answers, with a unit or with none, and what it refuses.
-/
import Derived.Test.YtcdehbhdloaieaaGreatDoorAWalkE
set_option linter.unusedVariables false
set_option linter.unusedSimpArgs false
namespace Go.Proofs.YtcdehbhdloaieaaGreatDoor
open Go.RowKit

theorem step9_ok (B W : Int) (vD : Value) (nD : Nat) (at' fa : Nat → Int) (b1 b2 ep dc cl T : Int) (vM vV vp vg : Value) (n : Nat) (M V P G : Nat → Int) (p : Option Addr) (c : Int) (w : World) (hI : InR9 B W nD at' fa b1 b2 ep dc cl) (hbd : bd9 B ep dc cl) (T0 : 0 ≤ T) (T1 : T < 1048576) (hn : n ≤ 65536) (c0 : 0 ≤ c) (c1 : c ≤ 100000000) (hD : Drp w vD nD at' fa) (hM : Ar w vM n M) (hV : Ar w vV n V) (hP : Ar w vp n P) (hG : Ar w vg n G) (nM : Nv vM p) (nV : Nv vV p) (nP : Nv vp p) (nG : Nv vg p) (hp : Up p c w) (hT : TabAt w) :
    Calls Tryz.prog 7 #[.pointer p, .agg #[.int .i64 B, .int .i64 W, vD, .int .i64 b1, .int .i64 b2, .int .i64 ep, .int .i64 dc, .int .i64 cl], .agg #[vM, vV, .int .i64 T], vp, vg] w fun e w' => ∃ g1 g2 g3 : Nat, e = .returned (.tuple #[.agg #[.slice (some ⟨g1, 0, none⟩) n n, .slice (some ⟨g2, 0, none⟩) n n, .int .i64 (T + 1)], .slice (some ⟨g3, 0, none⟩) n n, .int .i64 0]) ∧ Ar w' (.slice (some ⟨g1, 0, none⟩) n n) n (fun i => aM (stpV B W nD at' fa b1 b2 ep dc (T + 1)) (M i) (cpF cl n G i)) ∧ Ar w' (.slice (some ⟨g2, 0, none⟩) n n) n (fun i => aV (stpV B W nD at' fa b1 b2 ep dc (T + 1)) (V i) (cpF cl n G i)) ∧ Ar w' (.slice (some ⟨g3, 0, none⟩) n n) n (fun i => aY (stpV B W nD at' fa b1 b2 ep dc (T + 1)) (M i) (V i) (P i) (cpF cl n G i)) ∧ (w.heap.size ≤ g1 ∧ w.heap.size ≤ g2 ∧ w.heap.size ≤ g3) ∧ Ux p (c + (cpN cl n G + aS (stpV B W nD at' fa b1 b2 ep dc (T + 1)) M V P (cpF cl n G) n)) w w' := by
  obtain ⟨hB, hep, hdc, hcl⟩ := hbd
  have hcp := cpN_in cl n G
  have hbd : ∀ (v : Value) (f : Nat → Int), Ar w v n f → ∀ i, i < n → -9223372036854775808 ≤ f i ∧ f i ≤ 9223372036854775807 := fun v f h i hi => by
    obtain ⟨_, _, _, _, _, _, _, _, h4⟩ := h
    exact (h4 i hi).2
  have bM := hbd _ _ hM
  have bV := hbd _ _ hV
  have bP := hbd _ _ hP
  have bG : ∀ i, i < n → -9223372036854775808 ≤ cpF cl n G i ∧ cpF cl n G i ≤ 9223372036854775807 := fun i hi => cpF_in cl n G (hbd _ _ hG) i hi
  have hrt := rtV_in B W (T + 1) hI.1 hB (by omega)
  have hp1 := pwN_in b1 hI.2.1.1 hI.2.1.2 (T + 1).toNat
  have hp2 := pwN_in b2 hI.2.2.1.1 hI.2.2.1.2 (T + 1).toNat
  have ek : (⟨b1, b2, ep, dc, rtV B W nD at' fa (T + 1), 4294967296 - pwN b1 (T + 1).toNat, 4294967296 - pwN b2 (T + 1).toNat⟩ : Stp) = stpV B W nD at' fa b1 b2 ep dc (T + 1) := rfl
  have HK : ∀ W' : World, Below w.heap.size w W' → _ := fun W' hb => chk9_any B W vD nD at' fa b1 b2 ep dc cl T vM vV vp vg n n n n M V P G W' (hD.later hb) (hM.later hb) (hV.later hb) (hP.later hb) (hG.later hb) 0 (fun _ => rfl) (fun h => absurd ⟨hI, ⟨hn, hn, hn, hn⟩, ⟨rfl, rfl, rfl⟩, T0, T1⟩ h)
  have HS : ∀ W' : World, Below w.heap.size w W' → _ := fun W' hb => stepOf_any B W vD nD at' fa b1 b2 ep dc cl (T + 1) W' (hD.later hb) hI hB (by omega) (by omega)
  have HC : ∀ W' : World, Below w.heap.size w W' → _ := fun W' hb => Clip_ux cl vg n G (by have := hI.2.2.2.2.2; omega) hcl hn p c c0 (by omega) W' (hG.later hb) nG (hp.later hb)
  have HM : ∀ (j : Nat) (W' : World), j < n → TabAt W' → Up p (c + (cpN cl n G + aS (stpV B W nD at' fa b1 b2 ep dc (T + 1)) M V P (cpF cl n G) j)) W' → _ := fun j W' hj ht hu => move_ux B W b1 b2 ep dc cl (T + 1) (rtV B W nD at' fa (T + 1)) (4294967296 - pwN b1 (T + 1).toNat) (4294967296 - pwN b2 (T + 1).toNat) (M j) (V j) (P j) (cpF cl n G j) vD (by obtain ⟨ad, cap, b, o, e, -⟩ := hD; exact ⟨ad, nD, cap, e⟩) hI.2.1 hI.2.2.1 (by have := hI.2.2.2.1; omega) (by have := hI.2.2.2.2.1; omega) (by omega) (by omega) (by omega) (bM j hj) (bV j hj) (bP j hj) (bG j hj) p _ (by have := (aS_rng (stpV B W nD at' fa b1 b2 ep dc (T + 1)) M V P (cpF cl n G) j).1; omega) (by have := (aS_rng (stpV B W nD at' fa b1 b2 ep dc (T + 1)) M V P (cpF cl n G) j).2; omega) W' ht hu
  obtain ⟨adD, caD, _, _, rfl, -, -, -, -⟩ := hD
  obtain ⟨adM, caM, _, _, rfl, -, -, -, -⟩ := id hM
  obtain ⟨adV, caV, _, _, rfl, -, -, -, -⟩ := id hV
  obtain ⟨adP, caP, _, _, rfl, -, -, -, -⟩ := id hP
  obtain ⟨adG, caG, _, _, rfl, -, -, -, -⟩ := id hG
  refine step9_of p c (cpN cl n G) (aS (stpV B W nD at' fa b1 b2 ep dc (T + 1)) M V P (cpF cl n G)) B W b1 b2 ep dc cl T (T + 1) _ _ _ (cpB cl n G) adD adM adV adP adG nD n caD caM caV caP caG M V P (cpF cl n G) _ _ _ hn rfl rfl T0 T1 w hT hp hM hV hP nM nV nP HK HS HC (fun j W' hj ht hu => ?_) (fun j hj => ⟨clv_rng _, clv_rng _, clv_rng _⟩)
  have h := HM j W' hj ht hu
  rw [ek] at h
  have e2 : c + (cpN cl n G + aS (stpV B W nD at' fa b1 b2 ep dc (T + 1)) M V P (cpF cl n G) (j + 1)) = c + (cpN cl n G + aS (stpV B W nD at' fa b1 b2 ep dc (T + 1)) M V P (cpF cl n G) j) + aC (stpV B W nD at' fa b1 b2 ep dc (T + 1)) (M j) (V j) (P j) (cpF cl n G j) := by
    show c + (cpN cl n G + (aS (stpV B W nD at' fa b1 b2 ep dc (T + 1)) M V P (cpF cl n G) j + aC (stpV B W nD at' fa b1 b2 ep dc (T + 1)) (M j) (V j) (P j) (cpF cl n G j))) = _
    omega
  rw [e2]
  exact h
set_option maxRecDepth 100000 in
set_option maxHeartbeats 8000000 in
theorem step9_no (B W : Int) (vD : Value) (nD : Nat) (at' fa : Nat → Int) (b1 b2 ep dc cl T : Int) (vM vV vp vg : Value) (nM nV nP nG : Nat) (M V P G : Nat → Int) (p : Option Addr) (c : Int) (w : World) (hg : ¬ stG (InR9 B W nD at' fa b1 b2 ep dc cl) nM nV nP nG T) (hD : Drp w vD nD at' fa) (hM : Ar w vM nM M) (hV : Ar w vV nV V) (hP : Ar w vp nP P) (hG : Ar w vg nG G) (hp : Up p c w) :
    Calls Tryz.prog 7 #[.pointer p, .agg #[.int .i64 B, .int .i64 W, vD, .int .i64 b1, .int .i64 b2, .int .i64 ep, .int .i64 dc, .int .i64 cl], .agg #[vM, vV, .int .i64 T], vp, vg] w fun e w' => ∃ E : Int, e = .returned (.tuple #[.agg #[.slice none 0 0, .slice none 0 0, .int .i64 0], .slice none 0 0, .int .i64 E]) ∧ stE (InR9 B W nD at' fa b1 b2 ep dc cl) nM nV nP nG T E ∧ Below w.heap.size w w' := by
  obtain ⟨E, hE⟩ : ∃ E : Int, stE (InR9 B W nD at' fa b1 b2 ep dc cl) nM nV nP nG T E := by
    by_cases a : InR9 B W nD at' fa b1 b2 ep dc cl
    · by_cases b : lnP nM nV nP nG
      · by_cases d : smP nM nV nP nG
        · exact ⟨2, fun h => absurd a h, fun _ h => absurd b h, fun _ _ h => absurd d h, fun _ _ _ _ => rfl⟩
        · exact ⟨40, fun h => absurd a h, fun _ h => absurd b h, fun _ _ _ => rfl, fun _ _ h => absurd h d⟩
      · exact ⟨3, fun h => absurd a h, fun _ _ => rfl, fun _ h => absurd h b, fun _ h => absurd h b⟩
    · exact ⟨80, fun _ => rfl, fun h => absurd h a, fun h => absurd h a, fun h => absurd h a⟩
  have hne := stE_ne hE hg
  have HE : Hid (stE (InR9 B W nD at' fa b1 b2 ep dc cl) nM nV nP nG T E) := hE
  have CK : Hid (∀ W' : World, Below w.heap.size w W' → Calls Tryz.prog 18 #[.agg #[.int .i64 B, .int .i64 W, vD, .int .i64 b1, .int .i64 b2, .int .i64 ep, .int .i64 dc, .int .i64 cl], .agg #[vM, vV, .int .i64 T], vp, vg] W' fun e w' => e = .returned (.int .i64 E) ∧ Below W'.heap.size W' w') := fun W' hb => chk9_any B W vD nD at' fa b1 b2 ep dc cl T vM vV vp vg nM nV nP nG M V P G W' (hD.later hb) (hM.later hb) (hV.later hb) (hP.later hb) (hG.later hb) E (fun h => absurd h hg) (fun _ => hE)
  obtain ⟨adD, caD, _, _, rfl, -, -, -, -⟩ := hD
  obtain ⟨adM, caM, _, _, rfl, -, -, -, -⟩ := hM
  obtain ⟨adV, caV, _, _, rfl, -, -, -, -⟩ := hV
  obtain ⟨adP, caP, _, _, rfl, -, -, -, -⟩ := hP
  obtain ⟨adG, caG, _, _, rfl, -, -, -, -⟩ := hG
  clear hE hg hp
  have hEb : (E != 0) = true := by simp [hne]
  obtain ⟨w1, hw1⟩ : ∃ w1, w1 = ((w.alloc (.cells #[.int .i64 B, .int .i64 W, .slice adD nD caD, .int .i64 b1, .int .i64 b2, .int .i64 ep, .int .i64 dc, .int .i64 cl] 27)).alloc (.cells #[.slice adM nM caM, .slice adV nV caV, .int .i64 T] 30)).alloc (.cells #[.slice none 0 0, .slice none 0 0, .int .i64 0] 30) := ⟨_, rfl⟩
  have HB1 : Hid (Below w.heap.size w w1) := by rw [hw1]; exact bchain (bel2 _ _ _) (bel1 _ _)
  have HX : Q8 w.heap.size (.int .i64 B) (.int .i64 W) (.slice adD nD caD) (.int .i64 b1) (.int .i64 b2) (.int .i64 ep) (.int .i64 dc) (.int .i64 cl) w1 := by rw [hw1]; exact ((Q8.new w _ _ _ _ _ _ _ _ _).later (bel1 _ _)).later (bel1 _ _)
  have HA : Y3 (w.heap.size + 1) (.slice adM nM caM) (.slice adV nV caV) (.int .i64 T) w1 := by rw [hw1]; have h := (Y3.new (w.alloc (.cells #[.int .i64 B, .int .i64 W, .slice adD nD caD, .int .i64 b1, .int .i64 b2, .int .i64 ep, .int .i64 dc, .int .i64 cl] 27)) (.slice adM nM caM) (.slice adV nV caV) (.int .i64 T) 30).later (bel1 _ (.cells #[.slice none 0 0, .slice none 0 0, .int .i64 0] 30)); rw [World.size_alloc] at h; exact h
  have HR : Y3 (w.heap.size + 1 + 1) (.slice none 0 0) (.slice none 0 0) (.int .i64 0) w1 := by rw [hw1]; have h := Y3.new ((w.alloc (.cells #[.int .i64 B, .int .i64 W, .slice adD nD caD, .int .i64 b1, .int .i64 b2, .int .i64 ep, .int .i64 dc, .int .i64 cl] 27)).alloc (.cells #[.slice adM nM caM, .slice adV nV caV, .int .i64 T] 30)) (.slice none 0 0) (.slice none 0 0) (.int .i64 0) 30; rw [World.size_alloc, World.size_alloc] at h; exact h
  go_enter Tryz.func7, Tryz.ntmps7
  go_upto_region 1 with fail
  rw [← hw1]
  clear hw1
  obtain ⟨h1, hh1⟩ : ∃ x, w.heap.size + 1 = x := ⟨_, rfl⟩
  obtain ⟨h2, hh2⟩ : ∃ x, h1 + 1 = x := ⟨_, rfl⟩
  simp only [hh1, hh2] at HA HR ⊢
  have hle : w.heap.size ≤ h2 := by omega
  clear hh1 hh2
  have x0 := HX.c0
  have x1 := HX.c1
  have x2 := HX.c2
  have x3 := HX.c3
  have x4 := HX.c4
  have x5 := HX.c5
  have x6 := HX.c6
  have x7 := HX.c7
  have y0 := HA.c0
  have y1 := HA.c1
  have y2 := HA.c2
  go_wp2_with fail
  refine (CK.out _ HB1.out).mono ?_
  rintro e w2 ⟨rfl, hb⟩
  have HB2 : Hid (Below w.heap.size w w2) := bchain HB1.out hb
  replace HR := HR.later hb
  clear hb CK HB1 x0 x1 x2 x3 x4 x5 x6 x7 y0 y1 y2 HX HA
  have r0 := HR.c0
  have r1 := HR.c1
  have r2 := HR.c2
  have s0 := HR.f0
  have s1 := HR.f1
  have s2 := HR.f2
  have HR' : Hid (Y3 h2 (.slice none 0 0) (.slice none 0 0) (.int .i64 0) w2) := HR
  clear HR hne
  go_wp2
  have HZ := ((HR'.out.set0 (.slice none 0 0)).set1 (.slice none 0 0)).set2 (.int .i64 0)
  have z0 := HZ.c0
  have z1 := HZ.c1
  have z2 := HZ.c2
  exact bodyPost_ret (v := .tuple #[.agg #[.slice none 0 0, .slice none 0 0, .int .i64 0], .slice none 0 0, .int .i64 E]) (by simp [results, Tryz.results7, go_sem, z0, z1, z2]) rfl ⟨E, rfl, HE.out, ((HB2.out.setCell hle _).setCell hle _).setCell hle _⟩
end Go.Proofs.YtcdehbhdloaieaaGreatDoor
