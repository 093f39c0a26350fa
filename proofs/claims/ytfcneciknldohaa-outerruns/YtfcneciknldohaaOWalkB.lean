/-
  The contracts of outer's rows and Step, with a unit and with none.
-/
import Derived.Test.YtfcneciknldohaaOWalkA
set_option linter.unusedVariables false
set_option linter.unusedSimpArgs false
namespace Go.Proofs.Ytfcneciknldohaa
open Go.RowKit

set_option maxRecDepth 100000 in
set_option maxHeartbeats 4000000 in
theorem sum10_ux (k : Int) (va vb : Value) (n : Nat) (f g : Nat → Int) (k0 : -9223372036854775808 ≤ k) (k1 : k ≤ 9223372036854775807) (hn : n ≤ 65536) (p : Option Addr) (c : Int) (c0 : 0 ≤ c) (c1 : c ≤ 800000000) (bu : Nat) (w : World) (cu : w.cell? ⟨bu, 0, none⟩ = some (.pointer p)) (hA : Ar w va n f) (hB : Ar w vb n g) (ha : Nv va p) (hb : Nv vb p) (hp : Up p c w) :
    Calls Try.prog 22 #[.int .i64 k, va, vb, .pointer (some ⟨bu, 0, none⟩)] w fun e w' => (∃ (ad : Option Addr) (cap : Nat), e = .returned (.slice ad n cap) ∧ Ar w' (.slice ad n cap) n (fun i => clv (rnd (k * f i + g i * 4294967296) 32)) ∧ Ow w.heap.size (.slice ad n cap)) ∧ Ux p (c + cntV (fun i => ovv (rnd (k * f i + g i * 4294967296) 32)) n) w w' := by
  have CS := axpy_ux k va vb n f g k0 k1 hn p c c0 c1 w hA hB ha hb hp
  obtain ⟨ad0, ca0, b0, o0, rfl, -, -, -, -⟩ := hA
  obtain ⟨ad1, ca1, b1, o1, rfl, -, -, -, -⟩ := hB
  generalize (fun i => clv (rnd (k * f i + g i * 4294967296) 32)) = F at *
  generalize cntV (fun i => ovv (rnd (k * f i + g i * 4294967296) 32)) n = C at *
  clear ha hb hp
  go_enter Try.func22, Try.ntmps22
  go_wp2_with fail
  refine CS.mono ?_
  rintro e w1 ⟨⟨ad, cap, rfl, hA, hO⟩, hU⟩
  have HL : Hid (Ar w1 (.slice ad n cap) n F ∧ Ow w.heap.size (.slice ad n cap) ∧ Ux p (c + C) w w1) := ⟨hA, hO, hU⟩
  clear CS hA hO hU
  go_wp2
  go_ret
  exact ⟨⟨ad, cap, rfl, HL.out.1, HL.out.2.1⟩, HL.out.2.2⟩
/-- What a step answers. -/
def St10 (w : World) (vP vB : Value) (n : Nat) (r m : Int) (B P G : Nat → Int) (w' : World) : Prop := Ar w' vP n (fun i => oP r m (B i) (P i) (G i)) ∧ Ar w' vB n (fun i => oB m (B i) (G i)) ∧ Ow w.heap.size vP ∧ Ow w.heap.size vB
set_option maxRecDepth 100000 in
set_option maxHeartbeats 4000000 in
theorem rows10_ux (r m : Int) (hr : ruO r m) (r1 : r ≤ 9223372036854775807) (vP vB vG : Value) (n : Nat) (P B G : Nat → Int) (hn : n ≤ 65536) (p : Option Addr) (c : Int) (c0 : 0 ≤ c) (c1 : c ≤ 100000000) (bu : Nat) (w : World) (cu : w.cell? ⟨bu, 0, none⟩ = some (.pointer p)) (nu : Nu bu p) (hP : Ar w vP n P) (hB : Ar w vB n B) (hG : Ar w vG n G) (nP : Nv vP p) (nB : Nv vB p) (nG : Nv vG p) (hp : Up p c w) :
    Calls Try.prog 21 #[.int .i64 r, .int .i64 m, .agg #[vP, vB], vG, .func (.func 22) #[] #[.pointer (some ⟨bu, 0, none⟩)]] w fun e w' => (∃ (a1 a2 : Option Addr) (k1 k2 : Nat), e = .returned (.agg #[.slice a1 n k1, .slice a2 n k2]) ∧ St10 w (.slice a1 n k1) (.slice a2 n k2) n r m B P G w') ∧ Ux p (c + oS r m B P G n) w w' := by
  obtain ⟨r0, m0, m1⟩ := hr
  have hcnt := oS_rows r m B P G n
  have hs1 := cnt_rng (fun i => ovv (obV m (B i) (G i))) n
  have hs2 := cnt_rng (fun i => ovv (odV m (B i) (G i))) n
  have hs3 := cnt_rng (fun i => ovv (opV r m (B i) (P i) (G i))) n
  have C1 : Hid (∀ W : World, W.cell? ⟨bu, 0, none⟩ = some (.pointer p) → Ar W vB n B → Ar W vG n G → Up p c W → Calls Try.prog 22 #[.int .i64 m, vB, vG, .pointer (some ⟨bu, 0, none⟩)] W fun e w' => (∃ (ad : Option Addr) (cap : Nat), e = .returned (.slice ad n cap) ∧ Ar w' (.slice ad n cap) n (fun i => oB m (B i) (G i)) ∧ Ow W.heap.size (.slice ad n cap)) ∧ Ux p (c + cntV (fun i => ovv (obV m (B i) (G i))) n) W w') := fun W q1 q2 q3 q4 => sum10_ux m vB vG n B G (by omega) (by omega) hn p c c0 (by omega) bu W q1 q2 q3 nB nG q4
  have C2 : Hid (∀ (W : World) (v : Value), W.cell? ⟨bu, 0, none⟩ = some (.pointer p) → Ar W v n (fun i => oB m (B i) (G i)) → Nv v p → Ar W vG n G → Up p (c + cntV (fun i => ovv (obV m (B i) (G i))) n) W → Calls Try.prog 22 #[.int .i64 m, v, vG, .pointer (some ⟨bu, 0, none⟩)] W fun e w' => (∃ (ad : Option Addr) (cap : Nat), e = .returned (.slice ad n cap) ∧ Ar w' (.slice ad n cap) n (fun i => oD m (B i) (G i)) ∧ Ow W.heap.size (.slice ad n cap)) ∧ Ux p (c + cntV (fun i => ovv (obV m (B i) (G i))) n + cntV (fun i => ovv (odV m (B i) (G i))) n) W w') := fun W v q1 q2 q3 q4 q5 => sum10_ux m v vG n (fun i => oB m (B i) (G i)) G (by omega) (by omega) hn p _ (by omega) (by omega) bu W q1 q2 q4 q3 nG q5
  have C3 : Hid (∀ (W : World) (v : Value), W.cell? ⟨bu, 0, none⟩ = some (.pointer p) → Ar W v n (fun i => oD m (B i) (G i)) → Nv v p → Ar W vP n P → Up p (c + cntV (fun i => ovv (obV m (B i) (G i))) n + cntV (fun i => ovv (odV m (B i) (G i))) n) W → Calls Try.prog 22 #[.int .i64 (-r), v, vP, .pointer (some ⟨bu, 0, none⟩)] W fun e w' => (∃ (ad : Option Addr) (cap : Nat), e = .returned (.slice ad n cap) ∧ Ar w' (.slice ad n cap) n (fun i => oP r m (B i) (P i) (G i)) ∧ Ow W.heap.size (.slice ad n cap)) ∧ Ux p (c + oS r m B P G n) W w') := fun W v q1 q2 q3 q4 q5 => by
    have h := sum10_ux (-r) v vP n (fun i => oD m (B i) (G i)) P (by omega) (by omega) hn p _ (by omega) (by omega) bu W q1 q2 q4 q3 nP q5
    rw [show (fun i => clv (rnd (-r * oD m (B i) (G i) + P i * 4294967296) 32)) = (fun i => oP r m (B i) (P i) (G i)) from funext fun i => by unfold oP opV; rw [opV_row], show (fun i => ovv (rnd (-r * oD m (B i) (G i) + P i * 4294967296) 32)) = (fun i => ovv (opV r m (B i) (P i) (G i))) from funext fun i => by unfold opV; rw [opV_row], Int.add_assoc, Int.add_assoc, ← Int.add_assoc (cntV (fun i => ovv (obV m (B i) (G i))) n), hcnt] at h
    exact h
  obtain ⟨aP, kP, bP, oP', rfl, -, -, -, -⟩ := id hP
  obtain ⟨aB, kB, bB, oB', rfl, -, -, -, -⟩ := id hB
  obtain ⟨aG, kG, bG, oG', rfl, -, -, -, -⟩ := id hG
  have hneg : IntKind.i64.wrap (-r) = -r := by rw [IntKind.wrap_i64]; omega
  have HAll : Hid (Ar w (.slice aP n kP) n P ∧ Ar w (.slice aB n kB) n B ∧ Ar w (.slice aG n kG) n G) := ⟨hP, hB, hG⟩
  have HNv : Hid (Nv (.slice aP n kP) p ∧ Nv (.slice aB n kB) p ∧ Nv (.slice aG n kG) p) := ⟨nP, nB, nG⟩
  have HUp : Hid (Up p c w) := hp
  have HNu : Hid (Nu bu p ∧ Nu w.heap.size p ∧ Nu (w.heap.size + 1) p) := ⟨nu, hp.lt (Nat.le_refl _), hp.lt (Nat.le_succ _)⟩
  obtain ⟨w1, hw1⟩ : ∃ w1, w1 = (w.alloc (.cells #[.slice aP n kP, .slice aB n kB] 27)).alloc (.cells #[.slice none 0 0, .slice none 0 0] 27) := ⟨_, rfl⟩
  have hb1 : Below w.heap.size w w1 := by rw [hw1]; exact bel2 _ _ _
  have HO1 : Y2 w.heap.size (.slice aP n kP) (.slice aB n kB) w1 := by rw [hw1]; exact (Y2.new w _ _ _).later (bel1 _ _)
  have HR1 : Y2 (w.heap.size + 1) (.slice none 0 0) (.slice none 0 0) w1 := by
    have h := Y2.new (w.alloc (.cells #[.slice aP n kP, .slice aB n kB] 27)) (.slice none 0 0) (.slice none 0 0) 27
    rw [World.size_alloc] at h
    rw [hw1]; exact h
  have HU1 : Hid (Ux p c w w1) := hp.ux hb1
  have HC1 : Hid (w1.cell? ⟨bu, 0, none⟩ = some (.pointer p)) := cell_later hb1 cu
  have HA1 : Hid (Ar w1 (.slice aP n kP) n P ∧ Ar w1 (.slice aB n kB) n B ∧ Ar w1 (.slice aG n kG) n G) := ⟨hP.later hb1, hB.later hb1, hG.later hb1⟩
  have HcR : Hid ((0 ≤ cntV (fun i => ovv (obV m (B i) (G i))) n ∧ cntV (fun i => ovv (obV m (B i) (G i))) n ≤ n) ∧ 0 ≤ cntV (fun i => ovv (odV m (B i) (G i))) n ∧ cntV (fun i => ovv (odV m (B i) (G i))) n ≤ n) := ⟨hs1, hs2⟩
  have HSt : Hid (∀ (vP vB : Value) (w' : World), Ar w' vP n (fun i => oP r m (B i) (P i) (G i)) → Ar w' vB n (fun i => oB m (B i) (G i)) → Ow (w.heap.size + 2) vP → Ow (w.heap.size + 2) vB → ∀ x y, St10 w vP vB n r m B P G ((w'.setCell ⟨w.heap.size + 1, 0, none⟩ x).setCell ⟨w.heap.size + 1, 1, none⟩ y)) := fun vP vB w' q1 q2 q3 q4 x y => ⟨(q1.set10 _ _ (ow_apart q3 (by dsimp only; omega))).set10 _ _ (ow_apart q3 (by dsimp only; omega)), (q2.set10 _ _ (ow_apart q4 (by dsimp only; omega))).set10 _ _ (ow_apart q4 (by dsimp only; omega)), q3.low (by omega), q4.low (by omega)⟩
  clear hP hB hG nP nB nG hp cu nu hb1 hs1 hs2 hs3 hcnt
  generalize (fun i => oB m (B i) (G i)) = FB at *
  generalize (fun i => oD m (B i) (G i)) = FD at *
  generalize (fun i => oP r m (B i) (P i) (G i)) = FP at *
  generalize cntV (fun i => ovv (obV m (B i) (G i))) n = z1 at *
  generalize cntV (fun i => ovv (odV m (B i) (G i))) n = z2 at *
  generalize oS r m B P G n = zz at *
  go_enter Try.func21, Try.ntmps21
  go_upto_region 1 with fail
  rw [← hw1]
  clear hw1
  have y1 := HO1.c1
  go_wp2_with fail
  refine (C1.out _ HC1.out HA1.out.2.1 HA1.out.2.2 HU1.out.up).mono ?_
  rintro e w2 ⟨⟨ad2, k2, rfl, hA, hO⟩, hU⟩
  have HU2 : Hid (Ux p (c + z1) w w2) := HU1.out.chain hU
  have HC2 : Hid (w2.cell? ⟨bu, 0, none⟩ = some (.pointer p)) := hU.cell HNu.out.1 HC1.out
  have HA2 : Hid (Ar w2 (.slice aP n kP) n P ∧ Ar w2 (.slice aG n kG) n G) := ⟨HA1.out.1.ux HNv.out.1 hU, HA1.out.2.2.ux HNv.out.2.2 hU⟩
  have HL2 : Hid (Ar w2 (.slice ad2 n k2) n FB ∧ Ow (w.heap.size + 2) (.slice ad2 n k2) ∧ Nv (.slice ad2 n k2) p) := ⟨hA, hO.low HR1.lt, HU1.out.up.ow hO⟩
  have HO2 := HO1.ux HNu.out.2.1 hU
  have HR2 := HR1.ux HNu.out.2.2 hU
  clear hA hO hU C1 HU1 HC1 HA1 HO1 HR1 y1
  go_wp2_with fail
  refine (C2.out _ _ HC2.out HL2.out.1 HL2.out.2.2 HA2.out.2 HU2.out.up).mono ?_
  rintro e w3 ⟨⟨ad3, k3, rfl, hA, hO⟩, hU⟩
  have HU3 : Hid (Ux p (c + z1 + z2) w w3) := HU2.out.chain hU
  have HC3 : Hid (w3.cell? ⟨bu, 0, none⟩ = some (.pointer p)) := hU.cell HNu.out.1 HC2.out
  have HA3 : Hid (Ar w3 (.slice aP n kP) n P) := HA2.out.1.ux HNv.out.1 hU
  have HL3 : Hid (Ar w3 (.slice ad2 n k2) n FB ∧ Ow (w.heap.size + 2) (.slice ad2 n k2) ∧ Nv (.slice ad2 n k2) p) := ⟨HL2.out.1.ux HL2.out.2.2 hU, HL2.out.2⟩
  have HM3 : Hid (Ar w3 (.slice ad3 n k3) n FD ∧ Nv (.slice ad3 n k3) p) := ⟨hA, HU2.out.up.ow hO⟩
  have HO3 := HO2.ux HNu.out.2.1 hU
  have HR3 := HR2.ux HNu.out.2.2 hU
  clear hA hO hU C2 HU2 HC2 HA2 HL2 HO2 HR2
  have y0 := HO3.c0
  go_wp2_with fail
  refine (C3.out _ _ HC3.out HM3.out.1 HM3.out.2 HA3.out HU3.out.up).mono ?_
  rintro e w4 ⟨⟨ad4, k4, rfl, hA, hO⟩, hU⟩
  have HU4 : Hid (Ux p (c + zz) w w4) := HU3.out.chain hU
  have HL4 : Hid (Ar w4 (.slice ad2 n k2) n FB ∧ Ow (w.heap.size + 2) (.slice ad2 n k2)) := ⟨HL3.out.1.ux HL3.out.2.2 hU, HL3.out.2.1⟩
  have HP4 : Hid (Ar w4 (.slice ad4 n k4) n FP ∧ Ow (w.heap.size + 2) (.slice ad4 n k4)) := ⟨hA, hO.low HR3.lt⟩
  have HR4 := HR3.ux HNu.out.2.2 hU
  clear hA hO hU C3 HU3 HC3 HA3 HL3 HM3 HO3 HR3 y0
  have e0 := HR4.c0
  have e1 := HR4.c1
  have f0 := HR4.f0
  have f1 := HR4.f1
  have HR : Hid (Y2 (w.heap.size + 1) (.slice none 0 0) (.slice none 0 0) w4) := HR4
  clear HR4
  go_wp2
  have HZ := (HR.out.set0 (.slice ad4 n k4)).set1 (.slice ad2 n k2)
  have z0 := HZ.c0
  have z1' := HZ.c1
  exact bodyPost_ret (v := .agg #[.slice ad4 n k4, .slice ad2 n k2]) (by simp [results, Try.results21, go_sem, z0, z1']) rfl ⟨⟨_, _, _, _, rfl, HSt.out _ _ _ HP4.out.1 HL4.out.1 HP4.out.2 HL4.out.2 _ _⟩, (HU4.out.far _ (by dsimp only; omega)).far _ (by dsimp only; omega)⟩
set_option maxRecDepth 100000 in
set_option maxHeartbeats 4000000 in
theorem step10_ok (r m : Int) (hr : ruO r m) (r1 : r ≤ 9223372036854775807) (vP vB vG : Value) (n : Nat) (P B G : Nat → Int) (hn : n ≤ 65536) (p : Option Addr) (c : Int) (c0 : 0 ≤ c) (c1 : c ≤ 100000000) (w : World) (hP : Ar w vP n P) (hB : Ar w vB n B) (hG : Ar w vG n G) (nP : Nv vP p) (nB : Nv vB p) (nG : Nv vG p) (hp : Up p c w) :
    Calls Try.prog 10 #[.pointer p, .int .i64 r, .int .i64 m, .agg #[vP, vB], vG] w fun e w' => (∃ (a1 a2 : Option Addr) (k1 k2 : Nat), e = .returned (.tuple #[.agg #[.slice a1 n k1, .slice a2 n k2], .int .i64 0]) ∧ St10 w (.slice a1 n k1) (.slice a2 n k2) n r m B P G w') ∧ Ux p (c + oS r m B P G n) w w' := by
  have CK : Hid (∀ W : World, ∀ (aP aB aG : Option Addr) (cP cB cG : Nat), Calls Try.prog 20 #[.int .i64 r, .int .i64 m, .agg #[.slice aP n cP, .slice aB n cB], .slice aG n cG] W fun e w' => e = .returned (.int .i64 0) ∧ Below W.heap.size W w') := fun W aP aB aG cP cB cG => check10_any r m aP aB aG n n n cP cB cG W 0 ⟨fun h => absurd hr h, fun _ h => absurd ⟨hn, hn, hn⟩ h, fun _ _ h => absurd ⟨rfl, rfl⟩ h, fun _ _ _ => rfl⟩
  have CR : Hid (∀ (bu : Nat) (W : World), W.cell? ⟨bu, 0, none⟩ = some (.pointer p) → Nu bu p → Ar W vP n P → Ar W vB n B → Ar W vG n G → Up p c W → Calls Try.prog 21 #[.int .i64 r, .int .i64 m, .agg #[vP, vB], vG, .func (.func 22) #[] #[.pointer (some ⟨bu, 0, none⟩)]] W fun e w' => (∃ (a1 a2 : Option Addr) (k1 k2 : Nat), e = .returned (.agg #[.slice a1 n k1, .slice a2 n k2]) ∧ St10 W (.slice a1 n k1) (.slice a2 n k2) n r m B P G w') ∧ Ux p (c + oS r m B P G n) W w') := fun bu W q1 q2 q3 q4 q5 q6 => rows10_ux r m hr r1 vP vB vG n P B G hn p c c0 c1 bu W q1 q2 q3 q4 q5 nP nB nG q6
  obtain ⟨aP, kP, bP, oP', rfl, -, -, -, -⟩ := id hP
  obtain ⟨aB, kB, bB, oB', rfl, -, -, -, -⟩ := id hB
  obtain ⟨aG, kG, bG, oG', rfl, -, -, -, -⟩ := id hG
  have hmf := hmf_any
  have HAll : Hid (Ar w (.slice aP n kP) n P ∧ Ar w (.slice aB n kB) n B ∧ Ar w (.slice aG n kG) n G) := ⟨hP, hB, hG⟩
  have HUp : Hid (Up p c w) := hp
  have HNu : Hid (Nu w.heap.size p ∧ Nu (w.heap.size + 1 + 1) p) := ⟨hp.lt (Nat.le_refl _), hp.lt (by omega)⟩
  obtain ⟨w1, hw1⟩ : ∃ w1, w1 = ((w.alloc (.cells #[.pointer p] 30)).alloc (.cells #[.slice aP n kP, .slice aB n kB] 27)).alloc (.cells #[.slice none 0 0, .slice none 0 0] 27) := ⟨_, rfl⟩
  have hb1 : Below w.heap.size w w1 := by rw [hw1]; exact bchain (bel2 _ _ _) (bel1 _ _)
  have cu : w1.cell? ⟨w.heap.size, 0, none⟩ = some (.pointer p) := by rw [hw1]; exact cell_later (bel1 _ _) (cell_later (bel1 _ _) (cell_new1 w _ _))
  have HO1 : Y2 (w.heap.size + 1) (.slice aP n kP) (.slice aB n kB) w1 := by
    have h := Y2.new (w.alloc (.cells #[.pointer p] 30)) (.slice aP n kP) (.slice aB n kB) 27
    rw [World.size_alloc] at h
    rw [hw1]; exact h.later (bel1 _ _)
  have HR1 : Y2 (w.heap.size + 1 + 1) (.slice none 0 0) (.slice none 0 0) w1 := by
    have h := Y2.new ((w.alloc (.cells #[.pointer p] 30)).alloc (.cells #[.slice aP n kP, .slice aB n kB] 27)) (.slice none 0 0) (.slice none 0 0) 27
    rw [World.size_alloc, World.size_alloc] at h
    rw [hw1]; exact h
  have HB1 : Hid (Below w.heap.size w w1) := hb1
  clear hP hB hG nP nB nG hp hb1
  go_enter Try.func10, Try.ntmps10
  go_upto_region 1 with fail
  rw [← hw1]
  clear hw1
  have y0 := HO1.c0
  have y1 := HO1.c1
  go_wp2_with fail
  refine (CK.out _ _ _ _ _ _ _).mono ?_
  rintro e w2 ⟨rfl, hb⟩
  have HB2 : Hid (Below w.heap.size w w2) := bchain HB1.out hb
  have HC2 : Hid (w2.cell? ⟨w.heap.size, 0, none⟩ = some (.pointer p)) := cell_later hb cu
  have HO2 := HO1.later hb
  have HR2 := HR1.later hb
  clear hb CK HB1 cu HO1 HR1 y0 y1
  have y0 := HO2.c0
  have y1 := HO2.c1
  have hs2 : w.heap.size + 1 + 1 + 1 ≤ w2.heap.size := HR2.lt
  go_wp2_with fail
  refine (CR.out _ _ HC2.out HNu.out.1 (HAll.out.1.later HB2.out) (HAll.out.2.1.later HB2.out) (HAll.out.2.2.later HB2.out) (HUp.out.later HB2.out)).mono ?_
  rintro e w3 ⟨⟨a1, a2, k1, k2, rfl, hS⟩, hU⟩
  have HS : Hid (St10 w2 (.slice a1 n k1) (.slice a2 n k2) n r m B P G w3) := hS
  have HU3 : Hid (Ux p (c + oS r m B P G n) w w3) := (HUp.out.ux HB2.out).chain hU
  have HR3 := HR2.ux HNu.out.2 hU
  clear hS hU CR HC2 HO2 HR2 y0 y1
  have e0 := HR3.c0
  have e1 := HR3.c1
  have f0 := HR3.f0
  have f1 := HR3.f1
  have HR : Hid (Y2 (w.heap.size + 1 + 1) (.slice none 0 0) (.slice none 0 0) w3) := HR3
  clear HR3
  go_wp2
  have HZ := (HR.out.set0 (.slice a1 n k1)).set1 (.slice a2 n k2)
  have z0 := HZ.c0
  have z1' := HZ.c1
  obtain ⟨q1, q2, q3, q4⟩ := HS.out
  have n3 : Nb (.slice a1 n k1) (w.heap.size + 1 + 1) := ow_apart q3 (by omega)
  have n4 : Nb (.slice a2 n k2) (w.heap.size + 1 + 1) := ow_apart q4 (by omega)
  exact bodyPost_ret (v := .tuple #[.agg #[.slice a1 n k1, .slice a2 n k2], .int .i64 0]) (by simp [results, Try.results10, go_sem, z0, z1']) rfl ⟨⟨_, _, _, _, rfl, (q1.set10 _ _ n3).set10 _ _ n3, (q2.set10 _ _ n4).set10 _ _ n4, q3.low (by omega), q4.low (by omega)⟩, (HU3.out.far _ (by dsimp only; omega)).far _ (by dsimp only; omega)⟩
set_option maxRecDepth 100000 in
set_option maxHeartbeats 4000000 in
theorem step10_no (r m : Int) (aP aB aG : Option Addr) (nP nB nG cP cB cG : Nat) (p : Option Addr) (w : World) (E : Int) (hE : ocE r m nP nB nG E) (h0 : E ≠ 0) :
    Calls Try.prog 10 #[.pointer p, .int .i64 r, .int .i64 m, .agg #[.slice aP nP cP, .slice aB nB cB], .slice aG nG cG] w fun e w' => e = .returned (.tuple #[.agg #[.slice none 0 0, .slice none 0 0], .int .i64 E]) ∧ Below w.heap.size w w' := by
  have CK : Hid (∀ W : World, Calls Try.prog 20 #[.int .i64 r, .int .i64 m, .agg #[.slice aP nP cP, .slice aB nB cB], .slice aG nG cG] W fun e w' => e = .returned (.int .i64 E) ∧ Below W.heap.size W w') := fun W => check10_any r m aP aB aG nP nB nG cP cB cG W E hE
  obtain ⟨w1, hw1⟩ : ∃ w1, w1 = ((w.alloc (.cells #[.pointer p] 30)).alloc (.cells #[.slice aP nP cP, .slice aB nB cB] 27)).alloc (.cells #[.slice none 0 0, .slice none 0 0] 27) := ⟨_, rfl⟩
  have HB1 : Hid (Below w.heap.size w w1) := by rw [hw1]; exact bchain (bel2 _ _ _) (bel1 _ _)
  have HO1 : Y2 (w.heap.size + 1) (.slice aP nP cP) (.slice aB nB cB) w1 := by
    have h := Y2.new (w.alloc (.cells #[.pointer p] 30)) (.slice aP nP cP) (.slice aB nB cB) 27
    rw [World.size_alloc] at h
    rw [hw1]; exact h.later (bel1 _ _)
  have HR1 : Y2 (w.heap.size + 1 + 1) (.slice none 0 0) (.slice none 0 0) w1 := by
    have h := Y2.new ((w.alloc (.cells #[.pointer p] 30)).alloc (.cells #[.slice aP nP cP, .slice aB nB cB] 27)) (.slice none 0 0) (.slice none 0 0) 27
    rw [World.size_alloc, World.size_alloc] at h
    rw [hw1]; exact h
  clear hE
  have h0' : (E != 0) = true := by simpa using h0
  go_enter Try.func10, Try.ntmps10
  go_upto_region 1 with fail
  rw [← hw1]
  clear hw1
  have y0 := HO1.c0
  have y1 := HO1.c1
  go_wp2_with fail
  refine (CK.out _).mono ?_
  rintro e w2 ⟨rfl, hb⟩
  have HB2 : Hid (Below w.heap.size w w2) := bchain HB1.out hb
  have HR2 := HR1.later hb
  clear hb CK HB1 HO1 HR1 y0 y1
  have e0 := HR2.c0
  have e1 := HR2.c1
  have f0 := HR2.f0
  have f1 := HR2.f1
  have HR : Hid (Y2 (w.heap.size + 1 + 1) (.slice none 0 0) (.slice none 0 0) w2) := HR2
  clear HR2
  go_wp2
  have HZ := (HR.out.set0 (.slice none 0 0)).set1 (.slice none 0 0)
  have z0 := HZ.c0
  have z1' := HZ.c1
  exact bodyPost_ret (v := .tuple #[.agg #[.slice none 0 0, .slice none 0 0], .int .i64 E]) (by simp [results, Try.results10, go_sem, z0, z1']) rfl ⟨rfl, (HB2.out.setCell (by dsimp only; omega) _).setCell (by dsimp only; omega) _⟩
end Go.Proofs.Ytfcneciknldohaa
