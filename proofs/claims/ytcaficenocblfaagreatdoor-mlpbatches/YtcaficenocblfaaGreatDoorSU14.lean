/-
  Texts of this proof, joined: LWalkI LMath4 MMath NMath NWalkA.
-/
import Derived.Test.YtcaficenocblfaaGreatDoorSU08
import Derived.Test.YtcaficenocblfaaGreatDoorSU11
import Derived.Test.YtcaficenocblfaaGreatDoorSU13
set_option linter.unusedVariables false
set_option linter.unusedSimpArgs false
namespace Go.Proofs.YtcaficenocblfaaGreatDoor
open Go.RowKit

def gdC (s : Bool) (z : Nat → Nat) (m : Nat) (P x t : Nat → Int) : Int :=
  vC z m P x (m - 1) + lsC s (vN z m P x (m - 1)) t (z (m - 1)) + slC s (vN z m P x (m - 1)) t (z (m - 1)) + bkC z m P (vN z m P x) (sL z m P (vN z m P x) (slX s (vN z m P x (m - 1)) t)) (m - 1)
def gdS (s : Bool) (z : Nat → Nat) (m : Nat) (P x t : Nat → Int) : Nat → Nat → Int := sL z m P (vN z m P x) (slX s (vN z m P x (m - 1)) t)
theorem sL_rng (z : Nat → Nat) (m : Nat) (p : Nat → Int) (V : Nat → Nat → Int) (s0 : Nat → Int) (h0 : ∀ i, -9223372036854775808 ≤ s0 i ∧ s0 i ≤ 9223372036854775807) (l i : Nat) : -9223372036854775808 ≤ sL z m p V s0 l i ∧ sL z m p V s0 l i ≤ 9223372036854775807 := by
  unfold sL
  generalize m - 2 - l = k
  cases k with
  | zero => exact h0 i
  | succ k => exact ahX_rng _ _ _ _ _ _
set_option maxRecDepth 100000 in
set_option maxHeartbeats 32000000 in
theorem gradient_any (s : Bool) (vs vp vx vt : Value) (m cp : Nat) (z : Nat → Nat) (P x t : Nat → Int) (d : Nat) (c : Int) (c0 : 0 ≤ c) (c1 : c ≤ 800000000) (w : World) (hS : Ar w vs m (fun i => ((z i : Nat) : Int))) (hP : Ar w vp cp P) (hX : Ar w vx (z 0) x) (hT : Ar w vt (z (m - 1)) t) (hz : Szs z m) (hcp : cp = fsN z (m - 1)) (nS : Nb vs d) (nP : Nb vp d) (nX : Nb vx d) (nT : Nb vt d) (hc : w.cell? ⟨d, 0, none⟩ = some (.int .i64 c)) (hf : w.frozen? ⟨d, 0, none⟩ = false) :
    Calls Tryz.prog 22 #[.agg #[vs, vp], .pointer (some ⟨d, 0, none⟩), .int .i64 (lsK s), vx, vt] w fun e w' => ∃ v' G, e = .returned (.tuple #[v', .int .i64 (lsX s (vN z m P x (m - 1)) t (z (m - 1)))]) ∧ Ar w' v' cp G ∧ Ow w.heap.size v' ∧ Grd z m (vN z m P x) (gdS s z m P x t) G ∧ Un d (c + gdC s z m P x t) w w' := by
  have hd := World.block_lt_of_cell? _ _ hc
  obtain ⟨m2, m6, hz6⟩ := id hz
  have hXr : ∀ i, i < z 0 → -9223372036854775808 ≤ x i ∧ x i ≤ 9223372036854775807 := by obtain ⟨_, _, _, _, _, _, _, _, h5⟩ := hX; exact fun i hi => (h5 i hi).2
  have hcpB : cp ≤ 20800 := by have := fsN_le z m (m - 1) hz6 (by omega); omega
  obtain ⟨zn1, zn2⟩ := hz6 (m - 1) (by omega)
  have hvC := vC_rng z m P x (m - 1) (fun i hi => (hz6 i hi).2) (by omega)
  have HVa : Hid (∀ W : World, Below w.heap.size w W → Calls Tryz.prog 42 #[.agg #[vs, vp], .pointer (some ⟨d, 0, none⟩), vx] W fun e w' => ∃ v', e = .returned v' ∧ Ls w' d v' m z (vN z m P x) ∧ Un d (c + vC z m P x (m - 1)) W w') := fun W hb => values_any vs vp vx m cp z P x d c c0 (by omega) W (hS.later hb) (hP.later hb) (hX.later hb) hz hcp nS nP nX (cell_later hb hc) (frozen_later hb hc hf)
  have HVr : Hid (∀ l u, u < z l → -9223372036854775808 ≤ vN z m P x l u ∧ vN z m P x l u ≤ 9223372036854775807) := fun l u hu => vN_rng z m P x l u hXr hu
  have HTt : Hid (Ar w vt (z (m - 1)) t ∧ Nb vt d) := ⟨hT, nT⟩
  have HSP : Hid (Ar w vs m (fun i => ((z i : Nat) : Int)) ∧ Ar w vp cp P ∧ Nb vs d ∧ Nb vp d) := ⟨hS, hP, nS, nP⟩
  have HZ6 : Hid (∀ i, i < m → 1 ≤ z i ∧ z i ≤ 64) := hz6
  have HSz : Hid (Szs z m ∧ cp = fsN z (m - 1)) := ⟨hz, hcp⟩
  obtain ⟨V, hV⟩ : ∃ V, vN z m P x = V := ⟨_, rfl⟩
  obtain ⟨Sf, hSf⟩ : ∃ Sf, gdS s z m P x t = Sf := ⟨_, rfl⟩
  have HS0 : Hid (slX s (V (m - 1)) t = Sf (m - 2)) := by show _ = _; rw [← hSf, ← hV]; unfold gdS; rw [sL_last]
  have HSt : Hid (∀ l, l + 2 < m → Sf l = ahX z P (Sf (l + 1)) (V (l + 1)) (l + 1)) := fun l hl => by rw [← hSf, ← hV]; unfold gdS; exact sL_step _ _ _ _ _ l hl
  have HSr : Hid (∀ l i, -9223372036854775808 ≤ Sf l i ∧ Sf l i ≤ 9223372036854775807) := fun l i => by rw [← hSf]; exact sL_rng _ _ _ _ _ (fun i => slX_rng _ _ _ _) _ _
  have HgC : Hid (gdC s z m P x t = vC z m P x (m - 1) + lsC s (V (m - 1)) t (z (m - 1)) + slC s (V (m - 1)) t (z (m - 1)) + bkC z m P V Sf (m - 1)) := by show _ = _; rw [← hSf, ← hV]; rfl
  rw [hV] at HVa HVr
  rw [hV, hSf, HgC.out]
  have hlC := lsC_rng s (V (m - 1)) t (z (m - 1))
  have hsC := slC_rng s (V (m - 1)) t (z (m - 1))
  have HbC : Hid (∀ k, k + 1 ≤ m → 0 ≤ bkC z m P V Sf k ∧ bkC z m P V Sf k ≤ 4160 * (k : Int)) := fun k hk => bkC_rng z m P V Sf k (fun i hi => (hz6 i hi).2) hk
  have HbS : Hid (∀ k, bkC z m P V Sf (k + 1) = bkC z m P V Sf k + grC (Sf (m - 2 - k)) (V (m - 2 - k)) (z (m - 2 - k)) (z (m - 1 - k)) + (if m - 2 - k = 0 then 0 else cntV (ahO z P (Sf (m - 2 - k)) (V (m - 2 - k)) (m - 2 - k)) (z (m - 2 - k)))) := fun k => rfl
  have HgR : Hid (∀ l u, l < m → 0 ≤ grC (Sf l) (V l) (z l) u ∧ grC (Sf l) (V l) (z l) u ≤ 64 * (u : Int)) := fun l u hl => grC_rng _ _ _ _ (hz6 l hl).2
  clear hV hSf HgC
  generalize hvc : vC z m P x (m - 1) = vc at *
  clear hvc
  have Hls : Hid (∀ (W : World) (va : Value), Ar W va (z (m - 1)) (V (m - 1)) → Nb va d → Ar W vt (z (m - 1)) t → W.cell? ⟨d, 0, none⟩ = some (.int .i64 (c + vc)) → W.frozen? ⟨d, 0, none⟩ = false → Calls Tryz.prog 43 #[.pointer (some ⟨d, 0, none⟩), .int .i64 (lsK s), va, vt] W fun e w' => e = .returned (.int .i64 (lsX s (V (m - 1)) t (z (m - 1)))) ∧ Un d (c + vc + lsC s (V (m - 1)) t (z (m - 1))) W w') := fun W va h1 h2 h3 h4 h5 => loss_any s va vt _ _ _ d (c + vc) (by omega) (by omega) (by omega) W h1 h3 h2 nT h4 h5
  have Hsl : Hid (∀ (W : World) (va : Value), Ar W va (z (m - 1)) (V (m - 1)) → Nb va d → Ar W vt (z (m - 1)) t → W.cell? ⟨d, 0, none⟩ = some (.int .i64 (c + vc + lsC s (V (m - 1)) t (z (m - 1)))) → W.frozen? ⟨d, 0, none⟩ = false → Calls Tryz.prog 44 #[.pointer (some ⟨d, 0, none⟩), .int .i64 (lsK s), va, vt] W fun e w' => ∃ v', e = .returned v' ∧ Ar w' v' (z (m - 1)) (Sf (m - 2)) ∧ Ow W.heap.size v' ∧ Un d (c + vc + lsC s (V (m - 1)) t (z (m - 1)) + slC s (V (m - 1)) t (z (m - 1))) W w') := fun W va h1 h2 h3 h4 h5 => by
    rw [← HS0.out]
    exact slope_any s va vt _ _ _ d (c + vc + lsC s (V (m - 1)) t (z (m - 1))) (by omega) (by omega) (by omega) W h1 h3 h2 nT h4 h5
  obtain ⟨c5, hc5⟩ : ∃ c5, c + vc + lsC s (V (m - 1)) t (z (m - 1)) + slC s (V (m - 1)) t (z (m - 1)) = c5 := ⟨_, rfl⟩
  have Hc5 : Hid (c + (vc + lsC s (V (m - 1)) t (z (m - 1)) + slC s (V (m - 1)) t (z (m - 1)) + bkC z m P V Sf (m - 1)) = c5 + bkC z m P V Sf (m - 1)) := by show _ = _; omega
  have hc50 : 0 ≤ c5 ∧ c5 ≤ 801000000 := by omega
  rw [Hc5.out]
  rw [hc5] at Hsl
  clear hc5 Hc5 hlC hsC hvC
  generalize lsC s (V (m - 1)) t (z (m - 1)) = lc at *
  generalize slC s (V (m - 1)) t (z (m - 1)) = sc at *
  generalize lsX s (V (m - 1)) t (z (m - 1)) = lx at *
  obtain ⟨adr, cap, b, o, rfl, k1, k2, k3, k4⟩ := hS
  obtain ⟨adp, cpp, bp, op, rfl, j1, j2, j3, j4⟩ := hP
  unfold maxLen at k2 j2
  have ha := k3 (by omega)
  subst ha
  have hbd : b ≠ d := nS _ _ _ rfl (by omega)
  have HZ : Hid (∀ i, i < m → w.cell? ⟨b, o + i, none⟩ = some (.int .i64 ((z i : Nat) : Int))) := fun i hi => (k4 i hi).1
  have U0 : Hid (Un d c w w) := Un.same hc hf
  obtain ⟨w1, hw1⟩ : ∃ w1, w1 = w.alloc (.cells #[.slice (some ⟨b, o, none⟩) m cap, .slice adp cp cpp] 53) := ⟨_, rfl⟩
  have HB1 : Hid (Below w.heap.size w w1) := by rw [hw1]; exact bel1 _ _
  have HBx : Hid (Bx w.heap.size (.slice (some ⟨b, o, none⟩) m cap) (.slice adp cp cpp) w1) := by rw [hw1]; exact Bx.new w _ _ _
  have x0 := HBx.out.c0
  have x1 := HBx.out.c1
  have hm1 : ((m - 1 : Nat) : Int) = (m : Int) - 1 := by omega
  have Hm1 : Hid (((m - 1 : Nat) : Int) = (m : Int) - 1) := hm1
  have hwm : IntKind.i64.wrap ((m : Int) - 1) = ((m - 1 : Nat) : Int) := by rw [IntKind.wrap_i64]; omega
  have hwm2 : IntKind.i64.wrap (((m - 1 : Nat) : Int) - 1) = (m : Int) - 2 := by rw [IntKind.wrap_i64]; omega
  have hmk := make_i64 cp (by omega)
  have hmlt : ((m - 1 : Nat) : Int) < (m : Int) := by omega
  clear k3 k4 j3 j4 nS nP nX nT hc hf hz6 hz hX hT hXr hm1 hcp
  go_enter Tryz.func22, Tryz.ntmps22
  go_upto_region 1 with fail
  rw [← hw1]
  clear hw1
  go_wp2_with fail
  refine (HVa.out _ HB1.out).mono ?_
  rintro e w2 ⟨v12, rfl, hLs, hU2⟩
  have HU2 : Hid (Un d (c + vc) w w2) := Un.after HB1.out hU2
  have HB2 : Hid (Bx w.heap.size (.slice (some ⟨b, o, none⟩) m cap) (.slice adp cp cpp) w2) := HBx.out.un hU2 (by omega)
  have HL2 : Hid (Ls w2 d v12 m z V) := hLs
  have y0 := HB2.out.c0
  obtain ⟨g12, ca12, rfl, l1, l2, l3, l4⟩ := hLs
  unfold maxLen at l2
  obtain ⟨vy, hvy, hAy, hNy⟩ := l4 (m - 1) (by omega)
  obtain ⟨ady, cay, by', oy, rfl, p1, p2, p3, p4⟩ := id hAy
  have HAy : Hid (Ar w2 (.slice ady (z (m - 1)) cay) (z (m - 1)) (V (m - 1)) ∧ Nb (.slice ady (z (m - 1)) cay) d) := ⟨hAy, hNy⟩
  have CL := Hls.out w2 _ hAy hNy (HTt.out.1.un HTt.out.2 HU2.out) HU2.out.c HU2.out.f
  clear hU2 l4 p3 p4 hAy hNy HVa x0 x1 HBx HB1 U0
  go_wp2_with fail
  refine CL.mono ?_
  rintro e w3 ⟨rfl, hU3⟩
  have HU3 : Hid (Un d (c + vc + lc) w w3) := HU2.out.chain hU3
  have HB3 : Hid (Bx w.heap.size (.slice (some ⟨b, o, none⟩) m cap) (.slice adp cp cpp) w3) := HB2.out.un hU3 (by omega)
  have HL3 : Hid (Ls w3 d (.slice (some ⟨g12, 0, none⟩) m ca12) m z V) := HL2.out.un hU3
  have hvy3 := hU3.o _ _ l3 hvy
  have CS := Hsl.out w3 _ (HAy.out.1.un HAy.out.2 hU3) HAy.out.2 (HTt.out.1.un HTt.out.2 HU3.out) HU3.out.c HU3.out.f
  clear CL hU3 HU2 HB2 HL2 hvy y0 HAy Hls
  go_wp2_with fail
  refine CS.mono ?_
  rintro e w4 ⟨v15, rfl, hA15, hO15, hU4⟩
  have HU4 : Hid (Un d c5 w w4) := HU3.out.chain hU4
  have HB4 : Hid (Bx w.heap.size (.slice (some ⟨b, o, none⟩) m cap) (.slice adp cp cpp) w4) := HB3.out.un hU4 (by omega)
  have HL4 : Hid (Ls w4 d (.slice (some ⟨g12, 0, none⟩) m ca12) m z V) := HL3.out.un hU4
  have hd3 : d < w3.heap.size := by have := HU3.out.s; omega
  have H15 : Hid (Ar w4 v15 (z (m - 1)) (Sf (m - 2)) ∧ Nb v15 d) := ⟨hA15, hO15.nb hd3⟩
  have hs4 : w.heap.size ≤ w4.heap.size := HU4.out.s
  have y1 := HB4.out.c1
  clear CS hU4 HU3 HB3 HL3 hvy3 hA15 hO15 Hsl
  obtain ⟨g, hg⟩ : ∃ g, w4.heap.size = g := ⟨_, rfl⟩
  obtain ⟨w5, hw5⟩ : ∃ w5, w5 = w4.alloc (.cells (madeCells #[.int .i64 0] cp) 2) := ⟨_, rfl⟩
  have HB5 : Hid (Below w4.heap.size w4 w5) := by rw [hw5]; exact bel1 _ _
  have HR5 : Hid (Rw g cp (fun j => .int .i64 ((fun _ => (0 : Int)) j)) w5) := by rw [hw5, ← hg]; exact Rw.made w4 (.int .i64 0) cp 2
  have hg5 : g < w5.heap.size := by rw [hw5, World.size_alloc]; omega
  have hdg : d < g := by omega
  obtain ⟨ad15, ca15, b15', o15', rfl, -, -, -, -⟩ := id H15.out.1
  go_upto_region 7 with fail
  rw [← hw5]
  try simp only [hg]
  clear hw5 y1 hmk
  go_loopw [15, 17] (fun s15 s17 wr => ∃ (k : Nat) (X : Int) (F : Nat → Int), k + 1 ≤ m ∧ s17 = .int .i64 X ∧ Hid (X + (k : Int) + 2 = (m : Int)) ∧ Hid (Rw g cp (fun j => .int .i64 (F j)) wr) ∧ Hid (GrL z m V Sf (m - 1 - k) F) ∧ Hid (∀ j, -9223372036854775808 ≤ F j ∧ F j ≤ 9223372036854775807) ∧ Hid (Un d (c5 + bkC z m P V Sf k) w4 wr) ∧ Hid (k + 2 ≤ m → Ar wr s15 (z (m - 1 - k)) (Sf (m - 2 - k)) ∧ Nb s15 d ∧ Nb s15 g) ∧ g < wr.heap.size) (fun _ s17 _ => (intOf s17 + 1).toNat)
  case atStart =>
    refine ⟨0, (m : Int) - 2, fun _ => 0, by omega, rfl, by show _ = _; omega, HR5, grL_none _ _ _ _ _ _ (by omega), fun _ => ⟨by show (-9223372036854775808 : Int) ≤ 0; omega, by show (0 : Int) ≤ 9223372036854775807; omega⟩, by show Un d (c5 + 0) w4 w5; rw [Int.add_zero]; exact (Un.same HU4.out.c HU4.out.f).ahead HB5.out, fun _ => ⟨H15.out.1.later HB5.out, H15.out.2, H15.out.1.spare (by omega)⟩, hg5⟩
  case round =>
    rename World => wo
    obtain ⟨k, X, F, hk, rfl, HXk, HRo, HGo, HFo, HUo, H15o, hgo⟩ := hrel
    clear HR5 HB5 H15 hg5
    by_cases hk2 : k + 2 ≤ m
    · obtain ⟨l, hl⟩ : ∃ l, l + k + 2 = m := ⟨m - 2 - k, by omega⟩
      obtain rfl : X = (l : Int) := by have := HXk.out; omega
      have e1 : m - 1 - k = l + 1 := by omega
      have e2 : m - 2 - k = l := by omega
      obtain ⟨hA15, hN15d, hN15g⟩ := H15o.out hk2
      rw [e1] at HGo hA15
      rw [e2] at hA15
      have HbSk := HbS.out k
      rw [e2, e1] at HbSk
      have HbSk2 : Hid (bkC z m P V Sf (k + 1) = bkC z m P V Sf k + grC (Sf l) (V l) (z l) (z (l + 1)) + (if l = 0 then 0 else cntV (ahO z P (Sf l) (V l) l) (z l))) := HbSk
      have hbk := HbC.out k (by omega)
      have Hlk : Hid (l + k + 2 = m) := hl
      have hlm : l + 1 < m := by omega
      have hl0 : (0 : Int) ≤ (l : Int) := by omega
      have hl01 : (0 : Int) ≤ (l : Int) + 1 := by omega
      have hlM : (l : Int) < (m : Int) := by omega
      have hlM1 : (l : Int) + 1 < (m : Int) := by omega
      have hwL : IntKind.i64.wrap ((l : Int) + 1) = (l : Int) + 1 := by rw [IntKind.wrap_i64]; omega
      clear hl e1 e2 HXk H15o HbSk hk2
      obtain ⟨adS, caS, bS, oS, rfl, q1, q2, q3, q4⟩ := id hA15
      unfold maxLen at q2
      obtain ⟨za1, za2⟩ := HZ6.out l (by omega)
      obtain ⟨zb1, zb2⟩ := HZ6.out (l + 1) hlm
      have eS := q3 (by omega)
      subst eS
      have hbSd : bS ≠ d := hN15d _ _ _ rfl (by omega)
      have hbSg : bS ≠ g := hN15g _ _ _ rfl (by omega)
      have HAS : Hid (∀ u, u < z (l + 1) → wo.cell? ⟨bS, oS + u, none⟩ = some (.int .i64 (Sf l u))) := fun u hu => (q4 u hu).1
      have HASo : Hid (Ar wo (.slice (some ⟨bS, oS, none⟩) (z (l + 1)) caS) (z (l + 1)) (Sf l) ∧ Nb (.slice (some ⟨bS, oS, none⟩) (z (l + 1)) caS) d ∧ Nb (.slice (some ⟨bS, oS, none⟩) (z (l + 1)) caS) g) := ⟨hA15, hN15d, hN15g⟩
      clear q3 q4 hA15 hN15d hN15g
      have hwd : w.heap.size ≠ d := by omega
      have hwg : w.heap.size ≠ g := by have := World.block_lt_of_cell? _ _ HB4.out.c0; dsimp only at this; omega
      have HBo : Hid (Bx w.heap.size (.slice (some ⟨b, o, none⟩) m cap) (.slice adp cp cpp) wo) := HB4.out.un HUo.out hwd
      have HLo : Hid (Ls wo d (.slice (some ⟨g12, 0, none⟩) m ca12) m z V) := HL4.out.un HUo.out
      have HARo : Hid (Ar wo (.slice (some ⟨b, o, none⟩) m cap) m (fun i => ((z i : Nat) : Int)) ∧ Ar wo (.slice adp cp cpp) cp P) := ⟨(HSP.out.1.un HSP.out.2.2.1 HU4.out).un HSP.out.2.2.1 HUo.out, (HSP.out.2.1.un HSP.out.2.2.2 HU4.out).un HSP.out.2.2.2 HUo.out⟩
      have CF := first_any (.slice (some ⟨b, o, none⟩) m cap) (.slice adp cp cpp) m l z wo HARo.out.1 HSz.out.1 (by omega)
      have x0 := HBo.out.c0
      have x1 := HBo.out.c1
      obtain ⟨A, hA⟩ : ∃ A, fsN z l = A := ⟨_, rfl⟩
      have HA : Hid (fsN z l = A) := hA
      have hAb : A ≤ 20800 := by rw [← hA]; have := fsN_le z m l HZ6.out (by omega); omega
      rw [hA] at CF
      clear hA
      go_wp2_with fail
      refine CF.mono ?_
      rintro e wp ⟨rfl, hbp⟩
      have HRp : Hid (Rw g cp (fun j => .int .i64 (F j)) wp) := HRo.out.later hbp
      have HUp : Hid (Un d (c5 + bkC z m P V Sf k) w4 wp) := HUo.out.ahead hbp
      have HASp : Hid (Ar wp (.slice (some ⟨bS, oS, none⟩) (z (l + 1)) caS) (z (l + 1)) (Sf l)) := HASo.out.1.later hbp
      have hgp : g < wp.heap.size := by have := hbp.size; omega
      clear CF hbp x0 x1 HRo HUo HBo HLo HARo HAS
      go_upto_region 11 with fail
      -- what is read, in w4
      obtain ⟨g12', ca12', hv12, -, -, -, hLl⟩ := id HL4.out
      cases hv12
      obtain ⟨vl, hvl, hAl, hNl⟩ := hLl l (by omega)
      obtain ⟨adl, cal, bl, ol, rfl, f1, f2, f3, f4⟩ := hAl
      unfold maxLen at f2
      have eL := f3 (by omega)
      subst eL
      have hbld : bl ≠ d := hNl _ _ _ rfl (by omega)
      have HVl4 : Hid (∀ i, i < z l → w4.cell? ⟨bl, ol + i, none⟩ = some (.int .i64 (V l i))) := fun i hi => (f4 i hi).1
      have Hvl : Hid (w4.cell? ⟨g12, l, none⟩ = some (.slice (some ⟨bl, ol, none⟩) (z l) cal)) := hvl
      have HZ4 : Hid (w4.cell? ⟨b, o + l, none⟩ = some (.int .i64 ((z l : Nat) : Int)) ∧ w4.cell? ⟨b, o + (l + 1), none⟩ = some (.int .i64 ((z (l + 1) : Nat) : Int))) := ⟨HU4.out.o _ _ hbd (HZ.out l (by omega)), HU4.out.o _ _ hbd (HZ.out (l + 1) hlm)⟩
      have hblg : bl ≠ g := by have := World.block_lt_of_cell? _ _ (HVl4.out 0 (by omega)); dsimp only at this; omega
      have hg12g : g12 ≠ g := by have := World.block_lt_of_cell? _ _ Hvl.out; dsimp only at this; omega
      have hbg : b ≠ g := by have := World.block_lt_of_cell? _ _ HZ4.out.1; dsimp only at this; omega
      clear hLl hvl hNl f3 f4
      have HSl : Hid (∀ u, -9223372036854775808 ≤ Sf l u ∧ Sf l u ≤ 9223372036854775807) := HSr.out l
      have HVl : Hid (∀ u, u < z l → -9223372036854775808 ≤ V l u ∧ V l u ≤ 9223372036854775807) := HVr.out l
      have Hfs : Hid (fsN z (l + 1) ≤ cp) := by show _ ≤ _; rw [HSz.out.2]; exact fsN_mono z (by omega)
      have HgRl : Hid (∀ u, 0 ≤ grC (Sf l) (V l) (z l) u ∧ grC (Sf l) (V l) (z l) u ≤ 64 * (u : Int)) := fun u => HgR.out l u (by omega)
      go_loopw [19] (fun s19 wi => ∃ (u : Nat) (F : Nat → Int), u ≤ z (l + 1) ∧ s19 = .int .i64 (u : Int) ∧ Hid (Rw g cp (fun j => .int .i64 (F j)) wi) ∧ Hid (GrL z m V Sf (l + 1) F ∧ GrR z V Sf l u F) ∧ Hid (∀ j, -9223372036854775808 ≤ F j ∧ F j ≤ 9223372036854775807) ∧ Hid (Un d (c5 + bkC z m P V Sf k + grC (Sf l) (V l) (z l) u) w4 wi) ∧ Hid (Ar wi (.slice (some ⟨bS, oS, none⟩) (z (l + 1)) caS) (z (l + 1)) (Sf l)) ∧ g < wi.heap.size) (fun s19 _ => z (l + 1) - (intOf s19).toNat)
      case atStart => exact ⟨0, F, by omega, rfl, HRp, ⟨HGo.out, fun u hu => absurd hu (Nat.not_lt_zero _)⟩, HFo, by show Un d (_ + 0) _ _; rw [Int.add_zero]; exact HUp.out, HASp, hgp⟩
      case round =>
        rename World => wi
        obtain ⟨u, F1, hu, rfl, HRi, HGi, HFi, HUi, HASi, hgi⟩ := hrel
        clear HRp HGo HFo HUp HASp hgp
        have x0 := (HB4.out.un HUi.out hwd).c0
        have cZ1 := HUi.out.o _ _ hbd HZ4.out.2
        have hgr := HgRl.out u
        by_cases hul : u < z (l + 1)
        · have huI : (u : Int) < ((z (l + 1) : Nat) : Int) := by omega
          obtain ⟨OZ, hOZ⟩ : ∃ OZ, u * z l = OZ := ⟨_, rfl⟩
          have eOZ : (u : Int) * ((z l : Nat) : Int) = (OZ : Int) := by rw [← hOZ, Int.natCast_mul]
          have hOZb : OZ ≤ 4096 := by rw [← hOZ]; exact Nat.mul_le_mul (show u ≤ 64 by omega) za2
          have wOZ : IntKind.i64.wrap (OZ : Int) = (OZ : Int) := by rw [IntKind.wrap_i64]; omega
          obtain ⟨AO, hAO⟩ : ∃ AO, A + OZ = AO := ⟨_, rfl⟩
          have wAO : IntKind.i64.wrap ((A : Int) + (OZ : Int)) = (AO : Int) := by rw [IntKind.wrap_i64]; omega
          have hAOb : AO ≤ 25000 := by omega
          have HAO : Hid (∀ i, AO + i = wtN z l u i) := fun i => by unfold wtN; rw [HA.out, hOZ, hAO]
          obtain ⟨ZZ, hZZ⟩ : ∃ ZZ, z l * z (l + 1) = ZZ := ⟨_, rfl⟩
          have eZZ : ((z l : Nat) : Int) * ((z (l + 1) : Nat) : Int) = (ZZ : Int) := by rw [← hZZ, Int.natCast_mul]
          have hZZb : ZZ ≤ 4096 := by rw [← hZZ]; exact Nat.mul_le_mul za2 zb2
          have wZZ : IntKind.i64.wrap (ZZ : Int) = (ZZ : Int) := by rw [IntKind.wrap_i64]; omega
          obtain ⟨AZ, hAZ⟩ : ∃ AZ, A + ZZ = AZ := ⟨_, rfl⟩
          have wAZ : IntKind.i64.wrap ((A : Int) + (ZZ : Int)) = (AZ : Int) := by rw [IntKind.wrap_i64]; omega
          obtain ⟨OF, hOF⟩ : ∃ OF, AZ + u = OF := ⟨_, rfl⟩
          have wOF : IntKind.i64.wrap ((AZ : Int) + (u : Int)) = (OF : Int) := by rw [IntKind.wrap_i64]; omega
          have HOF : Hid (OF = ofN z l u) := by show _ = _; unfold ofN; rw [HA.out, hZZ, hAZ, hOF]
          have hOFc : OF < cp := by rw [HOF.out]; have := ofN_lt z l u hul; have := Hfs.out; omega
          have hOFI : (OF : Int) < (cp : Int) := by omega
          clear hOZ hAO hZZ hAZ hOF
          have HBi : Hid (Bx w.heap.size (.slice (some ⟨b, o, none⟩) m cap) (.slice adp cp cpp) wi) := HB4.out.un HUi.out hwd
          go_upto_region 14 with fail
          clear x0 cZ1
          go_loopw [20] (fun s20 wc => ∃ (i : Nat) (F : Nat → Int), i ≤ z l ∧ s20 = .int .i64 (i : Int) ∧ Hid (Rw g cp (fun j => .int .i64 (F j)) wc) ∧ Hid (GrL z m V Sf (l + 1) F ∧ GrR z V Sf l u F ∧ GrC z V Sf l u i F) ∧ Hid (∀ j, -9223372036854775808 ≤ F j ∧ F j ≤ 9223372036854775807) ∧ Hid (Un d (c5 + bkC z m P V Sf k + grC (Sf l) (V l) (z l) u + cntV (gwO (Sf l) (V l) u) i) w4 wc) ∧ Hid (Ar wc (.slice (some ⟨bS, oS, none⟩) (z (l + 1)) caS) (z (l + 1)) (Sf l)) ∧ g < wc.heap.size) (fun s20 _ => z l - (intOf s20).toNat)
          case atStart => exact ⟨0, F1, by omega, rfl, HRi, ⟨HGi.out.1, HGi.out.2, fun i hi => absurd hi (Nat.not_lt_zero _)⟩, HFi, by show Un d (_ + 0) _ _; rw [Int.add_zero]; exact HUi.out, HASi, hgi⟩
          case round =>
            rename World => wr
            obtain ⟨i, F2, hi, rfl, HRr, HGr, HFr, HUr, HASr, hgr2⟩ := hrel
            clear HRi HGi HFi HUi HASi hgi HBi
            have x0 := (HB4.out.un HUr.out hwd).c0
            have cZ := HUr.out.o _ _ hbd HZ4.out.1
            have hcr := cnt_rng (gwO (Sf l) (V l) u) i
            by_cases hil : i < z l
            · have hiI : (i : Int) < ((z l : Nat) : Int) := by omega
              obtain ⟨W0, hW0⟩ : ∃ W0, AO + i = W0 := ⟨_, rfl⟩
              have wW0 : IntKind.i64.wrap ((AO : Int) + (i : Int)) = (W0 : Int) := by rw [IntKind.wrap_i64]; omega
              have HW0 : Hid (W0 = wtN z l u i) := by show _ = _; rw [← hW0]; exact HAO.out i
              have hW0c : W0 < cp := by rw [HW0.out]; have := wtN_lt z l u i hul hil; have := Hfs.out; omega
              have hW0I : (W0 : Int) < (cp : Int) := by omega
              clear hW0
              have cS : wr.cell? ⟨bS, oS + u, none⟩ = some (.int .i64 (Sf l u)) := by
                obtain ⟨_, _, _, _, e, _, _, h3, h4⟩ := HASr.out
                cases e
                cases h3 (by omega)
                exact (h4 u hul).1
              have cG := HUr.out.o _ _ l3 Hvl.out
              have cV := HUr.out.o _ _ hbld (HVl4.out i hil)
              obtain ⟨s1', s2'⟩ := HSl.out u
              obtain ⟨v1', v2'⟩ := HVl.out i hil
              have CM : Hid (∀ W : World, Calls Tryz.prog 46 #[.int .i64 (Sf l u), .int .i64 (V l i)] W fun e w' => e = .returned (.tuple #[.int .i64 (gwX (Sf l) (V l) u i), .bool (gwO (Sf l) (V l) u i)]) ∧ Below W.heap.size W w') := fun W => by
                have h := rfmul_any (Sf l u) (V l i) s1' s2' v1' v2' W
                exact h
              have Hgx : Hid (-9223372036854775808 ≤ gwX (Sf l) (V l) u i ∧ gwX (Sf l) (V l) u i ≤ 9223372036854775807) := clv_rng _
              have HCs : Hid (cntV (gwO (Sf l) (V l) u) (i + 1) = cntV (gwO (Sf l) (V l) u) i + bi (gwO (Sf l) (V l) u i)) := rfl
              have HGs : Hid (∀ F, GrL z m V Sf (l + 1) F ∧ GrR z V Sf l u F ∧ GrC z V Sf l u i F → GrL z m V Sf (l + 1) (upd F W0 (gwX (Sf l) (V l) u i)) ∧ GrR z V Sf l u (upd F W0 (gwX (Sf l) (V l) u i)) ∧ GrC z V Sf l u (i + 1) (upd F W0 (gwX (Sf l) (V l) u i))) := fun F hF => by
                rw [HW0.out]
                exact ⟨grL_set hF.1 (wtN_lt z l u i hul hil), grR_setW hF.2.1 hul hil, grC_setW hF.2.2 hil⟩
              clear s1' s2' v1' v2'
              generalize gwX (Sf l) (V l) u i = gx at *
              generalize gwO (Sf l) (V l) u i = go at *
              generalize Sf l u = sv at *
              generalize V l i = vv at *
              go_upto_region 16 with fail
              have hbD : Below wr.heap.size wr wr.drew := (Below.refl _ _).drew
              refine wp_region_held_drew (S := fun W' => W'.cell? ⟨bS, oS + u, none⟩ = some (.int .i64 sv) ∧ W'.cell? ⟨g12, l, none⟩ = some (.slice (some ⟨bl, ol, none⟩) (z l) cal) ∧ W'.cell? ⟨bl, ol + i, none⟩ = some (.int .i64 vv)) (by kernel_rfl) ⟨cS, cG, cV⟩ (fun HS => ?_)
              have HU6 : Hid (Un d (c5 + bkC z m P V Sf k + grC (Sf l) (V l) (z l) u + cntV (gwO (Sf l) (V l) u) i) w4 wr.drew) := HUr.out.ahead hbD
              have HR6 : Hid (Rw g cp (fun j => .int .i64 (F2 j)) wr.drew) := HRr.out.later hbD
              have HAS6 : Hid (Ar wr.drew (.slice (some ⟨bS, oS, none⟩) (z (l + 1)) caS) (z (l + 1)) (Sf l)) := HASr.out.later hbD
              have hg6 : g < wr.drew.heap.size := hgr2
              clear hbD cS cG cV x0 cZ HUr HRr HASr hgr2
              generalize wr.drew = wD at *
              refine wpAnyH_take (i := 0) (v := ?v1) rfl (by kernel_rfl) (by kernel_rfl) (by kernel_rfl) (fun _ _ _ h => h) (Or.inl ⟨by kernel_rfl, ?h1⟩) HS ?r1
              case h1 => (rintro w ⟨s1, s2, s3⟩; go_simp) <;> with_reducible rfl
              try simp only [Act.put, List.getElem_toArray, List.getElem_cons_succ, List.getElem_cons_zero, List.setIfInBounds_toArray, List.set_cons_zero, List.set_cons_succ]
              refine wpAnyH_take (i := 1) (v := ?v2) rfl (by kernel_rfl) (by kernel_rfl) (by kernel_rfl) (fun _ _ _ h => h) (Or.inl ⟨by kernel_rfl, ?h2⟩) HS ?r2
              case h2 => (rintro w ⟨s1, s2, s3⟩; go_simp) <;> with_reducible rfl
              try simp only [Act.put, List.getElem_toArray, List.getElem_cons_succ, List.getElem_cons_zero, List.setIfInBounds_toArray, List.set_cons_zero, List.set_cons_succ]
              refine wpAnyH_take (i := 2) (v := ?v3) rfl (by kernel_rfl) (by kernel_rfl) (by kernel_rfl) (fun _ _ _ h => h) (Or.inl ⟨by kernel_rfl, ?h3⟩) HS ?r3
              case h3 => (rintro w ⟨s1, s2, s3⟩; go_simp) <;> with_reducible rfl
              try simp only [Act.put, List.getElem_toArray, List.getElem_cons_succ, List.getElem_cons_zero, List.setIfInBounds_toArray, List.set_cons_zero, List.set_cons_succ]
              refine wpAnyH_take (i := 3) (v := ?v4) rfl (by kernel_rfl) (by kernel_rfl) (by kernel_rfl) (fun _ _ _ h => h) (Or.inl ⟨by kernel_rfl, ?h4⟩) HS ?r4
              case h4 => (rintro w ⟨s1, s2, s3⟩; go_simp) <;> with_reducible rfl
              try simp only [Act.put, List.getElem_toArray, List.getElem_cons_succ, List.getElem_cons_zero, List.setIfInBounds_toArray, List.set_cons_zero, List.set_cons_succ]
              refine wpAnyH_take (i := 4) (v := ?v5) rfl (by kernel_rfl) (by kernel_rfl) (by kernel_rfl) (fun _ _ _ h => h) (Or.inl ⟨by kernel_rfl, ?h5⟩) HS ?r5
              case h5 => (rintro w ⟨s1, s2, s3⟩; go_simp) <;> with_reducible rfl
              try simp only [Act.put, List.getElem_toArray, List.getElem_cons_succ, List.getElem_cons_zero, List.setIfInBounds_toArray, List.set_cons_zero, List.set_cons_succ]
              refine wpAnyH_take (i := 5) (v := ?v6) rfl (by kernel_rfl) (by kernel_rfl) (by kernel_rfl) (fun _ _ _ h => h) (Or.inl ⟨by kernel_rfl, ?h6⟩) HS ?r6
              case h6 => (rintro w ⟨s1, s2, s3⟩; go_simp) <;> with_reducible rfl
              try simp only [Act.put, List.getElem_toArray, List.getElem_cons_succ, List.getElem_cons_zero, List.setIfInBounds_toArray, List.set_cons_zero, List.set_cons_succ]
              refine wpAnyH_take (i := 6) (v := ?v7) rfl (by kernel_rfl) (by kernel_rfl) (by kernel_rfl) (fun _ _ _ h => h) (Or.inl ⟨by kernel_rfl, ?h7⟩) HS ?r7
              case h7 => (rintro w ⟨s1, s2, s3⟩; go_simp) <;> with_reducible rfl
              try simp only [Act.put, List.getElem_toArray, List.getElem_cons_succ, List.getElem_cons_zero, List.setIfInBounds_toArray, List.set_cons_zero, List.set_cons_succ]
              refine wpAnyH_take (i := 7) (v := ?v8) rfl (by kernel_rfl) (by kernel_rfl) (by kernel_rfl) (fun _ _ _ h => h) (Or.inl ⟨by kernel_rfl, ?h8⟩) HS ?r8
              case h8 => (rintro w ⟨s1, s2, s3⟩; go_simp) <;> with_reducible rfl
              try simp only [Act.put, List.getElem_toArray, List.getElem_cons_succ, List.getElem_cons_zero, List.setIfInBounds_toArray, List.set_cons_zero, List.set_cons_succ]
              refine wpAnyH_take (i := 8) (v := ?v9) rfl (by kernel_rfl) (by kernel_rfl) (by kernel_rfl) (fun _ _ _ h => h) (Or.inl ⟨by kernel_rfl, ?h9⟩) HS ?r9
              case h9 => (rintro w ⟨s1, s2, s3⟩; go_simp) <;> with_reducible rfl
              try simp only [Act.put, List.getElem_toArray, List.getElem_cons_succ, List.getElem_cons_zero, List.setIfInBounds_toArray, List.set_cons_zero, List.set_cons_succ]
              refine wpAnyH_take (i := 9) (v := ?v10) rfl (by kernel_rfl) (by kernel_rfl) (by kernel_rfl) (fun _ _ _ h => h) (Or.inl ⟨by kernel_rfl, ?h10⟩) HS ?r10
              case h10 => (rintro w ⟨s1, s2, s3⟩; go_simp) <;> with_reducible rfl
              try simp only [Act.put, List.getElem_toArray, List.getElem_cons_succ, List.getElem_cons_zero, List.setIfInBounds_toArray, List.set_cons_zero, List.set_cons_succ]
              refine wpAnyH_take (i := 10) (v := ?v11) rfl (by kernel_rfl) (by kernel_rfl) (by kernel_rfl) (fun _ _ _ h => h) (Or.inl ⟨by kernel_rfl, ?h11⟩) HS ?r11
              case h11 => (rintro w ⟨s1, s2, s3⟩; go_simp) <;> with_reducible rfl
              try simp only [Act.put, List.getElem_toArray, List.getElem_cons_succ, List.getElem_cons_zero, List.setIfInBounds_toArray, List.set_cons_zero, List.set_cons_succ]
              refine wpAnyH_ready (rs := [11]) (by kernel_rfl) (by simp) ?_
              refine AllReadyH.cons rfl (fun K hK => ?_) AllReadyH.nil
              go_simp
              refine (CM.out _).mono ?_
              rintro e w6 ⟨rfl, hb6⟩
              have HS6 := HS
              refine hK.out _ _ ⟨cell_later hb6 HS6.1, cell_later hb6 HS6.2.1, cell_later hb6 HS6.2.2⟩ (fun HS => ?_)
              clear hK K
              refine wpAnyH_take (i := 12) (v := ?v12) rfl (by kernel_rfl) (by kernel_rfl) (by kernel_rfl) (fun _ _ _ h => h) (Or.inl ⟨by kernel_rfl, ?h12⟩) HS ?r12
              case h12 => (rintro w ⟨s1, s2, s3⟩; go_simp) <;> with_reducible rfl
              try simp only [Act.put, List.getElem_toArray, List.getElem_cons_succ, List.getElem_cons_zero, List.setIfInBounds_toArray, List.set_cons_zero, List.set_cons_succ]
              refine wpAnyH_take (i := 13) (v := ?v13) rfl (by kernel_rfl) (by kernel_rfl) (by kernel_rfl) (fun _ _ _ h => h) (Or.inl ⟨by kernel_rfl, ?h13⟩) HS ?r13
              case h13 => (rintro w ⟨s1, s2, s3⟩; go_simp) <;> with_reducible rfl
              try simp only [Act.put, List.getElem_toArray, List.getElem_cons_succ, List.getElem_cons_zero, List.setIfInBounds_toArray, List.set_cons_zero, List.set_cons_succ]
              refine wpAnyH_take (i := 14) (v := ?v14) rfl (by kernel_rfl) (by kernel_rfl) (by kernel_rfl) (fun _ _ _ h => h) (Or.inl ⟨by kernel_rfl, ?h14⟩) HS ?r14
              case h14 => (rintro w ⟨s1, s2, s3⟩; go_simp) <;> with_reducible rfl
              try simp only [Act.put, List.getElem_toArray, List.getElem_cons_succ, List.getElem_cons_zero, List.setIfInBounds_toArray, List.set_cons_zero, List.set_cons_succ]
              refine wpAnyH_take (i := 15) (v := ?v15) rfl (by kernel_rfl) (by kernel_rfl) (by kernel_rfl) (fun _ _ _ h => h) (Or.inl ⟨by kernel_rfl, ?h15⟩) HS ?r15
              case h15 => (rintro w ⟨s1, s2, s3⟩; go_simp) <;> with_reducible rfl
              try simp only [Act.put, List.getElem_toArray, List.getElem_cons_succ, List.getElem_cons_zero, List.setIfInBounds_toArray, List.set_cons_zero, List.set_cons_succ]
              refine wpAnyH_take (i := 16) (v := ?v16) rfl (by kernel_rfl) (by kernel_rfl) (by kernel_rfl) (fun _ _ _ h => h) (Or.inl ⟨by kernel_rfl, ?h16⟩) HS ?r16
              case h16 => (rintro w ⟨s1, s2, s3⟩; go_simp) <;> with_reducible rfl
              try simp only [Act.put, List.getElem_toArray, List.getElem_cons_succ, List.getElem_cons_zero, List.setIfInBounds_toArray, List.set_cons_zero, List.set_cons_succ]
              refine wpAnyH_done (by kernel_rfl) ?_ _
              have HU7 : Hid (Un d (c5 + bkC z m P V Sf k + grC (Sf l) (V l) (z l) u + cntV (gwO (Sf l) (V l) u) i) w4 w6) := HU6.out.ahead hb6
              have HR7 : Hid (Rw g cp (fun j => .int .i64 (F2 j)) w6) := HR6.out.later hb6
              have HAS7 : Hid (Ar w6 (.slice (some ⟨bS, oS, none⟩) (z (l + 1)) caS) (z (l + 1)) (Sf l)) := HAS6.out.later hb6
              have hg7 : g < w6.heap.size := by have := hb6.size; omega
              clear hb6 HS HS6 HU6 HR6 HAS6 hg6 CM
              go_wp2_with fail
              have x0 := (HB4.out.un HU7.out hwd).c0
              have cZ := HU7.out.o _ _ hbd HZ4.out.1
              have hbD : Below w6.heap.size w6 w6.drew := (Below.refl _ _).drew
              refine wp_region_held_drew (S := fun W' => W'.cell? ⟨w.heap.size, 0, none⟩ = some (.slice (some ⟨b, o, none⟩) m cap) ∧ W'.cell? ⟨b, o + l, none⟩ = some (.int .i64 ((z l : Nat) : Int))) (by kernel_rfl) ⟨x0, cZ⟩ (fun HS => ?_)
              have HU8 : Hid (Un d (c5 + bkC z m P V Sf k + grC (Sf l) (V l) (z l) u + cntV (gwO (Sf l) (V l) u) i) w4 w6.drew) := HU7.out.ahead hbD
              have HR8 : Hid (Rw g cp (fun j => .int .i64 (F2 j)) w6.drew) := HR7.out.later hbD
              have HAS8 : Hid (Ar w6.drew (.slice (some ⟨bS, oS, none⟩) (z (l + 1)) caS) (z (l + 1)) (Sf l)) := HAS7.out.later hbD
              have hg8 : g < w6.drew.heap.size := hg7
              clear hbD x0 cZ HU7 HR7 HAS7 hg7
              generalize w6.drew = wE at *
              refine wpAnyH_take (i := 0) (v := ?v17) rfl (by kernel_rfl) (by kernel_rfl) (by kernel_rfl) (fun _ _ _ h => h) (Or.inl ⟨by kernel_rfl, ?h17⟩) HS ?r17
              case h17 => (rintro w ⟨s1, s2⟩; go_simp) <;> with_reducible rfl
              try simp only [Act.put, List.getElem_toArray, List.getElem_cons_succ, List.getElem_cons_zero, List.setIfInBounds_toArray, List.set_cons_zero, List.set_cons_succ]
              refine wpAnyH_take (i := 1) (v := ?v18) rfl (by kernel_rfl) (by kernel_rfl) (by kernel_rfl) (fun _ _ _ h => h) (Or.inl ⟨by kernel_rfl, ?h18⟩) HS ?r18
              case h18 => (rintro w ⟨s1, s2⟩; go_simp) <;> with_reducible rfl
              try simp only [Act.put, List.getElem_toArray, List.getElem_cons_succ, List.getElem_cons_zero, List.setIfInBounds_toArray, List.set_cons_zero, List.set_cons_succ]
              refine wpAnyH_take (i := 2) (v := ?v19) rfl (by kernel_rfl) (by kernel_rfl) (by kernel_rfl) (fun _ _ _ h => h) (Or.inl ⟨by kernel_rfl, ?h19⟩) HS ?r19
              case h19 => (rintro w ⟨s1, s2⟩; go_simp) <;> with_reducible rfl
              try simp only [Act.put, List.getElem_toArray, List.getElem_cons_succ, List.getElem_cons_zero, List.setIfInBounds_toArray, List.set_cons_zero, List.set_cons_succ]
              refine wpAnyH_take (i := 3) (v := ?v20) rfl (by kernel_rfl) (by kernel_rfl) (by kernel_rfl) (fun _ _ _ h => h) (Or.inl ⟨by kernel_rfl, ?h20⟩) HS ?r20
              case h20 => (rintro w ⟨s1, s2⟩; go_simp) <;> with_reducible rfl
              try simp only [Act.put, List.getElem_toArray, List.getElem_cons_succ, List.getElem_cons_zero, List.setIfInBounds_toArray, List.set_cons_zero, List.set_cons_succ]
              refine wpAnyH_take (i := 4) (v := ?v21) rfl (by kernel_rfl) (by kernel_rfl) (by kernel_rfl) (fun _ _ _ h => h) (Or.inl ⟨by kernel_rfl, ?h21⟩) HS ?r21
              case h21 => (rintro w ⟨s1, s2⟩; go_simp) <;> with_reducible rfl
              try simp only [Act.put, List.getElem_toArray, List.getElem_cons_succ, List.getElem_cons_zero, List.setIfInBounds_toArray, List.set_cons_zero, List.set_cons_succ]
              refine wpAnyH_take (i := 5) (v := ?v22) rfl (by kernel_rfl) (by kernel_rfl) (by kernel_rfl) (fun _ _ _ h => h) (Or.inl ⟨by kernel_rfl, ?h22⟩) HS ?r22
              case h22 => (rintro w ⟨s1, s2⟩; go_simp) <;> with_reducible rfl
              try simp only [Act.put, List.getElem_toArray, List.getElem_cons_succ, List.getElem_cons_zero, List.setIfInBounds_toArray, List.set_cons_zero, List.set_cons_succ]
              refine wpAnyH_take (i := 6) (v := ?v23) rfl (by kernel_rfl) (by kernel_rfl) (by kernel_rfl) (fun _ _ _ h => h) (Or.inl ⟨by kernel_rfl, ?h23⟩) HS ?r23
              case h23 => (rintro w ⟨s1, s2⟩; go_simp) <;> with_reducible rfl
              try simp only [Act.put, List.getElem_toArray, List.getElem_cons_succ, List.getElem_cons_zero, List.setIfInBounds_toArray, List.set_cons_zero, List.set_cons_succ]
              refine wpAnyH_take (i := 7) (v := ?v24) rfl (by kernel_rfl) (by kernel_rfl) (by kernel_rfl) (fun _ _ _ h => h) (Or.inl ⟨by kernel_rfl, ?h24⟩) HS ?r24
              case h24 => (rintro w ⟨s1, s2⟩; go_simp) <;> with_reducible rfl
              try simp only [Act.put, List.getElem_toArray, List.getElem_cons_succ, List.getElem_cons_zero, List.setIfInBounds_toArray, List.set_cons_zero, List.set_cons_succ]
              refine wpAnyH_take (i := 8) (v := ?v25) rfl (by kernel_rfl) (by kernel_rfl) (by kernel_rfl) (fun _ _ _ h => h) (Or.inl ⟨by kernel_rfl, ?h25⟩) HS ?r25
              case h25 => (rintro w ⟨s1, s2⟩; go_simp) <;> with_reducible rfl
              try simp only [Act.put, List.getElem_toArray, List.getElem_cons_succ, List.getElem_cons_zero, List.setIfInBounds_toArray, List.set_cons_zero, List.set_cons_succ]
              refine wpAnyH_take (i := 9) (v := ?v26) rfl (by kernel_rfl) (by kernel_rfl) (by kernel_rfl) (fun _ _ _ h => h) (Or.inl ⟨by kernel_rfl, ?h26⟩) HS ?r26
              case h26 => (rintro w ⟨s1, s2⟩; go_simp) <;> with_reducible rfl
              try simp only [Act.put, List.getElem_toArray, List.getElem_cons_succ, List.getElem_cons_zero, List.setIfInBounds_toArray, List.set_cons_zero, List.set_cons_succ]
              refine wpAnyH_take (i := 10) (v := ?v27) rfl (by kernel_rfl) (by kernel_rfl) (by kernel_rfl) (fun _ _ _ h => h) (Or.inl ⟨by kernel_rfl, ?h27⟩) HS ?r27
              case h27 => (rintro w ⟨s1, s2⟩; go_simp) <;> with_reducible rfl
              try simp only [Act.put, List.getElem_toArray, List.getElem_cons_succ, List.getElem_cons_zero, List.setIfInBounds_toArray, List.set_cons_zero, List.set_cons_succ]
              refine wpAnyH_take (i := 11) (v := ?v28) rfl (by kernel_rfl) (by kernel_rfl) (by kernel_rfl) (fun _ _ _ h => h) (Or.inl ⟨by kernel_rfl, ?h28⟩) HS ?r28
              case h28 => (rintro w ⟨s1, s2⟩; go_simp) <;> with_reducible rfl
              try simp only [Act.put, List.getElem_toArray, List.getElem_cons_succ, List.getElem_cons_zero, List.setIfInBounds_toArray, List.set_cons_zero, List.set_cons_succ]
              refine wpAnyH_take (i := 12) (v := ?v29) rfl (by kernel_rfl) (by kernel_rfl) (by kernel_rfl) (fun _ _ _ h => h) (Or.inl ⟨by kernel_rfl, ?h29⟩) HS ?r29
              case h29 => (rintro w ⟨s1, s2⟩; go_simp) <;> with_reducible rfl
              try simp only [Act.put, List.getElem_toArray, List.getElem_cons_succ, List.getElem_cons_zero, List.setIfInBounds_toArray, List.set_cons_zero, List.set_cons_succ]
              refine wpAnyH_take (i := 13) (v := ?v30) rfl (by kernel_rfl) (by kernel_rfl) (by kernel_rfl) (fun _ _ _ h => h) (Or.inl ⟨by kernel_rfl, ?h30⟩) HS ?r30
              case h30 => (rintro w ⟨s1, s2⟩; go_simp) <;> with_reducible rfl
              try simp only [Act.put, List.getElem_toArray, List.getElem_cons_succ, List.getElem_cons_zero, List.setIfInBounds_toArray, List.set_cons_zero, List.set_cons_succ]
              refine wpAnyH_take (i := 14) (v := ?v31) rfl (by kernel_rfl) (by kernel_rfl) (by kernel_rfl) (fun _ _ _ h => h) (Or.inl ⟨by kernel_rfl, ?h31⟩) HS ?r31
              case h31 => (rintro w ⟨s1, s2⟩; go_simp) <;> with_reducible rfl
              try simp only [Act.put, List.getElem_toArray, List.getElem_cons_succ, List.getElem_cons_zero, List.setIfInBounds_toArray, List.set_cons_zero, List.set_cons_succ]
              refine wpAnyH_ready (rs := [15]) (by kernel_rfl) (by simp) ?_
              refine AllReadyH.cons rfl (fun K hK => ?_) AllReadyH.nil
              go_simp
              refine (utake_any d (c5 + bkC z m P V Sf k + grC (Sf l) (V l) (z l) u + cntV (gwO (Sf l) (V l) u) i) gx go (by omega) (by omega) _ HU8.out.c HU8.out.f).mono ?_
              rintro e w8 ⟨rfl, hU9⟩
              have HS8 := HS
              refine hK.out _ _ ⟨hU9.o _ _ hwd HS8.1, hU9.o _ _ hbd HS8.2⟩ (fun HS => ?_)
              clear hK K
              have HU9 : Un d (c5 + bkC z m P V Sf k + grC (Sf l) (V l) (z l) u + cntV (gwO (Sf l) (V l) u) (i + 1)) w4 w8 := by
                rw [HCs.out, ← Int.add_assoc]
                exact HU8.out.chain hU9
              have HR9 : Rw g cp (fun j => .int .i64 (F2 j)) w8 := HR8.out.un hU9 (by omega) hg8
              have HAS9 : Ar w8 (.slice (some ⟨bS, oS, none⟩) (z (l + 1)) caS) (z (l + 1)) (Sf l) := HAS8.out.un HASo.out.2.1 hU9
              have hg9 : g < w8.heap.size := by have := hU9.s; omega
              have cO := HR9.c W0 hW0c
              have fO := HR9.f W0 hW0c
              have HR10 : Hid (Rw g cp (fun j => .int .i64 (upd F2 W0 gx j)) (w8.setCell ⟨g, W0, none⟩ (.int .i64 gx))) := (HR9.set W0 (.int .i64 gx)).congr (fun j hj => by
                unfold upd
                split <;> rfl)
              have HU10 : Hid (Un d (c5 + bkC z m P V Sf k + grC (Sf l) (V l) (z l) u + cntV (gwO (Sf l) (V l) u) (i + 1)) w4 (w8.setCell ⟨g, W0, none⟩ (.int .i64 gx))) := un_far HU9 (by omega) (by dsimp only; omega) _
              have HAS10 : Hid (Ar (w8.setCell ⟨g, W0, none⟩ (.int .i64 gx)) (.slice (some ⟨bS, oS, none⟩) (z (l + 1)) caS) (z (l + 1)) (Sf l)) := HAS9.put HASo.out.2.2 _
              have hg10 : g < (w8.setCell ⟨g, W0, none⟩ (.int .i64 gx)).heap.size := by simp [World.setCell]; omega
              have HG10 : Hid (GrL z m V Sf (l + 1) (upd F2 W0 gx) ∧ GrR z V Sf l u (upd F2 W0 gx) ∧ GrC z V Sf l u (i + 1) (upd F2 W0 gx)) := HGs.out F2 HGr.out
              have HF10 : Hid (∀ j, -9223372036854775808 ≤ upd F2 W0 gx j ∧ upd F2 W0 gx j ≤ 9223372036854775807) := fun j => by
                unfold upd
                split
                · exact Hgx.out
                · exact HFr.out j
              refine wpAnyH_take (i := 16) (v := ?v32) rfl (by kernel_rfl) (by kernel_rfl) (by kernel_rfl) (fun _ _ _ h => h) (Or.inl ⟨by kernel_rfl, ?h32⟩) HS ?r32
              case h32 => (rintro w ⟨s1, s2⟩; go_simp) <;> with_reducible rfl
              try simp only [Act.put, List.getElem_toArray, List.getElem_cons_succ, List.getElem_cons_zero, List.setIfInBounds_toArray, List.set_cons_zero, List.set_cons_succ]
              refine wpAnyH_ready (rs := [17]) (by kernel_rfl) (by simp) ?_
              refine AllReadyH.cons rfl (fun K hK => ?_) AllReadyH.nil
              go_simp
              refine hK.out _ _ ⟨cell_set (fun e => hwg e.symm) HS.1, cell_set (fun e => hbg e.symm) HS.2⟩ (fun HS => ?_)
              clear hK K
              refine wpAnyH_done (by kernel_rfl) ?_ _
              clear HS HS8 HU8 HR8 HAS8 HU9 HR9 HAS9 cO fO hU9 HGr HFr HGs Hgx HCs
              go_wp2
              go_roundw
              case rel => exact ⟨i + 1, upd F2 W0 gx, by omega, by go_num, HR10, HG10, HF10, HU10, HAS10, hg10⟩
              case measure => simp [intOf]; omega
            · obtain rfl : i = z l := by omega
              have hiI : ¬ ((z l : Nat) : Int) < ((z l : Nat) : Int) := by omega
              have cZ1 := HUr.out.o _ _ hbd HZ4.out.2
              have cS : wr.cell? ⟨bS, oS + u, none⟩ = some (.int .i64 (Sf l u)) := by
                obtain ⟨_, _, _, _, e, _, _, h3, h4⟩ := HASr.out
                cases e
                cases h3 (by omega)
                exact (h4 u hul).1
              have Hsr : Hid (-9223372036854775808 ≤ Sf l u ∧ Sf l u ≤ 9223372036854775807) := HSl.out u
              have HGs : Hid (GrL z m V Sf (l + 1) (upd F2 OF (Sf l u)) ∧ GrR z V Sf l (u + 1) (upd F2 OF (Sf l u))) := by
                show _ ∧ _
                rw [HOF.out]
                exact ⟨grL_set HGr.out.1 (ofN_lt z l u hul), grR_setO HGr.out.2.1 HGr.out.2.2 hul⟩
              have HCs : Hid (grC (Sf l) (V l) (z l) (u + 1) = grC (Sf l) (V l) (z l) u + cntV (gwO (Sf l) (V l) u) (z l)) := rfl
              generalize Sf l u = sv at *
              go_upto_region 18 with fail
              have hbD : Below wr.heap.size wr wr.drew := (Below.refl _ _).drew
              refine wp_region_held_drew (S := fun W' => W'.cell? ⟨w.heap.size, 0, none⟩ = some (.slice (some ⟨b, o, none⟩) m cap) ∧ W'.cell? ⟨b, o + l, none⟩ = some (.int .i64 ((z l : Nat) : Int)) ∧ W'.cell? ⟨b, o + (l + 1), none⟩ = some (.int .i64 ((z (l + 1) : Nat) : Int)) ∧ W'.cell? ⟨bS, oS + u, none⟩ = some (.int .i64 sv)) (by kernel_rfl) ⟨x0, cZ, cZ1, cS⟩ (fun HS => ?_)
              have HU8 : Un d (c5 + bkC z m P V Sf k + grC (Sf l) (V l) (z l) (u + 1)) w4 wr.drew := by
                rw [HCs.out, ← Int.add_assoc]
                exact HUr.out.ahead hbD
              have HR9 : Rw g cp (fun j => .int .i64 (F2 j)) wr.drew := HRr.out.later hbD
              have HAS8 : Ar wr.drew (.slice (some ⟨bS, oS, none⟩) (z (l + 1)) caS) (z (l + 1)) (Sf l) := HASr.out.later hbD
              have hg8 : g < wr.drew.heap.size := hgr2
              clear hbD x0 cZ cZ1 cS HUr HRr HASr hgr2
              generalize wr.drew = wE at *
              have cO := HR9.c OF hOFc
              have fO := HR9.f OF hOFc
              have HR10 : Hid (Rw g cp (fun j => .int .i64 (upd F2 OF sv j)) (wE.setCell ⟨g, OF, none⟩ (.int .i64 sv))) := (HR9.set OF (.int .i64 sv)).congr (fun j hj => by
                unfold upd
                split <;> rfl)
              have HU10 : Hid (Un d (c5 + bkC z m P V Sf k + grC (Sf l) (V l) (z l) (u + 1)) w4 (wE.setCell ⟨g, OF, none⟩ (.int .i64 sv))) := un_far HU8 (by omega) (by dsimp only; omega) _
              have HAS10 : Hid (Ar (wE.setCell ⟨g, OF, none⟩ (.int .i64 sv)) (.slice (some ⟨bS, oS, none⟩) (z (l + 1)) caS) (z (l + 1)) (Sf l)) := HAS8.put HASo.out.2.2 _
              have hg10 : g < (wE.setCell ⟨g, OF, none⟩ (.int .i64 sv)).heap.size := by simp [World.setCell]; omega
              have HF10 : Hid (∀ j, -9223372036854775808 ≤ upd F2 OF sv j ∧ upd F2 OF sv j ≤ 9223372036854775807) := fun j => by
                unfold upd
                split
                · exact Hsr.out
                · exact HFr.out j
              refine wpAnyH_take (i := 0) (v := ?v33) rfl (by kernel_rfl) (by kernel_rfl) (by kernel_rfl) (fun _ _ _ h => h) (Or.inl ⟨by kernel_rfl, ?h33⟩) HS ?r33
              case h33 => (rintro w ⟨s1, s2, s3, s4⟩; go_simp) <;> with_reducible rfl
              try simp only [Act.put, List.getElem_toArray, List.getElem_cons_succ, List.getElem_cons_zero, List.setIfInBounds_toArray, List.set_cons_zero, List.set_cons_succ]
              refine wpAnyH_take (i := 1) (v := ?v34) rfl (by kernel_rfl) (by kernel_rfl) (by kernel_rfl) (fun _ _ _ h => h) (Or.inl ⟨by kernel_rfl, ?h34⟩) HS ?r34
              case h34 => (rintro w ⟨s1, s2, s3, s4⟩; go_simp) <;> with_reducible rfl
              try simp only [Act.put, List.getElem_toArray, List.getElem_cons_succ, List.getElem_cons_zero, List.setIfInBounds_toArray, List.set_cons_zero, List.set_cons_succ]
              refine wpAnyH_take (i := 2) (v := ?v35) rfl (by kernel_rfl) (by kernel_rfl) (by kernel_rfl) (fun _ _ _ h => h) (Or.inl ⟨by kernel_rfl, ?h35⟩) HS ?r35
              case h35 => (rintro w ⟨s1, s2, s3, s4⟩; go_simp) <;> with_reducible rfl
              try simp only [Act.put, List.getElem_toArray, List.getElem_cons_succ, List.getElem_cons_zero, List.setIfInBounds_toArray, List.set_cons_zero, List.set_cons_succ]
              refine wpAnyH_take (i := 3) (v := ?v36) rfl (by kernel_rfl) (by kernel_rfl) (by kernel_rfl) (fun _ _ _ h => h) (Or.inl ⟨by kernel_rfl, ?h36⟩) HS ?r36
              case h36 => (rintro w ⟨s1, s2, s3, s4⟩; go_simp) <;> with_reducible rfl
              try simp only [Act.put, List.getElem_toArray, List.getElem_cons_succ, List.getElem_cons_zero, List.setIfInBounds_toArray, List.set_cons_zero, List.set_cons_succ]
              refine wpAnyH_take (i := 4) (v := ?v37) rfl (by kernel_rfl) (by kernel_rfl) (by kernel_rfl) (fun _ _ _ h => h) (Or.inl ⟨by kernel_rfl, ?h37⟩) HS ?r37
              case h37 => (rintro w ⟨s1, s2, s3, s4⟩; go_simp) <;> with_reducible rfl
              try simp only [Act.put, List.getElem_toArray, List.getElem_cons_succ, List.getElem_cons_zero, List.setIfInBounds_toArray, List.set_cons_zero, List.set_cons_succ]
              refine wpAnyH_take (i := 5) (v := ?v38) rfl (by kernel_rfl) (by kernel_rfl) (by kernel_rfl) (fun _ _ _ h => h) (Or.inl ⟨by kernel_rfl, ?h38⟩) HS ?r38
              case h38 => (rintro w ⟨s1, s2, s3, s4⟩; go_simp) <;> with_reducible rfl
              try simp only [Act.put, List.getElem_toArray, List.getElem_cons_succ, List.getElem_cons_zero, List.setIfInBounds_toArray, List.set_cons_zero, List.set_cons_succ]
              refine wpAnyH_take (i := 6) (v := ?v39) rfl (by kernel_rfl) (by kernel_rfl) (by kernel_rfl) (fun _ _ _ h => h) (Or.inl ⟨by kernel_rfl, ?h39⟩) HS ?r39
              case h39 => (rintro w ⟨s1, s2, s3, s4⟩; go_simp) <;> with_reducible rfl
              try simp only [Act.put, List.getElem_toArray, List.getElem_cons_succ, List.getElem_cons_zero, List.setIfInBounds_toArray, List.set_cons_zero, List.set_cons_succ]
              refine wpAnyH_take (i := 7) (v := ?v40) rfl (by kernel_rfl) (by kernel_rfl) (by kernel_rfl) (fun _ _ _ h => h) (Or.inl ⟨by kernel_rfl, ?h40⟩) HS ?r40
              case h40 => (rintro w ⟨s1, s2, s3, s4⟩; go_simp) <;> with_reducible rfl
              try simp only [Act.put, List.getElem_toArray, List.getElem_cons_succ, List.getElem_cons_zero, List.setIfInBounds_toArray, List.set_cons_zero, List.set_cons_succ]
              refine wpAnyH_take (i := 8) (v := ?v41) rfl (by kernel_rfl) (by kernel_rfl) (by kernel_rfl) (fun _ _ _ h => h) (Or.inl ⟨by kernel_rfl, ?h41⟩) HS ?r41
              case h41 => (rintro w ⟨s1, s2, s3, s4⟩; go_simp) <;> with_reducible rfl
              try simp only [Act.put, List.getElem_toArray, List.getElem_cons_succ, List.getElem_cons_zero, List.setIfInBounds_toArray, List.set_cons_zero, List.set_cons_succ]
              refine wpAnyH_take (i := 9) (v := ?v42) rfl (by kernel_rfl) (by kernel_rfl) (by kernel_rfl) (fun _ _ _ h => h) (Or.inl ⟨by kernel_rfl, ?h42⟩) HS ?r42
              case h42 => (rintro w ⟨s1, s2, s3, s4⟩; go_simp) <;> with_reducible rfl
              try simp only [Act.put, List.getElem_toArray, List.getElem_cons_succ, List.getElem_cons_zero, List.setIfInBounds_toArray, List.set_cons_zero, List.set_cons_succ]
              refine wpAnyH_take (i := 10) (v := ?v43) rfl (by kernel_rfl) (by kernel_rfl) (by kernel_rfl) (fun _ _ _ h => h) (Or.inl ⟨by kernel_rfl, ?h43⟩) HS ?r43
              case h43 => (rintro w ⟨s1, s2, s3, s4⟩; go_simp) <;> with_reducible rfl
              try simp only [Act.put, List.getElem_toArray, List.getElem_cons_succ, List.getElem_cons_zero, List.setIfInBounds_toArray, List.set_cons_zero, List.set_cons_succ]
              refine wpAnyH_take (i := 11) (v := ?v44) rfl (by kernel_rfl) (by kernel_rfl) (by kernel_rfl) (fun _ _ _ h => h) (Or.inl ⟨by kernel_rfl, ?h44⟩) HS ?r44
              case h44 => (rintro w ⟨s1, s2, s3, s4⟩; go_simp) <;> with_reducible rfl
              try simp only [Act.put, List.getElem_toArray, List.getElem_cons_succ, List.getElem_cons_zero, List.setIfInBounds_toArray, List.set_cons_zero, List.set_cons_succ]
              refine wpAnyH_take (i := 12) (v := ?v45) rfl (by kernel_rfl) (by kernel_rfl) (by kernel_rfl) (fun _ _ _ h => h) (Or.inl ⟨by kernel_rfl, ?h45⟩) HS ?r45
              case h45 => (rintro w ⟨s1, s2, s3, s4⟩; go_simp) <;> with_reducible rfl
              try simp only [Act.put, List.getElem_toArray, List.getElem_cons_succ, List.getElem_cons_zero, List.setIfInBounds_toArray, List.set_cons_zero, List.set_cons_succ]
              refine wpAnyH_take (i := 13) (v := ?v46) rfl (by kernel_rfl) (by kernel_rfl) (by kernel_rfl) (fun _ _ _ h => h) (Or.inl ⟨by kernel_rfl, ?h46⟩) HS ?r46
              case h46 => (rintro w ⟨s1, s2, s3, s4⟩; go_simp) <;> with_reducible rfl
              try simp only [Act.put, List.getElem_toArray, List.getElem_cons_succ, List.getElem_cons_zero, List.setIfInBounds_toArray, List.set_cons_zero, List.set_cons_succ]
              refine wpAnyH_take (i := 14) (v := ?v47) rfl (by kernel_rfl) (by kernel_rfl) (by kernel_rfl) (fun _ _ _ h => h) (Or.inl ⟨by kernel_rfl, ?h47⟩) HS ?r47
              case h47 => (rintro w ⟨s1, s2, s3, s4⟩; go_simp) <;> with_reducible rfl
              try simp only [Act.put, List.getElem_toArray, List.getElem_cons_succ, List.getElem_cons_zero, List.setIfInBounds_toArray, List.set_cons_zero, List.set_cons_succ]
              refine wpAnyH_take (i := 15) (v := ?v48) rfl (by kernel_rfl) (by kernel_rfl) (by kernel_rfl) (fun _ _ _ h => h) (Or.inl ⟨by kernel_rfl, ?h48⟩) HS ?r48
              case h48 => (rintro w ⟨s1, s2, s3, s4⟩; go_simp) <;> with_reducible rfl
              try simp only [Act.put, List.getElem_toArray, List.getElem_cons_succ, List.getElem_cons_zero, List.setIfInBounds_toArray, List.set_cons_zero, List.set_cons_succ]
              refine wpAnyH_take (i := 16) (v := ?v49) rfl (by kernel_rfl) (by kernel_rfl) (by kernel_rfl) (fun _ _ _ h => h) (Or.inl ⟨by kernel_rfl, ?h49⟩) HS ?r49
              case h49 => (rintro w ⟨s1, s2, s3, s4⟩; go_simp) <;> with_reducible rfl
              try simp only [Act.put, List.getElem_toArray, List.getElem_cons_succ, List.getElem_cons_zero, List.setIfInBounds_toArray, List.set_cons_zero, List.set_cons_succ]
              refine wpAnyH_take (i := 17) (v := ?v50) rfl (by kernel_rfl) (by kernel_rfl) (by kernel_rfl) (fun _ _ _ h => h) (Or.inl ⟨by kernel_rfl, ?h50⟩) HS ?r50
              case h50 => (rintro w ⟨s1, s2, s3, s4⟩; go_simp) <;> with_reducible rfl
              try simp only [Act.put, List.getElem_toArray, List.getElem_cons_succ, List.getElem_cons_zero, List.setIfInBounds_toArray, List.set_cons_zero, List.set_cons_succ]
              refine wpAnyH_take (i := 18) (v := ?v51) rfl (by kernel_rfl) (by kernel_rfl) (by kernel_rfl) (fun _ _ _ h => h) (Or.inl ⟨by kernel_rfl, ?h51⟩) HS ?r51
              case h51 => (rintro w ⟨s1, s2, s3, s4⟩; go_simp) <;> with_reducible rfl
              try simp only [Act.put, List.getElem_toArray, List.getElem_cons_succ, List.getElem_cons_zero, List.setIfInBounds_toArray, List.set_cons_zero, List.set_cons_succ]
              refine wpAnyH_take (i := 19) (v := ?v52) rfl (by kernel_rfl) (by kernel_rfl) (by kernel_rfl) (fun _ _ _ h => h) (Or.inl ⟨by kernel_rfl, ?h52⟩) HS ?r52
              case h52 => (rintro w ⟨s1, s2, s3, s4⟩; go_simp) <;> with_reducible rfl
              try simp only [Act.put, List.getElem_toArray, List.getElem_cons_succ, List.getElem_cons_zero, List.setIfInBounds_toArray, List.set_cons_zero, List.set_cons_succ]
              refine wpAnyH_take (i := 20) (v := ?v53) rfl (by kernel_rfl) (by kernel_rfl) (by kernel_rfl) (fun _ _ _ h => h) (Or.inl ⟨by kernel_rfl, ?h53⟩) HS ?r53
              case h53 => (rintro w ⟨s1, s2, s3, s4⟩; go_simp) <;> with_reducible rfl
              try simp only [Act.put, List.getElem_toArray, List.getElem_cons_succ, List.getElem_cons_zero, List.setIfInBounds_toArray, List.set_cons_zero, List.set_cons_succ]
              refine wpAnyH_take (i := 21) (v := ?v54) rfl (by kernel_rfl) (by kernel_rfl) (by kernel_rfl) (fun _ _ _ h => h) (Or.inl ⟨by kernel_rfl, ?h54⟩) HS ?r54
              case h54 => (rintro w ⟨s1, s2, s3, s4⟩; go_simp) <;> with_reducible rfl
              try simp only [Act.put, List.getElem_toArray, List.getElem_cons_succ, List.getElem_cons_zero, List.setIfInBounds_toArray, List.set_cons_zero, List.set_cons_succ]
              refine wpAnyH_ready (rs := [22]) (by kernel_rfl) (by simp) ?_
              refine AllReadyH.cons rfl (fun K hK => ?_) AllReadyH.nil
              go_simp
              refine hK.out _ _ ⟨cell_set (fun e => hwg e.symm) HS.1, cell_set (fun e => hbg e.symm) HS.2.1, cell_set (fun e => hbg e.symm) HS.2.2.1, cell_set (fun e => hbSg e.symm) HS.2.2.2⟩ (fun HS => ?_)
              clear hK K
              refine wpAnyH_done (by kernel_rfl) ?_ _
              clear HS HU8 HR9 HAS8 cO fO HGr HFr Hsr HCs
              go_wp2
              go_roundw
              case rel => exact ⟨u + 1, upd F2 OF sv, by omega, by go_num, HR10, HGs, HF10, HU10, HAS10, hg10⟩
              case measure => simp [intOf]; omega
        · obtain rfl : u = z (l + 1) := by omega
          have huI : ¬ ((z (l + 1) : Nat) : Int) < ((z (l + 1) : Nat) : Int) := by omega
          have HGl : Hid (GrL z m V Sf l F1) := grL_row HGi.out.1 HGi.out.2
          have hk3 : k + 1 + 1 ≤ m := by have := Hlk.out; omega
          have HXn : Hid ((l : Int) - 1 + ((k + 1 : Nat) : Int) + 2 = (m : Int)) := by show _ = _; have := Hlk.out; omega
          have hwl1 : IntKind.i64.wrap ((l : Int) - 1) = (l : Int) - 1 := by rw [IntKind.wrap_i64]; omega
          have ek1 : m - 1 - (k + 1) = l := by have := Hlk.out; omega
          have Hek : Hid (m - 1 - (k + 1) = l ∧ m - 2 - (k + 1) = l - 1) := ⟨ek1, by omega⟩
          clear ek1
          by_cases hl0' : l = 0
          · have hlz : ¬ (0 : Int) < (l : Int) := by omega
            have HUn : Hid (Un d (c5 + bkC z m P V Sf (k + 1)) w4 wi) := by
              show Un _ _ _ _
              rw [HbSk2.out, if_pos hl0', Int.add_zero, ← Int.add_assoc]
              exact HUi.out
            have Hnk : Hid (¬ k + 1 + 2 ≤ m) := by show ¬ _; have := Hlk.out; omega
            have Hl0 : Hid (l = 0) := hl0'
            clear HGi HUi hl0'
            go_wp2
            go_roundw
            case rel => exact ⟨k + 1, (l : Int) - 1, F1, by omega, rfl, HXn, HRi, by rw [Hek.out.1]; exact HGl, HFi, HUn, fun h => absurd h Hnk.out, hgi⟩
            case measure => (first | (simp [intOf]; omega) | simp [intOf])
          · have hlz : (0 : Int) < (l : Int) := by omega
            obtain ⟨l', hl'⟩ : ∃ l', l = l' + 1 := ⟨l - 1, by omega⟩
            have HSn : Hid (Sf (l - 1) = ahX z P (Sf l) (V l) l) := by
              show _ = _
              rw [hl', Nat.add_sub_cancel]
              exact HSt.out l' (by omega)
            have hah := cnt_rng (ahO z P (Sf l) (V l) l) (z l)
            have HUn2 : Hid (∀ W W', Un d (c5 + bkC z m P V Sf k + grC (Sf l) (V l) (z l) (z (l + 1)) + cntV (ahO z P (Sf l) (V l) l) (z l)) W W' → Un d (c5 + bkC z m P V Sf (k + 1)) W W') := fun W W' h => by
              rw [HbSk2.out, if_neg hl0', ← Int.add_assoc, ← Int.add_assoc]
              exact h
            have Hl1 : Hid (l = l' + 1) := hl'
            have CAh : Hid (∀ W : World, Below wi.heap.size wi W → Calls Tryz.prog 48 #[.agg #[.slice (some ⟨b, o, none⟩) m cap, .slice adp cp cpp], .pointer (some ⟨d, 0, none⟩), .int .i64 (l : Int), .slice (some ⟨bS, oS, none⟩) (z (l + 1)) caS, .slice (some ⟨bl, ol, none⟩) (z l) cal] W fun e w' => ∃ v', e = .returned v' ∧ Ar w' v' (z l) (Sf (l - 1)) ∧ Ow W.heap.size v' ∧ Un d (c5 + bkC z m P V Sf k + grC (Sf l) (V l) (z l) (z (l + 1)) + cntV (ahO z P (Sf l) (V l) l) (z l)) W w') := fun W hb => by
              rw [HSn.out]
              refine ahead_any (.slice (some ⟨b, o, none⟩) m cap) (.slice adp cp cpp) _ _ m cp l z P (Sf l) (V l) d _ (by omega) (by omega) W ((((HSP.out.1.un HSP.out.2.2.1 HU4.out).un HSP.out.2.2.1 HUi.out)).later hb) ((((HSP.out.2.1.un HSP.out.2.2.2 HU4.out).un HSP.out.2.2.2 HUi.out)).later hb) (HASi.out.later hb) ?_ HSz.out.1 HSz.out.2 hlm HSP.out.2.2.1 HSP.out.2.2.2 HASo.out.2.1 (fun a n' c' e _ => by cases e; exact hbld) (cell_later hb HUi.out.c) (frozen_later hb HUi.out.c HUi.out.f)
              refine ⟨_, _, _, _, rfl, f1, by unfold maxLen; exact f2, fun _ => rfl, fun i hi => ⟨cell_later hb (HUi.out.o _ _ hbld (HVl4.out i hi)), HVl.out i hi⟩⟩
            clear hl'
            have x1 := (HB4.out.un HUi.out hwd).c1
            have cG := HUi.out.o _ _ l3 Hvl.out
            go_wp2_with fail
            have hbD : Below wi.heap.size wi wi.drew := (Below.refl _ _).drew
            refine wp_region_held_drew (S := fun W' => W'.cell? ⟨w.heap.size, 0, none⟩ = some (.slice (some ⟨b, o, none⟩) m cap) ∧ W'.cell? ⟨w.heap.size, 1, none⟩ = some (.slice adp cp cpp) ∧ W'.cell? ⟨g12, l, none⟩ = some (.slice (some ⟨bl, ol, none⟩) (z l) cal)) (by kernel_rfl) ⟨x0, x1, cG⟩ (fun HS => ?_)
            clear x0 x1 cG cZ1
            have hgD : g < wi.drew.heap.size := hgi
            generalize wi.drew = wE at *
            refine wpAnyH_take (i := 0) (v := ?v55) rfl (by kernel_rfl) (by kernel_rfl) (by kernel_rfl) (fun _ _ _ h => h) (Or.inl ⟨by kernel_rfl, ?h55⟩) HS ?r55
            case h55 => (rintro w ⟨s1, s2, s3⟩; go_simp) <;> with_reducible rfl
            try simp only [Act.put, List.getElem_toArray, List.getElem_cons_succ, List.getElem_cons_zero, List.setIfInBounds_toArray, List.set_cons_zero, List.set_cons_succ]
            refine wpAnyH_take (i := 1) (v := ?v56) rfl (by kernel_rfl) (by kernel_rfl) (by kernel_rfl) (fun _ _ _ h => h) (Or.inl ⟨by kernel_rfl, ?h56⟩) HS ?r56
            case h56 => (rintro w ⟨s1, s2, s3⟩; go_simp) <;> with_reducible rfl
            try simp only [Act.put, List.getElem_toArray, List.getElem_cons_succ, List.getElem_cons_zero, List.setIfInBounds_toArray, List.set_cons_zero, List.set_cons_succ]
            refine wpAnyH_take (i := 2) (v := ?v57) rfl (by kernel_rfl) (by kernel_rfl) (by kernel_rfl) (fun _ _ _ h => h) (Or.inl ⟨by kernel_rfl, ?h57⟩) HS ?r57
            case h57 => (rintro w ⟨s1, s2, s3⟩; go_simp) <;> with_reducible rfl
            try simp only [Act.put, List.getElem_toArray, List.getElem_cons_succ, List.getElem_cons_zero, List.setIfInBounds_toArray, List.set_cons_zero, List.set_cons_succ]
            refine wpAnyH_take (i := 3) (v := ?v58) rfl (by kernel_rfl) (by kernel_rfl) (by kernel_rfl) (fun _ _ _ h => h) (Or.inl ⟨by kernel_rfl, ?h58⟩) HS ?r58
            case h58 => (rintro w ⟨s1, s2, s3⟩; go_simp) <;> with_reducible rfl
            try simp only [Act.put, List.getElem_toArray, List.getElem_cons_succ, List.getElem_cons_zero, List.setIfInBounds_toArray, List.set_cons_zero, List.set_cons_succ]
            refine wpAnyH_take (i := 4) (v := ?v59) rfl (by kernel_rfl) (by kernel_rfl) (by kernel_rfl) (fun _ _ _ h => h) (Or.inl ⟨by kernel_rfl, ?h59⟩) HS ?r59
            case h59 => (rintro w ⟨s1, s2, s3⟩; go_simp) <;> with_reducible rfl
            try simp only [Act.put, List.getElem_toArray, List.getElem_cons_succ, List.getElem_cons_zero, List.setIfInBounds_toArray, List.set_cons_zero, List.set_cons_succ]
            refine wpAnyH_take (i := 5) (v := ?v60) rfl (by kernel_rfl) (by kernel_rfl) (by kernel_rfl) (fun _ _ _ h => h) (Or.inl ⟨by kernel_rfl, ?h60⟩) HS ?r60
            case h60 => (rintro w ⟨s1, s2, s3⟩; go_simp) <;> with_reducible rfl
            try simp only [Act.put, List.getElem_toArray, List.getElem_cons_succ, List.getElem_cons_zero, List.setIfInBounds_toArray, List.set_cons_zero, List.set_cons_succ]
            refine wpAnyH_take (i := 6) (v := ?v61) rfl (by kernel_rfl) (by kernel_rfl) (by kernel_rfl) (fun _ _ _ h => h) (Or.inl ⟨by kernel_rfl, ?h61⟩) HS ?r61
            case h61 => (rintro w ⟨s1, s2, s3⟩; go_simp) <;> with_reducible rfl
            try simp only [Act.put, List.getElem_toArray, List.getElem_cons_succ, List.getElem_cons_zero, List.setIfInBounds_toArray, List.set_cons_zero, List.set_cons_succ]
            refine wpAnyH_take (i := 7) (v := ?v62) rfl (by kernel_rfl) (by kernel_rfl) (by kernel_rfl) (fun _ _ _ h => h) (Or.inl ⟨by kernel_rfl, ?h62⟩) HS ?r62
            case h62 => (rintro w ⟨s1, s2, s3⟩; go_simp) <;> with_reducible rfl
            try simp only [Act.put, List.getElem_toArray, List.getElem_cons_succ, List.getElem_cons_zero, List.setIfInBounds_toArray, List.set_cons_zero, List.set_cons_succ]
            refine wpAnyH_ready (rs := [8]) (by kernel_rfl) (by simp) ?_
            refine AllReadyH.cons rfl (fun K hK => ?_) AllReadyH.nil
            go_simp
            refine (CAh.out _ hbD).mono ?_
            rintro e w8 ⟨vn, rfl, hAn, hOn, hUn⟩
            obtain ⟨adn, can, bn, on, rfl, -, -, -, -⟩ := id hAn
            have HS8 := HS
            refine hK.out _ _ ⟨hUn.o _ _ hwd HS8.1, hUn.o _ _ hwd HS8.2.1, hUn.o _ _ l3 HS8.2.2⟩ (fun HS => ?_)
            clear hK K
            refine wpAnyH_take (i := 9) (v := ?v63) rfl (by kernel_rfl) (by kernel_rfl) (by kernel_rfl) (fun _ _ _ h => h) (Or.inl ⟨by kernel_rfl, ?h63⟩) HS ?r63
            case h63 => (rintro w ⟨s1, s2, s3⟩; go_simp) <;> with_reducible rfl
            try simp only [Act.put, List.getElem_toArray, List.getElem_cons_succ, List.getElem_cons_zero, List.setIfInBounds_toArray, List.set_cons_zero, List.set_cons_succ]
            refine wpAnyH_done (by kernel_rfl) ?_ _
            have hs8 := hUn.s
            have hgE : g < wE.heap.size := hgD
            have hdE : d < wE.heap.size := by omega
            have HUn3 : Hid (Un d (c5 + bkC z m P V Sf (k + 1)) w4 w8) := HUn2.out _ _ ((HUi.out.ahead hbD).chain hUn)
            have HRn : Hid (Rw g cp (fun j => .int .i64 (F1 j)) w8) := (HRi.out.later hbD).un hUn (by omega) hgE
            have HAn : Hid (Ar w8 (.slice adn (z l) can) (z l) (Sf (l - 1)) ∧ Nb (.slice adn (z l) can) d ∧ Nb (.slice adn (z l) can) g) := ⟨hAn, hOn.nb hdE, hOn.nb hgE⟩
            have hgn : g < w8.heap.size := by omega
            clear HS HS8 hAn hOn hUn hbD CAh HUn2 HUi HRi HGi HASi hl0'
            go_wp2
            go_roundw
            case rel => exact ⟨k + 1, (l : Int) - 1, F1, by omega, rfl, HXn, HRn, by rw [Hek.out.1]; exact HGl, HFi, HUn3, fun _ => by rw [Hek.out.1, Hek.out.2]; exact HAn.out, hgn⟩
            case measure => (first | (simp [intOf]; omega) | simp [intOf])
    · have hXn : ¬ (0 : Int) ≤ X := by have := HXk.out; omega
      have HQ : Hid (Ar wo (.slice (some ⟨g, 0, none⟩) cp cp) cp F ∧ Ow w.heap.size (.slice (some ⟨g, 0, none⟩) cp cp) ∧ Grd z m V Sf F ∧ Un d (c5 + bkC z m P V Sf (m - 1)) w wo) := by
        have ek : k = m - 1 := by omega
        refine ⟨HRo.out.ar (by omega) (fun j _ => HFo.out j), fun a n' c' e _ => by cases e; dsimp only; omega, grL_all (by have h := HGo.out; rw [show m - 1 - k = 0 by omega] at h; exact h), ?_⟩
        rw [← ek]
        exact HU4.out.chain HUo.out
      clear HRo HGo HFo HUo H15o
      go_wp2
      go_ret2
      exact ⟨_, rfl, F, HQ.out.1, HQ.out.2.1, HQ.out.2.2.1, HQ.out.2.2.2⟩
end Go.Proofs.YtcaficenocblfaaGreatDoor
set_option linter.unusedVariables false
set_option linter.unusedSimpArgs false
namespace Go.Proofs.YtcaficenocblfaaGreatDoor
open Go.RowKit

def gLay (z : Nat → Nat) (V S : Nat → Nat → Int) (l j : Nat) : Int :=
  if j < fsN z l + z l * z (l + 1) then gwX (S l) (V l) ((j - fsN z l) / z l) ((j - fsN z l) % z l) else S l (j - (fsN z l + z l * z (l + 1)))
def gAll (z : Nat → Nat) (V S : Nat → Nat → Int) : Nat → Nat → Int
  | 0, _ => 0
  | n + 1, j => if j < fsN z n then gAll z V S n j else gLay z V S n j
theorem gAll_at (z : Nat → Nat) (V S : Nat → Nat → Int) (n l j : Nat) (hl : l < n) (h1 : fsN z l ≤ j) (h2 : j < fsN z (l + 1)) : gAll z V S n j = gLay z V S l j := by
  induction n with
  | zero => omega
  | succ n ih =>
    show (if j < fsN z n then gAll z V S n j else gLay z V S n j) = _
    rcases Nat.lt_or_ge l n with h | h
    · have hm := fsN_mono z (show l + 1 ≤ n from h)
      rw [if_pos (by omega)]
      exact ih h
    · obtain rfl : l = n := by omega
      rw [if_neg (by omega)]
theorem grd_all (z : Nat → Nat) (m : Nat) (V S : Nat → Nat → Int) : Grd z m V S (gAll z V S (m - 1)) := fun l hl u hu => by
  refine ⟨fun i hi => ?_, ?_⟩
  · have h := wt_rng z l u i hu hi
    have h3 := wtN_lt z l u i hu hi
    rw [gAll_at z V S (m - 1) l _ (by omega) h.1 h3]
    unfold gLay
    rw [if_pos h.2]
    have e : wtN z l u i - fsN z l = z l * u + i := by unfold wtN; rw [Nat.mul_comm]; omega
    rw [e, Nat.mul_add_div (by omega), Nat.div_eq_of_lt hi, Nat.add_zero, Nat.mul_add_mod, Nat.mod_eq_of_lt hi]
  · have h := of_rng z l u hu
    have h4 : fsN z l ≤ ofN z l u := by omega
    rw [gAll_at z V S (m - 1) l _ (by omega) h4 h.2]
    unfold gLay
    rw [if_neg (by omega)]
    have e : ofN z l u - (fsN z l + z l * z (l + 1)) = u := by unfold ofN; omega
    rw [e]
def gdG (s : Bool) (z : Nat → Nat) (m : Nat) (P x t : Nat → Int) : Nat → Int := gAll z (vN z m P x) (gdS s z m P x t) (m - 1)
def gdX (s : Bool) (z : Nat → Nat) (m : Nat) (P x t : Nat → Int) : Int := lsX s (vN z m P x (m - 1)) t (z (m - 1))
theorem Ar.congr {w : World} {v : Value} {n : Nat} {f g : Nat → Int} (h : Ar w v n f) (e : ∀ k, k < n → f k = g k) : Ar w v n g := by
  obtain ⟨adr, cap, b, o, h1, h2, h3, h4, h5⟩ := h
  exact ⟨adr, cap, b, o, h1, h2, h3, h4, fun k hk => by rw [← e k hk]; exact h5 k hk⟩
theorem gradient_all (s : Bool) (vs vp vx vt : Value) (m cp : Nat) (z : Nat → Nat) (P x t : Nat → Int) (d : Nat) (c : Int) (c0 : 0 ≤ c) (c1 : c ≤ 800000000) (w : World) (hS : Ar w vs m (fun i => ((z i : Nat) : Int))) (hP : Ar w vp cp P) (hX : Ar w vx (z 0) x) (hT : Ar w vt (z (m - 1)) t) (hz : Szs z m) (hcp : cp = fsN z (m - 1)) (nS : Nb vs d) (nP : Nb vp d) (nX : Nb vx d) (nT : Nb vt d) (hc : w.cell? ⟨d, 0, none⟩ = some (.int .i64 c)) (hf : w.frozen? ⟨d, 0, none⟩ = false) :
    Calls Tryz.prog 22 #[.agg #[vs, vp], .pointer (some ⟨d, 0, none⟩), .int .i64 (lsK s), vx, vt] w fun e w' => ∃ v', e = .returned (.tuple #[v', .int .i64 (gdX s z m P x t)]) ∧ Ar w' v' cp (gdG s z m P x t) ∧ Ow w.heap.size v' ∧ Un d (c + gdC s z m P x t) w w' := by
  refine (gradient_any s vs vp vx vt m cp z P x t d c c0 c1 w hS hP hX hT hz hcp nS nP nX nT hc hf).mono ?_
  rintro e w' ⟨v', G, rfl, hA, hO, hG, hU⟩
  exact ⟨v', rfl, hA.congr (fun k hk => hG.one (fun i hi => (hz.2.2 i hi).1) (grd_all z m _ _) k (by omega)), hO, hU⟩
theorem gdC_rng (s : Bool) (z : Nat → Nat) (m : Nat) (P x t : Nat → Int) (hz : Szs z m) : 0 ≤ gdC s z m P x t ∧ gdC s z m P x t ≤ 30000 := by
  obtain ⟨m2, m6, h⟩ := hz
  have h1 := vC_rng z m P x (m - 1) (fun i hi => (h i hi).2) (by omega)
  have h2 := lsC_rng s (vN z m P x (m - 1)) t (z (m - 1))
  have h3 := slC_rng s (vN z m P x (m - 1)) t (z (m - 1))
  have h4 := bkC_rng z m P (vN z m P x) (sL z m P (vN z m P x) (slX s (vN z m P x (m - 1)) t)) (m - 1) (fun i hi => (h i hi).2) (by omega)
  have h5 := (h (m - 1) (by omega)).2
  unfold gdC
  omega
def Exs (w : World) (d b o K : Nat) (nx nt : Nat → Nat) (xs ts : Nat → Nat → Int) : Prop :=
  b ≠ d ∧ ∀ k, k < K → ∃ vx vt : Value, w.cell? ⟨b, o + k * 2, none⟩ = some vx ∧ w.cell? ⟨b, o + k * 2 + 1, none⟩ = some vt ∧ Ar w vx (nx k) (xs k) ∧ Ar w vt (nt k) (ts k) ∧ Nb vx d ∧ Nb vt d
theorem Exs.later {w w' : World} {d b o K : Nat} {nx nt : Nat → Nat} {xs ts : Nat → Nat → Int} (h : Exs w d b o K nx nt xs ts) (hb : Below w.heap.size w w') : Exs w' d b o K nx nt xs ts :=
  ⟨h.1, fun k hk => by obtain ⟨vx, vt, h1, h2, h3, h4, h5, h6⟩ := h.2 k hk; exact ⟨vx, vt, cell_later hb h1, cell_later hb h2, h3.later hb, h4.later hb, h5, h6⟩⟩
theorem Exs.un {w w' : World} {d b o K : Nat} {nx nt : Nat → Nat} {xs ts : Nat → Nat → Int} {c : Int} (h : Exs w d b o K nx nt xs ts) (hU : Un d c w w') : Exs w' d b o K nx nt xs ts :=
  ⟨h.1, fun k hk => by obtain ⟨vx, vt, h1, h2, h3, h4, h5, h6⟩ := h.2 k hk; exact ⟨vx, vt, hU.o _ _ h.1 h1, hU.o _ _ h.1 h2, h3.un h5 hU, h4.un h6 hU, h5, h6⟩⟩
def bgC (s : Bool) (z : Nat → Nat) (m : Nat) (P : Nat → Int) (xs ts : Nat → Nat → Int) : Nat → Int
  | 0 => 0
  | n + 1 => bgC s z m P xs ts n + gdC s z m P (xs n) (ts n)
theorem bgC_rng (s : Bool) (z : Nat → Nat) (m : Nat) (P : Nat → Int) (xs ts : Nat → Nat → Int) (hz : Szs z m) (n : Nat) : 0 ≤ bgC s z m P xs ts n ∧ bgC s z m P xs ts n ≤ 30000 * (n : Int) := by
  induction n with
  | zero => exact ⟨Int.le_refl _, Int.le_refl _⟩
  | succ n ih =>
    have h := gdC_rng s z m P (xs n) (ts n) hz
    show 0 ≤ bgC s z m P xs ts n + gdC s z m P (xs n) (ts n) ∧ bgC s z m P xs ts n + gdC s z m P (xs n) (ts n) ≤ _
    omega
end Go.Proofs.YtcaficenocblfaaGreatDoor
set_option linter.unusedVariables false
set_option linter.unusedSimpArgs false
namespace Go.Proofs.YtcaficenocblfaaGreatDoor
open Go.RowKit
theorem sum_congr (f g : Nat → Int) (n : Nat) (h : ∀ k, k < n → f k = g k) : sumV f n = sumV g n := by
  induction n with
  | zero => rfl
  | succ n ih =>
    show sumV f n + f n = sumV g n + g n
    rw [ih (fun k hk => h k (by omega)), h n (by omega)]
theorem dot_sum (f g : Nat → Int) (n : Nat) : dotV f g n = sumV (fun k => f k * g k) n := by
  induction n with
  | zero => rfl
  | succ n ih =>
    show dotV f g n + f n * g n = sumV (fun k => f k * g k) n + f n * g n
    rw [ih]
theorem dot_congr (f g f' g' : Nat → Int) (n : Nat) (h : ∀ k, k < n → f k = f' k ∧ g k = g' k) : dotV f g n = dotV f' g' n := by
  rw [dot_sum, dot_sum]
  exact sum_congr _ _ _ (fun k hk => by rw [(h k hk).1, (h k hk).2])
end Go.Proofs.YtcaficenocblfaaGreatDoor
set_option linter.unusedVariables false
set_option linter.unusedSimpArgs false
namespace Go.Proofs.YtcaficenocblfaaGreatDoor
open Go.RowKit

theorem ot_gr (s v : Nat → Int) (n u : Nat) : otN s v n u = grC s v n u := by
  induction u with
  | zero => rfl
  | succ u ih =>
    show otN s v n u + _ = grC s v n u + cntV (gwO s v u) n
    rw [ih]
    rfl
theorem sla_ah (z : Nat → Nat) (P s v : Nat → Int) (l i : Nat) : slaX (z (l + 1)) (z l) (fun i => P (fsN z l + i)) s v i = ahX z P s v l i := by
  unfold slaX ahX ahS
  rw [dot_congr s (fun u => P (fsN z l + (u * z l + i))) s (fun u => P (wtN z l u i)) (z (l + 1)) (fun k _ => ⟨rfl, by show P (fsN z l + (k * z l + i)) = P (fsN z l + k * z l + i); rw [Nat.add_assoc]⟩)]
theorem sla_ahO (z : Nat → Nat) (P s v : Nat → Int) (l i : Nat) : slaO (z (l + 1)) (z l) (fun i => P (fsN z l + i)) s v i = ahO z P s v l i := by
  unfold slaO ahO ahS
  rw [dot_congr s (fun u => P (fsN z l + (u * z l + i))) s (fun u => P (wtN z l u i)) (z (l + 1)) (fun k _ => ⟨rfl, by show P (fsN z l + (k * z l + i)) = P (fsN z l + k * z l + i); rw [Nat.add_assoc]⟩)]
theorem fl_grL {z : Nat → Nat} {m : Nat} {V S : Nat → Nat → Int} {F : Nat → Int} {l : Nat} (h : GrL z m V S (l + 1) F) (hz : 1 ≤ z l) : GrL z m V S l (flX (z (l + 1)) (z l) (fsN z l) F (S l) (V l)) := fun l' h1 h2 u hu => by
  have e0 : fsN z (l + 1) = fsN z l + (z l * z (l + 1) + z (l + 1)) := rfl
  rw [Nat.mul_comm (z l)] at e0
  rcases Nat.lt_or_ge l l' with hl | hl
  · have hm := fsN_mono z (show l + 1 ≤ l' from hl)
    refine ⟨fun i hi => ?_, ?_⟩
    · have := (wt_rng z l' u i hu hi).1
      unfold flX
      rw [if_neg (by omega), if_neg (by omega)]
      exact (h l' hl h2 u hu).1 i hi
    · have := (of_rng z l' u hu).1
      unfold flX
      rw [if_neg (by omega), if_neg (by omega)]
      exact (h l' hl h2 u hu).2
  · obtain rfl : l' = l := by omega
    refine ⟨fun i hi => ?_, ?_⟩
    · have hr := wt_rng z l' u i hu hi
      rw [Nat.mul_comm (z l')] at hr
      unfold flX
      rw [if_neg (by omega), if_pos (by omega)]
      have e : wtN z l' u i - fsN z l' = z l' * u + i := by unfold wtN; rw [Nat.mul_comm]; omega
      unfold otX
      rw [e, Nat.mul_add_div (by omega), Nat.div_eq_of_lt hi, Nat.add_zero, Nat.mul_add_mod, Nat.mod_eq_of_lt hi]
      rfl
    · have e : ofN z l' u = fsN z l' + z (l' + 1) * z l' + u := by unfold ofN; rw [Nat.mul_comm (z l')]
      unfold flX
      rw [if_pos (by omega), e]
      congr 1
      omega
theorem flX_rng (R C q : Nat) (F s v : Nat → Int) (hF : ∀ j, -9223372036854775808 ≤ F j ∧ F j ≤ 9223372036854775807) (hs : ∀ j, -9223372036854775808 ≤ s j ∧ s j ≤ 9223372036854775807) (j : Nat) : -9223372036854775808 ≤ flX R C q F s v j ∧ flX R C q F s v j ≤ 9223372036854775807 := by
  unfold flX
  split
  · exact hs _
  · split
    · unfold otX; exact clv_rng _
    · exact hF _
end Go.Proofs.YtcaficenocblfaaGreatDoor
set_option linter.unusedVariables false
set_option linter.unusedSimpArgs false
namespace Go.Proofs.YtcaficenocblfaaGreatDoor
open Go.RowKit

def osB (x : Int) : Bool := decide (x < 1) || decide (64 < x)
theorem osB_yes {x : Int} (h : ¬ (1 ≤ x ∧ x ≤ 64)) : osB x = true := by unfold osB; simp; omega
theorem osB_no {x : Int} (h : 1 ≤ x ∧ x ≤ 64) : osB x = false := by unfold osB; simp; omega
set_option maxHeartbeats 1000000 in
theorem pOutside_any (x : Int) (w : World) :
    Calls Tryz.prog 52 #[.int .i64 x] w fun e w' => e = .returned (.bool (osB x)) ∧ w' = w := by
  by_cases h1 : x < 1
  · rw [osB_yes (by omega)]
    go_enter Tryz.func52, Tryz.ntmps52
    go_wp2
    go_ret
    exact ⟨rfl, rfl⟩
  · by_cases h2 : 64 < x
    · rw [osB_yes (by omega)]
      go_enter Tryz.func52, Tryz.ntmps52
      go_wp2
      go_ret
      exact ⟨rfl, rfl⟩
    · rw [osB_no (by omega)]
      go_enter Tryz.func52, Tryz.ntmps52
      go_wp2
      go_ret
      exact ⟨rfl, rfl⟩
def osX (f : Nat → Int) (m : Nat) : Bool := (List.range m).any (fun k => osB (f k))
theorem osX_yes {f : Nat → Int} {m k : Nat} (hk : k < m) (h : osB (f k) = true) : osX f m = true := List.any_eq_true.2 ⟨k, List.mem_range.2 hk, h⟩
theorem osX_no {f : Nat → Int} {m : Nat} (h : ∀ k, k < m → osB (f k) = false) : osX f m = false := by
  rw [Bool.eq_false_iff]
  intro e
  obtain ⟨k, hk, h2⟩ := List.any_eq_true.1 e
  rw [h k (List.mem_range.1 hk)] at h2
  cases h2
theorem osX_sz {f : Nat → Int} {m : Nat} (h : szB f m) : osX f m = false := osX_no (fun k hk => osB_no (h k hk))
theorem osX_bad {f : Nat → Int} {m : Nat} (h : ¬ szB f m) : osX f m = true := by
  cases e : osX f m with
  | true => rfl
  | false =>
    refine absurd (fun k hk => ?_) h
    refine Classical.byContradiction fun hc => ?_
    rw [osX_yes hk (osB_yes hc)] at e
    cases e
set_option maxRecDepth 100000 in
set_option maxHeartbeats 2000000 in
theorem pIndex7_any (va : Value) (m : Nat) (f : Nat → Int) (w : World) (hA : Ar w va m f) :
    Calls Tryz.prog 80 #[va, .func (.func 52) #[] #[]] w fun e w' => ∃ i : Int, e = .returned (.int .i64 i) ∧ (osX f m = true → 0 ≤ i) ∧ (osX f m = false → i < 0) ∧ w' = w := by
  obtain ⟨adr, cap, b, o, rfl, k1, k2, k3, k4⟩ := hA
  unfold maxLen at k2
  have HC : Hid (∀ k, k < m → w.cell? ⟨b, o + k, none⟩ = some (.int .i64 (f k))) := fun k hk => (k4 k hk).1
  have HK : Hid (0 < m → adr = some ⟨b, o, none⟩) := k3
  clear k3 k4
  go_enter Tryz.func80, Tryz.ntmps80
  go_wp2
  go_loopw [8] (fun s8 wr => ∃ j : Nat, j ≤ m ∧ s8 = .int .i64 (j : Int) ∧ Hid (∀ k, k < j → osB (f k) = false) ∧ wr = w) (fun s8 _ => m - (intOf s8).toNat)
  case atStart => exact ⟨0, by omega, rfl, fun k hk => by omega, rfl⟩
  case round =>
    obtain ⟨j, hj, rfl, hA, rfl⟩ := hrel
    by_cases hlt : j < m
    · have hjI : (j : Int) < (m : Int) := by omega
      have ea := HK.out (by omega)
      subst ea
      have hcell := HC.out j hlt
      have CT : Hid (∀ W : World, Calls Tryz.prog 52 #[.int .i64 (f j)] W fun e w' => e = .returned (.bool (osB (f j))) ∧ w' = W) := fun W => pOutside_any (f j) W
      cases hb : osB (f j) with
      | true =>
        rw [hb] at CT
        have HF : Hid (osX f m = true) := osX_yes hlt hb
        clear hb hA
        go_wp2_with (go_at_call 52; refine (CT.out _).mono ?_; rintro e wz ⟨rfl, hz⟩; subst hz)
        go_ret
        exact ⟨_, rfl, fun _ => by omega, fun h => (by rw [HF.out] at h; cases h), rfl⟩
      | false =>
        rw [hb] at CT
        have HA2 : Hid (∀ k, k < j + 1 → osB (f k) = false) := fun k hk => by
          rcases Nat.lt_or_ge k j with h | h
          · exact hA.out k h
          · obtain rfl : k = j := by omega
            exact hb
        clear hb hA
        go_wp2_with (go_at_call 52; refine (CT.out _).mono ?_; rintro e wz ⟨rfl, hz⟩; subst hz)
        go_roundw
        case rel => exact ⟨j + 1, by omega, by go_num, HA2, trivial⟩
        case measure => simp [intOf]; omega
    · have HF : Hid (osX f m = false) := osX_no (fun k hk => hA.out k (by omega))
      have hjI : ¬ (j : Int) < (m : Int) := by omega
      clear hA
      go_wp2
      go_ret
      exact ⟨_, rfl, fun h => (by rw [HF.out] at h; cases h), fun _ => by omega, rfl⟩
set_option maxHeartbeats 1000000 in
theorem pContains7_any (va : Value) (m : Nat) (f : Nat → Int) (w : World) (hA : Ar w va m f) :
    Calls Tryz.prog 51 #[va, .func (.func 52) #[] #[]] w fun e w' => e = .returned (.bool (osX f m)) ∧ w' = w := by
  have CI : Hid (Calls Tryz.prog 80 #[va, .func (.func 52) #[] #[]] w fun e w' => ∃ i : Int, e = .returned (.int .i64 i) ∧ (osX f m = true → 0 ≤ i) ∧ (osX f m = false → i < 0) ∧ w' = w) := pIndex7_any va m f w hA
  obtain ⟨adr, cap, g, o, rfl, -, -, -, -⟩ := hA
  generalize osX f m = B at *
  cases B
  · go_enter Tryz.func51, Tryz.ntmps51
    go_wp2_with fail
    refine CI.out.mono ?_
    rintro e wz ⟨i, rfl, -, h1, hz⟩
    subst hz
    have h2 : ¬ (0 : Int) ≤ i := by have := h1 (by trivial); omega
    clear CI h1
    go_wp2
    go_ret
    exact ⟨by simp [h2], rfl⟩
  · go_enter Tryz.func51, Tryz.ntmps51
    go_wp2_with fail
    refine CI.out.mono ?_
    rintro e wz ⟨i, rfl, h1, -, hz⟩
    subst hz
    have h2 : (0 : Int) ≤ i := h1 (by trivial)
    clear CI h1
    go_wp2
    go_ret
    exact ⟨by simp [h2], rfl⟩
set_option maxRecDepth 100000 in
set_option maxHeartbeats 4000000 in
theorem pCount_no (va : Value) (m : Nat) (f : Nat → Int) (w : World) (hA : Ar w va m f) (hz : ¬ (2 ≤ m ∧ m ≤ 6 ∧ szB f m)) :
    Calls Tryz.prog 25 #[va] w fun e w' => e = .returned (.tuple #[.int .i64 0, .int .i64 70]) ∧ w' = w := by
  have CI : Hid (Calls Tryz.prog 51 #[va, .func (.func 52) #[] #[]] w fun e w' => e = .returned (.bool (osX f m)) ∧ w' = w) := pContains7_any va m f w hA
  obtain ⟨adr, cap, b, o, rfl, k1, k2, -, -⟩ := hA
  unfold maxLen at k2
  by_cases h2 : m < 2
  · have q1 : (m : Int) < 2 := by omega
    clear CI hz
    go_enter Tryz.func25, Tryz.ntmps25
    go_wp2
    go_ret2
    exact ⟨rfl, rfl⟩
  by_cases h6 : 6 < m
  · have q1 : ¬ (m : Int) < 2 := by omega
    have q2 : (6 : Int) < (m : Int) := by omega
    clear CI hz
    go_enter Tryz.func25, Tryz.ntmps25
    go_wp2
    go_ret2
    exact ⟨rfl, rfl⟩
  have q1 : ¬ (m : Int) < 2 := by omega
  have q2 : ¬ (6 : Int) < (m : Int) := by omega
  rw [osX_bad (fun h => hz ⟨by omega, by omega, h⟩)] at CI
  clear hz
  go_enter Tryz.func25, Tryz.ntmps25
  go_wp2_with fail
  refine CI.out.mono ?_
  rintro e wz ⟨rfl, hz⟩
  subst hz
  clear CI
  go_wp2
  go_ret2
  exact ⟨rfl, rfl⟩
set_option maxRecDepth 100000 in
set_option maxHeartbeats 4000000 in
theorem pCount_yes (va : Value) (m : Nat) (z : Nat → Nat) (w : World) (hA : Ar w va m (fun i => ((z i : Nat) : Int))) (hz : Szs z m) :
    Calls Tryz.prog 25 #[va] w fun e w' => e = .returned (.tuple #[.int .i64 ((fsN z (m - 1) : Nat) : Int), .int .i64 0]) ∧ w' = w := by
  have CI : Hid (Calls Tryz.prog 51 #[va, .func (.func 52) #[] #[]] w fun e w' => e = .returned (.bool (osX (fun i => ((z i : Nat) : Int)) m)) ∧ w' = w) := pContains7_any va m _ w hA
  obtain ⟨adr, cap, b, o, rfl, k1, k2, k3, k4⟩ := hA
  unfold maxLen at k2
  obtain ⟨m2, m6, hz⟩ := hz
  rw [osX_sz (fun i hi => by have := hz i hi; omega)] at CI
  have ha := k3 (by omega)
  subst ha
  obtain ⟨M, rfl⟩ : ∃ M, m = M + 1 := ⟨m - 1, by omega⟩
  have HX : Hid (∀ i, i < M + 1 → w.cell? ⟨b, o + i, none⟩ = some (.int .i64 ((z i : Nat) : Int))) := fun i hi => (k4 i hi).1
  have HZ : Hid (∀ i, i < M + 1 → 1 ≤ z i ∧ z i ≤ 64) := hz
  clear k3 k4 hz
  have q1 : ¬ ((M + 1 : Nat) : Int) < 2 := by omega
  have q2 : ¬ (6 : Int) < ((M + 1 : Nat) : Int) := by omega
  have q3 : (1 : Int) ≤ ((M + 1 : Nat) : Int) := by omega
  rw [Nat.add_sub_cancel]
  go_enter Tryz.func25, Tryz.ntmps25
  go_wp2_with fail
  refine CI.out.mono ?_
  rintro e wz ⟨rfl, hz⟩
  subst hz
  clear CI
  go_upto_region 5 with fail
  go_loopw [4, 22] (fun s3 si wr => ∃ i v : Nat, i ≤ M ∧ si = .int .i64 (i : Int) ∧ s3 = .int .i64 (v : Int) ∧ Hid (v = fsN z i) ∧ wr = wz) (fun _ si _ => M - (intOf si).toNat)
  case atStart => exact ⟨0, 0, by omega, rfl, rfl, rfl, rfl⟩
  case round =>
    obtain ⟨i, v, hi, rfl, rfl, HV, rfl⟩ := hrel
    by_cases hlt : i < M
    · have hiI : (i : Int) < (M : Int) := by omega
      have hiJ : (i : Int) < ((M + 1 : Nat) : Int) := by omega
      have cA : wr.cell? ⟨b, o + i, none⟩ = some (.int .i64 ((z i : Nat) : Int)) := HX.out i (by omega)
      have cB : wr.cell? ⟨b, o + 1 + i, none⟩ = some (.int .i64 ((z (i + 1) : Nat) : Int)) := by rw [show o + 1 + i = o + (i + 1) by omega]; exact HX.out (i + 1) (by omega)
      obtain ⟨z1, z2⟩ := HZ.out i (by omega)
      obtain ⟨y1, y2⟩ := HZ.out (i + 1) (by omega)
      have hvb : v ≤ 4160 * 6 := by
        have h := fsN_le z (M + 1) i HZ.out (by omega)
        rw [HV.out]; omega
      have HV2 : Hid (v + (z i + 1) * z (i + 1) = fsN z (i + 1)) := by
        show _ = fsN z i + (z i * z (i + 1) + z (i + 1))
        rw [HV.out, Nat.succ_mul]
      have hpb : (z i + 1) * z (i + 1) ≤ 65 * 64 := Nat.mul_le_mul (by omega) y2
      have epr : (((z i + 1 : Nat) : Nat) : Int) * ((z (i + 1) : Nat) : Int) = (((z i + 1) * z (i + 1) : Nat) : Int) := by rw [Int.natCast_mul]
      have w0 : IntKind.i64.wrap (((z i : Nat) : Int) + 1) = ((z i + 1 : Nat) : Int) := by rw [IntKind.wrap_i64]; omega
      generalize (z i + 1) * z (i + 1) = pr at *
      generalize z i + 1 = zc at *
      generalize z i = za at *
      generalize z (i + 1) = zb at *
      have w2 : IntKind.i64.wrap ((pr : Nat) : Int) = (pr : Int) := by rw [IntKind.wrap_i64]; omega
      have w4 : IntKind.i64.wrap ((v : Int) + (pr : Int)) = ((v + pr : Nat) : Int) := by rw [IntKind.wrap_i64]; omega
      generalize v + pr = vv at *
      go_wp2
      go_roundw
      case rel => exact ⟨i + 1, vv, by omega, by go_num, rfl, HV2, trivial⟩
      case measure => simp [intOf]; omega
    · obtain rfl : i = M := by omega
      have hiI : ¬ (i : Int) < (i : Int) := by omega
      have HV' : Hid (fsN z i = v) := HV.out.symm
      go_wp2
      go_ret2
      exact ⟨by show Ending.returned (Value.tuple #[.int .i64 (v : Int), .int .i64 0]) = _; rw [HV'.out], rfl⟩
end Go.Proofs.YtcaficenocblfaaGreatDoor
