/-
  Texts of this proof, joined: LWalkI LMath4 BK BJ LWalkJ EMathB.
-/
import Derived.Test.YtdfjnbkkdgolnaaGreatDoorSU04
import Derived.Test.YtdfjnbkkdgolnaaGreatDoorSU06
import Derived.Test.YtdfjnbkkdgolnaaGreatDoorSU07
import Derived.Test.YtdfjnbkkdgolnaaGreatDoorSU09
import Derived.Deep.DrawnRows
import Derived.Deep.Cut
import Derived.Deep.DeepCutAuto
import Derived.Deep.RegionHeld3
import Derived.Laws.Bits64
set_option linter.unusedVariables false
set_option linter.unusedSimpArgs false
namespace Go.Proofs.YtdfjnbkkdgolnaaGreatDoor
open Go.RowKit

/-- How many are held of a gradient. -/
def gdC (s : Bool) (z : Nat → Nat) (m : Nat) (P x t : Nat → Int) : Int :=
  vC z m P x (m - 1) + lsC s (vN z m P x (m - 1)) t (z (m - 1)) + slC s (vN z m P x (m - 1)) t (z (m - 1)) + bkC z m P (vN z m P x) (sL z m P (vN z m P x) (slX s (vN z m P x (m - 1)) t)) (m - 1)
/-- The slopes of a net, layer by layer. -/
def gdS (s : Bool) (z : Nat → Nat) (m : Nat) (P x t : Nat → Int) : Nat → Nat → Int := sL z m P (vN z m P x) (slX s (vN z m P x (m - 1)) t)
theorem sL_rng (z : Nat → Nat) (m : Nat) (p : Nat → Int) (V : Nat → Nat → Int) (s0 : Nat → Int) (h0 : ∀ i, -9223372036854775808 ≤ s0 i ∧ s0 i ≤ 9223372036854775807) (l i : Nat) : -9223372036854775808 ≤ sL z m p V s0 l i ∧ sL z m p V s0 l i ≤ 9223372036854775807 := by
  unfold sL
  generalize m - 2 - l = k
  cases k with
  | zero => exact h0 i
  | succ k => exact ahX_rng _ _ _ _ _ _
set_option maxRecDepth 100000 in
set_option maxHeartbeats 32000000 in
theorem gradient_any (s : Bool) (vs vp vx vt : Value) (m cp : Nat) (z : Nat → Nat) (P x t : Nat → Int) (d : Nat) (c : Int) (c0 : 0 ≤ c) (c1 : c ≤ 800000000) (w : World) (hS : Ar w vs m (fun i => ((z i : Nat) : Int))) (hP : Ar w vp cp P) (hX : Ar w vx (z 0) x) (hT : Ar w vt (z (m - 1)) t) (hz : Szs z m) (hcp : cp = fsN z (m - 1)) (nS : Nb vs d) (nP : Nb vp d) (nX : Nb vx d) (nT : Nb vt d) (hc : w.cell? ⟨d, 0, none⟩ = some (.int .i64 c)) (hf : w.frozen? ⟨d, 0, none⟩ = false) :
    Calls Tryz.prog 32 #[.agg #[vs, vp], .pointer (some ⟨d, 0, none⟩), .int .i64 (lsK s), vx, vt] w fun e w' => ∃ v' G, e = .returned (.tuple #[v', .int .i64 (lsX s (vN z m P x (m - 1)) t (z (m - 1)))]) ∧ Ar w' v' cp G ∧ Ow w.heap.size v' ∧ Grd z m (vN z m P x) (gdS s z m P x t) G ∧ Un d (c + gdC s z m P x t) w w' := by
  have hd := World.block_lt_of_cell? _ _ hc
  obtain ⟨m2, m6, hz6⟩ := id hz
  have hXr : ∀ i, i < z 0 → -9223372036854775808 ≤ x i ∧ x i ≤ 9223372036854775807 := by obtain ⟨_, _, _, _, _, _, _, _, h5⟩ := hX; exact fun i hi => (h5 i hi).2
  have hcpB : cp ≤ 20800 := by have := fsN_le z m (m - 1) hz6 (by omega); omega
  obtain ⟨zn1, zn2⟩ := hz6 (m - 1) (by omega)
  have hvC := vC_rng z m P x (m - 1) (fun i hi => (hz6 i hi).2) (by omega)
  have HVa : Hid (∀ W : World, Below w.heap.size w W → Calls Tryz.prog 25 #[.agg #[vs, vp], .pointer (some ⟨d, 0, none⟩), vx] W fun e w' => ∃ v', e = .returned v' ∧ Ls w' d v' m z (vN z m P x) ∧ Un d (c + vC z m P x (m - 1)) W w') := fun W hb => values_any vs vp vx m cp z P x d c c0 (by omega) W (hS.later hb) (hP.later hb) (hX.later hb) hz hcp nS nP nX (cell_later hb hc) (frozen_later hb hc hf)
  have HVr : Hid (∀ l u, u < z l → -9223372036854775808 ≤ vN z m P x l u ∧ vN z m P x l u ≤ 9223372036854775807) := fun l u hu => vN_rng z m P x l u hXr hu
  have HTt : Hid (Ar w vt (z (m - 1)) t ∧ Nb vt d) := ⟨hT, nT⟩
  have HSP : Hid (Ar w vs m (fun i => ((z i : Nat) : Int)) ∧ Ar w vp cp P ∧ Nb vs d ∧ Nb vp d) := ⟨hS, hP, nS, nP⟩
  have HZ6 : Hid (∀ i, i < m → 1 ≤ z i ∧ z i ≤ 64) := hz6
  have HSz : Hid (Szs z m ∧ cp = fsN z (m - 1)) := ⟨hz, hcp⟩
  obtain ⟨V, hV⟩ : ∃ V, vN z m P x = V := ⟨_, rfl⟩
  obtain ⟨Sf, hSf⟩ : ∃ Sf, gdS s z m P x t = Sf := ⟨_, rfl⟩
  have HS0 : Hid (slX s (V (m - 1)) t = Sf (m - 2)) := by show _ = _; rw [← hSf, ← hV]; unfold gdS; rw [sL_last]
  have HSt : Hid (∀ l, l + 2 < m → Sf l = ahX z P (Sf (l + 1)) (V (l + 1)) (l + 1)) := fun l hl => by rw [← hSf, ← hV]; unfold gdS; exact sL_step _ _ _ _ _ l hl
  have HSr : Hid (∀ l i, -9223372036854775808 ≤ Sf l i ∧ Sf l i ≤ 9223372036854775807) := fun l i => by rw [← hSf]; exact sL_rng _ _ _ _ _ (fun i => slX_rng _ _ _ _) _ _
  have HgC : Hid (gdC s z m P x t = vC z m P x (m - 1) + lsC s (V (m - 1)) t (z (m - 1)) + slC s (V (m - 1)) t (z (m - 1)) + bkC z m P V Sf (m - 1)) := by show _ = _; rw [← hSf, ← hV]; rfl
  rw [hV] at HVa HVr
  rw [hV, hSf, HgC.out]
  have hlC := lsC_rng s (V (m - 1)) t (z (m - 1))
  have hsC := slC_rng s (V (m - 1)) t (z (m - 1))
  have HbC : Hid (∀ k, k + 1 ≤ m → 0 ≤ bkC z m P V Sf k ∧ bkC z m P V Sf k ≤ 4160 * (k : Int)) := fun k hk => bkC_rng z m P V Sf k (fun i hi => (hz6 i hi).2) hk
  have HbS : Hid (∀ k, bkC z m P V Sf (k + 1) = bkC z m P V Sf k + grC (Sf (m - 2 - k)) (V (m - 2 - k)) (z (m - 2 - k)) (z (m - 1 - k)) + (if m - 2 - k = 0 then 0 else cntV (ahO z P (Sf (m - 2 - k)) (V (m - 2 - k)) (m - 2 - k)) (z (m - 2 - k)))) := fun k => rfl
  have HgR : Hid (∀ l u, l < m → 0 ≤ grC (Sf l) (V l) (z l) u ∧ grC (Sf l) (V l) (z l) u ≤ 64 * (u : Int)) := fun l u hl => grC_rng _ _ _ _ (hz6 l hl).2
  clear hV hSf HgC
  generalize hvc : vC z m P x (m - 1) = vc at *
  clear hvc
  have Hls : Hid (∀ (W : World) (va : Value), Ar W va (z (m - 1)) (V (m - 1)) → Nb va d → Ar W vt (z (m - 1)) t → W.cell? ⟨d, 0, none⟩ = some (.int .i64 (c + vc)) → W.frozen? ⟨d, 0, none⟩ = false → Calls Tryz.prog 28 #[.pointer (some ⟨d, 0, none⟩), .int .i64 (lsK s), va, vt] W fun e w' => e = .returned (.int .i64 (lsX s (V (m - 1)) t (z (m - 1)))) ∧ Un d (c + vc + lsC s (V (m - 1)) t (z (m - 1))) W w') := fun W va h1 h2 h3 h4 h5 => loss_any s va vt _ _ _ d (c + vc) (by omega) (by omega) (by omega) W h1 h3 h2 nT h4 h5
  have Hsl : Hid (∀ (W : World) (va : Value), Ar W va (z (m - 1)) (V (m - 1)) → Nb va d → Ar W vt (z (m - 1)) t → W.cell? ⟨d, 0, none⟩ = some (.int .i64 (c + vc + lsC s (V (m - 1)) t (z (m - 1)))) → W.frozen? ⟨d, 0, none⟩ = false → Calls Tryz.prog 29 #[.pointer (some ⟨d, 0, none⟩), .int .i64 (lsK s), va, vt] W fun e w' => ∃ v', e = .returned v' ∧ Ar w' v' (z (m - 1)) (Sf (m - 2)) ∧ Ow W.heap.size v' ∧ Un d (c + vc + lsC s (V (m - 1)) t (z (m - 1)) + slC s (V (m - 1)) t (z (m - 1))) W w') := fun W va h1 h2 h3 h4 h5 => by
    rw [← HS0.out]
    exact slope_any s va vt _ _ _ d (c + vc + lsC s (V (m - 1)) t (z (m - 1))) (by omega) (by omega) (by omega) W h1 h3 h2 nT h4 h5
  obtain ⟨c5, hc5⟩ : ∃ c5, c + vc + lsC s (V (m - 1)) t (z (m - 1)) + slC s (V (m - 1)) t (z (m - 1)) = c5 := ⟨_, rfl⟩
  have Hc5 : Hid (c + (vc + lsC s (V (m - 1)) t (z (m - 1)) + slC s (V (m - 1)) t (z (m - 1)) + bkC z m P V Sf (m - 1)) = c5 + bkC z m P V Sf (m - 1)) := by show _ = _; omega
  have hc50 : 0 ≤ c5 ∧ c5 ≤ 801000000 := by omega
  rw [Hc5.out]
  rw [hc5] at Hsl
  clear hc5 Hc5 hlC hsC hvC
  generalize lsC s (V (m - 1)) t (z (m - 1)) = lc at *
  generalize slC s (V (m - 1)) t (z (m - 1)) = sc at *
  generalize lsX s (V (m - 1)) t (z (m - 1)) = lx at *
  obtain ⟨adr, cap, b, o, rfl, k1, k2, k3, k4⟩ := hS
  obtain ⟨adp, cpp, bp, op, rfl, j1, j2, j3, j4⟩ := hP
  unfold maxLen at k2 j2
  have ha := k3 (by omega)
  subst ha
  have hbd : b ≠ d := nS _ _ _ rfl (by omega)
  have HZ : Hid (∀ i, i < m → w.cell? ⟨b, o + i, none⟩ = some (.int .i64 ((z i : Nat) : Int))) := fun i hi => (k4 i hi).1
  have U0 : Hid (Un d c w w) := Un.same hc hf
  obtain ⟨w1, hw1⟩ : ∃ w1, w1 = w.alloc (.cells #[.slice (some ⟨b, o, none⟩) m cap, .slice adp cp cpp] 37) := ⟨_, rfl⟩
  have HB1 : Hid (Below w.heap.size w w1) := by rw [hw1]; exact bel1 _ _
  have HBx : Hid (Bx w.heap.size (.slice (some ⟨b, o, none⟩) m cap) (.slice adp cp cpp) w1) := by rw [hw1]; exact Bx.new w _ _ _
  have x0 := HBx.out.c0
  have x1 := HBx.out.c1
  have hm1 : ((m - 1 : Nat) : Int) = (m : Int) - 1 := by omega
  have Hm1 : Hid (((m - 1 : Nat) : Int) = (m : Int) - 1) := hm1
  have hwm : IntKind.i64.wrap ((m : Int) - 1) = ((m - 1 : Nat) : Int) := by rw [IntKind.wrap_i64]; omega
  have hwm2 : IntKind.i64.wrap (((m - 1 : Nat) : Int) - 1) = (m : Int) - 2 := by rw [IntKind.wrap_i64]; omega
  have hmk := make_i64 cp (by omega)
  have hmlt : ((m - 1 : Nat) : Int) < (m : Int) := by omega
  clear k3 k4 j3 j4 nS nP nX nT hc hf hz6 hz hX hT hXr hm1 hcp
  go_enter Tryz.func32, Tryz.ntmps32
  go_upto_region 1 with fail
  rw [← hw1]
  clear hw1
  go_wp2_with fail
  refine (HVa.out _ HB1.out).mono ?_
  rintro e w2 ⟨v12, rfl, hLs, hU2⟩
  have HU2 : Hid (Un d (c + vc) w w2) := Un.after HB1.out hU2
  have HB2 : Hid (Bx w.heap.size (.slice (some ⟨b, o, none⟩) m cap) (.slice adp cp cpp) w2) := HBx.out.un hU2 (by omega)
  have HL2 : Hid (Ls w2 d v12 m z V) := hLs
  have y0 := HB2.out.c0
  obtain ⟨g12, ca12, rfl, l1, l2, l3, l4⟩ := hLs
  unfold maxLen at l2
  obtain ⟨vy, hvy, hAy, hNy⟩ := l4 (m - 1) (by omega)
  obtain ⟨ady, cay, by', oy, rfl, p1, p2, p3, p4⟩ := id hAy
  have HAy : Hid (Ar w2 (.slice ady (z (m - 1)) cay) (z (m - 1)) (V (m - 1)) ∧ Nb (.slice ady (z (m - 1)) cay) d) := ⟨hAy, hNy⟩
  have CL := Hls.out w2 _ hAy hNy (HTt.out.1.un HTt.out.2 HU2.out) HU2.out.c HU2.out.f
  clear hU2 l4 p3 p4 hAy hNy HVa x0 x1 HBx HB1 U0
  go_wp2_with fail
  refine CL.mono ?_
  rintro e w3 ⟨rfl, hU3⟩
  have HU3 : Hid (Un d (c + vc + lc) w w3) := HU2.out.chain hU3
  have HB3 : Hid (Bx w.heap.size (.slice (some ⟨b, o, none⟩) m cap) (.slice adp cp cpp) w3) := HB2.out.un hU3 (by omega)
  have HL3 : Hid (Ls w3 d (.slice (some ⟨g12, 0, none⟩) m ca12) m z V) := HL2.out.un hU3
  have hvy3 := hU3.o _ _ l3 hvy
  have CS := Hsl.out w3 _ (HAy.out.1.un HAy.out.2 hU3) HAy.out.2 (HTt.out.1.un HTt.out.2 HU3.out) HU3.out.c HU3.out.f
  clear CL hU3 HU2 HB2 HL2 hvy y0 HAy Hls
  go_wp2_with fail
  refine CS.mono ?_
  rintro e w4 ⟨v15, rfl, hA15, hO15, hU4⟩
  have HU4 : Hid (Un d c5 w w4) := HU3.out.chain hU4
  have HB4 : Hid (Bx w.heap.size (.slice (some ⟨b, o, none⟩) m cap) (.slice adp cp cpp) w4) := HB3.out.un hU4 (by omega)
  have HL4 : Hid (Ls w4 d (.slice (some ⟨g12, 0, none⟩) m ca12) m z V) := HL3.out.un hU4
  have hd3 : d < w3.heap.size := by have := HU3.out.s; omega
  have H15 : Hid (Ar w4 v15 (z (m - 1)) (Sf (m - 2)) ∧ Nb v15 d) := ⟨hA15, hO15.nb hd3⟩
  have hs4 : w.heap.size ≤ w4.heap.size := HU4.out.s
  have y1 := HB4.out.c1
  clear CS hU4 HU3 HB3 HL3 hvy3 hA15 hO15 Hsl
  obtain ⟨g, hg⟩ : ∃ g, w4.heap.size = g := ⟨_, rfl⟩
  obtain ⟨w5, hw5⟩ : ∃ w5, w5 = w4.alloc (.cells (madeCells #[.int .i64 0] cp) 2) := ⟨_, rfl⟩
  have HB5 : Hid (Below w4.heap.size w4 w5) := by rw [hw5]; exact bel1 _ _
  have HR5 : Hid (Rw g cp (fun j => .int .i64 ((fun _ => (0 : Int)) j)) w5) := by rw [hw5, ← hg]; exact Rw.made w4 (.int .i64 0) cp 2
  have hg5 : g < w5.heap.size := by rw [hw5, World.size_alloc]; omega
  have hdg : d < g := by omega
  obtain ⟨ad15, ca15, b15', o15', rfl, -, -, -, -⟩ := id H15.out.1
  go_upto_region 7 with fail
  rw [← hw5]
  try simp only [hg]
  clear hw5 y1 hmk
  go_loopw [15, 17] (fun s15 s17 wr => ∃ (k : Nat) (X : Int) (F : Nat → Int), k + 1 ≤ m ∧ s17 = .int .i64 X ∧ Hid (X + (k : Int) + 2 = (m : Int)) ∧ Hid (Rw g cp (fun j => .int .i64 (F j)) wr) ∧ Hid (GrL z m V Sf (m - 1 - k) F) ∧ Hid (∀ j, -9223372036854775808 ≤ F j ∧ F j ≤ 9223372036854775807) ∧ Hid (Un d (c5 + bkC z m P V Sf k) w4 wr) ∧ Hid (k + 2 ≤ m → Ar wr s15 (z (m - 1 - k)) (Sf (m - 2 - k)) ∧ Nb s15 d ∧ Nb s15 g) ∧ g < wr.heap.size) (fun _ s17 _ => (intOf s17 + 1).toNat)
  case atStart =>
    refine ⟨0, (m : Int) - 2, fun _ => 0, by omega, rfl, by show _ = _; omega, HR5, grL_none _ _ _ _ _ _ (by omega), fun _ => ⟨by show (-9223372036854775808 : Int) ≤ 0; omega, by show (0 : Int) ≤ 9223372036854775807; omega⟩, by show Un d (c5 + 0) w4 w5; rw [Int.add_zero]; exact (Un.same HU4.out.c HU4.out.f).ahead HB5.out, fun _ => ⟨H15.out.1.later HB5.out, H15.out.2, H15.out.1.spare (by omega)⟩, hg5⟩
  case round =>
    rename World => wo
    obtain ⟨k, X, F, hk, rfl, HXk, HRo, HGo, HFo, HUo, H15o, hgo⟩ := hrel
    clear HR5 HB5 H15 hg5
    by_cases hk2 : k + 2 ≤ m
    · obtain ⟨l, hl⟩ : ∃ l, l + k + 2 = m := ⟨m - 2 - k, by omega⟩
      obtain rfl : X = (l : Int) := by have := HXk.out; omega
      have e1 : m - 1 - k = l + 1 := by omega
      have e2 : m - 2 - k = l := by omega
      obtain ⟨hA15, hN15d, hN15g⟩ := H15o.out hk2
      rw [e1] at HGo hA15
      rw [e2] at hA15
      have HbSk := HbS.out k
      rw [e2, e1] at HbSk
      have HbSk2 : Hid (bkC z m P V Sf (k + 1) = bkC z m P V Sf k + grC (Sf l) (V l) (z l) (z (l + 1)) + (if l = 0 then 0 else cntV (ahO z P (Sf l) (V l) l) (z l))) := HbSk
      have hbk := HbC.out k (by omega)
      have Hlk : Hid (l + k + 2 = m) := hl
      have hlm : l + 1 < m := by omega
      have hl0 : (0 : Int) ≤ (l : Int) := by omega
      have hl01 : (0 : Int) ≤ (l : Int) + 1 := by omega
      have hlM : (l : Int) < (m : Int) := by omega
      have hlM1 : (l : Int) + 1 < (m : Int) := by omega
      have hwL : IntKind.i64.wrap ((l : Int) + 1) = (l : Int) + 1 := by rw [IntKind.wrap_i64]; omega
      clear hl e1 e2 HXk H15o HbSk hk2
      obtain ⟨adS, caS, bS, oS, rfl, q1, q2, q3, q4⟩ := id hA15
      unfold maxLen at q2
      obtain ⟨za1, za2⟩ := HZ6.out l (by omega)
      obtain ⟨zb1, zb2⟩ := HZ6.out (l + 1) hlm
      have eS := q3 (by omega)
      subst eS
      have hbSd : bS ≠ d := hN15d _ _ _ rfl (by omega)
      have hbSg : bS ≠ g := hN15g _ _ _ rfl (by omega)
      have HAS : Hid (∀ u, u < z (l + 1) → wo.cell? ⟨bS, oS + u, none⟩ = some (.int .i64 (Sf l u))) := fun u hu => (q4 u hu).1
      have HASo : Hid (Ar wo (.slice (some ⟨bS, oS, none⟩) (z (l + 1)) caS) (z (l + 1)) (Sf l) ∧ Nb (.slice (some ⟨bS, oS, none⟩) (z (l + 1)) caS) d ∧ Nb (.slice (some ⟨bS, oS, none⟩) (z (l + 1)) caS) g) := ⟨hA15, hN15d, hN15g⟩
      clear q3 q4 hA15 hN15d hN15g
      have hwd : w.heap.size ≠ d := by omega
      have hwg : w.heap.size ≠ g := by have := World.block_lt_of_cell? _ _ HB4.out.c0; dsimp only at this; omega
      have HBo : Hid (Bx w.heap.size (.slice (some ⟨b, o, none⟩) m cap) (.slice adp cp cpp) wo) := HB4.out.un HUo.out hwd
      have HLo : Hid (Ls wo d (.slice (some ⟨g12, 0, none⟩) m ca12) m z V) := HL4.out.un HUo.out
      have HARo : Hid (Ar wo (.slice (some ⟨b, o, none⟩) m cap) m (fun i => ((z i : Nat) : Int)) ∧ Ar wo (.slice adp cp cpp) cp P) := ⟨(HSP.out.1.un HSP.out.2.2.1 HU4.out).un HSP.out.2.2.1 HUo.out, (HSP.out.2.1.un HSP.out.2.2.2 HU4.out).un HSP.out.2.2.2 HUo.out⟩
      have CF := first_any (.slice (some ⟨b, o, none⟩) m cap) (.slice adp cp cpp) m l z wo HARo.out.1 HSz.out.1 (by omega)
      have x0 := HBo.out.c0
      have x1 := HBo.out.c1
      obtain ⟨A, hA⟩ : ∃ A, fsN z l = A := ⟨_, rfl⟩
      have HA : Hid (fsN z l = A) := hA
      have hAb : A ≤ 20800 := by rw [← hA]; have := fsN_le z m l HZ6.out (by omega); omega
      rw [hA] at CF
      clear hA
      go_wp2_with fail
      refine CF.mono ?_
      rintro e wp ⟨rfl, hbp⟩
      have HRp : Hid (Rw g cp (fun j => .int .i64 (F j)) wp) := HRo.out.later hbp
      have HUp : Hid (Un d (c5 + bkC z m P V Sf k) w4 wp) := HUo.out.ahead hbp
      have HASp : Hid (Ar wp (.slice (some ⟨bS, oS, none⟩) (z (l + 1)) caS) (z (l + 1)) (Sf l)) := HASo.out.1.later hbp
      have hgp : g < wp.heap.size := by have := hbp.size; omega
      clear CF hbp x0 x1 HRo HUo HBo HLo HARo HAS
      go_upto_region 11 with fail
      -- what is read, in w4
      obtain ⟨g12', ca12', hv12, -, -, -, hLl⟩ := id HL4.out
      cases hv12
      obtain ⟨vl, hvl, hAl, hNl⟩ := hLl l (by omega)
      obtain ⟨adl, cal, bl, ol, rfl, f1, f2, f3, f4⟩ := hAl
      unfold maxLen at f2
      have eL := f3 (by omega)
      subst eL
      have hbld : bl ≠ d := hNl _ _ _ rfl (by omega)
      have HVl4 : Hid (∀ i, i < z l → w4.cell? ⟨bl, ol + i, none⟩ = some (.int .i64 (V l i))) := fun i hi => (f4 i hi).1
      have Hvl : Hid (w4.cell? ⟨g12, l, none⟩ = some (.slice (some ⟨bl, ol, none⟩) (z l) cal)) := hvl
      have HZ4 : Hid (w4.cell? ⟨b, o + l, none⟩ = some (.int .i64 ((z l : Nat) : Int)) ∧ w4.cell? ⟨b, o + (l + 1), none⟩ = some (.int .i64 ((z (l + 1) : Nat) : Int))) := ⟨HU4.out.o _ _ hbd (HZ.out l (by omega)), HU4.out.o _ _ hbd (HZ.out (l + 1) hlm)⟩
      have hblg : bl ≠ g := by have := World.block_lt_of_cell? _ _ (HVl4.out 0 (by omega)); dsimp only at this; omega
      have hg12g : g12 ≠ g := by have := World.block_lt_of_cell? _ _ Hvl.out; dsimp only at this; omega
      have hbg : b ≠ g := by have := World.block_lt_of_cell? _ _ HZ4.out.1; dsimp only at this; omega
      clear hLl hvl hNl f3 f4
      have HSl : Hid (∀ u, -9223372036854775808 ≤ Sf l u ∧ Sf l u ≤ 9223372036854775807) := HSr.out l
      have HVl : Hid (∀ u, u < z l → -9223372036854775808 ≤ V l u ∧ V l u ≤ 9223372036854775807) := HVr.out l
      have Hfs : Hid (fsN z (l + 1) ≤ cp) := by show _ ≤ _; rw [HSz.out.2]; exact fsN_mono z (by omega)
      have HgRl : Hid (∀ u, 0 ≤ grC (Sf l) (V l) (z l) u ∧ grC (Sf l) (V l) (z l) u ≤ 64 * (u : Int)) := fun u => HgR.out l u (by omega)
      go_loopw [19] (fun s19 wi => ∃ (u : Nat) (F : Nat → Int), u ≤ z (l + 1) ∧ s19 = .int .i64 (u : Int) ∧ Hid (Rw g cp (fun j => .int .i64 (F j)) wi) ∧ Hid (GrL z m V Sf (l + 1) F ∧ GrR z V Sf l u F) ∧ Hid (∀ j, -9223372036854775808 ≤ F j ∧ F j ≤ 9223372036854775807) ∧ Hid (Un d (c5 + bkC z m P V Sf k + grC (Sf l) (V l) (z l) u) w4 wi) ∧ Hid (Ar wi (.slice (some ⟨bS, oS, none⟩) (z (l + 1)) caS) (z (l + 1)) (Sf l)) ∧ g < wi.heap.size) (fun s19 _ => z (l + 1) - (intOf s19).toNat)
      case atStart => exact ⟨0, F, by omega, rfl, HRp, ⟨HGo.out, fun u hu => absurd hu (Nat.not_lt_zero _)⟩, HFo, by show Un d (_ + 0) _ _; rw [Int.add_zero]; exact HUp.out, HASp, hgp⟩
      case round =>
        rename World => wi
        obtain ⟨u, F1, hu, rfl, HRi, HGi, HFi, HUi, HASi, hgi⟩ := hrel
        clear HRp HGo HFo HUp HASp hgp
        have x0 := (HB4.out.un HUi.out hwd).c0
        have cZ1 := HUi.out.o _ _ hbd HZ4.out.2
        have hgr := HgRl.out u
        by_cases hul : u < z (l + 1)
        · have huI : (u : Int) < ((z (l + 1) : Nat) : Int) := by omega
          obtain ⟨OZ, hOZ⟩ : ∃ OZ, u * z l = OZ := ⟨_, rfl⟩
          have eOZ : (u : Int) * ((z l : Nat) : Int) = (OZ : Int) := by rw [← hOZ, Int.natCast_mul]
          have hOZb : OZ ≤ 4096 := by rw [← hOZ]; exact Nat.mul_le_mul (show u ≤ 64 by omega) za2
          have wOZ : IntKind.i64.wrap (OZ : Int) = (OZ : Int) := by rw [IntKind.wrap_i64]; omega
          obtain ⟨AO, hAO⟩ : ∃ AO, A + OZ = AO := ⟨_, rfl⟩
          have wAO : IntKind.i64.wrap ((A : Int) + (OZ : Int)) = (AO : Int) := by rw [IntKind.wrap_i64]; omega
          have hAOb : AO ≤ 25000 := by omega
          have HAO : Hid (∀ i, AO + i = wtN z l u i) := fun i => by unfold wtN; rw [HA.out, hOZ, hAO]
          obtain ⟨ZZ, hZZ⟩ : ∃ ZZ, z l * z (l + 1) = ZZ := ⟨_, rfl⟩
          have eZZ : ((z l : Nat) : Int) * ((z (l + 1) : Nat) : Int) = (ZZ : Int) := by rw [← hZZ, Int.natCast_mul]
          have hZZb : ZZ ≤ 4096 := by rw [← hZZ]; exact Nat.mul_le_mul za2 zb2
          have wZZ : IntKind.i64.wrap (ZZ : Int) = (ZZ : Int) := by rw [IntKind.wrap_i64]; omega
          obtain ⟨AZ, hAZ⟩ : ∃ AZ, A + ZZ = AZ := ⟨_, rfl⟩
          have wAZ : IntKind.i64.wrap ((A : Int) + (ZZ : Int)) = (AZ : Int) := by rw [IntKind.wrap_i64]; omega
          obtain ⟨OF, hOF⟩ : ∃ OF, AZ + u = OF := ⟨_, rfl⟩
          have wOF : IntKind.i64.wrap ((AZ : Int) + (u : Int)) = (OF : Int) := by rw [IntKind.wrap_i64]; omega
          have HOF : Hid (OF = ofN z l u) := by show _ = _; unfold ofN; rw [HA.out, hZZ, hAZ, hOF]
          have hOFc : OF < cp := by rw [HOF.out]; have := ofN_lt z l u hul; have := Hfs.out; omega
          have hOFI : (OF : Int) < (cp : Int) := by omega
          clear hOZ hAO hZZ hAZ hOF
          have HBi : Hid (Bx w.heap.size (.slice (some ⟨b, o, none⟩) m cap) (.slice adp cp cpp) wi) := HB4.out.un HUi.out hwd
          go_upto_region 14 with fail
          clear x0 cZ1
          go_loopw [20] (fun s20 wc => ∃ (i : Nat) (F : Nat → Int), i ≤ z l ∧ s20 = .int .i64 (i : Int) ∧ Hid (Rw g cp (fun j => .int .i64 (F j)) wc) ∧ Hid (GrL z m V Sf (l + 1) F ∧ GrR z V Sf l u F ∧ GrC z V Sf l u i F) ∧ Hid (∀ j, -9223372036854775808 ≤ F j ∧ F j ≤ 9223372036854775807) ∧ Hid (Un d (c5 + bkC z m P V Sf k + grC (Sf l) (V l) (z l) u + cntV (gwO (Sf l) (V l) u) i) w4 wc) ∧ Hid (Ar wc (.slice (some ⟨bS, oS, none⟩) (z (l + 1)) caS) (z (l + 1)) (Sf l)) ∧ g < wc.heap.size) (fun s20 _ => z l - (intOf s20).toNat)
          case atStart => exact ⟨0, F1, by omega, rfl, HRi, ⟨HGi.out.1, HGi.out.2, fun i hi => absurd hi (Nat.not_lt_zero _)⟩, HFi, by show Un d (_ + 0) _ _; rw [Int.add_zero]; exact HUi.out, HASi, hgi⟩
          case round =>
            rename World => wr
            obtain ⟨i, F2, hi, rfl, HRr, HGr, HFr, HUr, HASr, hgr2⟩ := hrel
            clear HRi HGi HFi HUi HASi hgi HBi
            have x0 := (HB4.out.un HUr.out hwd).c0
            have cZ := HUr.out.o _ _ hbd HZ4.out.1
            have hcr := cnt_rng (gwO (Sf l) (V l) u) i
            by_cases hil : i < z l
            · have hiI : (i : Int) < ((z l : Nat) : Int) := by omega
              obtain ⟨W0, hW0⟩ : ∃ W0, AO + i = W0 := ⟨_, rfl⟩
              have wW0 : IntKind.i64.wrap ((AO : Int) + (i : Int)) = (W0 : Int) := by rw [IntKind.wrap_i64]; omega
              have HW0 : Hid (W0 = wtN z l u i) := by show _ = _; rw [← hW0]; exact HAO.out i
              have hW0c : W0 < cp := by rw [HW0.out]; have := wtN_lt z l u i hul hil; have := Hfs.out; omega
              have hW0I : (W0 : Int) < (cp : Int) := by omega
              clear hW0
              have cS : wr.cell? ⟨bS, oS + u, none⟩ = some (.int .i64 (Sf l u)) := by
                obtain ⟨_, _, _, _, e, _, _, h3, h4⟩ := HASr.out
                cases e
                cases h3 (by omega)
                exact (h4 u hul).1
              have cG := HUr.out.o _ _ l3 Hvl.out
              have cV := HUr.out.o _ _ hbld (HVl4.out i hil)
              obtain ⟨s1', s2'⟩ := HSl.out u
              obtain ⟨v1', v2'⟩ := HVl.out i hil
              have CM : Hid (∀ W : World, Calls Tryz.prog 56 #[.int .i64 (Sf l u), .int .i64 (V l i)] W fun e w' => e = .returned (.tuple #[.int .i64 (gwX (Sf l) (V l) u i), .bool (gwO (Sf l) (V l) u i)]) ∧ Below W.heap.size W w') := fun W => by
                have h := rfmul_any (Sf l u) (V l i) s1' s2' v1' v2' W
                exact h
              have Hgx : Hid (-9223372036854775808 ≤ gwX (Sf l) (V l) u i ∧ gwX (Sf l) (V l) u i ≤ 9223372036854775807) := clv_rng _
              have HCs : Hid (cntV (gwO (Sf l) (V l) u) (i + 1) = cntV (gwO (Sf l) (V l) u) i + bi (gwO (Sf l) (V l) u i)) := rfl
              have HGs : Hid (∀ F, GrL z m V Sf (l + 1) F ∧ GrR z V Sf l u F ∧ GrC z V Sf l u i F → GrL z m V Sf (l + 1) (upd F W0 (gwX (Sf l) (V l) u i)) ∧ GrR z V Sf l u (upd F W0 (gwX (Sf l) (V l) u i)) ∧ GrC z V Sf l u (i + 1) (upd F W0 (gwX (Sf l) (V l) u i))) := fun F hF => by
                rw [HW0.out]
                exact ⟨grL_set hF.1 (wtN_lt z l u i hul hil), grR_setW hF.2.1 hul hil, grC_setW hF.2.2 hil⟩
              clear s1' s2' v1' v2'
              generalize gwX (Sf l) (V l) u i = gx at *
              generalize gwO (Sf l) (V l) u i = go at *
              generalize Sf l u = sv at *
              generalize V l i = vv at *
              go_upto_region 16 with fail
              have hbD : Below wr.heap.size wr wr.drew := (Below.refl _ _).drew
              refine wp_region_held_drew (S := fun W' => W'.cell? ⟨bS, oS + u, none⟩ = some (.int .i64 sv) ∧ W'.cell? ⟨g12, l, none⟩ = some (.slice (some ⟨bl, ol, none⟩) (z l) cal) ∧ W'.cell? ⟨bl, ol + i, none⟩ = some (.int .i64 vv)) (by kernel_rfl) ⟨cS, cG, cV⟩ (fun HS => ?_)
              have HU6 : Hid (Un d (c5 + bkC z m P V Sf k + grC (Sf l) (V l) (z l) u + cntV (gwO (Sf l) (V l) u) i) w4 wr.drew) := HUr.out.ahead hbD
              have HR6 : Hid (Rw g cp (fun j => .int .i64 (F2 j)) wr.drew) := HRr.out.later hbD
              have HAS6 : Hid (Ar wr.drew (.slice (some ⟨bS, oS, none⟩) (z (l + 1)) caS) (z (l + 1)) (Sf l)) := HASr.out.later hbD
              have hg6 : g < wr.drew.heap.size := hgr2
              clear hbD cS cG cV x0 cZ HUr HRr HASr hgr2
              generalize wr.drew = wD at *
              refine wpAnyH_take (i := 0) (v := ?v1) rfl (by kernel_rfl) (by kernel_rfl) (by kernel_rfl) (fun _ _ _ h => h) (Or.inl ⟨by kernel_rfl, ?h1⟩) HS ?r1
              case h1 => (rintro w ⟨s1, s2, s3⟩; go_simp) <;> with_reducible rfl
              try simp only [Act.put, List.getElem_toArray, List.getElem_cons_succ, List.getElem_cons_zero, List.setIfInBounds_toArray, List.set_cons_zero, List.set_cons_succ]
              refine wpAnyH_take (i := 1) (v := ?v2) rfl (by kernel_rfl) (by kernel_rfl) (by kernel_rfl) (fun _ _ _ h => h) (Or.inl ⟨by kernel_rfl, ?h2⟩) HS ?r2
              case h2 => (rintro w ⟨s1, s2, s3⟩; go_simp) <;> with_reducible rfl
              try simp only [Act.put, List.getElem_toArray, List.getElem_cons_succ, List.getElem_cons_zero, List.setIfInBounds_toArray, List.set_cons_zero, List.set_cons_succ]
              refine wpAnyH_take (i := 2) (v := ?v3) rfl (by kernel_rfl) (by kernel_rfl) (by kernel_rfl) (fun _ _ _ h => h) (Or.inl ⟨by kernel_rfl, ?h3⟩) HS ?r3
              case h3 => (rintro w ⟨s1, s2, s3⟩; go_simp) <;> with_reducible rfl
              try simp only [Act.put, List.getElem_toArray, List.getElem_cons_succ, List.getElem_cons_zero, List.setIfInBounds_toArray, List.set_cons_zero, List.set_cons_succ]
              refine wpAnyH_take (i := 3) (v := ?v4) rfl (by kernel_rfl) (by kernel_rfl) (by kernel_rfl) (fun _ _ _ h => h) (Or.inl ⟨by kernel_rfl, ?h4⟩) HS ?r4
              case h4 => (rintro w ⟨s1, s2, s3⟩; go_simp) <;> with_reducible rfl
              try simp only [Act.put, List.getElem_toArray, List.getElem_cons_succ, List.getElem_cons_zero, List.setIfInBounds_toArray, List.set_cons_zero, List.set_cons_succ]
              refine wpAnyH_take (i := 4) (v := ?v5) rfl (by kernel_rfl) (by kernel_rfl) (by kernel_rfl) (fun _ _ _ h => h) (Or.inl ⟨by kernel_rfl, ?h5⟩) HS ?r5
              case h5 => (rintro w ⟨s1, s2, s3⟩; go_simp) <;> with_reducible rfl
              try simp only [Act.put, List.getElem_toArray, List.getElem_cons_succ, List.getElem_cons_zero, List.setIfInBounds_toArray, List.set_cons_zero, List.set_cons_succ]
              refine wpAnyH_take (i := 5) (v := ?v6) rfl (by kernel_rfl) (by kernel_rfl) (by kernel_rfl) (fun _ _ _ h => h) (Or.inl ⟨by kernel_rfl, ?h6⟩) HS ?r6
              case h6 => (rintro w ⟨s1, s2, s3⟩; go_simp) <;> with_reducible rfl
              try simp only [Act.put, List.getElem_toArray, List.getElem_cons_succ, List.getElem_cons_zero, List.setIfInBounds_toArray, List.set_cons_zero, List.set_cons_succ]
              refine wpAnyH_take (i := 6) (v := ?v7) rfl (by kernel_rfl) (by kernel_rfl) (by kernel_rfl) (fun _ _ _ h => h) (Or.inl ⟨by kernel_rfl, ?h7⟩) HS ?r7
              case h7 => (rintro w ⟨s1, s2, s3⟩; go_simp) <;> with_reducible rfl
              try simp only [Act.put, List.getElem_toArray, List.getElem_cons_succ, List.getElem_cons_zero, List.setIfInBounds_toArray, List.set_cons_zero, List.set_cons_succ]
              refine wpAnyH_take (i := 7) (v := ?v8) rfl (by kernel_rfl) (by kernel_rfl) (by kernel_rfl) (fun _ _ _ h => h) (Or.inl ⟨by kernel_rfl, ?h8⟩) HS ?r8
              case h8 => (rintro w ⟨s1, s2, s3⟩; go_simp) <;> with_reducible rfl
              try simp only [Act.put, List.getElem_toArray, List.getElem_cons_succ, List.getElem_cons_zero, List.setIfInBounds_toArray, List.set_cons_zero, List.set_cons_succ]
              refine wpAnyH_take (i := 8) (v := ?v9) rfl (by kernel_rfl) (by kernel_rfl) (by kernel_rfl) (fun _ _ _ h => h) (Or.inl ⟨by kernel_rfl, ?h9⟩) HS ?r9
              case h9 => (rintro w ⟨s1, s2, s3⟩; go_simp) <;> with_reducible rfl
              try simp only [Act.put, List.getElem_toArray, List.getElem_cons_succ, List.getElem_cons_zero, List.setIfInBounds_toArray, List.set_cons_zero, List.set_cons_succ]
              refine wpAnyH_take (i := 9) (v := ?v10) rfl (by kernel_rfl) (by kernel_rfl) (by kernel_rfl) (fun _ _ _ h => h) (Or.inl ⟨by kernel_rfl, ?h10⟩) HS ?r10
              case h10 => (rintro w ⟨s1, s2, s3⟩; go_simp) <;> with_reducible rfl
              try simp only [Act.put, List.getElem_toArray, List.getElem_cons_succ, List.getElem_cons_zero, List.setIfInBounds_toArray, List.set_cons_zero, List.set_cons_succ]
              refine wpAnyH_take (i := 10) (v := ?v11) rfl (by kernel_rfl) (by kernel_rfl) (by kernel_rfl) (fun _ _ _ h => h) (Or.inl ⟨by kernel_rfl, ?h11⟩) HS ?r11
              case h11 => (rintro w ⟨s1, s2, s3⟩; go_simp) <;> with_reducible rfl
              try simp only [Act.put, List.getElem_toArray, List.getElem_cons_succ, List.getElem_cons_zero, List.setIfInBounds_toArray, List.set_cons_zero, List.set_cons_succ]
              refine wpAnyH_ready (rs := [11]) (by kernel_rfl) (by simp) ?_
              refine AllReadyH.cons rfl (fun K hK => ?_) AllReadyH.nil
              go_simp
              refine (CM.out _).mono ?_
              rintro e w6 ⟨rfl, hb6⟩
              have HS6 := HS
              refine hK.out _ _ ⟨cell_later hb6 HS6.1, cell_later hb6 HS6.2.1, cell_later hb6 HS6.2.2⟩ (fun HS => ?_)
              clear hK K
              refine wpAnyH_take (i := 12) (v := ?v12) rfl (by kernel_rfl) (by kernel_rfl) (by kernel_rfl) (fun _ _ _ h => h) (Or.inl ⟨by kernel_rfl, ?h12⟩) HS ?r12
              case h12 => (rintro w ⟨s1, s2, s3⟩; go_simp) <;> with_reducible rfl
              try simp only [Act.put, List.getElem_toArray, List.getElem_cons_succ, List.getElem_cons_zero, List.setIfInBounds_toArray, List.set_cons_zero, List.set_cons_succ]
              refine wpAnyH_take (i := 13) (v := ?v13) rfl (by kernel_rfl) (by kernel_rfl) (by kernel_rfl) (fun _ _ _ h => h) (Or.inl ⟨by kernel_rfl, ?h13⟩) HS ?r13
              case h13 => (rintro w ⟨s1, s2, s3⟩; go_simp) <;> with_reducible rfl
              try simp only [Act.put, List.getElem_toArray, List.getElem_cons_succ, List.getElem_cons_zero, List.setIfInBounds_toArray, List.set_cons_zero, List.set_cons_succ]
              refine wpAnyH_take (i := 14) (v := ?v14) rfl (by kernel_rfl) (by kernel_rfl) (by kernel_rfl) (fun _ _ _ h => h) (Or.inl ⟨by kernel_rfl, ?h14⟩) HS ?r14
              case h14 => (rintro w ⟨s1, s2, s3⟩; go_simp) <;> with_reducible rfl
              try simp only [Act.put, List.getElem_toArray, List.getElem_cons_succ, List.getElem_cons_zero, List.setIfInBounds_toArray, List.set_cons_zero, List.set_cons_succ]
              refine wpAnyH_take (i := 15) (v := ?v15) rfl (by kernel_rfl) (by kernel_rfl) (by kernel_rfl) (fun _ _ _ h => h) (Or.inl ⟨by kernel_rfl, ?h15⟩) HS ?r15
              case h15 => (rintro w ⟨s1, s2, s3⟩; go_simp) <;> with_reducible rfl
              try simp only [Act.put, List.getElem_toArray, List.getElem_cons_succ, List.getElem_cons_zero, List.setIfInBounds_toArray, List.set_cons_zero, List.set_cons_succ]
              refine wpAnyH_take (i := 16) (v := ?v16) rfl (by kernel_rfl) (by kernel_rfl) (by kernel_rfl) (fun _ _ _ h => h) (Or.inl ⟨by kernel_rfl, ?h16⟩) HS ?r16
              case h16 => (rintro w ⟨s1, s2, s3⟩; go_simp) <;> with_reducible rfl
              try simp only [Act.put, List.getElem_toArray, List.getElem_cons_succ, List.getElem_cons_zero, List.setIfInBounds_toArray, List.set_cons_zero, List.set_cons_succ]
              refine wpAnyH_done (by kernel_rfl) ?_ _
              have HU7 : Hid (Un d (c5 + bkC z m P V Sf k + grC (Sf l) (V l) (z l) u + cntV (gwO (Sf l) (V l) u) i) w4 w6) := HU6.out.ahead hb6
              have HR7 : Hid (Rw g cp (fun j => .int .i64 (F2 j)) w6) := HR6.out.later hb6
              have HAS7 : Hid (Ar w6 (.slice (some ⟨bS, oS, none⟩) (z (l + 1)) caS) (z (l + 1)) (Sf l)) := HAS6.out.later hb6
              have hg7 : g < w6.heap.size := by have := hb6.size; omega
              clear hb6 HS HS6 HU6 HR6 HAS6 hg6 CM
              go_wp2_with fail
              have x0 := (HB4.out.un HU7.out hwd).c0
              have cZ := HU7.out.o _ _ hbd HZ4.out.1
              have hbD : Below w6.heap.size w6 w6.drew := (Below.refl _ _).drew
              refine wp_region_held_drew (S := fun W' => W'.cell? ⟨w.heap.size, 0, none⟩ = some (.slice (some ⟨b, o, none⟩) m cap) ∧ W'.cell? ⟨b, o + l, none⟩ = some (.int .i64 ((z l : Nat) : Int))) (by kernel_rfl) ⟨x0, cZ⟩ (fun HS => ?_)
              have HU8 : Hid (Un d (c5 + bkC z m P V Sf k + grC (Sf l) (V l) (z l) u + cntV (gwO (Sf l) (V l) u) i) w4 w6.drew) := HU7.out.ahead hbD
              have HR8 : Hid (Rw g cp (fun j => .int .i64 (F2 j)) w6.drew) := HR7.out.later hbD
              have HAS8 : Hid (Ar w6.drew (.slice (some ⟨bS, oS, none⟩) (z (l + 1)) caS) (z (l + 1)) (Sf l)) := HAS7.out.later hbD
              have hg8 : g < w6.drew.heap.size := hg7
              clear hbD x0 cZ HU7 HR7 HAS7 hg7
              generalize w6.drew = wE at *
              refine wpAnyH_take (i := 0) (v := ?v17) rfl (by kernel_rfl) (by kernel_rfl) (by kernel_rfl) (fun _ _ _ h => h) (Or.inl ⟨by kernel_rfl, ?h17⟩) HS ?r17
              case h17 => (rintro w ⟨s1, s2⟩; go_simp) <;> with_reducible rfl
              try simp only [Act.put, List.getElem_toArray, List.getElem_cons_succ, List.getElem_cons_zero, List.setIfInBounds_toArray, List.set_cons_zero, List.set_cons_succ]
              refine wpAnyH_take (i := 1) (v := ?v18) rfl (by kernel_rfl) (by kernel_rfl) (by kernel_rfl) (fun _ _ _ h => h) (Or.inl ⟨by kernel_rfl, ?h18⟩) HS ?r18
              case h18 => (rintro w ⟨s1, s2⟩; go_simp) <;> with_reducible rfl
              try simp only [Act.put, List.getElem_toArray, List.getElem_cons_succ, List.getElem_cons_zero, List.setIfInBounds_toArray, List.set_cons_zero, List.set_cons_succ]
              refine wpAnyH_take (i := 2) (v := ?v19) rfl (by kernel_rfl) (by kernel_rfl) (by kernel_rfl) (fun _ _ _ h => h) (Or.inl ⟨by kernel_rfl, ?h19⟩) HS ?r19
              case h19 => (rintro w ⟨s1, s2⟩; go_simp) <;> with_reducible rfl
              try simp only [Act.put, List.getElem_toArray, List.getElem_cons_succ, List.getElem_cons_zero, List.setIfInBounds_toArray, List.set_cons_zero, List.set_cons_succ]
              refine wpAnyH_take (i := 3) (v := ?v20) rfl (by kernel_rfl) (by kernel_rfl) (by kernel_rfl) (fun _ _ _ h => h) (Or.inl ⟨by kernel_rfl, ?h20⟩) HS ?r20
              case h20 => (rintro w ⟨s1, s2⟩; go_simp) <;> with_reducible rfl
              try simp only [Act.put, List.getElem_toArray, List.getElem_cons_succ, List.getElem_cons_zero, List.setIfInBounds_toArray, List.set_cons_zero, List.set_cons_succ]
              refine wpAnyH_take (i := 4) (v := ?v21) rfl (by kernel_rfl) (by kernel_rfl) (by kernel_rfl) (fun _ _ _ h => h) (Or.inl ⟨by kernel_rfl, ?h21⟩) HS ?r21
              case h21 => (rintro w ⟨s1, s2⟩; go_simp) <;> with_reducible rfl
              try simp only [Act.put, List.getElem_toArray, List.getElem_cons_succ, List.getElem_cons_zero, List.setIfInBounds_toArray, List.set_cons_zero, List.set_cons_succ]
              refine wpAnyH_take (i := 5) (v := ?v22) rfl (by kernel_rfl) (by kernel_rfl) (by kernel_rfl) (fun _ _ _ h => h) (Or.inl ⟨by kernel_rfl, ?h22⟩) HS ?r22
              case h22 => (rintro w ⟨s1, s2⟩; go_simp) <;> with_reducible rfl
              try simp only [Act.put, List.getElem_toArray, List.getElem_cons_succ, List.getElem_cons_zero, List.setIfInBounds_toArray, List.set_cons_zero, List.set_cons_succ]
              refine wpAnyH_take (i := 6) (v := ?v23) rfl (by kernel_rfl) (by kernel_rfl) (by kernel_rfl) (fun _ _ _ h => h) (Or.inl ⟨by kernel_rfl, ?h23⟩) HS ?r23
              case h23 => (rintro w ⟨s1, s2⟩; go_simp) <;> with_reducible rfl
              try simp only [Act.put, List.getElem_toArray, List.getElem_cons_succ, List.getElem_cons_zero, List.setIfInBounds_toArray, List.set_cons_zero, List.set_cons_succ]
              refine wpAnyH_take (i := 7) (v := ?v24) rfl (by kernel_rfl) (by kernel_rfl) (by kernel_rfl) (fun _ _ _ h => h) (Or.inl ⟨by kernel_rfl, ?h24⟩) HS ?r24
              case h24 => (rintro w ⟨s1, s2⟩; go_simp) <;> with_reducible rfl
              try simp only [Act.put, List.getElem_toArray, List.getElem_cons_succ, List.getElem_cons_zero, List.setIfInBounds_toArray, List.set_cons_zero, List.set_cons_succ]
              refine wpAnyH_take (i := 8) (v := ?v25) rfl (by kernel_rfl) (by kernel_rfl) (by kernel_rfl) (fun _ _ _ h => h) (Or.inl ⟨by kernel_rfl, ?h25⟩) HS ?r25
              case h25 => (rintro w ⟨s1, s2⟩; go_simp) <;> with_reducible rfl
              try simp only [Act.put, List.getElem_toArray, List.getElem_cons_succ, List.getElem_cons_zero, List.setIfInBounds_toArray, List.set_cons_zero, List.set_cons_succ]
              refine wpAnyH_take (i := 9) (v := ?v26) rfl (by kernel_rfl) (by kernel_rfl) (by kernel_rfl) (fun _ _ _ h => h) (Or.inl ⟨by kernel_rfl, ?h26⟩) HS ?r26
              case h26 => (rintro w ⟨s1, s2⟩; go_simp) <;> with_reducible rfl
              try simp only [Act.put, List.getElem_toArray, List.getElem_cons_succ, List.getElem_cons_zero, List.setIfInBounds_toArray, List.set_cons_zero, List.set_cons_succ]
              refine wpAnyH_take (i := 10) (v := ?v27) rfl (by kernel_rfl) (by kernel_rfl) (by kernel_rfl) (fun _ _ _ h => h) (Or.inl ⟨by kernel_rfl, ?h27⟩) HS ?r27
              case h27 => (rintro w ⟨s1, s2⟩; go_simp) <;> with_reducible rfl
              try simp only [Act.put, List.getElem_toArray, List.getElem_cons_succ, List.getElem_cons_zero, List.setIfInBounds_toArray, List.set_cons_zero, List.set_cons_succ]
              refine wpAnyH_take (i := 11) (v := ?v28) rfl (by kernel_rfl) (by kernel_rfl) (by kernel_rfl) (fun _ _ _ h => h) (Or.inl ⟨by kernel_rfl, ?h28⟩) HS ?r28
              case h28 => (rintro w ⟨s1, s2⟩; go_simp) <;> with_reducible rfl
              try simp only [Act.put, List.getElem_toArray, List.getElem_cons_succ, List.getElem_cons_zero, List.setIfInBounds_toArray, List.set_cons_zero, List.set_cons_succ]
              refine wpAnyH_take (i := 12) (v := ?v29) rfl (by kernel_rfl) (by kernel_rfl) (by kernel_rfl) (fun _ _ _ h => h) (Or.inl ⟨by kernel_rfl, ?h29⟩) HS ?r29
              case h29 => (rintro w ⟨s1, s2⟩; go_simp) <;> with_reducible rfl
              try simp only [Act.put, List.getElem_toArray, List.getElem_cons_succ, List.getElem_cons_zero, List.setIfInBounds_toArray, List.set_cons_zero, List.set_cons_succ]
              refine wpAnyH_take (i := 13) (v := ?v30) rfl (by kernel_rfl) (by kernel_rfl) (by kernel_rfl) (fun _ _ _ h => h) (Or.inl ⟨by kernel_rfl, ?h30⟩) HS ?r30
              case h30 => (rintro w ⟨s1, s2⟩; go_simp) <;> with_reducible rfl
              try simp only [Act.put, List.getElem_toArray, List.getElem_cons_succ, List.getElem_cons_zero, List.setIfInBounds_toArray, List.set_cons_zero, List.set_cons_succ]
              refine wpAnyH_take (i := 14) (v := ?v31) rfl (by kernel_rfl) (by kernel_rfl) (by kernel_rfl) (fun _ _ _ h => h) (Or.inl ⟨by kernel_rfl, ?h31⟩) HS ?r31
              case h31 => (rintro w ⟨s1, s2⟩; go_simp) <;> with_reducible rfl
              try simp only [Act.put, List.getElem_toArray, List.getElem_cons_succ, List.getElem_cons_zero, List.setIfInBounds_toArray, List.set_cons_zero, List.set_cons_succ]
              refine wpAnyH_ready (rs := [15]) (by kernel_rfl) (by simp) ?_
              refine AllReadyH.cons rfl (fun K hK => ?_) AllReadyH.nil
              go_simp
              refine (utake_any d (c5 + bkC z m P V Sf k + grC (Sf l) (V l) (z l) u + cntV (gwO (Sf l) (V l) u) i) gx go (by omega) (by omega) _ HU8.out.c HU8.out.f).mono ?_
              rintro e w8 ⟨rfl, hU9⟩
              have HS8 := HS
              refine hK.out _ _ ⟨hU9.o _ _ hwd HS8.1, hU9.o _ _ hbd HS8.2⟩ (fun HS => ?_)
              clear hK K
              have HU9 : Un d (c5 + bkC z m P V Sf k + grC (Sf l) (V l) (z l) u + cntV (gwO (Sf l) (V l) u) (i + 1)) w4 w8 := by
                rw [HCs.out, ← Int.add_assoc]
                exact HU8.out.chain hU9
              have HR9 : Rw g cp (fun j => .int .i64 (F2 j)) w8 := HR8.out.un hU9 (by omega) hg8
              have HAS9 : Ar w8 (.slice (some ⟨bS, oS, none⟩) (z (l + 1)) caS) (z (l + 1)) (Sf l) := HAS8.out.un HASo.out.2.1 hU9
              have hg9 : g < w8.heap.size := by have := hU9.s; omega
              have cO := HR9.c W0 hW0c
              have fO := HR9.f W0 hW0c
              have HR10 : Hid (Rw g cp (fun j => .int .i64 (upd F2 W0 gx j)) (w8.setCell ⟨g, W0, none⟩ (.int .i64 gx))) := (HR9.set W0 (.int .i64 gx)).congr (fun j hj => by
                unfold upd
                split <;> rfl)
              have HU10 : Hid (Un d (c5 + bkC z m P V Sf k + grC (Sf l) (V l) (z l) u + cntV (gwO (Sf l) (V l) u) (i + 1)) w4 (w8.setCell ⟨g, W0, none⟩ (.int .i64 gx))) := un_far HU9 (by omega) (by dsimp only; omega) _
              have HAS10 : Hid (Ar (w8.setCell ⟨g, W0, none⟩ (.int .i64 gx)) (.slice (some ⟨bS, oS, none⟩) (z (l + 1)) caS) (z (l + 1)) (Sf l)) := HAS9.put HASo.out.2.2 _
              have hg10 : g < (w8.setCell ⟨g, W0, none⟩ (.int .i64 gx)).heap.size := by simp [World.setCell]; omega
              have HG10 : Hid (GrL z m V Sf (l + 1) (upd F2 W0 gx) ∧ GrR z V Sf l u (upd F2 W0 gx) ∧ GrC z V Sf l u (i + 1) (upd F2 W0 gx)) := HGs.out F2 HGr.out
              have HF10 : Hid (∀ j, -9223372036854775808 ≤ upd F2 W0 gx j ∧ upd F2 W0 gx j ≤ 9223372036854775807) := fun j => by
                unfold upd
                split
                · exact Hgx.out
                · exact HFr.out j
              refine wpAnyH_take (i := 16) (v := ?v32) rfl (by kernel_rfl) (by kernel_rfl) (by kernel_rfl) (fun _ _ _ h => h) (Or.inl ⟨by kernel_rfl, ?h32⟩) HS ?r32
              case h32 => (rintro w ⟨s1, s2⟩; go_simp) <;> with_reducible rfl
              try simp only [Act.put, List.getElem_toArray, List.getElem_cons_succ, List.getElem_cons_zero, List.setIfInBounds_toArray, List.set_cons_zero, List.set_cons_succ]
              refine wpAnyH_ready (rs := [17]) (by kernel_rfl) (by simp) ?_
              refine AllReadyH.cons rfl (fun K hK => ?_) AllReadyH.nil
              go_simp
              refine hK.out _ _ ⟨cell_set (fun e => hwg e.symm) HS.1, cell_set (fun e => hbg e.symm) HS.2⟩ (fun HS => ?_)
              clear hK K
              refine wpAnyH_done (by kernel_rfl) ?_ _
              clear HS HS8 HU8 HR8 HAS8 HU9 HR9 HAS9 cO fO hU9 HGr HFr HGs Hgx HCs
              go_wp2
              go_roundw
              case rel => exact ⟨i + 1, upd F2 W0 gx, by omega, by go_num, HR10, HG10, HF10, HU10, HAS10, hg10⟩
              case measure => simp [intOf]; omega
            · obtain rfl : i = z l := by omega
              have hiI : ¬ ((z l : Nat) : Int) < ((z l : Nat) : Int) := by omega
              have cZ1 := HUr.out.o _ _ hbd HZ4.out.2
              have cS : wr.cell? ⟨bS, oS + u, none⟩ = some (.int .i64 (Sf l u)) := by
                obtain ⟨_, _, _, _, e, _, _, h3, h4⟩ := HASr.out
                cases e
                cases h3 (by omega)
                exact (h4 u hul).1
              have Hsr : Hid (-9223372036854775808 ≤ Sf l u ∧ Sf l u ≤ 9223372036854775807) := HSl.out u
              have HGs : Hid (GrL z m V Sf (l + 1) (upd F2 OF (Sf l u)) ∧ GrR z V Sf l (u + 1) (upd F2 OF (Sf l u))) := by
                show _ ∧ _
                rw [HOF.out]
                exact ⟨grL_set HGr.out.1 (ofN_lt z l u hul), grR_setO HGr.out.2.1 HGr.out.2.2 hul⟩
              have HCs : Hid (grC (Sf l) (V l) (z l) (u + 1) = grC (Sf l) (V l) (z l) u + cntV (gwO (Sf l) (V l) u) (z l)) := rfl
              generalize Sf l u = sv at *
              go_upto_region 18 with fail
              have hbD : Below wr.heap.size wr wr.drew := (Below.refl _ _).drew
              refine wp_region_held_drew (S := fun W' => W'.cell? ⟨w.heap.size, 0, none⟩ = some (.slice (some ⟨b, o, none⟩) m cap) ∧ W'.cell? ⟨b, o + l, none⟩ = some (.int .i64 ((z l : Nat) : Int)) ∧ W'.cell? ⟨b, o + (l + 1), none⟩ = some (.int .i64 ((z (l + 1) : Nat) : Int)) ∧ W'.cell? ⟨bS, oS + u, none⟩ = some (.int .i64 sv)) (by kernel_rfl) ⟨x0, cZ, cZ1, cS⟩ (fun HS => ?_)
              have HU8 : Un d (c5 + bkC z m P V Sf k + grC (Sf l) (V l) (z l) (u + 1)) w4 wr.drew := by
                rw [HCs.out, ← Int.add_assoc]
                exact HUr.out.ahead hbD
              have HR9 : Rw g cp (fun j => .int .i64 (F2 j)) wr.drew := HRr.out.later hbD
              have HAS8 : Ar wr.drew (.slice (some ⟨bS, oS, none⟩) (z (l + 1)) caS) (z (l + 1)) (Sf l) := HASr.out.later hbD
              have hg8 : g < wr.drew.heap.size := hgr2
              clear hbD x0 cZ cZ1 cS HUr HRr HASr hgr2
              generalize wr.drew = wE at *
              have cO := HR9.c OF hOFc
              have fO := HR9.f OF hOFc
              have HR10 : Hid (Rw g cp (fun j => .int .i64 (upd F2 OF sv j)) (wE.setCell ⟨g, OF, none⟩ (.int .i64 sv))) := (HR9.set OF (.int .i64 sv)).congr (fun j hj => by
                unfold upd
                split <;> rfl)
              have HU10 : Hid (Un d (c5 + bkC z m P V Sf k + grC (Sf l) (V l) (z l) (u + 1)) w4 (wE.setCell ⟨g, OF, none⟩ (.int .i64 sv))) := un_far HU8 (by omega) (by dsimp only; omega) _
              have HAS10 : Hid (Ar (wE.setCell ⟨g, OF, none⟩ (.int .i64 sv)) (.slice (some ⟨bS, oS, none⟩) (z (l + 1)) caS) (z (l + 1)) (Sf l)) := HAS8.put HASo.out.2.2 _
              have hg10 : g < (wE.setCell ⟨g, OF, none⟩ (.int .i64 sv)).heap.size := by simp [World.setCell]; omega
              have HF10 : Hid (∀ j, -9223372036854775808 ≤ upd F2 OF sv j ∧ upd F2 OF sv j ≤ 9223372036854775807) := fun j => by
                unfold upd
                split
                · exact Hsr.out
                · exact HFr.out j
              refine wpAnyH_take (i := 0) (v := ?v33) rfl (by kernel_rfl) (by kernel_rfl) (by kernel_rfl) (fun _ _ _ h => h) (Or.inl ⟨by kernel_rfl, ?h33⟩) HS ?r33
              case h33 => (rintro w ⟨s1, s2, s3, s4⟩; go_simp) <;> with_reducible rfl
              try simp only [Act.put, List.getElem_toArray, List.getElem_cons_succ, List.getElem_cons_zero, List.setIfInBounds_toArray, List.set_cons_zero, List.set_cons_succ]
              refine wpAnyH_take (i := 1) (v := ?v34) rfl (by kernel_rfl) (by kernel_rfl) (by kernel_rfl) (fun _ _ _ h => h) (Or.inl ⟨by kernel_rfl, ?h34⟩) HS ?r34
              case h34 => (rintro w ⟨s1, s2, s3, s4⟩; go_simp) <;> with_reducible rfl
              try simp only [Act.put, List.getElem_toArray, List.getElem_cons_succ, List.getElem_cons_zero, List.setIfInBounds_toArray, List.set_cons_zero, List.set_cons_succ]
              refine wpAnyH_take (i := 2) (v := ?v35) rfl (by kernel_rfl) (by kernel_rfl) (by kernel_rfl) (fun _ _ _ h => h) (Or.inl ⟨by kernel_rfl, ?h35⟩) HS ?r35
              case h35 => (rintro w ⟨s1, s2, s3, s4⟩; go_simp) <;> with_reducible rfl
              try simp only [Act.put, List.getElem_toArray, List.getElem_cons_succ, List.getElem_cons_zero, List.setIfInBounds_toArray, List.set_cons_zero, List.set_cons_succ]
              refine wpAnyH_take (i := 3) (v := ?v36) rfl (by kernel_rfl) (by kernel_rfl) (by kernel_rfl) (fun _ _ _ h => h) (Or.inl ⟨by kernel_rfl, ?h36⟩) HS ?r36
              case h36 => (rintro w ⟨s1, s2, s3, s4⟩; go_simp) <;> with_reducible rfl
              try simp only [Act.put, List.getElem_toArray, List.getElem_cons_succ, List.getElem_cons_zero, List.setIfInBounds_toArray, List.set_cons_zero, List.set_cons_succ]
              refine wpAnyH_take (i := 4) (v := ?v37) rfl (by kernel_rfl) (by kernel_rfl) (by kernel_rfl) (fun _ _ _ h => h) (Or.inl ⟨by kernel_rfl, ?h37⟩) HS ?r37
              case h37 => (rintro w ⟨s1, s2, s3, s4⟩; go_simp) <;> with_reducible rfl
              try simp only [Act.put, List.getElem_toArray, List.getElem_cons_succ, List.getElem_cons_zero, List.setIfInBounds_toArray, List.set_cons_zero, List.set_cons_succ]
              refine wpAnyH_take (i := 5) (v := ?v38) rfl (by kernel_rfl) (by kernel_rfl) (by kernel_rfl) (fun _ _ _ h => h) (Or.inl ⟨by kernel_rfl, ?h38⟩) HS ?r38
              case h38 => (rintro w ⟨s1, s2, s3, s4⟩; go_simp) <;> with_reducible rfl
              try simp only [Act.put, List.getElem_toArray, List.getElem_cons_succ, List.getElem_cons_zero, List.setIfInBounds_toArray, List.set_cons_zero, List.set_cons_succ]
              refine wpAnyH_take (i := 6) (v := ?v39) rfl (by kernel_rfl) (by kernel_rfl) (by kernel_rfl) (fun _ _ _ h => h) (Or.inl ⟨by kernel_rfl, ?h39⟩) HS ?r39
              case h39 => (rintro w ⟨s1, s2, s3, s4⟩; go_simp) <;> with_reducible rfl
              try simp only [Act.put, List.getElem_toArray, List.getElem_cons_succ, List.getElem_cons_zero, List.setIfInBounds_toArray, List.set_cons_zero, List.set_cons_succ]
              refine wpAnyH_take (i := 7) (v := ?v40) rfl (by kernel_rfl) (by kernel_rfl) (by kernel_rfl) (fun _ _ _ h => h) (Or.inl ⟨by kernel_rfl, ?h40⟩) HS ?r40
              case h40 => (rintro w ⟨s1, s2, s3, s4⟩; go_simp) <;> with_reducible rfl
              try simp only [Act.put, List.getElem_toArray, List.getElem_cons_succ, List.getElem_cons_zero, List.setIfInBounds_toArray, List.set_cons_zero, List.set_cons_succ]
              refine wpAnyH_take (i := 8) (v := ?v41) rfl (by kernel_rfl) (by kernel_rfl) (by kernel_rfl) (fun _ _ _ h => h) (Or.inl ⟨by kernel_rfl, ?h41⟩) HS ?r41
              case h41 => (rintro w ⟨s1, s2, s3, s4⟩; go_simp) <;> with_reducible rfl
              try simp only [Act.put, List.getElem_toArray, List.getElem_cons_succ, List.getElem_cons_zero, List.setIfInBounds_toArray, List.set_cons_zero, List.set_cons_succ]
              refine wpAnyH_take (i := 9) (v := ?v42) rfl (by kernel_rfl) (by kernel_rfl) (by kernel_rfl) (fun _ _ _ h => h) (Or.inl ⟨by kernel_rfl, ?h42⟩) HS ?r42
              case h42 => (rintro w ⟨s1, s2, s3, s4⟩; go_simp) <;> with_reducible rfl
              try simp only [Act.put, List.getElem_toArray, List.getElem_cons_succ, List.getElem_cons_zero, List.setIfInBounds_toArray, List.set_cons_zero, List.set_cons_succ]
              refine wpAnyH_take (i := 10) (v := ?v43) rfl (by kernel_rfl) (by kernel_rfl) (by kernel_rfl) (fun _ _ _ h => h) (Or.inl ⟨by kernel_rfl, ?h43⟩) HS ?r43
              case h43 => (rintro w ⟨s1, s2, s3, s4⟩; go_simp) <;> with_reducible rfl
              try simp only [Act.put, List.getElem_toArray, List.getElem_cons_succ, List.getElem_cons_zero, List.setIfInBounds_toArray, List.set_cons_zero, List.set_cons_succ]
              refine wpAnyH_take (i := 11) (v := ?v44) rfl (by kernel_rfl) (by kernel_rfl) (by kernel_rfl) (fun _ _ _ h => h) (Or.inl ⟨by kernel_rfl, ?h44⟩) HS ?r44
              case h44 => (rintro w ⟨s1, s2, s3, s4⟩; go_simp) <;> with_reducible rfl
              try simp only [Act.put, List.getElem_toArray, List.getElem_cons_succ, List.getElem_cons_zero, List.setIfInBounds_toArray, List.set_cons_zero, List.set_cons_succ]
              refine wpAnyH_take (i := 12) (v := ?v45) rfl (by kernel_rfl) (by kernel_rfl) (by kernel_rfl) (fun _ _ _ h => h) (Or.inl ⟨by kernel_rfl, ?h45⟩) HS ?r45
              case h45 => (rintro w ⟨s1, s2, s3, s4⟩; go_simp) <;> with_reducible rfl
              try simp only [Act.put, List.getElem_toArray, List.getElem_cons_succ, List.getElem_cons_zero, List.setIfInBounds_toArray, List.set_cons_zero, List.set_cons_succ]
              refine wpAnyH_take (i := 13) (v := ?v46) rfl (by kernel_rfl) (by kernel_rfl) (by kernel_rfl) (fun _ _ _ h => h) (Or.inl ⟨by kernel_rfl, ?h46⟩) HS ?r46
              case h46 => (rintro w ⟨s1, s2, s3, s4⟩; go_simp) <;> with_reducible rfl
              try simp only [Act.put, List.getElem_toArray, List.getElem_cons_succ, List.getElem_cons_zero, List.setIfInBounds_toArray, List.set_cons_zero, List.set_cons_succ]
              refine wpAnyH_take (i := 14) (v := ?v47) rfl (by kernel_rfl) (by kernel_rfl) (by kernel_rfl) (fun _ _ _ h => h) (Or.inl ⟨by kernel_rfl, ?h47⟩) HS ?r47
              case h47 => (rintro w ⟨s1, s2, s3, s4⟩; go_simp) <;> with_reducible rfl
              try simp only [Act.put, List.getElem_toArray, List.getElem_cons_succ, List.getElem_cons_zero, List.setIfInBounds_toArray, List.set_cons_zero, List.set_cons_succ]
              refine wpAnyH_take (i := 15) (v := ?v48) rfl (by kernel_rfl) (by kernel_rfl) (by kernel_rfl) (fun _ _ _ h => h) (Or.inl ⟨by kernel_rfl, ?h48⟩) HS ?r48
              case h48 => (rintro w ⟨s1, s2, s3, s4⟩; go_simp) <;> with_reducible rfl
              try simp only [Act.put, List.getElem_toArray, List.getElem_cons_succ, List.getElem_cons_zero, List.setIfInBounds_toArray, List.set_cons_zero, List.set_cons_succ]
              refine wpAnyH_take (i := 16) (v := ?v49) rfl (by kernel_rfl) (by kernel_rfl) (by kernel_rfl) (fun _ _ _ h => h) (Or.inl ⟨by kernel_rfl, ?h49⟩) HS ?r49
              case h49 => (rintro w ⟨s1, s2, s3, s4⟩; go_simp) <;> with_reducible rfl
              try simp only [Act.put, List.getElem_toArray, List.getElem_cons_succ, List.getElem_cons_zero, List.setIfInBounds_toArray, List.set_cons_zero, List.set_cons_succ]
              refine wpAnyH_take (i := 17) (v := ?v50) rfl (by kernel_rfl) (by kernel_rfl) (by kernel_rfl) (fun _ _ _ h => h) (Or.inl ⟨by kernel_rfl, ?h50⟩) HS ?r50
              case h50 => (rintro w ⟨s1, s2, s3, s4⟩; go_simp) <;> with_reducible rfl
              try simp only [Act.put, List.getElem_toArray, List.getElem_cons_succ, List.getElem_cons_zero, List.setIfInBounds_toArray, List.set_cons_zero, List.set_cons_succ]
              refine wpAnyH_take (i := 18) (v := ?v51) rfl (by kernel_rfl) (by kernel_rfl) (by kernel_rfl) (fun _ _ _ h => h) (Or.inl ⟨by kernel_rfl, ?h51⟩) HS ?r51
              case h51 => (rintro w ⟨s1, s2, s3, s4⟩; go_simp) <;> with_reducible rfl
              try simp only [Act.put, List.getElem_toArray, List.getElem_cons_succ, List.getElem_cons_zero, List.setIfInBounds_toArray, List.set_cons_zero, List.set_cons_succ]
              refine wpAnyH_take (i := 19) (v := ?v52) rfl (by kernel_rfl) (by kernel_rfl) (by kernel_rfl) (fun _ _ _ h => h) (Or.inl ⟨by kernel_rfl, ?h52⟩) HS ?r52
              case h52 => (rintro w ⟨s1, s2, s3, s4⟩; go_simp) <;> with_reducible rfl
              try simp only [Act.put, List.getElem_toArray, List.getElem_cons_succ, List.getElem_cons_zero, List.setIfInBounds_toArray, List.set_cons_zero, List.set_cons_succ]
              refine wpAnyH_take (i := 20) (v := ?v53) rfl (by kernel_rfl) (by kernel_rfl) (by kernel_rfl) (fun _ _ _ h => h) (Or.inl ⟨by kernel_rfl, ?h53⟩) HS ?r53
              case h53 => (rintro w ⟨s1, s2, s3, s4⟩; go_simp) <;> with_reducible rfl
              try simp only [Act.put, List.getElem_toArray, List.getElem_cons_succ, List.getElem_cons_zero, List.setIfInBounds_toArray, List.set_cons_zero, List.set_cons_succ]
              refine wpAnyH_take (i := 21) (v := ?v54) rfl (by kernel_rfl) (by kernel_rfl) (by kernel_rfl) (fun _ _ _ h => h) (Or.inl ⟨by kernel_rfl, ?h54⟩) HS ?r54
              case h54 => (rintro w ⟨s1, s2, s3, s4⟩; go_simp) <;> with_reducible rfl
              try simp only [Act.put, List.getElem_toArray, List.getElem_cons_succ, List.getElem_cons_zero, List.setIfInBounds_toArray, List.set_cons_zero, List.set_cons_succ]
              refine wpAnyH_ready (rs := [22]) (by kernel_rfl) (by simp) ?_
              refine AllReadyH.cons rfl (fun K hK => ?_) AllReadyH.nil
              go_simp
              refine hK.out _ _ ⟨cell_set (fun e => hwg e.symm) HS.1, cell_set (fun e => hbg e.symm) HS.2.1, cell_set (fun e => hbg e.symm) HS.2.2.1, cell_set (fun e => hbSg e.symm) HS.2.2.2⟩ (fun HS => ?_)
              clear hK K
              refine wpAnyH_done (by kernel_rfl) ?_ _
              clear HS HU8 HR9 HAS8 cO fO HGr HFr Hsr HCs
              go_wp2
              go_roundw
              case rel => exact ⟨u + 1, upd F2 OF sv, by omega, by go_num, HR10, HGs, HF10, HU10, HAS10, hg10⟩
              case measure => simp [intOf]; omega
        · obtain rfl : u = z (l + 1) := by omega
          have huI : ¬ ((z (l + 1) : Nat) : Int) < ((z (l + 1) : Nat) : Int) := by omega
          have HGl : Hid (GrL z m V Sf l F1) := grL_row HGi.out.1 HGi.out.2
          have hk3 : k + 1 + 1 ≤ m := by have := Hlk.out; omega
          have HXn : Hid ((l : Int) - 1 + ((k + 1 : Nat) : Int) + 2 = (m : Int)) := by show _ = _; have := Hlk.out; omega
          have hwl1 : IntKind.i64.wrap ((l : Int) - 1) = (l : Int) - 1 := by rw [IntKind.wrap_i64]; omega
          have ek1 : m - 1 - (k + 1) = l := by have := Hlk.out; omega
          have Hek : Hid (m - 1 - (k + 1) = l ∧ m - 2 - (k + 1) = l - 1) := ⟨ek1, by omega⟩
          clear ek1
          by_cases hl0' : l = 0
          · have hlz : ¬ (0 : Int) < (l : Int) := by omega
            have HUn : Hid (Un d (c5 + bkC z m P V Sf (k + 1)) w4 wi) := by
              show Un _ _ _ _
              rw [HbSk2.out, if_pos hl0', Int.add_zero, ← Int.add_assoc]
              exact HUi.out
            have Hnk : Hid (¬ k + 1 + 2 ≤ m) := by show ¬ _; have := Hlk.out; omega
            have Hl0 : Hid (l = 0) := hl0'
            clear HGi HUi hl0'
            go_wp2
            go_roundw
            case rel => exact ⟨k + 1, (l : Int) - 1, F1, by omega, rfl, HXn, HRi, by rw [Hek.out.1]; exact HGl, HFi, HUn, fun h => absurd h Hnk.out, hgi⟩
            case measure => (first | (simp [intOf]; omega) | simp [intOf])
          · have hlz : (0 : Int) < (l : Int) := by omega
            obtain ⟨l', hl'⟩ : ∃ l', l = l' + 1 := ⟨l - 1, by omega⟩
            have HSn : Hid (Sf (l - 1) = ahX z P (Sf l) (V l) l) := by
              show _ = _
              rw [hl', Nat.add_sub_cancel]
              exact HSt.out l' (by omega)
            have hah := cnt_rng (ahO z P (Sf l) (V l) l) (z l)
            have HUn2 : Hid (∀ W W', Un d (c5 + bkC z m P V Sf k + grC (Sf l) (V l) (z l) (z (l + 1)) + cntV (ahO z P (Sf l) (V l) l) (z l)) W W' → Un d (c5 + bkC z m P V Sf (k + 1)) W W') := fun W W' h => by
              rw [HbSk2.out, if_neg hl0', ← Int.add_assoc, ← Int.add_assoc]
              exact h
            have Hl1 : Hid (l = l' + 1) := hl'
            have CAh : Hid (∀ W : World, Below wi.heap.size wi W → Calls Tryz.prog 57 #[.agg #[.slice (some ⟨b, o, none⟩) m cap, .slice adp cp cpp], .pointer (some ⟨d, 0, none⟩), .int .i64 (l : Int), .slice (some ⟨bS, oS, none⟩) (z (l + 1)) caS, .slice (some ⟨bl, ol, none⟩) (z l) cal] W fun e w' => ∃ v', e = .returned v' ∧ Ar w' v' (z l) (Sf (l - 1)) ∧ Ow W.heap.size v' ∧ Un d (c5 + bkC z m P V Sf k + grC (Sf l) (V l) (z l) (z (l + 1)) + cntV (ahO z P (Sf l) (V l) l) (z l)) W w') := fun W hb => by
              rw [HSn.out]
              refine ahead_any (.slice (some ⟨b, o, none⟩) m cap) (.slice adp cp cpp) _ _ m cp l z P (Sf l) (V l) d _ (by omega) (by omega) W ((((HSP.out.1.un HSP.out.2.2.1 HU4.out).un HSP.out.2.2.1 HUi.out)).later hb) ((((HSP.out.2.1.un HSP.out.2.2.2 HU4.out).un HSP.out.2.2.2 HUi.out)).later hb) (HASi.out.later hb) ?_ HSz.out.1 HSz.out.2 hlm HSP.out.2.2.1 HSP.out.2.2.2 HASo.out.2.1 (fun a n' c' e _ => by cases e; exact hbld) (cell_later hb HUi.out.c) (frozen_later hb HUi.out.c HUi.out.f)
              refine ⟨_, _, _, _, rfl, f1, by unfold maxLen; exact f2, fun _ => rfl, fun i hi => ⟨cell_later hb (HUi.out.o _ _ hbld (HVl4.out i hi)), HVl.out i hi⟩⟩
            clear hl'
            have x1 := (HB4.out.un HUi.out hwd).c1
            have cG := HUi.out.o _ _ l3 Hvl.out
            go_wp2_with fail
            have hbD : Below wi.heap.size wi wi.drew := (Below.refl _ _).drew
            refine wp_region_held_drew (S := fun W' => W'.cell? ⟨w.heap.size, 0, none⟩ = some (.slice (some ⟨b, o, none⟩) m cap) ∧ W'.cell? ⟨w.heap.size, 1, none⟩ = some (.slice adp cp cpp) ∧ W'.cell? ⟨g12, l, none⟩ = some (.slice (some ⟨bl, ol, none⟩) (z l) cal)) (by kernel_rfl) ⟨x0, x1, cG⟩ (fun HS => ?_)
            clear x0 x1 cG cZ1
            have hgD : g < wi.drew.heap.size := hgi
            generalize wi.drew = wE at *
            refine wpAnyH_take (i := 0) (v := ?v55) rfl (by kernel_rfl) (by kernel_rfl) (by kernel_rfl) (fun _ _ _ h => h) (Or.inl ⟨by kernel_rfl, ?h55⟩) HS ?r55
            case h55 => (rintro w ⟨s1, s2, s3⟩; go_simp) <;> with_reducible rfl
            try simp only [Act.put, List.getElem_toArray, List.getElem_cons_succ, List.getElem_cons_zero, List.setIfInBounds_toArray, List.set_cons_zero, List.set_cons_succ]
            refine wpAnyH_take (i := 1) (v := ?v56) rfl (by kernel_rfl) (by kernel_rfl) (by kernel_rfl) (fun _ _ _ h => h) (Or.inl ⟨by kernel_rfl, ?h56⟩) HS ?r56
            case h56 => (rintro w ⟨s1, s2, s3⟩; go_simp) <;> with_reducible rfl
            try simp only [Act.put, List.getElem_toArray, List.getElem_cons_succ, List.getElem_cons_zero, List.setIfInBounds_toArray, List.set_cons_zero, List.set_cons_succ]
            refine wpAnyH_take (i := 2) (v := ?v57) rfl (by kernel_rfl) (by kernel_rfl) (by kernel_rfl) (fun _ _ _ h => h) (Or.inl ⟨by kernel_rfl, ?h57⟩) HS ?r57
            case h57 => (rintro w ⟨s1, s2, s3⟩; go_simp) <;> with_reducible rfl
            try simp only [Act.put, List.getElem_toArray, List.getElem_cons_succ, List.getElem_cons_zero, List.setIfInBounds_toArray, List.set_cons_zero, List.set_cons_succ]
            refine wpAnyH_take (i := 3) (v := ?v58) rfl (by kernel_rfl) (by kernel_rfl) (by kernel_rfl) (fun _ _ _ h => h) (Or.inl ⟨by kernel_rfl, ?h58⟩) HS ?r58
            case h58 => (rintro w ⟨s1, s2, s3⟩; go_simp) <;> with_reducible rfl
            try simp only [Act.put, List.getElem_toArray, List.getElem_cons_succ, List.getElem_cons_zero, List.setIfInBounds_toArray, List.set_cons_zero, List.set_cons_succ]
            refine wpAnyH_take (i := 4) (v := ?v59) rfl (by kernel_rfl) (by kernel_rfl) (by kernel_rfl) (fun _ _ _ h => h) (Or.inl ⟨by kernel_rfl, ?h59⟩) HS ?r59
            case h59 => (rintro w ⟨s1, s2, s3⟩; go_simp) <;> with_reducible rfl
            try simp only [Act.put, List.getElem_toArray, List.getElem_cons_succ, List.getElem_cons_zero, List.setIfInBounds_toArray, List.set_cons_zero, List.set_cons_succ]
            refine wpAnyH_take (i := 5) (v := ?v60) rfl (by kernel_rfl) (by kernel_rfl) (by kernel_rfl) (fun _ _ _ h => h) (Or.inl ⟨by kernel_rfl, ?h60⟩) HS ?r60
            case h60 => (rintro w ⟨s1, s2, s3⟩; go_simp) <;> with_reducible rfl
            try simp only [Act.put, List.getElem_toArray, List.getElem_cons_succ, List.getElem_cons_zero, List.setIfInBounds_toArray, List.set_cons_zero, List.set_cons_succ]
            refine wpAnyH_take (i := 6) (v := ?v61) rfl (by kernel_rfl) (by kernel_rfl) (by kernel_rfl) (fun _ _ _ h => h) (Or.inl ⟨by kernel_rfl, ?h61⟩) HS ?r61
            case h61 => (rintro w ⟨s1, s2, s3⟩; go_simp) <;> with_reducible rfl
            try simp only [Act.put, List.getElem_toArray, List.getElem_cons_succ, List.getElem_cons_zero, List.setIfInBounds_toArray, List.set_cons_zero, List.set_cons_succ]
            refine wpAnyH_take (i := 7) (v := ?v62) rfl (by kernel_rfl) (by kernel_rfl) (by kernel_rfl) (fun _ _ _ h => h) (Or.inl ⟨by kernel_rfl, ?h62⟩) HS ?r62
            case h62 => (rintro w ⟨s1, s2, s3⟩; go_simp) <;> with_reducible rfl
            try simp only [Act.put, List.getElem_toArray, List.getElem_cons_succ, List.getElem_cons_zero, List.setIfInBounds_toArray, List.set_cons_zero, List.set_cons_succ]
            refine wpAnyH_ready (rs := [8]) (by kernel_rfl) (by simp) ?_
            refine AllReadyH.cons rfl (fun K hK => ?_) AllReadyH.nil
            go_simp
            refine (CAh.out _ hbD).mono ?_
            rintro e w8 ⟨vn, rfl, hAn, hOn, hUn⟩
            obtain ⟨adn, can, bn, on, rfl, -, -, -, -⟩ := id hAn
            have HS8 := HS
            refine hK.out _ _ ⟨hUn.o _ _ hwd HS8.1, hUn.o _ _ hwd HS8.2.1, hUn.o _ _ l3 HS8.2.2⟩ (fun HS => ?_)
            clear hK K
            refine wpAnyH_take (i := 9) (v := ?v63) rfl (by kernel_rfl) (by kernel_rfl) (by kernel_rfl) (fun _ _ _ h => h) (Or.inl ⟨by kernel_rfl, ?h63⟩) HS ?r63
            case h63 => (rintro w ⟨s1, s2, s3⟩; go_simp) <;> with_reducible rfl
            try simp only [Act.put, List.getElem_toArray, List.getElem_cons_succ, List.getElem_cons_zero, List.setIfInBounds_toArray, List.set_cons_zero, List.set_cons_succ]
            refine wpAnyH_done (by kernel_rfl) ?_ _
            have hs8 := hUn.s
            have hgE : g < wE.heap.size := hgD
            have hdE : d < wE.heap.size := by omega
            have HUn3 : Hid (Un d (c5 + bkC z m P V Sf (k + 1)) w4 w8) := HUn2.out _ _ ((HUi.out.ahead hbD).chain hUn)
            have HRn : Hid (Rw g cp (fun j => .int .i64 (F1 j)) w8) := (HRi.out.later hbD).un hUn (by omega) hgE
            have HAn : Hid (Ar w8 (.slice adn (z l) can) (z l) (Sf (l - 1)) ∧ Nb (.slice adn (z l) can) d ∧ Nb (.slice adn (z l) can) g) := ⟨hAn, hOn.nb hdE, hOn.nb hgE⟩
            have hgn : g < w8.heap.size := by omega
            clear HS HS8 hAn hOn hUn hbD CAh HUn2 HUi HRi HGi HASi hl0'
            go_wp2
            go_roundw
            case rel => exact ⟨k + 1, (l : Int) - 1, F1, by omega, rfl, HXn, HRn, by rw [Hek.out.1]; exact HGl, HFi, HUn3, fun _ => by rw [Hek.out.1, Hek.out.2]; exact HAn.out, hgn⟩
            case measure => (first | (simp [intOf]; omega) | simp [intOf])
    · have hXn : ¬ (0 : Int) ≤ X := by have := HXk.out; omega
      have HQ : Hid (Ar wo (.slice (some ⟨g, 0, none⟩) cp cp) cp F ∧ Ow w.heap.size (.slice (some ⟨g, 0, none⟩) cp cp) ∧ Grd z m V Sf F ∧ Un d (c5 + bkC z m P V Sf (m - 1)) w wo) := by
        have ek : k = m - 1 := by omega
        refine ⟨HRo.out.ar (by omega) (fun j _ => HFo.out j), fun a n' c' e _ => by cases e; dsimp only; omega, grL_all (by have h := HGo.out; rw [show m - 1 - k = 0 by omega] at h; exact h), ?_⟩
        rw [← ek]
        exact HU4.out.chain HUo.out
      clear HRo HGo HFo HUo H15o
      go_wp2
      go_ret2
      exact ⟨_, rfl, F, HQ.out.1, HQ.out.2.1, HQ.out.2.2.1, HQ.out.2.2.2⟩
end Go.Proofs.YtdfjnbkkdgolnaaGreatDoor
set_option linter.unusedVariables false
set_option linter.unusedSimpArgs false
namespace Go.Proofs.YtdfjnbkkdgolnaaGreatDoor
open Go.RowKit

/-- The part of the gradient at a place of layer l. -/
def gLay (z : Nat → Nat) (V S : Nat → Nat → Int) (l j : Nat) : Int :=
  if j < fsN z l + z l * z (l + 1) then gwX (S l) (V l) ((j - fsN z l) / z l) ((j - fsN z l) % z l) else S l (j - (fsN z l + z l * z (l + 1)))
/-- The gradient of the first n layers. -/
def gAll (z : Nat → Nat) (V S : Nat → Nat → Int) : Nat → Nat → Int
  | 0, _ => 0
  | n + 1, j => if j < fsN z n then gAll z V S n j else gLay z V S n j
theorem gAll_at (z : Nat → Nat) (V S : Nat → Nat → Int) (n l j : Nat) (hl : l < n) (h1 : fsN z l ≤ j) (h2 : j < fsN z (l + 1)) : gAll z V S n j = gLay z V S l j := by
  induction n with
  | zero => omega
  | succ n ih =>
    show (if j < fsN z n then gAll z V S n j else gLay z V S n j) = _
    rcases Nat.lt_or_ge l n with h | h
    · have hm := fsN_mono z (show l + 1 ≤ n from h)
      rw [if_pos (by omega)]
      exact ih h
    · obtain rfl : l = n := by omega
      rw [if_neg (by omega)]
theorem grd_all (z : Nat → Nat) (m : Nat) (V S : Nat → Nat → Int) : Grd z m V S (gAll z V S (m - 1)) := fun l hl u hu => by
  refine ⟨fun i hi => ?_, ?_⟩
  · have h := wt_rng z l u i hu hi
    have h3 := wtN_lt z l u i hu hi
    rw [gAll_at z V S (m - 1) l _ (by omega) h.1 h3]
    unfold gLay
    rw [if_pos h.2]
    have e : wtN z l u i - fsN z l = z l * u + i := by unfold wtN; rw [Nat.mul_comm]; omega
    rw [e, Nat.mul_add_div (by omega), Nat.div_eq_of_lt hi, Nat.add_zero, Nat.mul_add_mod, Nat.mod_eq_of_lt hi]
  · have h := of_rng z l u hu
    have h4 : fsN z l ≤ ofN z l u := by omega
    rw [gAll_at z V S (m - 1) l _ (by omega) h4 h.2]
    unfold gLay
    rw [if_neg (by omega)]
    have e : ofN z l u - (fsN z l + z l * z (l + 1)) = u := by unfold ofN; omega
    rw [e]
/-- The gradient of a net at an example. -/
def gdG (s : Bool) (z : Nat → Nat) (m : Nat) (P x t : Nat → Int) : Nat → Int := gAll z (vN z m P x) (gdS s z m P x t) (m - 1)
/-- The loss of a net at an example. -/
def gdX (s : Bool) (z : Nat → Nat) (m : Nat) (P x t : Nat → Int) : Int := lsX s (vN z m P x (m - 1)) t (z (m - 1))
theorem Ar.congr {w : World} {v : Value} {n : Nat} {f g : Nat → Int} (h : Ar w v n f) (e : ∀ k, k < n → f k = g k) : Ar w v n g := by
  obtain ⟨adr, cap, b, o, h1, h2, h3, h4, h5⟩ := h
  exact ⟨adr, cap, b, o, h1, h2, h3, h4, fun k hk => by rw [← e k hk]; exact h5 k hk⟩
theorem gradient_all (s : Bool) (vs vp vx vt : Value) (m cp : Nat) (z : Nat → Nat) (P x t : Nat → Int) (d : Nat) (c : Int) (c0 : 0 ≤ c) (c1 : c ≤ 800000000) (w : World) (hS : Ar w vs m (fun i => ((z i : Nat) : Int))) (hP : Ar w vp cp P) (hX : Ar w vx (z 0) x) (hT : Ar w vt (z (m - 1)) t) (hz : Szs z m) (hcp : cp = fsN z (m - 1)) (nS : Nb vs d) (nP : Nb vp d) (nX : Nb vx d) (nT : Nb vt d) (hc : w.cell? ⟨d, 0, none⟩ = some (.int .i64 c)) (hf : w.frozen? ⟨d, 0, none⟩ = false) :
    Calls Tryz.prog 32 #[.agg #[vs, vp], .pointer (some ⟨d, 0, none⟩), .int .i64 (lsK s), vx, vt] w fun e w' => ∃ v', e = .returned (.tuple #[v', .int .i64 (gdX s z m P x t)]) ∧ Ar w' v' cp (gdG s z m P x t) ∧ Ow w.heap.size v' ∧ Un d (c + gdC s z m P x t) w w' := by
  refine (gradient_any s vs vp vx vt m cp z P x t d c c0 c1 w hS hP hX hT hz hcp nS nP nX nT hc hf).mono ?_
  rintro e w' ⟨v', G, rfl, hA, hO, hG, hU⟩
  exact ⟨v', rfl, hA.congr (fun k hk => hG.one (fun i hi => (hz.2.2 i hi).1) (grd_all z m _ _) k (by omega)), hO, hU⟩
/-- Examples: an input and targets each, apart from a unit. -/
def Exs (w : World) (d b o K : Nat) (nx nt : Nat → Nat) (xs ts : Nat → Nat → Int) : Prop :=
  b ≠ d ∧ ∀ k, k < K → ∃ vx vt : Value, w.cell? ⟨b, o + k * 2, none⟩ = some vx ∧ w.cell? ⟨b, o + k * 2 + 1, none⟩ = some vt ∧ Ar w vx (nx k) (xs k) ∧ Ar w vt (nt k) (ts k) ∧ Nb vx d ∧ Nb vt d
theorem Exs.later {w w' : World} {d b o K : Nat} {nx nt : Nat → Nat} {xs ts : Nat → Nat → Int} (h : Exs w d b o K nx nt xs ts) (hb : Below w.heap.size w w') : Exs w' d b o K nx nt xs ts :=
  ⟨h.1, fun k hk => by obtain ⟨vx, vt, h1, h2, h3, h4, h5, h6⟩ := h.2 k hk; exact ⟨vx, vt, cell_later hb h1, cell_later hb h2, h3.later hb, h4.later hb, h5, h6⟩⟩
theorem Exs.un {w w' : World} {d b o K : Nat} {nx nt : Nat → Nat} {xs ts : Nat → Nat → Int} {c : Int} (h : Exs w d b o K nx nt xs ts) (hU : Un d c w w') : Exs w' d b o K nx nt xs ts :=
  ⟨h.1, fun k hk => by obtain ⟨vx, vt, h1, h2, h3, h4, h5, h6⟩ := h.2 k hk; exact ⟨vx, vt, hU.o _ _ h.1 h1, hU.o _ _ h.1 h2, h3.un h5 hU, h4.un h6 hU, h5, h6⟩⟩
end Go.Proofs.YtdfjnbkkdgolnaaGreatDoor
set_option linter.unusedVariables false
set_option linter.unusedSimpArgs false
namespace Go.Proofs.YtdfjnbkkdgolnaaGreatDoor
open Go.RowKit

/-- What the program's functions ask of the world (a table that they read). -/
def VT (w : World) : Prop := TabAt w
theorem VT.later {w w' : World} (h : VT w) (hb : Below w.heap.size w w') : VT w' := TabAt.later h hb
/-- A unit's cell. -/
def Uc (w : World) (d : Nat) (c : Int) : Prop := w.cell? ⟨d, 0, none⟩ = some (.int .i64 c) ∧ w.frozen? ⟨d, 0, none⟩ = false
def dE (n m : Nat) : Int := if 65536 < n ∨ 65536 < m then 3 else if n = m then 0 else 40
def dX (n m : Nat) (f g : Nat → Int) : Int := if dE n m = 0 then clv (rr (dotV f g n) 32) else 0
def dO (n m : Nat) (f g : Nat → Int) : Bool := if dE n m = 0 then ovv (rr (dotV f g n) 32) else false
def sE (n : Nat) : Int := if 65536 < n then 3 else 0
def sX (n : Nat) (f : Nat → Int) : Int := if sE n = 0 then clv (sumV f n) else 0
def sO (n : Nat) (f : Nat → Int) : Bool := if sE n = 0 then ovv (sumV f n) else false
def nX (n : Nat) (f : Nat → Int) : Int := if sE n = 0 then rtX (dotV f f n) else 0
/-- The state of a law: two units, and whatever was there is there. -/
structure L2 (w : World) (du dv : Nat) (cu cv : Int) (wz : World) : Prop where
  B : Below w.heap.size w wz
  u : Uc wz du cu
  v : Uc wz dv cv
theorem Uc.later {w w' : World} {d : Nat} {c : Int} (h : Uc w d c) (hb : Below w.heap.size w w') : Uc w' d c := ⟨cell_later hb h.1, frozen_later hb h.1 h.2⟩
theorem Uc.un {w w' : World} {d d' : Nat} {c c' : Int} (h : Uc w d c) (hU : Un d' c' w w') (hd : d ≠ d') : Uc w' d c := by
  have hb := World.block_lt_of_cell? _ _ h.1
  have e := hU.k d hb hd
  exact ⟨(World.cell?_of_block (w := w) e).trans h.1, (World.frozen?_of_block (w := w) e).trans h.2⟩
theorem L2.later {w : World} {du dv : Nat} {cu cv : Int} {wz wy : World} (h : L2 w du dv cu cv wz) (hb : Below wz.heap.size wz wy) : L2 w du dv cu cv wy := ⟨bchain h.B hb, h.u.later hb, h.v.later hb⟩
theorem L2.unu {w : World} {du dv : Nat} {cu cv c : Int} {wz wy : World} (h : L2 w du dv cu cv wz) (hU : Un du c wz wy) (hu : w.heap.size ≤ du) (hne : du ≠ dv) : L2 w du dv c cv wy :=
  ⟨hU.b _ _ hu h.B.size h.B, ⟨hU.c, hU.f⟩, h.v.un hU (fun e => hne e.symm)⟩
theorem L2.unv {w : World} {du dv : Nat} {cu cv c : Int} {wz wy : World} (h : L2 w du dv cu cv wz) (hU : Un dv c wz wy) (hv : w.heap.size ≤ dv) (hne : du ≠ dv) : L2 w du dv cu c wy :=
  ⟨hU.b _ _ hv h.B.size h.B, h.u.un hU hne, ⟨hU.c, hU.f⟩⟩
theorem Ar.nb {w : World} {v : Value} {n : Nat} {f : Nat → Int} (h : Ar w v n f) {d : Nat} (hd : w.heap.size ≤ d) : Nb v d := by
  obtain ⟨adr, cap, b, o, rfl, h2, h3, h4, h5⟩ := h
  intro a n' cap' e hn
  have e2 := h4 (by cases e; exact hn)
  subst e2
  cases e
  have h6 : b < w.heap.size := World.block_lt_of_cell? _ _ (h5 0 hn).1
  show b ≠ d
  omega
end Go.Proofs.YtdfjnbkkdgolnaaGreatDoor
set_option linter.unusedVariables false
set_option linter.unusedSimpArgs false
namespace Go.Proofs.YtdfjnbkkdgolnaaGreatDoor
open Go.RowKit
attribute [local go_sem ↓] Go.wp_at_zero Go.wp_at_succ

def two (a b : Int) (k : Nat) : Int := if k = 0 then a else b
end Go.Proofs.YtdfjnbkkdgolnaaGreatDoor
set_option linter.unusedVariables false
set_option linter.unusedSimpArgs false
namespace Go.Proofs.YtdfjnbkkdgolnaaGreatDoor
open Go.RowKit

def cE (E c : Int) : Int := if E = 0 then c else 0
/-- A list that is answered: so many numbers in memory of its own, or none beside an error. -/
def LL (w w' : World) (v' : Value) (n : Nat) (F : Nat → Int) (E : Int) : Prop :=
  (E = 0 → Ar w' v' n F) ∧ (E ≠ 0 → ∃ ad cap, v' = .slice ad 0 cap) ∧ Ow w.heap.size v'
/-- A list that lies apart from both units. -/
structure An (du dv : Nat) (v : Value) (n : Nat) (f : Nat → Int) (wz : World) : Prop where
  a : Ar wz v n f
  u : Nb v du
  v : Nb v dv
theorem An.later {du dv : Nat} {v : Value} {n : Nat} {f : Nat → Int} {wz wy : World} (h : An du dv v n f wz) (hb : Below wz.heap.size wz wy) : An du dv v n f wy := ⟨h.a.later hb, h.u, h.v⟩
theorem An.unu {du dv : Nat} {v : Value} {n : Nat} {f : Nat → Int} {c : Int} {wz wy : World} (h : An du dv v n f wz) (hU : Un du c wz wy) : An du dv v n f wy := ⟨h.a.un h.u hU, h.u, h.v⟩
theorem An.unv {du dv : Nat} {v : Value} {n : Nat} {f : Nat → Int} {c : Int} {wz wy : World} (h : An du dv v n f wz) (hU : Un dv c wz wy) : An du dv v n f wy := ⟨h.a.un h.v hU, h.u, h.v⟩
theorem An.new {w : World} {du dv : Nat} {cu cv : Int} {wz wy : World} {v : Value} {n : Nat} {f : Nat → Int} (L : L2 w du dv cu cv wz) (hA : Ar wy v n f) (hO : Ow wz.heap.size v) : An du dv v n f wy :=
  ⟨hA, hO.nb (World.block_lt_of_cell? _ _ L.u.1), hO.nb (World.block_lt_of_cell? _ _ L.v.1)⟩
end Go.Proofs.YtdfjnbkkdgolnaaGreatDoor
set_option linter.unusedVariables false
set_option linter.unusedSimpArgs false
namespace Go.Proofs.YtdfjnbkkdgolnaaGreatDoor
open Go.RowKit
theorem Un.from {d : Nat} {n : Int} {w w1 w2 : World} (hb : Below w.heap.size w w1) (h : Un d n w1 w2) : Un d n w w2 := Un.after hb h
end Go.Proofs.YtdfjnbkkdgolnaaGreatDoor
set_option linter.unusedVariables false
set_option linter.unusedSimpArgs false
namespace Go.Proofs.YtdfjnbkkdgolnaaGreatDoor
open Go.RowKit
theorem below_own {B : Nat} {w wr w1 : World} {e : TypeId} {s : Nat} {v : Value} {n : Nat} {xs : List Value} {o : Obj} (hW : Below B w wr) (hB : B ≤ wr.heap.size) (hown : wr.ownsRow B e s v n xs) (hg : (wr.alloc o).grownBy w1 v.ownBlock) : Below B w w1 :=
  (hW.alloc hB o).grown hg (by rw [World.size_alloc]; omega) (fun k hk => (hown.lt k hk).1)
end Go.Proofs.YtdfjnbkkdgolnaaGreatDoor
set_option linter.unusedVariables false
set_option linter.unusedSimpArgs false
namespace Go.Proofs.YtdfjnbkkdgolnaaGreatDoor
open Go.RowKit

/-- A list of lists, apart from a block. -/
structure As (w : World) (d b o K n : Nat) (fs : Nat → Nat → Int) : Prop where
  c : ∀ k, k < K → ∃ va : Value, w.cell? ⟨b, o + k, none⟩ = some va ∧ Ar w va n (fs k) ∧ Nb va d
  a : b ≠ d
theorem As.un {w w' : World} {d b o K n : Nat} {fs : Nat → Nat → Int} {c : Int} (h : As w d b o K n fs) (hU : Un d c w w') : As w' d b o K n fs :=
  ⟨fun k hk => by obtain ⟨va, h1, h2, h3⟩ := h.c k hk; exact ⟨va, hU.o _ _ h.a h1, h2.un h3 hU, h3⟩, h.a⟩
theorem As.later {w w' : World} {d b o K n : Nat} {fs : Nat → Nat → Int} (h : As w d b o K n fs) (hb : Below w.heap.size w w') : As w' d b o K n fs :=
  ⟨fun k hk => by obtain ⟨va, h1, h2, h3⟩ := h.c k hk; exact ⟨va, cell_later hb h1, h2.later hb, h3⟩, h.a⟩
end Go.Proofs.YtdfjnbkkdgolnaaGreatDoor
set_option linter.unusedVariables false
set_option linter.unusedSimpArgs false
namespace Go.Proofs.YtdfjnbkkdgolnaaGreatDoor
open Go.RowKit

/-- A matrix's block: three cells. -/
structure M3 (b : Nat) (x y z : Value) (w : World) : Prop where
  c0 : w.cell? ⟨b, 0, none⟩ = some x
  c1 : w.cell? ⟨b, 1, none⟩ = some y
  c2 : w.cell? ⟨b, 2, none⟩ = some z
  f0 : w.frozen? ⟨b, 0, none⟩ = false
  f1 : w.frozen? ⟨b, 1, none⟩ = false
  f2 : w.frozen? ⟨b, 2, none⟩ = false
theorem M3.later {b : Nat} {x y z : Value} {w w' : World} (h : M3 b x y z w) (hb : Below w.heap.size w w') : M3 b x y z w' :=
  ⟨cell_later hb h.c0, cell_later hb h.c1, cell_later hb h.c2, frozen_later hb h.c0 h.f0, frozen_later hb h.c1 h.f1, frozen_later hb h.c2 h.f2⟩
theorem M3.lt {b : Nat} {x y z : Value} {w : World} (h : M3 b x y z w) : b < w.heap.size := World.block_lt_of_cell? _ _ h.c0
theorem M3.new (w : World) (x y z : Value) (t : TypeId) : M3 w.heap.size x y z (w.alloc (.cells #[x, y, z] t)) :=
  ⟨by simp [go_sem], by simp [go_sem], by simp [go_sem], by simp [go_sem], by simp [go_sem], by simp [go_sem]⟩
theorem M3.far {b : Nat} {x y z : Value} {w : World} {p : Addr} (h : M3 b x y z w) (u : Value) (hp : p.block ≠ b) : M3 b x y z (w.setCell p u) :=
  ⟨cell_set hp h.c0, cell_set hp h.c1, cell_set hp h.c2, by rw [World.frozen?_setCell]; exact h.f0, by rw [World.frozen?_setCell]; exact h.f1, by rw [World.frozen?_setCell]; exact h.f2⟩
theorem M3.all {b : Nat} {x y z : Value} {w : World} (h : M3 b x y z w) (x' y' z' : Value) : M3 b x' y' z' (((w.setCell ⟨b, 0, none⟩ x').setCell ⟨b, 1, none⟩ y').setCell ⟨b, 2, none⟩ z') := by
  have c0 := h.c0
  have c1 := h.c1
  have c2 := h.c2
  have f0 := h.f0
  have f1 := h.f1
  have f2 := h.f2
  refine ⟨?_, ?_, ?_, ?_, ?_, ?_⟩ <;> simp [go_sem, c0, c1, c2, f0, f1, f2]
theorem Ar.set {w : World} {v : Value} {n : Nat} {f : Nat → Int} {p : Addr} (h : Ar w v n f) (hd : Nb v p.block) (u : Value) : Ar (w.setCell p u) v n f := by
  obtain ⟨adr, cap, b, o, h1, h2, h3, h4, h5⟩ := h
  refine ⟨adr, cap, b, o, h1, h2, h3, h4, fun k hk => ⟨?_, (h5 k hk).2⟩⟩
  have e := h4 (by omega)
  subst e
  subst h1
  exact cell_set (fun e => hd _ _ _ rfl (by omega) e.symm) (h5 k hk).1
end Go.Proofs.YtdfjnbkkdgolnaaGreatDoor
set_option linter.unusedVariables false
set_option linter.unusedSimpArgs false
namespace Go.Proofs.YtdfjnbkkdgolnaaGreatDoor
open Go.RowKit

def otX (f g : Nat → Int) (m : Nat) (k : Nat) : Int := clv (rnd (f (k / m) * g (k % m)) 32)
def otN (f g : Nat → Int) (m : Nat) : Nat → Int
  | 0 => 0
  | i + 1 => otN f g m i + cntV (fun k => ovv (rnd (f i * g k) 32)) m
theorem ot_rng (f g : Nat → Int) (m : Nat) (i : Nat) : 0 ≤ otN f g m i ∧ otN f g m i ≤ ((i * m : Nat) : Int) := by
  induction i with
  | zero => simp [otN]
  | succ i ih =>
    have h := cnt_rng (fun k => ovv (rnd (f i * g k) 32)) m
    rw [Nat.add_mul, Nat.one_mul]
    show 0 ≤ otN f g m i + cntV _ m ∧ otN f g m i + cntV _ m ≤ _
    rw [Int.natCast_add]
    omega
theorem il_one (f : Nat → Int) (n : Nat) : ∀ u ∈ il f n, u.oneCell' = true := by
  intro u hu
  unfold il at hu
  obtain ⟨k, _, rfl⟩ := List.mem_map.1 hu
  rfl
theorem M3.block {b : Nat} {x y z : Value} {w w' : World} (h : M3 b x y z w) (e : w'.heap[b]? = w.heap[b]?) : M3 b x y z w' :=
  ⟨(World.cell?_of_block (w := w) e).trans h.c0, (World.cell?_of_block (w := w) e).trans h.c1, (World.cell?_of_block (w := w) e).trans h.c2, (World.frozen?_of_block (w := w) e).trans h.f0, (World.frozen?_of_block (w := w) e).trans h.f1, (World.frozen?_of_block (w := w) e).trans h.f2⟩
theorem M3.un {b : Nat} {x y z : Value} {w w' : World} {d : Nat} {c : Int} (h : M3 b x y z w) (hU : Un d c w w') (hb : b ≠ d) : M3 b x y z w' := h.block (hU.k b h.lt hb)
end Go.Proofs.YtdfjnbkkdgolnaaGreatDoor
set_option linter.unusedVariables false
set_option linter.unusedSimpArgs false
namespace Go.Proofs.YtdfjnbkkdgolnaaGreatDoor
open Go.RowKit
attribute [local go_sem ↓] Go.wp_at_zero Go.wp_at_succ

end Go.Proofs.YtdfjnbkkdgolnaaGreatDoor
set_option linter.unusedVariables false
set_option linter.unusedSimpArgs false
namespace Go.Proofs.YtdfjnbkkdgolnaaGreatDoor
open Go.RowKit
/-- A list of lists and a list, both growing; the parts lie apart from the unit and from both. -/
def Alf (w : World) (B d : Nat) (v u : Value) (j n : Nat) (fs : Nat → Nat → Int) (f : Nat → Int) : Prop :=
  ∃ xs : List Value, w.ownsRow B 35 1 v j xs ∧ w.ownsRow B 2 1 u j (il f j) ∧ ∀ k, k < j → ∃ va : Value, xs[k]? = some va ∧ Ar w va n (fs k) ∧ Nb va d ∧ (∀ g, v.ownBlock = some g → Nb va g) ∧ ∀ g, u.ownBlock = some g → Nb va g
theorem Alf.later {w w' : World} {B d : Nat} {v u : Value} {j n : Nat} {fs : Nat → Nat → Int} {f : Nat → Int} (h : Alf w B d v u j n fs f) (hb : Below w.heap.size w w') : Alf w' B d v u j n fs f := by
  obtain ⟨xs, h1, h0, h2⟩ := h
  exact ⟨xs, own_later h1 hb, own_later h0 hb, fun k hk => by obtain ⟨va, e, a, r⟩ := h2 k hk; exact ⟨va, e, a.later hb, r⟩⟩
theorem Alf.un {w w' : World} {B d : Nat} {v u : Value} {j n : Nat} {fs : Nat → Nat → Int} {f : Nat → Int} {c : Int} (h : Alf w B d v u j n fs f) (hU : Un d c w w') (hd : d < B) : Alf w' B d v u j n fs f := by
  obtain ⟨xs, h1, h0, h2⟩ := h
  exact ⟨xs, own_un h1 hU hd, own_un h0 hU hd, fun k hk => by obtain ⟨va, e, a, x, r⟩ := h2 k hk; exact ⟨va, e, a.un x hU, x, r⟩⟩
end Go.Proofs.YtdfjnbkkdgolnaaGreatDoor
set_option linter.unusedVariables false
set_option linter.unusedSimpArgs false
namespace Go.Proofs.YtdfjnbkkdgolnaaGreatDoor

/-- The stir. -/
def stY (x : Nat) : Nat := (x ^^^ x / 4294967296) * 11400714819323198549 % 18446744073709551616
def stZ (y : Nat) : Nat := (y ^^^ y / 536870912) * 15241094284759029579 % 18446744073709551616
def stN (x : Nat) : Nat := stZ (stY x) ^^^ stZ (stY x) / 4294967296
theorem xor_in (a b : Nat) (ha : a < 18446744073709551616) (hb : b < 18446744073709551616) : a ^^^ b < 18446744073709551616 := Nat.xor_lt_two_pow (n := 64) (by omega) (by omega)
theorem stZ_lt (x : Nat) : stZ x < 18446744073709551616 := Nat.mod_lt _ (by omega)
theorem stN_lt (x : Nat) : stN x < 18446744073709551616 := xor_in _ _ (stZ_lt _) (by have := stZ_lt (stY x); omega)
/-- A number as 64 bits without a sign. -/
def u6 (n : Int) : Nat := (n % 18446744073709551616).toNat
theorem u6_lt (n : Int) : u6 n < 18446744073709551616 := by unfold u6; omega
theorem u6_cast (n : Int) : ((u6 n : Nat) : Int) = n % 18446744073709551616 := by unfold u6; omega
/-- One number more stirred in. -/
def mxN (w : Nat) (n : Int) : Nat := stN (((w ^^^ u6 n) + 14029467366897019727) % 18446744073709551616)
theorem mxN_lt (w : Nat) (n : Int) : mxN w n < 18446744073709551616 := stN_lt _
/-- A key's root. -/
def rtN (s : Nat) (a b c : Int) : Nat := mxN (mxN (mxN (stN ((s + 7046029254386353131) % 18446744073709551616)) a) b) c
theorem rtN_lt (s : Nat) (a b c : Int) : rtN s a b c < 18446744073709551616 := mxN_lt _ _
/-- A word. -/
def wdN (s : Nat) (a b c i : Int) : Nat := stN (rtN s a b c ^^^ (u6 i * 11400714819323198485 % 18446744073709551616))
theorem wdN_lt (s : Nat) (a b c i : Int) : wdN s a b c i < 18446744073709551616 := stN_lt _
/-- A part. -/
def ptN (w : Nat) : Nat := w / 4294967296
theorem ptN_lt (w : Nat) (hw : w < 18446744073709551616) : ptN w < 4294967296 := by unfold ptN; omega
/-- As much more. -/
def bwN (d p : Nat) : Nat := d * p / 4294967296
theorem bwN_lt (d p : Nat) (hp : p < 4294967296) (hd : 0 < d) : bwN d p < d := by
  unfold bwN
  rw [Nat.div_lt_iff_lt_mul (by omega)]
  exact Nat.mul_lt_mul_of_pos_left hp hd
/-- What a round of a trip stirs in: the lowest bits of a word. -/
def rfN (s : Nat) (a b c : Int) (S t r : Nat) : Nat := wdN s a b c (1024 * (t : Int) + (r : Int)) % S
theorem rfN_lt (s : Nat) (a b c : Int) (S t r : Nat) (hS : 0 < S) : rfN s a b c S t r < S := Nat.mod_lt _ hS
/-- How wide a half is: the least power of two, 2 at least, whose square isn't below n. -/
def Hf (n b : Nat) : Prop := 1 ≤ b ∧ n ≤ 2 ^ b * 2 ^ b ∧ (b = 1 ∨ 2 ^ (b - 1) * 2 ^ (b - 1) < n)
theorem Hf.one {n b c : Nat} (h : Hf n b) (h' : Hf n c) : b = c := by
  have key : ∀ p q : Nat, Hf n p → Hf n q → ¬ p < q := fun p q hp hq hlt => by
    rcases hq.2.2 with h1 | h1
    · have := hp.1; omega
    · have h2 : 2 ^ p ≤ 2 ^ (q - 1) := Nat.pow_le_pow_right (by omega) (by omega)
      have h3 := Nat.mul_le_mul h2 h2
      have h4 := hp.2.1
      omega
  rcases Nat.lt_trichotomy b c with h1 | h1 | h1
  · exact absurd h1 (key b c h h')
  · exact h1
  · exact absurd h1 (key c b h' h)
/-- Where i goes. -/
def Goes (s : Nat) (a b c : Int) (n i x : Nat) : Prop := ∃ k, Hf n k ∧ Gets (trp (rfN s a b c (2 ^ k)) (2 ^ k)) n i x
def Comes (s : Nat) (a b c : Int) (n j x : Nat) : Prop := ∃ k, Hf n k ∧ Gets (prt (rfN s a b c (2 ^ k)) (2 ^ k)) n j x
theorem Goes.one {s : Nat} {a b c : Int} {n i x y : Nat} (h : Goes s a b c n i x) (h' : Goes s a b c n i y) : x = y := by
  obtain ⟨k, h1, h2⟩ := h
  obtain ⟨q, h3, h4⟩ := h'
  obtain rfl := h1.one h3
  exact h2.one h4
theorem Comes.one {s : Nat} {a b c : Int} {n i x y : Nat} (h : Comes s a b c n i x) (h' : Comes s a b c n i y) : x = y := by
  obtain ⟨k, h1, h2⟩ := h
  obtain ⟨q, h3, h4⟩ := h'
  obtain rfl := h1.one h3
  exact h2.one h4
theorem Goes.comes {s : Nat} {a b c : Int} {n i x : Nat} (hi : i < n) (h : Goes s a b c n i x) : Comes s a b c n x i := by
  obtain ⟨k, h1, h2⟩ := h
  have hf : ∀ t r, rfN s a b c (2 ^ k) t r < 2 ^ k := fun t r => rfN_lt _ _ _ _ _ _ _ (Nat.two_pow_pos k)
  exact ⟨k, h1, h2.back (fun y hy => trp_lt _ k hf y hy) (fun y hy => prt_trp _ k hf y hy) h1.2.1 hi⟩
theorem Comes.goes {s : Nat} {a b c : Int} {n i x : Nat} (hi : i < n) (h : Comes s a b c n i x) : Goes s a b c n x i := by
  obtain ⟨k, h1, h2⟩ := h
  have hf : ∀ t r, rfN s a b c (2 ^ k) t r < 2 ^ k := fun t r => rfN_lt _ _ _ _ _ _ _ (Nat.two_pow_pos k)
  exact ⟨k, h1, h2.back (fun y hy => prt_lt _ k hf y hy) (fun y hy => trp_prt _ k hf y hy) h1.2.1 hi⟩
theorem Goes.lt {s : Nat} {a b c : Int} {n i x : Nat} (h : Goes s a b c n i x) : x < n := by
  obtain ⟨k, -, m, -, -, h3, -⟩ := h
  exact h3
theorem Comes.lt {s : Nat} {a b c : Int} {n i x : Nat} (h : Comes s a b c n i x) : x < n := by
  obtain ⟨k, -, m, -, -, h3, -⟩ := h
  exact h3
end Go.Proofs.YtdfjnbkkdgolnaaGreatDoor
