/-
  Texts of this proof, joined: LWalkG LWalkH.
-/
import Derived.Test.YtcaficenocblfaaGreatDoorSU11
import Derived.Deep.RegionHeld3
set_option linter.unusedVariables false
set_option linter.unusedSimpArgs false
namespace Go.Proofs.YtcaficenocblfaaGreatDoor
open Go.RowKit

def linP (z : Nat → Nat) (p v : Nat → Int) (l u i : Nat) : Int := p (ofN z l u) * 4294967296 + dotV (fun i => p (wtN z l u i)) v i
theorem linP_succ (z : Nat → Nat) (p v : Nat → Int) (l u i : Nat) : linP z p v l u (i + 1) = linP z p v l u i + p (wtN z l u i) * v i := by
  unfold linP
  show _ + (dotV _ v i + p (wtN z l u i) * v i) = _
  omega
theorem cell_set12 {bk k j : Nat} {x y : Nat → Int} {u : Value} {w : World} (hp : k ≠ bk) (h : w.cell? ⟨k, j, none⟩ = some u) : (((((((((((( w.setCell ⟨bk, 0, none⟩ (.int .u64 (x 0))).setCell ⟨bk, 1, none⟩ (.int .u64 (x 1))).setCell ⟨bk, 2, none⟩ (.int .u64 (x 2))).setCell ⟨bk, 3, none⟩ (.int .u64 (x 3))).setCell ⟨bk, 4, none⟩ (.int .u64 (x 4))).setCell ⟨bk, 5, none⟩ (.int .u64 (x 5))).setCell ⟨bk, 6, none⟩ (.int .u64 (y 0))).setCell ⟨bk, 7, none⟩ (.int .u64 (y 1))).setCell ⟨bk, 8, none⟩ (.int .u64 (y 2))).setCell ⟨bk, 9, none⟩ (.int .u64 (y 3))).setCell ⟨bk, 10, none⟩ (.int .u64 (y 4))).setCell ⟨bk, 11, none⟩ (.int .u64 (y 5))).cell? ⟨k, j, none⟩ = some u :=
  have hn : bk ≠ k := fun e => hp e.symm
  cell_set hn (cell_set hn (cell_set hn (cell_set hn (cell_set hn (cell_set hn (cell_set hn (cell_set hn (cell_set hn (cell_set hn (cell_set hn (cell_set hn h)))))))))))
theorem hidV_hid (v : Int) (h : v < 0) : hidV true v = 0 := by unfold hidV; rw [if_pos rfl, if_pos h]
theorem hidV_pos (b : Bool) (v : Int) (h : ¬ v < 0) : hidV b v = v := by
  unfold hidV
  by_cases hb : b = true
  · rw [if_pos hb, if_neg h]
  · rw [if_neg hb]
theorem hidV_out (v : Int) : hidV false v = v := by unfold hidV; rw [if_neg (by simp)]
theorem own_form {W : World} {base : Nat} {e : TypeId} {size : Nat} {v : Value} {k : Nat} {xs : List Value} (h : W.ownsRow base e size v (k + 1) xs) : ∃ g cap, v = .slice (some ⟨g, 0, none⟩) (k + 1) cap := by
  rcases h.2 with ⟨_, h0⟩ | ⟨g, cap, _, rfl, _⟩
  · omega
  · exact ⟨g, cap, rfl⟩
set_option maxRecDepth 100000 in
set_option maxHeartbeats 16000000 in
theorem values_any (vs vp vx : Value) (m cp : Nat) (z : Nat → Nat) (P x : Nat → Int) (d : Nat) (c : Int) (c0 : 0 ≤ c) (c1 : c ≤ 900000000) (w : World) (hS : Ar w vs m (fun i => ((z i : Nat) : Int))) (hP : Ar w vp cp P) (hX : Ar w vx (z 0) x) (hz : Szs z m) (hcp : cp = fsN z (m - 1)) (nS : Nb vs d) (nP : Nb vp d) (nX : Nb vx d) (hc : w.cell? ⟨d, 0, none⟩ = some (.int .i64 c)) (hf : w.frozen? ⟨d, 0, none⟩ = false) :
    Calls Tryz.prog 42 #[.agg #[vs, vp], .pointer (some ⟨d, 0, none⟩), vx] w fun e w' => ∃ v', e = .returned v' ∧ Ls w' d v' m z (vN z m P x) ∧ Un d (c + vC z m P x (m - 1)) w w' := by
  obtain ⟨i0, hti, hy0, hy1, hy2⟩ := info_parts dinfo_i64
  obtain ⟨i1, hti1, hy3, hy4, hy5⟩ := info_parts dinfo_is
  have hd := World.block_lt_of_cell? _ _ hc
  obtain ⟨m2, m6, hz6⟩ := id hz
  have hXr : ∀ i, i < z 0 → -9223372036854775808 ≤ x i ∧ x i ≤ 9223372036854775807 := by obtain ⟨_, _, _, _, _, _, _, _, h5⟩ := hX; exact fun i hi => (h5 i hi).2
  have hPr : ∀ i, i < cp → -9223372036854775808 ≤ P i ∧ P i ≤ 9223372036854775807 := by obtain ⟨_, _, _, _, _, _, _, _, h5⟩ := hP; exact fun i hi => (h5 i hi).2
  have HOf : Hid (∀ (l u : Nat) (W : World), l + 1 < m → u < z (l + 1) → Ar W vs m (fun i => ((z i : Nat) : Int)) → Ar W vp cp P → Calls Tryz.prog 69 #[.agg #[vs, vp], .int .i64 (l : Int), .int .i64 (u : Int)] W fun e w' => e = .returned (.int .i64 (P (ofN z l u))) ∧ Below W.heap.size W w') := fun l u W hl hu h1 h2 => offset_any vs vp m cp l u z P W h1 h2 hz hcp hl hu
  have HWe : Hid (∀ (l u i : Nat) (W : World), l + 1 < m → u < z (l + 1) → i < z l → Ar W vs m (fun i => ((z i : Nat) : Int)) → Ar W vp cp P → Calls Tryz.prog 71 #[.agg #[vs, vp], .int .i64 (l : Int), .int .i64 (u : Int), .int .i64 (i : Int)] W fun e w' => e = .returned (.int .i64 (P (wtN z l u i))) ∧ Below W.heap.size W w') := fun l u i W hl hu hi h1 h2 => weight_any vs vp m cp l u i z P W h1 h2 hz hcp hl hu hi
  have HPr : Hid (∀ l u i, l + 1 < m → u < z (l + 1) → (-9223372036854775808 ≤ P (ofN z l u) ∧ P (ofN z l u) ≤ 9223372036854775807) ∧ (i < z l → -9223372036854775808 ≤ P (wtN z l u i) ∧ P (wtN z l u i) ≤ 9223372036854775807)) := fun l u i hl hu => by
    have hmo : fsN z (l + 1) ≤ fsN z (m - 1) := fsN_mono z (by omega)
    exact ⟨hPr _ (by have := ofN_lt z l u hu; omega), fun hi => hPr _ (by have := wtN_lt z l u i hu hi; omega)⟩
  have HVr : Hid (∀ l u, u < z l → -9223372036854775808 ≤ vN z m P x l u ∧ vN z m P x l u ≤ 9223372036854775807) := fun l u hu => vN_rng z m P x l u hXr hu
  have HVs : Hid (∀ l u, vN z m P x (l + 1) u = hidV (decide (l + 2 < m)) (clv (rr (linP z P (vN z m P x l) l u (z l)) 32)) ∧ vO z m P x l u = ovv (rr (linP z P (vN z m P x l) l u (z l)) 32)) := fun l u => ⟨rfl, rfl⟩
  have HVc : Hid (∀ l, vC z m P x (l + 1) = vC z m P x l + cntV (vO z m P x l) (z (l + 1))) := fun l => rfl
  have HVk : Hid (∀ l, l < m → 0 ≤ vC z m P x l ∧ vC z m P x l ≤ 64 * (l : Int)) := fun l hl => vC_rng z m P x l (fun i hi => (hz6 i hi).2) hl
  have HV0 : Hid (∀ i, vN z m P x 0 i = x i) := fun i => rfl
  have HX0 : Hid (Ar w vx (z 0) (vN z m P x 0) ∧ Nb vx d) := ⟨hX, nX⟩
  have HC0 : Hid (vC z m P x 0 = 0) := rfl
  have HSP : Hid (Ar w vs m (fun i => ((z i : Nat) : Int)) ∧ Ar w vp cp P ∧ Nb vs d ∧ Nb vp d) := ⟨hS, hP, nS, nP⟩
  obtain ⟨adr, cap, b, o, rfl, k1, k2, k3, k4⟩ := hS
  unfold maxLen at k2
  have ha := k3 (by omega)
  subst ha
  have hbd : b ≠ d := nS _ _ _ rfl (by omega)
  have HZ : Hid (∀ i, i < m → w.cell? ⟨b, o + i, none⟩ = some (.int .i64 ((z i : Nat) : Int)) ∧ 1 ≤ z i ∧ z i ≤ 64) := fun i hi => ⟨(k4 i hi).1, hz6 i hi⟩
  have U0 : Hid (Un d c w w) := Un.same hc hf
  have hVl : ∀ ad n ca, vx = .slice ad n ca → True := fun _ _ _ _ => trivial
  obtain ⟨adx, cax, bx, ox, hvx, hx1, hx2, hx3, hx4⟩ := hX
  clear k3 k4 hP nS nP nX hc hf hz6 hXr hPr hz hx1 hx2 hx3 hx4 hVl
  generalize vN z m P x = V at *
  generalize vO z m P x = O at *
  generalize vC z m P x = C at *
  -- the world behind the box and the first list
  obtain ⟨w1, hw1⟩ : ∃ w1, w1 = (w.alloc (.cells #[.slice (some ⟨b, o, none⟩) m cap, vp] 53)).alloc (.cells #[vx] 45) := ⟨_, rfl⟩
  have HB1 : Hid (Below w.heap.size w w1) := by rw [hw1]; exact bel2 _ _ _
  have HBx : Hid (Bx w.heap.size (.slice (some ⟨b, o, none⟩) m cap) vp w1) := by rw [hw1]; exact (Bx.new w _ _ _).later (bel1 _ _)
  have HAl : Hid (Alg w1 (w.heap.size + 1) d (.slice (some ⟨w.heap.size + 1, 0, none⟩) 1 1) 1 z V) := by
    refine ⟨[vx], ?_, fun k hk => ?_⟩
    · have h := World.ownsRow_lit (base := w.heap.size + 1) (e := 45) (size := 1) (w.alloc (.cells #[.slice (some ⟨b, o, none⟩) m cap, vp] 53)) #[vx] 1 (by simp) (by unfold maxLen; omega) rfl
      rw [hw1]
      simpa using h
    · obtain rfl : k = 0 := by omega
      have hA0 := HX0.out.1
      exact ⟨vx, rfl, hA0.later HB1.out, HX0.out.2, fun g hg => by
        cases hg
        exact hA0.spare (by dsimp only; omega)⟩
  have HU1 : Hid (Un d (c + C 0) w w1) := by show Un _ _ _ _; rw [HC0.out, Int.add_zero]; exact U0.out.ahead HB1.out
  clear HC0 U0 HV0
  go_enter Tryz.func42, Tryz.ntmps42
  subst hvx
  go_upto_region 3 with fail
  rw [← hw1]
  clear hw1 HX0
  go_loopw [7, 8] (fun s7 s8 wr => ∃ l : Nat, l + 1 ≤ m ∧ s8 = .int .i64 (l : Int) ∧ Hid (Alg wr (w.heap.size + 1) d s7 (l + 1) z V) ∧ Hid (Bx w.heap.size (.slice (some ⟨b, o, none⟩) m cap) vp wr) ∧ Hid (Un d (c + C l) w wr)) (fun _ s8 _ => m - (intOf s8).toNat)
  case atStart => exact ⟨0, by omega, rfl, HAl, HBx, HU1⟩
  case round =>
    rename World => wo
    obtain ⟨l, hl, rfl, HAl2, HBx2, HU2⟩ := hrel
    clear HAl HBx HU1 HB1
    by_cases hlt : l + 1 < m
    · have hlI : (l : Int) + 1 < (m : Int) := by omega
      have hlM : (l : Int) < (m : Int) := by omega
      have x0 := HBx2.out.c0
      have hwL : IntKind.i64.wrap ((l : Int) + 1) = (l : Int) + 1 := by rw [IntKind.wrap_i64]; omega
      have hso : w.heap.size ≤ wo.heap.size := HU2.out.s
      have hdo : d < wo.heap.size := by omega
      have hCk := HVk.out l (by omega)
      have hwd : w.heap.size ≠ d := by omega
      have HARo : Hid (Ar wo (.slice (some ⟨b, o, none⟩) m cap) m (fun i => ((z i : Nat) : Int)) ∧ Ar wo vp cp P) := ⟨HSP.out.1.un HSP.out.2.2.1 HU2.out, HSP.out.2.1.un HSP.out.2.2.2 HU2.out⟩
      obtain ⟨-, za1, za2⟩ := HZ.out l (by omega)
      obtain ⟨-, zb1, zb2⟩ := HZ.out (l + 1) hlt
      have HcA : Hid (wo.cell? ⟨b, o + l, none⟩ = some (.int .i64 ((z l : Nat) : Int)) ∧ wo.cell? ⟨b, o + (l + 1), none⟩ = some (.int .i64 ((z (l + 1) : Nat) : Int))) := ⟨HU2.out.o _ _ hbd (HZ.out l (by omega)).1, HU2.out.o _ _ hbd (HZ.out (l + 1) hlt).1⟩
      have HR : Hid (∀ u, V (l + 1) u = hidV (decide (l + 2 < m)) (clv (rr (linP z P (V l) l u (z l)) 32)) ∧ O l u = ovv (rr (linP z P (V l) l u (z l)) 32)) := fun u => HVs.out l u
      have HVr2 : Hid (∀ u, u < z (l + 1) → -9223372036854775808 ≤ V (l + 1) u ∧ V (l + 1) u ≤ 9223372036854775807) := fun u hu => HVr.out (l + 1) u hu
      have HVr1 : Hid (∀ u, u < z l → -9223372036854775808 ≤ V l u ∧ V l u ≤ 9223372036854775807) := fun u hu => HVr.out l u hu
      have HOf2 : Hid (∀ (u : Nat) (W : World), u < z (l + 1) → Ar W (.slice (some ⟨b, o, none⟩) m cap) m (fun i => ((z i : Nat) : Int)) → Ar W vp cp P → Calls Tryz.prog 69 #[.agg #[.slice (some ⟨b, o, none⟩) m cap, vp], .int .i64 (l : Int), .int .i64 (u : Int)] W fun e w' => e = .returned (.int .i64 (P (ofN z l u))) ∧ Below W.heap.size W w') := fun u W hu h1 h2 => HOf.out l u W hlt hu h1 h2
      have HWe2 : Hid (∀ (u i : Nat) (W : World), u < z (l + 1) → i < z l → Ar W (.slice (some ⟨b, o, none⟩) m cap) m (fun i => ((z i : Nat) : Int)) → Ar W vp cp P → Calls Tryz.prog 71 #[.agg #[.slice (some ⟨b, o, none⟩) m cap, vp], .int .i64 (l : Int), .int .i64 (u : Int), .int .i64 (i : Int)] W fun e w' => e = .returned (.int .i64 (P (wtN z l u i))) ∧ Below W.heap.size W w') := fun u i W hu hi h1 h2 => HWe.out l u i W hlt hu hi h1 h2
      -- the list ahead
      obtain ⟨xs, hrow, hel⟩ := id HAl2.out
      obtain ⟨g, ca, rfl⟩ := own_form hrow
      obtain ⟨va, hva1, hva2, hva3, hva4⟩ := hel l (by omega)
      have hvaC : wo.cell? ⟨g, l, none⟩ = some va := (hrow.cellAt l (by omega)).trans hva1
      obtain ⟨adv, cav, bv, ov, rfl, v1, v2, v3, v4⟩ := hva2
      have hav := v3 (by omega)
      subst hav
      unfold maxLen at v2
      have hbvd : bv ≠ d := hva3 _ _ _ rfl (by omega)
      have hgb : w.heap.size + 1 ≤ g ∧ g < wo.heap.size := hrow.lt g rfl
      have hgd : g ≠ d := by omega
      have HVa : Hid (wo.cell? ⟨g, l, none⟩ = some (.slice (some ⟨bv, ov, none⟩) (z l) cav) ∧ ∀ i, i < z l → wo.cell? ⟨bv, ov + i, none⟩ = some (.int .i64 (V l i))) := ⟨hvaC, fun i hi => (v4 i hi).1⟩
      clear hrow hel hva1 hva3 hva4 hvaC v3 v4
      go_upto_region 7 with fail
      go_loopw [9, 10] (fun s9 s10 wi => ∃ u : Nat, u ≤ z (l + 1) ∧ s10 = .int .i64 (u : Int) ∧ Hid (wi.ownsRow wo.heap.size 2 1 s9 u (il (V (l + 1)) u)) ∧ Hid (Un d (c + C l + cntV (O l) u) wo wi)) (fun _ s10 _ => z (l + 1) - (intOf s10).toNat)
      case atStart => exact ⟨0, by omega, rfl, World.ownsRow_nil _ _ _ _, by show Un d (c + C l + 0) wo wo; rw [Int.add_zero]; exact Un.same HU2.out.c HU2.out.f⟩
      case round =>
        rename World => wi
        obtain ⟨u, hu, rfl, HO, HUi⟩ := hrel
        have x1 := (HBx2.out.un HUi.out hwd).c0
        have cZ := HUi.out.o _ _ hbd HcA.out.2
        by_cases hul : u < z (l + 1)
        · have huI : (u : Int) < ((z (l + 1) : Nat) : Int) := by omega
          have x2 := (HBx2.out.un HUi.out hwd).c1
          have hcr := cnt_rng (O l) u
          have HARi : Hid (Ar wi (.slice (some ⟨b, o, none⟩) m cap) m (fun i => ((z i : Nat) : Int)) ∧ Ar wi vp cp P) := ⟨HARo.out.1.un HSP.out.2.2.1 HUi.out, HARo.out.2.un HSP.out.2.2.2 HUi.out⟩
          have HBi : Hid (Bx w.heap.size (.slice (some ⟨b, o, none⟩) m cap) vp wi) := HBx2.out.un HUi.out hwd
          obtain ⟨pr1, -⟩ := HPr.out l u 0 hlt hul
          have COf : Hid (Calls Tryz.prog 69 #[.agg #[.slice (some ⟨b, o, none⟩) m cap, vp], .int .i64 (l : Int), .int .i64 (u : Int)] wi fun e w' => e = .returned (.int .i64 (P (ofN z l u))) ∧ Below wi.heap.size wi w') := HOf2.out u wi hul HARi.out.1 HARi.out.2
          have CAd : Hid (∀ W : World, Calls Tryz.prog 49 #[.agg #[.int .u64 0, .int .u64 0, .int .u64 0, .int .u64 0, .int .u64 0, .int .u64 0, .int .u64 0, .int .u64 0, .int .u64 0, .int .u64 0, .int .u64 0, .int .u64 0], .int .i64 (P (ofN z l u)), .int .i64 1] W fun e w' => ∃ p' q', e = .returned (.agg #[.int .u64 (dg (p') 0), .int .u64 (dg (p') 1), .int .u64 (dg (p') 2), .int .u64 (dg (p') 3), .int .u64 (dg (p') 4), .int .u64 (dg (p') 5), .int .u64 (dg (q') 0), .int .u64 (dg (q') 1), .int .u64 (dg (q') 2), .int .u64 (dg (q') 3), .int .u64 (dg (q') 4), .int .u64 (dg (q') 5)]) ∧ Sm p' q' (linP z P (V l) l u 0) 39614081257132168796771975168 ∧ Below W.heap.size W w') := by
            intro W
            refine (sadd_zero (P (ofN z l u)) 1 (by omega) pr1.1 pr1.2 W).mono ?_
            rintro e w' ⟨p', q', rfl, h, hb⟩
            refine ⟨p', q', rfl, ?_, hb⟩
            have e1 : P (ofN z l u) * 2 ^ (32 * 1) = linP z P (V l) l u 0 := by unfold linP; show _ = _ * 4294967296 + 0; rw [Int.add_zero]; rfl
            have e2 : (9223372036854775808 : Int) * 2 ^ (32 * 1) = 39614081257132168796771975168 := by decide
            rw [e1, e2] at h
            exact h
          clear pr1
          generalize hPo : P (ofN z l u) = po at COf CAd
          clear hPo
          go_wp2_with fail
          refine COf.out.mono ?_
          rintro e w2 ⟨rfl, hb2⟩
          have HW2 : Hid (Below wi.heap.size wi w2) := hb2
          clear COf hb2 x1 x2 cZ
          go_wp2_with fail
          refine (CAd.out _).mono ?_
          rintro e w3 ⟨p0, q0, rfl, hSm0, hb3⟩
          have HW3 : Hid (Below wi.heap.size wi w3) := bchain HW2.out hb3
          have HSm0 : Hid (Sm p0 q0 (linP z P (V l) l u 0) (39614081257132168796771975168 + ((0 : Nat) : Int) * 85070591730234615865843651857942052864)) := sm_mono hSm0 (by omega)
          have D0 := B12.new w3 (dg p0) (dg q0) 116
          clear CAd hb3 HW2 hSm0
          go_upto_region 11 with fail
          have HB3 : Hid (Bx w.heap.size (.slice (some ⟨b, o, none⟩) m cap) vp w3) := HBi.out.later HW3.out
          have HAR3 : Hid (Ar w3 (.slice (some ⟨b, o, none⟩) m cap) m (fun i => ((z i : Nat) : Int)) ∧ Ar w3 vp cp P) := ⟨HARi.out.1.later HW3.out, HARi.out.2.later HW3.out⟩
          have Hz3 : Hid (w3.cell? ⟨b, o + l, none⟩ = some (.int .i64 ((z l : Nat) : Int))) := cell_later HW3.out (HUi.out.o _ _ hbd HcA.out.1)
          have HV3 : Hid (w3.cell? ⟨g, l, none⟩ = some (.slice (some ⟨bv, ov, none⟩) (z l) cav) ∧ ∀ i, i < z l → w3.cell? ⟨bv, ov + i, none⟩ = some (.int .i64 (V l i))) := ⟨cell_later HW3.out (HUi.out.o _ _ hgd HVa.out.1), fun i hi => cell_later HW3.out (HUi.out.o _ _ hbvd (HVa.out.2 i hi))⟩
          have HPw : Hid (∀ i, i < z l → -9223372036854775808 ≤ P (wtN z l u i) ∧ P (wtN z l u i) ≤ 9223372036854775807) := fun i hi => (HPr.out l u i hlt hul).2 hi
          have HWt3 : Hid (∀ (i : Nat) (W : World), i < z l → Below w3.heap.size w3 W → Calls Tryz.prog 71 #[.agg #[.slice (some ⟨b, o, none⟩) m cap, vp], .int .i64 (l : Int), .int .i64 (u : Int), .int .i64 (i : Int)] W fun e w' => e = .returned (.int .i64 (P (wtN z l u i))) ∧ Below W.heap.size W w') := fun i W hi hb => HWe2.out u i W hul hi (HAR3.out.1.later hb) (HAR3.out.2.later hb)
          have hs3 : wo.heap.size ≤ w3.heap.size := Nat.le_trans HUi.out.s HW3.out.size
          have D0' : B12 w3.heap.size (dg p0) (dg q0) (w3.alloc (.cells #[.int .u64 (dg p0 0), .int .u64 (dg p0 1), .int .u64 (dg p0 2), .int .u64 (dg p0 3), .int .u64 (dg p0 4), .int .u64 (dg p0 5), .int .u64 (dg q0 0), .int .u64 (dg q0 1), .int .u64 (dg q0 2), .int .u64 (dg q0 3), .int .u64 (dg q0 4), .int .u64 (dg q0 5)] 116)) := D0
          have HW4 : Hid (Below w3.heap.size w3 (w3.alloc (.cells #[.int .u64 (dg p0 0), .int .u64 (dg p0 1), .int .u64 (dg p0 2), .int .u64 (dg p0 3), .int .u64 (dg p0 4), .int .u64 (dg p0 5), .int .u64 (dg q0 0), .int .u64 (dg q0 1), .int .u64 (dg q0 2), .int .u64 (dg q0 3), .int .u64 (dg q0 4), .int .u64 (dg q0 5)] 116))) := bel1 _ _
          clear D0 HARi HBi
          generalize w3.alloc (.cells #[.int .u64 (dg p0 0), .int .u64 (dg p0 1), .int .u64 (dg p0 2), .int .u64 (dg p0 3), .int .u64 (dg p0 4), .int .u64 (dg p0 5), .int .u64 (dg q0 0), .int .u64 (dg q0 1), .int .u64 (dg q0 2), .int .u64 (dg q0 3), .int .u64 (dg q0 4), .int .u64 (dg q0 5)] 116) = w4 at *
          go_loopw [12] (fun s12 wc => ∃ (i : Nat) (p q : Int), i ≤ z l ∧ s12 = .int .i64 (i : Int) ∧ B12 w3.heap.size (dg p) (dg q) wc ∧ Hid (Sm p q (linP z P (V l) l u i) (39614081257132168796771975168 + (i : Int) * 85070591730234615865843651857942052864)) ∧ Hid (Below w3.heap.size w3 wc)) (fun s12 _ => z l - (intOf s12).toNat)
          case atStart => exact ⟨0, p0, q0, by omega, rfl, D0', HSm0, HW4⟩
          case round =>
            rename World => wr
            obtain ⟨i, p, q, hi, rfl, hD, HSm, HWr⟩ := hrel
            clear D0' HSm0 HW4
            have x1 := (HB3.out.later HWr.out).c0
            have cZ := cell_later HWr.out Hz3.out
            by_cases hil : i < z l
            · have hiI : (i : Int) < ((z l : Nat) : Int) := by omega
              have x2 := (HB3.out.later HWr.out).c1
              have cG := cell_later HWr.out HV3.out.1
              have cV := cell_later HWr.out (HV3.out.2 i hil)
              obtain ⟨pw1, pw2⟩ := HPw.out i hil
              obtain ⟨vw1, vw2⟩ := HVr1.out i hil
              have HWt : Hid (∀ W : World, Below w3.heap.size w3 W → Calls Tryz.prog 71 #[.agg #[.slice (some ⟨b, o, none⟩) m cap, vp], .int .i64 (l : Int), .int .i64 (u : Int), .int .i64 (i : Int)] W fun e w' => e = .returned (.int .i64 (P (wtN z l u i))) ∧ Below W.heap.size W w') := fun W hb => HWt3.out i W hil hb
              have CM : Hid (∀ W : World, Calls Tryz.prog 70 #[.agg #[.int .u64 (dg (p) 0), .int .u64 (dg (p) 1), .int .u64 (dg (p) 2), .int .u64 (dg (p) 3), .int .u64 (dg (p) 4), .int .u64 (dg (p) 5), .int .u64 (dg (q) 0), .int .u64 (dg (q) 1), .int .u64 (dg (q) 2), .int .u64 (dg (q) 3), .int .u64 (dg (q) 4), .int .u64 (dg (q) 5)], .int .i64 (P (wtN z l u i)), .int .i64 (V l i)] W fun e w' => ∃ p' q', e = .returned (.agg #[.int .u64 (dg (p') 0), .int .u64 (dg (p') 1), .int .u64 (dg (p') 2), .int .u64 (dg (p') 3), .int .u64 (dg (p') 4), .int .u64 (dg (p') 5), .int .u64 (dg (q') 0), .int .u64 (dg (q') 1), .int .u64 (dg (q') 2), .int .u64 (dg (q') 3), .int .u64 (dg (q') 4), .int .u64 (dg (q') 5)]) ∧ Sm p' q' (linP z P (V l) l u (i + 1)) (39614081257132168796771975168 + ((i + 1 : Nat) : Int) * 85070591730234615865843651857942052864) ∧ Below W.heap.size W w') := by
                intro W
                refine (smul_any p q _ _ (P (wtN z l u i)) (V l i) HSm.out pw1 pw2 vw1 vw2 W).mono ?_
                rintro e w' ⟨p', q', rfl, h, hb⟩
                refine ⟨p', q', rfl, ?_, hb⟩
                rw [linP_succ]
                exact sm_mono h (by omega)
              have hll : (l : Int) < (l : Int) + 1 := by omega
              have n1 : w.heap.size ≠ w3.heap.size := by have := hgb; omega
              have n2 : g ≠ w3.heap.size := by have := hgb; omega
              have n3 : bv ≠ w3.heap.size := by have := World.block_lt_of_cell? _ _ (HV3.out.2 i hil); dsimp only at this; omega
              clear HSm pw1 pw2 vw1 vw2
              go_upto_region 13 with fail
              generalize P (wtN z l u i) = pw at *
              generalize V l i = ve at *
              have hbD : Below wr.heap.size wr wr.drew := (Below.refl _ _).drew
              have D4 := hD.later hbD
              clear hD cZ
              refine wp_region_held_drew (S := fun W' => W'.cell? ⟨w.heap.size, 0, none⟩ = some (.slice (some ⟨b, o, none⟩) m cap) ∧ W'.cell? ⟨w.heap.size, 1, none⟩ = some vp ∧ W'.cell? ⟨g, l, none⟩ = some (.slice (some ⟨bv, ov, none⟩) (z l) cav) ∧ W'.cell? ⟨bv, ov + i, none⟩ = some (.int .i64 ve)) (by kernel_rfl) ⟨x1, x2, cG, cV⟩ (fun HS => ?_)
              generalize wr.drew = wD at *
              clear x1 x2 cG cV
              have x0 : wD.cell? ⟨w3.heap.size, 0, none⟩ = some (.int .u64 (dg p 0)) := D4.c 0 (by omega); have x1 : wD.cell? ⟨w3.heap.size, 1, none⟩ = some (.int .u64 (dg p 1)) := D4.c 1 (by omega); have x2 : wD.cell? ⟨w3.heap.size, 2, none⟩ = some (.int .u64 (dg p 2)) := D4.c 2 (by omega); have x3 : wD.cell? ⟨w3.heap.size, 3, none⟩ = some (.int .u64 (dg p 3)) := D4.c 3 (by omega); have x4 : wD.cell? ⟨w3.heap.size, 4, none⟩ = some (.int .u64 (dg p 4)) := D4.c 4 (by omega); have x5 : wD.cell? ⟨w3.heap.size, 5, none⟩ = some (.int .u64 (dg p 5)) := D4.c 5 (by omega); have x6 : wD.cell? ⟨w3.heap.size, 6, none⟩ = some (.int .u64 (dg q 0)) := D4.d 0 (by omega); have x7 : wD.cell? ⟨w3.heap.size, 7, none⟩ = some (.int .u64 (dg q 1)) := D4.d 1 (by omega); have x8 : wD.cell? ⟨w3.heap.size, 8, none⟩ = some (.int .u64 (dg q 2)) := D4.d 2 (by omega); have x9 : wD.cell? ⟨w3.heap.size, 9, none⟩ = some (.int .u64 (dg q 3)) := D4.d 3 (by omega); have x10 : wD.cell? ⟨w3.heap.size, 10, none⟩ = some (.int .u64 (dg q 4)) := D4.d 4 (by omega); have x11 : wD.cell? ⟨w3.heap.size, 11, none⟩ = some (.int .u64 (dg q 5)) := D4.d 5 (by omega); have xf0 : wD.frozen? ⟨w3.heap.size, 0, none⟩ = false := D4.f 0 (by omega); have xf1 : wD.frozen? ⟨w3.heap.size, 1, none⟩ = false := D4.f 1 (by omega); have xf2 : wD.frozen? ⟨w3.heap.size, 2, none⟩ = false := D4.f 2 (by omega); have xf3 : wD.frozen? ⟨w3.heap.size, 3, none⟩ = false := D4.f 3 (by omega); have xf4 : wD.frozen? ⟨w3.heap.size, 4, none⟩ = false := D4.f 4 (by omega); have xf5 : wD.frozen? ⟨w3.heap.size, 5, none⟩ = false := D4.f 5 (by omega); have xf6 : wD.frozen? ⟨w3.heap.size, 6, none⟩ = false := D4.g 0 (by omega); have xf7 : wD.frozen? ⟨w3.heap.size, 7, none⟩ = false := D4.g 1 (by omega); have xf8 : wD.frozen? ⟨w3.heap.size, 8, none⟩ = false := D4.g 2 (by omega); have xf9 : wD.frozen? ⟨w3.heap.size, 9, none⟩ = false := D4.g 3 (by omega); have xf10 : wD.frozen? ⟨w3.heap.size, 10, none⟩ = false := D4.g 4 (by omega); have xf11 : wD.frozen? ⟨w3.heap.size, 11, none⟩ = false := D4.g 5 (by omega)
              refine wpAnyH_take (i := 1) (v := ?v1) rfl (by kernel_rfl) (by kernel_rfl) (by kernel_rfl) (fun _ _ _ h => h) (Or.inl ⟨by kernel_rfl, ?h1⟩) HS ?r1
              case h1 => (rintro w ⟨s1, s2, s3, s4⟩; go_simp) <;> with_reducible rfl
              try simp only [Act.put, List.setIfInBounds_toArray, List.set_cons_zero, List.set_cons_succ]
              refine wpAnyH_take (i := 2) (v := ?v2) rfl (by kernel_rfl) (by kernel_rfl) (by kernel_rfl) (fun _ _ _ h => h) (Or.inl ⟨by kernel_rfl, ?h2⟩) HS ?r2
              case h2 => (rintro w ⟨s1, s2, s3, s4⟩; go_simp) <;> with_reducible rfl
              try simp only [Act.put, List.setIfInBounds_toArray, List.set_cons_zero, List.set_cons_succ]
              refine wpAnyH_take (i := 3) (v := ?v3) rfl (by kernel_rfl) (by kernel_rfl) (by kernel_rfl) (fun _ _ _ h => h) (Or.inl ⟨by kernel_rfl, ?h3⟩) HS ?r3
              case h3 => (rintro w ⟨s1, s2, s3, s4⟩; go_simp) <;> with_reducible rfl
              try simp only [Act.put, List.setIfInBounds_toArray, List.set_cons_zero, List.set_cons_succ]
              refine wpAnyH_take (i := 4) (v := ?v4) rfl (by kernel_rfl) (by kernel_rfl) (by kernel_rfl) (fun _ _ _ h => h) (Or.inl ⟨by kernel_rfl, ?h4⟩) HS ?r4
              case h4 => (rintro w ⟨s1, s2, s3, s4⟩; go_simp) <;> with_reducible rfl
              try simp only [Act.put, List.setIfInBounds_toArray, List.set_cons_zero, List.set_cons_succ]
              refine wpAnyH_take (i := 6) (v := ?v5) rfl (by kernel_rfl) (by kernel_rfl) (by kernel_rfl) (fun _ _ _ h => h) (Or.inl ⟨by kernel_rfl, ?h5⟩) HS ?r5
              case h5 => (rintro w ⟨s1, s2, s3, s4⟩; go_simp) <;> with_reducible rfl
              try simp only [Act.put, List.setIfInBounds_toArray, List.set_cons_zero, List.set_cons_succ]
              refine wpAnyH_take (i := 7) (v := ?v6) rfl (by kernel_rfl) (by kernel_rfl) (by kernel_rfl) (fun _ _ _ h => h) (Or.inl ⟨by kernel_rfl, ?h6⟩) HS ?r6
              case h6 => (rintro w ⟨s1, s2, s3, s4⟩; go_simp) <;> with_reducible rfl
              try simp only [Act.put, List.setIfInBounds_toArray, List.set_cons_zero, List.set_cons_succ]
              refine wpAnyH_take (i := 8) (v := ?v7) rfl (by kernel_rfl) (by kernel_rfl) (by kernel_rfl) (fun _ _ _ h => h) (Or.inl ⟨by kernel_rfl, ?h7⟩) HS ?r7
              case h7 => (rintro w ⟨s1, s2, s3, s4⟩; go_simp) <;> with_reducible rfl
              try simp only [Act.put, List.setIfInBounds_toArray, List.set_cons_zero, List.set_cons_succ]
              refine wpAnyH_take (i := 9) (v := ?v8) rfl (by kernel_rfl) (by kernel_rfl) (by kernel_rfl) (fun _ _ _ h => h) (Or.inl ⟨by kernel_rfl, ?h8⟩) HS ?r8
              case h8 => (rintro w ⟨s1, s2, s3, s4⟩; go_simp) <;> with_reducible rfl
              try simp only [Act.put, List.setIfInBounds_toArray, List.set_cons_zero, List.set_cons_succ]
              refine wpAnyH_take (i := 10) (v := ?v9) rfl (by kernel_rfl) (by kernel_rfl) (by kernel_rfl) (fun _ _ _ h => h) (Or.inl ⟨by kernel_rfl, ?h9⟩) HS ?r9
              case h9 => (rintro w ⟨s1, s2, s3, s4⟩; go_simp) <;> with_reducible rfl
              try simp only [Act.put, List.setIfInBounds_toArray, List.set_cons_zero, List.set_cons_succ]
              refine wpAnyH_take (i := 11) (v := ?v10) rfl (by kernel_rfl) (by kernel_rfl) (by kernel_rfl) (fun _ _ _ h => h) (Or.inl ⟨by kernel_rfl, ?h10⟩) HS ?r10
              case h10 => (rintro w ⟨s1, s2, s3, s4⟩; go_simp) <;> with_reducible rfl
              try simp only [Act.put, List.setIfInBounds_toArray, List.set_cons_zero, List.set_cons_succ]
              refine wpAnyH_take (i := 12) (v := ?v11) rfl (by kernel_rfl) (by kernel_rfl) (by kernel_rfl) (fun _ _ _ h => h) (Or.inl ⟨by kernel_rfl, ?h11⟩) HS ?r11
              case h11 => (rintro w ⟨s1, s2, s3, s4⟩; go_simp) <;> with_reducible rfl
              try simp only [Act.put, List.setIfInBounds_toArray, List.set_cons_zero, List.set_cons_succ]
              refine wpAnyH_ready (rs := [0, 5]) (by kernel_rfl) (by simp) ?_
              refine AllReadyH.cons rfl (fun K hK => ?_) (AllReadyH.cons rfl (fun K hK => ?_) AllReadyH.nil)
              · go_simp
                refine hK.out _ _ HS (fun HS => ?_)
                clear hK K
                refine wpAnyH_ready (rs := [5]) (by kernel_rfl) (by simp) ?_
                refine AllReadyH.cons rfl (fun K hK => ?_) AllReadyH.nil
                go_simp
                refine (HWt.out _ (bchain HWr.out hbD)).mono ?_
                rintro e w5 ⟨rfl, hb5⟩
                have HS5 := HS
                refine hK.out _ _ ⟨cell_later hb5 HS5.1, cell_later hb5 HS5.2.1, cell_later hb5 HS5.2.2.1, cell_later hb5 HS5.2.2.2⟩ (fun HS => ?_)
                clear hK K
                have HW5 : Hid (Below w3.heap.size w3 w5) := bchain (bchain HWr.out hbD) hb5
                have D5' := D4.later hb5
                refine wpAnyH_ready (rs := [13]) (by kernel_rfl) (by simp) ?_
                refine AllReadyH.cons rfl (fun K hK => ?_) AllReadyH.nil
                go_simp
                refine (CM.out _).mono ?_
                rintro e w6 ⟨p', q', rfl, hSm, hb6⟩
                have HS6 := HS
                refine hK.out _ _ ⟨cell_later hb6 HS6.1, cell_later hb6 HS6.2.1, cell_later hb6 HS6.2.2.1, cell_later hb6 HS6.2.2.2⟩ (fun HS => ?_)
                clear hK K
                have D6 := D5'.later hb6
                clear x0 x1 x2 x3 x4 x5 x6 x7 x8 x9 x10 x11 xf0 xf1 xf2 xf3 xf4 xf5 xf6 xf7 xf8 xf9 xf10 xf11
                have x0 : w6.cell? ⟨w3.heap.size, 0, none⟩ = some (.int .u64 (dg p 0)) := D6.c 0 (by omega); have x1 : w6.cell? ⟨w3.heap.size, 1, none⟩ = some (.int .u64 (dg p 1)) := D6.c 1 (by omega); have x2 : w6.cell? ⟨w3.heap.size, 2, none⟩ = some (.int .u64 (dg p 2)) := D6.c 2 (by omega); have x3 : w6.cell? ⟨w3.heap.size, 3, none⟩ = some (.int .u64 (dg p 3)) := D6.c 3 (by omega); have x4 : w6.cell? ⟨w3.heap.size, 4, none⟩ = some (.int .u64 (dg p 4)) := D6.c 4 (by omega); have x5 : w6.cell? ⟨w3.heap.size, 5, none⟩ = some (.int .u64 (dg p 5)) := D6.c 5 (by omega); have x6 : w6.cell? ⟨w3.heap.size, 6, none⟩ = some (.int .u64 (dg q 0)) := D6.d 0 (by omega); have x7 : w6.cell? ⟨w3.heap.size, 7, none⟩ = some (.int .u64 (dg q 1)) := D6.d 1 (by omega); have x8 : w6.cell? ⟨w3.heap.size, 8, none⟩ = some (.int .u64 (dg q 2)) := D6.d 2 (by omega); have x9 : w6.cell? ⟨w3.heap.size, 9, none⟩ = some (.int .u64 (dg q 3)) := D6.d 3 (by omega); have x10 : w6.cell? ⟨w3.heap.size, 10, none⟩ = some (.int .u64 (dg q 4)) := D6.d 4 (by omega); have x11 : w6.cell? ⟨w3.heap.size, 11, none⟩ = some (.int .u64 (dg q 5)) := D6.d 5 (by omega); have xf0 : w6.frozen? ⟨w3.heap.size, 0, none⟩ = false := D6.f 0 (by omega); have xf1 : w6.frozen? ⟨w3.heap.size, 1, none⟩ = false := D6.f 1 (by omega); have xf2 : w6.frozen? ⟨w3.heap.size, 2, none⟩ = false := D6.f 2 (by omega); have xf3 : w6.frozen? ⟨w3.heap.size, 3, none⟩ = false := D6.f 3 (by omega); have xf4 : w6.frozen? ⟨w3.heap.size, 4, none⟩ = false := D6.f 4 (by omega); have xf5 : w6.frozen? ⟨w3.heap.size, 5, none⟩ = false := D6.f 5 (by omega); have xf6 : w6.frozen? ⟨w3.heap.size, 6, none⟩ = false := D6.g 0 (by omega); have xf7 : w6.frozen? ⟨w3.heap.size, 7, none⟩ = false := D6.g 1 (by omega); have xf8 : w6.frozen? ⟨w3.heap.size, 8, none⟩ = false := D6.g 2 (by omega); have xf9 : w6.frozen? ⟨w3.heap.size, 9, none⟩ = false := D6.g 3 (by omega); have xf10 : w6.frozen? ⟨w3.heap.size, 10, none⟩ = false := D6.g 4 (by omega); have xf11 : w6.frozen? ⟨w3.heap.size, 11, none⟩ = false := D6.g 5 (by omega)
                refine wpAnyH_ready (rs := [14]) (by kernel_rfl) (by simp) ?_
                refine AllReadyH.cons rfl (fun K hK => ?_) AllReadyH.nil
                go_simp
                refine hK.out _ _ ⟨cell_set12 (by omega) HS.1, cell_set12 (by omega) HS.2.1, cell_set12 (by omega) HS.2.2.1, cell_set12 (by omega) HS.2.2.2⟩ (fun HS => ?_)
                clear hK K
                refine wpAnyH_done (by kernel_rfl) ?_ _
                have D5 := (D6.allP (dg p')).allN (dg q')
                have W5 : Hid (Below w3.heap.size w3 _) := bel6N (bel6 (bchain HW5.out hb6) (Nat.le_refl _) (dg p')) (Nat.le_refl _) (dg q')
                have HSm2 : Hid (Sm p' q' (linP z P (V l) l u (i + 1)) (39614081257132168796771975168 + ((i + 1 : Nat) : Int) * 85070591730234615865843651857942052864)) := hSm
                clear HS hSm CM D6
                clear x0 x1 x2 x3 x4 x5 x6 x7 x8 x9 x10 x11 xf0 xf1 xf2 xf3 xf4 xf5 xf6 xf7 xf8 xf9 xf10 xf11
                go_wp2
                go_roundw
                case rel => exact ⟨i + 1, p', q', by omega, by go_num, D5, HSm2, W5⟩
                case measure => simp [intOf]; omega
              · go_simp
                refine (HWt.out _ (bchain HWr.out hbD)).mono ?_
                rintro e w5 ⟨rfl, hb5⟩
                have HS5 := HS
                refine hK.out _ _ ⟨cell_later hb5 HS5.1, cell_later hb5 HS5.2.1, cell_later hb5 HS5.2.2.1, cell_later hb5 HS5.2.2.2⟩ (fun HS => ?_)
                clear hK K
                have HW5 : Hid (Below w3.heap.size w3 w5) := bchain (bchain HWr.out hbD) hb5
                have D5' := D4.later hb5
                clear x0 x1 x2 x3 x4 x5 x6 x7 x8 x9 x10 x11 xf0 xf1 xf2 xf3 xf4 xf5 xf6 xf7 xf8 xf9 xf10 xf11
                have x0 : w5.cell? ⟨w3.heap.size, 0, none⟩ = some (.int .u64 (dg p 0)) := D5'.c 0 (by omega); have x1 : w5.cell? ⟨w3.heap.size, 1, none⟩ = some (.int .u64 (dg p 1)) := D5'.c 1 (by omega); have x2 : w5.cell? ⟨w3.heap.size, 2, none⟩ = some (.int .u64 (dg p 2)) := D5'.c 2 (by omega); have x3 : w5.cell? ⟨w3.heap.size, 3, none⟩ = some (.int .u64 (dg p 3)) := D5'.c 3 (by omega); have x4 : w5.cell? ⟨w3.heap.size, 4, none⟩ = some (.int .u64 (dg p 4)) := D5'.c 4 (by omega); have x5 : w5.cell? ⟨w3.heap.size, 5, none⟩ = some (.int .u64 (dg p 5)) := D5'.c 5 (by omega); have x6 : w5.cell? ⟨w3.heap.size, 6, none⟩ = some (.int .u64 (dg q 0)) := D5'.d 0 (by omega); have x7 : w5.cell? ⟨w3.heap.size, 7, none⟩ = some (.int .u64 (dg q 1)) := D5'.d 1 (by omega); have x8 : w5.cell? ⟨w3.heap.size, 8, none⟩ = some (.int .u64 (dg q 2)) := D5'.d 2 (by omega); have x9 : w5.cell? ⟨w3.heap.size, 9, none⟩ = some (.int .u64 (dg q 3)) := D5'.d 3 (by omega); have x10 : w5.cell? ⟨w3.heap.size, 10, none⟩ = some (.int .u64 (dg q 4)) := D5'.d 4 (by omega); have x11 : w5.cell? ⟨w3.heap.size, 11, none⟩ = some (.int .u64 (dg q 5)) := D5'.d 5 (by omega); have xf0 : w5.frozen? ⟨w3.heap.size, 0, none⟩ = false := D5'.f 0 (by omega); have xf1 : w5.frozen? ⟨w3.heap.size, 1, none⟩ = false := D5'.f 1 (by omega); have xf2 : w5.frozen? ⟨w3.heap.size, 2, none⟩ = false := D5'.f 2 (by omega); have xf3 : w5.frozen? ⟨w3.heap.size, 3, none⟩ = false := D5'.f 3 (by omega); have xf4 : w5.frozen? ⟨w3.heap.size, 4, none⟩ = false := D5'.f 4 (by omega); have xf5 : w5.frozen? ⟨w3.heap.size, 5, none⟩ = false := D5'.f 5 (by omega); have xf6 : w5.frozen? ⟨w3.heap.size, 6, none⟩ = false := D5'.g 0 (by omega); have xf7 : w5.frozen? ⟨w3.heap.size, 7, none⟩ = false := D5'.g 1 (by omega); have xf8 : w5.frozen? ⟨w3.heap.size, 8, none⟩ = false := D5'.g 2 (by omega); have xf9 : w5.frozen? ⟨w3.heap.size, 9, none⟩ = false := D5'.g 3 (by omega); have xf10 : w5.frozen? ⟨w3.heap.size, 10, none⟩ = false := D5'.g 4 (by omega); have xf11 : w5.frozen? ⟨w3.heap.size, 11, none⟩ = false := D5'.g 5 (by omega)
                refine wpAnyH_ready (rs := [0]) (by kernel_rfl) (by simp) ?_
                refine AllReadyH.cons rfl (fun K hK => ?_) AllReadyH.nil
                go_simp
                refine hK.out _ _ HS (fun HS => ?_)
                clear hK K
                refine wpAnyH_ready (rs := [13]) (by kernel_rfl) (by simp) ?_
                refine AllReadyH.cons rfl (fun K hK => ?_) AllReadyH.nil
                go_simp
                refine (CM.out _).mono ?_
                rintro e w6 ⟨p', q', rfl, hSm, hb6⟩
                have HS6 := HS
                refine hK.out _ _ ⟨cell_later hb6 HS6.1, cell_later hb6 HS6.2.1, cell_later hb6 HS6.2.2.1, cell_later hb6 HS6.2.2.2⟩ (fun HS => ?_)
                clear hK K
                have D6 := D5'.later hb6
                clear x0 x1 x2 x3 x4 x5 x6 x7 x8 x9 x10 x11 xf0 xf1 xf2 xf3 xf4 xf5 xf6 xf7 xf8 xf9 xf10 xf11
                have x0 : w6.cell? ⟨w3.heap.size, 0, none⟩ = some (.int .u64 (dg p 0)) := D6.c 0 (by omega); have x1 : w6.cell? ⟨w3.heap.size, 1, none⟩ = some (.int .u64 (dg p 1)) := D6.c 1 (by omega); have x2 : w6.cell? ⟨w3.heap.size, 2, none⟩ = some (.int .u64 (dg p 2)) := D6.c 2 (by omega); have x3 : w6.cell? ⟨w3.heap.size, 3, none⟩ = some (.int .u64 (dg p 3)) := D6.c 3 (by omega); have x4 : w6.cell? ⟨w3.heap.size, 4, none⟩ = some (.int .u64 (dg p 4)) := D6.c 4 (by omega); have x5 : w6.cell? ⟨w3.heap.size, 5, none⟩ = some (.int .u64 (dg p 5)) := D6.c 5 (by omega); have x6 : w6.cell? ⟨w3.heap.size, 6, none⟩ = some (.int .u64 (dg q 0)) := D6.d 0 (by omega); have x7 : w6.cell? ⟨w3.heap.size, 7, none⟩ = some (.int .u64 (dg q 1)) := D6.d 1 (by omega); have x8 : w6.cell? ⟨w3.heap.size, 8, none⟩ = some (.int .u64 (dg q 2)) := D6.d 2 (by omega); have x9 : w6.cell? ⟨w3.heap.size, 9, none⟩ = some (.int .u64 (dg q 3)) := D6.d 3 (by omega); have x10 : w6.cell? ⟨w3.heap.size, 10, none⟩ = some (.int .u64 (dg q 4)) := D6.d 4 (by omega); have x11 : w6.cell? ⟨w3.heap.size, 11, none⟩ = some (.int .u64 (dg q 5)) := D6.d 5 (by omega); have xf0 : w6.frozen? ⟨w3.heap.size, 0, none⟩ = false := D6.f 0 (by omega); have xf1 : w6.frozen? ⟨w3.heap.size, 1, none⟩ = false := D6.f 1 (by omega); have xf2 : w6.frozen? ⟨w3.heap.size, 2, none⟩ = false := D6.f 2 (by omega); have xf3 : w6.frozen? ⟨w3.heap.size, 3, none⟩ = false := D6.f 3 (by omega); have xf4 : w6.frozen? ⟨w3.heap.size, 4, none⟩ = false := D6.f 4 (by omega); have xf5 : w6.frozen? ⟨w3.heap.size, 5, none⟩ = false := D6.f 5 (by omega); have xf6 : w6.frozen? ⟨w3.heap.size, 6, none⟩ = false := D6.g 0 (by omega); have xf7 : w6.frozen? ⟨w3.heap.size, 7, none⟩ = false := D6.g 1 (by omega); have xf8 : w6.frozen? ⟨w3.heap.size, 8, none⟩ = false := D6.g 2 (by omega); have xf9 : w6.frozen? ⟨w3.heap.size, 9, none⟩ = false := D6.g 3 (by omega); have xf10 : w6.frozen? ⟨w3.heap.size, 10, none⟩ = false := D6.g 4 (by omega); have xf11 : w6.frozen? ⟨w3.heap.size, 11, none⟩ = false := D6.g 5 (by omega)
                refine wpAnyH_ready (rs := [14]) (by kernel_rfl) (by simp) ?_
                refine AllReadyH.cons rfl (fun K hK => ?_) AllReadyH.nil
                go_simp
                refine hK.out _ _ ⟨cell_set12 (by omega) HS.1, cell_set12 (by omega) HS.2.1, cell_set12 (by omega) HS.2.2.1, cell_set12 (by omega) HS.2.2.2⟩ (fun HS => ?_)
                clear hK K
                refine wpAnyH_done (by kernel_rfl) ?_ _
                have D5 := (D6.allP (dg p')).allN (dg q')
                have W5 : Hid (Below w3.heap.size w3 _) := bel6N (bel6 (bchain HW5.out hb6) (Nat.le_refl _) (dg p')) (Nat.le_refl _) (dg q')
                have HSm2 : Hid (Sm p' q' (linP z P (V l) l u (i + 1)) (39614081257132168796771975168 + ((i + 1 : Nat) : Int) * 85070591730234615865843651857942052864)) := hSm
                clear HS hSm CM D6
                clear x0 x1 x2 x3 x4 x5 x6 x7 x8 x9 x10 x11 xf0 xf1 xf2 xf3 xf4 xf5 xf6 xf7 xf8 xf9 xf10 xf11
                go_wp2
                go_roundw
                case rel => exact ⟨i + 1, p', q', by omega, by go_num, D5, HSm2, W5⟩
                case measure => simp [intOf]; omega
            · obtain rfl : i = z l := by omega
              have hiI : ¬ ((z l : Nat) : Int) < ((z l : Nat) : Int) := by omega
              obtain ⟨RX, hRX⟩ : ∃ r : Int, clv (rr (linP z P (V l) l u (z l)) 32) = r := ⟨_, rfl⟩
              have CE : Hid (∀ W : World, Calls Tryz.prog 72 #[.agg #[.int .u64 (dg (p) 0), .int .u64 (dg (p) 1), .int .u64 (dg (p) 2), .int .u64 (dg (p) 3), .int .u64 (dg (p) 4), .int .u64 (dg (p) 5), .int .u64 (dg (q) 0), .int .u64 (dg (q) 1), .int .u64 (dg (q) 2), .int .u64 (dg (q) 3), .int .u64 (dg (q) 4), .int .u64 (dg (q) 5)], .int .i64 32] W fun e w' => e = .returned (.tuple #[.int .i64 RX, .bool (O l u)]) ∧ Below W.heap.size W w') := by
                intro W
                rw [← hRX, (HR.out u).2]
                exact sround_of p q _ _ 32 (by omega) HSm.out (by omega) W
              have HVe : Hid (V (l + 1) u = hidV (decide (l + 2 < m)) RX) := by show _ = _; rw [(HR.out u).1, hRX]
              clear HSm hRX
              have x0 : wr.cell? ⟨w3.heap.size, 0, none⟩ = some (.int .u64 (dg p 0)) := hD.c 0 (by omega); have x1 : wr.cell? ⟨w3.heap.size, 1, none⟩ = some (.int .u64 (dg p 1)) := hD.c 1 (by omega); have x2 : wr.cell? ⟨w3.heap.size, 2, none⟩ = some (.int .u64 (dg p 2)) := hD.c 2 (by omega); have x3 : wr.cell? ⟨w3.heap.size, 3, none⟩ = some (.int .u64 (dg p 3)) := hD.c 3 (by omega); have x4 : wr.cell? ⟨w3.heap.size, 4, none⟩ = some (.int .u64 (dg p 4)) := hD.c 4 (by omega); have x5 : wr.cell? ⟨w3.heap.size, 5, none⟩ = some (.int .u64 (dg p 5)) := hD.c 5 (by omega); have x6 : wr.cell? ⟨w3.heap.size, 6, none⟩ = some (.int .u64 (dg q 0)) := hD.d 0 (by omega); have x7 : wr.cell? ⟨w3.heap.size, 7, none⟩ = some (.int .u64 (dg q 1)) := hD.d 1 (by omega); have x8 : wr.cell? ⟨w3.heap.size, 8, none⟩ = some (.int .u64 (dg q 2)) := hD.d 2 (by omega); have x9 : wr.cell? ⟨w3.heap.size, 9, none⟩ = some (.int .u64 (dg q 3)) := hD.d 3 (by omega); have x10 : wr.cell? ⟨w3.heap.size, 10, none⟩ = some (.int .u64 (dg q 4)) := hD.d 4 (by omega); have x11 : wr.cell? ⟨w3.heap.size, 11, none⟩ = some (.int .u64 (dg q 5)) := hD.d 5 (by omega); have xf0 : wr.frozen? ⟨w3.heap.size, 0, none⟩ = false := hD.f 0 (by omega); have xf1 : wr.frozen? ⟨w3.heap.size, 1, none⟩ = false := hD.f 1 (by omega); have xf2 : wr.frozen? ⟨w3.heap.size, 2, none⟩ = false := hD.f 2 (by omega); have xf3 : wr.frozen? ⟨w3.heap.size, 3, none⟩ = false := hD.f 3 (by omega); have xf4 : wr.frozen? ⟨w3.heap.size, 4, none⟩ = false := hD.f 4 (by omega); have xf5 : wr.frozen? ⟨w3.heap.size, 5, none⟩ = false := hD.f 5 (by omega); have xf6 : wr.frozen? ⟨w3.heap.size, 6, none⟩ = false := hD.g 0 (by omega); have xf7 : wr.frozen? ⟨w3.heap.size, 7, none⟩ = false := hD.g 1 (by omega); have xf8 : wr.frozen? ⟨w3.heap.size, 8, none⟩ = false := hD.g 2 (by omega); have xf9 : wr.frozen? ⟨w3.heap.size, 9, none⟩ = false := hD.g 3 (by omega); have xf10 : wr.frozen? ⟨w3.heap.size, 10, none⟩ = false := hD.g 4 (by omega); have xf11 : wr.frozen? ⟨w3.heap.size, 11, none⟩ = false := hD.g 5 (by omega)
              go_wp2_with fail
              refine (CE.out _).mono ?_
              rintro e w6 ⟨rfl, hb6⟩
              clear x0 x1 x2 x3 x4 x5 x6 x7 x8 x9 x10 x11 xf0 xf1 xf2 xf3 xf4 xf5 xf6 xf7 xf8 xf9 xf10 xf11
              have HW6 : Hid (Below wi.heap.size wi w6) := bchain (bchain HW3.out HWr.out) hb6
              clear hD hb6 CE x1 cZ HWr
              have HU6 : Hid (Un d (c + C l + cntV (O l) u) wo w6) := HUi.out.ahead HW6.out
              have ct := HU6.out.c
              have ft := HU6.out.f
              go_wp2_with fail
              refine (utake_any d (c + C l + cntV (O l) u) RX (O l u) (by omega) (by omega) _ ct ft).mono ?_
              rintro e w7 ⟨rfl, hU7⟩
              have HU7 : Hid (Un d (c + C l + cntV (O l) (u + 1)) wo w7) := by
                have e : c + C l + cntV (O l) (u + 1) = c + C l + cntV (O l) u + bi (O l u) := by show c + C l + (cntV (O l) u + bi (O l u)) = _; omega
                show Un _ _ _ _
                rw [e]
                exact HU6.out.chain hU7
              have HO7 : Hid (w7.ownsRow wo.heap.size 2 1 u9 u (il (V (l + 1)) u)) := own_un (own_later HO.out HW6.out) hU7 hdo
              have x1 := (((HBx2.out.un HUi.out hwd).later HW6.out).un hU7 hwd).c0
              have hsz : wo.heap.size ≤ w7.heap.size := HU7.out.s
              clear ct ft hU7 HU6
              have hw2 : IntKind.i64.wrap ((l : Int) + 2) = (l : Int) + 2 := by rw [IntKind.wrap_i64]; omega
              by_cases hneg : RX < 0
              · by_cases hid : l + 2 < m
                · have hidI : (l : Int) + 2 < (m : Int) := by omega
                  have HVl : Hid (V (l + 1) u = 0) := by show _ = _; rw [HVe.out, decide_eq_true hid, hidV_hid _ hneg]
                  clear HVe
                  have hown7 := HO7.out
                  go_wp2_with (at_builtin; refine wpList_append_own _ rfl _ _ 45 rfl wo.heap.size 2 i0 (.int .i64 0) 1 8 Tryz.underlying45 hti hy0 hy1 hy2 rfl (by decide) _ _ _ rfl (hown7.alloc _) ⟨w7.heap.size, 0, none⟩ 1 1 [.int .i64 (0)] rfl rfl (cell_one_new _ _ _) (ints_oneCell .i64 [0]) (by unfold maxLen; omega) (by omega) (by simp; omega) ?_; intro v' w8 hown' hgrow hnil)
                  have HO8 : Hid (w8.ownsRow wo.heap.size 2 1 v' (u + 1) (il (V (l + 1)) (u + 1))) := by show World.ownsRow _ _ _ _ _ _ _; rw [il_succ, HVl.out]; exact hown'
                  have HU8 : Hid (Un d (c + C l + cntV (O l) (u + 1)) wo w8) := HU7.out.grow hdo hgrow (fun k hk => (hown7.lt k hk).1)
                  clear hown' hgrow hnil hown7 HU7 HO7 x1
                  go_wp2
                  go_roundw
                  case rel => exact ⟨u + 1, by omega, by go_num, HO8, HU8⟩
                  case measure => simp [intOf]; omega
                · have hidI : ¬ (l : Int) + 2 < (m : Int) := by omega
                  have HVl : Hid (V (l + 1) u = RX) := by show _ = _; rw [HVe.out, decide_eq_false hid, hidV_out]
                  clear HVe
                  have hown7 := HO7.out
                  go_wp2_with (at_builtin; refine wpList_append_own _ rfl _ _ 45 rfl wo.heap.size 2 i0 (.int .i64 0) 1 8 Tryz.underlying45 hti hy0 hy1 hy2 rfl (by decide) _ _ _ rfl (hown7.alloc _) ⟨w7.heap.size, 0, none⟩ 1 1 [.int .i64 (RX)] rfl rfl (cell_one_new _ _ _) (ints_oneCell .i64 [RX]) (by unfold maxLen; omega) (by omega) (by simp; omega) ?_; intro v' w8 hown' hgrow hnil)
                  have HO8 : Hid (w8.ownsRow wo.heap.size 2 1 v' (u + 1) (il (V (l + 1)) (u + 1))) := by show World.ownsRow _ _ _ _ _ _ _; rw [il_succ, HVl.out]; exact hown'
                  have HU8 : Hid (Un d (c + C l + cntV (O l) (u + 1)) wo w8) := HU7.out.grow hdo hgrow (fun k hk => (hown7.lt k hk).1)
                  clear hown' hgrow hnil hown7 HU7 HO7 x1
                  go_wp2
                  go_roundw
                  case rel => exact ⟨u + 1, by omega, by go_num, HO8, HU8⟩
                  case measure => simp [intOf]; omega
              · have HVl : Hid (V (l + 1) u = RX) := by show _ = _; rw [HVe.out, hidV_pos _ _ hneg]
                clear HVe
                have hown7 := HO7.out
                go_wp2_with (at_builtin; refine wpList_append_own _ rfl _ _ 45 rfl wo.heap.size 2 i0 (.int .i64 0) 1 8 Tryz.underlying45 hti hy0 hy1 hy2 rfl (by decide) _ _ _ rfl (hown7.alloc _) ⟨w7.heap.size, 0, none⟩ 1 1 [.int .i64 (RX)] rfl rfl (cell_one_new _ _ _) (ints_oneCell .i64 [RX]) (by unfold maxLen; omega) (by omega) (by simp; omega) ?_; intro v' w8 hown' hgrow hnil)
                have HO8 : Hid (w8.ownsRow wo.heap.size 2 1 v' (u + 1) (il (V (l + 1)) (u + 1))) := by show World.ownsRow _ _ _ _ _ _ _; rw [il_succ, HVl.out]; exact hown'
                have HU8 : Hid (Un d (c + C l + cntV (O l) (u + 1)) wo w8) := HU7.out.grow hdo hgrow (fun k hk => (hown7.lt k hk).1)
                clear hown' hgrow hnil hown7 HU7 HO7 x1
                go_wp2
                go_roundw
                case rel => exact ⟨u + 1, by omega, by go_num, HO8, HU8⟩
                case measure => simp [intOf]; omega
        · obtain rfl : u = z (l + 1) := by omega
          have huI : ¬ ((z (l + 1) : Nat) : Int) < ((z (l + 1) : Nat) : Int) := by omega
          obtain ⟨hAo, hOo⟩ := ar_of_own HO.out (fun k hk => HVr2.out k hk)
          obtain ⟨xs, hr1, hr2⟩ := id (HAl2.out.un HUi.out (by omega))
          have HUe : Hid (Un d (c + C (l + 1)) w wi) := by
            show Un _ _ _ _
            rw [HVc.out l, ← Int.add_assoc]
            exact HU2.out.chain HUi.out
          have HBe : Hid (Bx w.heap.size (.slice (some ⟨b, o, none⟩) m cap) vp wi) := HBx2.out.un HUi.out hwd
          have hsz : w.heap.size ≤ wi.heap.size := HUe.out.s
          obtain ⟨ad9, ca9, b9, o9, rfl, e1, e2, e3, e4⟩ := id hAo
          unfold maxLen at e2
          have ea9 := e3 (by omega)
          subst ea9
          clear e3 e4
          go_wp2_with (at_builtin; refine wpList_append_own_at _ rfl _ _ 70 rfl (w.heap.size + 1) 45 i1 (.slice none 0 0) 1 24 Tryz.underlying70 hti1 hy3 hy4 hy5 rfl (by decide) _ _ _ rfl (hr1.alloc _) ⟨wi.heap.size, 0, none⟩ 1 1 [.slice (some ⟨b9, o9, none⟩) (z (l + 1)) ca9] rfl rfl (cell_one_new _ _ _) (by simp [Value.oneCell']) (by unfold maxLen; omega) (by omega) (by simp; omega) ?_; intro v' w8 hown' hgrow hnil hat)
          have HAl8 : Hid (Alg w8 (w.heap.size + 1) d v' (l + 1 + 1) z V) := alg_grow hr1 hr2 hAo (hOo.nb hdo) (fun g' hg' => by cases hg'; exact hOo.nb hgb.2) hown' hgrow hat
          have HU8 : Hid (Un d (c + C (l + 1)) w w8) := HUe.out.grow hd hgrow (fun k hk => by have := (hr1.lt k hk).1; omega)
          have HB8 : Hid (Bx w.heap.size (.slice (some ⟨b, o, none⟩) m cap) vp w8) := by
            have h1 := HBe.out.later (bel1 wi (.cells #[.slice (some ⟨b9, o9, none⟩) (z (l + 1)) ca9] 45))
            have e := hgrow.block w.heap.size (by rw [World.size_alloc]; omega) (fun e => by have h2 : w.heap.size = g := Option.some.inj e; omega)
            exact ⟨(World.cell?_of_block (w := wi.alloc (.cells #[.slice (some ⟨b9, o9, none⟩) (z (l + 1)) ca9] 45)) e).trans h1.c0, (World.cell?_of_block (w := wi.alloc (.cells #[.slice (some ⟨b9, o9, none⟩) (z (l + 1)) ca9] 45)) e).trans h1.c1, (World.frozen?_of_block (w := wi.alloc (.cells #[.slice (some ⟨b9, o9, none⟩) (z (l + 1)) ca9] 45)) e).trans h1.f0, (World.frozen?_of_block (w := wi.alloc (.cells #[.slice (some ⟨b9, o9, none⟩) (z (l + 1)) ca9] 45)) e).trans h1.f1⟩
          clear hown' hgrow hnil hat hr1 hr2 HUe HBe hAo hOo HO
          go_wp2
          go_roundw
          case rel => exact ⟨l + 1, by omega, by go_num, HAl8, HB8, HU8⟩
          case measure => simp [intOf]; omega
    · have hlI : ¬ (l : Int) + 1 < (m : Int) := by omega
      have x0 := HBx2.out.c0
      have HQ : Hid (Ls wo d u7 m z V ∧ Un d (c + C (m - 1)) w wo) := by
        have e : m - 1 = l := by omega
        refine ⟨?_, by rw [e]; exact HU2.out⟩
        have h := HAl2.out.ls (by omega) (by omega)
        rw [show l + 1 = m by omega] at h
        exact h
      have hw1 : IntKind.i64.wrap ((l : Int) + 1) = (l : Int) + 1 := by rw [IntKind.wrap_i64]; omega
      clear HAl2 HU2
      go_wp2
      go_ret
      exact ⟨_, rfl, HQ.out.1, HQ.out.2⟩
end Go.Proofs.YtcaficenocblfaaGreatDoor
set_option linter.unusedVariables false
set_option linter.unusedSimpArgs false
namespace Go.Proofs.YtcaficenocblfaaGreatDoor
open Go.RowKit

theorem make_i64 (n : Nat) (hn : n ≤ 1000000) (w : World) : (Instr.makeSlice 45 (.int .i64 (n : Int)) (.int .i64 (n : Int))).run Tryz.prog w = .ok (.slice (some ⟨w.heap.size, 0, none⟩) n n) (w.alloc (.cells (madeCells #[.int .i64 0] n) 2)) := by
  obtain ⟨i0, hi, hz0, hz1, hz2⟩ := info_parts dinfo_i64
  have h := run_make (P := Tryz.prog) w 45 2 i0 (.int .i64 0) Tryz.underlying45 hi hz0 .i64 .i64 (n : Int) (n : Int) (by omega) (by omega) (by rw [hz2]; omega) (by omega)
  rw [hz1, Nat.mul_one] at h
  exact h
theorem Rw.un {b n : Nat} {h : Nat → Value} {w w' : World} {d : Nat} {c : Int} (r : Rw b n h w) (hU : Un d c w w') (hb : b ≠ d) (hl : b < w.heap.size) : Rw b n h w' := r.block (hU.k b hl hb)
set_option maxRecDepth 100000 in
set_option maxHeartbeats 16000000 in
theorem ahead_any (vs vp va vv : Value) (m cp l : Nat) (z : Nat → Nat) (P s v : Nat → Int) (d : Nat) (c : Int) (c0 : 0 ≤ c) (c1 : c ≤ 900000000) (w : World) (hS : Ar w vs m (fun i => ((z i : Nat) : Int))) (hP : Ar w vp cp P) (hA : Ar w va (z (l + 1)) s) (hV : Ar w vv (z l) v) (hz : Szs z m) (hcp : cp = fsN z (m - 1)) (hl : l + 1 < m) (nS : Nb vs d) (nP : Nb vp d) (nA : Nb va d) (nV : Nb vv d) (hc : w.cell? ⟨d, 0, none⟩ = some (.int .i64 c)) (hf : w.frozen? ⟨d, 0, none⟩ = false) :
    Calls Tryz.prog 48 #[.agg #[vs, vp], .pointer (some ⟨d, 0, none⟩), .int .i64 (l : Int), va, vv] w fun e w' => ∃ v', e = .returned v' ∧ Ar w' v' (z l) (ahX z P s v l) ∧ Ow w.heap.size v' ∧ Un d (c + cntV (ahO z P s v l) (z l)) w w' := by
  have hd := World.block_lt_of_cell? _ _ hc
  obtain ⟨m2, m6, hz6⟩ := id hz
  obtain ⟨za1, za2⟩ := hz6 l (by omega)
  obtain ⟨zb1, zb2⟩ := hz6 (l + 1) hl
  have hPr : ∀ i, i < cp → -9223372036854775808 ≤ P i ∧ P i ≤ 9223372036854775807 := by obtain ⟨_, _, _, _, _, _, _, _, h5⟩ := hP; exact fun i hi => (h5 i hi).2
  have HPr : Hid (∀ u i, u < z (l + 1) → i < z l → -9223372036854775808 ≤ P (wtN z l u i) ∧ P (wtN z l u i) ≤ 9223372036854775807) := fun u i hu hi => by
    have hmo : fsN z (l + 1) ≤ fsN z (m - 1) := fsN_mono z (by omega)
    exact hPr _ (by have := wtN_lt z l u i hu hi; omega)
  have HWe : Hid (∀ (u i : Nat) (W : World), u < z (l + 1) → i < z l → Ar W vs m (fun i => ((z i : Nat) : Int)) → Ar W vp cp P → Calls Tryz.prog 71 #[.agg #[vs, vp], .int .i64 (l : Int), .int .i64 (u : Int), .int .i64 (i : Int)] W fun e w' => e = .returned (.int .i64 (P (wtN z l u i))) ∧ Below W.heap.size W w') := fun u i W hu hi h1 h2 => weight_any vs vp m cp l u i z P W h1 h2 hz hcp hl hu hi
  have HSP : Hid (Ar w vs m (fun i => ((z i : Nat) : Int)) ∧ Ar w vp cp P ∧ Nb vs d ∧ Nb vp d) := ⟨hS, hP, nS, nP⟩
  have HR : Hid (∀ i, ahX z P s v l i = if 0 < v i then clv (rr (dotV s (fun u => P (wtN z l u i)) (z (l + 1))) 32) else 0) := fun i => rfl
  have HRO : Hid (∀ i, ahO z P s v l i = if 0 < v i then ovv (rr (dotV s (fun u => P (wtN z l u i)) (z (l + 1))) 32) else false) := fun i => rfl
  have HRr : Hid (∀ i, -9223372036854775808 ≤ ahX z P s v l i ∧ ahX z P s v l i ≤ 9223372036854775807) := fun i => ahX_rng _ _ _ _ _ _
  generalize ahX z P s v l = RX at *
  generalize ahO z P s v l = RO at *
  obtain ⟨adr, cap, b, o, rfl, k1, k2, k3, k4⟩ := hS
  obtain ⟨ada, caa, ba, oa, rfl, j1, j2, j3, j4⟩ := hA
  obtain ⟨adv, cav, bv, ov, rfl, t1, t2, t3, t4⟩ := hV
  unfold maxLen at k2 j2 t2
  have ha := k3 (by omega)
  have hb := j3 (by omega)
  have hv := t3 (by omega)
  subst ha hb hv
  have hbd : b ≠ d := nS _ _ _ rfl (by omega)
  have hba : ba ≠ d := nA _ _ _ rfl (by omega)
  have hbv : bv ≠ d := nV _ _ _ rfl (by omega)
  have HZ : Hid (w.cell? ⟨b, o + l, none⟩ = some (.int .i64 ((z l : Nat) : Int)) ∧ w.cell? ⟨b, o + (l + 1), none⟩ = some (.int .i64 ((z (l + 1) : Nat) : Int))) := ⟨(k4 l (by omega)).1, (k4 (l + 1) hl).1⟩
  have HA : Hid (∀ k, k < z (l + 1) → w.cell? ⟨ba, oa + k, none⟩ = some (.int .i64 (s k)) ∧ -9223372036854775808 ≤ s k ∧ s k ≤ 9223372036854775807) := j4
  have HV : Hid (∀ k, k < z l → w.cell? ⟨bv, ov + k, none⟩ = some (.int .i64 (v k))) := fun k hk => (t4 k hk).1
  have hba2 : ba < w.heap.size := World.block_lt_of_cell? _ _ (j4 0 (by omega)).1
  have hmk := make_i64 (z l) (by omega)
  have hlI : (l : Int) < (m : Int) := by omega
  have hlI1 : (l : Int) + 1 < (m : Int) := by omega
  have hwL : IntKind.i64.wrap ((l : Int) + 1) = (l : Int) + 1 := by rw [IntKind.wrap_i64]; omega
  obtain ⟨w1, hw1⟩ : ∃ w1, w1 = (w.alloc (.cells #[.slice (some ⟨b, o, none⟩) m cap, vp] 53)).alloc (.cells (madeCells #[.int .i64 0] (z l)) 2) := ⟨_, rfl⟩
  have HB1 : Hid (Below w.heap.size w w1) := by rw [hw1]; exact bel2 _ _ _
  have HBx : Hid (Bx w.heap.size (.slice (some ⟨b, o, none⟩) m cap) vp w1) := by rw [hw1]; exact (Bx.new w _ _ _).later (bel1 _ _)
  have HRw : Hid (Rw (w.heap.size + 1) (z l) (fun k => .int .i64 (if k < 0 then RX k else 0)) w1) := by
    have h := Rw.made (w.alloc (.cells #[.slice (some ⟨b, o, none⟩) m cap, vp] 53)) (.int .i64 0) (z l) 2
    rw [World.size_alloc] at h
    rw [hw1]
    exact h.congr (fun k hk => by rw [if_neg (by omega)])
  have HU1 : Hid (Un d (c + cntV RO 0) w w1) := by show Un d (c + 0) w w1; rw [Int.add_zero]; exact (Un.same hc hf).ahead HB1.out
  have hsz1 : Hid (w1.heap.size = w.heap.size + 1 + 1) := by rw [hw1]; show _ = _; simp only [World.size_alloc]
  have x0 := cell_later (bel1 w (.cells #[.slice (some ⟨b, o, none⟩) m cap, vp] 53)) HZ.out.1
  clear k3 k4 j3 j4 t3 t4 nS nP nA nV hc hf hz6 hPr hz hP
  go_enter Tryz.func48, Tryz.ntmps48
  go_upto_region 3 with fail
  rw [← hw1]
  clear hw1 hmk x0
  obtain ⟨g, hg⟩ : ∃ g, w.heap.size + 1 = g := ⟨_, rfl⟩
  simp only [hg]
  rw [hg] at HRw hsz1
  have hgw : w.heap.size < g := by omega
  clear hg
  go_loopw [12] (fun s12 wr => ∃ i : Nat, i ≤ z l ∧ s12 = .int .i64 (i : Int) ∧ Hid (Rw g (z l) (fun k => .int .i64 (if k < i then RX k else 0)) wr) ∧ Hid (Bx w.heap.size (.slice (some ⟨b, o, none⟩) m cap) vp wr) ∧ Hid (Un d (c + cntV RO i) w wr) ∧ g < wr.heap.size) (fun s12 _ => z l - (intOf s12).toNat)
  case atStart => exact ⟨0, by omega, rfl, HRw, HBx, HU1, by rw [hsz1.out]; omega⟩
  case round =>
    rename World => wi
    obtain ⟨i, hi, rfl, HR2, HB2, HU2, hgi⟩ := hrel
    clear HRw HBx HU1 HB1 hsz1
    have x1 := HB2.out.c0
    have cZ := HU2.out.o _ _ hbd HZ.out.1
    have hsz : w.heap.size ≤ wi.heap.size := HU2.out.s
    have hdi : d < wi.heap.size := by omega
    by_cases hil : i < z l
    · have hiI : (i : Int) < ((z l : Nat) : Int) := by omega
      have cV := HU2.out.o _ _ hbv (HV.out i hil)
      have hcr := cnt_rng RO i
      have rx := HR.out i
      have ro := HRO.out i
      have HCs : Hid (cntV RO (i + 1) = cntV RO i + bi (RO i)) := rfl
      by_cases hp : 0 < v i
      · rw [if_pos hp] at rx ro
        have Hrx : Hid (RX i = clv (rr (dotV s (fun u => P (wtN z l u i)) (z (l + 1))) 32) ∧ RO i = ovv (rr (dotV s (fun u => P (wtN z l u i)) (z (l + 1))) 32)) := ⟨rx, ro⟩
        clear rx ro
        have HZ2 : Hid (wi.cell? ⟨b, o + (l + 1), none⟩ = some (.int .i64 ((z (l + 1) : Nat) : Int))) := HU2.out.o _ _ hbd HZ.out.2
        have HA2 : Hid (∀ k, k < z (l + 1) → wi.cell? ⟨ba, oa + k, none⟩ = some (.int .i64 (s k))) := fun k hk => HU2.out.o _ _ hba (HA.out k hk).1
        have HWt3 : Hid (∀ (u : Nat) (W : World), u < z (l + 1) → Below wi.heap.size wi W → Calls Tryz.prog 71 #[.agg #[.slice (some ⟨b, o, none⟩) m cap, vp], .int .i64 (l : Int), .int .i64 (u : Int), .int .i64 (i : Int)] W fun e w' => e = .returned (.int .i64 (P (wtN z l u i))) ∧ Below W.heap.size W w') := fun u W hu hb => HWe.out u i W hu hil ((HSP.out.1.un HSP.out.2.2.1 HU2.out).later hb) ((HSP.out.2.1.un HSP.out.2.2.2 HU2.out).later hb)
        have D0 : B12 wi.heap.size (dg 0) (dg 0) (wi.alloc (.cells #[.int .u64 0, .int .u64 0, .int .u64 0, .int .u64 0, .int .u64 0, .int .u64 0, .int .u64 0, .int .u64 0, .int .u64 0, .int .u64 0, .int .u64 0, .int .u64 0] 116)) := by
          have h := B12.new wi (dg 0) (dg 0) 116
          simp only [dg_zero] at h
          exact B12.noughts h
        have HW4 : Hid (Below wi.heap.size wi (wi.alloc (.cells #[.int .u64 0, .int .u64 0, .int .u64 0, .int .u64 0, .int .u64 0, .int .u64 0, .int .u64 0, .int .u64 0, .int .u64 0, .int .u64 0, .int .u64 0, .int .u64 0] 116))) := bel1 _ _
        go_upto_region 8 with fail
        generalize wi.alloc (.cells #[.int .u64 0, .int .u64 0, .int .u64 0, .int .u64 0, .int .u64 0, .int .u64 0, .int .u64 0, .int .u64 0, .int .u64 0, .int .u64 0, .int .u64 0, .int .u64 0] 116) = w4 at *
        clear cV cZ x1
        go_loopw [14] (fun s14 wc => ∃ (u : Nat) (p q : Int), u ≤ z (l + 1) ∧ s14 = .int .i64 (u : Int) ∧ B12 wi.heap.size (dg p) (dg q) wc ∧ Hid (Sm p q (dotV s (fun u => P (wtN z l u i)) u) ((u : Int) * 85070591730234615865843651857942052864)) ∧ Hid (Below wi.heap.size wi wc)) (fun s14 _ => z (l + 1) - (intOf s14).toNat)
        case atStart => exact ⟨0, 0, 0, by omega, rfl, D0, ⟨by omega, by omega, by omega, by omega, rfl⟩, HW4⟩
        case round =>
          rename World => wr
          obtain ⟨u, p, q, hu, rfl, hD, HSm, HWr⟩ := hrel
          clear D0 HW4
          have x1 := cell_later HWr.out HB2.out.c0
          have cZ := cell_later HWr.out HZ2.out
          by_cases hul : u < z (l + 1)
          · have huI : (u : Int) < ((z (l + 1) : Nat) : Int) := by omega
            have x2 := cell_later HWr.out HB2.out.c1
            have cA := cell_later HWr.out (HA2.out u hul)
            obtain ⟨pw1, pw2⟩ := HPr.out u i hul hil
            obtain ⟨-, vw1, vw2⟩ := HA.out u hul
            have HWt : Hid (∀ W : World, Below wi.heap.size wi W → Calls Tryz.prog 71 #[.agg #[.slice (some ⟨b, o, none⟩) m cap, vp], .int .i64 (l : Int), .int .i64 (u : Int), .int .i64 (i : Int)] W fun e w' => e = .returned (.int .i64 (P (wtN z l u i))) ∧ Below W.heap.size W w') := fun W hb => HWt3.out u W hul hb
            have CM : Hid (∀ W : World, Calls Tryz.prog 70 #[.agg #[.int .u64 (dg (p) 0), .int .u64 (dg (p) 1), .int .u64 (dg (p) 2), .int .u64 (dg (p) 3), .int .u64 (dg (p) 4), .int .u64 (dg (p) 5), .int .u64 (dg (q) 0), .int .u64 (dg (q) 1), .int .u64 (dg (q) 2), .int .u64 (dg (q) 3), .int .u64 (dg (q) 4), .int .u64 (dg (q) 5)], .int .i64 (s u), .int .i64 (P (wtN z l u i))] W fun e w' => ∃ p' q', e = .returned (.agg #[.int .u64 (dg (p') 0), .int .u64 (dg (p') 1), .int .u64 (dg (p') 2), .int .u64 (dg (p') 3), .int .u64 (dg (p') 4), .int .u64 (dg (p') 5), .int .u64 (dg (q') 0), .int .u64 (dg (q') 1), .int .u64 (dg (q') 2), .int .u64 (dg (q') 3), .int .u64 (dg (q') 4), .int .u64 (dg (q') 5)]) ∧ Sm p' q' (dotV s (fun u => P (wtN z l u i)) (u + 1)) (((u + 1 : Nat) : Int) * 85070591730234615865843651857942052864) ∧ Below W.heap.size W w') := by
              intro W
              refine (smul_any p q _ _ (s u) (P (wtN z l u i)) HSm.out vw1 vw2 pw1 pw2 W).mono ?_
              rintro e w' ⟨p', q', rfl, h, hb⟩
              exact ⟨p', q', rfl, sm_mono h (by omega), hb⟩
            have n1 : w.heap.size ≠ wi.heap.size := by omega
            have n3 : ba ≠ wi.heap.size := by omega
            clear HSm pw1 pw2 vw1 vw2
            go_upto_region 10 with fail
            generalize P (wtN z l u i) = pw at *
            generalize s u = ve at *
            have hbD : Below wr.heap.size wr wr.drew := (Below.refl _ _).drew
            have D4 := hD.later hbD
            clear hD cZ
            refine wp_region_held_drew (S := fun W' => W'.cell? ⟨w.heap.size, 0, none⟩ = some (.slice (some ⟨b, o, none⟩) m cap) ∧ W'.cell? ⟨w.heap.size, 1, none⟩ = some vp ∧ W'.cell? ⟨ba, oa + u, none⟩ = some (.int .i64 ve)) (by kernel_rfl) ⟨x1, x2, cA⟩ (fun HS => ?_)
            generalize wr.drew = wD at *
            clear x1 x2 cA
            have x0 : wD.cell? ⟨wi.heap.size, 0, none⟩ = some (.int .u64 (dg p 0)) := D4.c 0 (by omega); have x1 : wD.cell? ⟨wi.heap.size, 1, none⟩ = some (.int .u64 (dg p 1)) := D4.c 1 (by omega); have x2 : wD.cell? ⟨wi.heap.size, 2, none⟩ = some (.int .u64 (dg p 2)) := D4.c 2 (by omega); have x3 : wD.cell? ⟨wi.heap.size, 3, none⟩ = some (.int .u64 (dg p 3)) := D4.c 3 (by omega); have x4 : wD.cell? ⟨wi.heap.size, 4, none⟩ = some (.int .u64 (dg p 4)) := D4.c 4 (by omega); have x5 : wD.cell? ⟨wi.heap.size, 5, none⟩ = some (.int .u64 (dg p 5)) := D4.c 5 (by omega); have x6 : wD.cell? ⟨wi.heap.size, 6, none⟩ = some (.int .u64 (dg q 0)) := D4.d 0 (by omega); have x7 : wD.cell? ⟨wi.heap.size, 7, none⟩ = some (.int .u64 (dg q 1)) := D4.d 1 (by omega); have x8 : wD.cell? ⟨wi.heap.size, 8, none⟩ = some (.int .u64 (dg q 2)) := D4.d 2 (by omega); have x9 : wD.cell? ⟨wi.heap.size, 9, none⟩ = some (.int .u64 (dg q 3)) := D4.d 3 (by omega); have x10 : wD.cell? ⟨wi.heap.size, 10, none⟩ = some (.int .u64 (dg q 4)) := D4.d 4 (by omega); have x11 : wD.cell? ⟨wi.heap.size, 11, none⟩ = some (.int .u64 (dg q 5)) := D4.d 5 (by omega); have xf0 : wD.frozen? ⟨wi.heap.size, 0, none⟩ = false := D4.f 0 (by omega); have xf1 : wD.frozen? ⟨wi.heap.size, 1, none⟩ = false := D4.f 1 (by omega); have xf2 : wD.frozen? ⟨wi.heap.size, 2, none⟩ = false := D4.f 2 (by omega); have xf3 : wD.frozen? ⟨wi.heap.size, 3, none⟩ = false := D4.f 3 (by omega); have xf4 : wD.frozen? ⟨wi.heap.size, 4, none⟩ = false := D4.f 4 (by omega); have xf5 : wD.frozen? ⟨wi.heap.size, 5, none⟩ = false := D4.f 5 (by omega); have xf6 : wD.frozen? ⟨wi.heap.size, 6, none⟩ = false := D4.g 0 (by omega); have xf7 : wD.frozen? ⟨wi.heap.size, 7, none⟩ = false := D4.g 1 (by omega); have xf8 : wD.frozen? ⟨wi.heap.size, 8, none⟩ = false := D4.g 2 (by omega); have xf9 : wD.frozen? ⟨wi.heap.size, 9, none⟩ = false := D4.g 3 (by omega); have xf10 : wD.frozen? ⟨wi.heap.size, 10, none⟩ = false := D4.g 4 (by omega); have xf11 : wD.frozen? ⟨wi.heap.size, 11, none⟩ = false := D4.g 5 (by omega)
            refine wpAnyH_take (i := 1) (v := ?v1) rfl (by kernel_rfl) (by kernel_rfl) (by kernel_rfl) (fun _ _ _ h => h) (Or.inl ⟨by kernel_rfl, ?h1⟩) HS ?r1
            case h1 => (rintro w ⟨s1, s2, s3⟩; go_simp) <;> with_reducible rfl
            try simp only [Act.put, List.setIfInBounds_toArray, List.set_cons_zero, List.set_cons_succ]
            refine wpAnyH_take (i := 2) (v := ?v2) rfl (by kernel_rfl) (by kernel_rfl) (by kernel_rfl) (fun _ _ _ h => h) (Or.inl ⟨by kernel_rfl, ?h2⟩) HS ?r2
            case h2 => (rintro w ⟨s1, s2, s3⟩; go_simp) <;> with_reducible rfl
            try simp only [Act.put, List.setIfInBounds_toArray, List.set_cons_zero, List.set_cons_succ]
            refine wpAnyH_take (i := 3) (v := ?v3) rfl (by kernel_rfl) (by kernel_rfl) (by kernel_rfl) (fun _ _ _ h => h) (Or.inl ⟨by kernel_rfl, ?h3⟩) HS ?r3
            case h3 => (rintro w ⟨s1, s2, s3⟩; go_simp) <;> with_reducible rfl
            try simp only [Act.put, List.setIfInBounds_toArray, List.set_cons_zero, List.set_cons_succ]
            refine wpAnyH_take (i := 4) (v := ?v4) rfl (by kernel_rfl) (by kernel_rfl) (by kernel_rfl) (fun _ _ _ h => h) (Or.inl ⟨by kernel_rfl, ?h4⟩) HS ?r4
            case h4 => (rintro w ⟨s1, s2, s3⟩; go_simp) <;> with_reducible rfl
            try simp only [Act.put, List.setIfInBounds_toArray, List.set_cons_zero, List.set_cons_succ]
            refine wpAnyH_take (i := 5) (v := ?v5) rfl (by kernel_rfl) (by kernel_rfl) (by kernel_rfl) (fun _ _ _ h => h) (Or.inl ⟨by kernel_rfl, ?h5⟩) HS ?r5
            case h5 => (rintro w ⟨s1, s2, s3⟩; go_simp) <;> with_reducible rfl
            try simp only [Act.put, List.setIfInBounds_toArray, List.set_cons_zero, List.set_cons_succ]
            refine wpAnyH_take (i := 6) (v := ?v6) rfl (by kernel_rfl) (by kernel_rfl) (by kernel_rfl) (fun _ _ _ h => h) (Or.inl ⟨by kernel_rfl, ?h6⟩) HS ?r6
            case h6 => (rintro w ⟨s1, s2, s3⟩; go_simp) <;> with_reducible rfl
            try simp only [Act.put, List.setIfInBounds_toArray, List.set_cons_zero, List.set_cons_succ]
            refine wpAnyH_take (i := 7) (v := ?v7) rfl (by kernel_rfl) (by kernel_rfl) (by kernel_rfl) (fun _ _ _ h => h) (Or.inl ⟨by kernel_rfl, ?h7⟩) HS ?r7
            case h7 => (rintro w ⟨s1, s2, s3⟩; go_simp) <;> with_reducible rfl
            try simp only [Act.put, List.setIfInBounds_toArray, List.set_cons_zero, List.set_cons_succ]
            refine wpAnyH_take (i := 8) (v := ?v8) rfl (by kernel_rfl) (by kernel_rfl) (by kernel_rfl) (fun _ _ _ h => h) (Or.inl ⟨by kernel_rfl, ?h8⟩) HS ?r8
            case h8 => (rintro w ⟨s1, s2, s3⟩; go_simp) <;> with_reducible rfl
            try simp only [Act.put, List.setIfInBounds_toArray, List.set_cons_zero, List.set_cons_succ]
            refine wpAnyH_ready (rs := [0, 9]) (by kernel_rfl) (by simp) ?_
            refine AllReadyH.cons rfl (fun K hK => ?_) (AllReadyH.cons rfl (fun K hK => ?_) AllReadyH.nil)
            · go_simp
              refine hK.out _ _ HS (fun HS => ?_)
              clear hK K
              refine wpAnyH_ready (rs := [9]) (by kernel_rfl) (by simp) ?_
              refine AllReadyH.cons rfl (fun K hK => ?_) AllReadyH.nil
              go_simp
              refine (HWt.out _ (bchain HWr.out hbD)).mono ?_
              rintro e w5 ⟨rfl, hb5⟩
              have HS5 := HS
              refine hK.out _ _ ⟨cell_later hb5 HS5.1, cell_later hb5 HS5.2.1, cell_later hb5 HS5.2.2⟩ (fun HS => ?_)
              clear hK K
              have HW5 : Hid (Below wi.heap.size wi w5) := bchain (bchain HWr.out hbD) hb5
              have D5' := D4.later hb5
              refine wpAnyH_ready (rs := [10]) (by kernel_rfl) (by simp) ?_
              refine AllReadyH.cons rfl (fun K hK => ?_) AllReadyH.nil
              go_simp
              refine (CM.out _).mono ?_
              rintro e w6 ⟨p', q', rfl, hSm, hb6⟩
              have HS6 := HS
              refine hK.out _ _ ⟨cell_later hb6 HS6.1, cell_later hb6 HS6.2.1, cell_later hb6 HS6.2.2⟩ (fun HS => ?_)
              clear hK K
              have D6 := D5'.later hb6
              clear x0 x1 x2 x3 x4 x5 x6 x7 x8 x9 x10 x11 xf0 xf1 xf2 xf3 xf4 xf5 xf6 xf7 xf8 xf9 xf10 xf11
              have x0 : w6.cell? ⟨wi.heap.size, 0, none⟩ = some (.int .u64 (dg p 0)) := D6.c 0 (by omega); have x1 : w6.cell? ⟨wi.heap.size, 1, none⟩ = some (.int .u64 (dg p 1)) := D6.c 1 (by omega); have x2 : w6.cell? ⟨wi.heap.size, 2, none⟩ = some (.int .u64 (dg p 2)) := D6.c 2 (by omega); have x3 : w6.cell? ⟨wi.heap.size, 3, none⟩ = some (.int .u64 (dg p 3)) := D6.c 3 (by omega); have x4 : w6.cell? ⟨wi.heap.size, 4, none⟩ = some (.int .u64 (dg p 4)) := D6.c 4 (by omega); have x5 : w6.cell? ⟨wi.heap.size, 5, none⟩ = some (.int .u64 (dg p 5)) := D6.c 5 (by omega); have x6 : w6.cell? ⟨wi.heap.size, 6, none⟩ = some (.int .u64 (dg q 0)) := D6.d 0 (by omega); have x7 : w6.cell? ⟨wi.heap.size, 7, none⟩ = some (.int .u64 (dg q 1)) := D6.d 1 (by omega); have x8 : w6.cell? ⟨wi.heap.size, 8, none⟩ = some (.int .u64 (dg q 2)) := D6.d 2 (by omega); have x9 : w6.cell? ⟨wi.heap.size, 9, none⟩ = some (.int .u64 (dg q 3)) := D6.d 3 (by omega); have x10 : w6.cell? ⟨wi.heap.size, 10, none⟩ = some (.int .u64 (dg q 4)) := D6.d 4 (by omega); have x11 : w6.cell? ⟨wi.heap.size, 11, none⟩ = some (.int .u64 (dg q 5)) := D6.d 5 (by omega); have xf0 : w6.frozen? ⟨wi.heap.size, 0, none⟩ = false := D6.f 0 (by omega); have xf1 : w6.frozen? ⟨wi.heap.size, 1, none⟩ = false := D6.f 1 (by omega); have xf2 : w6.frozen? ⟨wi.heap.size, 2, none⟩ = false := D6.f 2 (by omega); have xf3 : w6.frozen? ⟨wi.heap.size, 3, none⟩ = false := D6.f 3 (by omega); have xf4 : w6.frozen? ⟨wi.heap.size, 4, none⟩ = false := D6.f 4 (by omega); have xf5 : w6.frozen? ⟨wi.heap.size, 5, none⟩ = false := D6.f 5 (by omega); have xf6 : w6.frozen? ⟨wi.heap.size, 6, none⟩ = false := D6.g 0 (by omega); have xf7 : w6.frozen? ⟨wi.heap.size, 7, none⟩ = false := D6.g 1 (by omega); have xf8 : w6.frozen? ⟨wi.heap.size, 8, none⟩ = false := D6.g 2 (by omega); have xf9 : w6.frozen? ⟨wi.heap.size, 9, none⟩ = false := D6.g 3 (by omega); have xf10 : w6.frozen? ⟨wi.heap.size, 10, none⟩ = false := D6.g 4 (by omega); have xf11 : w6.frozen? ⟨wi.heap.size, 11, none⟩ = false := D6.g 5 (by omega)
              refine wpAnyH_ready (rs := [11]) (by kernel_rfl) (by simp) ?_
              refine AllReadyH.cons rfl (fun K hK => ?_) AllReadyH.nil
              go_simp
              refine hK.out _ _ ⟨cell_set12 (by omega) HS.1, cell_set12 (by omega) HS.2.1, cell_set12 (by omega) HS.2.2⟩ (fun HS => ?_)
              clear hK K
              refine wpAnyH_done (by kernel_rfl) ?_ _
              have D5 := (D6.allP (dg p')).allN (dg q')
              have W5 : Hid (Below wi.heap.size wi _) := bel6N (bel6 (bchain HW5.out hb6) (Nat.le_refl _) (dg p')) (Nat.le_refl _) (dg q')
              have HSm2 : Hid (Sm p' q' (dotV s (fun u => P (wtN z l u i)) (u + 1)) (((u + 1 : Nat) : Int) * 85070591730234615865843651857942052864)) := hSm
              clear HS hSm CM D6
              clear x0 x1 x2 x3 x4 x5 x6 x7 x8 x9 x10 x11 xf0 xf1 xf2 xf3 xf4 xf5 xf6 xf7 xf8 xf9 xf10 xf11
              go_wp2
              go_roundw
              case rel => exact ⟨u + 1, p', q', by omega, by go_num, D5, HSm2, W5⟩
              case measure => simp [intOf]; omega
            · go_simp
              refine (HWt.out _ (bchain HWr.out hbD)).mono ?_
              rintro e w5 ⟨rfl, hb5⟩
              have HS5 := HS
              refine hK.out _ _ ⟨cell_later hb5 HS5.1, cell_later hb5 HS5.2.1, cell_later hb5 HS5.2.2⟩ (fun HS => ?_)
              clear hK K
              have HW5 : Hid (Below wi.heap.size wi w5) := bchain (bchain HWr.out hbD) hb5
              have D5' := D4.later hb5
              clear x0 x1 x2 x3 x4 x5 x6 x7 x8 x9 x10 x11 xf0 xf1 xf2 xf3 xf4 xf5 xf6 xf7 xf8 xf9 xf10 xf11
              have x0 : w5.cell? ⟨wi.heap.size, 0, none⟩ = some (.int .u64 (dg p 0)) := D5'.c 0 (by omega); have x1 : w5.cell? ⟨wi.heap.size, 1, none⟩ = some (.int .u64 (dg p 1)) := D5'.c 1 (by omega); have x2 : w5.cell? ⟨wi.heap.size, 2, none⟩ = some (.int .u64 (dg p 2)) := D5'.c 2 (by omega); have x3 : w5.cell? ⟨wi.heap.size, 3, none⟩ = some (.int .u64 (dg p 3)) := D5'.c 3 (by omega); have x4 : w5.cell? ⟨wi.heap.size, 4, none⟩ = some (.int .u64 (dg p 4)) := D5'.c 4 (by omega); have x5 : w5.cell? ⟨wi.heap.size, 5, none⟩ = some (.int .u64 (dg p 5)) := D5'.c 5 (by omega); have x6 : w5.cell? ⟨wi.heap.size, 6, none⟩ = some (.int .u64 (dg q 0)) := D5'.d 0 (by omega); have x7 : w5.cell? ⟨wi.heap.size, 7, none⟩ = some (.int .u64 (dg q 1)) := D5'.d 1 (by omega); have x8 : w5.cell? ⟨wi.heap.size, 8, none⟩ = some (.int .u64 (dg q 2)) := D5'.d 2 (by omega); have x9 : w5.cell? ⟨wi.heap.size, 9, none⟩ = some (.int .u64 (dg q 3)) := D5'.d 3 (by omega); have x10 : w5.cell? ⟨wi.heap.size, 10, none⟩ = some (.int .u64 (dg q 4)) := D5'.d 4 (by omega); have x11 : w5.cell? ⟨wi.heap.size, 11, none⟩ = some (.int .u64 (dg q 5)) := D5'.d 5 (by omega); have xf0 : w5.frozen? ⟨wi.heap.size, 0, none⟩ = false := D5'.f 0 (by omega); have xf1 : w5.frozen? ⟨wi.heap.size, 1, none⟩ = false := D5'.f 1 (by omega); have xf2 : w5.frozen? ⟨wi.heap.size, 2, none⟩ = false := D5'.f 2 (by omega); have xf3 : w5.frozen? ⟨wi.heap.size, 3, none⟩ = false := D5'.f 3 (by omega); have xf4 : w5.frozen? ⟨wi.heap.size, 4, none⟩ = false := D5'.f 4 (by omega); have xf5 : w5.frozen? ⟨wi.heap.size, 5, none⟩ = false := D5'.f 5 (by omega); have xf6 : w5.frozen? ⟨wi.heap.size, 6, none⟩ = false := D5'.g 0 (by omega); have xf7 : w5.frozen? ⟨wi.heap.size, 7, none⟩ = false := D5'.g 1 (by omega); have xf8 : w5.frozen? ⟨wi.heap.size, 8, none⟩ = false := D5'.g 2 (by omega); have xf9 : w5.frozen? ⟨wi.heap.size, 9, none⟩ = false := D5'.g 3 (by omega); have xf10 : w5.frozen? ⟨wi.heap.size, 10, none⟩ = false := D5'.g 4 (by omega); have xf11 : w5.frozen? ⟨wi.heap.size, 11, none⟩ = false := D5'.g 5 (by omega)
              refine wpAnyH_ready (rs := [0]) (by kernel_rfl) (by simp) ?_
              refine AllReadyH.cons rfl (fun K hK => ?_) AllReadyH.nil
              go_simp
              refine hK.out _ _ HS (fun HS => ?_)
              clear hK K
              refine wpAnyH_ready (rs := [10]) (by kernel_rfl) (by simp) ?_
              refine AllReadyH.cons rfl (fun K hK => ?_) AllReadyH.nil
              go_simp
              refine (CM.out _).mono ?_
              rintro e w6 ⟨p', q', rfl, hSm, hb6⟩
              have HS6 := HS
              refine hK.out _ _ ⟨cell_later hb6 HS6.1, cell_later hb6 HS6.2.1, cell_later hb6 HS6.2.2⟩ (fun HS => ?_)
              clear hK K
              have D6 := D5'.later hb6
              clear x0 x1 x2 x3 x4 x5 x6 x7 x8 x9 x10 x11 xf0 xf1 xf2 xf3 xf4 xf5 xf6 xf7 xf8 xf9 xf10 xf11
              have x0 : w6.cell? ⟨wi.heap.size, 0, none⟩ = some (.int .u64 (dg p 0)) := D6.c 0 (by omega); have x1 : w6.cell? ⟨wi.heap.size, 1, none⟩ = some (.int .u64 (dg p 1)) := D6.c 1 (by omega); have x2 : w6.cell? ⟨wi.heap.size, 2, none⟩ = some (.int .u64 (dg p 2)) := D6.c 2 (by omega); have x3 : w6.cell? ⟨wi.heap.size, 3, none⟩ = some (.int .u64 (dg p 3)) := D6.c 3 (by omega); have x4 : w6.cell? ⟨wi.heap.size, 4, none⟩ = some (.int .u64 (dg p 4)) := D6.c 4 (by omega); have x5 : w6.cell? ⟨wi.heap.size, 5, none⟩ = some (.int .u64 (dg p 5)) := D6.c 5 (by omega); have x6 : w6.cell? ⟨wi.heap.size, 6, none⟩ = some (.int .u64 (dg q 0)) := D6.d 0 (by omega); have x7 : w6.cell? ⟨wi.heap.size, 7, none⟩ = some (.int .u64 (dg q 1)) := D6.d 1 (by omega); have x8 : w6.cell? ⟨wi.heap.size, 8, none⟩ = some (.int .u64 (dg q 2)) := D6.d 2 (by omega); have x9 : w6.cell? ⟨wi.heap.size, 9, none⟩ = some (.int .u64 (dg q 3)) := D6.d 3 (by omega); have x10 : w6.cell? ⟨wi.heap.size, 10, none⟩ = some (.int .u64 (dg q 4)) := D6.d 4 (by omega); have x11 : w6.cell? ⟨wi.heap.size, 11, none⟩ = some (.int .u64 (dg q 5)) := D6.d 5 (by omega); have xf0 : w6.frozen? ⟨wi.heap.size, 0, none⟩ = false := D6.f 0 (by omega); have xf1 : w6.frozen? ⟨wi.heap.size, 1, none⟩ = false := D6.f 1 (by omega); have xf2 : w6.frozen? ⟨wi.heap.size, 2, none⟩ = false := D6.f 2 (by omega); have xf3 : w6.frozen? ⟨wi.heap.size, 3, none⟩ = false := D6.f 3 (by omega); have xf4 : w6.frozen? ⟨wi.heap.size, 4, none⟩ = false := D6.f 4 (by omega); have xf5 : w6.frozen? ⟨wi.heap.size, 5, none⟩ = false := D6.f 5 (by omega); have xf6 : w6.frozen? ⟨wi.heap.size, 6, none⟩ = false := D6.g 0 (by omega); have xf7 : w6.frozen? ⟨wi.heap.size, 7, none⟩ = false := D6.g 1 (by omega); have xf8 : w6.frozen? ⟨wi.heap.size, 8, none⟩ = false := D6.g 2 (by omega); have xf9 : w6.frozen? ⟨wi.heap.size, 9, none⟩ = false := D6.g 3 (by omega); have xf10 : w6.frozen? ⟨wi.heap.size, 10, none⟩ = false := D6.g 4 (by omega); have xf11 : w6.frozen? ⟨wi.heap.size, 11, none⟩ = false := D6.g 5 (by omega)
              refine wpAnyH_ready (rs := [11]) (by kernel_rfl) (by simp) ?_
              refine AllReadyH.cons rfl (fun K hK => ?_) AllReadyH.nil
              go_simp
              refine hK.out _ _ ⟨cell_set12 (by omega) HS.1, cell_set12 (by omega) HS.2.1, cell_set12 (by omega) HS.2.2⟩ (fun HS => ?_)
              clear hK K
              refine wpAnyH_done (by kernel_rfl) ?_ _
              have D5 := (D6.allP (dg p')).allN (dg q')
              have W5 : Hid (Below wi.heap.size wi _) := bel6N (bel6 (bchain HW5.out hb6) (Nat.le_refl _) (dg p')) (Nat.le_refl _) (dg q')
              have HSm2 : Hid (Sm p' q' (dotV s (fun u => P (wtN z l u i)) (u + 1)) (((u + 1 : Nat) : Int) * 85070591730234615865843651857942052864)) := hSm
              clear HS hSm CM D6
              clear x0 x1 x2 x3 x4 x5 x6 x7 x8 x9 x10 x11 xf0 xf1 xf2 xf3 xf4 xf5 xf6 xf7 xf8 xf9 xf10 xf11
              go_wp2
              go_roundw
              case rel => exact ⟨u + 1, p', q', by omega, by go_num, D5, HSm2, W5⟩
              case measure => simp [intOf]; omega
          · obtain rfl : u = z (l + 1) := by omega
            have huI : ¬ ((z (l + 1) : Nat) : Int) < ((z (l + 1) : Nat) : Int) := by omega
            have CE : Hid (∀ W : World, Calls Tryz.prog 72 #[.agg #[.int .u64 (dg (p) 0), .int .u64 (dg (p) 1), .int .u64 (dg (p) 2), .int .u64 (dg (p) 3), .int .u64 (dg (p) 4), .int .u64 (dg (p) 5), .int .u64 (dg (q) 0), .int .u64 (dg (q) 1), .int .u64 (dg (q) 2), .int .u64 (dg (q) 3), .int .u64 (dg (q) 4), .int .u64 (dg (q) 5)], .int .i64 32] W fun e w' => e = .returned (.tuple #[.int .i64 (RX i), .bool (RO i)]) ∧ Below W.heap.size W w') := by
              intro W
              rw [Hrx.out.1, Hrx.out.2]
              exact sround_of p q _ _ 32 (by omega) HSm.out (by omega) W
            clear HSm Hrx
            have x0 : wr.cell? ⟨wi.heap.size, 0, none⟩ = some (.int .u64 (dg p 0)) := hD.c 0 (by omega); have x1 : wr.cell? ⟨wi.heap.size, 1, none⟩ = some (.int .u64 (dg p 1)) := hD.c 1 (by omega); have x2 : wr.cell? ⟨wi.heap.size, 2, none⟩ = some (.int .u64 (dg p 2)) := hD.c 2 (by omega); have x3 : wr.cell? ⟨wi.heap.size, 3, none⟩ = some (.int .u64 (dg p 3)) := hD.c 3 (by omega); have x4 : wr.cell? ⟨wi.heap.size, 4, none⟩ = some (.int .u64 (dg p 4)) := hD.c 4 (by omega); have x5 : wr.cell? ⟨wi.heap.size, 5, none⟩ = some (.int .u64 (dg p 5)) := hD.c 5 (by omega); have x6 : wr.cell? ⟨wi.heap.size, 6, none⟩ = some (.int .u64 (dg q 0)) := hD.d 0 (by omega); have x7 : wr.cell? ⟨wi.heap.size, 7, none⟩ = some (.int .u64 (dg q 1)) := hD.d 1 (by omega); have x8 : wr.cell? ⟨wi.heap.size, 8, none⟩ = some (.int .u64 (dg q 2)) := hD.d 2 (by omega); have x9 : wr.cell? ⟨wi.heap.size, 9, none⟩ = some (.int .u64 (dg q 3)) := hD.d 3 (by omega); have x10 : wr.cell? ⟨wi.heap.size, 10, none⟩ = some (.int .u64 (dg q 4)) := hD.d 4 (by omega); have x11 : wr.cell? ⟨wi.heap.size, 11, none⟩ = some (.int .u64 (dg q 5)) := hD.d 5 (by omega); have xf0 : wr.frozen? ⟨wi.heap.size, 0, none⟩ = false := hD.f 0 (by omega); have xf1 : wr.frozen? ⟨wi.heap.size, 1, none⟩ = false := hD.f 1 (by omega); have xf2 : wr.frozen? ⟨wi.heap.size, 2, none⟩ = false := hD.f 2 (by omega); have xf3 : wr.frozen? ⟨wi.heap.size, 3, none⟩ = false := hD.f 3 (by omega); have xf4 : wr.frozen? ⟨wi.heap.size, 4, none⟩ = false := hD.f 4 (by omega); have xf5 : wr.frozen? ⟨wi.heap.size, 5, none⟩ = false := hD.f 5 (by omega); have xf6 : wr.frozen? ⟨wi.heap.size, 6, none⟩ = false := hD.g 0 (by omega); have xf7 : wr.frozen? ⟨wi.heap.size, 7, none⟩ = false := hD.g 1 (by omega); have xf8 : wr.frozen? ⟨wi.heap.size, 8, none⟩ = false := hD.g 2 (by omega); have xf9 : wr.frozen? ⟨wi.heap.size, 9, none⟩ = false := hD.g 3 (by omega); have xf10 : wr.frozen? ⟨wi.heap.size, 10, none⟩ = false := hD.g 4 (by omega); have xf11 : wr.frozen? ⟨wi.heap.size, 11, none⟩ = false := hD.g 5 (by omega)
            go_wp2_with fail
            refine (CE.out _).mono ?_
            rintro e w6 ⟨rfl, hb6⟩
            clear x0 x1 x2 x3 x4 x5 x6 x7 x8 x9 x10 x11 xf0 xf1 xf2 xf3 xf4 xf5 xf6 xf7 xf8 xf9 xf10 xf11
            have HW6 : Hid (Below wi.heap.size wi w6) := bchain HWr.out hb6
            clear hD hb6 CE x1 cZ HWr
            have HU6 : Hid (Un d (c + cntV RO i) w w6) := HU2.out.ahead HW6.out
            have ct := HU6.out.c
            have ft := HU6.out.f
            go_wp2_with fail
            refine (utake_any d (c + cntV RO i) (RX i) (RO i) (by omega) (by omega) _ ct ft).mono ?_
            rintro e w7 ⟨rfl, hU7⟩
            have HU7 : Un d (c + cntV RO (i + 1)) w w7 := by
              rw [HCs.out, ← Int.add_assoc]
              exact HU6.out.chain hU7
            have hs7 : w6.heap.size ≤ w7.heap.size := hU7.s
            have hs6 : wi.heap.size ≤ w6.heap.size := HW6.out.size
            have HR7 : Rw g (z l) (fun k => .int .i64 (if k < i then RX k else 0)) w7 := (HR2.out.later HW6.out).un hU7 (by omega) (by omega)
            have HB7 : Bx w.heap.size (.slice (some ⟨b, o, none⟩) m cap) vp w7 := (HB2.out.later HW6.out).un hU7 (by omega)
            have cO : w7.cell? ⟨g, i, none⟩ = some (.int .i64 0) := by have h := HR7.c i hil; rw [if_neg (by omega)] at h; exact h
            have fO := HR7.f i hil
            have HR8 : Hid (Rw g (z l) (fun k => .int .i64 (if k < i + 1 then RX k else 0)) (w7.setCell ⟨g, i, none⟩ (.int .i64 (RX i)))) := (HR7.set i (.int .i64 (RX i))).congr (fun k hk => by
              by_cases e : k = i
              · rw [if_pos e, e, if_pos (by omega)]
              · rw [if_neg e]
                by_cases h2 : k < i
                · rw [if_pos h2, if_pos (by omega)]
                · rw [if_neg h2, if_neg (by omega)])
            have HU8 : Hid (Un d (c + cntV RO (i + 1)) w (w7.setCell ⟨g, i, none⟩ (.int .i64 (RX i)))) := un_far HU7 hd (by dsimp only; omega) _
            have HB8 : Hid (Bx w.heap.size (.slice (some ⟨b, o, none⟩) m cap) vp (w7.setCell ⟨g, i, none⟩ (.int .i64 (RX i)))) := by
              have e : (w7.setCell ⟨g, i, none⟩ (.int .i64 (RX i))).heap[w.heap.size]? = w7.heap[w.heap.size]? := Below.heap_setCell _ _ _ _ (by dsimp only; omega)
              exact ⟨(World.cell?_of_block (w := w7) e).trans HB7.c0, (World.cell?_of_block (w := w7) e).trans HB7.c1, (World.frozen?_of_block (w := w7) e).trans HB7.f0, (World.frozen?_of_block (w := w7) e).trans HB7.f1⟩
            have hg8 : g < (w7.setCell ⟨g, i, none⟩ (.int .i64 (RX i))).heap.size := by simp [World.setCell]; omega
            clear ct ft hU7 HU6 HU7 HR7 HB7 HW6 HU2 HB2 HR2
            go_wp2
            go_roundw
            case rel => exact ⟨i + 1, by omega, by go_num, HR8, HB8, HU8, hg8⟩
            case measure => simp [intOf]; omega
      · rw [if_neg hp] at rx ro
        have HR8 : Hid (Rw g (z l) (fun k => .int .i64 (if k < i + 1 then RX k else 0)) wi) := HR2.out.congr (fun k hk => by
          by_cases e : k = i
          · rw [e, if_neg (by omega), if_pos (by omega), rx]
          · by_cases h2 : k < i
            · rw [if_pos h2, if_pos (by omega)]
            · rw [if_neg h2, if_neg (by omega)])
        have HU8 : Hid (Un d (c + cntV RO (i + 1)) w wi) := by
          show Un _ _ _ _
          have e0 : bi false = 0 := by unfold bi; simp
          rw [HCs.out, ro, e0, Int.add_zero]
          exact HU2.out
        clear rx ro HR2 HU2
        go_wp2
        go_roundw
        case rel => exact ⟨i + 1, by omega, by go_num, HR8, HB2, HU8, hgi⟩
        case measure => simp [intOf]; omega
    · obtain rfl : i = z l := by omega
      have hiI : ¬ ((z l : Nat) : Int) < ((z l : Nat) : Int) := by omega
      have HQ : Hid (Ar wi (.slice (some ⟨g, 0, none⟩) (z l) (z l)) (z l) RX ∧ Ow w.heap.size (.slice (some ⟨g, 0, none⟩) (z l) (z l))) := ⟨(HR2.out.congr (fun k hk => by rw [if_pos hk])).ar (by omega) (fun k _ => HRr.out k), fun a n' cap' e _ => by cases e; dsimp only; omega⟩
      clear HR2
      go_wp2
      go_ret
      exact ⟨_, rfl, HQ.out.1, HQ.out.2, HU2.out⟩
end Go.Proofs.YtcaficenocblfaaGreatDoor
