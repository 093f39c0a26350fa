/-
  Texts of this proof, joined: LWalkG LWalkH LWalkE2 LWalkF2 LMath3 LWalkI LMath4 BK BJ LWalkJ EMathB EWalkA LBase.
-/
import Derived.Test.YtdfjnbkkdgolnaaGreatDoorSF00
import Derived.Test.YtdfjnbkkdgolnaaGreatDoorSF02
import Derived.Test.YtdfjnbkkdgolnaaGreatDoorSF03
import Derived.Test.YtdfjnbkkdgolnaaGreatDoorSF04
import Derived.Deep.RegionHeld3
import Derived.Deep.DrawnRows
import Derived.Deep.Cut
import Derived.Deep.DeepCutAuto
import Derived.Laws.Bits64
set_option linter.unusedVariables false
set_option linter.unusedSimpArgs false
namespace Go.Proofs.YtdfjnbkkdgolnaaGreatDoor
open Go.RowKit

/-- The exact sum of a layer's output, of the first i inputs. -/
def linP (z : Nat → Nat) (p v : Nat → Int) (l u i : Nat) : Int := p (ofN z l u) * 4294967296 + dotV (fun i => p (wtN z l u i)) v i
theorem linP_succ (z : Nat → Nat) (p v : Nat → Int) (l u i : Nat) : linP z p v l u (i + 1) = linP z p v l u i + p (wtN z l u i) * v i := by
  unfold linP
  show _ + (dotV _ v i + p (wtN z l u i) * v i) = _
  omega
theorem cell_set12 {bk k j : Nat} {x y : Nat → Int} {u : Value} {w : World} (hp : k ≠ bk) (h : w.cell? ⟨k, j, none⟩ = some u) : (((((((((((( w.setCell ⟨bk, 0, none⟩ (.int .u64 (x 0))).setCell ⟨bk, 1, none⟩ (.int .u64 (x 1))).setCell ⟨bk, 2, none⟩ (.int .u64 (x 2))).setCell ⟨bk, 3, none⟩ (.int .u64 (x 3))).setCell ⟨bk, 4, none⟩ (.int .u64 (x 4))).setCell ⟨bk, 5, none⟩ (.int .u64 (x 5))).setCell ⟨bk, 6, none⟩ (.int .u64 (y 0))).setCell ⟨bk, 7, none⟩ (.int .u64 (y 1))).setCell ⟨bk, 8, none⟩ (.int .u64 (y 2))).setCell ⟨bk, 9, none⟩ (.int .u64 (y 3))).setCell ⟨bk, 10, none⟩ (.int .u64 (y 4))).setCell ⟨bk, 11, none⟩ (.int .u64 (y 5))).cell? ⟨k, j, none⟩ = some u :=
  have hn : bk ≠ k := fun e => hp e.symm
  cell_set hn (cell_set hn (cell_set hn (cell_set hn (cell_set hn (cell_set hn (cell_set hn (cell_set hn (cell_set hn (cell_set hn (cell_set hn (cell_set hn h)))))))))))
theorem hidV_hid (v : Int) (h : v < 0) : hidV true v = 0 := by unfold hidV; rw [if_pos rfl, if_pos h]
theorem hidV_pos (b : Bool) (v : Int) (h : ¬ v < 0) : hidV b v = v := by
  unfold hidV
  by_cases hb : b = true
  · rw [if_pos hb, if_neg h]
  · rw [if_neg hb]
theorem hidV_out (v : Int) : hidV false v = v := by unfold hidV; rw [if_neg (by simp)]
theorem own_form {W : World} {base : Nat} {e : TypeId} {size : Nat} {v : Value} {k : Nat} {xs : List Value} (h : W.ownsRow base e size v (k + 1) xs) : ∃ g cap, v = .slice (some ⟨g, 0, none⟩) (k + 1) cap := by
  rcases h.2 with ⟨_, h0⟩ | ⟨g, cap, _, rfl, _⟩
  · omega
  · exact ⟨g, cap, rfl⟩
set_option maxRecDepth 100000 in
set_option maxHeartbeats 16000000 in
theorem values_any (vs vp vx : Value) (m cp : Nat) (z : Nat → Nat) (P x : Nat → Int) (d : Nat) (c : Int) (c0 : 0 ≤ c) (c1 : c ≤ 900000000) (w : World) (hS : Ar w vs m (fun i => ((z i : Nat) : Int))) (hP : Ar w vp cp P) (hX : Ar w vx (z 0) x) (hz : Szs z m) (hcp : cp = fsN z (m - 1)) (nS : Nb vs d) (nP : Nb vp d) (nX : Nb vx d) (hc : w.cell? ⟨d, 0, none⟩ = some (.int .i64 c)) (hf : w.frozen? ⟨d, 0, none⟩ = false) :
    Calls Tryz.prog 25 #[.agg #[vs, vp], .pointer (some ⟨d, 0, none⟩), vx] w fun e w' => ∃ v', e = .returned v' ∧ Ls w' d v' m z (vN z m P x) ∧ Un d (c + vC z m P x (m - 1)) w w' := by
  obtain ⟨i0, hti, hy0, hy1, hy2⟩ := info_parts dinfo_i64
  obtain ⟨i1, hti1, hy3, hy4, hy5⟩ := info_parts dinfo_is
  have hd := World.block_lt_of_cell? _ _ hc
  obtain ⟨m2, m6, hz6⟩ := id hz
  have hXr : ∀ i, i < z 0 → -9223372036854775808 ≤ x i ∧ x i ≤ 9223372036854775807 := by obtain ⟨_, _, _, _, _, _, _, _, h5⟩ := hX; exact fun i hi => (h5 i hi).2
  have hPr : ∀ i, i < cp → -9223372036854775808 ≤ P i ∧ P i ≤ 9223372036854775807 := by obtain ⟨_, _, _, _, _, _, _, _, h5⟩ := hP; exact fun i hi => (h5 i hi).2
  have HOf : Hid (∀ (l u : Nat) (W : World), l + 1 < m → u < z (l + 1) → Ar W vs m (fun i => ((z i : Nat) : Int)) → Ar W vp cp P → Calls Tryz.prog 16 #[.agg #[vs, vp], .int .i64 (l : Int), .int .i64 (u : Int)] W fun e w' => e = .returned (.int .i64 (P (ofN z l u))) ∧ Below W.heap.size W w') := fun l u W hl hu h1 h2 => offset_any vs vp m cp l u z P W h1 h2 hz hcp hl hu
  have HWe : Hid (∀ (l u i : Nat) (W : World), l + 1 < m → u < z (l + 1) → i < z l → Ar W vs m (fun i => ((z i : Nat) : Int)) → Ar W vp cp P → Calls Tryz.prog 15 #[.agg #[vs, vp], .int .i64 (l : Int), .int .i64 (u : Int), .int .i64 (i : Int)] W fun e w' => e = .returned (.int .i64 (P (wtN z l u i))) ∧ Below W.heap.size W w') := fun l u i W hl hu hi h1 h2 => weight_any vs vp m cp l u i z P W h1 h2 hz hcp hl hu hi
  have HPr : Hid (∀ l u i, l + 1 < m → u < z (l + 1) → (-9223372036854775808 ≤ P (ofN z l u) ∧ P (ofN z l u) ≤ 9223372036854775807) ∧ (i < z l → -9223372036854775808 ≤ P (wtN z l u i) ∧ P (wtN z l u i) ≤ 9223372036854775807)) := fun l u i hl hu => by
    have hmo : fsN z (l + 1) ≤ fsN z (m - 1) := fsN_mono z (by omega)
    exact ⟨hPr _ (by have := ofN_lt z l u hu; omega), fun hi => hPr _ (by have := wtN_lt z l u i hu hi; omega)⟩
  have HVr : Hid (∀ l u, u < z l → -9223372036854775808 ≤ vN z m P x l u ∧ vN z m P x l u ≤ 9223372036854775807) := fun l u hu => vN_rng z m P x l u hXr hu
  have HVs : Hid (∀ l u, vN z m P x (l + 1) u = hidV (decide (l + 2 < m)) (clv (rr (linP z P (vN z m P x l) l u (z l)) 32)) ∧ vO z m P x l u = ovv (rr (linP z P (vN z m P x l) l u (z l)) 32)) := fun l u => ⟨rfl, rfl⟩
  have HVc : Hid (∀ l, vC z m P x (l + 1) = vC z m P x l + cntV (vO z m P x l) (z (l + 1))) := fun l => rfl
  have HVk : Hid (∀ l, l < m → 0 ≤ vC z m P x l ∧ vC z m P x l ≤ 64 * (l : Int)) := fun l hl => vC_rng z m P x l (fun i hi => (hz6 i hi).2) hl
  have HV0 : Hid (∀ i, vN z m P x 0 i = x i) := fun i => rfl
  have HX0 : Hid (Ar w vx (z 0) (vN z m P x 0) ∧ Nb vx d) := ⟨hX, nX⟩
  have HC0 : Hid (vC z m P x 0 = 0) := rfl
  have HSP : Hid (Ar w vs m (fun i => ((z i : Nat) : Int)) ∧ Ar w vp cp P ∧ Nb vs d ∧ Nb vp d) := ⟨hS, hP, nS, nP⟩
  obtain ⟨adr, cap, b, o, rfl, k1, k2, k3, k4⟩ := hS
  unfold maxLen at k2
  have ha := k3 (by omega)
  subst ha
  have hbd : b ≠ d := nS _ _ _ rfl (by omega)
  have HZ : Hid (∀ i, i < m → w.cell? ⟨b, o + i, none⟩ = some (.int .i64 ((z i : Nat) : Int)) ∧ 1 ≤ z i ∧ z i ≤ 64) := fun i hi => ⟨(k4 i hi).1, hz6 i hi⟩
  have U0 : Hid (Un d c w w) := Un.same hc hf
  have hVl : ∀ ad n ca, vx = .slice ad n ca → True := fun _ _ _ _ => trivial
  obtain ⟨adx, cax, bx, ox, hvx, hx1, hx2, hx3, hx4⟩ := hX
  clear k3 k4 hP nS nP nX hc hf hz6 hXr hPr hz hx1 hx2 hx3 hx4 hVl
  generalize vN z m P x = V at *
  generalize vO z m P x = O at *
  generalize vC z m P x = C at *
  -- the world behind the box and the first list
  obtain ⟨w1, hw1⟩ : ∃ w1, w1 = (w.alloc (.cells #[.slice (some ⟨b, o, none⟩) m cap, vp] 37)).alloc (.cells #[vx] 35) := ⟨_, rfl⟩
  have HB1 : Hid (Below w.heap.size w w1) := by rw [hw1]; exact bel2 _ _ _
  have HBx : Hid (Bx w.heap.size (.slice (some ⟨b, o, none⟩) m cap) vp w1) := by rw [hw1]; exact (Bx.new w _ _ _).later (bel1 _ _)
  have HAl : Hid (Alg w1 (w.heap.size + 1) d (.slice (some ⟨w.heap.size + 1, 0, none⟩) 1 1) 1 z V) := by
    refine ⟨[vx], ?_, fun k hk => ?_⟩
    · have h := World.ownsRow_lit (base := w.heap.size + 1) (e := 35) (size := 1) (w.alloc (.cells #[.slice (some ⟨b, o, none⟩) m cap, vp] 37)) #[vx] 1 (by simp) (by unfold maxLen; omega) rfl
      rw [hw1]
      simpa using h
    · obtain rfl : k = 0 := by omega
      have hA0 := HX0.out.1
      exact ⟨vx, rfl, hA0.later HB1.out, HX0.out.2, fun g hg => by
        cases hg
        exact hA0.spare (by dsimp only; omega)⟩
  have HU1 : Hid (Un d (c + C 0) w w1) := by show Un _ _ _ _; rw [HC0.out, Int.add_zero]; exact U0.out.ahead HB1.out
  clear HC0 U0 HV0
  go_enter Tryz.func25, Tryz.ntmps25
  subst hvx
  go_upto_region 3 with fail
  rw [← hw1]
  clear hw1 HX0
  go_loopw [7, 8] (fun s7 s8 wr => ∃ l : Nat, l + 1 ≤ m ∧ s8 = .int .i64 (l : Int) ∧ Hid (Alg wr (w.heap.size + 1) d s7 (l + 1) z V) ∧ Hid (Bx w.heap.size (.slice (some ⟨b, o, none⟩) m cap) vp wr) ∧ Hid (Un d (c + C l) w wr)) (fun _ s8 _ => m - (intOf s8).toNat)
  case atStart => exact ⟨0, by omega, rfl, HAl, HBx, HU1⟩
  case round =>
    rename World => wo
    obtain ⟨l, hl, rfl, HAl2, HBx2, HU2⟩ := hrel
    clear HAl HBx HU1 HB1
    by_cases hlt : l + 1 < m
    · have hlI : (l : Int) + 1 < (m : Int) := by omega
      have hlM : (l : Int) < (m : Int) := by omega
      have x0 := HBx2.out.c0
      have hwL : IntKind.i64.wrap ((l : Int) + 1) = (l : Int) + 1 := by rw [IntKind.wrap_i64]; omega
      have hso : w.heap.size ≤ wo.heap.size := HU2.out.s
      have hdo : d < wo.heap.size := by omega
      have hCk := HVk.out l (by omega)
      have hwd : w.heap.size ≠ d := by omega
      have HARo : Hid (Ar wo (.slice (some ⟨b, o, none⟩) m cap) m (fun i => ((z i : Nat) : Int)) ∧ Ar wo vp cp P) := ⟨HSP.out.1.un HSP.out.2.2.1 HU2.out, HSP.out.2.1.un HSP.out.2.2.2 HU2.out⟩
      obtain ⟨-, za1, za2⟩ := HZ.out l (by omega)
      obtain ⟨-, zb1, zb2⟩ := HZ.out (l + 1) hlt
      have HcA : Hid (wo.cell? ⟨b, o + l, none⟩ = some (.int .i64 ((z l : Nat) : Int)) ∧ wo.cell? ⟨b, o + (l + 1), none⟩ = some (.int .i64 ((z (l + 1) : Nat) : Int))) := ⟨HU2.out.o _ _ hbd (HZ.out l (by omega)).1, HU2.out.o _ _ hbd (HZ.out (l + 1) hlt).1⟩
      have HR : Hid (∀ u, V (l + 1) u = hidV (decide (l + 2 < m)) (clv (rr (linP z P (V l) l u (z l)) 32)) ∧ O l u = ovv (rr (linP z P (V l) l u (z l)) 32)) := fun u => HVs.out l u
      have HVr2 : Hid (∀ u, u < z (l + 1) → -9223372036854775808 ≤ V (l + 1) u ∧ V (l + 1) u ≤ 9223372036854775807) := fun u hu => HVr.out (l + 1) u hu
      have HVr1 : Hid (∀ u, u < z l → -9223372036854775808 ≤ V l u ∧ V l u ≤ 9223372036854775807) := fun u hu => HVr.out l u hu
      have HOf2 : Hid (∀ (u : Nat) (W : World), u < z (l + 1) → Ar W (.slice (some ⟨b, o, none⟩) m cap) m (fun i => ((z i : Nat) : Int)) → Ar W vp cp P → Calls Tryz.prog 16 #[.agg #[.slice (some ⟨b, o, none⟩) m cap, vp], .int .i64 (l : Int), .int .i64 (u : Int)] W fun e w' => e = .returned (.int .i64 (P (ofN z l u))) ∧ Below W.heap.size W w') := fun u W hu h1 h2 => HOf.out l u W hlt hu h1 h2
      have HWe2 : Hid (∀ (u i : Nat) (W : World), u < z (l + 1) → i < z l → Ar W (.slice (some ⟨b, o, none⟩) m cap) m (fun i => ((z i : Nat) : Int)) → Ar W vp cp P → Calls Tryz.prog 15 #[.agg #[.slice (some ⟨b, o, none⟩) m cap, vp], .int .i64 (l : Int), .int .i64 (u : Int), .int .i64 (i : Int)] W fun e w' => e = .returned (.int .i64 (P (wtN z l u i))) ∧ Below W.heap.size W w') := fun u i W hu hi h1 h2 => HWe.out l u i W hlt hu hi h1 h2
      -- the list ahead
      obtain ⟨xs, hrow, hel⟩ := id HAl2.out
      obtain ⟨g, ca, rfl⟩ := own_form hrow
      obtain ⟨va, hva1, hva2, hva3, hva4⟩ := hel l (by omega)
      have hvaC : wo.cell? ⟨g, l, none⟩ = some va := (hrow.cellAt l (by omega)).trans hva1
      obtain ⟨adv, cav, bv, ov, rfl, v1, v2, v3, v4⟩ := hva2
      have hav := v3 (by omega)
      subst hav
      unfold maxLen at v2
      have hbvd : bv ≠ d := hva3 _ _ _ rfl (by omega)
      have hgb : w.heap.size + 1 ≤ g ∧ g < wo.heap.size := hrow.lt g rfl
      have hgd : g ≠ d := by omega
      have HVa : Hid (wo.cell? ⟨g, l, none⟩ = some (.slice (some ⟨bv, ov, none⟩) (z l) cav) ∧ ∀ i, i < z l → wo.cell? ⟨bv, ov + i, none⟩ = some (.int .i64 (V l i))) := ⟨hvaC, fun i hi => (v4 i hi).1⟩
      clear hrow hel hva1 hva3 hva4 hvaC v3 v4
      go_upto_region 7 with fail
      go_loopw [9, 10] (fun s9 s10 wi => ∃ u : Nat, u ≤ z (l + 1) ∧ s10 = .int .i64 (u : Int) ∧ Hid (wi.ownsRow wo.heap.size 2 1 s9 u (il (V (l + 1)) u)) ∧ Hid (Un d (c + C l + cntV (O l) u) wo wi)) (fun _ s10 _ => z (l + 1) - (intOf s10).toNat)
      case atStart => exact ⟨0, by omega, rfl, World.ownsRow_nil _ _ _ _, by show Un d (c + C l + 0) wo wo; rw [Int.add_zero]; exact Un.same HU2.out.c HU2.out.f⟩
      case round =>
        rename World => wi
        obtain ⟨u, hu, rfl, HO, HUi⟩ := hrel
        have x1 := (HBx2.out.un HUi.out hwd).c0
        have cZ := HUi.out.o _ _ hbd HcA.out.2
        by_cases hul : u < z (l + 1)
        · have huI : (u : Int) < ((z (l + 1) : Nat) : Int) := by omega
          have x2 := (HBx2.out.un HUi.out hwd).c1
          have hcr := cnt_rng (O l) u
          have HARi : Hid (Ar wi (.slice (some ⟨b, o, none⟩) m cap) m (fun i => ((z i : Nat) : Int)) ∧ Ar wi vp cp P) := ⟨HARo.out.1.un HSP.out.2.2.1 HUi.out, HARo.out.2.un HSP.out.2.2.2 HUi.out⟩
          have HBi : Hid (Bx w.heap.size (.slice (some ⟨b, o, none⟩) m cap) vp wi) := HBx2.out.un HUi.out hwd
          obtain ⟨pr1, -⟩ := HPr.out l u 0 hlt hul
          have COf : Hid (Calls Tryz.prog 16 #[.agg #[.slice (some ⟨b, o, none⟩) m cap, vp], .int .i64 (l : Int), .int .i64 (u : Int)] wi fun e w' => e = .returned (.int .i64 (P (ofN z l u))) ∧ Below wi.heap.size wi w') := HOf2.out u wi hul HARi.out.1 HARi.out.2
          have CAd : Hid (∀ W : World, Calls Tryz.prog 46 #[.agg #[.int .u64 0, .int .u64 0, .int .u64 0, .int .u64 0, .int .u64 0, .int .u64 0, .int .u64 0, .int .u64 0, .int .u64 0, .int .u64 0, .int .u64 0, .int .u64 0], .int .i64 (P (ofN z l u)), .int .i64 1] W fun e w' => ∃ p' q', e = .returned (.agg #[.int .u64 (dg (p') 0), .int .u64 (dg (p') 1), .int .u64 (dg (p') 2), .int .u64 (dg (p') 3), .int .u64 (dg (p') 4), .int .u64 (dg (p') 5), .int .u64 (dg (q') 0), .int .u64 (dg (q') 1), .int .u64 (dg (q') 2), .int .u64 (dg (q') 3), .int .u64 (dg (q') 4), .int .u64 (dg (q') 5)]) ∧ Sm p' q' (linP z P (V l) l u 0) 39614081257132168796771975168 ∧ Below W.heap.size W w') := by
            intro W
            refine (sadd_zero (P (ofN z l u)) 1 (by omega) pr1.1 pr1.2 W).mono ?_
            rintro e w' ⟨p', q', rfl, h, hb⟩
            refine ⟨p', q', rfl, ?_, hb⟩
            have e1 : P (ofN z l u) * 2 ^ (32 * 1) = linP z P (V l) l u 0 := by unfold linP; show _ = _ * 4294967296 + 0; rw [Int.add_zero]; rfl
            have e2 : (9223372036854775808 : Int) * 2 ^ (32 * 1) = 39614081257132168796771975168 := by decide
            rw [e1, e2] at h
            exact h
          clear pr1
          generalize hPo : P (ofN z l u) = po at COf CAd
          clear hPo
          go_wp2_with fail
          refine COf.out.mono ?_
          rintro e w2 ⟨rfl, hb2⟩
          have HW2 : Hid (Below wi.heap.size wi w2) := hb2
          clear COf hb2 x1 x2 cZ
          go_wp2_with fail
          refine (CAd.out _).mono ?_
          rintro e w3 ⟨p0, q0, rfl, hSm0, hb3⟩
          have HW3 : Hid (Below wi.heap.size wi w3) := bchain HW2.out hb3
          have HSm0 : Hid (Sm p0 q0 (linP z P (V l) l u 0) (39614081257132168796771975168 + ((0 : Nat) : Int) * 85070591730234615865843651857942052864)) := sm_mono hSm0 (by omega)
          have D0 := B12.new w3 (dg p0) (dg q0) 108
          clear CAd hb3 HW2 hSm0
          go_upto_region 11 with fail
          have HB3 : Hid (Bx w.heap.size (.slice (some ⟨b, o, none⟩) m cap) vp w3) := HBi.out.later HW3.out
          have HAR3 : Hid (Ar w3 (.slice (some ⟨b, o, none⟩) m cap) m (fun i => ((z i : Nat) : Int)) ∧ Ar w3 vp cp P) := ⟨HARi.out.1.later HW3.out, HARi.out.2.later HW3.out⟩
          have Hz3 : Hid (w3.cell? ⟨b, o + l, none⟩ = some (.int .i64 ((z l : Nat) : Int))) := cell_later HW3.out (HUi.out.o _ _ hbd HcA.out.1)
          have HV3 : Hid (w3.cell? ⟨g, l, none⟩ = some (.slice (some ⟨bv, ov, none⟩) (z l) cav) ∧ ∀ i, i < z l → w3.cell? ⟨bv, ov + i, none⟩ = some (.int .i64 (V l i))) := ⟨cell_later HW3.out (HUi.out.o _ _ hgd HVa.out.1), fun i hi => cell_later HW3.out (HUi.out.o _ _ hbvd (HVa.out.2 i hi))⟩
          have HPw : Hid (∀ i, i < z l → -9223372036854775808 ≤ P (wtN z l u i) ∧ P (wtN z l u i) ≤ 9223372036854775807) := fun i hi => (HPr.out l u i hlt hul).2 hi
          have HWt3 : Hid (∀ (i : Nat) (W : World), i < z l → Below w3.heap.size w3 W → Calls Tryz.prog 15 #[.agg #[.slice (some ⟨b, o, none⟩) m cap, vp], .int .i64 (l : Int), .int .i64 (u : Int), .int .i64 (i : Int)] W fun e w' => e = .returned (.int .i64 (P (wtN z l u i))) ∧ Below W.heap.size W w') := fun i W hi hb => HWe2.out u i W hul hi (HAR3.out.1.later hb) (HAR3.out.2.later hb)
          have hs3 : wo.heap.size ≤ w3.heap.size := Nat.le_trans HUi.out.s HW3.out.size
          have D0' : B12 w3.heap.size (dg p0) (dg q0) (w3.alloc (.cells #[.int .u64 (dg p0 0), .int .u64 (dg p0 1), .int .u64 (dg p0 2), .int .u64 (dg p0 3), .int .u64 (dg p0 4), .int .u64 (dg p0 5), .int .u64 (dg q0 0), .int .u64 (dg q0 1), .int .u64 (dg q0 2), .int .u64 (dg q0 3), .int .u64 (dg q0 4), .int .u64 (dg q0 5)] 108)) := D0
          have HW4 : Hid (Below w3.heap.size w3 (w3.alloc (.cells #[.int .u64 (dg p0 0), .int .u64 (dg p0 1), .int .u64 (dg p0 2), .int .u64 (dg p0 3), .int .u64 (dg p0 4), .int .u64 (dg p0 5), .int .u64 (dg q0 0), .int .u64 (dg q0 1), .int .u64 (dg q0 2), .int .u64 (dg q0 3), .int .u64 (dg q0 4), .int .u64 (dg q0 5)] 108))) := bel1 _ _
          clear D0 HARi HBi
          generalize w3.alloc (.cells #[.int .u64 (dg p0 0), .int .u64 (dg p0 1), .int .u64 (dg p0 2), .int .u64 (dg p0 3), .int .u64 (dg p0 4), .int .u64 (dg p0 5), .int .u64 (dg q0 0), .int .u64 (dg q0 1), .int .u64 (dg q0 2), .int .u64 (dg q0 3), .int .u64 (dg q0 4), .int .u64 (dg q0 5)] 108) = w4 at *
          go_loopw [12] (fun s12 wc => ∃ (i : Nat) (p q : Int), i ≤ z l ∧ s12 = .int .i64 (i : Int) ∧ B12 w3.heap.size (dg p) (dg q) wc ∧ Hid (Sm p q (linP z P (V l) l u i) (39614081257132168796771975168 + (i : Int) * 85070591730234615865843651857942052864)) ∧ Hid (Below w3.heap.size w3 wc)) (fun s12 _ => z l - (intOf s12).toNat)
          case atStart => exact ⟨0, p0, q0, by omega, rfl, D0', HSm0, HW4⟩
          case round =>
            rename World => wr
            obtain ⟨i, p, q, hi, rfl, hD, HSm, HWr⟩ := hrel
            clear D0' HSm0 HW4
            have x1 := (HB3.out.later HWr.out).c0
            have cZ := cell_later HWr.out Hz3.out
            by_cases hil : i < z l
            · have hiI : (i : Int) < ((z l : Nat) : Int) := by omega
              have x2 := (HB3.out.later HWr.out).c1
              have cG := cell_later HWr.out HV3.out.1
              have cV := cell_later HWr.out (HV3.out.2 i hil)
              obtain ⟨pw1, pw2⟩ := HPw.out i hil
              obtain ⟨vw1, vw2⟩ := HVr1.out i hil
              have HWt : Hid (∀ W : World, Below w3.heap.size w3 W → Calls Tryz.prog 15 #[.agg #[.slice (some ⟨b, o, none⟩) m cap, vp], .int .i64 (l : Int), .int .i64 (u : Int), .int .i64 (i : Int)] W fun e w' => e = .returned (.int .i64 (P (wtN z l u i))) ∧ Below W.heap.size W w') := fun W hb => HWt3.out i W hil hb
              have CM : Hid (∀ W : World, Calls Tryz.prog 47 #[.agg #[.int .u64 (dg (p) 0), .int .u64 (dg (p) 1), .int .u64 (dg (p) 2), .int .u64 (dg (p) 3), .int .u64 (dg (p) 4), .int .u64 (dg (p) 5), .int .u64 (dg (q) 0), .int .u64 (dg (q) 1), .int .u64 (dg (q) 2), .int .u64 (dg (q) 3), .int .u64 (dg (q) 4), .int .u64 (dg (q) 5)], .int .i64 (P (wtN z l u i)), .int .i64 (V l i)] W fun e w' => ∃ p' q', e = .returned (.agg #[.int .u64 (dg (p') 0), .int .u64 (dg (p') 1), .int .u64 (dg (p') 2), .int .u64 (dg (p') 3), .int .u64 (dg (p') 4), .int .u64 (dg (p') 5), .int .u64 (dg (q') 0), .int .u64 (dg (q') 1), .int .u64 (dg (q') 2), .int .u64 (dg (q') 3), .int .u64 (dg (q') 4), .int .u64 (dg (q') 5)]) ∧ Sm p' q' (linP z P (V l) l u (i + 1)) (39614081257132168796771975168 + ((i + 1 : Nat) : Int) * 85070591730234615865843651857942052864) ∧ Below W.heap.size W w') := by
                intro W
                refine (smul_any p q _ _ (P (wtN z l u i)) (V l i) HSm.out pw1 pw2 vw1 vw2 W).mono ?_
                rintro e w' ⟨p', q', rfl, h, hb⟩
                refine ⟨p', q', rfl, ?_, hb⟩
                rw [linP_succ]
                exact sm_mono h (by omega)
              have hll : (l : Int) < (l : Int) + 1 := by omega
              have n1 : w.heap.size ≠ w3.heap.size := by have := hgb; omega
              have n2 : g ≠ w3.heap.size := by have := hgb; omega
              have n3 : bv ≠ w3.heap.size := by have := World.block_lt_of_cell? _ _ (HV3.out.2 i hil); dsimp only at this; omega
              clear HSm pw1 pw2 vw1 vw2
              go_upto_region 13 with fail
              generalize P (wtN z l u i) = pw at *
              generalize V l i = ve at *
              have hbD : Below wr.heap.size wr wr.drew := (Below.refl _ _).drew
              have D4 := hD.later hbD
              clear hD cZ
              refine wp_region_held_drew (S := fun W' => W'.cell? ⟨w.heap.size, 0, none⟩ = some (.slice (some ⟨b, o, none⟩) m cap) ∧ W'.cell? ⟨w.heap.size, 1, none⟩ = some vp ∧ W'.cell? ⟨g, l, none⟩ = some (.slice (some ⟨bv, ov, none⟩) (z l) cav) ∧ W'.cell? ⟨bv, ov + i, none⟩ = some (.int .i64 ve)) (by kernel_rfl) ⟨x1, x2, cG, cV⟩ (fun HS => ?_)
              generalize wr.drew = wD at *
              clear x1 x2 cG cV
              have x0 : wD.cell? ⟨w3.heap.size, 0, none⟩ = some (.int .u64 (dg p 0)) := D4.c 0 (by omega); have x1 : wD.cell? ⟨w3.heap.size, 1, none⟩ = some (.int .u64 (dg p 1)) := D4.c 1 (by omega); have x2 : wD.cell? ⟨w3.heap.size, 2, none⟩ = some (.int .u64 (dg p 2)) := D4.c 2 (by omega); have x3 : wD.cell? ⟨w3.heap.size, 3, none⟩ = some (.int .u64 (dg p 3)) := D4.c 3 (by omega); have x4 : wD.cell? ⟨w3.heap.size, 4, none⟩ = some (.int .u64 (dg p 4)) := D4.c 4 (by omega); have x5 : wD.cell? ⟨w3.heap.size, 5, none⟩ = some (.int .u64 (dg p 5)) := D4.c 5 (by omega); have x6 : wD.cell? ⟨w3.heap.size, 6, none⟩ = some (.int .u64 (dg q 0)) := D4.d 0 (by omega); have x7 : wD.cell? ⟨w3.heap.size, 7, none⟩ = some (.int .u64 (dg q 1)) := D4.d 1 (by omega); have x8 : wD.cell? ⟨w3.heap.size, 8, none⟩ = some (.int .u64 (dg q 2)) := D4.d 2 (by omega); have x9 : wD.cell? ⟨w3.heap.size, 9, none⟩ = some (.int .u64 (dg q 3)) := D4.d 3 (by omega); have x10 : wD.cell? ⟨w3.heap.size, 10, none⟩ = some (.int .u64 (dg q 4)) := D4.d 4 (by omega); have x11 : wD.cell? ⟨w3.heap.size, 11, none⟩ = some (.int .u64 (dg q 5)) := D4.d 5 (by omega); have xf0 : wD.frozen? ⟨w3.heap.size, 0, none⟩ = false := D4.f 0 (by omega); have xf1 : wD.frozen? ⟨w3.heap.size, 1, none⟩ = false := D4.f 1 (by omega); have xf2 : wD.frozen? ⟨w3.heap.size, 2, none⟩ = false := D4.f 2 (by omega); have xf3 : wD.frozen? ⟨w3.heap.size, 3, none⟩ = false := D4.f 3 (by omega); have xf4 : wD.frozen? ⟨w3.heap.size, 4, none⟩ = false := D4.f 4 (by omega); have xf5 : wD.frozen? ⟨w3.heap.size, 5, none⟩ = false := D4.f 5 (by omega); have xf6 : wD.frozen? ⟨w3.heap.size, 6, none⟩ = false := D4.g 0 (by omega); have xf7 : wD.frozen? ⟨w3.heap.size, 7, none⟩ = false := D4.g 1 (by omega); have xf8 : wD.frozen? ⟨w3.heap.size, 8, none⟩ = false := D4.g 2 (by omega); have xf9 : wD.frozen? ⟨w3.heap.size, 9, none⟩ = false := D4.g 3 (by omega); have xf10 : wD.frozen? ⟨w3.heap.size, 10, none⟩ = false := D4.g 4 (by omega); have xf11 : wD.frozen? ⟨w3.heap.size, 11, none⟩ = false := D4.g 5 (by omega)
              refine wpAnyH_take (i := 1) (v := ?v1) rfl (by kernel_rfl) (by kernel_rfl) (by kernel_rfl) (fun _ _ _ h => h) (Or.inl ⟨by kernel_rfl, ?h1⟩) HS ?r1
              case h1 => (rintro w ⟨s1, s2, s3, s4⟩; go_simp) <;> with_reducible rfl
              try simp only [Act.put, List.setIfInBounds_toArray, List.set_cons_zero, List.set_cons_succ]
              refine wpAnyH_take (i := 2) (v := ?v2) rfl (by kernel_rfl) (by kernel_rfl) (by kernel_rfl) (fun _ _ _ h => h) (Or.inl ⟨by kernel_rfl, ?h2⟩) HS ?r2
              case h2 => (rintro w ⟨s1, s2, s3, s4⟩; go_simp) <;> with_reducible rfl
              try simp only [Act.put, List.setIfInBounds_toArray, List.set_cons_zero, List.set_cons_succ]
              refine wpAnyH_take (i := 3) (v := ?v3) rfl (by kernel_rfl) (by kernel_rfl) (by kernel_rfl) (fun _ _ _ h => h) (Or.inl ⟨by kernel_rfl, ?h3⟩) HS ?r3
              case h3 => (rintro w ⟨s1, s2, s3, s4⟩; go_simp) <;> with_reducible rfl
              try simp only [Act.put, List.setIfInBounds_toArray, List.set_cons_zero, List.set_cons_succ]
              refine wpAnyH_take (i := 4) (v := ?v4) rfl (by kernel_rfl) (by kernel_rfl) (by kernel_rfl) (fun _ _ _ h => h) (Or.inl ⟨by kernel_rfl, ?h4⟩) HS ?r4
              case h4 => (rintro w ⟨s1, s2, s3, s4⟩; go_simp) <;> with_reducible rfl
              try simp only [Act.put, List.setIfInBounds_toArray, List.set_cons_zero, List.set_cons_succ]
              refine wpAnyH_take (i := 6) (v := ?v5) rfl (by kernel_rfl) (by kernel_rfl) (by kernel_rfl) (fun _ _ _ h => h) (Or.inl ⟨by kernel_rfl, ?h5⟩) HS ?r5
              case h5 => (rintro w ⟨s1, s2, s3, s4⟩; go_simp) <;> with_reducible rfl
              try simp only [Act.put, List.setIfInBounds_toArray, List.set_cons_zero, List.set_cons_succ]
              refine wpAnyH_take (i := 7) (v := ?v6) rfl (by kernel_rfl) (by kernel_rfl) (by kernel_rfl) (fun _ _ _ h => h) (Or.inl ⟨by kernel_rfl, ?h6⟩) HS ?r6
              case h6 => (rintro w ⟨s1, s2, s3, s4⟩; go_simp) <;> with_reducible rfl
              try simp only [Act.put, List.setIfInBounds_toArray, List.set_cons_zero, List.set_cons_succ]
              refine wpAnyH_take (i := 8) (v := ?v7) rfl (by kernel_rfl) (by kernel_rfl) (by kernel_rfl) (fun _ _ _ h => h) (Or.inl ⟨by kernel_rfl, ?h7⟩) HS ?r7
              case h7 => (rintro w ⟨s1, s2, s3, s4⟩; go_simp) <;> with_reducible rfl
              try simp only [Act.put, List.setIfInBounds_toArray, List.set_cons_zero, List.set_cons_succ]
              refine wpAnyH_take (i := 9) (v := ?v8) rfl (by kernel_rfl) (by kernel_rfl) (by kernel_rfl) (fun _ _ _ h => h) (Or.inl ⟨by kernel_rfl, ?h8⟩) HS ?r8
              case h8 => (rintro w ⟨s1, s2, s3, s4⟩; go_simp) <;> with_reducible rfl
              try simp only [Act.put, List.setIfInBounds_toArray, List.set_cons_zero, List.set_cons_succ]
              refine wpAnyH_take (i := 10) (v := ?v9) rfl (by kernel_rfl) (by kernel_rfl) (by kernel_rfl) (fun _ _ _ h => h) (Or.inl ⟨by kernel_rfl, ?h9⟩) HS ?r9
              case h9 => (rintro w ⟨s1, s2, s3, s4⟩; go_simp) <;> with_reducible rfl
              try simp only [Act.put, List.setIfInBounds_toArray, List.set_cons_zero, List.set_cons_succ]
              refine wpAnyH_take (i := 11) (v := ?v10) rfl (by kernel_rfl) (by kernel_rfl) (by kernel_rfl) (fun _ _ _ h => h) (Or.inl ⟨by kernel_rfl, ?h10⟩) HS ?r10
              case h10 => (rintro w ⟨s1, s2, s3, s4⟩; go_simp) <;> with_reducible rfl
              try simp only [Act.put, List.setIfInBounds_toArray, List.set_cons_zero, List.set_cons_succ]
              refine wpAnyH_take (i := 12) (v := ?v11) rfl (by kernel_rfl) (by kernel_rfl) (by kernel_rfl) (fun _ _ _ h => h) (Or.inl ⟨by kernel_rfl, ?h11⟩) HS ?r11
              case h11 => (rintro w ⟨s1, s2, s3, s4⟩; go_simp) <;> with_reducible rfl
              try simp only [Act.put, List.setIfInBounds_toArray, List.set_cons_zero, List.set_cons_succ]
              refine wpAnyH_ready (rs := [0, 5]) (by kernel_rfl) (by simp) ?_
              refine AllReadyH.cons rfl (fun K hK => ?_) (AllReadyH.cons rfl (fun K hK => ?_) AllReadyH.nil)
              · go_simp
                refine hK.out _ _ HS (fun HS => ?_)
                clear hK K
                refine wpAnyH_ready (rs := [5]) (by kernel_rfl) (by simp) ?_
                refine AllReadyH.cons rfl (fun K hK => ?_) AllReadyH.nil
                go_simp
                refine (HWt.out _ (bchain HWr.out hbD)).mono ?_
                rintro e w5 ⟨rfl, hb5⟩
                have HS5 := HS
                refine hK.out _ _ ⟨cell_later hb5 HS5.1, cell_later hb5 HS5.2.1, cell_later hb5 HS5.2.2.1, cell_later hb5 HS5.2.2.2⟩ (fun HS => ?_)
                clear hK K
                have HW5 : Hid (Below w3.heap.size w3 w5) := bchain (bchain HWr.out hbD) hb5
                have D5' := D4.later hb5
                refine wpAnyH_ready (rs := [13]) (by kernel_rfl) (by simp) ?_
                refine AllReadyH.cons rfl (fun K hK => ?_) AllReadyH.nil
                go_simp
                refine (CM.out _).mono ?_
                rintro e w6 ⟨p', q', rfl, hSm, hb6⟩
                have HS6 := HS
                refine hK.out _ _ ⟨cell_later hb6 HS6.1, cell_later hb6 HS6.2.1, cell_later hb6 HS6.2.2.1, cell_later hb6 HS6.2.2.2⟩ (fun HS => ?_)
                clear hK K
                have D6 := D5'.later hb6
                clear x0 x1 x2 x3 x4 x5 x6 x7 x8 x9 x10 x11 xf0 xf1 xf2 xf3 xf4 xf5 xf6 xf7 xf8 xf9 xf10 xf11
                have x0 : w6.cell? ⟨w3.heap.size, 0, none⟩ = some (.int .u64 (dg p 0)) := D6.c 0 (by omega); have x1 : w6.cell? ⟨w3.heap.size, 1, none⟩ = some (.int .u64 (dg p 1)) := D6.c 1 (by omega); have x2 : w6.cell? ⟨w3.heap.size, 2, none⟩ = some (.int .u64 (dg p 2)) := D6.c 2 (by omega); have x3 : w6.cell? ⟨w3.heap.size, 3, none⟩ = some (.int .u64 (dg p 3)) := D6.c 3 (by omega); have x4 : w6.cell? ⟨w3.heap.size, 4, none⟩ = some (.int .u64 (dg p 4)) := D6.c 4 (by omega); have x5 : w6.cell? ⟨w3.heap.size, 5, none⟩ = some (.int .u64 (dg p 5)) := D6.c 5 (by omega); have x6 : w6.cell? ⟨w3.heap.size, 6, none⟩ = some (.int .u64 (dg q 0)) := D6.d 0 (by omega); have x7 : w6.cell? ⟨w3.heap.size, 7, none⟩ = some (.int .u64 (dg q 1)) := D6.d 1 (by omega); have x8 : w6.cell? ⟨w3.heap.size, 8, none⟩ = some (.int .u64 (dg q 2)) := D6.d 2 (by omega); have x9 : w6.cell? ⟨w3.heap.size, 9, none⟩ = some (.int .u64 (dg q 3)) := D6.d 3 (by omega); have x10 : w6.cell? ⟨w3.heap.size, 10, none⟩ = some (.int .u64 (dg q 4)) := D6.d 4 (by omega); have x11 : w6.cell? ⟨w3.heap.size, 11, none⟩ = some (.int .u64 (dg q 5)) := D6.d 5 (by omega); have xf0 : w6.frozen? ⟨w3.heap.size, 0, none⟩ = false := D6.f 0 (by omega); have xf1 : w6.frozen? ⟨w3.heap.size, 1, none⟩ = false := D6.f 1 (by omega); have xf2 : w6.frozen? ⟨w3.heap.size, 2, none⟩ = false := D6.f 2 (by omega); have xf3 : w6.frozen? ⟨w3.heap.size, 3, none⟩ = false := D6.f 3 (by omega); have xf4 : w6.frozen? ⟨w3.heap.size, 4, none⟩ = false := D6.f 4 (by omega); have xf5 : w6.frozen? ⟨w3.heap.size, 5, none⟩ = false := D6.f 5 (by omega); have xf6 : w6.frozen? ⟨w3.heap.size, 6, none⟩ = false := D6.g 0 (by omega); have xf7 : w6.frozen? ⟨w3.heap.size, 7, none⟩ = false := D6.g 1 (by omega); have xf8 : w6.frozen? ⟨w3.heap.size, 8, none⟩ = false := D6.g 2 (by omega); have xf9 : w6.frozen? ⟨w3.heap.size, 9, none⟩ = false := D6.g 3 (by omega); have xf10 : w6.frozen? ⟨w3.heap.size, 10, none⟩ = false := D6.g 4 (by omega); have xf11 : w6.frozen? ⟨w3.heap.size, 11, none⟩ = false := D6.g 5 (by omega)
                refine wpAnyH_ready (rs := [14]) (by kernel_rfl) (by simp) ?_
                refine AllReadyH.cons rfl (fun K hK => ?_) AllReadyH.nil
                go_simp
                refine hK.out _ _ ⟨cell_set12 (by omega) HS.1, cell_set12 (by omega) HS.2.1, cell_set12 (by omega) HS.2.2.1, cell_set12 (by omega) HS.2.2.2⟩ (fun HS => ?_)
                clear hK K
                refine wpAnyH_done (by kernel_rfl) ?_ _
                have D5 := (D6.allP (dg p')).allN (dg q')
                have W5 : Hid (Below w3.heap.size w3 _) := bel6N (bel6 (bchain HW5.out hb6) (Nat.le_refl _) (dg p')) (Nat.le_refl _) (dg q')
                have HSm2 : Hid (Sm p' q' (linP z P (V l) l u (i + 1)) (39614081257132168796771975168 + ((i + 1 : Nat) : Int) * 85070591730234615865843651857942052864)) := hSm
                clear HS hSm CM D6
                clear x0 x1 x2 x3 x4 x5 x6 x7 x8 x9 x10 x11 xf0 xf1 xf2 xf3 xf4 xf5 xf6 xf7 xf8 xf9 xf10 xf11
                go_wp2
                go_roundw
                case rel => exact ⟨i + 1, p', q', by omega, by go_num, D5, HSm2, W5⟩
                case measure => simp [intOf]; omega
              · go_simp
                refine (HWt.out _ (bchain HWr.out hbD)).mono ?_
                rintro e w5 ⟨rfl, hb5⟩
                have HS5 := HS
                refine hK.out _ _ ⟨cell_later hb5 HS5.1, cell_later hb5 HS5.2.1, cell_later hb5 HS5.2.2.1, cell_later hb5 HS5.2.2.2⟩ (fun HS => ?_)
                clear hK K
                have HW5 : Hid (Below w3.heap.size w3 w5) := bchain (bchain HWr.out hbD) hb5
                have D5' := D4.later hb5
                clear x0 x1 x2 x3 x4 x5 x6 x7 x8 x9 x10 x11 xf0 xf1 xf2 xf3 xf4 xf5 xf6 xf7 xf8 xf9 xf10 xf11
                have x0 : w5.cell? ⟨w3.heap.size, 0, none⟩ = some (.int .u64 (dg p 0)) := D5'.c 0 (by omega); have x1 : w5.cell? ⟨w3.heap.size, 1, none⟩ = some (.int .u64 (dg p 1)) := D5'.c 1 (by omega); have x2 : w5.cell? ⟨w3.heap.size, 2, none⟩ = some (.int .u64 (dg p 2)) := D5'.c 2 (by omega); have x3 : w5.cell? ⟨w3.heap.size, 3, none⟩ = some (.int .u64 (dg p 3)) := D5'.c 3 (by omega); have x4 : w5.cell? ⟨w3.heap.size, 4, none⟩ = some (.int .u64 (dg p 4)) := D5'.c 4 (by omega); have x5 : w5.cell? ⟨w3.heap.size, 5, none⟩ = some (.int .u64 (dg p 5)) := D5'.c 5 (by omega); have x6 : w5.cell? ⟨w3.heap.size, 6, none⟩ = some (.int .u64 (dg q 0)) := D5'.d 0 (by omega); have x7 : w5.cell? ⟨w3.heap.size, 7, none⟩ = some (.int .u64 (dg q 1)) := D5'.d 1 (by omega); have x8 : w5.cell? ⟨w3.heap.size, 8, none⟩ = some (.int .u64 (dg q 2)) := D5'.d 2 (by omega); have x9 : w5.cell? ⟨w3.heap.size, 9, none⟩ = some (.int .u64 (dg q 3)) := D5'.d 3 (by omega); have x10 : w5.cell? ⟨w3.heap.size, 10, none⟩ = some (.int .u64 (dg q 4)) := D5'.d 4 (by omega); have x11 : w5.cell? ⟨w3.heap.size, 11, none⟩ = some (.int .u64 (dg q 5)) := D5'.d 5 (by omega); have xf0 : w5.frozen? ⟨w3.heap.size, 0, none⟩ = false := D5'.f 0 (by omega); have xf1 : w5.frozen? ⟨w3.heap.size, 1, none⟩ = false := D5'.f 1 (by omega); have xf2 : w5.frozen? ⟨w3.heap.size, 2, none⟩ = false := D5'.f 2 (by omega); have xf3 : w5.frozen? ⟨w3.heap.size, 3, none⟩ = false := D5'.f 3 (by omega); have xf4 : w5.frozen? ⟨w3.heap.size, 4, none⟩ = false := D5'.f 4 (by omega); have xf5 : w5.frozen? ⟨w3.heap.size, 5, none⟩ = false := D5'.f 5 (by omega); have xf6 : w5.frozen? ⟨w3.heap.size, 6, none⟩ = false := D5'.g 0 (by omega); have xf7 : w5.frozen? ⟨w3.heap.size, 7, none⟩ = false := D5'.g 1 (by omega); have xf8 : w5.frozen? ⟨w3.heap.size, 8, none⟩ = false := D5'.g 2 (by omega); have xf9 : w5.frozen? ⟨w3.heap.size, 9, none⟩ = false := D5'.g 3 (by omega); have xf10 : w5.frozen? ⟨w3.heap.size, 10, none⟩ = false := D5'.g 4 (by omega); have xf11 : w5.frozen? ⟨w3.heap.size, 11, none⟩ = false := D5'.g 5 (by omega)
                refine wpAnyH_ready (rs := [0]) (by kernel_rfl) (by simp) ?_
                refine AllReadyH.cons rfl (fun K hK => ?_) AllReadyH.nil
                go_simp
                refine hK.out _ _ HS (fun HS => ?_)
                clear hK K
                refine wpAnyH_ready (rs := [13]) (by kernel_rfl) (by simp) ?_
                refine AllReadyH.cons rfl (fun K hK => ?_) AllReadyH.nil
                go_simp
                refine (CM.out _).mono ?_
                rintro e w6 ⟨p', q', rfl, hSm, hb6⟩
                have HS6 := HS
                refine hK.out _ _ ⟨cell_later hb6 HS6.1, cell_later hb6 HS6.2.1, cell_later hb6 HS6.2.2.1, cell_later hb6 HS6.2.2.2⟩ (fun HS => ?_)
                clear hK K
                have D6 := D5'.later hb6
                clear x0 x1 x2 x3 x4 x5 x6 x7 x8 x9 x10 x11 xf0 xf1 xf2 xf3 xf4 xf5 xf6 xf7 xf8 xf9 xf10 xf11
                have x0 : w6.cell? ⟨w3.heap.size, 0, none⟩ = some (.int .u64 (dg p 0)) := D6.c 0 (by omega); have x1 : w6.cell? ⟨w3.heap.size, 1, none⟩ = some (.int .u64 (dg p 1)) := D6.c 1 (by omega); have x2 : w6.cell? ⟨w3.heap.size, 2, none⟩ = some (.int .u64 (dg p 2)) := D6.c 2 (by omega); have x3 : w6.cell? ⟨w3.heap.size, 3, none⟩ = some (.int .u64 (dg p 3)) := D6.c 3 (by omega); have x4 : w6.cell? ⟨w3.heap.size, 4, none⟩ = some (.int .u64 (dg p 4)) := D6.c 4 (by omega); have x5 : w6.cell? ⟨w3.heap.size, 5, none⟩ = some (.int .u64 (dg p 5)) := D6.c 5 (by omega); have x6 : w6.cell? ⟨w3.heap.size, 6, none⟩ = some (.int .u64 (dg q 0)) := D6.d 0 (by omega); have x7 : w6.cell? ⟨w3.heap.size, 7, none⟩ = some (.int .u64 (dg q 1)) := D6.d 1 (by omega); have x8 : w6.cell? ⟨w3.heap.size, 8, none⟩ = some (.int .u64 (dg q 2)) := D6.d 2 (by omega); have x9 : w6.cell? ⟨w3.heap.size, 9, none⟩ = some (.int .u64 (dg q 3)) := D6.d 3 (by omega); have x10 : w6.cell? ⟨w3.heap.size, 10, none⟩ = some (.int .u64 (dg q 4)) := D6.d 4 (by omega); have x11 : w6.cell? ⟨w3.heap.size, 11, none⟩ = some (.int .u64 (dg q 5)) := D6.d 5 (by omega); have xf0 : w6.frozen? ⟨w3.heap.size, 0, none⟩ = false := D6.f 0 (by omega); have xf1 : w6.frozen? ⟨w3.heap.size, 1, none⟩ = false := D6.f 1 (by omega); have xf2 : w6.frozen? ⟨w3.heap.size, 2, none⟩ = false := D6.f 2 (by omega); have xf3 : w6.frozen? ⟨w3.heap.size, 3, none⟩ = false := D6.f 3 (by omega); have xf4 : w6.frozen? ⟨w3.heap.size, 4, none⟩ = false := D6.f 4 (by omega); have xf5 : w6.frozen? ⟨w3.heap.size, 5, none⟩ = false := D6.f 5 (by omega); have xf6 : w6.frozen? ⟨w3.heap.size, 6, none⟩ = false := D6.g 0 (by omega); have xf7 : w6.frozen? ⟨w3.heap.size, 7, none⟩ = false := D6.g 1 (by omega); have xf8 : w6.frozen? ⟨w3.heap.size, 8, none⟩ = false := D6.g 2 (by omega); have xf9 : w6.frozen? ⟨w3.heap.size, 9, none⟩ = false := D6.g 3 (by omega); have xf10 : w6.frozen? ⟨w3.heap.size, 10, none⟩ = false := D6.g 4 (by omega); have xf11 : w6.frozen? ⟨w3.heap.size, 11, none⟩ = false := D6.g 5 (by omega)
                refine wpAnyH_ready (rs := [14]) (by kernel_rfl) (by simp) ?_
                refine AllReadyH.cons rfl (fun K hK => ?_) AllReadyH.nil
                go_simp
                refine hK.out _ _ ⟨cell_set12 (by omega) HS.1, cell_set12 (by omega) HS.2.1, cell_set12 (by omega) HS.2.2.1, cell_set12 (by omega) HS.2.2.2⟩ (fun HS => ?_)
                clear hK K
                refine wpAnyH_done (by kernel_rfl) ?_ _
                have D5 := (D6.allP (dg p')).allN (dg q')
                have W5 : Hid (Below w3.heap.size w3 _) := bel6N (bel6 (bchain HW5.out hb6) (Nat.le_refl _) (dg p')) (Nat.le_refl _) (dg q')
                have HSm2 : Hid (Sm p' q' (linP z P (V l) l u (i + 1)) (39614081257132168796771975168 + ((i + 1 : Nat) : Int) * 85070591730234615865843651857942052864)) := hSm
                clear HS hSm CM D6
                clear x0 x1 x2 x3 x4 x5 x6 x7 x8 x9 x10 x11 xf0 xf1 xf2 xf3 xf4 xf5 xf6 xf7 xf8 xf9 xf10 xf11
                go_wp2
                go_roundw
                case rel => exact ⟨i + 1, p', q', by omega, by go_num, D5, HSm2, W5⟩
                case measure => simp [intOf]; omega
            · obtain rfl : i = z l := by omega
              have hiI : ¬ ((z l : Nat) : Int) < ((z l : Nat) : Int) := by omega
              obtain ⟨RX, hRX⟩ : ∃ r : Int, clv (rr (linP z P (V l) l u (z l)) 32) = r := ⟨_, rfl⟩
              have CE : Hid (∀ W : World, Calls Tryz.prog 48 #[.agg #[.int .u64 (dg (p) 0), .int .u64 (dg (p) 1), .int .u64 (dg (p) 2), .int .u64 (dg (p) 3), .int .u64 (dg (p) 4), .int .u64 (dg (p) 5), .int .u64 (dg (q) 0), .int .u64 (dg (q) 1), .int .u64 (dg (q) 2), .int .u64 (dg (q) 3), .int .u64 (dg (q) 4), .int .u64 (dg (q) 5)], .int .i64 32] W fun e w' => e = .returned (.tuple #[.int .i64 RX, .bool (O l u)]) ∧ Below W.heap.size W w') := by
                intro W
                rw [← hRX, (HR.out u).2]
                exact sround_of p q _ _ 32 (by omega) HSm.out (by omega) W
              have HVe : Hid (V (l + 1) u = hidV (decide (l + 2 < m)) RX) := by show _ = _; rw [(HR.out u).1, hRX]
              clear HSm hRX
              have x0 : wr.cell? ⟨w3.heap.size, 0, none⟩ = some (.int .u64 (dg p 0)) := hD.c 0 (by omega); have x1 : wr.cell? ⟨w3.heap.size, 1, none⟩ = some (.int .u64 (dg p 1)) := hD.c 1 (by omega); have x2 : wr.cell? ⟨w3.heap.size, 2, none⟩ = some (.int .u64 (dg p 2)) := hD.c 2 (by omega); have x3 : wr.cell? ⟨w3.heap.size, 3, none⟩ = some (.int .u64 (dg p 3)) := hD.c 3 (by omega); have x4 : wr.cell? ⟨w3.heap.size, 4, none⟩ = some (.int .u64 (dg p 4)) := hD.c 4 (by omega); have x5 : wr.cell? ⟨w3.heap.size, 5, none⟩ = some (.int .u64 (dg p 5)) := hD.c 5 (by omega); have x6 : wr.cell? ⟨w3.heap.size, 6, none⟩ = some (.int .u64 (dg q 0)) := hD.d 0 (by omega); have x7 : wr.cell? ⟨w3.heap.size, 7, none⟩ = some (.int .u64 (dg q 1)) := hD.d 1 (by omega); have x8 : wr.cell? ⟨w3.heap.size, 8, none⟩ = some (.int .u64 (dg q 2)) := hD.d 2 (by omega); have x9 : wr.cell? ⟨w3.heap.size, 9, none⟩ = some (.int .u64 (dg q 3)) := hD.d 3 (by omega); have x10 : wr.cell? ⟨w3.heap.size, 10, none⟩ = some (.int .u64 (dg q 4)) := hD.d 4 (by omega); have x11 : wr.cell? ⟨w3.heap.size, 11, none⟩ = some (.int .u64 (dg q 5)) := hD.d 5 (by omega); have xf0 : wr.frozen? ⟨w3.heap.size, 0, none⟩ = false := hD.f 0 (by omega); have xf1 : wr.frozen? ⟨w3.heap.size, 1, none⟩ = false := hD.f 1 (by omega); have xf2 : wr.frozen? ⟨w3.heap.size, 2, none⟩ = false := hD.f 2 (by omega); have xf3 : wr.frozen? ⟨w3.heap.size, 3, none⟩ = false := hD.f 3 (by omega); have xf4 : wr.frozen? ⟨w3.heap.size, 4, none⟩ = false := hD.f 4 (by omega); have xf5 : wr.frozen? ⟨w3.heap.size, 5, none⟩ = false := hD.f 5 (by omega); have xf6 : wr.frozen? ⟨w3.heap.size, 6, none⟩ = false := hD.g 0 (by omega); have xf7 : wr.frozen? ⟨w3.heap.size, 7, none⟩ = false := hD.g 1 (by omega); have xf8 : wr.frozen? ⟨w3.heap.size, 8, none⟩ = false := hD.g 2 (by omega); have xf9 : wr.frozen? ⟨w3.heap.size, 9, none⟩ = false := hD.g 3 (by omega); have xf10 : wr.frozen? ⟨w3.heap.size, 10, none⟩ = false := hD.g 4 (by omega); have xf11 : wr.frozen? ⟨w3.heap.size, 11, none⟩ = false := hD.g 5 (by omega)
              go_wp2_with fail
              refine (CE.out _).mono ?_
              rintro e w6 ⟨rfl, hb6⟩
              clear x0 x1 x2 x3 x4 x5 x6 x7 x8 x9 x10 x11 xf0 xf1 xf2 xf3 xf4 xf5 xf6 xf7 xf8 xf9 xf10 xf11
              have HW6 : Hid (Below wi.heap.size wi w6) := bchain (bchain HW3.out HWr.out) hb6
              clear hD hb6 CE x1 cZ HWr
              have HU6 : Hid (Un d (c + C l + cntV (O l) u) wo w6) := HUi.out.ahead HW6.out
              have ct := HU6.out.c
              have ft := HU6.out.f
              go_wp2_with fail
              refine (utake_any d (c + C l + cntV (O l) u) RX (O l u) (by omega) (by omega) _ ct ft).mono ?_
              rintro e w7 ⟨rfl, hU7⟩
              have HU7 : Hid (Un d (c + C l + cntV (O l) (u + 1)) wo w7) := by
                have e : c + C l + cntV (O l) (u + 1) = c + C l + cntV (O l) u + bi (O l u) := by show c + C l + (cntV (O l) u + bi (O l u)) = _; omega
                show Un _ _ _ _
                rw [e]
                exact HU6.out.chain hU7
              have HO7 : Hid (w7.ownsRow wo.heap.size 2 1 u9 u (il (V (l + 1)) u)) := own_un (own_later HO.out HW6.out) hU7 hdo
              have x1 := (((HBx2.out.un HUi.out hwd).later HW6.out).un hU7 hwd).c0
              have hsz : wo.heap.size ≤ w7.heap.size := HU7.out.s
              clear ct ft hU7 HU6
              have hw2 : IntKind.i64.wrap ((l : Int) + 2) = (l : Int) + 2 := by rw [IntKind.wrap_i64]; omega
              by_cases hneg : RX < 0
              · by_cases hid : l + 2 < m
                · have hidI : (l : Int) + 2 < (m : Int) := by omega
                  have HVl : Hid (V (l + 1) u = 0) := by show _ = _; rw [HVe.out, decide_eq_true hid, hidV_hid _ hneg]
                  clear HVe
                  have hown7 := HO7.out
                  go_wp2_with (at_builtin; refine wpList_append_own _ rfl _ _ 35 rfl wo.heap.size 2 i0 (.int .i64 0) 1 8 Tryz.underlying35 hti hy0 hy1 hy2 rfl (by decide) _ _ _ rfl (hown7.alloc _) ⟨w7.heap.size, 0, none⟩ 1 1 [.int .i64 (0)] rfl rfl (cell_one_new _ _ _) (ints_oneCell .i64 [0]) (by unfold maxLen; omega) (by omega) (by simp; omega) ?_; intro v' w8 hown' hgrow hnil)
                  have HO8 : Hid (w8.ownsRow wo.heap.size 2 1 v' (u + 1) (il (V (l + 1)) (u + 1))) := by show World.ownsRow _ _ _ _ _ _ _; rw [il_succ, HVl.out]; exact hown'
                  have HU8 : Hid (Un d (c + C l + cntV (O l) (u + 1)) wo w8) := HU7.out.grow hdo hgrow (fun k hk => (hown7.lt k hk).1)
                  clear hown' hgrow hnil hown7 HU7 HO7 x1
                  go_wp2
                  go_roundw
                  case rel => exact ⟨u + 1, by omega, by go_num, HO8, HU8⟩
                  case measure => simp [intOf]; omega
                · have hidI : ¬ (l : Int) + 2 < (m : Int) := by omega
                  have HVl : Hid (V (l + 1) u = RX) := by show _ = _; rw [HVe.out, decide_eq_false hid, hidV_out]
                  clear HVe
                  have hown7 := HO7.out
                  go_wp2_with (at_builtin; refine wpList_append_own _ rfl _ _ 35 rfl wo.heap.size 2 i0 (.int .i64 0) 1 8 Tryz.underlying35 hti hy0 hy1 hy2 rfl (by decide) _ _ _ rfl (hown7.alloc _) ⟨w7.heap.size, 0, none⟩ 1 1 [.int .i64 (RX)] rfl rfl (cell_one_new _ _ _) (ints_oneCell .i64 [RX]) (by unfold maxLen; omega) (by omega) (by simp; omega) ?_; intro v' w8 hown' hgrow hnil)
                  have HO8 : Hid (w8.ownsRow wo.heap.size 2 1 v' (u + 1) (il (V (l + 1)) (u + 1))) := by show World.ownsRow _ _ _ _ _ _ _; rw [il_succ, HVl.out]; exact hown'
                  have HU8 : Hid (Un d (c + C l + cntV (O l) (u + 1)) wo w8) := HU7.out.grow hdo hgrow (fun k hk => (hown7.lt k hk).1)
                  clear hown' hgrow hnil hown7 HU7 HO7 x1
                  go_wp2
                  go_roundw
                  case rel => exact ⟨u + 1, by omega, by go_num, HO8, HU8⟩
                  case measure => simp [intOf]; omega
              · have HVl : Hid (V (l + 1) u = RX) := by show _ = _; rw [HVe.out, hidV_pos _ _ hneg]
                clear HVe
                have hown7 := HO7.out
                go_wp2_with (at_builtin; refine wpList_append_own _ rfl _ _ 35 rfl wo.heap.size 2 i0 (.int .i64 0) 1 8 Tryz.underlying35 hti hy0 hy1 hy2 rfl (by decide) _ _ _ rfl (hown7.alloc _) ⟨w7.heap.size, 0, none⟩ 1 1 [.int .i64 (RX)] rfl rfl (cell_one_new _ _ _) (ints_oneCell .i64 [RX]) (by unfold maxLen; omega) (by omega) (by simp; omega) ?_; intro v' w8 hown' hgrow hnil)
                have HO8 : Hid (w8.ownsRow wo.heap.size 2 1 v' (u + 1) (il (V (l + 1)) (u + 1))) := by show World.ownsRow _ _ _ _ _ _ _; rw [il_succ, HVl.out]; exact hown'
                have HU8 : Hid (Un d (c + C l + cntV (O l) (u + 1)) wo w8) := HU7.out.grow hdo hgrow (fun k hk => (hown7.lt k hk).1)
                clear hown' hgrow hnil hown7 HU7 HO7 x1
                go_wp2
                go_roundw
                case rel => exact ⟨u + 1, by omega, by go_num, HO8, HU8⟩
                case measure => simp [intOf]; omega
        · obtain rfl : u = z (l + 1) := by omega
          have huI : ¬ ((z (l + 1) : Nat) : Int) < ((z (l + 1) : Nat) : Int) := by omega
          obtain ⟨hAo, hOo⟩ := ar_of_own HO.out (fun k hk => HVr2.out k hk)
          obtain ⟨xs, hr1, hr2⟩ := id (HAl2.out.un HUi.out (by omega))
          have HUe : Hid (Un d (c + C (l + 1)) w wi) := by
            show Un _ _ _ _
            rw [HVc.out l, ← Int.add_assoc]
            exact HU2.out.chain HUi.out
          have HBe : Hid (Bx w.heap.size (.slice (some ⟨b, o, none⟩) m cap) vp wi) := HBx2.out.un HUi.out hwd
          have hsz : w.heap.size ≤ wi.heap.size := HUe.out.s
          obtain ⟨ad9, ca9, b9, o9, rfl, e1, e2, e3, e4⟩ := id hAo
          unfold maxLen at e2
          have ea9 := e3 (by omega)
          subst ea9
          clear e3 e4
          go_wp2_with (at_builtin; refine wpList_append_own_at _ rfl _ _ 64 rfl (w.heap.size + 1) 35 i1 (.slice none 0 0) 1 24 Tryz.underlying64 hti1 hy3 hy4 hy5 rfl (by decide) _ _ _ rfl (hr1.alloc _) ⟨wi.heap.size, 0, none⟩ 1 1 [.slice (some ⟨b9, o9, none⟩) (z (l + 1)) ca9] rfl rfl (cell_one_new _ _ _) (by simp [Value.oneCell']) (by unfold maxLen; omega) (by omega) (by simp; omega) ?_; intro v' w8 hown' hgrow hnil hat)
          have HAl8 : Hid (Alg w8 (w.heap.size + 1) d v' (l + 1 + 1) z V) := alg_grow hr1 hr2 hAo (hOo.nb hdo) (fun g' hg' => by cases hg'; exact hOo.nb hgb.2) hown' hgrow hat
          have HU8 : Hid (Un d (c + C (l + 1)) w w8) := HUe.out.grow hd hgrow (fun k hk => by have := (hr1.lt k hk).1; omega)
          have HB8 : Hid (Bx w.heap.size (.slice (some ⟨b, o, none⟩) m cap) vp w8) := by
            have h1 := HBe.out.later (bel1 wi (.cells #[.slice (some ⟨b9, o9, none⟩) (z (l + 1)) ca9] 35))
            have e := hgrow.block w.heap.size (by rw [World.size_alloc]; omega) (fun e => by have h2 : w.heap.size = g := Option.some.inj e; omega)
            exact ⟨(World.cell?_of_block (w := wi.alloc (.cells #[.slice (some ⟨b9, o9, none⟩) (z (l + 1)) ca9] 35)) e).trans h1.c0, (World.cell?_of_block (w := wi.alloc (.cells #[.slice (some ⟨b9, o9, none⟩) (z (l + 1)) ca9] 35)) e).trans h1.c1, (World.frozen?_of_block (w := wi.alloc (.cells #[.slice (some ⟨b9, o9, none⟩) (z (l + 1)) ca9] 35)) e).trans h1.f0, (World.frozen?_of_block (w := wi.alloc (.cells #[.slice (some ⟨b9, o9, none⟩) (z (l + 1)) ca9] 35)) e).trans h1.f1⟩
          clear hown' hgrow hnil hat hr1 hr2 HUe HBe hAo hOo HO
          go_wp2
          go_roundw
          case rel => exact ⟨l + 1, by omega, by go_num, HAl8, HB8, HU8⟩
          case measure => simp [intOf]; omega
    · have hlI : ¬ (l : Int) + 1 < (m : Int) := by omega
      have x0 := HBx2.out.c0
      have HQ : Hid (Ls wo d u7 m z V ∧ Un d (c + C (m - 1)) w wo) := by
        have e : m - 1 = l := by omega
        refine ⟨?_, by rw [e]; exact HU2.out⟩
        have h := HAl2.out.ls (by omega) (by omega)
        rw [show l + 1 = m by omega] at h
        exact h
      have hw1 : IntKind.i64.wrap ((l : Int) + 1) = (l : Int) + 1 := by rw [IntKind.wrap_i64]; omega
      clear HAl2 HU2
      go_wp2
      go_ret
      exact ⟨_, rfl, HQ.out.1, HQ.out.2⟩
end Go.Proofs.YtdfjnbkkdgolnaaGreatDoor
set_option linter.unusedVariables false
set_option linter.unusedSimpArgs false
namespace Go.Proofs.YtdfjnbkkdgolnaaGreatDoor
open Go.RowKit
theorem Rw.un {b n : Nat} {h : Nat → Value} {w w' : World} {d : Nat} {c : Int} (r : Rw b n h w) (hU : Un d c w w') (hb : b ≠ d) (hl : b < w.heap.size) : Rw b n h w' := r.block (hU.k b hl hb)
end Go.Proofs.YtdfjnbkkdgolnaaGreatDoor
set_option linter.unusedVariables false
set_option linter.unusedSimpArgs false
namespace Go.Proofs.YtdfjnbkkdgolnaaGreatDoor
open Go.RowKit

/-- How many are held of the first j of a hinge's slope. -/
def hsC (f g : Nat → Int) (j : Nat) : Int := cntV (mpO f g) j + cntV (hgO f g) j + cntV (slO f g) j
end Go.Proofs.YtdfjnbkkdgolnaaGreatDoor
set_option linter.unusedVariables false
set_option linter.unusedSimpArgs false
namespace Go.Proofs.YtdfjnbkkdgolnaaGreatDoor
open Go.RowKit

/-- How many are held of the first j of a hinge's loss. -/
def hlC (f g : Nat → Int) (j : Nat) : Int := cntV (mpO f g) j + cntV (hgO f g) j
end Go.Proofs.YtdfjnbkkdgolnaaGreatDoor
set_option linter.unusedVariables false
set_option linter.unusedSimpArgs false
namespace Go.Proofs.YtdfjnbkkdgolnaaGreatDoor
open Go.RowKit

theorem wt_rng (z : Nat → Nat) (l u i : Nat) (hu : u < z (l + 1)) (hi : i < z l) : fsN z l ≤ wtN z l u i ∧ wtN z l u i < fsN z l + z l * z (l + 1) := by
  have h : (u + 1) * z l ≤ z (l + 1) * z l := Nat.mul_le_mul_right _ hu
  rw [Nat.succ_mul, Nat.mul_comm (z (l + 1))] at h
  unfold wtN
  omega
theorem of_rng (z : Nat → Nat) (l u : Nat) (hu : u < z (l + 1)) : fsN z l + z l * z (l + 1) ≤ ofN z l u ∧ ofN z l u < fsN z (l + 1) := ⟨by unfold ofN; omega, ofN_lt z l u hu⟩
/-- The layers from l on are filled in. -/
def GrL (z : Nat → Nat) (m : Nat) (V S : Nat → Nat → Int) (l : Nat) (F : Nat → Int) : Prop := ∀ l', l ≤ l' → l' + 1 < m → ∀ u, u < z (l' + 1) → (∀ i, i < z l' → F (wtN z l' u i) = gwX (S l') (V l') u i) ∧ F (ofN z l' u) = S l' u
theorem grL_all {z : Nat → Nat} {m : Nat} {V S : Nat → Nat → Int} {F : Nat → Int} (h : GrL z m V S 0 F) : Grd z m V S F := fun l hl u hu => h l (Nat.zero_le _) hl u hu
theorem grL_none (z : Nat → Nat) (m : Nat) (V S : Nat → Nat → Int) (F : Nat → Int) (l : Nat) (hl : m ≤ l + 1) : GrL z m V S l F := fun l' h1 h2 => by omega
theorem grC_rng (s v : Nat → Int) (n u : Nat) (hn : n ≤ 64) : 0 ≤ grC s v n u ∧ grC s v n u ≤ 64 * (u : Int) := by
  induction u with
  | zero => exact ⟨Int.le_refl _, Int.le_refl _⟩
  | succ u ih =>
    have h := cnt_rng (gwO s v u) n
    show 0 ≤ grC s v n u + cntV (gwO s v u) n ∧ grC s v n u + cntV (gwO s v u) n ≤ _
    omega
theorem bkC_rng (z : Nat → Nat) (m : Nat) (p : Nat → Int) (V S : Nat → Nat → Int) (k : Nat) (hz : ∀ i, i < m → z i ≤ 64) (hk : k + 1 ≤ m) : 0 ≤ bkC z m p V S k ∧ bkC z m p V S k ≤ 4160 * (k : Int) := by
  induction k with
  | zero => exact ⟨Int.le_refl _, Int.le_refl _⟩
  | succ k ih =>
    have h0 := ih (by omega)
    have hz1 := hz (m - 2 - k) (by omega)
    have hz2 := hz (m - 1 - k) (by omega)
    have h1 := grC_rng (S (m - 2 - k)) (V (m - 2 - k)) (z (m - 2 - k)) (z (m - 1 - k)) hz1
    have h2 := cnt_rng (ahO z p (S (m - 2 - k)) (V (m - 2 - k)) (m - 2 - k)) (z (m - 2 - k))
    show 0 ≤ bkC z m p V S k + grC (S (m - 2 - k)) (V (m - 2 - k)) (z (m - 2 - k)) (z (m - 1 - k)) + (if m - 2 - k = 0 then 0 else cntV (ahO z p (S (m - 2 - k)) (V (m - 2 - k)) (m - 2 - k)) (z (m - 2 - k))) ∧ _ + _ + _ ≤ _
    split <;> omega
theorem lsC_rng (s : Bool) (y t : Nat → Int) (n : Nat) : 0 ≤ lsC s y t n ∧ lsC s y t n ≤ 2 * (n : Int) + 1 := by
  have h1 := cnt_rng (dsO y t) n
  have h2 := cnt_rng (mpO y t) n
  have h3 := cnt_rng (hgO y t) n
  have h4 := bi_rng (ovv (lsS s y t n))
  unfold lsC lsP
  split <;> omega
theorem slC_rng (s : Bool) (y t : Nat → Int) (n : Nat) : 0 ≤ slC s y t n ∧ slC s y t n ≤ 3 * (n : Int) := by
  have h1 := cnt_rng (dsO y t) n
  have h2 := cnt_rng (mpO y t) n
  have h3 := cnt_rng (hgO y t) n
  have h4 := cnt_rng (slO y t) n
  unfold slC
  split <;> omega
/-- The kind of a loss, by its number. -/
def lsK (s : Bool) : Int := if s = true then 1 else 2
theorem Ar.put {w : World} {v : Value} {n : Nat} {f : Nat → Int} (h : Ar w v n f) {p : Addr} (hN : Nb v p.block) (u : Value) : Ar (w.setCell p u) v n f := by
  refine h.stay (fun a n' cap e hn => Below.heap_setCell _ _ _ _ ?_)
  exact hN a n' cap e hn
end Go.Proofs.YtdfjnbkkdgolnaaGreatDoor
set_option linter.unusedVariables false
set_option linter.unusedSimpArgs false
namespace Go.Proofs.YtdfjnbkkdgolnaaGreatDoor
open Go.RowKit

/-- How many are held of a gradient. -/
def gdC (s : Bool) (z : Nat → Nat) (m : Nat) (P x t : Nat → Int) : Int :=
  vC z m P x (m - 1) + lsC s (vN z m P x (m - 1)) t (z (m - 1)) + slC s (vN z m P x (m - 1)) t (z (m - 1)) + bkC z m P (vN z m P x) (sL z m P (vN z m P x) (slX s (vN z m P x (m - 1)) t)) (m - 1)
/-- The slopes of a net, layer by layer. -/
def gdS (s : Bool) (z : Nat → Nat) (m : Nat) (P x t : Nat → Int) : Nat → Nat → Int := sL z m P (vN z m P x) (slX s (vN z m P x (m - 1)) t)
theorem sL_rng (z : Nat → Nat) (m : Nat) (p : Nat → Int) (V : Nat → Nat → Int) (s0 : Nat → Int) (h0 : ∀ i, -9223372036854775808 ≤ s0 i ∧ s0 i ≤ 9223372036854775807) (l i : Nat) : -9223372036854775808 ≤ sL z m p V s0 l i ∧ sL z m p V s0 l i ≤ 9223372036854775807 := by
  unfold sL
  generalize m - 2 - l = k
  cases k with
  | zero => exact h0 i
  | succ k => exact ahX_rng _ _ _ _ _ _
end Go.Proofs.YtdfjnbkkdgolnaaGreatDoor
set_option linter.unusedVariables false
set_option linter.unusedSimpArgs false
namespace Go.Proofs.YtdfjnbkkdgolnaaGreatDoor
open Go.RowKit

/-- The part of the gradient at a place of layer l. -/
def gLay (z : Nat → Nat) (V S : Nat → Nat → Int) (l j : Nat) : Int :=
  if j < fsN z l + z l * z (l + 1) then gwX (S l) (V l) ((j - fsN z l) / z l) ((j - fsN z l) % z l) else S l (j - (fsN z l + z l * z (l + 1)))
/-- The gradient of the first n layers. -/
def gAll (z : Nat → Nat) (V S : Nat → Nat → Int) : Nat → Nat → Int
  | 0, _ => 0
  | n + 1, j => if j < fsN z n then gAll z V S n j else gLay z V S n j
theorem gAll_at (z : Nat → Nat) (V S : Nat → Nat → Int) (n l j : Nat) (hl : l < n) (h1 : fsN z l ≤ j) (h2 : j < fsN z (l + 1)) : gAll z V S n j = gLay z V S l j := by
  induction n with
  | zero => omega
  | succ n ih =>
    show (if j < fsN z n then gAll z V S n j else gLay z V S n j) = _
    rcases Nat.lt_or_ge l n with h | h
    · have hm := fsN_mono z (show l + 1 ≤ n from h)
      rw [if_pos (by omega)]
      exact ih h
    · obtain rfl : l = n := by omega
      rw [if_neg (by omega)]
theorem grd_all (z : Nat → Nat) (m : Nat) (V S : Nat → Nat → Int) : Grd z m V S (gAll z V S (m - 1)) := fun l hl u hu => by
  refine ⟨fun i hi => ?_, ?_⟩
  · have h := wt_rng z l u i hu hi
    have h3 := wtN_lt z l u i hu hi
    rw [gAll_at z V S (m - 1) l _ (by omega) h.1 h3]
    unfold gLay
    rw [if_pos h.2]
    have e : wtN z l u i - fsN z l = z l * u + i := by unfold wtN; rw [Nat.mul_comm]; omega
    rw [e, Nat.mul_add_div (by omega), Nat.div_eq_of_lt hi, Nat.add_zero, Nat.mul_add_mod, Nat.mod_eq_of_lt hi]
  · have h := of_rng z l u hu
    have h4 : fsN z l ≤ ofN z l u := by omega
    rw [gAll_at z V S (m - 1) l _ (by omega) h4 h.2]
    unfold gLay
    rw [if_neg (by omega)]
    have e : ofN z l u - (fsN z l + z l * z (l + 1)) = u := by unfold ofN; omega
    rw [e]
/-- The gradient of a net at an example. -/
def gdG (s : Bool) (z : Nat → Nat) (m : Nat) (P x t : Nat → Int) : Nat → Int := gAll z (vN z m P x) (gdS s z m P x t) (m - 1)
/-- The loss of a net at an example. -/
def gdX (s : Bool) (z : Nat → Nat) (m : Nat) (P x t : Nat → Int) : Int := lsX s (vN z m P x (m - 1)) t (z (m - 1))
theorem Ar.congr {w : World} {v : Value} {n : Nat} {f g : Nat → Int} (h : Ar w v n f) (e : ∀ k, k < n → f k = g k) : Ar w v n g := by
  obtain ⟨adr, cap, b, o, h1, h2, h3, h4, h5⟩ := h
  exact ⟨adr, cap, b, o, h1, h2, h3, h4, fun k hk => by rw [← e k hk]; exact h5 k hk⟩
/-- Examples: an input and targets each, apart from a unit. -/
def Exs (w : World) (d b o K : Nat) (nx nt : Nat → Nat) (xs ts : Nat → Nat → Int) : Prop :=
  b ≠ d ∧ ∀ k, k < K → ∃ vx vt : Value, w.cell? ⟨b, o + k * 2, none⟩ = some vx ∧ w.cell? ⟨b, o + k * 2 + 1, none⟩ = some vt ∧ Ar w vx (nx k) (xs k) ∧ Ar w vt (nt k) (ts k) ∧ Nb vx d ∧ Nb vt d
theorem Exs.later {w w' : World} {d b o K : Nat} {nx nt : Nat → Nat} {xs ts : Nat → Nat → Int} (h : Exs w d b o K nx nt xs ts) (hb : Below w.heap.size w w') : Exs w' d b o K nx nt xs ts :=
  ⟨h.1, fun k hk => by obtain ⟨vx, vt, h1, h2, h3, h4, h5, h6⟩ := h.2 k hk; exact ⟨vx, vt, cell_later hb h1, cell_later hb h2, h3.later hb, h4.later hb, h5, h6⟩⟩
theorem Exs.un {w w' : World} {d b o K : Nat} {nx nt : Nat → Nat} {xs ts : Nat → Nat → Int} {c : Int} (h : Exs w d b o K nx nt xs ts) (hU : Un d c w w') : Exs w' d b o K nx nt xs ts :=
  ⟨h.1, fun k hk => by obtain ⟨vx, vt, h1, h2, h3, h4, h5, h6⟩ := h.2 k hk; exact ⟨vx, vt, hU.o _ _ h.1 h1, hU.o _ _ h.1 h2, h3.un h5 hU, h4.un h6 hU, h5, h6⟩⟩
end Go.Proofs.YtdfjnbkkdgolnaaGreatDoor
set_option linter.unusedVariables false
set_option linter.unusedSimpArgs false
namespace Go.Proofs.YtdfjnbkkdgolnaaGreatDoor
open Go.RowKit

/-- What the program's functions ask of the world (a table that they read). -/
def VT (w : World) : Prop := TabAt w
theorem VT.later {w w' : World} (h : VT w) (hb : Below w.heap.size w w') : VT w' := TabAt.later h hb
/-- A unit's cell. -/
def Uc (w : World) (d : Nat) (c : Int) : Prop := w.cell? ⟨d, 0, none⟩ = some (.int .i64 c) ∧ w.frozen? ⟨d, 0, none⟩ = false
def dE (n m : Nat) : Int := if 65536 < n ∨ 65536 < m then 3 else if n = m then 0 else 40
def dX (n m : Nat) (f g : Nat → Int) : Int := if dE n m = 0 then clv (rr (dotV f g n) 32) else 0
def dO (n m : Nat) (f g : Nat → Int) : Bool := if dE n m = 0 then ovv (rr (dotV f g n) 32) else false
def sE (n : Nat) : Int := if 65536 < n then 3 else 0
def sX (n : Nat) (f : Nat → Int) : Int := if sE n = 0 then clv (sumV f n) else 0
def sO (n : Nat) (f : Nat → Int) : Bool := if sE n = 0 then ovv (sumV f n) else false
def nX (n : Nat) (f : Nat → Int) : Int := if sE n = 0 then rtX (dotV f f n) else 0
/-- The state of a law: two units, and whatever was there is there. -/
structure L2 (w : World) (du dv : Nat) (cu cv : Int) (wz : World) : Prop where
  B : Below w.heap.size w wz
  u : Uc wz du cu
  v : Uc wz dv cv
theorem Uc.later {w w' : World} {d : Nat} {c : Int} (h : Uc w d c) (hb : Below w.heap.size w w') : Uc w' d c := ⟨cell_later hb h.1, frozen_later hb h.1 h.2⟩
theorem Uc.un {w w' : World} {d d' : Nat} {c c' : Int} (h : Uc w d c) (hU : Un d' c' w w') (hd : d ≠ d') : Uc w' d c := by
  have hb := World.block_lt_of_cell? _ _ h.1
  have e := hU.k d hb hd
  exact ⟨(World.cell?_of_block (w := w) e).trans h.1, (World.frozen?_of_block (w := w) e).trans h.2⟩
theorem L2.later {w : World} {du dv : Nat} {cu cv : Int} {wz wy : World} (h : L2 w du dv cu cv wz) (hb : Below wz.heap.size wz wy) : L2 w du dv cu cv wy := ⟨bchain h.B hb, h.u.later hb, h.v.later hb⟩
theorem L2.unu {w : World} {du dv : Nat} {cu cv c : Int} {wz wy : World} (h : L2 w du dv cu cv wz) (hU : Un du c wz wy) (hu : w.heap.size ≤ du) (hne : du ≠ dv) : L2 w du dv c cv wy :=
  ⟨hU.b _ _ hu h.B.size h.B, ⟨hU.c, hU.f⟩, h.v.un hU (fun e => hne e.symm)⟩
theorem L2.unv {w : World} {du dv : Nat} {cu cv c : Int} {wz wy : World} (h : L2 w du dv cu cv wz) (hU : Un dv c wz wy) (hv : w.heap.size ≤ dv) (hne : du ≠ dv) : L2 w du dv cu c wy :=
  ⟨hU.b _ _ hv h.B.size h.B, h.u.un hU hne, ⟨hU.c, hU.f⟩⟩
theorem Ar.nb {w : World} {v : Value} {n : Nat} {f : Nat → Int} (h : Ar w v n f) {d : Nat} (hd : w.heap.size ≤ d) : Nb v d := by
  obtain ⟨adr, cap, b, o, rfl, h2, h3, h4, h5⟩ := h
  intro a n' cap' e hn
  have e2 := h4 (by cases e; exact hn)
  subst e2
  cases e
  have h6 : b < w.heap.size := World.block_lt_of_cell? _ _ (h5 0 hn).1
  show b ≠ d
  omega
end Go.Proofs.YtdfjnbkkdgolnaaGreatDoor
set_option linter.unusedVariables false
set_option linter.unusedSimpArgs false
namespace Go.Proofs.YtdfjnbkkdgolnaaGreatDoor
open Go.RowKit
attribute [local go_sem ↓] Go.wp_at_zero Go.wp_at_succ

def two (a b : Int) (k : Nat) : Int := if k = 0 then a else b
end Go.Proofs.YtdfjnbkkdgolnaaGreatDoor
set_option linter.unusedVariables false
set_option linter.unusedSimpArgs false
namespace Go.Proofs.YtdfjnbkkdgolnaaGreatDoor
open Go.RowKit

def cE (E c : Int) : Int := if E = 0 then c else 0
/-- A list that is answered: so many numbers in memory of its own, or none beside an error. -/
def LL (w w' : World) (v' : Value) (n : Nat) (F : Nat → Int) (E : Int) : Prop :=
  (E = 0 → Ar w' v' n F) ∧ (E ≠ 0 → ∃ ad cap, v' = .slice ad 0 cap) ∧ Ow w.heap.size v'
/-- A list that lies apart from both units. -/
structure An (du dv : Nat) (v : Value) (n : Nat) (f : Nat → Int) (wz : World) : Prop where
  a : Ar wz v n f
  u : Nb v du
  v : Nb v dv
theorem An.later {du dv : Nat} {v : Value} {n : Nat} {f : Nat → Int} {wz wy : World} (h : An du dv v n f wz) (hb : Below wz.heap.size wz wy) : An du dv v n f wy := ⟨h.a.later hb, h.u, h.v⟩
theorem An.unu {du dv : Nat} {v : Value} {n : Nat} {f : Nat → Int} {c : Int} {wz wy : World} (h : An du dv v n f wz) (hU : Un du c wz wy) : An du dv v n f wy := ⟨h.a.un h.u hU, h.u, h.v⟩
theorem An.unv {du dv : Nat} {v : Value} {n : Nat} {f : Nat → Int} {c : Int} {wz wy : World} (h : An du dv v n f wz) (hU : Un dv c wz wy) : An du dv v n f wy := ⟨h.a.un h.v hU, h.u, h.v⟩
theorem An.new {w : World} {du dv : Nat} {cu cv : Int} {wz wy : World} {v : Value} {n : Nat} {f : Nat → Int} (L : L2 w du dv cu cv wz) (hA : Ar wy v n f) (hO : Ow wz.heap.size v) : An du dv v n f wy :=
  ⟨hA, hO.nb (World.block_lt_of_cell? _ _ L.u.1), hO.nb (World.block_lt_of_cell? _ _ L.v.1)⟩
end Go.Proofs.YtdfjnbkkdgolnaaGreatDoor
set_option linter.unusedVariables false
set_option linter.unusedSimpArgs false
namespace Go.Proofs.YtdfjnbkkdgolnaaGreatDoor
open Go.RowKit
theorem Un.from {d : Nat} {n : Int} {w w1 w2 : World} (hb : Below w.heap.size w w1) (h : Un d n w1 w2) : Un d n w w2 := Un.after hb h
end Go.Proofs.YtdfjnbkkdgolnaaGreatDoor
set_option linter.unusedVariables false
set_option linter.unusedSimpArgs false
namespace Go.Proofs.YtdfjnbkkdgolnaaGreatDoor
open Go.RowKit
theorem below_own {B : Nat} {w wr w1 : World} {e : TypeId} {s : Nat} {v : Value} {n : Nat} {xs : List Value} {o : Obj} (hW : Below B w wr) (hB : B ≤ wr.heap.size) (hown : wr.ownsRow B e s v n xs) (hg : (wr.alloc o).grownBy w1 v.ownBlock) : Below B w w1 :=
  (hW.alloc hB o).grown hg (by rw [World.size_alloc]; omega) (fun k hk => (hown.lt k hk).1)
end Go.Proofs.YtdfjnbkkdgolnaaGreatDoor
set_option linter.unusedVariables false
set_option linter.unusedSimpArgs false
namespace Go.Proofs.YtdfjnbkkdgolnaaGreatDoor
open Go.RowKit

/-- A list of lists, apart from a block. -/
structure As (w : World) (d b o K n : Nat) (fs : Nat → Nat → Int) : Prop where
  c : ∀ k, k < K → ∃ va : Value, w.cell? ⟨b, o + k, none⟩ = some va ∧ Ar w va n (fs k) ∧ Nb va d
  a : b ≠ d
theorem As.un {w w' : World} {d b o K n : Nat} {fs : Nat → Nat → Int} {c : Int} (h : As w d b o K n fs) (hU : Un d c w w') : As w' d b o K n fs :=
  ⟨fun k hk => by obtain ⟨va, h1, h2, h3⟩ := h.c k hk; exact ⟨va, hU.o _ _ h.a h1, h2.un h3 hU, h3⟩, h.a⟩
theorem As.later {w w' : World} {d b o K n : Nat} {fs : Nat → Nat → Int} (h : As w d b o K n fs) (hb : Below w.heap.size w w') : As w' d b o K n fs :=
  ⟨fun k hk => by obtain ⟨va, h1, h2, h3⟩ := h.c k hk; exact ⟨va, cell_later hb h1, h2.later hb, h3⟩, h.a⟩
end Go.Proofs.YtdfjnbkkdgolnaaGreatDoor
set_option linter.unusedVariables false
set_option linter.unusedSimpArgs false
namespace Go.Proofs.YtdfjnbkkdgolnaaGreatDoor
open Go.RowKit

/-- A matrix's block: three cells. -/
structure M3 (b : Nat) (x y z : Value) (w : World) : Prop where
  c0 : w.cell? ⟨b, 0, none⟩ = some x
  c1 : w.cell? ⟨b, 1, none⟩ = some y
  c2 : w.cell? ⟨b, 2, none⟩ = some z
  f0 : w.frozen? ⟨b, 0, none⟩ = false
  f1 : w.frozen? ⟨b, 1, none⟩ = false
  f2 : w.frozen? ⟨b, 2, none⟩ = false
theorem M3.later {b : Nat} {x y z : Value} {w w' : World} (h : M3 b x y z w) (hb : Below w.heap.size w w') : M3 b x y z w' :=
  ⟨cell_later hb h.c0, cell_later hb h.c1, cell_later hb h.c2, frozen_later hb h.c0 h.f0, frozen_later hb h.c1 h.f1, frozen_later hb h.c2 h.f2⟩
theorem M3.lt {b : Nat} {x y z : Value} {w : World} (h : M3 b x y z w) : b < w.heap.size := World.block_lt_of_cell? _ _ h.c0
theorem M3.new (w : World) (x y z : Value) (t : TypeId) : M3 w.heap.size x y z (w.alloc (.cells #[x, y, z] t)) :=
  ⟨by simp [go_sem], by simp [go_sem], by simp [go_sem], by simp [go_sem], by simp [go_sem], by simp [go_sem]⟩
theorem M3.far {b : Nat} {x y z : Value} {w : World} {p : Addr} (h : M3 b x y z w) (u : Value) (hp : p.block ≠ b) : M3 b x y z (w.setCell p u) :=
  ⟨cell_set hp h.c0, cell_set hp h.c1, cell_set hp h.c2, by rw [World.frozen?_setCell]; exact h.f0, by rw [World.frozen?_setCell]; exact h.f1, by rw [World.frozen?_setCell]; exact h.f2⟩
theorem M3.all {b : Nat} {x y z : Value} {w : World} (h : M3 b x y z w) (x' y' z' : Value) : M3 b x' y' z' (((w.setCell ⟨b, 0, none⟩ x').setCell ⟨b, 1, none⟩ y').setCell ⟨b, 2, none⟩ z') := by
  have c0 := h.c0
  have c1 := h.c1
  have c2 := h.c2
  have f0 := h.f0
  have f1 := h.f1
  have f2 := h.f2
  refine ⟨?_, ?_, ?_, ?_, ?_, ?_⟩ <;> simp [go_sem, c0, c1, c2, f0, f1, f2]
theorem Ar.set {w : World} {v : Value} {n : Nat} {f : Nat → Int} {p : Addr} (h : Ar w v n f) (hd : Nb v p.block) (u : Value) : Ar (w.setCell p u) v n f := by
  obtain ⟨adr, cap, b, o, h1, h2, h3, h4, h5⟩ := h
  refine ⟨adr, cap, b, o, h1, h2, h3, h4, fun k hk => ⟨?_, (h5 k hk).2⟩⟩
  have e := h4 (by omega)
  subst e
  subst h1
  exact cell_set (fun e => hd _ _ _ rfl (by omega) e.symm) (h5 k hk).1
end Go.Proofs.YtdfjnbkkdgolnaaGreatDoor
set_option linter.unusedVariables false
set_option linter.unusedSimpArgs false
namespace Go.Proofs.YtdfjnbkkdgolnaaGreatDoor
open Go.RowKit

def otX (f g : Nat → Int) (m : Nat) (k : Nat) : Int := clv (rnd (f (k / m) * g (k % m)) 32)
def otN (f g : Nat → Int) (m : Nat) : Nat → Int
  | 0 => 0
  | i + 1 => otN f g m i + cntV (fun k => ovv (rnd (f i * g k) 32)) m
theorem ot_rng (f g : Nat → Int) (m : Nat) (i : Nat) : 0 ≤ otN f g m i ∧ otN f g m i ≤ ((i * m : Nat) : Int) := by
  induction i with
  | zero => simp [otN]
  | succ i ih =>
    have h := cnt_rng (fun k => ovv (rnd (f i * g k) 32)) m
    rw [Nat.add_mul, Nat.one_mul]
    show 0 ≤ otN f g m i + cntV _ m ∧ otN f g m i + cntV _ m ≤ _
    rw [Int.natCast_add]
    omega
theorem il_one (f : Nat → Int) (n : Nat) : ∀ u ∈ il f n, u.oneCell' = true := by
  intro u hu
  unfold il at hu
  obtain ⟨k, _, rfl⟩ := List.mem_map.1 hu
  rfl
theorem M3.block {b : Nat} {x y z : Value} {w w' : World} (h : M3 b x y z w) (e : w'.heap[b]? = w.heap[b]?) : M3 b x y z w' :=
  ⟨(World.cell?_of_block (w := w) e).trans h.c0, (World.cell?_of_block (w := w) e).trans h.c1, (World.cell?_of_block (w := w) e).trans h.c2, (World.frozen?_of_block (w := w) e).trans h.f0, (World.frozen?_of_block (w := w) e).trans h.f1, (World.frozen?_of_block (w := w) e).trans h.f2⟩
theorem M3.un {b : Nat} {x y z : Value} {w w' : World} {d : Nat} {c : Int} (h : M3 b x y z w) (hU : Un d c w w') (hb : b ≠ d) : M3 b x y z w' := h.block (hU.k b h.lt hb)
end Go.Proofs.YtdfjnbkkdgolnaaGreatDoor
set_option linter.unusedVariables false
set_option linter.unusedSimpArgs false
namespace Go.Proofs.YtdfjnbkkdgolnaaGreatDoor
open Go.RowKit
attribute [local go_sem ↓] Go.wp_at_zero Go.wp_at_succ

end Go.Proofs.YtdfjnbkkdgolnaaGreatDoor
set_option linter.unusedVariables false
set_option linter.unusedSimpArgs false
namespace Go.Proofs.YtdfjnbkkdgolnaaGreatDoor
open Go.RowKit
/-- A list of lists and a list, both growing; the parts lie apart from the unit and from both. -/
def Alf (w : World) (B d : Nat) (v u : Value) (j n : Nat) (fs : Nat → Nat → Int) (f : Nat → Int) : Prop :=
  ∃ xs : List Value, w.ownsRow B 35 1 v j xs ∧ w.ownsRow B 2 1 u j (il f j) ∧ ∀ k, k < j → ∃ va : Value, xs[k]? = some va ∧ Ar w va n (fs k) ∧ Nb va d ∧ (∀ g, v.ownBlock = some g → Nb va g) ∧ ∀ g, u.ownBlock = some g → Nb va g
theorem Alf.later {w w' : World} {B d : Nat} {v u : Value} {j n : Nat} {fs : Nat → Nat → Int} {f : Nat → Int} (h : Alf w B d v u j n fs f) (hb : Below w.heap.size w w') : Alf w' B d v u j n fs f := by
  obtain ⟨xs, h1, h0, h2⟩ := h
  exact ⟨xs, own_later h1 hb, own_later h0 hb, fun k hk => by obtain ⟨va, e, a, r⟩ := h2 k hk; exact ⟨va, e, a.later hb, r⟩⟩
theorem Alf.un {w w' : World} {B d : Nat} {v u : Value} {j n : Nat} {fs : Nat → Nat → Int} {f : Nat → Int} {c : Int} (h : Alf w B d v u j n fs f) (hU : Un d c w w') (hd : d < B) : Alf w' B d v u j n fs f := by
  obtain ⟨xs, h1, h0, h2⟩ := h
  exact ⟨xs, own_un h1 hU hd, own_un h0 hU hd, fun k hk => by obtain ⟨va, e, a, x, r⟩ := h2 k hk; exact ⟨va, e, a.un x hU, x, r⟩⟩
end Go.Proofs.YtdfjnbkkdgolnaaGreatDoor
set_option linter.unusedVariables false
set_option linter.unusedSimpArgs false
namespace Go.Proofs.YtdfjnbkkdgolnaaGreatDoor

/-- The stir. -/
def stY (x : Nat) : Nat := (x ^^^ x / 4294967296) * 11400714819323198549 % 18446744073709551616
def stZ (y : Nat) : Nat := (y ^^^ y / 536870912) * 15241094284759029579 % 18446744073709551616
def stN (x : Nat) : Nat := stZ (stY x) ^^^ stZ (stY x) / 4294967296
/-- A number as 64 bits without a sign. -/
def u6 (n : Int) : Nat := (n % 18446744073709551616).toNat
/-- One number more stirred in. -/
def mxN (w : Nat) (n : Int) : Nat := stN (((w ^^^ u6 n) + 14029467366897019727) % 18446744073709551616)
/-- A key's root. -/
def rtN (s : Nat) (a b c : Int) : Nat := mxN (mxN (mxN (stN ((s + 7046029254386353131) % 18446744073709551616)) a) b) c
/-- A word. -/
def wdN (s : Nat) (a b c i : Int) : Nat := stN (rtN s a b c ^^^ (u6 i * 11400714819323198485 % 18446744073709551616))
/-- What a round of a trip stirs in: the lowest bits of a word. -/
def rfN (s : Nat) (a b c : Int) (S t r : Nat) : Nat := wdN s a b c (1024 * (t : Int) + (r : Int)) % S
theorem rfN_lt (s : Nat) (a b c : Int) (S t r : Nat) (hS : 0 < S) : rfN s a b c S t r < S := Nat.mod_lt _ hS
/-- How wide a half is: the least power of two, 2 at least, whose square isn't below n. -/
def Hf (n b : Nat) : Prop := 1 ≤ b ∧ n ≤ 2 ^ b * 2 ^ b ∧ (b = 1 ∨ 2 ^ (b - 1) * 2 ^ (b - 1) < n)
theorem Hf.one {n b c : Nat} (h : Hf n b) (h' : Hf n c) : b = c := by
  have key : ∀ p q : Nat, Hf n p → Hf n q → ¬ p < q := fun p q hp hq hlt => by
    rcases hq.2.2 with h1 | h1
    · have := hp.1; omega
    · have h2 : 2 ^ p ≤ 2 ^ (q - 1) := Nat.pow_le_pow_right (by omega) (by omega)
      have h3 := Nat.mul_le_mul h2 h2
      have h4 := hp.2.1
      omega
  rcases Nat.lt_trichotomy b c with h1 | h1 | h1
  · exact absurd h1 (key b c h h')
  · exact h1
  · exact absurd h1 (key c b h' h)
/-- Where i goes. -/
def Goes (s : Nat) (a b c : Int) (n i x : Nat) : Prop := ∃ k, Hf n k ∧ Gets (trp (rfN s a b c (2 ^ k)) (2 ^ k)) n i x
def Comes (s : Nat) (a b c : Int) (n j x : Nat) : Prop := ∃ k, Hf n k ∧ Gets (prt (rfN s a b c (2 ^ k)) (2 ^ k)) n j x
theorem Goes.one {s : Nat} {a b c : Int} {n i x y : Nat} (h : Goes s a b c n i x) (h' : Goes s a b c n i y) : x = y := by
  obtain ⟨k, h1, h2⟩ := h
  obtain ⟨q, h3, h4⟩ := h'
  obtain rfl := h1.one h3
  exact h2.one h4
theorem Comes.one {s : Nat} {a b c : Int} {n i x y : Nat} (h : Comes s a b c n i x) (h' : Comes s a b c n i y) : x = y := by
  obtain ⟨k, h1, h2⟩ := h
  obtain ⟨q, h3, h4⟩ := h'
  obtain rfl := h1.one h3
  exact h2.one h4
theorem Goes.comes {s : Nat} {a b c : Int} {n i x : Nat} (hi : i < n) (h : Goes s a b c n i x) : Comes s a b c n x i := by
  obtain ⟨k, h1, h2⟩ := h
  have hf : ∀ t r, rfN s a b c (2 ^ k) t r < 2 ^ k := fun t r => rfN_lt _ _ _ _ _ _ _ (Nat.two_pow_pos k)
  exact ⟨k, h1, h2.back (fun y hy => trp_lt _ k hf y hy) (fun y hy => prt_trp _ k hf y hy) h1.2.1 hi⟩
theorem Comes.goes {s : Nat} {a b c : Int} {n i x : Nat} (hi : i < n) (h : Comes s a b c n i x) : Goes s a b c n x i := by
  obtain ⟨k, h1, h2⟩ := h
  have hf : ∀ t r, rfN s a b c (2 ^ k) t r < 2 ^ k := fun t r => rfN_lt _ _ _ _ _ _ _ (Nat.two_pow_pos k)
  exact ⟨k, h1, h2.back (fun y hy => prt_lt _ k hf y hy) (fun y hy => trp_prt _ k hf y hy) h1.2.1 hi⟩
theorem Goes.lt {s : Nat} {a b c : Int} {n i x : Nat} (h : Goes s a b c n i x) : x < n := by
  obtain ⟨k, -, m, -, -, h3, -⟩ := h
  exact h3
theorem Comes.lt {s : Nat} {a b c : Int} {n i x : Nat} (h : Comes s a b c n i x) : x < n := by
  obtain ⟨k, -, m, -, -, h3, -⟩ := h
  exact h3
end Go.Proofs.YtdfjnbkkdgolnaaGreatDoor
set_option linter.unusedVariables false
set_option linter.unusedSimpArgs false
namespace Go.Proofs.YtdfjnbkkdgolnaaGreatDoor
open Go.RowKit

/-- A block of four cells. -/
structure K4 (b : Nat) (x y z u : Value) (w : World) : Prop where
  c0 : w.cell? ⟨b, 0, none⟩ = some x
  c1 : w.cell? ⟨b, 1, none⟩ = some y
  c2 : w.cell? ⟨b, 2, none⟩ = some z
  c3 : w.cell? ⟨b, 3, none⟩ = some u
theorem K4.later {b : Nat} {x y z u : Value} {w w' : World} (h : K4 b x y z u w) (hb : Below w.heap.size w w') : K4 b x y z u w' :=
  ⟨(hb.cell (World.block_lt_of_cell? _ _ h.c0)).trans h.c0, (hb.cell (World.block_lt_of_cell? _ _ h.c1)).trans h.c1, (hb.cell (World.block_lt_of_cell? _ _ h.c2)).trans h.c2, (hb.cell (World.block_lt_of_cell? _ _ h.c3)).trans h.c3⟩
end Go.Proofs.YtdfjnbkkdgolnaaGreatDoor
set_option linter.unusedVariables false
set_option linter.unusedSimpArgs false
namespace Go.Proofs.YtdfjnbkkdgolnaaGreatDoor
open Go.RowKit

/-- What mlp asks of the world. -/
def MT (w : World) : Prop := TabAt w
theorem MT.later {w w' : World} (h : MT w) (hb : Below w.heap.size w w') : MT w' := TabAt.later h hb
/-- Are sizes right? -/
def Rt (f : Nat → Int) (m : Nat) : Prop := 2 ≤ m ∧ m ≤ 6 ∧ szB f m
theorem Rt.szs {f : Nat → Int} {m : Nat} (h : Rt f m) : ∃ z : Nat → Nat, Szs z m ∧ ∀ i, i < m → f i = ((z i : Nat) : Int) := by
  obtain ⟨h1, h2, h3⟩ := h
  refine ⟨fun i => (f i).toNat, ⟨h1, h2, fun i hi => ?_⟩, fun i hi => ?_⟩
  · have := h3 i hi
    show 1 ≤ (f i).toNat ∧ (f i).toNat ≤ 64
    omega
  · have := h3 i hi
    show f i = (((f i).toNat : Nat) : Int)
    omega
/-- An empty answer. -/
def Emp (v : Value) : Prop := ∃ (ad : Option Addr) (cap : Nat), v = .slice ad 0 cap
structure Mlp2 : Prop where
  fwdU : ∀ (vs vp vx : Value) (m cp : Nat) (z : Nat → Nat) (P x : Nat → Int) (d : Nat) (c : Int) (w : World), 0 ≤ c → c ≤ 100000 → Ar w vs m (fun i => ((z i : Nat) : Int)) → Ar w vp cp P → Ar w vx (z 0) x → Szs z m → cp = fsN z (m - 1) → Nb vs d → Nb vp d → Nb vx d → Uc w d c → MT w →
    Calls Tryz.prog 22 #[.pointer (some ⟨d, 0, none⟩), vs, vp, vx] w fun e w' => ∃ v', e = .returned (.tuple #[v', .int .i64 0]) ∧ (∀ d', d' < w.heap.size → Nb vx d' → Ls w' d' v' m z (vN z m P x)) ∧ Un d (c + vC z m P x (m - 1)) w w'
  fwdZ : ∀ (vs vp vx : Value) (m lp lx : Nat) (f P x : Nat → Int) (d : Nat) (c : Int) (w : World), m ≤ 100000 → Ar w vs m f → Ar w vp lp P → Ar w vx lx x → ¬ Rt f m → Uc w d c → MT w →
    Calls Tryz.prog 22 #[.pointer (some ⟨d, 0, none⟩), vs, vp, vx] w fun e w' => ∃ v', e = .returned (.tuple #[v', .int .i64 70]) ∧ Emp v' ∧ Un d c w w'
  fwdS : ∀ (vs vp vx : Value) (m lp lx : Nat) (z : Nat → Nat) (P x : Nat → Int) (d : Nat) (c : Int) (w : World), Ar w vs m (fun i => ((z i : Nat) : Int)) → Ar w vp lp P → Ar w vx lx x → Szs z m → ¬ (lp = fsN z (m - 1) ∧ lx = z 0) → Uc w d c → MT w →
    Calls Tryz.prog 22 #[.pointer (some ⟨d, 0, none⟩), vs, vp, vx] w fun e w' => ∃ v', e = .returned (.tuple #[v', .int .i64 40]) ∧ Emp v' ∧ Un d c w w'
/-- The first error of a net, a loss and an example; 0: none. -/
def rfE (f : Nat → Int) (m lp lx lt : Nat) (L : Int) (cp z0 zl : Nat) (E : Int) : Prop := (¬ Rt f m → E = 70) ∧ (Rt f m → ¬ (L = 1 ∨ L = 2) → E = 71) ∧ (Rt f m → (L = 1 ∨ L = 2) → ¬ (lp = cp ∧ lx = z0 ∧ lt = zl) → E = 40) ∧ (Rt f m → (L = 1 ∨ L = 2) → (lp = cp ∧ lx = z0 ∧ lt = zl) → E = 0)
structure Mlp4 : Prop where
  gradU : ∀ (s : Bool) (vs vp vx vt : Value) (m cp : Nat) (z : Nat → Nat) (P x t : Nat → Int) (d : Nat) (c : Int) (w : World), 0 ≤ c → c ≤ 100000 → Ar w vs m (fun i => ((z i : Nat) : Int)) → Ar w vp cp P → Ar w vx (z 0) x → Ar w vt (z (m - 1)) t → Szs z m → cp = fsN z (m - 1) → Nb vs d → Nb vp d → Nb vx d → Nb vt d → Uc w d c → MT w →
    Calls Tryz.prog 30 #[.pointer (some ⟨d, 0, none⟩), .int .i64 (lsK s), vs, vp, .agg #[vx, vt]] w fun e w' => ∃ v', e = .returned (.tuple #[v', .int .i64 (gdX s z m P x t), .int .i64 0]) ∧ Ar w' v' cp (gdG s z m P x t) ∧ Ow w.heap.size v' ∧ Un d (c + gdC s z m P x t) w w'
  gradN : ∀ (s : Bool) (vs vp vx vt : Value) (m cp : Nat) (z : Nat → Nat) (P x t : Nat → Int) (w : World), Ar w vs m (fun i => ((z i : Nat) : Int)) → Ar w vp cp P → Ar w vx (z 0) x → Ar w vt (z (m - 1)) t → Szs z m → cp = fsN z (m - 1) → MT w →
    Calls Tryz.prog 30 #[.pointer none, .int .i64 (lsK s), vs, vp, .agg #[vx, vt]] w fun e w' => ∃ v', e = .returned (.tuple #[v', .int .i64 (gdX s z m P x t), .int .i64 0]) ∧ Ar w' v' cp (gdG s z m P x t) ∧ Ow w.heap.size v' ∧ Below w.heap.size w w'
  gradE : ∀ (L : Int) (vs vp vx vt : Value) (m lp lx lt : Nat) (f P x t : Nat → Int) (z : Nat → Nat) (E : Int) (d : Nat) (c : Int) (w : World), m ≤ 100000 → Ar w vs m f → Ar w vp lp P → Ar w vx lx x → Ar w vt lt t → (∀ i, i < m → Rt f m → f i = ((z i : Nat) : Int)) → rfE f m lp lx lt L (fsN z (m - 1)) (z 0) (z (m - 1)) E → E ≠ 0 → Uc w d c → MT w →
    Calls Tryz.prog 30 #[.pointer (some ⟨d, 0, none⟩), .int .i64 L, vs, vp, .agg #[vx, vt]] w fun e w' => ∃ v', e = .returned (.tuple #[v', .int .i64 0, .int .i64 E]) ∧ Emp v' ∧ Un d c w w'
set_option maxRecDepth 100000 in
set_option maxHeartbeats 4000000 in
theorem plain7_any (va : Value) (n : Nat) (f : Nat → Int) (hn : n ≤ 70000) (w : World) (hA : Ar w va n f) :
    Calls Tryz.prog 19 #[va] w fun e w' => ∃ v', e = .returned v' ∧ Ar w' v' n f ∧ Ow w.heap.size v' ∧ Below w.heap.size w w' := by
  obtain ⟨i0, hi, hz0, hz1, hz2⟩ := info_parts dinfo_i64
  obtain ⟨adr, cap, b, o, rfl, k1, k2, k3, k4⟩ := hA
  unfold maxLen at k2
  have HA : Hid (∀ k, k < n → w.cell? ⟨b, o + k, none⟩ = some (.int .i64 (f k)) ∧ -9223372036854775808 ≤ f k ∧ f k ≤ 9223372036854775807) := k4
  have HK : Hid (0 < n → adr = some ⟨b, o, none⟩) := k3
  clear k3 k4
  go_enter Tryz.func19, Tryz.ntmps19
  go_wp2_with (at_make; refine wpList_make_own _ rfl _ _ 35 rfl w.heap.size 2 i0 (.int .i64 0) 1 Tryz.underlying35 hi hz0 hz1 .i64 .i64 (n : Int) n rfl rfl rfl (by rw [hz2]; omega) (by unfold maxLen; omega) (Nat.le_refl _) ?_; intro w1 hown hgrow)
  have hW1 : Below w.heap.size w w1 := (Below.refl _ w).grown hgrow (Nat.le_refl _) (fun k hk => by cases hk)
  clear hgrow
  go_wp2
  go_loopw [3, 11] (fun s3 s11 wr => ∃ j : Nat, j ≤ n ∧ s3 = .slice (some ⟨w.heap.size, 0, none⟩) j n ∧ s11 = .int .i64 (j : Int) ∧ wr.ownsRow w.heap.size 2 1 (.slice (some ⟨w.heap.size, 0, none⟩) j n) j (il f j) ∧ Below w.heap.size w wr) (fun _ s11 _ => n - (intOf s11).toNat)
  case atStart => exact ⟨0, by omega, rfl, rfl, hown, hW1⟩
  case round =>
    clear hown hW1
    obtain ⟨j, hj, rfl, rfl, hown, hW⟩ := hrel
    by_cases hlt : j < n
    · have hjI : (j : Int) < (n : Int) := by omega
      have ea := HK.out (by omega)
      subst ea
      obtain ⟨ca, a0, a1⟩ := HA.out j hlt
      have cA : wr.cell? ⟨b, o + j, none⟩ = some (.int .i64 (f j)) := (hW.cell (World.block_lt_of_cell? _ _ ca)).trans ca
      have bA := World.block_lt_of_cell? _ _ ca
      clear ca
      go_wp2_with (at_builtin; refine wpList_append_fits _ rfl _ _ 35 rfl w.heap.size 2 i0 1 Tryz.underlying35 hi hz1 w.heap.size j n _ rfl (hown.alloc _) ⟨wr.heap.size, 0, none⟩ 1 1 [.int .i64 (f j)] rfl rfl (cell_one_new _ _ _) (ints_oneCell .i64 [f j]) (by omega) ?_; intro w2 hown' hgrow)
      have hown3 : w2.ownsRow w.heap.size 2 1 (.slice (some ⟨w.heap.size, 0, none⟩) (j + 1) n) (j + 1) (il f (j + 1)) := by rw [il_succ]; exact hown'
      have hW3 : Below w.heap.size w w2 := dbelow_grown' hown hW hgrow rfl
      clear hown' hgrow hown hW
      go_wp2
      go_roundw
      case rel => exact ⟨j + 1, by omega, rfl, by go_num, hown3, hW3⟩
      case measure => simp [intOf]; omega
    · obtain rfl : j = n := by omega
      have HR : Hid (Ar wr (.slice (some ⟨w.heap.size, 0, none⟩) j j) j f ∧ Ow w.heap.size (.slice (some ⟨w.heap.size, 0, none⟩) j j)) := ar_of_own hown (fun k hk => (HA.out k hk).2)
      have HW : Hid (Below w.heap.size w wr) := hW
      clear hown hW
      go_wp2
      go_ret
      exact ⟨_, rfl, HR.out.1, HR.out.2, HW.out⟩
/-- Are lists short? -/
def shB (ns : Nat → Nat) (m : Nat) : Bool := (List.range m).all (fun k => decide (ns k ≤ 100))
theorem shB_no (ns : Nat → Nat) (m k : Nat) (hk : k < m) (h : 100 < ns k) : shB ns m = false := by
  cases hb : shB ns m with
  | false => rfl
  | true =>
    have := of_decide_eq_true (List.all_eq_true.1 hb k (List.mem_range.2 hk))
    omega
theorem shB_yes (ns : Nat → Nat) (m : Nat) (h : ∀ k, k < m → ns k ≤ 100) : shB ns m = true := List.all_eq_true.2 fun k hk => decide_eq_true (h k (List.mem_range.1 hk))
set_option maxHeartbeats 1000000 in
theorem short_any (g m cap : Nat) (ns : Nat → Nat) (hm : m ≤ 5) (h1 : m ≤ cap) (h2 : cap ≤ 100) (w : World) (hc : ∀ k, k < m → ns k ≤ maxLen ∧ ∃ (ad : Option Addr) (ca : Nat), w.cell? ⟨g, k, none⟩ = some (.slice ad (ns k) ca)) :
    Calls Tryz.prog 21 #[.slice (some ⟨g, 0, none⟩) m cap] w fun e w' => e = .returned (.bool (shB ns m)) ∧ w' = w := by
  have HC : Hid (∀ k, k < m → ns k ≤ maxLen ∧ ∃ (ad : Option Addr) (ca : Nat), w.cell? ⟨g, k, none⟩ = some (.slice ad (ns k) ca)) := hc
  clear hc
  obtain ⟨R, hR⟩ : ∃ R, shB ns m = R := ⟨_, rfl⟩
  have HR : Hid (shB ns m = R) := hR
  rw [hR]
  clear hR
  go_enter Tryz.func21, Tryz.ntmps21
  go_wp2
  go_loopw [7] (fun s7 wr => ∃ j : Nat, j ≤ m ∧ s7 = .int .i64 (j : Int) ∧ Hid (∀ k, k < j → ns k ≤ 100) ∧ wr = w) (fun s7 _ => m - (intOf s7).toNat)
  case atStart => exact ⟨0, by omega, rfl, fun k hk => by omega, rfl⟩
  case round =>
    obtain ⟨j, hj, rfl, hA, rfl⟩ := hrel
    by_cases hlt : j < m
    · have hjI : (j : Int) < (m : Int) := by omega
      obtain ⟨hl, ad, ca, hcell⟩ := HC.out j hlt
      unfold maxLen at hl
      by_cases h100 : ns j ≤ 100
      · have h2 : ¬ (100 : Int) < ((ns j : Nat) : Int) := by omega
        have HA2 : Hid (∀ k, k < j + 1 → ns k ≤ 100) := fun k hk => by
          rcases Nat.lt_or_ge k j with h | h
          · exact hA.out k h
          · obtain rfl : k = j := by omega
            exact h100
        clear hA h100
        go_wp2
        go_roundw
        case rel => exact ⟨j + 1, by omega, by go_num, HA2, trivial⟩
        case measure => simp [intOf]; omega
      · have h2 : (100 : Int) < ((ns j : Nat) : Int) := by omega
        have HF : Hid (R = false) := by show _ = _; rw [← HR.out]; exact shB_no ns m j hlt (by omega)
        clear hA h100 HR
        go_wp2
        go_ret
        exact ⟨by rw [HF.out]; rfl, rfl⟩
    · have HF : Hid (R = true) := by show _ = _; rw [← HR.out]; exact shB_yes ns m (fun k hk => hA.out k (by omega))
      have hjI : ¬ (j : Int) < (m : Int) := by omega
      clear hA HR
      go_wp2
      go_ret
      exact ⟨by rw [HF.out]; rfl, rfl⟩
end Go.Proofs.YtdfjnbkkdgolnaaGreatDoor
