/-
  Texts of this proof, joined: LawMB.
-/
import Derived.Test.YtcaficenocblfaaGreatDoorSU20
set_option linter.unusedVariables false
set_option linter.unusedSimpArgs false
namespace Go.Proofs.YtcaficenocblfaaGreatDoor
open Go.RowKit

def wtR (f : Nat → Int) (m lp : Nat) (z : Nat → Nat) (nx nt : Nat → Nat) (L : Int) (j : Nat) (wt : Int) : Prop :=
  Rt f m → (L = 1 ∨ L = 2) → (wt = 0 ∧ (0 < j → lp = fsN z (m - 1)) ∧ ∀ k, k < j → nx k = z 0 ∧ nt k = z (m - 1)) ∨ (wt = 40 ∧ ¬ (lp = fsN z (m - 1) ∧ ∀ k, k < j → nx k = z 0 ∧ nt k = z (m - 1)))
theorem wtR_nil (f : Nat → Int) (m lp : Nat) (z : Nat → Nat) (nx nt : Nat → Nat) (L : Int) : wtR f m lp z nx nt L 0 0 := fun _ _ => Or.inl ⟨rfl, fun h => by omega, fun k hk => by omega⟩
theorem wtR_on {f : Nat → Int} {m lp : Nat} {z : Nat → Nat} {nx nt : Nat → Nat} {L : Int} {j : Nat} {E : Int} (h : wtR f m lp z nx nt L j 0) (hE : rfE f m lp (nx j) (nt j) L (fsN z (m - 1)) (z 0) (z (m - 1)) E) : wtR f m lp z nx nt L (j + 1) E := fun hr hL => by
  rcases h hr hL with ⟨-, h1, h2⟩ | ⟨h0, -⟩
  · by_cases hc : lp = fsN z (m - 1) ∧ nx j = z 0 ∧ nt j = z (m - 1)
    · refine Or.inl ⟨hE.2.2.2 hr hL hc, fun _ => hc.1, fun k hk => ?_⟩
      rcases Nat.lt_or_ge k j with h | h
      · exact h2 k h
      · obtain rfl : k = j := by omega
        exact hc.2
    · exact Or.inr ⟨hE.2.2.1 hr hL hc, fun h => hc ⟨h.1, h.2 j (by omega)⟩⟩
  · omega
theorem wtR_stay {f : Nat → Int} {m lp : Nat} {z : Nat → Nat} {nx nt : Nat → Nat} {L : Int} {j : Nat} {wt : Int} (h : wtR f m lp z nx nt L j wt) (h0 : ¬ wt = 0) : wtR f m lp z nx nt L (j + 1) wt := fun hr hL => by
  rcases h hr hL with ⟨h1, -⟩ | ⟨h1, h2⟩
  · exact absurd h1 h0
  · exact Or.inr ⟨h1, fun h => h2 ⟨h.1, fun k hk => h.2 k (by omega)⟩⟩
theorem Exs.same {w : World} {d b o K : Nat} {nx nt : Nat → Nat} {xs ts : Nat → Nat → Int} (h : Exs w d b o K nx nt xs ts) {p q : Nat} (e : ∀ k, k < K → nx k = p ∧ nt k = q) : Exs w d b o K (fun _ => p) (fun _ => q) xs ts :=
  ⟨h.1, fun k hk => by obtain ⟨vx, vt, h1, h2, h3, h4, h5⟩ := h.2 k hk; rw [(e k hk).1] at h3; rw [(e k hk).2] at h4; exact ⟨vx, vt, h1, h2, h3, h4, h5⟩⟩
set_option maxRecDepth 100000 in
set_option maxHeartbeats 16000000 in
theorem mlpBatches_any (L : Int) (vs vp vE : Value) (m lp Kn : Nat) (f P : Nat → Int) (nx nt : Nat → Nat) (xs ts : Nat → Nat → Int) (w : World) (hA : Ar w vs m f) (hP : Ar w vp lp P) (hE : Exv w vE Kn nx nt xs ts) (hV : MT w) :
    Calls Tryz.prog 3 #[.agg #[vs, vp], .int .i64 L, vE] w fun e w' => e = .returned (.bool true) ∧ Below w.heap.size w w' := by
  obtain ⟨z, hz⟩ := zs_ex f m
  have HZz : Hid (Zs f m z) := hz
  have HAll : Hid (Ar w vs m f ∧ Ar w vp lp P ∧ Exv w vE Kn nx nt xs ts ∧ MT w) := ⟨hA, hP, hE, hV⟩
  obtain ⟨adr, cap, b, o, rfl, k1, k2, -, -⟩ := id hA
  obtain ⟨adp, cpp, bp, op, rfl, j1, j2, -, -⟩ := id hP
  obtain ⟨ade, cae, be, oe, rfl, i1, i2, i3, i4⟩ := id hE
  unfold maxLen at k2 j2 i2
  have HEc : Hid (∀ k, k < Kn → ∃ vx vt : Value, w.cell? ⟨be, oe + k * 2, none⟩ = some vx ∧ w.cell? ⟨be, oe + k * 2 + 1, none⟩ = some vt ∧ Ar w vx (nx k) (xs k) ∧ Ar w vt (nt k) (ts k)) := i4
  have HEk : Hid (0 < Kn → ade = some ⟨be, oe, none⟩) := i3
  have HAw : Hid (∀ W : World, Below w.heap.size w W → Calls Tryz.prog 4 #[] W fun e w' => e = .returned (.bool true) ∧ Below W.heap.size W w') := fun W hb => awake7_any mlp4 W (hV.later hb)
  have HFw : Hid (∀ W : World, Below w.heap.size w W → Calls Tryz.prog 5 #[.agg #[.slice adr m cap, .slice adp lp cpp]] W fun e w' => Tells e (fwP f m lp z) ∧ Below W.heap.size W w') := fun W hb => few7_any _ _ m lp f P z hz W (hA.later hb) (hP.later hb)
  have HRf : Hid (∀ (vx vt : Value) (lx lt : Nat) (x t : Nat → Int) (W : World), lp ≤ 400 → lx ≤ 100 → lt ≤ 100 → Below w.heap.size w W → Ar w vx lx x → Ar w vt lt t → Calls Tryz.prog 8 #[.agg #[.slice adr m cap, .slice adp lp cpp], .int .i64 L, .agg #[vx, vt]] W fun e w' => ∃ E : Int, e = .returned (.int .i64 E) ∧ rfE f m lp lx lt L (fsN z (m - 1)) (z 0) (z (m - 1)) E ∧ Below W.heap.size W w') := fun vx vt lx lt x t W h0 h1 h2 hb h3 h4 => refusal_any L _ _ vx vt m lp lx lt f P x t z hz (by omega) (by omega) (by omega) W (hA.later hb) (hP.later hb) (h3.later hb) (h4.later hb)
  have HCt : Hid (∀ W : World, Below w.heap.size w W → Calls Tryz.prog 10 #[.slice adr m cap] W fun e w' => ∃ C : Int, e = .returned (.int .i64 C) ∧ ctN f m z C ∧ Below W.heap.size W w') := fun W hb => count7_any _ m f z hz W (hA.later hb)
  obtain ⟨w1, hw1⟩ : ∃ w1, w1 = w.alloc (.cells #[.slice adr m cap, .slice adp lp cpp] 25) := ⟨_, rfl⟩
  have HB1 : Hid (Below w.heap.size w w1) := by rw [hw1]; exact bel1 _ _
  have HX1 : Hid (Bx w.heap.size (.slice adr m cap) (.slice adp lp cpp) w1) := by rw [hw1]; exact Bx.new w _ _ _
  clear hA hP hE hV hz i3 i4
  go_enter Tryz.func3, Tryz.ntmps3
  go_upto_region 1 with fail
  rw [← hw1]
  clear hw1
  go_wp2_with fail
  refine (HAw.out _ HB1.out).mono ?_
  rintro e w2 ⟨rfl, hb⟩
  have HB2 : Hid (Below w.heap.size w w2) := bchain HB1.out hb
  have HX2 : Hid (Bx w.heap.size (.slice adr m cap) (.slice adp lp cpp) w2) := HX1.out.later hb
  have x0 := HX2.out.c0
  have x1 := HX2.out.c1
  clear hb HB1 HX1 HAw
  go_wp2_with fail
  refine (HFw.out _ HB2.out).mono ?_
  rintro e w3 ⟨hT, hb⟩
  have HB3 : Hid (Below w.heap.size w w3) := bchain HB2.out hb
  have HX3 : Hid (Bx w.heap.size (.slice adr m cap) (.slice adp lp cpp) w3) := HX2.out.later hb
  clear hb HB2 HX2 HFw x0 x1
  by_cases hfw : fwP f m lp z
  · have e0 := hT.yes hfw
    subst e0
    clear hT
    have hmb : m ≤ 10 := hfw.1
    have hlb : lp ≤ 400 := hfw.2.1
    clear hfw
    by_cases hK : 70 < Kn
    · have hKI : (70 : Int) < (Kn : Int) := by omega
      go_wp2
      go_ret
      exact ⟨rfl, HB3.out⟩
    have hKI : ¬ (70 : Int) < (Kn : Int) := by omega
    obtain ⟨w5, hw5⟩ : ∃ w5, w5 = (w3.alloc (.cells #[.int .i64 0] 32)).alloc (.cells #[.int .i64 0] 35) := ⟨_, rfl⟩
    have HL5 : Hid (L2 w w3.heap.size (w3.heap.size + 1) 0 0 w5) := by rw [hw5]; exact units_new HB3.out _ _
    have HX5 : Hid (Bx w.heap.size (.slice adr m cap) (.slice adp lp cpp) w5) := by rw [hw5]; exact (HX3.out.later (bel1 _ _)).later (bel1 _ _)
    have hs5 : w5.heap.size = w3.heap.size + 1 + 1 := by rw [hw5]; simp only [World.size_alloc]
    have hs4 : w.heap.size < w3.heap.size := World.block_lt_of_cell? _ _ HX3.out.c0
    go_upto_region 6 with fail
    rw [← hw5]
    obtain ⟨du, hdu⟩ : ∃ du, w3.heap.size = du := ⟨_, rfl⟩
    obtain ⟨dv, hdv⟩ : ∃ dv, du + 1 = dv := ⟨_, rfl⟩
    rw [hdu] at HL5 hs5 hs4
    rw [hdv] at HL5
    try simp only [hdu, hdv]
    have hne : du ≠ dv := by omega
    have hdu0 : w.heap.size ≤ du := by omega
    have hdv0 : w.heap.size ≤ dv := by omega
    have hdv5 : dv < w5.heap.size := by omega
    have hwu : w.heap.size ≠ du := by omega
    have hwv : w.heap.size ≠ dv := by omega
    clear hw5 hdu hdv hs5 HB3 HX3 w3
    have y0 := HX5.out.c0
    have y1 := HX5.out.c1
    have CB := batchW_any L _ _ _ m lp Kn f P z nx nt xs ts du w w5 HZz.out HAll.out.1 HAll.out.2.1 HAll.out.2.2.1 HL5.out.B hdu0 HL5.out.u (MT.later HAll.out.2.2.2 HL5.out.B)
    go_wp2_with fail
    refine CB.mono ?_
    rintro e w6 ⟨gad, gn, gca, F, E, cu, rfl, hbt, hOg, hU6⟩
    have HL6 : Hid (L2 w du dv cu 0 w6) := HL5.out.unu hU6 hdu0 hne
    have HX6 : Hid (Bx w.heap.size (.slice adr m cap) (.slice adp lp cpp) w6) := HX5.out.un hU6 hwu
    have HBt : Hid (btR f m lp Kn z P nx nt xs ts L gad gn gca F E cu w6) := hbt
    have HOg : Hid (Nb (.slice gad gn gca) dv) := hOg.nb hdv5
    have hdv6 : dv < w6.heap.size := World.block_lt_of_cell? _ _ HL6.out.v.1
    clear CB hbt hOg hU6 HL5 HX5 y0 y1 hdv5
    go_upto_region 10 with fail
    go_loopw [12, 13, 46] (fun s12 s13 si wr => ∃ (j : Nat) (wt : Int), j ≤ Kn ∧ si = .int .i64 (j : Int) ∧ s12 = .int .i64 wt ∧ Hid (wtR f m lp z nx nt L j wt) ∧ Hid (Alx wr w6.heap.size dv s13 j nx nt xs ts) ∧ Hid (Below w6.heap.size w6 wr)) (fun _ _ si _ => Kn - (intOf si).toNat)
    case atStart => exact ⟨0, 0, by omega, rfl, rfl, wtR_nil _ _ _ _ _ _ _, ⟨[], World.ownsRow_nil _ _ _ _, fun k hk => by omega⟩, Below.refl _ _⟩
    case round =>
      obtain ⟨j, wt, hj, rfl, rfl, HWt, HAx, HW⟩ := hrel
      by_cases hlt : j < Kn
      · have hjI : (j : Int) < (Kn : Int) := by omega
        have ea := HEk.out (by omega)
        subst ea
        obtain ⟨vx, vt, c1, c2, a1, a2⟩ := HEc.out j hlt
        have HBr : Hid (Below w.heap.size w wr) := bchain HL6.out.B HW.out
        replace c1 := cell_later HBr.out c1
        replace c2 := cell_later HBr.out c2
        obtain ⟨adx, cax, bx, ox, rfl, e1, e2, -, -⟩ := id a1
        obtain ⟨adt, cat, bt, ot, rfl, e3, e4, -, -⟩ := id a2
        unfold maxLen at e2 e4
        have HXT : Hid (Ar w (.slice adx (nx j) cax) (nx j) (xs j) ∧ Ar w (.slice adt (nt j) cat) (nt j) (ts j)) := ⟨a1, a2⟩
        have HRE := HRf.out (.slice adx (nx j) cax) (.slice adt (nt j) cat) (nx j) (nt j) (xs j) (ts j)
        have HRE2 : Hid (∀ W : World, nx j ≤ 100 → nt j ≤ 100 → Below w.heap.size w W → Calls Tryz.prog 8 #[.agg #[.slice adr m cap, .slice adp lp cpp], .int .i64 L, .agg #[.slice adx (nx j) cax, .slice adt (nt j) cat]] W fun e w' => ∃ E : Int, e = .returned (.int .i64 E) ∧ rfE f m lp (nx j) (nt j) L (fsN z (m - 1)) (z 0) (z (m - 1)) E ∧ Below W.heap.size W w') := fun W h1 h2 hb => HRE W hlb h1 h2 hb a1 a2
        have HPx : Hid (∀ W : World, nx j ≤ 100 → Below w.heap.size w W → Calls Tryz.prog 9 #[.slice adx (nx j) cax] W fun e w' => ∃ v', e = .returned v' ∧ Ar w' v' (nx j) (xs j) ∧ Ow W.heap.size v' ∧ Below W.heap.size W w') := fun W h hb => plain7_any _ (nx j) (xs j) (by omega) W (a1.later hb)
        have HPt : Hid (∀ W : World, nt j ≤ 100 → Below w.heap.size w W → Calls Tryz.prog 9 #[.slice adt (nt j) cat] W fun e w' => ∃ v', e = .returned v' ∧ Ar w' v' (nt j) (ts j) ∧ Ow W.heap.size v' ∧ Below W.heap.size W w') := fun W h hb => plain7_any _ (nt j) (ts j) (by omega) W (a2.later hb)
        have HWon : Hid (∀ E' : Int, wt = 0 → rfE f m lp (nx j) (nt j) L (fsN z (m - 1)) (z 0) (z (m - 1)) E' → wtR f m lp z nx nt L (j + 1) E') := fun E' h0 h => by rw [h0] at HWt; exact wtR_on HWt.out h
        have HWst : Hid (¬ wt = 0 → wtR f m lp z nx nt L (j + 1) wt) := fun h0 => wtR_stay HWt.out h0
        have HGr : Hid (∀ (W W3 : World) (v' va vb : Value) (o : Obj) (cs : List Value), W.ownsRow w6.heap.size 48 2 u13 j cs → (∀ k, k < j → ∃ va vb : Value, (cs[k * 2]? = some va ∧ cs[k * 2 + 1]? = some vb) ∧ (Ar W va (nx k) (xs k) ∧ Nb va dv ∧ ∀ g, u13.ownBlock = some g → Nb va g) ∧ Ar W vb (nt k) (ts k) ∧ Nb vb dv ∧ ∀ g, u13.ownBlock = some g → Nb vb g) → Ar W va (nx j) (xs j) → Nb va dv → (∀ g, u13.ownBlock = some g → Nb va g) → Ar W vb (nt j) (ts j) → Nb vb dv → (∀ g, u13.ownBlock = some g → Nb vb g) → W3.ownsRow w6.heap.size 48 2 v' (j + 1) (cs ++ [va, vb]) → (W.alloc o).grownBy W3 u13.ownBlock → (v'.ownBlock = u13.ownBlock ∨ v'.ownBlock = some (W.alloc o).heap.size) → Alx W3 w6.heap.size dv v' (j + 1) nx nt xs ts) := fun W W3 v' va vb o cs h1 h2 h3 h4 h5 h6 h7 h8 h9 h10 h11 => alx_grow h1 h2 h3 h4 h5 h6 h7 h8 h9 h10 h11
        obtain ⟨we, hwe⟩ : ∃ we, we = wr.alloc (.cells #[.slice adx (nx j) cax, .slice adt (nt j) cat] 42) := ⟨_, rfl⟩
        have HYe : Hid (Bx wr.heap.size (.slice adx (nx j) cax) (.slice adt (nt j) cat) we) := by rw [hwe]; exact Bx.new wr _ _ _
        have HWe : Hid (Below w6.heap.size w6 we) := by rw [hwe]; exact bchain HW.out (bel1 _ _)
        obtain ⟨wf, hwf⟩ : ∃ wf, wf = we.alloc (.cells #[.slice adx (nx j) cax, .slice adt (nt j) cat] 23) := ⟨_, rfl⟩
        have HWf : Hid (Below w6.heap.size w6 wf) := by rw [hwf]; exact bchain HWe.out (bel1 _ _)
        have HYf : Hid (Bx wr.heap.size (.slice adx (nx j) cax) (.slice adt (nt j) cat) wf) := by rw [hwf]; exact HYe.out.later (bel1 _ _)
        have HXf : Hid (Bx w.heap.size (.slice adr m cap) (.slice adp lp cpp) wf) := HX6.out.later HWf.out
        have HAf : Hid (Alx wf w6.heap.size dv u13 j nx nt xs ts) := by rw [hwf, hwe]; exact (HAx.out.later (bel1 _ _)).later (bel1 _ _)
        have HSh : Hid (∃ B : Bool, (B = true → nx j ≤ 100 ∧ nt j ≤ 100) ∧ Calls Tryz.prog 7 #[.slice (some ⟨we.heap.size, 0, none⟩) 2 2] wf fun e w' => e = .returned (.bool B) ∧ w' = wf) := by
          obtain ⟨ns, hns⟩ : ∃ ns : Nat → Nat, ns = fun k => if k = 0 then nx j else nt j := ⟨_, rfl⟩
          have hn0 : ns 0 = nx j := by rw [hns]; rfl
          have hn1 : ns 1 = nt j := by rw [hns]; rfl
          refine ⟨shB ns 2, fun h => ?_, ?_⟩
          · have q0 := shB_le ns 2 h 0 (by omega)
            have q1 := shB_le ns 2 h 1 (by omega)
            rw [hn0] at q0
            rw [hn1] at q1
            exact ⟨q0, q1⟩
          · rw [hwf]
            refine short_any we.heap.size 2 2 ns (by omega) (by omega) (by omega) _ (fun k hk => ?_)
            have hB := Bx.new we (.slice adx (nx j) cax) (.slice adt (nt j) cat) 23
            rcases (by omega : k = 0 ∨ k = 1) with rfl | rfl
            · rw [hn0]; exact ⟨by unfold maxLen; omega, adx, cax, hB.c0⟩
            · rw [hn1]; exact ⟨by unfold maxLen; omega, adt, cat, hB.c1⟩
        have f0 := HYe.out.c0
        have f1 := HYe.out.c1
        obtain ⟨Bs, hBs, CSh⟩ := HSh.out
        have HBs : Hid (Bs = true → nx j ≤ 100 ∧ nt j ≤ 100) := hBs
        have HRw : Hid (¬ u13.ownBlock = some wr.heap.size) := fun e => by obtain ⟨cs, q1, -⟩ := HAx.out; have := (q1.lt _ e).2; omega
        clear HRE HWt HAx HSh a1 a2 hBs
        generalize nx j = lx at *
        generalize nt j = lt at *
        generalize xs j = fx at *
        generalize ts j = ft at *
        go_upto_region 12 with fail
        rw [← hwe]
        clear hwe c1 c2
        go_wp2_with fail
        rw [← hwf]
        refine CSh.mono ?_
        rintro e wz ⟨rfl, hzz⟩
        subst hzz
        clear hwf CSh f0 f1
        cases Bs with
        | false =>
          clear HBs
          go_wp2
          go_ret
          exact ⟨rfl, bchain HL6.out.B HWf.out⟩
        | true =>
          obtain ⟨hlx, hlt2⟩ := HBs.out rfl
          clear HBs HYe HWe
          have g0 := HXf.out.c0
          have g1 := HXf.out.c1
          have g2 := HYf.out.c0
          have g3 := HYf.out.c1
          by_cases hw0 : wt = 0
          subst hw0
          go_wp2_with fail
          refine (HRE2.out _ hlx hlt2 (bchain HL6.out.B HWf.out)).mono ?_
          rintro e w8 ⟨E8, rfl, hE8, hb8⟩
          have HW2 : Hid (wtR f m lp z nx nt L (j + 1) E8) := HWon.out E8 (by first | rfl | trivial) hE8
          have HWd : Hid (Below w6.heap.size w6 w8) := bchain HWf.out hb8
          have HYd : Hid (Bx wr.heap.size (.slice adx lx cax) (.slice adt lt cat) w8) := HYf.out.later hb8
          have HAd : Hid (Alx w8 w6.heap.size dv u13 j nx nt xs ts) := HAf.out.later hb8
          clear hE8 hb8 HWon HWst HRE2 HWf HYf HAf HXf g0 g1 g2 g3
          go_upto_region 16 with fail
          rotate_left
          have HW2 : Hid (wtR f m lp z nx nt L (j + 1) wt) := HWst.out hw0
          have hw0b : (wt == 0) = false := by simp [hw0]
          rename World => w8
          have HWd : Hid (Below w6.heap.size w6 w8) := HWf.out
          have HYd : Hid (Bx wr.heap.size (.slice adx lx cax) (.slice adt lt cat) w8) := HYf.out
          have HAd : Hid (Alx w8 w6.heap.size dv u13 j nx nt xs ts) := HAf.out
          clear HWon HWst HRE2 HWf HYf HAf HXf g0 g1 g2 g3
          go_upto_region 16 with fail
          clear hw0 hw0b
          all_goals
            have hbD : Below w8.heap.size w8 w8.drew := (Below.refl _ _).drew
            have HW9 : Hid (Below w6.heap.size w6 w8.drew) := bchain HWd.out hbD
            have HA9 : Hid (Alx w8.drew w6.heap.size dv u13 j nx nt xs ts) := HAd.out.later hbD
            refine wp_region_held_drew (S := fun W' => W'.cell? ⟨wr.heap.size, 0, none⟩ = some (.slice adx lx cax) ∧ W'.cell? ⟨wr.heap.size, 1, none⟩ = some (.slice adt lt cat)) (by kernel_rfl) ⟨cell_drew HYd.out.c0, cell_drew HYd.out.c1⟩ (fun HS => ?_)
            clear hbD HWd HYd HAd
            generalize w8.drew = w9 at *
            refine wpAnyH_take (i := 0) (v := ?_) rfl (by kernel_rfl) (by kernel_rfl) (by kernel_rfl) (fun _ _ _ h => h) (Or.inl ⟨by kernel_rfl, ?_⟩) HS ?_
            rotate_left
            · (rintro w ⟨s0, s1⟩; go_simp) <;> with_reducible rfl
            try simp only [Act.put, List.getElem_toArray, List.getElem_cons_succ, List.getElem_cons_zero, List.setIfInBounds_toArray, List.set_cons_zero, List.set_cons_succ]
            refine wpAnyH_take (i := 1) (v := ?_) rfl (by kernel_rfl) (by kernel_rfl) (by kernel_rfl) (fun _ _ _ h => h) (Or.inl ⟨by kernel_rfl, ?_⟩) HS ?_
            rotate_left
            · (rintro w ⟨s0, s1⟩; go_simp) <;> with_reducible rfl
            try simp only [Act.put, List.getElem_toArray, List.getElem_cons_succ, List.getElem_cons_zero, List.setIfInBounds_toArray, List.set_cons_zero, List.set_cons_succ]
            refine wpAnyH_take (i := 2) (v := ?_) rfl (by kernel_rfl) (by kernel_rfl) (by kernel_rfl) (fun _ _ _ h => h) (Or.inl ⟨by kernel_rfl, ?_⟩) HS ?_
            rotate_left
            · (rintro w ⟨s0, s1⟩; go_simp) <;> with_reducible rfl
            try simp only [Act.put, List.getElem_toArray, List.getElem_cons_succ, List.getElem_cons_zero, List.setIfInBounds_toArray, List.set_cons_zero, List.set_cons_succ]
            refine wpAnyH_take (i := 4) (v := ?_) rfl (by kernel_rfl) (by kernel_rfl) (by kernel_rfl) (fun _ _ _ h => h) (Or.inl ⟨by kernel_rfl, ?_⟩) HS ?_
            rotate_left
            · (rintro w ⟨s0, s1⟩; go_simp) <;> with_reducible rfl
            try simp only [Act.put, List.getElem_toArray, List.getElem_cons_succ, List.getElem_cons_zero, List.setIfInBounds_toArray, List.set_cons_zero, List.set_cons_succ]
            refine wpAnyH_take (i := 5) (v := ?_) rfl (by kernel_rfl) (by kernel_rfl) (by kernel_rfl) (fun _ _ _ h => h) (Or.inl ⟨by kernel_rfl, ?_⟩) HS ?_
            rotate_left
            · (rintro w ⟨s0, s1⟩; go_simp) <;> with_reducible rfl
            try simp only [Act.put, List.getElem_toArray, List.getElem_cons_succ, List.getElem_cons_zero, List.setIfInBounds_toArray, List.set_cons_zero, List.set_cons_succ]
            refine wpAnyH_ready (rs := [3]) (by kernel_rfl) (by simp) ?_
            refine AllReadyH.cons rfl (fun K hK => ?_) AllReadyH.nil
            go_simp
            refine (HPx.out _ hlx (bchain HL6.out.B HW9.out)).mono ?_
            rintro e w10 ⟨v10, rfl, hA10, hO10, hb10⟩
            refine hK.out _ _ ⟨cell_later hb10 HS.1, cell_later hb10 HS.2⟩ (fun HS => ?_)
            clear hK K
            have HWA : Hid (Below w6.heap.size w6 w10) := bchain HW9.out hb10
            have HN10 : Hid (Nb v10 dv ∧ ∀ g, u13.ownBlock = some g → Nb v10 g) := ⟨hO10.nb (by have := HW9.out.size; omega), fun g hg => by obtain ⟨cs, q1, -⟩ := HA9.out; exact hO10.nb (q1.lt g hg).2⟩
            have HA10 : Hid (Ar w10 v10 lx fx ∧ Alx w10 w6.heap.size dv u13 j nx nt xs ts) := ⟨hA10, HA9.out.later hb10⟩
            clear hA10 hO10 hb10 HW9 HA9 HPx
            refine wpAnyH_ready (rs := [6]) (by kernel_rfl) (by simp) ?_
            refine AllReadyH.cons rfl (fun K hK => ?_) AllReadyH.nil
            go_simp
            refine (HPt.out _ hlt2 (bchain HL6.out.B HWA.out)).mono ?_
            rintro e w11 ⟨v11, rfl, hA11, hO11, hb11⟩
            refine hK.out _ _ ⟨cell_later hb11 HS.1, cell_later hb11 HS.2⟩ (fun HS => ?_)
            clear hK K
            have HWB : Hid (Below w6.heap.size w6 w11) := bchain HWA.out hb11
            have HN11 : Hid (Nb v11 dv ∧ ∀ g, u13.ownBlock = some g → Nb v11 g) := ⟨hO11.nb (by have := HWA.out.size; omega), fun g hg => by obtain ⟨cs, q1, -⟩ := HA10.out.2; exact hO11.nb (q1.lt g hg).2⟩
            have hA10 := HA10.out.1.later hb11
            obtain ⟨cs, q1, q2⟩ := HA10.out.2.later hb11
            obtain ⟨ad10, ca10, b10, o10, rfl, -, -, -, -⟩ := id hA10
            obtain ⟨ad11, ca11, b11, o11, rfl, -, -, -, -⟩ := id hA11
            have HGo : Hid (∀ (W3 : World) (v' : Value) (o : Obj), W3.ownsRow w6.heap.size 48 2 v' (j + 1) (cs ++ [.slice ad10 lx ca10, .slice ad11 lt ca11]) → (w11.alloc o).grownBy W3 u13.ownBlock → (v'.ownBlock = u13.ownBlock ∨ v'.ownBlock = some (w11.alloc o).heap.size) → Alx W3 w6.heap.size dv v' (j + 1) nx nt xs ts) := fun W3 v' o h1 h2 h3 => HGr.out w11 W3 v' _ _ o cs q1 q2 hA10 HN10.out.1 HN10.out.2 hA11 HN11.out.1 HN11.out.2 h1 h2 h3
            have hown := q1
            clear hA10 hA11 hO11 hb11 HWA HA10 HPt HGr HN10 HN11 q1 q2
            refine wpAnyH_take (i := 7) (v := ?_) rfl (by kernel_rfl) (by kernel_rfl) (by kernel_rfl) (fun _ _ _ h => h) (Or.inl ⟨by kernel_rfl, ?_⟩) HS ?_
            rotate_left
            · (rintro w ⟨s0, s1⟩; go_simp) <;> with_reducible rfl
            try simp only [Act.put, List.getElem_toArray, List.getElem_cons_succ, List.getElem_cons_zero, List.setIfInBounds_toArray, List.set_cons_zero, List.set_cons_succ]
            refine wpAnyH_ready (rs := [8]) (by kernel_rfl) (by simp) ?_
            refine AllReadyH.cons rfl (fun K hK => ?_) AllReadyH.nil
            go_simp
            refine hK.out _ _ ⟨cell_later (bel1 _ _) HS.1, cell_later (bel1 _ _) HS.2⟩ (fun HS => ?_)
            clear hK K
            refine wpAnyH_ready (rs := [9]) (by kernel_rfl) (by simp) ?_
            refine AllReadyH.cons rfl (fun K hK => ?_) AllReadyH.nil
            rw [if_pos (by kernel_rfl)]
            refine wp_append_pair _ _ rfl w6.heap.size u13 j cs rfl (hown.alloc _) w11.heap.size (.slice ad10 lx ca10) (.slice ad11 lt ca11) rfl (by simp [go_sem]) (by simp [go_sem]) rfl rfl (by omega) (by have := HWB.out.size; rw [World.size_alloc]; omega) (fun v' w12 hown' hgrow hat => ?_)
            have HWC : Hid (Below w6.heap.size w6 w12) := (bchain HWB.out (bel1 w11 _)).grown hgrow (by have := HWB.out.size; rw [World.size_alloc]; omega) (fun k hk => (hown.lt k hk).1)
            have HAC : Hid (Alx w12 w6.heap.size dv v' (j + 1) nx nt xs ts) := HGo.out w12 v' _ hown' hgrow hat
            have s2 : w12.cell? ⟨wr.heap.size, 0, none⟩ = some (.slice adx lx cax) ∧ w12.cell? ⟨wr.heap.size, 1, none⟩ = some (.slice adt lt cat) := by
              have hn : some wr.heap.size ≠ u13.ownBlock := fun e => HRw.out e.symm
              have hlt3 := World.block_lt_of_cell? _ _ HS.1
              have e := hgrow.block wr.heap.size hlt3 hn
              exact ⟨(World.cell?_of_block (a := ⟨wr.heap.size, 0, none⟩) e).trans HS.1, (World.cell?_of_block (a := ⟨wr.heap.size, 1, none⟩) e).trans HS.2⟩
            refine hK.out _ _ s2 (fun HS => ?_)
            clear hK K hgrow hown hown' hat HGo s2 HWB
            refine wpAnyH_take (i := 10) (v := ?_) rfl (by kernel_rfl) (by kernel_rfl) (by kernel_rfl) (fun _ _ _ h => h) (Or.inl ⟨by kernel_rfl, ?_⟩) HS ?_
            rotate_left
            · (rintro w ⟨s0, s1⟩; go_simp) <;> with_reducible rfl
            try simp only [Act.put, List.getElem_toArray, List.getElem_cons_succ, List.getElem_cons_zero, List.setIfInBounds_toArray, List.set_cons_zero, List.set_cons_succ]
            refine wpAnyH_done (by kernel_rfl) ?_ _
            clear HS
            go_wp2
            go_roundw
            case rel => exact ⟨j + 1, _, by omega, by go_num, rfl, HW2, HAC, HWC⟩
            case measure => simp [intOf]; omega
      · obtain rfl : j = Kn := by omega
        have hjI : ¬ (j : Int) < (j : Int) := by omega
        have HLr : Hid (L2 w du dv cu 0 wr) := HL6.out.later HW.out
        have HXr : Hid (Bx w.heap.size (.slice adr m cap) (.slice adp lp cpp) wr) := HX6.out.later HW.out
        have y0 := HXr.out.c0
        have y1 := HXr.out.c1
        clear HEc HEk HRf
        go_upto_region 18 with fail
        go_wp2_with fail
        refine (HCt.out _ HLr.out.B).mono ?_
        rintro e w8 ⟨C, rfl, hC, hb8⟩
        have HL8 : Hid (L2 w du dv cu 0 w8) := HLr.out.later hb8
        have HX8 : Hid (Bx w.heap.size (.slice adr m cap) (.slice adp lp cpp) w8) := HXr.out.later hb8
        have HA8 : Hid (Alx w8 w6.heap.size dv u13 j nx nt xs ts) := HAx.out.later hb8
        have HW8 : Hid (Below w6.heap.size w6 w8) := bchain HW.out hb8
        clear hb8 HLr HXr HAx HW HCt y0 y1
        have CCn : Hid (∀ W : World, W.cell? ⟨du, 0, none⟩ = some (.int .i64 0) → Calls Tryz.prog 11 #[.pointer (some ⟨du, 0, none⟩)] W fun e w' => e = .returned (.int .i64 0) ∧ w' = W) := fun W h => count_any du 0 W h
        by_cases hr : Rt f m
        · have hC0 : ¬ C < 0 := by have := hC.1 hr; omega
          clear hC
          by_cases hL1 : L = 1
          · subst hL1
            have HS1 : Hid ((1 : Int) = lsK true) := rfl
            have HRt : Hid (Rt f m) := hr
            clear hr
            by_cases hK0 : j = 0
            · obtain ⟨e1, e2, e3, e4⟩ := HBt.out.1 (fun h => by have := h.2.2.1; omega)
              have e5 := e4.2.2.1 HRt.out (by omega) (by omega)
              have hK0I : (j : Int) = 0 := by omega
              subst e1 e2 e3 e5
              clear HBt e4
              have u0 := HL8.out.u.1
              go_wp2_with fail
              refine (CCn.out _ u0).mono ?_
              rintro e w9 ⟨rfl, hw9⟩
              subst hw9
              go_wp2
              go_ret
              exact ⟨rfl, HL8.out.B⟩
            by_cases hK6 : 64 < j
            · obtain ⟨e1, e2, e3, e4⟩ := HBt.out.1 (fun h => by have := h.2.2.1; omega)
              have e5 := e4.2.2.1 HRt.out (by omega) (by omega)
              have hK6I : (64 : Int) < (j : Int) := by omega
              have hK0I : ¬ (j : Int) = 0 := by omega
              have hK0B : ((j : Int) == 0) = false := beq_eq_false_iff_ne.2 hK0I
              subst e1 e2 e3 e5
              clear HBt e4
              have u0 := HL8.out.u.1
              go_wp2_with fail
              refine (CCn.out _ u0).mono ?_
              rintro e w9 ⟨rfl, hw9⟩
              subst hw9
              go_wp2
              go_ret
              exact ⟨rfl, HL8.out.B⟩
            have hK6I : ¬ (64 : Int) < (j : Int) := by omega
            have hK0I : ¬ (j : Int) = 0 := by omega
            have hK0B : ((j : Int) == 0) = false := beq_eq_false_iff_ne.2 hK0I
            rcases HWt.out HRt.out (by omega) with ⟨hw, hg1, hg2⟩ | ⟨hw, hg⟩
            · subst hw
              have hgd : gdP f m lp j z nx nt 1 := ⟨HRt.out, by omega, by omega, hg1 (by omega), hg2⟩
              obtain ⟨e1, e2, e3, e4, e5⟩ := HBt.out.2 true HS1.out hgd
              obtain ⟨hsz, hfz⟩ := HZz.out HRt.out
              have HGv := e5.later HW8.out
              obtain ⟨b13, ca13, rfl, t1, t2, hEx⟩ := HA8.out.exs (by omega) hdv6
              have HEx := hEx.same (p := z 0) (q := z (m - 1)) hg2
              have HNp : Hid (∀ W : World, Below w.heap.size w W → Calls Tryz.prog 12 #[.agg #[.slice adr m cap, .slice adp lp cpp]] W fun e w' => ∃ v', e = .returned (.agg #[.slice adr m cap, v']) ∧ Ar w' v' lp P ∧ Ow W.heap.size v' ∧ Below W.heap.size W w') := fun W hb => netplain_any _ _ m lp f P (by omega) W (HAll.out.1.later hb) (HAll.out.2.1.later hb)
              have HVb : Hid (∀ (W : World) (v9 : Value), Below w.heap.size w W → Below w8.heap.size w8 W → Ar W v9 lp P → Nb v9 dv → Uc W dv 0 → Calls Tryz.prog 13 #[.agg #[.slice adr m cap, v9], .pointer (some ⟨dv, 0, none⟩), .int .i64 1, .slice (some ⟨b13, 0, none⟩) j ca13] W fun e w' => ∃ v', e = .returned (.tuple #[v', .int .i64 F]) ∧ Ar w' v' lp (msX (fun k => gdG true z m P (xs k) (ts k)) j) ∧ Un dv cu W w') := fun W v9 hb hb8 h1 h2 h3 => by
                have h := batch_all true (.slice adr m cap) v9 m lp j b13 0 ca13 z P xs ts dv 0 (by omega) (by omega) (by omega) (by omega) t1 t2 W ((HAll.out.1.later hb).congr hfz) h1 (HEx.later hb8) hsz (hg1 (by omega)) (HAll.out.1.nb hdv0) h2 h3.1 h3.2
                rw [← e2, ← e3] at h
                exact h.mono (fun e w' ⟨v', h1, h2, _, h4⟩ => ⟨v', h1, h2, h4⟩)
              have HGg : Hid (Ar w8 (.slice gad gn gca) lp (msX (fun k => gdG true z m P (xs k) (ts k)) j) ∧ Nb (.slice gad gn gca) dv) := ⟨HGv, HOg.out⟩
              unfold maxLen at t2
              subst e4
              generalize msX (fun k => gdG true z m P (xs k) (ts k)) j = G at *
              clear HBt e1 e2 e3 e5 HGv hEx HEx HA8 hsz hfz hg1 hg2 hgd HS1 HWt HOg
              have y0 := HX8.out.c0
              have y1 := HX8.out.c1
              go_wp2_with fail
              refine (HNp.out _ HL8.out.B).mono ?_
              rintro e w9 ⟨v9, rfl, hA9, hO9, hb9⟩
              have HL9 : Hid (L2 w du dv cu 0 w9) := HL8.out.later hb9
              have H9 : Hid (Ar w9 (.slice gad gn gca) lp G) := HGg.out.1.later hb9
              have CV := HVb.out w9 v9 HL9.out.B hb9 hA9 (hO9.nb (World.block_lt_of_cell? _ _ HL8.out.v.1)) HL9.out.v
              clear hA9 hO9 hb9 HNp HVb y0 y1
              go_wp2_with fail
              refine CV.mono ?_
              rintro e w12 ⟨v12, rfl, hA12, hU12⟩
              have HL12 : Hid (L2 w du dv cu cu w12) := HL9.out.unv hU12 hdv0 hne
              have H12 : Hid (Ar w12 (.slice gad gn gca) lp G ∧ Ar w12 v12 lp G) := ⟨H9.out.un HGg.out.2 hU12, hA12⟩
              clear CV HL9 H9 HGg hA12 hU12 HL8 HX8 HW8
              go_upto_region 27 with fail
              have hbD : Below w12.heap.size w12 w12.drew := (Below.refl _ _).drew
              have HLD : Hid (L2 w du dv cu cu w12.drew) := HL12.out.later hbD
              have CP := plain7_any _ _ _ (by omega) w12.drew (H12.out.1.later hbD)
              have HD : Hid (Ar w12.drew v12 lp G) := H12.out.2.later hbD
              refine wp_region_held_drew (S := fun W' => W'.cell? ⟨dv, 0, none⟩ = some (.int .i64 cu)) (by kernel_rfl) (cell_drew HL12.out.v.1) (fun HS => ?_)
              clear hbD HL12 H12
              generalize w12.drew = wD at *
              refine wpAnyH_take (i := 0) (v := ?v1) rfl (by kernel_rfl) (by kernel_rfl) (by kernel_rfl) (fun _ _ _ h => h) (Or.inl ⟨by kernel_rfl, ?h1⟩) HS ?r1
              case h1 => (rintro w s1; go_simp) <;> with_reducible rfl
              try simp only [Act.put, List.getElem_toArray, List.getElem_cons_succ, List.getElem_cons_zero, List.setIfInBounds_toArray, List.set_cons_zero, List.set_cons_succ]
              refine wpAnyH_take (i := 1) (v := ?v2) rfl (by kernel_rfl) (by kernel_rfl) (by kernel_rfl) (fun _ _ _ h => h) (Or.inl ⟨by kernel_rfl, ?h2⟩) HS ?r2
              case h2 => (rintro w s1; go_simp) <;> with_reducible rfl
              try simp only [Act.put, List.getElem_toArray, List.getElem_cons_succ, List.getElem_cons_zero, List.setIfInBounds_toArray, List.set_cons_zero, List.set_cons_succ]
              refine wpAnyH_take (i := 2) (v := ?v3) rfl (by kernel_rfl) (by kernel_rfl) (by kernel_rfl) (fun _ _ _ h => h) (Or.inl ⟨by kernel_rfl, ?h3⟩) HS ?r3
              case h3 => (rintro w s1; go_simp) <;> with_reducible rfl
              try simp only [Act.put, List.getElem_toArray, List.getElem_cons_succ, List.getElem_cons_zero, List.setIfInBounds_toArray, List.set_cons_zero, List.set_cons_succ]
              refine wpAnyH_take (i := 3) (v := ?v4) rfl (by kernel_rfl) (by kernel_rfl) (by kernel_rfl) (fun _ _ _ h => h) (Or.inl ⟨by kernel_rfl, ?h4⟩) HS ?r4
              case h4 => (rintro w s1; go_simp) <;> with_reducible rfl
              try simp only [Act.put, List.getElem_toArray, List.getElem_cons_succ, List.getElem_cons_zero, List.setIfInBounds_toArray, List.set_cons_zero, List.set_cons_succ]
              refine wpAnyH_take (i := 5) (v := ?v5) rfl (by kernel_rfl) (by kernel_rfl) (by kernel_rfl) (fun _ _ _ h => h) (Or.inl ⟨by kernel_rfl, ?h5⟩) HS ?r5
              case h5 => (rintro w s1; go_simp) <;> with_reducible rfl
              try simp only [Act.put, List.getElem_toArray, List.getElem_cons_succ, List.getElem_cons_zero, List.setIfInBounds_toArray, List.set_cons_zero, List.set_cons_succ]
              refine wpAnyH_ready (rs := [4]) (by kernel_rfl) (by simp) ?_
              refine AllReadyH.cons rfl (fun K hK => ?_) AllReadyH.nil
              go_simp
              refine CP.mono ?_
              rintro e w13 ⟨v13, rfl, hA13, hO13, hb13⟩
              refine hK.out _ _ (cell_later hb13 HS) (fun HS => ?_)
              clear hK K
              have CS := same_yes _ _ _ _ (by omega) w13 hA13 (HD.out.later hb13)
              have HL13 : Hid (L2 w du dv cu cu w13) := HLD.out.later hb13
              clear CP HD hA13 hO13 hb13 HLD
              refine wpAnyH_ready (rs := [6]) (by kernel_rfl) (by simp) ?_
              refine AllReadyH.cons rfl (fun K hK => ?_) AllReadyH.nil
              go_simp
              refine CS.mono ?_
              rintro e w14 ⟨rfl, hb14⟩
              refine hK.out _ _ (cell_later hb14 HS) (fun HS => ?_)
              clear hK K
              have HL14 : Hid (L2 w du dv cu cu w14) := HL13.out.later hb14
              clear CS HL13 hb14
              refine wpAnyH_take (i := 7) (v := ?v6) rfl (by kernel_rfl) (by kernel_rfl) (by kernel_rfl) (fun _ _ _ h => h) (Or.inl ⟨by kernel_rfl, ?h6⟩) HS ?r6
              case h6 => (rintro w s1; go_simp) <;> with_reducible rfl
              try simp only [Act.put, List.getElem_toArray, List.getElem_cons_succ, List.getElem_cons_zero, List.setIfInBounds_toArray, List.set_cons_zero, List.set_cons_succ]
              refine wpAnyH_take (i := 8) (v := ?v7) rfl (by kernel_rfl) (by kernel_rfl) (by kernel_rfl) (fun _ _ _ h => h) (Or.inl ⟨by kernel_rfl, ?h7⟩) HS ?r7
              case h7 => (rintro w s1; go_simp) <;> with_reducible rfl
              try simp only [Act.put, List.getElem_toArray, List.getElem_cons_succ, List.getElem_cons_zero, List.setIfInBounds_toArray, List.set_cons_zero, List.set_cons_succ]
              refine wpAnyH_take (i := 9) (v := ?v8) rfl (by kernel_rfl) (by kernel_rfl) (by kernel_rfl) (fun _ _ _ h => h) (Or.inl ⟨by kernel_rfl, ?h8⟩) HS ?r8
              case h8 => (rintro w s1; go_simp) <;> with_reducible rfl
              try simp only [Act.put, List.getElem_toArray, List.getElem_cons_succ, List.getElem_cons_zero, List.setIfInBounds_toArray, List.set_cons_zero, List.set_cons_succ]
              refine wpAnyH_take (i := 10) (v := ?v9) rfl (by kernel_rfl) (by kernel_rfl) (by kernel_rfl) (fun _ _ _ h => h) (Or.inl ⟨by kernel_rfl, ?h9⟩) HS ?r9
              case h9 => (rintro w s1; go_simp) <;> with_reducible rfl
              try simp only [Act.put, List.getElem_toArray, List.getElem_cons_succ, List.getElem_cons_zero, List.setIfInBounds_toArray, List.set_cons_zero, List.set_cons_succ]
              refine wpAnyH_take (i := 11) (v := ?v10) rfl (by kernel_rfl) (by kernel_rfl) (by kernel_rfl) (fun _ _ _ h => h) (Or.inl ⟨by kernel_rfl, ?h10⟩) HS ?r10
              case h10 => (rintro w s1; go_simp) <;> with_reducible rfl
              try simp only [Act.put, List.getElem_toArray, List.getElem_cons_succ, List.getElem_cons_zero, List.setIfInBounds_toArray, List.set_cons_zero, List.set_cons_succ]
              refine wpAnyH_take (i := 12) (v := ?v11) rfl (by kernel_rfl) (by kernel_rfl) (by kernel_rfl) (fun _ _ _ h => h) (Or.inl ⟨by kernel_rfl, ?h11⟩) HS ?r11
              case h11 => (rintro w s1; go_simp) <;> with_reducible rfl
              try simp only [Act.put, List.getElem_toArray, List.getElem_cons_succ, List.getElem_cons_zero, List.setIfInBounds_toArray, List.set_cons_zero, List.set_cons_succ]
              refine wpAnyH_take (i := 13) (v := ?v12) rfl (by kernel_rfl) (by kernel_rfl) (by kernel_rfl) (fun _ _ _ h => h) (Or.inl ⟨by kernel_rfl, ?h12⟩) HS ?r12
              case h12 => (rintro w s1; go_simp) <;> with_reducible rfl
              try simp only [Act.put, List.getElem_toArray, List.getElem_cons_succ, List.getElem_cons_zero, List.setIfInBounds_toArray, List.set_cons_zero, List.set_cons_succ]
              refine wpAnyH_take (i := 14) (v := ?v13) rfl (by kernel_rfl) (by kernel_rfl) (by kernel_rfl) (fun _ _ _ h => h) (Or.inl ⟨by kernel_rfl, ?h13⟩) HS ?r13
              case h13 => (rintro w s1; go_simp) <;> with_reducible rfl
              try simp only [Act.put, List.getElem_toArray, List.getElem_cons_succ, List.getElem_cons_zero, List.setIfInBounds_toArray, List.set_cons_zero, List.set_cons_succ]
              refine wpAnyH_take (i := 16) (v := ?v14) rfl (by kernel_rfl) (by kernel_rfl) (by kernel_rfl) (fun _ _ _ h => h) (Or.inl ⟨by kernel_rfl, ?h14⟩) HS ?r14
              case h14 => (rintro w s1; go_simp) <;> with_reducible rfl
              try simp only [Act.put, List.getElem_toArray, List.getElem_cons_succ, List.getElem_cons_zero, List.setIfInBounds_toArray, List.set_cons_zero, List.set_cons_succ]
              refine wpAnyH_take (i := 17) (v := ?v15) rfl (by kernel_rfl) (by kernel_rfl) (by kernel_rfl) (fun _ _ _ h => h) (Or.inl ⟨by kernel_rfl, ?h15⟩) HS ?r15
              case h15 => (rintro w s1; go_simp) <;> with_reducible rfl
              try simp only [Act.put, List.getElem_toArray, List.getElem_cons_succ, List.getElem_cons_zero, List.setIfInBounds_toArray, List.set_cons_zero, List.set_cons_succ]
              refine wpAnyH_take (i := 18) (v := ?v16) rfl (by kernel_rfl) (by kernel_rfl) (by kernel_rfl) (fun _ _ _ h => h) (Or.inl ⟨by kernel_rfl, ?h16⟩) HS ?r16
              case h16 => (rintro w s1; go_simp) <;> with_reducible rfl
              try simp only [Act.put, List.getElem_toArray, List.getElem_cons_succ, List.getElem_cons_zero, List.setIfInBounds_toArray, List.set_cons_zero, List.set_cons_succ]
              refine wpAnyH_take (i := 19) (v := ?v17) rfl (by kernel_rfl) (by kernel_rfl) (by kernel_rfl) (fun _ _ _ h => h) (Or.inl ⟨by kernel_rfl, ?h17⟩) HS ?r17
              case h17 => (rintro w s1; go_simp) <;> with_reducible rfl
              try simp only [Act.put, List.getElem_toArray, List.getElem_cons_succ, List.getElem_cons_zero, List.setIfInBounds_toArray, List.set_cons_zero, List.set_cons_succ]
              refine wpAnyH_ready (rs := [15]) (by kernel_rfl) (by simp) ?_
              refine AllReadyH.cons rfl (fun K hK => ?_) AllReadyH.nil
              go_simp
              refine (count_any du cu w14 HL14.out.u.1).mono ?_
              rintro e w15 ⟨rfl, rfl⟩
              refine hK.out _ _ HS (fun HS => ?_)
              clear hK K
              refine wpAnyH_take (i := 20) (v := ?v18) rfl (by kernel_rfl) (by kernel_rfl) (by kernel_rfl) (fun _ _ _ h => h) (Or.inl ⟨by kernel_rfl, ?h18⟩) HS ?r18
              case h18 => (rintro w s1; go_simp) <;> with_reducible rfl
              try simp only [Act.put, List.getElem_toArray, List.getElem_cons_succ, List.getElem_cons_zero, List.setIfInBounds_toArray, List.set_cons_zero, List.set_cons_succ]
              refine wpAnyH_take (i := 21) (v := ?v19) rfl (by kernel_rfl) (by kernel_rfl) (by kernel_rfl) (fun _ _ _ h => h) (Or.inl ⟨by kernel_rfl, ?h19⟩) HS ?r19
              case h19 => (rintro w s1; go_simp) <;> with_reducible rfl
              try simp only [Act.put, List.getElem_toArray, List.getElem_cons_succ, List.getElem_cons_zero, List.setIfInBounds_toArray, List.set_cons_zero, List.set_cons_succ]
              refine wpAnyH_take (i := 22) (v := ?v20) rfl (by kernel_rfl) (by kernel_rfl) (by kernel_rfl) (fun _ _ _ h => h) (Or.inl ⟨by kernel_rfl, ?h20⟩) HS ?r20
              case h20 => (rintro w s1; go_simp) <;> with_reducible rfl
              try simp only [Act.put, List.getElem_toArray, List.getElem_cons_succ, List.getElem_cons_zero, List.setIfInBounds_toArray, List.set_cons_zero, List.set_cons_succ]
              refine wpAnyH_done (by kernel_rfl) ?_ _
              clear HS
              go_wp2
              go_ret
              exact ⟨rfl, HL14.out.B⟩
            · obtain ⟨e1, e2, e3, e4⟩ := HBt.out.1 (fun h => hg h.2.2.2)
              have e5 := e4.2.2.2 HRt.out (by omega) (by omega) hg
              subst hw e1 e2 e3 e5
              clear HBt e4 hg
              have u0 := HL8.out.u.1
              go_wp2_with fail
              refine (CCn.out _ u0).mono ?_
              rintro e w9 ⟨rfl, hw9⟩
              subst hw9
              go_wp2
              go_ret
              exact ⟨rfl, HL8.out.B⟩
          · by_cases hL2 : L = 2
            · subst hL2
              clear hL1
              have HS1 : Hid ((2 : Int) = lsK false) := rfl
              have HRt : Hid (Rt f m) := hr
              clear hr
              by_cases hK0 : j = 0
              · obtain ⟨e1, e2, e3, e4⟩ := HBt.out.1 (fun h => by have := h.2.2.1; omega)
                have e5 := e4.2.2.1 HRt.out (by omega) (by omega)
                have hK0I : (j : Int) = 0 := by omega
                subst e1 e2 e3 e5
                clear HBt e4
                have u0 := HL8.out.u.1
                go_wp2_with fail
                refine (CCn.out _ u0).mono ?_
                rintro e w9 ⟨rfl, hw9⟩
                subst hw9
                go_wp2
                go_ret
                exact ⟨rfl, HL8.out.B⟩
              by_cases hK6 : 64 < j
              · obtain ⟨e1, e2, e3, e4⟩ := HBt.out.1 (fun h => by have := h.2.2.1; omega)
                have e5 := e4.2.2.1 HRt.out (by omega) (by omega)
                have hK6I : (64 : Int) < (j : Int) := by omega
                have hK0I : ¬ (j : Int) = 0 := by omega
                have hK0B : ((j : Int) == 0) = false := beq_eq_false_iff_ne.2 hK0I
                subst e1 e2 e3 e5
                clear HBt e4
                have u0 := HL8.out.u.1
                go_wp2_with fail
                refine (CCn.out _ u0).mono ?_
                rintro e w9 ⟨rfl, hw9⟩
                subst hw9
                go_wp2
                go_ret
                exact ⟨rfl, HL8.out.B⟩
              have hK6I : ¬ (64 : Int) < (j : Int) := by omega
              have hK0I : ¬ (j : Int) = 0 := by omega
              have hK0B : ((j : Int) == 0) = false := beq_eq_false_iff_ne.2 hK0I
              rcases HWt.out HRt.out (by omega) with ⟨hw, hg1, hg2⟩ | ⟨hw, hg⟩
              · subst hw
                have hgd : gdP f m lp j z nx nt 2 := ⟨HRt.out, by omega, by omega, hg1 (by omega), hg2⟩
                obtain ⟨e1, e2, e3, e4, e5⟩ := HBt.out.2 false HS1.out hgd
                obtain ⟨hsz, hfz⟩ := HZz.out HRt.out
                have HGv := e5.later HW8.out
                obtain ⟨b13, ca13, rfl, t1, t2, hEx⟩ := HA8.out.exs (by omega) hdv6
                have HEx := hEx.same (p := z 0) (q := z (m - 1)) hg2
                have HNp : Hid (∀ W : World, Below w.heap.size w W → Calls Tryz.prog 12 #[.agg #[.slice adr m cap, .slice adp lp cpp]] W fun e w' => ∃ v', e = .returned (.agg #[.slice adr m cap, v']) ∧ Ar w' v' lp P ∧ Ow W.heap.size v' ∧ Below W.heap.size W w') := fun W hb => netplain_any _ _ m lp f P (by omega) W (HAll.out.1.later hb) (HAll.out.2.1.later hb)
                have HVb : Hid (∀ (W : World) (v9 : Value), Below w.heap.size w W → Below w8.heap.size w8 W → Ar W v9 lp P → Nb v9 dv → Uc W dv 0 → Calls Tryz.prog 13 #[.agg #[.slice adr m cap, v9], .pointer (some ⟨dv, 0, none⟩), .int .i64 2, .slice (some ⟨b13, 0, none⟩) j ca13] W fun e w' => ∃ v', e = .returned (.tuple #[v', .int .i64 F]) ∧ Ar w' v' lp (msX (fun k => gdG false z m P (xs k) (ts k)) j) ∧ Un dv cu W w') := fun W v9 hb hb8 h1 h2 h3 => by
                  have h := batch_all false (.slice adr m cap) v9 m lp j b13 0 ca13 z P xs ts dv 0 (by omega) (by omega) (by omega) (by omega) t1 t2 W ((HAll.out.1.later hb).congr hfz) h1 (HEx.later hb8) hsz (hg1 (by omega)) (HAll.out.1.nb hdv0) h2 h3.1 h3.2
                  rw [← e2, ← e3] at h
                  exact h.mono (fun e w' ⟨v', h1, h2, _, h4⟩ => ⟨v', h1, h2, h4⟩)
                have HGg : Hid (Ar w8 (.slice gad gn gca) lp (msX (fun k => gdG false z m P (xs k) (ts k)) j) ∧ Nb (.slice gad gn gca) dv) := ⟨HGv, HOg.out⟩
                unfold maxLen at t2
                subst e4
                generalize msX (fun k => gdG false z m P (xs k) (ts k)) j = G at *
                clear HBt e1 e2 e3 e5 HGv hEx HEx HA8 hsz hfz hg1 hg2 hgd HS1 HWt HOg
                have y0 := HX8.out.c0
                have y1 := HX8.out.c1
                go_wp2_with fail
                refine (HNp.out _ HL8.out.B).mono ?_
                rintro e w9 ⟨v9, rfl, hA9, hO9, hb9⟩
                have HL9 : Hid (L2 w du dv cu 0 w9) := HL8.out.later hb9
                have H9 : Hid (Ar w9 (.slice gad gn gca) lp G) := HGg.out.1.later hb9
                have CV := HVb.out w9 v9 HL9.out.B hb9 hA9 (hO9.nb (World.block_lt_of_cell? _ _ HL8.out.v.1)) HL9.out.v
                clear hA9 hO9 hb9 HNp HVb y0 y1
                go_wp2_with fail
                refine CV.mono ?_
                rintro e w12 ⟨v12, rfl, hA12, hU12⟩
                have HL12 : Hid (L2 w du dv cu cu w12) := HL9.out.unv hU12 hdv0 hne
                have H12 : Hid (Ar w12 (.slice gad gn gca) lp G ∧ Ar w12 v12 lp G) := ⟨H9.out.un HGg.out.2 hU12, hA12⟩
                clear CV HL9 H9 HGg hA12 hU12 HL8 HX8 HW8
                go_upto_region 27 with fail
                have hbD : Below w12.heap.size w12 w12.drew := (Below.refl _ _).drew
                have HLD : Hid (L2 w du dv cu cu w12.drew) := HL12.out.later hbD
                have CP := plain7_any _ _ _ (by omega) w12.drew (H12.out.1.later hbD)
                have HD : Hid (Ar w12.drew v12 lp G) := H12.out.2.later hbD
                refine wp_region_held_drew (S := fun W' => W'.cell? ⟨dv, 0, none⟩ = some (.int .i64 cu)) (by kernel_rfl) (cell_drew HL12.out.v.1) (fun HS => ?_)
                clear hbD HL12 H12
                generalize w12.drew = wD at *
                refine wpAnyH_take (i := 0) (v := ?v21) rfl (by kernel_rfl) (by kernel_rfl) (by kernel_rfl) (fun _ _ _ h => h) (Or.inl ⟨by kernel_rfl, ?h21⟩) HS ?r21
                case h21 => (rintro w s1; go_simp) <;> with_reducible rfl
                try simp only [Act.put, List.getElem_toArray, List.getElem_cons_succ, List.getElem_cons_zero, List.setIfInBounds_toArray, List.set_cons_zero, List.set_cons_succ]
                refine wpAnyH_take (i := 1) (v := ?v22) rfl (by kernel_rfl) (by kernel_rfl) (by kernel_rfl) (fun _ _ _ h => h) (Or.inl ⟨by kernel_rfl, ?h22⟩) HS ?r22
                case h22 => (rintro w s1; go_simp) <;> with_reducible rfl
                try simp only [Act.put, List.getElem_toArray, List.getElem_cons_succ, List.getElem_cons_zero, List.setIfInBounds_toArray, List.set_cons_zero, List.set_cons_succ]
                refine wpAnyH_take (i := 2) (v := ?v23) rfl (by kernel_rfl) (by kernel_rfl) (by kernel_rfl) (fun _ _ _ h => h) (Or.inl ⟨by kernel_rfl, ?h23⟩) HS ?r23
                case h23 => (rintro w s1; go_simp) <;> with_reducible rfl
                try simp only [Act.put, List.getElem_toArray, List.getElem_cons_succ, List.getElem_cons_zero, List.setIfInBounds_toArray, List.set_cons_zero, List.set_cons_succ]
                refine wpAnyH_take (i := 3) (v := ?v24) rfl (by kernel_rfl) (by kernel_rfl) (by kernel_rfl) (fun _ _ _ h => h) (Or.inl ⟨by kernel_rfl, ?h24⟩) HS ?r24
                case h24 => (rintro w s1; go_simp) <;> with_reducible rfl
                try simp only [Act.put, List.getElem_toArray, List.getElem_cons_succ, List.getElem_cons_zero, List.setIfInBounds_toArray, List.set_cons_zero, List.set_cons_succ]
                refine wpAnyH_take (i := 5) (v := ?v25) rfl (by kernel_rfl) (by kernel_rfl) (by kernel_rfl) (fun _ _ _ h => h) (Or.inl ⟨by kernel_rfl, ?h25⟩) HS ?r25
                case h25 => (rintro w s1; go_simp) <;> with_reducible rfl
                try simp only [Act.put, List.getElem_toArray, List.getElem_cons_succ, List.getElem_cons_zero, List.setIfInBounds_toArray, List.set_cons_zero, List.set_cons_succ]
                refine wpAnyH_ready (rs := [4]) (by kernel_rfl) (by simp) ?_
                refine AllReadyH.cons rfl (fun K hK => ?_) AllReadyH.nil
                go_simp
                refine CP.mono ?_
                rintro e w13 ⟨v13, rfl, hA13, hO13, hb13⟩
                refine hK.out _ _ (cell_later hb13 HS) (fun HS => ?_)
                clear hK K
                have CS := same_yes _ _ _ _ (by omega) w13 hA13 (HD.out.later hb13)
                have HL13 : Hid (L2 w du dv cu cu w13) := HLD.out.later hb13
                clear CP HD hA13 hO13 hb13 HLD
                refine wpAnyH_ready (rs := [6]) (by kernel_rfl) (by simp) ?_
                refine AllReadyH.cons rfl (fun K hK => ?_) AllReadyH.nil
                go_simp
                refine CS.mono ?_
                rintro e w14 ⟨rfl, hb14⟩
                refine hK.out _ _ (cell_later hb14 HS) (fun HS => ?_)
                clear hK K
                have HL14 : Hid (L2 w du dv cu cu w14) := HL13.out.later hb14
                clear CS HL13 hb14
                refine wpAnyH_take (i := 7) (v := ?v26) rfl (by kernel_rfl) (by kernel_rfl) (by kernel_rfl) (fun _ _ _ h => h) (Or.inl ⟨by kernel_rfl, ?h26⟩) HS ?r26
                case h26 => (rintro w s1; go_simp) <;> with_reducible rfl
                try simp only [Act.put, List.getElem_toArray, List.getElem_cons_succ, List.getElem_cons_zero, List.setIfInBounds_toArray, List.set_cons_zero, List.set_cons_succ]
                refine wpAnyH_take (i := 8) (v := ?v27) rfl (by kernel_rfl) (by kernel_rfl) (by kernel_rfl) (fun _ _ _ h => h) (Or.inl ⟨by kernel_rfl, ?h27⟩) HS ?r27
                case h27 => (rintro w s1; go_simp) <;> with_reducible rfl
                try simp only [Act.put, List.getElem_toArray, List.getElem_cons_succ, List.getElem_cons_zero, List.setIfInBounds_toArray, List.set_cons_zero, List.set_cons_succ]
                refine wpAnyH_take (i := 9) (v := ?v28) rfl (by kernel_rfl) (by kernel_rfl) (by kernel_rfl) (fun _ _ _ h => h) (Or.inl ⟨by kernel_rfl, ?h28⟩) HS ?r28
                case h28 => (rintro w s1; go_simp) <;> with_reducible rfl
                try simp only [Act.put, List.getElem_toArray, List.getElem_cons_succ, List.getElem_cons_zero, List.setIfInBounds_toArray, List.set_cons_zero, List.set_cons_succ]
                refine wpAnyH_take (i := 10) (v := ?v29) rfl (by kernel_rfl) (by kernel_rfl) (by kernel_rfl) (fun _ _ _ h => h) (Or.inl ⟨by kernel_rfl, ?h29⟩) HS ?r29
                case h29 => (rintro w s1; go_simp) <;> with_reducible rfl
                try simp only [Act.put, List.getElem_toArray, List.getElem_cons_succ, List.getElem_cons_zero, List.setIfInBounds_toArray, List.set_cons_zero, List.set_cons_succ]
                refine wpAnyH_take (i := 11) (v := ?v30) rfl (by kernel_rfl) (by kernel_rfl) (by kernel_rfl) (fun _ _ _ h => h) (Or.inl ⟨by kernel_rfl, ?h30⟩) HS ?r30
                case h30 => (rintro w s1; go_simp) <;> with_reducible rfl
                try simp only [Act.put, List.getElem_toArray, List.getElem_cons_succ, List.getElem_cons_zero, List.setIfInBounds_toArray, List.set_cons_zero, List.set_cons_succ]
                refine wpAnyH_take (i := 12) (v := ?v31) rfl (by kernel_rfl) (by kernel_rfl) (by kernel_rfl) (fun _ _ _ h => h) (Or.inl ⟨by kernel_rfl, ?h31⟩) HS ?r31
                case h31 => (rintro w s1; go_simp) <;> with_reducible rfl
                try simp only [Act.put, List.getElem_toArray, List.getElem_cons_succ, List.getElem_cons_zero, List.setIfInBounds_toArray, List.set_cons_zero, List.set_cons_succ]
                refine wpAnyH_take (i := 13) (v := ?v32) rfl (by kernel_rfl) (by kernel_rfl) (by kernel_rfl) (fun _ _ _ h => h) (Or.inl ⟨by kernel_rfl, ?h32⟩) HS ?r32
                case h32 => (rintro w s1; go_simp) <;> with_reducible rfl
                try simp only [Act.put, List.getElem_toArray, List.getElem_cons_succ, List.getElem_cons_zero, List.setIfInBounds_toArray, List.set_cons_zero, List.set_cons_succ]
                refine wpAnyH_take (i := 14) (v := ?v33) rfl (by kernel_rfl) (by kernel_rfl) (by kernel_rfl) (fun _ _ _ h => h) (Or.inl ⟨by kernel_rfl, ?h33⟩) HS ?r33
                case h33 => (rintro w s1; go_simp) <;> with_reducible rfl
                try simp only [Act.put, List.getElem_toArray, List.getElem_cons_succ, List.getElem_cons_zero, List.setIfInBounds_toArray, List.set_cons_zero, List.set_cons_succ]
                refine wpAnyH_take (i := 16) (v := ?v34) rfl (by kernel_rfl) (by kernel_rfl) (by kernel_rfl) (fun _ _ _ h => h) (Or.inl ⟨by kernel_rfl, ?h34⟩) HS ?r34
                case h34 => (rintro w s1; go_simp) <;> with_reducible rfl
                try simp only [Act.put, List.getElem_toArray, List.getElem_cons_succ, List.getElem_cons_zero, List.setIfInBounds_toArray, List.set_cons_zero, List.set_cons_succ]
                refine wpAnyH_take (i := 17) (v := ?v35) rfl (by kernel_rfl) (by kernel_rfl) (by kernel_rfl) (fun _ _ _ h => h) (Or.inl ⟨by kernel_rfl, ?h35⟩) HS ?r35
                case h35 => (rintro w s1; go_simp) <;> with_reducible rfl
                try simp only [Act.put, List.getElem_toArray, List.getElem_cons_succ, List.getElem_cons_zero, List.setIfInBounds_toArray, List.set_cons_zero, List.set_cons_succ]
                refine wpAnyH_take (i := 18) (v := ?v36) rfl (by kernel_rfl) (by kernel_rfl) (by kernel_rfl) (fun _ _ _ h => h) (Or.inl ⟨by kernel_rfl, ?h36⟩) HS ?r36
                case h36 => (rintro w s1; go_simp) <;> with_reducible rfl
                try simp only [Act.put, List.getElem_toArray, List.getElem_cons_succ, List.getElem_cons_zero, List.setIfInBounds_toArray, List.set_cons_zero, List.set_cons_succ]
                refine wpAnyH_take (i := 19) (v := ?v37) rfl (by kernel_rfl) (by kernel_rfl) (by kernel_rfl) (fun _ _ _ h => h) (Or.inl ⟨by kernel_rfl, ?h37⟩) HS ?r37
                case h37 => (rintro w s1; go_simp) <;> with_reducible rfl
                try simp only [Act.put, List.getElem_toArray, List.getElem_cons_succ, List.getElem_cons_zero, List.setIfInBounds_toArray, List.set_cons_zero, List.set_cons_succ]
                refine wpAnyH_ready (rs := [15]) (by kernel_rfl) (by simp) ?_
                refine AllReadyH.cons rfl (fun K hK => ?_) AllReadyH.nil
                go_simp
                refine (count_any du cu w14 HL14.out.u.1).mono ?_
                rintro e w15 ⟨rfl, rfl⟩
                refine hK.out _ _ HS (fun HS => ?_)
                clear hK K
                refine wpAnyH_take (i := 20) (v := ?v38) rfl (by kernel_rfl) (by kernel_rfl) (by kernel_rfl) (fun _ _ _ h => h) (Or.inl ⟨by kernel_rfl, ?h38⟩) HS ?r38
                case h38 => (rintro w s1; go_simp) <;> with_reducible rfl
                try simp only [Act.put, List.getElem_toArray, List.getElem_cons_succ, List.getElem_cons_zero, List.setIfInBounds_toArray, List.set_cons_zero, List.set_cons_succ]
                refine wpAnyH_take (i := 21) (v := ?v39) rfl (by kernel_rfl) (by kernel_rfl) (by kernel_rfl) (fun _ _ _ h => h) (Or.inl ⟨by kernel_rfl, ?h39⟩) HS ?r39
                case h39 => (rintro w s1; go_simp) <;> with_reducible rfl
                try simp only [Act.put, List.getElem_toArray, List.getElem_cons_succ, List.getElem_cons_zero, List.setIfInBounds_toArray, List.set_cons_zero, List.set_cons_succ]
                refine wpAnyH_take (i := 22) (v := ?v40) rfl (by kernel_rfl) (by kernel_rfl) (by kernel_rfl) (fun _ _ _ h => h) (Or.inl ⟨by kernel_rfl, ?h40⟩) HS ?r40
                case h40 => (rintro w s1; go_simp) <;> with_reducible rfl
                try simp only [Act.put, List.getElem_toArray, List.getElem_cons_succ, List.getElem_cons_zero, List.setIfInBounds_toArray, List.set_cons_zero, List.set_cons_succ]
                refine wpAnyH_done (by kernel_rfl) ?_ _
                clear HS
                go_wp2
                go_ret
                exact ⟨rfl, HL14.out.B⟩
              · obtain ⟨e1, e2, e3, e4⟩ := HBt.out.1 (fun h => hg h.2.2.2)
                have e5 := e4.2.2.2 HRt.out (by omega) (by omega) hg
                subst hw e1 e2 e3 e5
                clear HBt e4 hg
                have u0 := HL8.out.u.1
                go_wp2_with fail
                refine (CCn.out _ u0).mono ?_
                rintro e w9 ⟨rfl, hw9⟩
                subst hw9
                go_wp2
                go_ret
                exact ⟨rfl, HL8.out.B⟩
            · have hl1 : (L != 1) = true := by simp [hL1]
              have hl2 : (L != 2) = true := by simp [hL2]
              obtain ⟨e1, e2, e3, e4⟩ := HBt.out.1 (fun h => by have := h.2.1; omega)
              have e5 := e4.2.1 hr (by omega)
              subst e1 e2 e3 e5
              clear HBt e4 hr
              have u0 := HL8.out.u.1
              go_wp2_with fail
              refine (CCn.out _ u0).mono ?_
              rintro e w9 ⟨rfl, hw9⟩
              subst hw9
              go_wp2
              go_ret
              exact ⟨rfl, HL8.out.B⟩
        · have hC0 : C = -1 := hC.2 hr
          subst hC0
          clear hC
          obtain ⟨e1, e2, e3, e4⟩ := HBt.out.1 (fun h => hr h.1)
          have e5 := e4.1 hr
          subst e1 e2 e3 e5
          clear HBt e4 hr
          have u0 := HL8.out.u.1
          go_wp2_with fail
          refine (CCn.out _ u0).mono ?_
          rintro e w9 ⟨rfl, hw9⟩
          subst hw9
          go_wp2
          go_ret
          exact ⟨rfl, HL8.out.B⟩
  · have e0 := hT.no hfw
    subst e0
    clear hT
    go_wp2
    go_ret
    exact ⟨rfl, HB3.out⟩
end Go.Proofs.YtcaficenocblfaaGreatDoor
