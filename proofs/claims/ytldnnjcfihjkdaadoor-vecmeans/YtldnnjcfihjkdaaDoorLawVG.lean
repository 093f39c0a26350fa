/-
  VecMeans: the mean of vectors, part by part.
-/
import Derived.Test.YtldnnjcfihjkdaaDoorLawVG0
set_option linter.unusedVariables false
set_option linter.unusedSimpArgs false
namespace Go.Proofs.YtldnnjcfihjkdaaDoor
open Go.RowKit
attribute [local go_sem ↓] Go.wp_at_zero Go.wp_at_succ

/-- Whether there is a mean. -/
def Gd (ns : Nat → Nat) (K : Nat) : Prop := 0 < K ∧ ∀ k, k < K → ns k = ns 0
/-- What Means answers, of so many lists as may be. -/
theorem means_all (adr : Option Addr) (K cap g o : Nat) (ns : Nat → Nat) (fs : Nat → Nat → Int) (w : World) (k1 : K ≤ cap) (k2 : cap ≤ maxLen) (k3 : 0 < K → adr = some ⟨g, o, none⟩) (k4 : ∀ k, k < K → ∃ (ad : Option Addr) (ca : Nat), w.cell? ⟨g, o + k, none⟩ = some (.slice ad (ns k) ca) ∧ Ar w (.slice ad (ns k) ca) (ns k) (fs k)) (hK : K ≤ 64) (hns : ∀ k, k < K → ns k ≤ 200) (d : Nat) (hU : Uc w d 0) :
    Calls Tryd.prog 44 #[.pointer (some ⟨d, 0, none⟩), .slice adr K cap] w fun e w' => ∃ (adl : Option Addr) (nl cl : Nat) (E c : Int), e = .returned (.tuple #[.slice adl nl cl, .int .i64 E]) ∧ Un d c w w' ∧ (Gd ns K → E = 0 ∧ c = cntV (msO fs K) (ns 0) ∧ nl = ns 0 ∧ Ar w' (.slice adl nl cl) (ns 0) (msX fs K) ∧ Ow w.heap.size (.slice adl nl cl)) ∧ (¬ Gd ns K → E = 40 ∧ c = 0 ∧ nl = 0) := by
  by_cases hg : Gd ns K
  · have h0 := hg.1
    have e := k3 h0
    subst e
    have hV : Vs w g o K (ns 0) fs := ⟨fun k hk => by have h := k4 k hk; rw [hg.2 k hk] at h; exact h⟩
    refine (Means_un g o cap K (ns 0) fs h0 hK (by have := hns 0 h0; omega) k1 k2 d 0 (by omega) (by omega) w hV hU.1 hU.2).mono ?_
    rintro e w' ⟨g', rfl, hX, hg', hU'⟩
    rw [Int.zero_add] at hU'
    exact ⟨_, _, _, _, _, rfl, hU', fun _ => ⟨rfl, rfl, rfl, hX, fun a n' c' e _ => by cases e; exact hg'⟩, fun h => absurd hg h⟩
  · refine (Means_bad adr K cap d ns hK (fun k hk => by have := hns k hk; omega) w ⟨adr, cap, g, o, rfl, k1, k2, k3, fun k hk => by obtain ⟨ad, ca, h1, h2⟩ := k4 k hk; exact ⟨h2.len, ad, ca, h1⟩⟩ ?_).mono ?_
    · rcases Nat.eq_zero_or_pos K with h | h
      · exact Or.inl h
      · refine Or.inr ?_
        cases hu : unlB ns K
        · exact absurd ⟨h, fun k hk => Decidable.byContradiction fun hne => by rw [unlB_yes ns K k hk hne] at hu; cases hu⟩ hg
        · rfl
    · rintro e w' ⟨rfl, hb⟩
      exact ⟨none, 0, 0, 40, 0, rfl, (Un.same hU.1 hU.2).ahead hb, fun h => absurd h hg, fun _ => ⟨rfl, rfl, rfl⟩⟩
set_option maxRecDepth 100000 in
set_option maxHeartbeats 8000000 in
theorem vecMeans_any (V : Vec1) (v : Value) (K : Nat) (ns : Nat → Nat) (fs : Nat → Nat → Int) (w : World) (hV : VT w) (hA : Lt w v K ns fs) :
    Calls Tryd.prog 8 #[v] w fun e w' => e = .returned (.bool true) ∧ Below w.heap.size w w' := by
  obtain ⟨i0, hi, hz0, hz1, hz2⟩ := info_parts dinfo_is
  have hH := hA.hs
  obtain ⟨adr, cap, g, o, rfl, k1, k2, k3, k4⟩ := hA
  have HF : Hid (∀ W : World, Below w.heap.size w W → Calls Tryd.prog 10 #[.slice adr K cap] W fun e w' => e = .returned (.bool (fewB ns K)) ∧ w' = W) := fun W hb => few3_any _ K ns W (hH.later hb)
  have HC : Hid (∀ k, k < K → ∃ (ad : Option Addr) (ca : Nat), w.cell? ⟨g, o + k, none⟩ = some (.slice ad (ns k) ca) ∧ Ar w (.slice ad (ns k) ca) (ns k) (fs k)) := k4
  have HK : Hid (0 < K → adr = some ⟨g, o, none⟩) := k3
  clear k3 k4 hH
  unfold maxLen at k2
  go_enter Tryd.func8, Tryd.ntmps8
  go_wp2_with fail
  refine (vawake_any V _ hV).mono ?_
  rintro e w1 ⟨rfl, W1⟩
  have HW1 : Hid (Below w.heap.size w w1) := W1
  clear W1 hV V
  by_cases hbig : 80 < K
  · have hbI : (80 : Int) < (K : Int) := by omega
    clear hbig
    go_wp2
    go_ret
    exact ⟨rfl, HW1.out⟩
  have hbI : ¬ (80 : Int) < (K : Int) := by omega
  go_wp2_with fail
  refine (HF.out _ HW1.out).mono ?_
  rintro e w2 ⟨rfl, hz⟩
  subst hz
  obtain ⟨R, hR⟩ : ∃ R, fewB ns K = R := ⟨_, rfl⟩
  rw [hR]
  clear HF
  cases R
  · clear hR
    go_wp2
    go_ret
    exact ⟨rfl, HW1.out⟩
  have HN : Hid (∀ k, k < K → ns k ≤ 200) := few_le ns K hR
  clear hR
  go_upto_region 6 with fail
  have L : Hid (L2 w w2.heap.size (w2.heap.size + 1) 0 0 ((w2.alloc (.cells #[.int .i64 0] 29)).alloc (.cells #[.int .i64 0] 32))) := l2_new' HW1.out rfl _ _
  have hd0 : w.heap.size ≤ w2.heap.size := HW1.out.size
  generalize (w2.alloc (.cells #[.int .i64 0] 29)).alloc (.cells #[.int .i64 0] 32) = w3 at *
  clear HW1
  generalize w2.heap.size = du at *
  have hd1 : w.heap.size ≤ du + 1 := by omega
  by_cases h64 : 64 < K
  · have hI : (64 : Int) < (K : Int) := by omega
    have PO : Hid (Calls Tryd.prog 44 #[.pointer (some ⟨du, 0, none⟩), .slice adr K cap] w3 fun e w' => e = .returned (.tuple #[.slice none 0 0, .int .i64 3]) ∧ Below w3.heap.size w3 w') := Means_big adr K cap du h64 (by omega) w3
    go_wp2_with fail
    refine PO.out.mono ?_
    rintro e w4 ⟨rfl, hb⟩
    have L4 : Hid (L2 w du (du + 1) 0 0 w4) := L.out.later hb
    clear hb L PO
    go_wp2_with (go_at_call 27; refine (refused_yes _ none 0 3 du _ rfl L4.out.u).mono ?_; rintro e w5 ⟨rfl, hz⟩; subst hz)
    go_ret
    exact ⟨rfl, L4.out.B⟩
  have hI : ¬ (64 : Int) < (K : Int) := by omega
  have PO : Hid (Calls Tryd.prog 44 #[.pointer (some ⟨du, 0, none⟩), .slice adr K cap] w3 fun e w' => ∃ (adl : Option Addr) (nl cl : Nat) (E c : Int), e = .returned (.tuple #[.slice adl nl cl, .int .i64 E]) ∧ Un du c w3 w' ∧ (Gd ns K → E = 0 ∧ c = cntV (msO fs K) (ns 0) ∧ nl = ns 0 ∧ Ar w' (.slice adl nl cl) (ns 0) (msX fs K) ∧ Ow w3.heap.size (.slice adl nl cl)) ∧ (¬ Gd ns K → E = 40 ∧ c = 0 ∧ nl = 0)) := means_all adr K cap g o ns fs w3 k1 (by unfold maxLen; omega) HK.out (fun k hk => by obtain ⟨ad, ca, h1, h2⟩ := HC.out k hk; exact ⟨ad, ca, cell_later L.out.B h1, h2.later L.out.B⟩) (by omega) HN.out du L.out.u
  go_wp2_with fail
  refine PO.out.mono ?_
  rintro e w4 ⟨adl, nl, cl, E, c, rfl, hU, hG, hB⟩
  have L4 : Hid (L2 w du (du + 1) c 0 w4) := L.out.unu hU hd0 (by omega)
  have HG : Hid (Gd ns K → E = 0 ∧ c = cntV (msO fs K) (ns 0) ∧ nl = ns 0 ∧ An du (du + 1) (.slice adl nl cl) (ns 0) (msX fs K) w4) := fun h => by
    obtain ⟨e1, e2, e3, a4, o4⟩ := hG h
    exact ⟨e1, e2, e3, An.new L.out a4 o4⟩
  have HB : Hid (¬ Gd ns K → E = 40 ∧ c = 0 ∧ nl = 0) := hB
  clear hU hG hB PO L
  have hdv : du + 1 < w4.heap.size := World.block_lt_of_cell? _ _ L4.out.v.1
  go_upto_region 11 with fail
  go_loopw [7, 39] (fun s7 si wr => ∃ j : Nat, j ≤ K ∧ si = .int .i64 (j : Int) ∧ Hid (Al wr w4.heap.size s7 j ns fs) ∧ Hid (∀ k, k < j → ns k = ns 0) ∧ Hid (Below w4.heap.size w4 wr)) (fun _ si _ => K - (intOf si).toNat)
  case atStart => exact ⟨0, by omega, rfl, ⟨[], World.ownsRow_nil _ _ _ _, fun k hk => by omega⟩, fun k hk => by omega, Below.refl _ _⟩
  case round =>
    obtain ⟨j, hj, rfl, hAl, hEq, hW⟩ := hrel
    by_cases hlt : j < K
    · have hjI : (j : Int) < (K : Int) := by omega
      have ea := HK.out (by omega)
      subst ea
      obtain ⟨ad, ca, cA, hA⟩ := HC.out j hlt
      obtain ⟨ad0, ca0, cA0, -⟩ := HC.out 0 (by omega)
      rw [Nat.add_zero] at cA0
      have hBw : Hid (Below w.heap.size w wr) := bchain L4.out.B hW.out
      have hn2 := HN.out j hlt
      have PLC : Hid (Calls Tryd.prog 13 #[.slice ad (ns j) ca] wr fun e w' => ∃ v', e = .returned v' ∧ Ar w' v' (ns j) (fs j) ∧ Ow wr.heap.size v' ∧ Below wr.heap.size wr w') := plain_any _ (ns j) (fs j) (by omega) wr (hA.later hBw.out)
      have cA' := cell_later hBw.out cA
      clear hA cA
      go_wp2_with fail
      refine PLC.out.mono ?_
      rintro e wz ⟨vz, rfl, AZ, OZ, hb⟩
      have HAlz : Hid (Al wz w4.heap.size u7 j ns fs) := hAl.out.later hb
      have HWz : Hid (Below w4.heap.size w4 wz) := bchain hW.out hb
      have hNz : Hid (∀ q, u7.ownBlock = some q → Nb vz q) := fun q hq => OZ.nb (by
        obtain ⟨xs, h1, -⟩ := hAl.out
        exact (h1.lt q hq).2)
      have hOz : Hid (Ow w4.heap.size vz) := OZ.mono hW.out.size
      obtain ⟨adz, caz, bz, oz, rfl, -, -, -, -⟩ := id AZ
      have HAZ : Hid (Ar wz (.slice adz (ns j) caz) (ns j) (fs j)) := AZ
      have hszz : w4.heap.size ≤ wz.heap.size := HWz.out.size
      clear AZ OZ hb hAl hW PLC cA' hBw
      obtain ⟨xs, hown, hxs⟩ := HAlz.out
      have HXS : Hid (∀ k, k < j → ∃ va : Value, xs[k]? = some va ∧ Ar wz va (ns k) (fs k) ∧ Ow w4.heap.size va ∧ ∀ q, u7.ownBlock = some q → Nb va q) := hxs
      clear hxs HAlz
      have HcA0 : Hid (w.cell? ⟨g, o, none⟩ = some (.slice ad0 (ns 0) ca0)) := cA0
      clear cA0
      go_upto_region 14 with (at_builtin; refine wpList_append_own_at _ rfl _ _ 76 rfl w4.heap.size 38 i0 (.slice none 0 0) 1 24 Tryd.underlying76 hi hz0 hz1 hz2 rfl (by decide) _ _ _ rfl (hown.alloc _) ⟨wz.heap.size, 0, none⟩ 1 1 [.slice adz (ns j) caz] rfl rfl (cell_one_new _ _ _) (by simp [Value.oneCell']) (by unfold maxLen; omega) (by omega) (by simp; omega) ?_; intro v' w5 hown' hgrow hnil hat)
      have HAl5 : Hid (Al w5 w4.heap.size v' (j + 1) ns fs) := al_grow hown HXS.out HAZ.out hOz.out hNz.out hown' hgrow hat
      have HW5 : Hid (Below w4.heap.size w4 w5) := below_own HWz.out hszz hown hgrow
      have c05 := cell_later (bchain L4.out.B HW5.out) HcA0.out
      clear hown' hgrow hnil hat hown HXS HAZ hOz hNz HWz HcA0
      have hl0 : (0 : Int) < (K : Int) := by omega
      by_cases hne : ns j = ns 0
      · have HEq2 : Hid (∀ k, k < j + 1 → ns k = ns 0) := fun k hk => by
          rcases Nat.lt_or_ge k j with h | h
          · exact hEq.out k h
          · obtain rfl : k = j := by omega
            exact hne
        have hbb : (((ns j : Nat) : Int) != ((ns 0 : Nat) : Int)) = false := by rw [hne]; simp
        clear hne hEq
        go_wp2
        go_roundw
        case rel => exact ⟨j + 1, by omega, by go_num, HAl5, HEq2, HW5⟩
        case measure => simp [intOf]; omega
      · have hbb : (((ns j : Nat) : Int) != ((ns 0 : Nat) : Int)) = true := by simp; omega
        obtain ⟨rfl, rfl, rfl⟩ := HB.out (fun h => hne (h.2 j hlt))
        have L5 : Hid (L2 w du (du + 1) 0 0 w5) := L4.out.later HW5.out
        clear hne hEq HAl5 HW5 L4 HG HB
        go_wp2_with (go_at_call 27; refine (refused_yes _ adl cl 40 du _ rfl L5.out.u).mono ?_; rintro e w6 ⟨rfl, hz⟩; subst hz)
        go_ret
        exact ⟨rfl, L5.out.B⟩
    · obtain rfl : j = K := by omega
      have hjI : ¬ (j : Int) < (j : Int) := by omega
      have L5 : Hid (L2 w du (du + 1) c 0 wr) := L4.out.later hW.out
      by_cases h0 : j = 0
      · subst h0
        obtain ⟨rfl, rfl, rfl⟩ := HB.out (fun h => absurd h.1 (by omega))
        clear hEq hAl hW L4 HG HB
        go_wp2_with (go_at_call 27; refine (refused_yes _ adl cl 40 du _ rfl L5.out.u).mono ?_; rintro e w6 ⟨rfl, hz⟩; subst hz)
        go_ret
        exact ⟨rfl, L5.out.B⟩
      · have h0I : ¬ ((j : Nat) : Int) = 0 := by omega
        have h0B : (((j : Nat) : Int) == 0) = false := by simpa using h0I
        obtain ⟨rfl, rfl, rfl, hAn⟩ := HG.out ⟨by omega, hEq.out⟩
        obtain ⟨ga, cpa, rfl, p1, p2, hAs⟩ := al_as hAl.out (by omega) hdv hEq.out
        have hn0 : ns 0 ≤ 200 := HN.out 0 (by omega)
        have Y5 : Hid (An du (du + 1) (.slice adl (ns 0) cl) (ns 0) (msX fs j) wr) := hAn.later hW.out
        have UM : Hid (Calls Tryd.prog 45 #[.pointer (some ⟨du + 1, 0, none⟩), .slice (some ⟨ga, 0, none⟩) j cpa] wr fun e w' => ∃ v', e = .returned v' ∧ Ar w' v' (ns 0) (msX fs j) ∧ Ow wr.heap.size v' ∧ Un (du + 1) (0 + cntV (msO fs j) (ns 0)) wr w') := umeans_any ga 0 cpa j (ns 0) fs (du + 1) 0 (by omega) (by omega) (by omega) p1 p2 (by omega) (by omega) wr hAs L5.out.v.1 L5.out.v.2
        clear hAn hAs hEq hAl hW L4 HG HB h0
        unfold maxLen at p2
        go_wp2_with fail
        refine UM.out.mono ?_
        rintro e w6 ⟨v6, rfl, A6, O6, hU6⟩
        rw [Int.zero_add] at hU6
        have L6 : Hid (L2 w du (du + 1) (cntV (msO fs j) (ns 0)) (cntV (msO fs j) (ns 0)) w6) := L5.out.unv hU6 hd1 (by omega)
        have LKC : Hid (Calls Tryd.prog 21 #[.slice adl (ns 0) cl, .int .i64 0, v6, .pointer (some ⟨du, 0, none⟩), .pointer (some ⟨du + 1, 0, none⟩)] w6 fun e w' => e = .returned (.bool true) ∧ Below w6.heap.size w6 w') := like_yes _ _ (ns 0) _ (by omega) du (du + 1) _ _ (Y5.out.unv hU6).a A6 L6.out.u L6.out.v
        obtain ⟨ad6, ca6, b6, o6, rfl, -, -, -, -⟩ := id A6
        clear A6 O6 hU6 UM Y5 L5
        go_wp2_with fail
        refine LKC.out.mono ?_
        rintro e w7 ⟨rfl, hb⟩
        have HX : Hid (Below w.heap.size w w7) := bchain L6.out.B hb
        clear hb LKC L6
        go_wp2
        go_ret
        exact ⟨rfl, HX.out⟩
end Go.Proofs.YtldnnjcfihjkdaaDoor
