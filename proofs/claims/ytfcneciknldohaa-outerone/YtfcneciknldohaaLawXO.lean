/-
  OuterOne: for every two lists the law regattalaw10.OuterOne returns true: with the rate one and no moment one worker's delta makes the parameters what that worker came to, where nothing is held.
-/
import Derived.Test.YtfcneciknldohaaOHelp
set_option linter.unusedVariables false
set_option linter.unusedSimpArgs false
namespace Go.Proofs.Ytfcneciknldohaa
open Go.RowKit

theorem cnt_none (O : Nat → Bool) (n : Nat) (h : cntV O n = 0) : ∀ i, i < n → O i = false := by
  induction n with
  | zero => intro i hi; omega
  | succ n ih =>
    have h1 := (cnt_rng O n).1
    have h2 := bi_rng (O n)
    have h3 : cntV O n + bi (O n) = 0 := h
    intro i hi
    by_cases e : i = n
    · subst e
      have h4 : bi (O i) = 0 := by omega
      cases hO : O i with
      | false => rfl
      | true => rw [hO] at h4; simp [bi] at h4
    · exact ih (by omega) i (by omega)
theorem unit10 {w w' : World} (hW : Below w.heap.size w w') (t : TypeId) : Below w.heap.size w (w'.alloc (.cells #[.int .i64 0] t)) ∧ Uc (w'.alloc (.cells #[.int .i64 0] t)) w'.heap.size 0 :=
  ⟨bchain hW (bel1 _ _), cell_new1 w' _ _, by simp [go_sem]⟩
set_option maxRecDepth 100000 in
set_option maxHeartbeats 8000000 in
theorem outerOne_any (va vb : Value) (n m : Nat) (f g : Nat → Int) (w : World) (hA : Ar w va n f) (hB : Ar w vb m g) :
    Calls Try.prog 6 #[va, vb] w fun e w' => e = .returned (.bool true) ∧ Below w.heap.size w w' := by
  have HAB : Hid (Ar w va n f ∧ Ar w vb m g) := ⟨hA, hB⟩
  obtain ⟨ada, ca, ba, oa, rfl, i1, i2, -, -⟩ := hA
  obtain ⟨adb, cb, bb, ob, rfl, q1, q2, -, -⟩ := hB
  unfold maxLen at i2 q2
  go_enter Try.func6, Try.ntmps6
  go_wp2_with fail
  refine (awake10_any _).mono ?_
  rintro e w1 ⟨rfl, hb⟩
  have HW1 : Hid (Below w.heap.size w w1) := hb
  clear hb
  by_cases hn : 200 < n
  · have hn' : (200 : Int) < (n : Int) := by omega
    go_wp2
    go_ret
    exact ⟨rfl, HW1.out⟩
  have hn' : ¬ (200 : Int) < (n : Int) := by omega
  by_cases hnm : n = m
  case neg =>
    have hnm' : ¬ (n : Int) = (m : Int) := by omega
    have hbe : ((n : Int) != (m : Int)) = true := by simpa using hnm'
    go_wp2
    go_ret
    exact ⟨rfl, HW1.out⟩
  subst hnm
  have HN : Hid (n ≤ 200) := by show n ≤ 200; omega
  go_upto_region 6 with fail
  obtain ⟨hb2, hu2⟩ := unit10 HW1.out 34
  have hs := HW1.out.size
  obtain ⟨du, hdu⟩ : ∃ du, w1.heap.size = du := ⟨_, rfl⟩
  rw [hdu] at hu2 ⊢
  have hd0 : w.heap.size ≤ du := by omega
  have HB2 : Hid (Below w.heap.size w (w1.alloc (.cells #[.int .i64 0] 34)) ∧ Uc (w1.alloc (.cells #[.int .i64 0] 34)) du 0) := ⟨hb2, hu2⟩
  generalize w1.alloc (.cells #[.int .i64 0] 34) = w2 at *
  clear hs hdu HW1 hb2 hu2
  have HNb : Hid (Nb (.slice ada n ca) du ∧ Nb (.slice adb n cb) du) := ⟨HAB.out.1.nb hd0, HAB.out.2.nb hd0⟩
  have CD : Hid (∀ W : World, Below w.heap.size w W → Uc W du 0 → Calls Try.prog 17 #[.pointer (some ⟨du, 0, none⟩), .slice ada n ca, .slice adb n cb] W fun e w' => ∃ v', e = .returned (.tuple #[v', .int .i64 0]) ∧ (Ar w' v' n (fun i => clv (f i - g i)) ∧ Ow W.heap.size v') ∧ Un du (cntV (fun i => ovv (f i - g i)) n) W w') := by
    intro W hL hu
    refine (delta10_un _ _ n n f g (by omega) (by omega) du 0 (by omega) (by omega) W (HAB.out.1.later hL) (HAB.out.2.later hL) HNb.out.1 HNb.out.2 hu).mono ?_
    have e0 : dE n n = 0 := by unfold dE; rw [if_neg (by omega), if_pos rfl]
    have e1 : ∀ x, cE 0 x = x := fun x => rfl
    rw [e0, e1, Int.zero_add]
    rintro e w' ⟨v', he, hl, hU⟩
    exact ⟨v', he, ⟨hl.1 rfl, hl.2.2⟩, hU⟩
  have hcr := cnt_rng (fun i => ovv (f i - g i)) n
  have HcZ : Hid (cntV (fun i => ovv (f i - g i)) n = 0 → ∀ i, i < n → (fun i => oP 4294967296 0 0 (f i) (clv (f i - g i))) i = g i) := fun h i hi => by
    show oP 4294967296 0 0 (f i) (clv (f i - g i)) = g i
    obtain ⟨_, _, _, _, _, _, _, _, hx⟩ := HAB.out.2
    exact oP_back 0 (f i) (g i) (hx i hi).2.1 (hx i hi).2.2 (cnt_none _ n h i hi)
  have hoS := oS_rng 4294967296 0 (fun _ => 0) f (fun i => clv (f i - g i)) n
  have CS : Hid (∀ (W : World) (vP vB vG : Value), Uc W du (cntV (fun i => ovv (f i - g i)) n) → Ar W vP n f → Ar W vB n (fun _ => 0) → Ar W vG n (fun i => clv (f i - g i)) → Nb vP du → Nb vB du → Nb vG du → Calls Try.prog 10 #[.pointer (some ⟨du, 0, none⟩), .int .i64 4294967296, .int .i64 0, .agg #[vP, vB], vG] W fun e w' => ∃ (a1 a2 : Option Addr) (k1 k2 : Nat), e = .returned (.tuple #[.agg #[.slice a1 n k1, .slice a2 n k2], .int .i64 0]) ∧ (Ar w' (.slice a1 n k1) n (fun i => oP 4294967296 0 0 (f i) (clv (f i - g i))) ∧ Ow W.heap.size (.slice a1 n k1)) ∧ Un du (cntV (fun i => ovv (f i - g i)) n + oS 4294967296 0 (fun _ => 0) f (fun i => clv (f i - g i)) n) W w') := by
    intro W vP vB vG hu h1 h2 h3 n1 n2 n3
    refine (step10_un 4294967296 0 ⟨by omega, by omega, by omega⟩ (by omega) vP vB vG n f _ _ (by omega) du _ (by omega) (by omega) W h1 h2 h3 n1 n2 n3 hu).mono ?_
    rintro e w' ⟨a1, a2, k1, k2, he, hS, hU⟩
    exact ⟨a1, a2, k1, k2, he, ⟨hS.1, hS.2.2.1⟩, hU⟩
  have CB : Hid (∀ W : World, Ar W (.slice ada n ca) n f → Calls Try.prog 16 #[.slice ada n ca] W fun e w' => ∃ (a1 a2 : Option Addr) (c1 c2 : Nat), e = .returned (.tuple #[.agg #[.slice a1 n c1, .slice a2 n c2], .int .i64 0]) ∧ Bg10 W (.slice a1 n c1) (.slice a2 n c2) n f w') := fun W h => begin10_ok _ n f (by omega) W h
  generalize (fun i => oP 4294967296 0 0 (f i) (clv (f i - g i))) = FP at *
  generalize (fun i => clv (f i - g i)) = FD at *
  generalize cntV (fun i => ovv (f i - g i)) n = c1 at *
  obtain ⟨T, hT⟩ : ∃ T, c1 + oS 4294967296 0 (fun _ => 0) f FD n = T := ⟨_, rfl⟩
  rw [hT] at CS
  have HT : Hid (T = 0 → c1 = 0) := fun h => by omega
  clear hT hoS hcr
  go_wp2_with fail
  refine (CD.out _ HB2.out.1 HB2.out.2).mono ?_
  rintro e w3 ⟨v3, rfl, ⟨hA3, hO3⟩, hU⟩
  have HB3 : Hid (Below w.heap.size w w3 ∧ Uc w3 du c1) := ⟨hU.b _ _ hd0 HB2.out.1.size HB2.out.1, hU.c, hU.f⟩
  have HA3 : Hid (Ar w3 v3 n FD ∧ Nb v3 du) := ⟨hA3, ow_apart hO3 (World.block_lt_of_cell? _ _ HB2.out.2.1)⟩
  clear hA3 hO3 hU CD HB2
  obtain ⟨ad3, k3, b3, o3, rfl, -, -, -, -⟩ := id HA3.out.1
  go_wp2_with fail
  refine (CB.out _ (HAB.out.1.later HB3.out.1)).mono ?_
  rintro e w4 ⟨a1, a2, z1, z2, rfl, hG1, hG2, hGo, hb⟩
  have hdu : du < w4.heap.size := World.block_lt_of_cell? _ _ (HB3.out.2.later hb).1
  have hwb : w.heap.size ≤ w4.heap.size := Nat.le_trans HB3.out.1.size hb.size
  have hd3 : du < w3.heap.size := World.block_lt_of_cell? _ _ HB3.out.2.1
  obtain ⟨w5, hw5⟩ : ∃ w5, w5 = w4.alloc (.cells #[.slice a1 n z1, .slice a2 n z2] 27) := ⟨_, rfl⟩
  have HB5 : Hid (Below w.heap.size w w5 ∧ Uc w5 du c1) := by rw [hw5]; exact ⟨bchain (bchain HB3.out.1 hb) (bel1 _ _), (HB3.out.2.later hb).later (bel1 _ _)⟩
  have HA5 : Hid (Ar w5 (.slice ad3 n k3) n FD ∧ Ar w5 (.slice a1 n z1) n f ∧ Ar w5 (.slice a2 n z2) n (fun _ => 0)) := by rw [hw5]; exact ⟨(HA3.out.1.later hb).later (bel1 _ _), hG1.later (bel1 _ _), hG2.later (bel1 _ _)⟩
  have HN5 : Hid (Nb (.slice ad3 n k3) du ∧ Nb (.slice a1 n z1) du ∧ Nb (.slice a2 n z2) du) := ⟨HA3.out.2, ow_apart hGo.1 hd3, ow_apart hGo.2 hd3⟩
  have HY5 : Y2 w4.heap.size (.slice a1 n z1) (.slice a2 n z2) w5 := by rw [hw5]; exact Y2.new _ _ _ _
  clear hG1 hG2 hGo hb CB HB3 HA3 hd3
  go_upto_region 8 with fail
  rw [← hw5]
  clear hw5
  generalize w4.heap.size = bo at *
  have hbd : bo ≠ du := by omega
  have y0 := HY5.c0
  have y1 := HY5.c1
  go_wp2_with fail
  refine (CS.out _ _ _ _ HB5.out.2 HA5.out.2.1 HA5.out.2.2 HA5.out.1 HN5.out.2.1 HN5.out.2.2 HN5.out.1).mono ?_
  rintro e w6 ⟨a5, a6, k5, k6, rfl, ⟨hP, hO⟩, hU⟩
  have hlt := HY5.lt
  have HB6 : Hid (Below w.heap.size w w6 ∧ Uc w6 du T) := ⟨hU.b _ _ hd0 HB5.out.1.size HB5.out.1, hU.c, hU.f⟩
  have HY6 : Y2 bo (.slice a1 n z1) (.slice a2 n z2) w6 := HY5.un hU hbd
  have HA6 : Hid (Ar w6 (.slice a5 n k5) n FP ∧ Nb (.slice a5 n k5) bo) := ⟨hP, ow_apart hO hlt⟩
  clear hP hO hU CS HB5 HA5 HN5 HY5 y0 y1 hlt
  have y0 := HY6.c0
  have y1 := HY6.c1
  have f0 := HY6.f0
  have f1 := HY6.f1
  obtain ⟨w7, hw7⟩ : ∃ w7, w7 = (w6.setCell ⟨bo, 0, none⟩ (.slice a5 n k5)).setCell ⟨bo, 1, none⟩ (.slice a6 n k6) := ⟨_, rfl⟩
  have HB7 : Hid (Below w.heap.size w w7) := by rw [hw7]; exact (HB6.out.1.setCell (by dsimp only; omega) _).setCell (by dsimp only; omega) _
  have HC7 : Hid (w7.cell? ⟨du, 0, none⟩ = some (.int .i64 T)) := by rw [hw7]; exact cell_set (by dsimp only; omega) (cell_set (by dsimp only; omega) HB6.out.2.1)
  have HY7 : Y2 bo (.slice a5 n k5) (.slice a6 n k6) w7 := by rw [hw7]; exact (HY6.set0 _).set1 _
  have HA7 : Hid (Ar w7 (.slice a5 n k5) n FP) := by rw [hw7]; exact (HA6.out.1.set10 _ _ HA6.out.2).set10 _ _ HA6.out.2
  clear HY6
  go_upto_region 9 with fail
  rw [← hw7]
  clear hw7 HB6 HA6 y0 y1 f0 f1
  have y0 := HY7.c0
  clear HY7
  go_upto_region 12 with fail
  go_loopw [67] (fun si wr => ∃ j : Nat, j ≤ n ∧ si = .int .i64 (j : Int) ∧ wr = w7) (fun si _ => n - (intOf si).toNat)
  case atStart => exact ⟨0, by omega, rfl, rfl⟩
  case round =>
    obtain ⟨j, hj, rfl, rfl⟩ := hrel
    by_cases hlt : j < n
    · have hjI : (j : Int) < (n : Int) := by omega
      obtain ⟨b5, o5, q5, e5, p5, -⟩ := ar_spot10 HA7.out j hlt
      obtain ⟨b6, o6, q6, e6, p6, -⟩ := ar_spot10 (HAB.out.2.later HB7.out) j hlt
      cases e5
      cases e6
      go_wp2_with fail
      refine (count_any du T _ HC7.out).mono ?_
      rintro e wc ⟨rfl, rfl⟩
      by_cases hz : T = 0
      · have hx := HcZ.out (HT.out hz) j hlt
        subst hz
        rw [hx] at p5
        go_wp2
        go_roundw
        case rel => exact ⟨j + 1, by omega, by go_num, trivial⟩
        case measure => simp [intOf]; omega
      · go_wp2
        go_roundw
        case rel => exact ⟨j + 1, by omega, by go_num, trivial⟩
        case measure => simp [intOf]; omega
    · obtain rfl : j = n := by omega
      have hjI : ¬ (j : Int) < (j : Int) := by omega
      go_wp2
      go_ret
      exact ⟨rfl, HB7.out⟩
end Go.Proofs.Ytfcneciknldohaa
