/-
  VecShorter: what is clipped is no longer than it may be, but for a step a part; no part grows, or changes its sign.
-/
import Derived.Test.YtldnnjcfihjkdabDoorLawVN
import Derived.Test.YtldnnjcfihjkdabDoorPWalkC
import Derived.Test.YtldnnjcfihjkdabDoorPWalkG
import Derived.Test.YtldnnjcfihjkdabDoorVShort
set_option linter.unusedVariables false
set_option linter.unusedSimpArgs false
namespace Go.Proofs.YtldnnjcfihjkdabDoor
open Go.RowKit

theorem cnt_zero (O : Nat → Bool) (n : Nat) (h : cntV O n ≤ 0) : ∀ k, k < n → O k = false := by
  induction n with
  | zero => intro k hk; omega
  | succ n ih =>
    have e : cntV O (n + 1) = cntV O n + bi (O n) := rfl
    have r := bi_rng (O n)
    have r2 := cnt_rng O n
    rw [e] at h
    intro k hk
    rcases Nat.lt_or_ge k n with h1 | h1
    · exact ih (by omega) k h1
    · obtain rfl : k = n := by omega
      cases hO : O k
      · rfl
      · rw [hO] at h
        have : bi true = 1 := rfl
        omega
theorem bi_zero (o : Bool) (h : bi o ≤ 0) : o = false := by
  cases o
  · rfl
  · have : bi true = 1 := rfl
    omega
theorem rtO_no {V : Int} (h : rtO V = false) : 0 ≤ V ∧ V < 85070591730234615865843651857942052864 ∧ rtX V = rt V := by
  unfold rtO at h
  by_cases h1 : V < 0
  · rw [if_pos h1] at h; cases h
  · rw [if_neg h1] at h
    by_cases h2 : 85070591730234615865843651857942052864 ≤ V
    · rw [if_pos h2] at h; cases h
    · refine ⟨by omega, by omega, ?_⟩
      unfold rtX
      rw [if_neg h1, if_neg h2]
theorem clv_of_ovv {v : Int} (h : ovv v = false) : clv v = v := by
  unfold ovv at h
  simp only [Bool.or_eq_false_iff, decide_eq_false_iff_not] at h
  unfold clv
  rw [if_neg h.1, if_neg h.2]
/-- What the law asks of each part, and of the whole, where nothing was held. -/
theorem sh_law (most : Int) (f : Nat → Int) (n : Nat) (m0 : 0 < most) (h : cpN most n f ≤ 0) :
    dotV f f n < 85070591730234615865843651857942052864 ∧ (∀ k, k < n → (cpB most n f = false → cpF most n f k = f k) ∧ (0 < cpF most n f k → cpF most n f k ≤ f k) ∧ (cpF most n f k < 0 → f k ≤ cpF most n f k)) ∧ rtX (dotV (cpF most n f) (cpF most n f) n) ≤ most + slV f n + n + 1 := by
  have hO : rtO (dotV f f n) = false := by
    unfold cpN at h
    rw [if_pos m0] at h
    have r1 := bi_rng (rtO (dotV f f n))
    have r2 := bi_rng (cpO most n f)
    have r3 := cnt_rng (fun i => ovv (rnd (cpK most n f * f i) 32)) n
    split at h
    · exact bi_zero _ (by omega)
    · exact bi_zero _ h
  obtain ⟨s0, s1, s2⟩ := rtO_no hO
  refine ⟨s1, ?_⟩
  by_cases hB : cpB most n f = true
  · have hmN : most < rt (dotV f f n) := by
      unfold cpB at hB
      rw [s2] at hB
      simp only [Bool.and_eq_true, decide_eq_true_eq] at hB
      exact hB.2
    have hcn : cpO most n f = false ∧ ∀ k, k < n → ovv (rnd (cpK most n f * f k) 32) = false := by
      unfold cpN at h
      rw [if_pos m0, if_pos hB] at h
      have r1 := bi_rng (rtO (dotV f f n))
      have r2 := bi_rng (cpO most n f)
      have r3 := cnt_rng (fun i => ovv (rnd (cpK most n f * f i) 32)) n
      exact ⟨bi_zero _ (by omega), cnt_zero _ n (by omega)⟩
    have hN := (rt_spec _ s0 s1).1
    have hK : cpK most n f = quo (most * 4294967296) (rt (dotV f f n)) := by
      have e := hcn.1
      unfold cpO qo at e
      rw [s2, if_neg (by omega)] at e
      unfold cpK qv
      rw [s2, if_neg (by omega), clv_of_ovv e]
    have hF : ∀ k, k < n → cpF most n f k = rnd (quo (most * 4294967296) (rt (dotV f f n)) * f k) 32 := fun k hk => by
      unfold cpF
      rw [if_pos hB, clv_of_ovv (hcn.2 k hk), hK]
    refine ⟨fun k hk => ?_, sh_all most f _ n m0 s1 hmN hF⟩
    obtain ⟨k0, k1, -⟩ := sh_by most _ m0 hmN
    obtain ⟨p, q, -⟩ := sh_part _ (f k) k0 k1
    rw [hF k hk]
    generalize rnd (quo (most * 4294967296) (rt (dotV f f n)) * f k) 32 = x at *
    refine ⟨fun e => (by rw [hB] at e; cases e), fun hx => ?_, fun hx => ?_⟩
    · rcases ilg (f k) 0 with h1 | h1
      · have := q (by omega); omega
      · have := p h1; omega
    · rcases ilg (f k) 0 with h1 | h1
      · have := q (by omega); omega
      · have := p h1; omega
  · have hF : ∀ k, cpF most n f k = f k := fun k => by unfold cpF; rw [if_neg hB]
    have hF2 : cpF most n f = f := funext hF
    refine ⟨fun k hk => ⟨fun _ => hF k, fun _ => by rw [hF k]; exact Int.le_refl _, fun _ => by rw [hF k]; exact Int.le_refl _⟩, ?_⟩
    rw [hF2]
    have hle : rtX (dotV f f n) ≤ most := by
      unfold cpB at hB
      simp only [Bool.and_eq_true, decide_eq_true_eq] at hB
      omega
    have := sl_ge f n
    omega
theorem ab_small {v S : Int} (h : v * v ≤ S) (hS : S < 85070591730234615865843651857942052864) : -9223372036854775808 < v ∧ v < 9223372036854775808 := by
  have h1 := ab_le_of_sq v 9223372036854775807 S (by omega) h (by omega)
  unfold ab at h1
  split at h1 <;> omega
theorem slV_rng (f : Nat → Int) (n : Nat) (h : ∀ k, k < n → ab (f k) ≤ 9223372036854775807) : slV f n ≤ 2147483648 * n := by
  induction n with
  | zero => simp [slV]
  | succ n ih =>
    have h1 := ih (fun k hk => h k (by omega))
    have h2 := h n (by omega)
    show slV f n + ab (f n) / 4294967296 ≤ _
    omega
set_option maxRecDepth 100000 in
set_option maxHeartbeats 8000000 in
theorem vecShorter_any (va : Value) (n : Nat) (f : Nat → Int) (most : Int) (m0 : -9223372036854775808 ≤ most) (m1 : most ≤ 9223372036854775807) (w : World) (hV : VT w) (hA : Ar w va n f) :
    Calls Tryd.prog 6 #[va, .int .i64 most] w fun e w' => e = .returned (.bool true) ∧ Below w.heap.size w w' := by
  have HA : Hid (Ar w va n f) := hA
  have HV : Hid (VT w) := hV
  obtain ⟨ada, ca, ba, oa, rfl, k1, k2, -, -⟩ := hA
  have HNb : Hid (∀ d, w.heap.size ≤ d → Nb (.slice ada n ca) d) := fun d hd => HA.out.nb hd
  unfold maxLen at k2
  go_enter Tryd.func6, Tryd.ntmps6
  go_wp2_with fail
  refine (vawake_any vec1 _ hV).mono ?_
  rintro e w1 ⟨rfl, W1⟩
  have HW1 : Hid (Below w.heap.size w w1) := W1
  have HF : Hid (Calls Tryd.prog 18 #[.slice (some ⟨w1.heap.size, 0, none⟩) 1 1] (w1.alloc (.cells #[.slice ada n ca] 23)) fun e w' => e = .returned (.bool (decide (n ≤ 200))) ∧ w' = (w1.alloc (.cells #[.slice ada n ca] 23))) := few1_any w1 ada n ca (by unfold maxLen; omega)
  clear W1 hV
  go_wp2_with fail
  refine HF.out.mono ?_
  rintro e w2 ⟨rfl, hw2⟩
  have HW2 : Hid (Below w.heap.size w w2) := by show Below _ _ _; rw [hw2]; exact bchain HW1.out (bel1' _ _)
  clear HF hw2 HW1
  rcases Nat.lt_or_ge 200 n with hn | hn
  · rw [decide_eq_false (by omega)]
    go_wp2
    go_ret
    exact ⟨rfl, HW2.out⟩
  rw [decide_eq_true hn]
  by_cases hm : most ≤ 0
  · go_wp2
    go_ret
    exact ⟨by first | rfl | simp [hm], HW2.out⟩
  have hm0 : 0 < most := by omega
  have HU3 : Hid (Uc (w2.alloc (.cells #[.int .i64 0] 48)) w2.heap.size 0) := ⟨by simp [go_sem], by simp [go_sem]⟩
  have HB3 : Hid (Below w.heap.size w (w2.alloc (.cells #[.int .i64 0] 48))) := bchain HW2.out (bel1 _ _)
  have hs2 : w.heap.size ≤ w2.heap.size := HW2.out.size
  have C3 := Clip_un most _ n f w2.heap.size 0 (w2.alloc (.cells #[.int .i64 0] 48)) m0 m1 (by omega) (by omega) (by omega) (HA.out.later HB3.out) (HNb.out _ hs2) HU3.out
  have hE : sE n = 0 := by unfold sE; rw [if_neg (by omega)]
  rw [hE, show (cpB most n f && decide ((0 : Int) = 0)) = cpB most n f by simp, show 0 + cE 0 (cpN most n f) = cpN most n f by unfold cE; rw [if_pos rfl, Int.zero_add]] at C3
  replace C3 : Hid (Calls _ _ _ _ _) := C3
  go_wp2_with fail
  refine C3.out.mono ?_
  rintro e w4 ⟨v4, rfl, hL, hU⟩
  have HX : Hid (Ar w4 v4 n (cpF most n f)) := hL.1 rfl
  have HU4 : Hid (Uc w4 w2.heap.size (cpN most n f)) := ⟨hU.c, hU.f⟩
  have HA4 : Hid (Ar w4 (.slice ada n ca) n f) := (HA.out.later HB3.out).un (HNb.out _ hs2) hU
  have HB4 : Hid (Below w.heap.size w w4) := hU.b _ _ hs2 (by rw [World.size_alloc]; omega) HB3.out
  obtain ⟨a4, c4, b4, o4, rfl, z1, z2, -, -⟩ := id HX.out
  unfold maxLen at z2
  clear hL hU C3 HU3 HB3 HA HW2
  have CC : Hid (Calls Tryd.prog 20 #[.pointer (some ⟨w2.heap.size, 0, none⟩)] w4 fun e w' => e = .returned (.int .i64 (cpN most n f)) ∧ w' = w4) := count_any _ _ w4 HU4.out.1
  go_wp2_with fail
  refine CC.out.mono ?_
  rintro e w5 ⟨rfl, hz⟩
  subst hz
  clear CC HU4
  by_cases hc : 0 < cpN most n f
  · go_wp2
    go_ret
    exact ⟨rfl, HB4.out⟩
  obtain ⟨hS, hP, hR⟩ := sh_law most f n hm0 (by omega)
  have HP : Hid (∀ k, k < n → (cpB most n f = false → cpF most n f k = f k) ∧ (0 < cpF most n f k → cpF most n f k ≤ f k) ∧ (cpF most n f k < 0 → f k ≤ cpF most n f k)) := hP
  have HR : Hid (rtX (dotV (cpF most n f) (cpF most n f) n) ≤ most + slV f n + n + 1) := hR
  have HQ : Hid (∀ k, k < n → -9223372036854775808 < f k ∧ f k < 9223372036854775808) := fun k hk => ab_small (dot_part f n k hk) hS
  clear hP hR hS
  generalize cpN most n f = cN at *
  generalize hBB : cpB most n f = B at *
  clear hBB
  go_wp2
  rename World => wo
  go_loopw [50] (fun si wr => ∃ (j : Nat), j ≤ n ∧ si = .int .i64 (j : Int) ∧ wr = wo) (fun si _ => n - (intOf si).toNat)
  case atStart => exact ⟨0, by omega, rfl, rfl⟩
  case round =>
    obtain ⟨j, hj, rfl, rfl⟩ := hrel
    by_cases hlt : j < n
    · have hjI : (j : Int) < (n : Int) := by omega
      obtain ⟨bx, ox, rfl, cX, x0, x1⟩ := HX.out.at j hlt
      obtain ⟨bf, of, rfl, cF, f0, f1⟩ := HA4.out.at j hlt
      obtain ⟨p1, p2, p3⟩ := HP.out j hlt
      generalize cpF most n f j = x at *
      generalize f j = y at *
      cases B
      · obtain rfl : x = y := p1 rfl
        clear p1 p2 p3
        have e1 : ¬ x < x := by omega
        rcases (show 0 < x ∨ x = 0 ∨ x < 0 by omega) with h | h | h
        · have h2 : ¬ x < 0 := by omega
          go_wp2
          go_roundw
          case rel => exact ⟨j + 1, by omega, by go_num, trivial⟩
          case measure => simp [intOf]; omega
        · subst h
          go_wp2
          go_roundw
          case rel => exact ⟨j + 1, by omega, by go_num, trivial⟩
          case measure => simp [intOf]; omega
        · have h2 : ¬ 0 < x := by omega
          go_wp2
          go_roundw
          case rel => exact ⟨j + 1, by omega, by go_num, trivial⟩
          case measure => simp [intOf]; omega
      · clear p1
        rcases (show 0 < x ∨ x = 0 ∨ x < 0 by omega) with h | h | h
        · have h2 : ¬ x < 0 := by omega
          have h3 : ¬ y < x := by have := p2 h; omega
          have h4 : ¬ y < 0 := by have := p2 h; omega
          clear p2 p3
          go_wp2
          go_roundw
          case rel => exact ⟨j + 1, by omega, by go_num, trivial⟩
          case measure => simp [intOf]; omega
        · subst h
          clear p2 p3
          go_wp2
          go_roundw
          case rel => exact ⟨j + 1, by omega, by go_num, trivial⟩
          case measure => simp [intOf]; omega
        · have h2 : ¬ 0 < x := by omega
          have h3 : ¬ x < y := by have := p3 h; omega
          have h4 : ¬ 0 < y := by have := p3 h; omega
          clear p2 p3
          go_wp2
          go_roundw
          case rel => exact ⟨j + 1, by omega, by go_num, trivial⟩
          case measure => simp [intOf]; omega
    · obtain rfl : j = n := by omega
      have hjI : ¬ (j : Int) < (j : Int) := by omega
      have CN := Norm_nil _ j (cpF most j f) wr (by omega) (HV.out.later HB4.out) HX.out
      rw [hE, show nX j (cpF most j f) = rtX (dotV (cpF most j f) (cpF most j f) j) by unfold nX; rw [if_pos hE]] at CN
      replace CN : Hid (Calls _ _ _ _ _) := CN
      obtain ⟨N0, N1⟩ := rtX_rng (dotV (cpF most j f) (cpF most j f) j)
      generalize rtX (dotV (cpF most j f) (cpF most j f) j) = N at *
      clear HP HX
      go_wp2_with fail
      refine CN.out.mono ?_
      rintro e w6 ⟨rfl, hb⟩
      have HB6 : Hid (Below w.heap.size w w6) := bchain HB4.out hb
      have HA6 : Hid (Ar w6 (.slice ada j ca) j f) := HA4.out.later hb
      clear hb CN HA4 HB4
      go_wp2
      rename World => wp
      go_loopw [13, 122] (fun s13 s122 wr => ∃ (i : Nat) (s : Int), i ≤ j ∧ s13 = .int .i64 s ∧ Hid (s = (j : Int) + 2 + slV f i) ∧ 0 ≤ s ∧ s ≤ 202 + 2147483648 * (i : Int) ∧ s122 = .int .i64 (i : Int) ∧ wr = wp) (fun _ s122 _ => j - (intOf s122).toNat)
      case atStart => exact ⟨0, (j : Int) + 2, by omega, by go_num, by show _ = _; simp [slV], by omega, by omega, rfl, rfl⟩
      case round =>
        obtain ⟨i, s, hij, rfl, hs, hs0, hs1, rfl, rfl⟩ := hrel
        by_cases hlt2 : i < j
        · have hiI : (i : Int) < (j : Int) := by omega
          obtain ⟨bf, of, rfl, cF, f0, f1⟩ := HA6.out.at i hlt2
          obtain ⟨g0, g1⟩ := HQ.out i hlt2
          have hsl : slV f (i + 1) = slV f i + ab (f i) / 4294967296 := rfl
          rcases ilg (f i) 0 with hy | hy
          · have e1 : ab (f i) = -(f i) := ab_neg _ hy
            have hs2 : Hid (s + -(f i) / 4294967296 = (j : Int) + 2 + slV f (i + 1)) := by show _ = _; rw [hs.out, hsl, e1]; omega
            clear hs hsl e1
            generalize f i = y at *
            have hmx : max y (-y) = -y := by omega
            have HM : Hid (max y (-y) = -y) := hmx
            clear hmx
            go_wp2
            go_roundw
            case rel => exact ⟨i + 1, s + max y (-y) / 4294967296, by omega, rfl, by show _ = _; rw [HM.out]; exact hs2.out, by have := HM.out; omega, by have := HM.out; omega, by go_num, trivial⟩
            case measure => simp [intOf]; omega
          · have e1 : ab (f i) = f i := ab_pos _ hy
            have hs2 : Hid (s + f i / 4294967296 = (j : Int) + 2 + slV f (i + 1)) := by show _ = _; rw [hs.out, hsl, e1]; omega
            clear hs hsl e1
            generalize f i = y at *
            have HM : Hid (max y (-y) = y) := by show _ = _; omega
            go_wp2
            go_roundw
            case rel => exact ⟨i + 1, s + max y (-y) / 4294967296, by omega, rfl, by show _ = _; rw [HM.out]; exact hs2.out, by have := HM.out; omega, by have := HM.out; omega, by go_num, trivial⟩
            case measure => simp [intOf]; omega
        · obtain rfl : i = j := by omega
          have hiI : ¬ (i : Int) < (i : Int) := by omega
          have hfin : N ≤ most ∨ N - most ≤ s := by have := HR.out; have := hs.out; omega
          clear hs HR HQ
          by_cases hNm : N ≤ most
          · go_wp2
            go_ret
            exact ⟨by first | rfl | simp, HB6.out⟩
          · have hfin2 : N - most ≤ s := by omega
            go_wp2
            go_ret
            exact ⟨by first | rfl | simp [hfin2], HB6.out⟩
end Go.Proofs.YtldnnjcfihjkdabDoor
