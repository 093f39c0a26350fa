/-
  The contract of regattaref01's Quo.
-/
import Derived.Test.YtpmidldnomleoaaRWalkI
import Derived.Test.YtpmidldnomleoaaRWalkF
set_option linter.unusedVariables false
set_option linter.unusedSimpArgs false
namespace Go.Proofs.Ytpmidldnomleoaa
open Go.RowKit

theorem bl_set (n : Nat) (x z : Int) (z01 : z = 0 ∨ z = 1) : ((bl n (x * 2)).map (Value.int .i64)).set 0 (.int .i64 z) = (bl n (x * 2 + z)).map (Value.int .i64) := by
  apply List.ext_getElem?
  intro i
  rw [List.getElem?_set]
  by_cases hi : i < n
  · by_cases h0 : 0 = i
    · subst h0
      rw [if_pos rfl, if_pos (by rw [List.length_map, bl_len]; exact hi), List.getElem?_map, bl_get _ _ _ hi, Int.pow_zero, Int.ediv_one]
      show some (Value.int .i64 z) = some (Value.int .i64 ((x * 2 + z) % 2))
      congr 2
      omega
    · rw [if_neg h0, List.getElem?_map, List.getElem?_map, bl_get _ _ _ hi, bl_get _ _ _ hi]
      show some (Value.int .i64 _) = some (Value.int .i64 _)
      congr 2
      have e : (2 : Int) ^ i = 2 * 2 ^ (i - 1) := by rw [show i = i - 1 + 1 by omega, pow_two]; simp; omega
      rw [e, ← Int.ediv_ediv_of_nonneg (by omega), ← Int.ediv_ediv_of_nonneg (by omega), show x * 2 / 2 = (x * 2 + z) / 2 by omega]
  · by_cases h0 : 0 = i
    · subst h0
      rw [if_pos rfl, if_neg (by rw [List.length_map, bl_len]; exact hi), List.getElem?_eq_none (by rw [List.length_map, bl_len]; omega)]
    · rw [if_neg h0, List.getElem?_eq_none (by rw [List.length_map, bl_len]; omega), List.getElem?_eq_none (by rw [List.length_map, bl_len]; omega)]
/-- The lowest bit of a row of one's own is set. -/
theorem set_own {w : World} {base g n cap : Nat} {x : Int} (z : Int) (h : w.ownsRow base 3 1 (.slice (some ⟨g, 0, none⟩) n cap) n ((bl n (x * 2)).map (Value.int .i64))) (hs : base ≤ w.heap.size) (z01 : z = 0 ∨ z = 1) :
    (w.setCell ⟨g, 0, none⟩ (.int .i64 z)).ownsRow base 3 1 (.slice (some ⟨g, 0, none⟩) n cap) n ((bl n (x * 2 + z)).map (Value.int .i64)) ∧ Below base w (w.setCell ⟨g, 0, none⟩ (.int .i64 z)) := by
  obtain ⟨h1, h2⟩ := h.stored 0 (.int .i64 z)
  rw [bl_set n x z z01] at h1
  exact ⟨h1, (Below.refl base w).grown h2 hs (fun k hk => by
    obtain rfl : g = k := by simpa using hk
    exact (h.lt _ rfl).1)⟩
theorem own_form {w : World} {base : Nat} {v : Value} {n : Nat} {xs : List Value} (h : w.ownsRow base 3 1 v n xs) (n0 : 1 ≤ n) : ∃ g cap : Nat, v = .slice (some ⟨g, 0, none⟩) n cap ∧ base ≤ g ∧ n ≤ cap ∧ cap ≤ 9223372036854775807 := by
  rcases h.2 with ⟨_, hn⟩ | ⟨g, cap, cur, hv, hbs, hg, h1, h2, h3⟩
  · omega
  · unfold maxLen at h2
    exact ⟨g, cap, hv, hbs, h1, h2⟩

theorem Bt.set_far {w : World} {n : Nat} {a : Int} {g g' m cap : Nat} (h : Bt w (.slice (some ⟨g', 0, none⟩) m cap) n a) (hne : g ≠ g') (x : Value) : Bt (w.setCell ⟨g, 0, none⟩ x) (.slice (some ⟨g', 0, none⟩) m cap) n a := by
  obtain ⟨g2, cap2, hv, h1, h2, hc⟩ := h
  cases hv
  exact ⟨_, _, rfl, h1, h2, fun k hk => cell_set hne (hc k hk)⟩

theorem quo_up (T B z : Int) (hB : 1 ≤ B) (h : B ≤ T % B * 2 + z) (z01 : z = 0 ∨ z = 1) : (T * 2 + z) % B = T % B * 2 + z + -B ∧ (T * 2 + z) / B = T / B * 2 + 1 := by
  have e := Int.mul_ediv_add_emod T B
  have m0 := Int.emod_nonneg T (show B ≠ 0 by omega)
  have m1 := Int.emod_lt_of_pos T (show 0 < B by omega)
  generalize hq : T / B = q at *
  generalize hr : T % B = r at *
  have e2 : T * 2 + z = (r * 2 + z + -B) + B * (q * 2 + 1) := by rw [Int.mul_add, ← Int.mul_assoc]; omega
  rw [e2, Int.add_mul_emod_self_left, Int.add_mul_ediv_left _ _ (show B ≠ 0 by omega), Int.emod_eq_of_lt (by omega) (by omega), Int.ediv_eq_zero_of_lt (by omega) (by omega)]
  omega
theorem quo_down (T B z : Int) (hB : 1 ≤ B) (h : T % B * 2 + z < B) (z01 : z = 0 ∨ z = 1) : (T * 2 + z) % B = T % B * 2 + z ∧ (T * 2 + z) / B = T / B * 2 := by
  have e := Int.mul_ediv_add_emod T B
  have m0 := Int.emod_nonneg T (show B ≠ 0 by omega)
  have m1 := Int.emod_lt_of_pos T (show 0 < B by omega)
  generalize hq : T / B = q at *
  generalize hr : T % B = r at *
  have e2 : T * 2 + z = (r * 2 + z) + B * (q * 2) := by rw [← Int.mul_assoc]; omega
  rw [e2, Int.add_mul_emod_self_left, Int.add_mul_ediv_left _ _ (show B ≠ 0 by omega), Int.emod_eq_of_lt (by omega) (by omega), Int.ediv_eq_zero_of_lt (by omega) (by omega)]
  omega
theorem half_up (S : Int) (s : Nat) : S / 2 ^ s = S / 2 ^ (s + 1) * 2 + S / 2 ^ s % 2 := by
  rw [half_at]; omega
theorem inr_130 (x : Int) (x0 : 0 ≤ x) (x1 : x ≤ 36893488147419103232) : InR 130 x := inr_pow 130 65 x (by omega) x0 (by show x ≤ 36893488147419103232; exact x1)

set_option maxRecDepth 100000 in
set_option maxHeartbeats 4000000 in
theorem rquo_any (va : Value) (a d : Int) (a0 : -170141183460469231731687303715884105728 ≤ a) (a1 : a ≤ 170141183460469231731687303715884105727) (d0 : -9223372036854775808 ≤ d) (d1 : d ≤ 9223372036854775807) (hd : d ≠ 0) (w : World) (hA : Bt w va 128 a) :
    Calls Try.prog 30 #[va, .int .i64 d] w fun e w' => ∃ v, e = .returned v ∧ Bt w' v 128 (quo a d) ∧ Below w.heap.size w w' := by
  obtain ⟨b0, b1⟩ := ab_d d d0 d1 hd
  have s0 := ab_ge a
  have s1 := ab_le a a0 a1
  have ra := inr_128 a a0 a1
  have rS : InR 129 (ab a) := by unfold InR; rw [show (2 : Int) ^ (129 - 1) = 340282366920938463463374607431768211456 from rfl]; omega
  have rB : InR 65 (ab d) := by unfold InR; rw [show (2 : Int) ^ (65 - 1) = 18446744073709551616 from rfl]; omega
  have HB := inr_130 (ab d) (by omega) (by omega)
  have BA : Hid (∀ W : World, Bt W va 128 a → Calls Try.prog 42 #[va] W fun e w' => e = .returned (.bool (decide (a < 0))) ∧ w' = W) := fun W h => rbelow_any va 128 a (by omega) (by omega) ra W h
  have HQ : Hid (quo a d = if (decide (a < 0) != decide (d < 0)) = true then -(quoA a d) else quoA a d) := rfl
  have HQA : Hid (quoA a d = if gu (c3 (ab a % ab d * 2) (ab d)) (ab a / ab d % 2) = true then ab a / ab d + 1 else ab a / ab d) := by
    show quoA a d = _
    unfold quoA
    rw [Int.mul_comm 2]
    have e3 : ∀ c q, gu c (lo q) = gu c (q % 2) := by
      intro c q
      unfold gu lo
      congr 2
      apply decide_eq_decide.2
      omega
    rw [e3]
  have SZ := fun W h => rsize_any va 128 a (by omega) (by omega) ra W h
  obtain ⟨g1, cap1, rfl, p1, p2, ha⟩ := id hA
  unfold maxLen at p2
  clear ha
  go_enter Try.func30, Try.ntmps30
  go_wp2_with fail
  refine (SZ _ hA).mono ?_
  rintro e w1 ⟨v1, rfl, hown, hb⟩
  have S1 := bt_own hown (by omega)
  have A1 := hA.later hb
  have W1 : Below w.heap.size w w1 := hb
  clear hown hb SZ hA
  go_wp2_with fail
  refine (rwider_any v1 129 130 _ (by omega) (by omega) (by omega) rS _ S1).mono ?_
  rintro e w2 ⟨v2, rfl, hown, hb⟩
  have S2 := bt_own hown (by omega)
  have A2 := A1.later hb
  have W2 := bchain W1 hb
  clear hown hb S1 A1 W1
  go_wp2_with fail
  refine (int_any d 64 d0 d1 (by omega) _).mono ?_
  rintro e w3 ⟨v3, rfl, hown, hb⟩
  have D3 := bt_own hown (by omega)
  have S3 := S2.later hb
  have A3 := A2.later hb
  have W3 := bchain W2 hb
  clear hown hb S2 A2 W2
  go_wp2_with fail
  refine (rsize_any v3 64 d (by omega) (by omega) (inr_64 d d0 d1) _ D3).mono ?_
  rintro e w4 ⟨v4, rfl, hown, hb⟩
  have D4 := bt_own hown (by omega)
  have S4 := S3.later hb
  have A4 := A3.later hb
  have W4 := bchain W3 hb
  clear hown hb S3 A3 W3 D3
  go_wp2_with fail
  refine (rwider_any v4 65 130 _ (by omega) (by omega) (by omega) rB _ D4).mono ?_
  rintro e w5 ⟨v5, rfl, hown, hb⟩
  have D5 := bt_own hown (by omega)
  have S5 := S4.later hb
  have A5 := A4.later hb
  have W5 := bchain W4 hb
  clear hown hb S4 A4 W4 D4
  go_wp2_with fail
  refine (int_any 0 130 (by omega) (by omega) (by omega) _).mono ?_
  rintro e w6 ⟨v6, rfl, hown, hb⟩
  have R6 := bt_own hown (by omega)
  have D6 := D5.later hb
  have S6 := S5.later hb
  have A6 := A5.later hb
  have W6 := bchain W5 hb
  clear hown hb S5 A5 W5 D5
  go_wp2_with fail
  refine (int_any 0 130 (by omega) (by omega) (by omega) _).mono ?_
  rintro e w7 ⟨v7, rfl, hown, hb⟩
  have Q7 := bt_own hown (by omega)
  have R7 := R6.later hb
  have D7 := D6.later hb
  have S7 := S6.later hb
  have A7 := A6.later hb
  have W7 := bchain W6 hb
  clear hown hb S6 A6 W6 D6 R6 ra rS rB
  generalize hS : ab a = S at *
  generalize hBd : ab d = B at *
  clear hS hBd
  obtain ⟨gs, cs, rfl, ps1, ps2, hs⟩ := S7
  unfold maxLen at ps2
  have HS : Hid (∀ k, k < 130 → w7.cell? ⟨gs, k, none⟩ = some (.int .i64 (S / 2 ^ k % 2))) := hs
  clear hs
  have H0 : S / 2 ^ 130 = 0 := Int.ediv_eq_zero_of_lt s0 (by show S < 1361129467683753853853498429727072845824; omega)
  go_wp2_with fail
  go_loopw [8, 9, 10] (fun r q k wr => ((∃ s : Nat, s < 130 ∧ k = .int .i64 (s : Int) ∧ Bt wr r 130 (S / 2 ^ (s + 1) % B) ∧ Bt wr q 130 (S / 2 ^ (s + 1) / B)) ∨ (k = .int .i64 (-1) ∧ Bt wr r 130 (S % B) ∧ Bt wr q 130 (S / B))) ∧ Below w7.heap.size w7 wr) (fun _ _ k _ => (intOf k + 1).toNat)
  case atStart => exact ⟨.inl ⟨129, by omega, rfl, by rw [H0, Int.zero_emod]; exact R7, by rw [H0, Int.zero_ediv]; exact Q7⟩, Below.refl _ _⟩
  case round =>
    clear R7 Q7 H0
    obtain ⟨hrel, hW⟩ := hrel
    rcases hrel with ⟨s, hs, rfl, hR, hQ⟩ | ⟨rfl, hR, hQ⟩
    · have h0I : (0 : Int) ≤ (s : Int) := by omega
      have hltI : (s : Int) < 130 := by omega
      have HU : Hid (S / 2 ^ s = S / 2 ^ (s + 1) * 2 + S / 2 ^ s % 2) := half_up S s
      have cell := HS.out s hs
      have hz := bit_01 (S / 2 ^ s)
      generalize hbz : S / 2 ^ s % 2 = z at *
      clear hbz
      have m0 := Int.emod_nonneg (S / 2 ^ (s + 1)) (show B ≠ 0 by omega)
      have m1 := Int.emod_lt_of_pos (S / 2 ^ (s + 1)) (show 0 < B by omega)
      generalize S / 2 ^ (s + 1) = T at *
      have HI := inr_130 (T % B * 2 + z) (by omega) (by omega)
      go_wp2_with fail
      refine (rshl_any _ 130 1 _ (by omega) (by omega) (by omega) _ hR).mono ?_
      rintro e w8 ⟨v8, rfl, hown, hb⟩
      rw [show (2 : Int) ^ 1 = 2 from rfl] at hown
      obtain ⟨g8, cap8, rfl, pb8, pc8, pm8⟩ := own_form hown (by omega)
      have hc8 := hown.cellAt 0 (by omega)
      rw [List.getElem?_map, bl_get _ _ _ (by omega)] at hc8
      have hf8 := hown.frozenAt 0
      have hcs := cell_later hb (cell_later hW cell)
      obtain ⟨o9, b9⟩ := set_own z hown hb.size hz
      have R9 := bt_own o9 (by omega)
      have W9 : Below wr.heap.size wr (w8.setCell ⟨g8, 0, none⟩ (.int .i64 z)) := hb.trans b9
      have Q9 := hQ.later W9
      have X9 := bchain hW W9
      clear hown hb o9 b9 hR hQ hW W9 cell
      go_wp2_with fail
      clear hcs hc8 hf8
      generalize w8.setCell ⟨g8, 0, none⟩ (.int .i64 z) = w9 at *
      refine (rshl_any _ 130 1 _ (by omega) (by omega) (by omega) _ Q9).mono ?_
      rintro e w10 ⟨v10, rfl, hown, hb⟩
      rw [show (2 : Int) ^ 1 = 2 from rfl] at hown
      obtain ⟨g10, cap10, rfl, pb10, pc10, pm10⟩ := own_form hown (by omega)
      have R10 := R9.later hb
      have X10 := bchain X9 hb
      have D10 := D7.later X10
      clear R9 Q9
      have Y10 : Hid (Below w9.heap.size w9 w10) := hb
      clear hb
      go_wp2_with fail
      refine (rcmp_any _ _ 130 _ _ (by omega) (by omega) HI HB _ R10 D10).mono ?_
      rintro e w11 ⟨rfl, hb⟩
      have R11 := R10.later hb
      have D11 := D10.later hb
      have X11 := bchain X10 hb
      have Y11 : Hid (Below w9.heap.size w9 w11) := bchain Y10.out hb
      have O11 := own_later hown hb
      clear hb hown R10 D10 X10 Y10
      by_cases hge : B ≤ T % B * 2 + z
      · have hc : 0 ≤ c3 (T % B * 2 + z) B := by unfold c3; rw [if_neg (by omega)]; split <;> omega
        obtain ⟨u1, u2⟩ := quo_up T B z (by omega) hge hz
        have U1 : Hid (S / 2 ^ s % B = T % B * 2 + z + -B) := by show _ = _; rw [HU.out, u1]
        have U2 : Hid (S / 2 ^ s / B = T / B * 2 + 1) := by show _ = _; rw [HU.out, u2]
        clear u1 u2 HU
        generalize c3 (T % B * 2 + z) B = c at *
        go_wp2_with fail
        refine (rneg_any _ 130 _ (by omega) (by omega) _ D11).mono ?_
        rintro e w12 ⟨v12, rfl, hown, hb⟩
        have N12 := bt_own hown (by omega)
        have R12 := R11.later hb
        have X12 := bchain X11 hb
        have Y12 : Hid (Below w9.heap.size w9 w12) := bchain Y11.out hb
        have O12 := own_later O11 hb
        clear hb hown R11 D11 X11 Y11 O11
        go_wp2_with fail
        refine (radd_any _ _ 130 _ _ (by omega) (by omega) _ R12 N12).mono ?_
        rintro e w13 ⟨v13, rfl, hown, hb⟩
        rw [← U1.out] at hown
        have X13 := bchain X12 hb
        have Y13 : Hid (Below w9.heap.size w9 w13) := bchain Y12.out hb
        have O13 := own_later O12 hb
        obtain ⟨g13, cap13, rfl, pb13, pc13, pm13⟩ := own_form hown (by omega)
        have R13 := bt_own hown (by omega)
        have hc10 := O13.cellAt 0 (by omega)
        rw [List.getElem?_map, bl_get _ _ _ (by omega)] at hc10
        have hf10 := O13.frozenAt 0
        have hlt10 := O12.lt g10 rfl
        have hne : g10 ≠ g13 := by have := hlt10.2; omega
        obtain ⟨o14, b14⟩ := set_own 1 O13 Y13.out.size (.inr rfl)
        rw [← U2.out] at o14
        have Q14 := bt_own o14 (by omega)
        have R14 := R13.set_far hne (.int .i64 1)
        have Z14 : Hid (Below w9.heap.size w9 (w13.setCell ⟨g10, 0, none⟩ (.int .i64 1))) := Y13.out.trans b14
        have X14 := bchain X9 Z14.out
        clear hown hb O12 O13 R12 N12 X12 X13 Y12 Y13 R13 Z14 o14 b14 hlt10 X9 U1 U2 m0 m1
        go_wp2
        go_roundw
        case rel =>
          refine ⟨?_, X14⟩
          by_cases hs0 : s = 0
          · subst hs0
            rw [Int.pow_zero, Int.ediv_one] at Q14 R14
            exact .inr ⟨rfl, R14, Q14⟩
          · refine .inl ⟨s - 1, by omega, ?_, ?_, ?_⟩
            · rw [show ((s - 1 : Nat) : Int) = (s : Int) - 1 by omega]
            · rw [show s - 1 + 1 = s by omega]; exact R14
            · rw [show s - 1 + 1 = s by omega]; exact Q14
        case measure => first | (simp [intOf]; done) | (simp [intOf]; omega)
      · have hc : c3 (T % B * 2 + z) B = -1 := c3_lt _ _ (by omega)
        obtain ⟨u1, u2⟩ := quo_down T B z (by omega) (by omega) hz
        rw [← HU.out] at u1 u2
        have Q11 := bt_own O11 (by omega)
        rw [← u1] at R11
        rw [← u2] at Q11
        rw [hc]
        clear u1 u2 HU O11 Y11 D11 hc HI
        go_wp2
        go_roundw
        case rel =>
          refine ⟨?_, X11⟩
          by_cases hs0 : s = 0
          · subst hs0
            rw [Int.pow_zero, Int.ediv_one] at Q11 R11
            exact .inr ⟨rfl, R11, Q11⟩
          · refine .inl ⟨s - 1, by omega, ?_, ?_, ?_⟩
            · rw [show ((s - 1 : Nat) : Int) = (s : Int) - 1 by omega]
            · rw [show s - 1 + 1 = s by omega]; exact R11
            · rw [show s - 1 + 1 = s by omega]; exact Q11
        case measure => first | (simp [intOf]; done) | (simp [intOf]; omega)
    · have A8 := A7.later hW
      have D8 := D7.later hW
      have W8 := bchain W7 hW
      clear A7 D7 W7 hW HS
      have m0 := Int.emod_nonneg S (show B ≠ 0 by omega)
      have m1 := Int.emod_lt_of_pos S (show 0 < B by omega)
      have HI := inr_130 (S % B * 2) (by omega) (by omega)
      go_wp2_with fail
      refine (rshl_any _ 130 1 _ (by omega) (by omega) (by omega) _ hR).mono ?_
      rintro e w9 ⟨v9, rfl, hown, hb⟩
      rw [show (2 : Int) ^ 1 = 2 from rfl] at hown
      have T9 := bt_own hown (by omega)
      have A9 := A8.later hb
      have D9 := D8.later hb
      have Q9 := hQ.later hb
      have W9 := bchain W8 hb
      clear hown hb A8 D8 W8 hQ hR
      go_wp2_with fail
      refine (rcmp_any _ _ 130 _ _ (by omega) (by omega) HI HB _ T9 D9).mono ?_
      rintro e w10 ⟨rfl, hb⟩
      have A10 := A9.later hb
      have Q10 := Q9.later hb
      have W10 := bchain W9 hb
      clear hb A9 D9 Q9 W9 T9 HI HB
      obtain ⟨g3, cap3, rfl, p5, p6, hq⟩ := id Q10
      unfold maxLen at p6
      have h00 := hq 0 (by omega)
      rw [Int.pow_zero, Int.ediv_one] at h00
      have hc3 : c3 (S % B * 2) B = 1 ∨ c3 (S % B * 2) B = 0 ∨ c3 (S % B * 2) B = -1 := by
        unfold c3; split
        · exact .inr (.inr rfl)
        · split
          · exact .inl rfl
          · exact .inr (.inl rfl)
      generalize c3 (S % B * 2) B = c at *
      generalize S / B = q at *
      clear hq m0 m1
      go_upto_region 16 with fail
      go_cut [69] (fun t wc => t = .bool (gu c (q % 2)) ∧ wc = w10)
      case first =>
        rcases hc3 with rfl | rfl | rfl
        · go_wp2_with fail
          go_meet
          exact ⟨by unfold gu; simp, rfl⟩
        · rcases bit_01 q with hq | hq
          · rw [hq] at h00
            go_wp2_with fail
            go_meet
            exact ⟨by unfold gu; rw [hq]; rfl, rfl⟩
          · rw [hq] at h00
            go_wp2_with fail
            go_meet
            exact ⟨by unfold gu; rw [hq]; rfl, rfl⟩
        · go_wp2_with fail
          go_meet
          exact ⟨by unfold gu; simp, rfl⟩
      case rest =>
        obtain ⟨rfl, hw⟩ := hcut
        subst hw
        clear h00 hc3
        generalize gu c (q % 2) = t at *
        go_upto_if 69 with fail
        go_cut [9] (fun v wc => Bt wc v 130 (quoA a d) ∧ Bt wc (.slice (some ⟨g1, 0, none⟩) 128 cap1) 128 a ∧ Below w.heap.size w wc)
        case first =>
          have ht : t = true ∨ t = false := by cases t <;> simp
          rcases ht with rfl | rfl
          · have HE : Hid (quoA a d = q + 1) := by show quoA a d = q + 1; rw [HQA.out, if_pos rfl]
            clear HQA
            go_wp2_with fail
            refine (int_any 1 130 (by omega) (by omega) (by omega) _).mono ?_
            rintro e w11 ⟨v11, rfl, hown, hb⟩
            have O11 := bt_own hown (by omega)
            have Q11 := Q10.later hb
            have A11 := A10.later hb
            have W11 := bchain W10 hb
            clear hown hb Q10 A10 W10
            go_wp2_with fail
            refine (radd_any _ _ 130 _ _ (by omega) (by omega) _ Q11 O11).mono ?_
            rintro e w12 ⟨v12, rfl, hown, hb⟩
            rw [← HE.out] at hown
            have Q12 := bt_own hown (by omega)
            have A12 := A11.later hb
            have W12 := bchain W11 hb
            clear hown hb Q11 A11 W11 O11
            go_wp2_with fail
            go_meet
            exact ⟨Q12, A12, W12⟩
          · have HE : Hid (quoA a d = q) := by show quoA a d = q; rw [HQA.out, if_neg (by simp)]
            clear HQA
            go_wp2_with fail
            go_meet
            exact ⟨by rw [HE.out]; exact Q10, A10, W10⟩
        case rest =>
          obtain ⟨Q11, A11, W11⟩ := hcut
          clear Q10 A10 W10 HQA
          have BA2 := BA.out
          clear BA
          by_cases ha : a < 0
          · rw [decide_eq_true ha] at BA2
            have BA : Hid (∀ W : World, Bt W (.slice (some ⟨g1, 0, none⟩) 128 cap1) 128 a → Calls Try.prog 42 #[.slice (some ⟨g1, 0, none⟩) 128 cap1] W fun e w' => e = .returned (.bool true) ∧ w' = W) := BA2
            clear BA2
            by_cases hdn : d < 0
            · have HE : Hid (quo a d = quoA a d) := by show _ = _; rw [HQ.out]; simp [ha, hdn]
              clear HQ
              go_wp2_with fail
              refine (BA.out _ A11).mono ?_
              rintro e w12 ⟨rfl, hw⟩
              subst hw
              clear A11 BA
              rw [← HE.out] at Q11
              obtain ⟨g4, cap4, rfl, p7, p8, B4⟩ := Q11.cut (m' := 128) (by omega)
              unfold maxLen at p8
              have s1 : (128 : Int) ≤ (cap4 : Int) := by omega
              clear Q11
              go_wp2
              go_ret
              exact ⟨_, rfl, B4, W11⟩
            · have HE : Hid (quo a d = -(quoA a d)) := by show _ = _; rw [HQ.out]; simp [ha, hdn]
              have hdd : (!decide (d < 0)) = true := by simp [hdn]
              clear HQ
              go_wp2_with fail
              refine (BA.out _ A11).mono ?_
              rintro e w12 ⟨rfl, hw⟩
              subst hw
              clear A11 BA
              go_wp2_with fail
              refine (rneg_any _ 130 _ (by omega) (by omega) _ Q11).mono ?_
              rintro e w13 ⟨v13, rfl, hown, hb⟩
              rw [← HE.out] at hown
              have Q13 := bt_own hown (by omega)
              have W13 := bchain W11 hb
              obtain ⟨g4, cap4, rfl, p7, p8, B4⟩ := Q13.cut (m' := 128) (by omega)
              unfold maxLen at p8
              have s1 : (128 : Int) ≤ (cap4 : Int) := by omega
              clear hown hb Q11 W11 Q13
              go_wp2
              go_ret
              exact ⟨_, rfl, B4, W13⟩
          · rw [decide_eq_false ha] at BA2
            have BA : Hid (∀ W : World, Bt W (.slice (some ⟨g1, 0, none⟩) 128 cap1) 128 a → Calls Try.prog 42 #[.slice (some ⟨g1, 0, none⟩) 128 cap1] W fun e w' => e = .returned (.bool false) ∧ w' = W) := BA2
            clear BA2
            by_cases hdn : d < 0
            · have HE : Hid (quo a d = -(quoA a d)) := by show _ = _; rw [HQ.out]; simp [ha, hdn]
              clear HQ
              go_wp2_with fail
              refine (BA.out _ A11).mono ?_
              rintro e w12 ⟨rfl, hw⟩
              subst hw
              clear A11 BA
              go_wp2_with fail
              refine (rneg_any _ 130 _ (by omega) (by omega) _ Q11).mono ?_
              rintro e w13 ⟨v13, rfl, hown, hb⟩
              rw [← HE.out] at hown
              have Q13 := bt_own hown (by omega)
              have W13 := bchain W11 hb
              obtain ⟨g4, cap4, rfl, p7, p8, B4⟩ := Q13.cut (m' := 128) (by omega)
              unfold maxLen at p8
              have s1 : (128 : Int) ≤ (cap4 : Int) := by omega
              clear hown hb Q11 W11 Q13
              go_wp2
              go_ret
              exact ⟨_, rfl, B4, W13⟩
            · have HE : Hid (quo a d = quoA a d) := by show _ = _; rw [HQ.out]; simp [ha, hdn]
              clear HQ
              go_wp2_with fail
              refine (BA.out _ A11).mono ?_
              rintro e w12 ⟨rfl, hw⟩
              subst hw
              clear A11 BA
              rw [← HE.out] at Q11
              obtain ⟨g4, cap4, rfl, p7, p8, B4⟩ := Q11.cut (m' := 128) (by omega)
              unfold maxLen at p8
              have s1 : (128 : Int) ≤ (cap4 : Int) := by omega
              clear Q11
              go_wp2
              go_ret
              exact ⟨_, rfl, B4, W11⟩
end Go.Proofs.Ytpmidldnomleoaa
