/-
  The contract of regattaref02's Round.
-/
import Derived.Test.YtpmlpcejmndidabDoorSWalkD
import Derived.Test.YtpmlpcejmndidabDoorSMath2
set_option linter.unusedVariables false
set_option linter.unusedSimpArgs false
namespace Go.Proofs.YtpmlpcejmndidabDoor
open Go.RowKit

theorem B6.all {b : Nat} {x : Nat → Int} {w : World} (h : B6 b x w) (y : Nat → Int) : B6 b y ((((((w.setCell ⟨b, 0, none⟩ (.int .u64 (y 0))).setCell ⟨b, 1, none⟩ (.int .u64 (y 1))).setCell ⟨b, 2, none⟩ (.int .u64 (y 2))).setCell ⟨b, 3, none⟩ (.int .u64 (y 3))).setCell ⟨b, 4, none⟩ (.int .u64 (y 4))).setCell ⟨b, 5, none⟩ (.int .u64 (y 5))) :=
  ((((((h.set 0 (by omega) (y 0)).set 1 (by omega) (y 1)).set 2 (by omega) (y 2)).set 3 (by omega) (y 3)).set 4 (by omega) (y 4)).set 5 (by omega) (y 5)).cong (six (by simp) (by simp) (by simp) (by simp) (by simp) (by simp))
theorem bel6 {w w' : World} {base b : Nat} (h : Below base w w') (hb : base ≤ b) (y : Nat → Int) : Below base w ((((((w'.setCell ⟨b, 0, none⟩ (.int .u64 (y 0))).setCell ⟨b, 1, none⟩ (.int .u64 (y 1))).setCell ⟨b, 2, none⟩ (.int .u64 (y 2))).setCell ⟨b, 3, none⟩ (.int .u64 (y 3))).setCell ⟨b, 4, none⟩ (.int .u64 (y 4))).setCell ⟨b, 5, none⟩ (.int .u64 (y 5))) :=
  ((((((h).setCell (by dsimp only; omega) _).setCell (by dsimp only; omega) _).setCell (by dsimp only; omega) _).setCell (by dsimp only; omega) _).setCell (by dsimp only; omega) _).setCell (by dsimp only; omega) _
theorem hidD' {a b c : World} (h : Hid (Below a.heap.size a b)) (k : Below b.heap.size b c) : Hid (Below a.heap.size a c) := bchain h.out k
theorem sclamp_to (m : Int) (bel : Bool) (T : Int) (h : (if bel = true then -m else m) = T) (m0 : 0 ≤ m) (m1 : m < 6277101735386680763835789423207666416102355444464034512896) (w : World) :
    Calls Tryd.prog 63 #[.agg #[.int .u64 (dg (m) 0), .int .u64 (dg (m) 1), .int .u64 (dg (m) 2), .int .u64 (dg (m) 3), .int .u64 (dg (m) 4), .int .u64 (dg (m) 5)], .bool bel] w fun e w' => e = .returned (.tuple #[.int .i64 (clv T), .bool (ovv T)]) ∧ Below w.heap.size w w' := by
  rw [← h]
  exact sclamp_any m bel m0 m1 w
theorem sone_10 (w : World) : Calls Tryd.prog 59 #[.int .u64 1, .int .i64 0] w fun e w' => e = .returned (.agg #[.int .u64 (dg (1) 0), .int .u64 (dg (1) 1), .int .u64 (dg (1) 2), .int .u64 (dg (1) 3), .int .u64 (dg (1) 4), .int .u64 (dg (1) 5)]) ∧ Below w.heap.size w w' := by
  have h := sone_any 1 0 (by omega) (by omega) (by omega) w
  rw [show (1 : Int) * 2 ^ (32 * 0) = 1 from rfl] at h
  exact h
theorem dg0_par (v : Int) : dg v 0 % 2 = v % 2 := by unfold dg; rw [Nat.mul_zero, Int.pow_zero, Int.ediv_one]; omega
theorem ab_ge' (v : Int) : 0 ≤ ab v := by unfold ab; split <;> omega

set_option maxHeartbeats 2000000 in
theorem sround_any (p q : Int) (n : Nat) (hn : n ≤ 1000) (p0 : 0 ≤ p) (p1 : p < 3138550867693340381917894711603833208051177722232017256448) (q0 : 0 ≤ q) (q1 : q < 3138550867693340381917894711603833208051177722232017256448) (w : World) :
    Calls Tryd.prog 40 #[.agg #[.int .u64 (dg (p) 0), .int .u64 (dg (p) 1), .int .u64 (dg (p) 2), .int .u64 (dg (p) 3), .int .u64 (dg (p) 4), .int .u64 (dg (p) 5), .int .u64 (dg (q) 0), .int .u64 (dg (q) 1), .int .u64 (dg (q) 2), .int .u64 (dg (q) 3), .int .u64 (dg (q) 4), .int .u64 (dg (q) 5)], .int .i64 (n : Int)] w fun e w' => e = .returned (.tuple #[.int .i64 (clv (rr (p - q) n)), .bool (ovv (rr (p - q) n))]) ∧ Below w.heap.size w w' := by
  have W0 := bel1 w (.cells #[.int .u64 (dg (p) 0), .int .u64 (dg (p) 1), .int .u64 (dg (p) 2), .int .u64 (dg (p) 3), .int .u64 (dg (p) 4), .int .u64 (dg (p) 5), .int .u64 (dg (q) 0), .int .u64 (dg (q) 1), .int .u64 (dg (q) 2), .int .u64 (dg (q) 3), .int .u64 (dg (q) 4), .int .u64 (dg (q) 5)] 73)
  go_enter Tryd.func40, Tryd.ntmps40
  go_wp2_with fail
  refine (swhole_any p q p0 (by omega) q0 (by omega) _).mono ?_
  rintro e w1 ⟨rfl, hb⟩
  have W1 := bchain W0 hb
  clear hb W0
  have HF : Hid ((if decide (p - q < 0) = true then -(rr (ab (p - q)) n) else rr (ab (p - q)) n) = rr (p - q) n) := rr_sign (p - q) n
  have M0 := ab_ge' (p - q)
  have M1 : ab (p - q) < 3138550867693340381917894711603833208051177722232017256448 := by unfold ab; split <;> omega
  generalize ab (p - q) = M at *
  generalize decide (p - q < 0) = bel at *
  clear p0 p1 q0 q1
  have D0 := B6.new w1 (dg M) 71
  have V0 := bchain W1 (bel1 w1 (.cells #[.int .u64 (dg (M) 0), .int .u64 (dg (M) 1), .int .u64 (dg (M) 2), .int .u64 (dg (M) 3), .int .u64 (dg (M) 4), .int .u64 (dg (M) 5)] 71))
  have hd := W1.size
  clear W1
  go_wp2
  generalize w1.alloc (.cells #[.int .u64 (dg (M) 0), .int .u64 (dg (M) 1), .int .u64 (dg (M) 2), .int .u64 (dg (M) 3), .int .u64 (dg (M) 4), .int .u64 (dg (M) 5)] 71) = w2 at *
  generalize w1.heap.size = d at *
  go_loopw [8, 9, 10] (fun l r i wr => ∃ j : Nat, j ≤ n ∧ i = .int .i64 (j : Int) ∧ l = .int .u64 (lastB M j) ∧ r = .int .u64 (restB M j) ∧ B6 d (dg (M / 2 ^ j)) wr ∧ Below w.heap.size w wr) (fun _ _ i _ => n - (intOf i).toNat)
  case atStart => exact ⟨0, by omega, rfl, rfl, by unfold restB; rw [if_pos (by omega)], by rw [Int.pow_zero, Int.ediv_one]; exact D0, V0⟩
  case round =>
    clear D0 V0
    obtain ⟨j, hj, rfl, rfl, rfl, hD, hW⟩ := hrel
    have hp := pow_pos' j
    have m0 : 0 ≤ M / 2 ^ j := Int.ediv_nonneg M0 (by omega)
    have m1 : M / 2 ^ j ≤ M := Int.ediv_le_self _ M0
    by_cases hlt : (j : Int) < (n : Int)
    · have hor := rest_step M j
      have HL : Hid (M / 2 ^ j % 2 = lastB M (j + 1)) := by show _ = _; unfold lastB; rw [if_neg (by omega), show j + 1 - 1 = j by omega]
      have HD : Hid (M / 2 ^ j / 2 = M / 2 ^ (j + 1)) := by show _ = _; rw [Int.ediv_ediv_of_nonneg (by omega), Int.pow_succ]
      have x0 := hD.c 0 (by omega)
      have x1 := hD.c 1 (by omega)
      have x2 := hD.c 2 (by omega)
      have x3 := hD.c 3 (by omega)
      have x4 := hD.c 4 (by omega)
      have x5 := hD.c 5 (by omega)
      clear hp
      go_wp2_with fail
      refine (shalf_any (M / 2 ^ j) m0 (by omega) _).mono ?_
      rintro e w3 ⟨rfl, hb⟩
      have D3 := hD.later hb
      have W3 := bchain hW hb
      clear hb hD hW x0 x1 x2 x3 x4 x5 hor
      have x0 := D3.c 0 (by omega)
      have x1 := D3.c 1 (by omega)
      have x2 := D3.c 2 (by omega)
      have x3 := D3.c 3 (by omega)
      have x4 := D3.c 4 (by omega)
      have x5 := D3.c 5 (by omega)
      have f0 := D3.f 0 (by omega)
      have f1 := D3.f 1 (by omega)
      have f2 := D3.f 2 (by omega)
      have f3 := D3.f 3 (by omega)
      have f4 := D3.f 4 (by omega)
      have f5 := D3.f 5 (by omega)
      have D4 := D3.all (dg (M / 2 ^ j / 2))
      have W4 := bel6 W3 hd (dg (M / 2 ^ j / 2))
      clear D3 W3
      go_wp2
      go_roundw
      case rel => exact ⟨j + 1, by omega, by rw [show ((j + 1 : Nat) : Int) = (j : Int) + 1 by omega], by rw [HL.out], rfl, D4.cong fun k hk => by rw [HD.out], W4⟩
      case measure => simp [intOf]; omega
    · obtain rfl : j = n := by omega
      have hU := up_iff M j M0
      have L01 := lastB_01 M j
      have R01 := restB_01 M j
      have hpar := dg0_par (M / 2 ^ j)
      have P01 : M / 2 ^ j % 2 = 0 ∨ M / 2 ^ j % 2 = 1 := by omega
      obtain ⟨z0, z1⟩ := dg_rng (M / 2 ^ j) 0
      have t1 := Int.tmod_eq_emod_of_nonneg (b := 2) z0
      have t2 := wrap_small (dg (M / 2 ^ j) 0 % 2) (by omega) (by omega)
      have hcase : (lastB M j = 0 ∧ rr M j = M / 2 ^ j) ∨ (lastB M j = 1 ∧ restB M j = 0 ∧ dg (M / 2 ^ j) 0 % 2 = 0 ∧ rr M j = M / 2 ^ j) ∨ (lastB M j = 1 ∧ restB M j = 1 ∧ rr M j = M / 2 ^ j + 1) ∨ (lastB M j = 1 ∧ restB M j = 0 ∧ dg (M / 2 ^ j) 0 % 2 = 1 ∧ rr M j = M / 2 ^ j + 1) := by
        rcases L01 with h1 | h1
        · exact .inl ⟨h1, by rw [hU, if_neg (by omega)]⟩
        · rcases R01 with h2 | h2
          · rcases P01 with h3 | h3
            · exact .inr (.inl ⟨h1, h2, by omega, by rw [hU, if_neg (by omega)]⟩)
            · exact .inr (.inr (.inr ⟨h1, h2, by omega, by rw [hU, if_pos (by omega)]⟩))
          · exact .inr (.inr (.inl ⟨h1, h2, by rw [hU, if_pos (by omega)]⟩))
      clear hU L01 R01 hpar P01
      generalize lastB M j = l at *
      generalize restB M j = r at *
      generalize rr M j = Z at *
      generalize M / 2 ^ j = X at *
      rcases hcase with ⟨rfl, hZ⟩ | ⟨rfl, rfl, hb0, hZ⟩ | ⟨rfl, rfl, hZ⟩ | ⟨rfl, rfl, hb1, hZ⟩
      · subst hZ
        have x0 := hD.c 0 (by omega)
        have x1 := hD.c 1 (by omega)
        have x2 := hD.c 2 (by omega)
        have x3 := hD.c 3 (by omega)
        have x4 := hD.c 4 (by omega)
        have x5 := hD.c 5 (by omega)
        clear hD
        go_wp2_with fail
        refine (sclamp_to Z bel _ HF.out m0 (by omega) _).mono ?_
        rintro e w4 ⟨rfl, hb⟩
        have W4 := bchain hW hb
        clear hb hW x0 x1 x2 x3 x4 x5
        go_wp2
        go_ret2
        exact ⟨rfl, W4⟩
      · subst hZ
        have x0 := hD.c 0 (by omega)
        have x1 := hD.c 1 (by omega)
        have x2 := hD.c 2 (by omega)
        have x3 := hD.c 3 (by omega)
        have x4 := hD.c 4 (by omega)
        have x5 := hD.c 5 (by omega)
        clear hD
        go_wp2_with fail
        refine (sclamp_to Z bel _ HF.out m0 (by omega) _).mono ?_
        rintro e w4 ⟨rfl, hb⟩
        have W4 := bchain hW hb
        clear hb hW x0 x1 x2 x3 x4 x5
        go_wp2
        go_ret2
        exact ⟨rfl, W4⟩
      all_goals
        subst hZ
        have CD := hD.later ((Below.refl _ _).drew : Below wr.heap.size wr wr.drew)
        have CV : Hid (Below w.heap.size w wr.drew) := hW.drew
        have x0 := hD.c 0 (by omega)
        have x1 := hD.c 1 (by omega)
        have x2 := hD.c 2 (by omega)
        have x3 := hD.c 3 (by omega)
        have x4 := hD.c 4 (by omega)
        have x5 := hD.c 5 (by omega)
        go_upto_region 10 with fail
        clear x0 x1 x2 x3 x4 x5 hD hW
        have x0 := CD.c 0 (by omega)
        have x1 := CD.c 1 (by omega)
        have x2 := CD.c 2 (by omega)
        have x3 := CD.c 3 (by omega)
        have x4 := CD.c 4 (by omega)
        have x5 := CD.c 5 (by omega)
        have f0 := CD.f 0 (by omega)
        have f1 := CD.f 1 (by omega)
        have f2 := CD.f 2 (by omega)
        have f3 := CD.f 3 (by omega)
        have f4 := CD.f 4 (by omega)
        have f5 := CD.f 5 (by omega)
        go_region_with (first
          | (go_at_call 59; refine (sone_10 _).mono ?_; rintro e wz ⟨rfl, hb⟩; clear x0 x1 x2 x3 x4 x5 f0 f1 f2 f3 f4 f5; replace CD := CD.later hb; replace CV := hidD' CV hb; clear hb; have x0 := CD.c 0 (by omega); have x1 := CD.c 1 (by omega); have x2 := CD.c 2 (by omega); have x3 := CD.c 3 (by omega); have x4 := CD.c 4 (by omega); have x5 := CD.c 5 (by omega); have f0 := CD.f 0 (by omega); have f1 := CD.f 1 (by omega); have f2 := CD.f 2 (by omega); have f3 := CD.f 3 (by omega); have f4 := CD.f 4 (by omega); have f5 := CD.f 5 (by omega))
          | (go_at_call 58; refine (splus_any X 1 _).mono ?_; rintro e wz ⟨rfl, hb⟩; clear x0 x1 x2 x3 x4 x5 f0 f1 f2 f3 f4 f5; replace CD := CD.later hb; replace CV := hidD' CV hb; clear hb; have x0 := CD.c 0 (by omega); have x1 := CD.c 1 (by omega); have x2 := CD.c 2 (by omega); have x3 := CD.c 3 (by omega); have x4 := CD.c 4 (by omega); have x5 := CD.c 5 (by omega); have f0 := CD.f 0 (by omega); have f1 := CD.f 1 (by omega); have f2 := CD.f 2 (by omega); have f3 := CD.f 3 (by omega); have f4 := CD.f 4 (by omega); have f5 := CD.f 5 (by omega)))
        all_goals
          have D5 := CD.all (dg (X + 1))
          have W5 := bel6 CV.out hd (dg (X + 1))
          clear CD CV x0 x1 x2 x3 x4 x5 f0 f1 f2 f3 f4 f5
          generalize hw10 : (((((wz.setCell ⟨d, 0, none⟩ (.int .u64 (dg (X + 1) 0))).setCell ⟨d, 1, none⟩ (.int .u64 (dg (X + 1) 1))).setCell ⟨d, 2, none⟩ (.int .u64 (dg (X + 1) 2))).setCell ⟨d, 3, none⟩ (.int .u64 (dg (X + 1) 3))).setCell ⟨d, 4, none⟩ (.int .u64 (dg (X + 1) 4))).setCell ⟨d, 5, none⟩ (.int .u64 (dg (X + 1) 5)) = w10 at *
          clear hw10
          have x0 := D5.c 0 (by omega)
          have x1 := D5.c 1 (by omega)
          have x2 := D5.c 2 (by omega)
          have x3 := D5.c 3 (by omega)
          have x4 := D5.c 4 (by omega)
          have x5 := D5.c 5 (by omega)
          clear D5
          go_wp2_with fail
          refine (sclamp_to (X + 1) bel _ HF.out (by omega) (by omega) _).mono ?_
          rintro e w4 ⟨rfl, hb⟩
          have W4 := bchain W5 hb
          clear hb W5 x0 x1 x2 x3 x4 x5
          go_wp2
          go_ret2
          exact ⟨rfl, W4⟩
end Go.Proofs.YtpmlpcejmndidabDoor
