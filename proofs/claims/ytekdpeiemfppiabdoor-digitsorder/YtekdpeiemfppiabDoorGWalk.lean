/-
  The contract of digits' Parse; with it all four functions have theirs.
-/
import Derived.Test.YtekdpeiemfppiabDoorGWalkU
import Derived.Test.YtekdpeiemfppiabDoorGWalkY
import Derived.Test.YtekdpeiemfppiabDoorWalkE
import Derived.Deep.DeepCutAuto
set_option linter.unusedVariables false
set_option linter.unusedSimpArgs false
namespace Go.Proofs.YtekdpeiemfppiabDoor
open Go.RowKit

theorem hid4 {p : Prop} (h : p) : Hid p := h
set_option maxRecDepth 100000 in
set_option maxHeartbeats 8000000 in
theorem gparse_good (l : List UInt8) (hl : l.length ≤ 1000) (hok : pOk l = true) (h20 : (pA l).length ≤ 20) (h40 : (pE l).length ≤ 40) (w : World) :
    Calls Tryd.prog 6 #[.string (bs l)] w fun e w' => e = .returned (.tuple #[.int .i64 (clv (pV l)), .bool (ovv (pV l)), .int .i64 0]) ∧ Below w.heap.size w w' := by
  obtain ⟨q1, q2, q3⟩ := ok_parts3 l hok
  have qd := isD_at _ q1
  have hn := num_small (pA l) qd h20
  have PA : Hid (∀ W : World, Calls Tryd.prog 9 #[.string (bs l)] W fun e w' => e = .returned (.tuple #[.agg #[.bool (pB l), .string (bs (pA l)), .string (bs (pE l))], .bool true]) ∧ Below W.heap.size W w') := by
    intro W
    have h := gapart_any l (by omega) W
    rw [hok] at h
    exact h
  have PN : Hid (∀ W : World, Calls Tryd.prog 11 #[.string (bs (pA l))] W fun e w' => e = .returned (.agg #[.int .i64 (hi ((num (pA l) : Nat) : Int)), .int .u64 (lo ((num (pA l) : Nat) : Int))]) ∧ Below W.heap.size W w') := fun W => gcount_any (pA l) qd (by omega) W
  obtain ⟨X0, hX0⟩ : ∃ X0 : Nat, num (pA l) * 17179869184 = X0 := ⟨_, rfl⟩
  have PH : Hid (∀ W : World, Calls Tryd.prog 10 #[.agg #[.int .i64 (hi ((num (pA l) : Nat) : Int)), .int .u64 (lo ((num (pA l) : Nat) : Int))], .int .i64 34] W fun e w' => e = .returned (.agg #[.int .i64 (hi (X0 : Int)), .int .u64 (lo (X0 : Int))]) ∧ Below W.heap.size W w') := by
    intro W
    have h := shl_any ((num (pA l) : Nat) : Int) 34 (by omega) W
    rw [show ((num (pA l) : Nat) : Int) * 2 ^ (34 : Int).toNat = (X0 : Int) by
      rw [← hX0, Int.natCast_mul]
      congr 1] at h
    exact h
  obtain ⟨M, hM⟩ : ∃ M : Nat, num (pE l) * 10 ^ (40 - (pE l).length) = M := ⟨_, rfl⟩
  have hM1 : M < 10 ^ 40 := by rw [← hM]; exact pad_small (pE l) q2 h40
  have PI : Hid (∀ W : World, Calls Tryd.prog 14 #[.string (bs (pE l))] W fun e w' => e = .returned (.agg (row (fun i => dd M (39 - i)))) ∧ Below W.heap.size W w') := by
    intro W
    have h := gplacesIn_any (pE l) h40 q2 W
    rw [hM] at h
    exact h
  obtain ⟨S, hS⟩ : ∃ S : Nat, stk (M * 17179869184 / 10 ^ 40) (M * 17179869184 % 10 ^ 40) = S := ⟨_, rfl⟩
  have PB : Hid (∀ W : World, Calls Tryd.prog 15 #[.agg (row (fun i => dd M (39 - i))), .int .i64 34] W fun e w' => e = .returned (.int .i64 (S : Int)) ∧ Below W.heap.size W w') := by
    intro W
    have h := gbits_any M hM1 W
    rw [hS] at h
    exact h
  have hS1 : S ≤ 17179869184 := by
    rw [← hS]
    apply stk_le
    have h := out_lt M 34 hM1 (by omega)
    rw [show (2 : Nat) ^ 34 = 17179869184 by decide] at h
    exact h
  have OF : Hid (∀ W : World, Calls Tryd.prog 13 #[.int .i64 (S : Int)] W fun e w' => e = .returned (.agg #[.int .i64 (hi (S : Int)), .int .u64 (lo (S : Int))]) ∧ Below W.heap.size W w') := fun W => of_any (S : Int) (by omega) (by omega) W
  obtain ⟨L, hL⟩ : ∃ L : Nat, num (pA l ++ pE l) * 4294967296 = L := ⟨_, rfl⟩
  have hsum : X0 + S = 4 * (L / 10 ^ (pE l).length) + (rs L (pE l).length).toNat := by
    have h := sum_is (pA l) (pE l) h40
    rw [hX0, hM, hS, hL] at h
    exact h
  have hrnd := rnd_pos L (pE l).length
  rw [← hsum] at hrnd
  have hq := rq_le L (pE l).length
  have hX1 : X0 ≤ 1717986918400000000000000000000 := by
    rw [← hX0]
    have := Nat.mul_le_mul_right 17179869184 (Nat.le_of_lt hn)
    exact this
  obtain ⟨X, hX⟩ : ∃ X : Nat, X0 + S = X := ⟨_, rfl⟩
  rw [hX] at hrnd hsum
  have hX2 : X ≤ 1717986918400000000017179869184 := by omega
  have AD : Hid (∀ W : World, Calls Tryd.prog 12 #[.agg #[.int .i64 (hi (X0 : Int)), .int .u64 (lo (X0 : Int))], .agg #[.int .i64 (hi (S : Int)), .int .u64 (lo (S : Int))]] W fun e w' => e = .returned (.agg #[.int .i64 (hi (X : Int)), .int .u64 (lo (X : Int))]) ∧ Below W.heap.size W w') := by
    intro W
    have h := add_any (X0 : Int) (S : Int) W
    rw [show (X0 : Int) + (S : Int) = (X : Int) by omega] at h
    exact h
  obtain ⟨Y, hY⟩ : ∃ Y : Int, (if pB l = true then -(X : Int) else (X : Int)) = Y := ⟨_, rfl⟩
  have SG : Hid (∀ W : World, Calls Tryd.prog 18 #[.agg #[.bool (pB l), .string (bs (pA l)), .string (bs (pE l))], .agg #[.int .i64 (hi (X : Int)), .int .u64 (lo (X : Int))]] W fun e w' => e = .returned (.agg #[.int .i64 (hi Y), .int .u64 (lo Y)]) ∧ Below W.heap.size W w') := by
    intro W
    have h := gsigned_any (pB l) (bs (pA l)) (bs (pE l)) (X : Int) W
    rw [hY] at h
    exact h
  have hY1 : -1717986918400000000017179869184 ≤ Y ∧ Y ≤ 1717986918400000000017179869184 := by
    rw [← hY]
    split <;> omega
  have hR : rnd Y 2 = pV l := by
    rw [← hY]
    unfold pV
    rw [bE_eq, hL]
    cases pB l
    · exact hrnd.1
    · exact hrnd.2
  have hR1 : -1717986918400000000017179869184 ≤ pV l ∧ pV l ≤ 1717986918400000000017179869184 := by
    unfold pV
    rw [bE_eq, hL]
    have h : rq L (pE l).length ≤ 1717986918400000000017179869184 := by omega
    split <;> omega
  have RD : Hid (∀ W : World, Calls Tryd.prog 17 #[.agg #[.int .i64 (hi Y), .int .u64 (lo Y)], .int .i64 2] W fun e w' => e = .returned (.agg #[.int .i64 (hi (pV l)), .int .u64 (lo (pV l))]) ∧ Below W.heap.size W w') := by
    intro W
    have h := round_mid Y 2 (by omega) (by omega) (by omega) (by omega) W
    rw [hR] at h
    exact h
  have CL : Hid (∀ W : World, Calls Tryd.prog 16 #[.agg #[.int .i64 (hi (pV l)), .int .u64 (lo (pV l))]] W fun e w' => e = .returned (.tuple #[.int .i64 (clv (pV l)), .bool (ovv (pV l))]) ∧ Below W.heap.size W w') := fun W => clamp_any (pV l) (by omega) (by omega) W
  obtain ⟨cb0, cb1⟩ : -9223372036854775808 ≤ clv (pV l) ∧ clv (pV l) ≤ 9223372036854775807 := by
    unfold clv
    repeat' split
    all_goals omega
  have za := bs_size (pA l)
  have ze := bs_size (pE l)
  have i20 : ((pA l).length : Int) ≤ 20 := by omega
  have i40 : ((pE l).length : Int) ≤ 40 := by omega
  clear q1 q2 q3 qd hn hX0 hM hM1 hS hS1 hL hsum hrnd hq hX1 hX hX2 hY hY1 hR hR1 hok h20 h40
  generalize hi ((num (pA l) : Nat) : Int) = n0 at *
  generalize lo ((num (pA l) : Nat) : Int) = n1 at *
  generalize hi (X0 : Int) = x0 at *
  generalize lo (X0 : Int) = x1 at *
  generalize hi (X : Int) = y0 at *
  generalize lo (X : Int) = y1 at *
  generalize hi (S : Int) = s0 at *
  generalize lo (S : Int) = s1 at *
  generalize hi Y = t0 at *
  generalize lo Y = t1 at *
  generalize hi (pV l) = v0 at *
  generalize lo (pV l) = v1 at *
  generalize clv (pV l) = cv at *
  generalize ovv (pV l) = ov at *
  generalize pA l = qa at *
  generalize pE l = qb at *
  generalize pB l = bel at *
  go_enter Tryd.func6, Tryd.ntmps6
  go_wp2_with fail
  refine (PA.out _).mono ?_
  rintro e w1 ⟨rfl, W1⟩
  clear PA
  go_wp2_with fail
  refine (PN.out _).mono ?_
  rintro e w2 ⟨rfl, hb⟩
  have C2 := (Nx.new w1 (.bool bel) (.string (bs qa)) (.string (bs qb)) 33).later hb
  have W2 := bchain (W1.alloc W1.size _) hb
  clear hb W1 PN
  generalize w1.heap.size = nb at *
  have k0 := C2.c0
  have k1 := C2.c1
  have k2 := C2.c2
  go_wp2_with fail
  refine (PH.out _).mono ?_
  rintro e w3 ⟨rfl, hb⟩
  clear k0 k1 k2
  have C3 := C2.later hb
  have W3 := bchain W2 hb
  clear hb C2 W2 PH
  go_upto_region 7 with fail
  have hbw : w.heap.size ≤ w3.heap.size := W3.size
  have hnb : nb < w3.heap.size := C3.blk
  go_cut [] (fun wc => Bx w3.heap.size (.int .i64 y0) (.int .u64 y1) wc ∧ Nx nb (.bool bel) (.string (bs qa)) (.string (bs qb)) wc ∧ Below w.heap.size w wc)
  case first =>
    have B4 : Bx w3.heap.size (.int .i64 x0) (.int .u64 x1) (w3.alloc (.cells #[.int .i64 x0, .int .u64 x1] 38)).drew := (Bx.new w3 _ _ 38).later (Below.refl _ _).drew
    have C4 : Nx nb (.bool bel) (.string (bs qa)) (.string (bs qb)) (w3.alloc (.cells #[.int .i64 x0, .int .u64 x1] 38)).drew := (C3.later (bel1 w3 _)).later (Below.refl _ _).drew
    have W4 : Hid (Below w.heap.size w (w3.alloc (.cells #[.int .i64 x0, .int .u64 x1] 38)).drew) := (W3.alloc W3.size _).drew
    clear C3 W3 SG RD CL
    have b0 := B4.c0
    have b1 := B4.c1
    have g0 := B4.f0
    have g1 := B4.f1
    have k2 := C4.c2
    go_region_with (first
      | (go_at_call 14; refine (PI.out _).mono ?_; rintro e wz ⟨rfl, hb⟩; replace B4 := B4.later hb; replace C4 := C4.later hb; replace W4 := hidC W4 hb; clear hb b0 b1 g0 g1 k2; have b0 := B4.c0; have b1 := B4.c1; have g0 := B4.f0; have g1 := B4.f1; have k2 := C4.c2)
      | (go_at_call 15; refine (PB.out _).mono ?_; rintro e wz ⟨rfl, hb⟩; replace B4 := B4.later hb; replace C4 := C4.later hb; replace W4 := hidC W4 hb; clear hb b0 b1 g0 g1 k2; have b0 := B4.c0; have b1 := B4.c1; have g0 := B4.f0; have g1 := B4.f1; have k2 := C4.c2)
      | (go_at_call 13; refine (OF.out _).mono ?_; rintro e wz ⟨rfl, hb⟩; replace B4 := B4.later hb; replace C4 := C4.later hb; replace W4 := hidC W4 hb; clear hb b0 b1 g0 g1 k2; have b0 := B4.c0; have b1 := B4.c1; have g0 := B4.f0; have g1 := B4.f1; have k2 := C4.c2)
      | (go_at_call 12; refine (AD.out _).mono ?_; rintro e wz ⟨rfl, hb⟩; replace B4 := B4.later hb; replace C4 := C4.later hb; replace W4 := hidC W4 hb; clear hb b0 b1 g0 g1 k2; have b0 := B4.c0; have b1 := B4.c1; have g0 := B4.f0; have g1 := B4.f1; have k2 := C4.c2))
    all_goals go_wp2
    all_goals go_meet
    all_goals exact ⟨B4.set _ _, (C4.off (p := ⟨w3.heap.size, 0, none⟩) _ (by dsimp only; omega)).off (p := ⟨w3.heap.size, 1, none⟩) _ (by dsimp only; omega), (W4.out.setCell (p := ⟨w3.heap.size, 0, none⟩) hbw _).setCell (p := ⟨w3.heap.size, 1, none⟩) hbw _⟩
  case rest =>
    obtain ⟨B5, C5, W5⟩ := hcut
    clear C3 W3 PI PB OF AD
    have b0 := B5.c0
    have b1 := B5.c1
    have k0 := C5.c0
    have k1 := C5.c1
    have k2 := C5.c2
    go_wp2_with fail
    refine (SG.out _).mono ?_
    rintro e w6 ⟨rfl, hb⟩
    have W6 := bchain W5 hb
    clear hb W5 SG B5 C5 b0 b1 k0 k1 k2
    go_wp2_with fail
    refine (RD.out _).mono ?_
    rintro e w7 ⟨rfl, hb⟩
    have W7 := bchain W6 hb
    clear hb W6 RD
    go_wp2_with fail
    refine (CL.out _).mono ?_
    rintro e w8 ⟨rfl, hb⟩
    have W8 := bchain W7 hb
    clear hb W7 CL
    go_wp2
    exact bodyPost_ret (v := .tuple #[.int .i64 cv, .bool ov, .int .i64 0]) (by simp [results, Tryd.results6, go_sem]) rfl ⟨rfl, W8⟩
theorem pOk_len (l : List UInt8) : (pL l = true) ↔ (20 < (pA l).length ∨ 40 < (pE l).length) := by
  unfold pL
  rw [bE_eq, Bool.or_eq_true, decide_eq_true_iff, decide_eq_true_iff]
set_option maxRecDepth 100000 in
set_option maxHeartbeats 4000000 in
theorem gparse_any (l : List UInt8) (hl : l.length ≤ 1000) (w : World) :
    Calls Tryd.prog 6 #[.string (bs l)] w fun e w' => e = .returned (.tuple #[.int .i64 (prX l), .bool (prH l), .int .i64 (prE l)]) ∧ Below w.heap.size w w' := by
  have PA : Hid (∀ W : World, Calls Tryd.prog 9 #[.string (bs l)] W fun e w' => e = .returned (.tuple #[.agg #[.bool (pB l), .string (bs (pA l)), .string (bs (pE l))], .bool (pOk l)]) ∧ Below W.heap.size W w') := fun W => gapart_any l (by omega) W
  have za := bs_size (pA l)
  have ze := bs_size (pE l)
  have hal : (pA l).length ≤ 1000 := by
    unfold pA pS
    rw [List.length_take]
    split
    · rw [List.length_drop]; omega
    · omega
  have hel : (pE l).length ≤ 1000 := by
    unfold pE pS
    rw [List.length_drop]
    split
    · rw [List.length_drop]; omega
    · omega
  cases hok : pOk l
  · obtain ⟨r1, r2, r3⟩ := pOk_no l hok
    rw [r1, r2, r3]
    rw [hok] at PA
    clear hok r1 r2 r3
    generalize pA l = qa at *
    generalize pE l = qb at *
    generalize pB l = bel at *
    go_enter Tryd.func6, Tryd.ntmps6
    go_wp2_with fail
    refine (PA.out _).mono ?_
    rintro e w1 ⟨rfl, W1⟩
    clear PA
    go_wp2
    exact bodyPost_ret (v := .tuple #[.int .i64 0, .bool false, .int .i64 30]) (by simp [results, Tryd.results6, go_sem]) rfl ⟨rfl, W1.alloc W1.size _⟩
  · cases hL : pL l
    · have h : ¬ (20 < (pA l).length ∨ 40 < (pE l).length) := fun h => by
        rw [← pOk_len, hL] at h
        cases h
      obtain ⟨r1, r2, r3⟩ := pOk_good l hok hL
      rw [r1, r2, r3]
      exact gparse_good l hl hok (by omega) (by omega) w
    · have h := (pOk_len l).1 hL
      obtain ⟨r1, r2, r3⟩ := pOk_long l hok hL
      rw [r1, r2, r3]
      rw [hok] at PA
      clear hok r1 r2 r3 hL
      generalize pA l = qa at *
      generalize pE l = qb at *
      generalize pB l = bel at *
      by_cases h1 : (20 : Int) < (qa.length : Int)
      · clear h
        go_enter Tryd.func6, Tryd.ntmps6
        go_wp2_with fail
        refine (PA.out _).mono ?_
        rintro e w1 ⟨rfl, W1⟩
        clear PA
        go_wp2
        exact bodyPost_ret (v := .tuple #[.int .i64 0, .bool false, .int .i64 31]) (by simp [results, Tryd.results6, go_sem]) rfl ⟨rfl, W1.alloc W1.size _⟩
      · have h2 : (40 : Int) < (qb.length : Int) := by omega
        clear h
        go_enter Tryd.func6, Tryd.ntmps6
        go_wp2_with fail
        refine (PA.out _).mono ?_
        rintro e w1 ⟨rfl, W1⟩
        clear PA
        go_wp2
        exact bodyPost_ret (v := .tuple #[.int .i64 0, .bool false, .int .i64 31]) (by simp [results, Tryd.results6, go_sem]) rfl ⟨rfl, W1.alloc W1.size _⟩
end Go.Proofs.YtekdpeiemfppiabDoor
