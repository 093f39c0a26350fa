/-
  The contract of regattaref02's FromFloat.
-/
import Derived.Test.YtpmlpcejmndidabSMath4
set_option linter.unusedVariables false
set_option linter.unusedSimpArgs false
namespace Go.Proofs.Ytpmlpcejmndidab
open Go.RowKit
theorem sone_z (x : Int) (x0 : 0 ≤ x) (x1 : x ≤ 18446744073709551615) (w : World) : Calls Try.prog 27 #[.int .u64 x, .int .i64 0] w fun e w' => e = .returned (.agg #[.int .u64 (dg (x) 0), .int .u64 (dg (x) 1), .int .u64 (dg (x) 2), .int .u64 (dg (x) 3), .int .u64 (dg (x) 4), .int .u64 (dg (x) 5)]) ∧ Below w.heap.size w w' := by
  have h := sone_any x 0 (by omega) x0 x1 w
  rw [Nat.mul_zero, Int.pow_zero, Int.mul_one] at h
  exact h
theorem ret3 (x : Int) (o k : Bool) : True := trivial
set_option maxHeartbeats 1000000 in
theorem sff_nan (b : Int) (b0 : 0 ≤ b) (b1 : b < 18446744073709551616) (hN : fN b = true) (w : World) : Calls Try.prog 11 #[.int .u64 b] w fun e w' => e = .returned (.tuple #[.int .i64 0, .bool false, .bool false]) ∧ Below w.heap.size w w' := by
  have f0 := (fF_rng b).1
  have f1 := (fF_rng b).2
  have g0 := (fE_rng b).1
  have g1 := (fE_rng b).2
  have q0 : 0 ≤ b / 4503599627370496 := by omega
  have q1 : b / 4503599627370496 < 4096 := by omega
  have q2 : 0 ≤ b / 9223372036854775808 := by omega
  have q3 : b / 9223372036854775808 ≤ 1 := by omega
  have p52 : (2 : Int) ^ (52 : Int).toNat = 4503599627370496 := rfl
  have p63 : (2 : Int) ^ (63 : Int).toNat = 9223372036854775808 := rfl
  have t1 : (b / 4503599627370496).tmod 2048 = fE b := Int.tmod_eq_emod_of_nonneg q0
  have t2 : b.tmod 4503599627370496 = fF b := Int.tmod_eq_emod_of_nonneg b0
  have t3 := wrap_small (fE b) (by omega) (by omega)
  have t4 := wrap_small (fF b) (by omega) (by omega)
  have hE : fE b = 2047 := by unfold fN at hN; simp at hN; exact hN.1
  have hF : ¬ fF b = 0 := by unfold fN at hN; simp at hN; exact hN.2
  generalize fF b = F at *
  generalize fE b = E at *
  subst hE
  go_enter Try.func11, Try.ntmps11
  go_wp2
  exact bodyPost_ret (v := .tuple #[.int .i64 0, .bool false, .bool false]) (by simp [results, Try.results11, go_sem]) rfl ⟨rfl, Below.refl _ _⟩
set_option maxHeartbeats 1000000 in
theorem sff_inf (b : Int) (b0 : 0 ≤ b) (b1 : b < 18446744073709551616) (hE : fE b = 2047) (hF : fF b = 0) (w : World) : Calls Try.prog 11 #[.int .u64 b] w fun e w' => e = .returned (.tuple #[.int .i64 (clv (fV b)), .bool (ovv (fV b)), .bool true]) ∧ Below w.heap.size w w' := by
  have f0 := (fF_rng b).1
  have f1 := (fF_rng b).2
  have g0 := (fE_rng b).1
  have g1 := (fE_rng b).2
  have q0 : 0 ≤ b / 4503599627370496 := by omega
  have q1 : b / 4503599627370496 < 4096 := by omega
  have q2 : 0 ≤ b / 9223372036854775808 := by omega
  have q3 : b / 9223372036854775808 ≤ 1 := by omega
  have p52 : (2 : Int) ^ (52 : Int).toNat = 4503599627370496 := rfl
  have p63 : (2 : Int) ^ (63 : Int).toNat = 9223372036854775808 := rfl
  have t1 : (b / 4503599627370496).tmod 2048 = fE b := Int.tmod_eq_emod_of_nonneg q0
  have t2 : b.tmod 4503599627370496 = fF b := Int.tmod_eq_emod_of_nonneg b0
  have t3 := wrap_small (fE b) (by omega) (by omega)
  have t4 := wrap_small (fF b) (by omega) (by omega)
  obtain ⟨v1, v2⟩ := ff_inf b hE hF
  rw [v1, v2]
  clear v1 v2
  generalize fF b = F at *
  generalize fE b = E at *
  subst hE
  subst hF
  by_cases hs : b / 9223372036854775808 = 1
  · rw [if_pos (by simpa using hs)]
    go_enter Try.func11, Try.ntmps11
    go_wp2
    exact bodyPost_ret (v := .tuple #[.int .i64 (-9223372036854775808), .bool true, .bool true]) (by simp [results, Try.results11, go_sem]) rfl ⟨rfl, Below.refl _ _⟩
  · rw [if_neg (by simpa using hs)]
    go_enter Try.func11, Try.ntmps11
    go_wp2
    exact bodyPost_ret (v := .tuple #[.int .i64 9223372036854775807, .bool true, .bool true]) (by simp [results, Try.results11, go_sem]) rfl ⟨rfl, Below.refl _ _⟩
theorem sone_of (x y : Int) (h : x = y) (x0 : 0 ≤ x) (x1 : x ≤ 18446744073709551615) (w : World) : Calls Try.prog 27 #[.int .u64 x, .int .i64 0] w fun e w' => e = .returned (.agg #[.int .u64 (dg (y) 0), .int .u64 (dg (y) 1), .int .u64 (dg (y) 2), .int .u64 (dg (y) 3), .int .u64 (dg (y) 4), .int .u64 (dg (y) 5)]) ∧ Below w.heap.size w w' := by
  subst h
  exact sone_z x x0 x1 w
theorem sclamp_as (m : Int) (bel : Bool) (c : Int) (o : Bool) (h : clv (if bel = true then -m else m) = c ∧ ovv (if bel = true then -m else m) = o) (m0 : 0 ≤ m) (m1 : m < 6277101735386680763835789423207666416102355444464034512896) (w : World) :
    Calls Try.prog 30 #[.agg #[.int .u64 (dg (m) 0), .int .u64 (dg (m) 1), .int .u64 (dg (m) 2), .int .u64 (dg (m) 3), .int .u64 (dg (m) 4), .int .u64 (dg (m) 5)], .bool bel] w fun e w' => e = .returned (.tuple #[.int .i64 c, .bool o]) ∧ Below w.heap.size w w' := by
  rw [← h.1, ← h.2]
  exact sclamp_any m bel m0 m1 w
theorem dig23 (Y : Int) (y0 : 0 ≤ Y) (y1 : Y < 36893488147419103232) : (dg Y 2 = 0 → Y < 18446744073709551616) ∧ (¬ dg Y 2 = 0 → 18446744073709551616 ≤ Y) ∧ dg Y 3 = 0 := by
  have e2 : dg Y 2 = Y / 18446744073709551616 % 4294967296 := rfl
  have e3 : dg Y 3 = Y / 79228162514264337593543950336 % 4294967296 := rfl
  rw [e2, e3]
  omega
set_option maxHeartbeats 2000000 in
theorem sff_up (b : Int) (b0 : 0 ≤ b) (b1 : b < 18446744073709551616) (e0 : 1044 ≤ fE b) (e1 : fE b ≤ 2046) (w : World) : Calls Try.prog 11 #[.int .u64 b] w fun e w' => e = .returned (.tuple #[.int .i64 (clv (fV b)), .bool (ovv (fV b)), .bool true]) ∧ Below w.heap.size w w' := by
  have f0 := (fF_rng b).1
  have f1 := (fF_rng b).2
  have g0 := (fE_rng b).1
  have g1 := (fE_rng b).2
  have q0 : 0 ≤ b / 4503599627370496 := by omega
  have q1 : b / 4503599627370496 < 4096 := by omega
  have q2 : 0 ≤ b / 9223372036854775808 := by omega
  have q3 : b / 9223372036854775808 ≤ 1 := by omega
  have p52 : (2 : Int) ^ (52 : Int).toNat = 4503599627370496 := rfl
  have p63 : (2 : Int) ^ (63 : Int).toNat = 9223372036854775808 := rfl
  have t1 : (b / 4503599627370496).tmod 2048 = fE b := Int.tmod_eq_emod_of_nonneg q0
  have t2 : b.tmod 4503599627370496 = fF b := Int.tmod_eq_emod_of_nonneg b0
  have t3 := wrap_small (fE b) (by omega) (by omega)
  have t4 := wrap_small (fF b) (by omega) (by omega)
  have hD : fF b + 4503599627370496 = fD b := by unfold fD; rw [if_pos (by omega)]
  have D0 := (fD_rng b).1
  have D1 := (fD_rng b).2
  have HU : Hid (∀ (t : Nat) (Y : Int), (t : Int) ≤ fE b - 1043 → Y = fD b * 2 ^ t → (t : Int) = fE b - 1043 ∨ 18446744073709551616 ≤ Y → Y < 36893488147419103232 → clv (if (b / 9223372036854775808 == 1) = true then -Y else Y) = clv (fV b) ∧ ovv (if (b / 9223372036854775808 == 1) = true then -Y else Y) = ovv (fV b)) := fun t Y h1 h2 h3 h4 => ff_up b t Y e0 e1 h1 h2 h3 h4
  have SO : Hid (∀ W : World, Calls Try.prog 27 #[.int .u64 (fF b + 4503599627370496), .int .i64 0] W fun e w' => e = .returned (.agg #[.int .u64 (dg (fD b) 0), .int .u64 (dg (fD b) 1), .int .u64 (dg (fD b) 2), .int .u64 (dg (fD b) 3), .int .u64 (dg (fD b) 4), .int .u64 (dg (fD b) 5)]) ∧ Below W.heap.size W w') := fun W => sone_of _ _ hD (by omega) (by omega) W
  have t5 := wrap_small (fF b + 4503599627370496) (by omega) (by omega)
  have hne : ¬ fE b = 2047 := by omega
  have hpo : 0 < fE b := by omega
  clear hD
  generalize clv (fV b) = C at *
  generalize ovv (fV b) = O at *
  generalize fD b = D at *
  generalize fF b = F at *
  generalize fE b = E at *
  go_enter Try.func11, Try.ntmps11
  go_wp2_with fail
  refine (SO.out _).mono ?_
  rintro e w1 ⟨rfl, W1⟩
  clear SO
  have A0 := B6.new w1 (dg D) 53
  have V0 := bchain W1 (bel1 w1 (.cells #[.int .u64 (dg (D) 0), .int .u64 (dg (D) 1), .int .u64 (dg (D) 2), .int .u64 (dg (D) 3), .int .u64 (dg (D) 4), .int .u64 (dg (D) 5)] 53))
  have hd := W1.size
  clear W1
  go_wp2
  generalize w1.alloc (.cells #[.int .u64 (dg (D) 0), .int .u64 (dg (D) 1), .int .u64 (dg (D) 2), .int .u64 (dg (D) 3), .int .u64 (dg (D) 4), .int .u64 (dg (D) 5)] 53) = w2 at *
  generalize w1.heap.size = d at *
  have hnn : ¬ E - 1043 < 0 := by omega
  go_loopw [8, 10, 11] (fun n l r wr => n = .int .i64 (E - 1043) ∧ l = .int .u64 0 ∧ r = .int .u64 0 ∧ B6 d (dg D) wr ∧ Below w.heap.size w wr) (fun _ _ _ _ => 0)
  case atStart => exact ⟨rfl, rfl, rfl, A0, V0⟩
  case round =>
    clear A0 V0
    obtain ⟨rfl, rfl, rfl, A0, V0⟩ := hrel
    go_wp2
    go_loopw [8] (fun n wr => ∃ t : Nat, (t : Int) ≤ E - 1043 ∧ n = .int .i64 (E - 1043 - (t : Int)) ∧ D * 2 ^ t < 36893488147419103232 ∧ B6 d (dg (D * 2 ^ t)) wr ∧ Below w.heap.size w wr) (fun n _ => (intOf n).toNat)
    case atStart => exact ⟨0, by omega, by simp, by rw [Int.pow_zero, Int.mul_one]; omega, by rw [Int.pow_zero, Int.mul_one]; exact A0, V0⟩
    case round =>
      clear A0 V0
      obtain ⟨t, ht, rfl, hb, A0, V0⟩ := hrel
      have hp := pow_pos' t
      have y0 : 0 ≤ D * 2 ^ t := Int.mul_nonneg D0 (by omega)
      obtain ⟨z1, z2, z3⟩ := dig23 (D * 2 ^ t) y0 hb
      clear hp
      by_cases hn : 0 < E - 1043 - (t : Int)
      · by_cases h2 : dg (D * 2 ^ t) 2 = 0
        · have z4 := z1 h2
          have HN : Hid (D * 2 ^ t + D * 2 ^ t = D * 2 ^ (t + 1)) := by show _ = _; rw [Int.pow_succ, ← Int.mul_assoc]; omega
          clear z1 z2
          have x0 := A0.c 0 (by omega)
          have x1 := A0.c 1 (by omega)
          have x2 := A0.c 2 (by omega)
          have x3 := A0.c 3 (by omega)
          have x4 := A0.c 4 (by omega)
          have x5 := A0.c 5 (by omega)
          go_upto_region 24 with fail
          clear h2 z3
          go_wp2_with fail
          refine (splus_any (D * 2 ^ t) (D * 2 ^ t) _).mono ?_
          rintro e w3 ⟨rfl, hbl⟩
          have D3 := A0.later hbl
          have W3 := bchain V0 hbl
          clear hbl A0 V0 x0 x1 x2 x3 x4 x5
          have x0 := D3.c 0 (by omega)
          have x1 := D3.c 1 (by omega)
          have x2 := D3.c 2 (by omega)
          have x3 := D3.c 3 (by omega)
          have x4 := D3.c 4 (by omega)
          have x5 := D3.c 5 (by omega)
          have f0 := D3.f 0 (by omega)
          have f1 := D3.f 1 (by omega)
          have f2 := D3.f 2 (by omega)
          have f3 := D3.f 3 (by omega)
          have f4 := D3.f 4 (by omega)
          have f5 := D3.f 5 (by omega)
          have D4 := D3.all (dg (D * 2 ^ t + D * 2 ^ t))
          have W4 := bel6 W3 hd (dg (D * 2 ^ t + D * 2 ^ t))
          clear D3 W3
          go_wp2
          go_roundw
          case rel => exact ⟨t + 1, by omega, by rw [show ((t + 1 : Nat) : Int) = (t : Int) + 1 by omega, Int.sub_sub], by rw [← HN.out]; omega, D4.cong fun k hk => by rw [HN.out], W4⟩
          case measure => simp [intOf]; omega
        · have z4 := z2 h2
          have CA : Hid (∀ W : World, Calls Try.prog 30 #[.agg #[.int .u64 (dg (D * 2 ^ t) 0), .int .u64 (dg (D * 2 ^ t) 1), .int .u64 (dg (D * 2 ^ t) 2), .int .u64 (dg (D * 2 ^ t) 3), .int .u64 (dg (D * 2 ^ t) 4), .int .u64 (dg (D * 2 ^ t) 5)], .bool (b / 9223372036854775808 == 1)] W fun e w' => e = .returned (.tuple #[.int .i64 C, .bool O]) ∧ Below W.heap.size W w') := fun W => sclamp_as _ _ _ _ (HU.out t _ ht rfl (.inr z4) hb) y0 (by omega) W
          clear z1 z2 z3 HU
          have x0 := A0.c 0 (by omega)
          have x1 := A0.c 1 (by omega)
          have x2 := A0.c 2 (by omega)
          have x3 := A0.c 3 (by omega)
          have x4 := A0.c 4 (by omega)
          have x5 := A0.c 5 (by omega)
          go_wp2_with fail
          refine (CA.out _).mono ?_
          rintro e w4 ⟨rfl, hbl⟩
          have W4 := bchain V0 hbl
          clear hbl V0 CA x0 x1 x2 x3 x4 x5
          go_wp2
          exact bodyPost_ret (v := .tuple #[.int .i64 C, .bool O, .bool true]) (by simp [results, Try.results11, go_sem]) rfl ⟨rfl, W4⟩
      · have CA : Hid (∀ W : World, Calls Try.prog 30 #[.agg #[.int .u64 (dg (D * 2 ^ t) 0), .int .u64 (dg (D * 2 ^ t) 1), .int .u64 (dg (D * 2 ^ t) 2), .int .u64 (dg (D * 2 ^ t) 3), .int .u64 (dg (D * 2 ^ t) 4), .int .u64 (dg (D * 2 ^ t) 5)], .bool (b / 9223372036854775808 == 1)] W fun e w' => e = .returned (.tuple #[.int .i64 C, .bool O]) ∧ Below W.heap.size W w') := fun W => sclamp_as _ _ _ _ (HU.out t _ ht rfl (.inl (by omega)) hb) y0 (by omega) W
        clear z1 z2 z3 HU
        have x0 := A0.c 0 (by omega)
        have x1 := A0.c 1 (by omega)
        have x2 := A0.c 2 (by omega)
        have x3 := A0.c 3 (by omega)
        have x4 := A0.c 4 (by omega)
        have x5 := A0.c 5 (by omega)
        go_wp2_with fail
        refine (CA.out _).mono ?_
        rintro e w4 ⟨rfl, hbl⟩
        have W4 := bchain V0 hbl
        clear hbl V0 CA x0 x1 x2 x3 x4 x5
        go_wp2
        exact bodyPost_ret (v := .tuple #[.int .i64 C, .bool O, .bool true]) (by simp [results, Try.results11, go_sem]) rfl ⟨rfl, W4⟩
set_option maxHeartbeats 4000000 in
theorem sff_down (b : Int) (b0 : 0 ≤ b) (b1 : b < 18446744073709551616) (e1 : fE b ≤ 1043) (w : World) : Calls Try.prog 11 #[.int .u64 b] w fun e w' => e = .returned (.tuple #[.int .i64 (clv (fV b)), .bool (ovv (fV b)), .bool true]) ∧ Below w.heap.size w w' := by
  have f0 := (fF_rng b).1
  have f1 := (fF_rng b).2
  have g0 := (fE_rng b).1
  have g1 := (fE_rng b).2
  have q0 : 0 ≤ b / 4503599627370496 := by omega
  have q1 : b / 4503599627370496 < 4096 := by omega
  have q2 : 0 ≤ b / 9223372036854775808 := by omega
  have q3 : b / 9223372036854775808 ≤ 1 := by omega
  have p52 : (2 : Int) ^ (52 : Int).toNat = 4503599627370496 := rfl
  have p63 : (2 : Int) ^ (63 : Int).toNat = 9223372036854775808 := rfl
  have t1 : (b / 4503599627370496).tmod 2048 = fE b := Int.tmod_eq_emod_of_nonneg q0
  have t2 : b.tmod 4503599627370496 = fF b := Int.tmod_eq_emod_of_nonneg b0
  have t3 := wrap_small (fE b) (by omega) (by omega)
  have t4 := wrap_small (fF b) (by omega) (by omega)
  have M0 := (fD_rng b).1
  have M1 := (fD_rng b).2
  have hne : ¬ fE b = 2047 := by omega
  have hP : fP b + 32 ≤ 0 := by unfold fP; split <;> omega
  have hV := ff_down b hP
  have hDp : 0 < fE b → fF b + 4503599627370496 = fD b := by intro h; unfold fD; rw [if_pos h]
  have hDn : ¬ 0 < fE b → fF b = fD b := by intro h; unfold fD; rw [if_neg h]
  have hPp : 0 < fE b → fP b + 32 = fE b - 1043 := by intro h; unfold fP; rw [if_pos h]; omega
  have hPn : ¬ 0 < fE b → fP b + 32 = -1042 := by intro h; unfold fP; rw [if_neg h]; rfl
  generalize fD b = M at *
  generalize fF b = F at *
  generalize fE b = E at *
  generalize fP b + 32 = P at *
  generalize fV b = V at *
  by_cases hpo : 0 < E
  · obtain ⟨k, hk⟩ : ∃ k : Nat, (-P).toNat = k := ⟨_, rfl⟩
    rw [hk] at hV
    have hk2 : (k : Int) = -(E - 1043) := by have := hPp hpo; omega
    have HV : Hid ((if (b / 9223372036854775808 == 1) = true then -(rr M k) else rr M k) = V) := hV
    have SO : Hid (∀ W : World, Calls Try.prog 27 #[.int .u64 (F + 4503599627370496), .int .i64 0] W fun e w' => e = .returned (.agg #[.int .u64 (dg (M) 0), .int .u64 (dg (M) 1), .int .u64 (dg (M) 2), .int .u64 (dg (M) 3), .int .u64 (dg (M) 4), .int .u64 (dg (M) 5)]) ∧ Below W.heap.size W w') := fun W => sone_of _ _ (hDp hpo) (by omega) (by omega) W
    have t5 := wrap_small (F + 4503599627370496) (by omega) (by omega)
    clear hDp hDn hPp hPn hV hk hP
    go_enter Try.func11, Try.ntmps11
    go_wp2_with fail
    refine (SO.out _).mono ?_
    rintro e w1 ⟨rfl, W1⟩
    clear SO
    have A0 := B6.new w1 (dg M) 53
    have V0 := bchain W1 (bel1 w1 (.cells #[.int .u64 (dg (M) 0), .int .u64 (dg (M) 1), .int .u64 (dg (M) 2), .int .u64 (dg (M) 3), .int .u64 (dg (M) 4), .int .u64 (dg (M) 5)] 53))
    have hd := W1.size
    clear W1
    go_wp2
    generalize w1.alloc (.cells #[.int .u64 (dg (M) 0), .int .u64 (dg (M) 1), .int .u64 (dg (M) 2), .int .u64 (dg (M) 3), .int .u64 (dg (M) 4), .int .u64 (dg (M) 5)] 53) = w2 at *
    generalize w1.heap.size = d at *
    go_loopw [8, 10, 11] (fun n l r wr => ∃ j : Nat, (j : Int) ≤ -(E - 1043) ∧ n = .int .i64 (E - 1043 + (j : Int)) ∧ l = .int .u64 (lastB M j) ∧ r = .int .u64 (restB M j) ∧ B6 d (dg (M / 2 ^ j)) wr ∧ Below w.heap.size w wr) (fun n _ _ _ => (-(intOf n)).toNat)
    case atStart => exact ⟨0, by omega, by simp, rfl, by unfold restB; rw [if_pos (by omega)], by rw [Int.pow_zero, Int.ediv_one]; exact A0, V0⟩
    case round =>
      clear A0 V0
      obtain ⟨j, hj, rfl, rfl, rfl, hD, hW⟩ := hrel
      have hp := pow_pos' j
      have m0 : 0 ≤ M / 2 ^ j := Int.ediv_nonneg M0 (by omega)
      have m1 : M / 2 ^ j ≤ M := Int.ediv_le_self _ M0
      by_cases hlt : E - 1043 + (j : Int) < 0
      · have hor := rest_step M j
        have HL : Hid (M / 2 ^ j % 2 = lastB M (j + 1)) := by show _ = _; unfold lastB; rw [if_neg (by omega), show j + 1 - 1 = j by omega]
        have HD : Hid (M / 2 ^ j / 2 = M / 2 ^ (j + 1)) := by show _ = _; rw [Int.ediv_ediv_of_nonneg (by omega), Int.pow_succ]
        have x0 := hD.c 0 (by omega)
        have x1 := hD.c 1 (by omega)
        have x2 := hD.c 2 (by omega)
        have x3 := hD.c 3 (by omega)
        have x4 := hD.c 4 (by omega)
        have x5 := hD.c 5 (by omega)
        clear hp HV
        go_wp2_with fail
        refine (shalf_any (M / 2 ^ j) m0 (by omega) _).mono ?_
        rintro e w3 ⟨rfl, hb⟩
        have D3 := hD.later hb
        have W3 := bchain hW hb
        clear hb hD hW x0 x1 x2 x3 x4 x5 hor
        have x0 := D3.c 0 (by omega)
        have x1 := D3.c 1 (by omega)
        have x2 := D3.c 2 (by omega)
        have x3 := D3.c 3 (by omega)
        have x4 := D3.c 4 (by omega)
        have x5 := D3.c 5 (by omega)
        have f0 := D3.f 0 (by omega)
        have f1 := D3.f 1 (by omega)
        have f2 := D3.f 2 (by omega)
        have f3 := D3.f 3 (by omega)
        have f4 := D3.f 4 (by omega)
        have f5 := D3.f 5 (by omega)
        have D4 := D3.all (dg (M / 2 ^ j / 2))
        have W4 := bel6 W3 hd (dg (M / 2 ^ j / 2))
        clear D3 W3
        go_wp2
        go_roundw
        case rel => exact ⟨j + 1, by omega, by rw [show ((j + 1 : Nat) : Int) = (j : Int) + 1 by omega, Int.add_assoc], by rw [HL.out], rfl, D4.cong fun k hk => by rw [HD.out], W4⟩
        case measure => simp [intOf]; omega
      · have hjN : E - 1043 + (j : Int) = 0 := by omega
        have hHV : (if (b / 9223372036854775808 == 1) = true then -(rr M j) else rr M j) = V := by
          have h := HV.out
          rw [show k = j by omega] at h
          exact h
        clear HV hp
        have CA0 : Hid (∀ Z : Int, rr M j = Z → 0 ≤ Z → Z < 36893488147419103232 → ∀ W : World, Calls Try.prog 30 #[.agg #[.int .u64 (dg (Z) 0), .int .u64 (dg (Z) 1), .int .u64 (dg (Z) 2), .int .u64 (dg (Z) 3), .int .u64 (dg (Z) 4), .int .u64 (dg (Z) 5)], .bool (b / 9223372036854775808 == 1)] W fun e w' => e = .returned (.tuple #[.int .i64 (clv V), .bool (ovv V)]) ∧ Below W.heap.size W w') := by
          intro Z hZ z0 z1 W
          rw [hZ] at hHV
          exact sclamp_as _ _ _ _ (by rw [hHV]; exact ⟨rfl, rfl⟩) z0 (by omega) W
        clear hHV
        have hU := up_iff M j M0
        have L01 := lastB_01 M j
        have R01 := restB_01 M j
        have hpar := dg0_par (M / 2 ^ j)
        have P01 : M / 2 ^ j % 2 = 0 ∨ M / 2 ^ j % 2 = 1 := by omega
        obtain ⟨z0, z1⟩ := dg_rng (M / 2 ^ j) 0
        have u1 := Int.tmod_eq_emod_of_nonneg (b := 2) z0
        have u2 := wrap_small (dg (M / 2 ^ j) 0 % 2) (by omega) (by omega)
        have hcase : (lastB M j = 0 ∧ rr M j = M / 2 ^ j) ∨ (lastB M j = 1 ∧ restB M j = 0 ∧ dg (M / 2 ^ j) 0 % 2 = 0 ∧ rr M j = M / 2 ^ j) ∨ (lastB M j = 1 ∧ restB M j = 1 ∧ rr M j = M / 2 ^ j + 1) ∨ (lastB M j = 1 ∧ restB M j = 0 ∧ dg (M / 2 ^ j) 0 % 2 = 1 ∧ rr M j = M / 2 ^ j + 1) := by
          rcases L01 with h1 | h1
          · exact .inl ⟨h1, by rw [hU, if_neg (by omega)]⟩
          · rcases R01 with h2 | h2
            · rcases P01 with h3 | h3
              · exact .inr (.inl ⟨h1, h2, by omega, by rw [hU, if_neg (by omega)]⟩)
              · exact .inr (.inr (.inr ⟨h1, h2, by omega, by rw [hU, if_pos (by omega)]⟩))
            · exact .inr (.inr (.inl ⟨h1, h2, by rw [hU, if_pos (by omega)]⟩))
        clear hU L01 R01 hpar P01
        generalize lastB M j = l at *
        generalize restB M j = r at *
        generalize M / 2 ^ j = X at *
        rcases hcase with ⟨rfl, hZ⟩ | ⟨rfl, rfl, hb0, hZ⟩ | ⟨rfl, rfl, hZ⟩ | ⟨rfl, rfl, hb1, hZ⟩
        · have CA : Hid (∀ W : World, Calls Try.prog 30 #[.agg #[.int .u64 (dg (X) 0), .int .u64 (dg (X) 1), .int .u64 (dg (X) 2), .int .u64 (dg (X) 3), .int .u64 (dg (X) 4), .int .u64 (dg (X) 5)], .bool (b / 9223372036854775808 == 1)] W fun e w' => e = .returned (.tuple #[.int .i64 (clv V), .bool (ovv V)]) ∧ Below W.heap.size W w') := fun W => CA0.out X hZ m0 (by omega) W
          clear CA0 hZ
          have x0 := hD.c 0 (by omega)
          have x1 := hD.c 1 (by omega)
          have x2 := hD.c 2 (by omega)
          have x3 := hD.c 3 (by omega)
          have x4 := hD.c 4 (by omega)
          have x5 := hD.c 5 (by omega)
          go_wp2
          clear x0 x1 x2 x3 x4 x5
          go_loopw [8] (fun n wr => n = .int .i64 0 ∧ B6 d (dg (X)) wr ∧ Below w.heap.size w wr) (fun _ _ => 0)
          case atStart => exact ⟨by first | rfl | (congr 1; omega), hD, hW⟩
          case round =>
            clear hD hW
            obtain ⟨rfl, A9, V9⟩ := hrel
            have y0 := A9.c 0 (by omega)
            have y1 := A9.c 1 (by omega)
            have y2 := A9.c 2 (by omega)
            have y3 := A9.c 3 (by omega)
            have y4 := A9.c 4 (by omega)
            have y5 := A9.c 5 (by omega)
            clear A9
            go_wp2_with fail
            refine (CA.out _).mono ?_
            rintro e w9 ⟨rfl, hbl⟩
            have W9 := bchain V9 hbl
            clear hbl V9 CA y0 y1 y2 y3 y4 y5
            go_wp2
            exact bodyPost_ret (v := .tuple #[.int .i64 (clv V), .bool (ovv V), .bool true]) (by simp [results, Try.results11, go_sem]) rfl ⟨rfl, W9⟩
        · have CA : Hid (∀ W : World, Calls Try.prog 30 #[.agg #[.int .u64 (dg (X) 0), .int .u64 (dg (X) 1), .int .u64 (dg (X) 2), .int .u64 (dg (X) 3), .int .u64 (dg (X) 4), .int .u64 (dg (X) 5)], .bool (b / 9223372036854775808 == 1)] W fun e w' => e = .returned (.tuple #[.int .i64 (clv V), .bool (ovv V)]) ∧ Below W.heap.size W w') := fun W => CA0.out X hZ m0 (by omega) W
          clear CA0 hZ
          have x0 := hD.c 0 (by omega)
          have x1 := hD.c 1 (by omega)
          have x2 := hD.c 2 (by omega)
          have x3 := hD.c 3 (by omega)
          have x4 := hD.c 4 (by omega)
          have x5 := hD.c 5 (by omega)
          go_wp2
          clear x0 x1 x2 x3 x4 x5
          go_loopw [8] (fun n wr => n = .int .i64 0 ∧ B6 d (dg (X)) wr ∧ Below w.heap.size w wr) (fun _ _ => 0)
          case atStart => exact ⟨by first | rfl | (congr 1; omega), hD, hW⟩
          case round =>
            clear hD hW
            obtain ⟨rfl, A9, V9⟩ := hrel
            have y0 := A9.c 0 (by omega)
            have y1 := A9.c 1 (by omega)
            have y2 := A9.c 2 (by omega)
            have y3 := A9.c 3 (by omega)
            have y4 := A9.c 4 (by omega)
            have y5 := A9.c 5 (by omega)
            clear A9
            go_wp2_with fail
            refine (CA.out _).mono ?_
            rintro e w9 ⟨rfl, hbl⟩
            have W9 := bchain V9 hbl
            clear hbl V9 CA y0 y1 y2 y3 y4 y5
            go_wp2
            exact bodyPost_ret (v := .tuple #[.int .i64 (clv V), .bool (ovv V), .bool true]) (by simp [results, Try.results11, go_sem]) rfl ⟨rfl, W9⟩
        all_goals
          have CA : Hid (∀ W : World, Calls Try.prog 30 #[.agg #[.int .u64 (dg (X + 1) 0), .int .u64 (dg (X + 1) 1), .int .u64 (dg (X + 1) 2), .int .u64 (dg (X + 1) 3), .int .u64 (dg (X + 1) 4), .int .u64 (dg (X + 1) 5)], .bool (b / 9223372036854775808 == 1)] W fun e w' => e = .returned (.tuple #[.int .i64 (clv V), .bool (ovv V)]) ∧ Below W.heap.size W w') := fun W => CA0.out (X + 1) hZ (by omega) (by omega) W
          clear CA0 hZ
          have CD := hD.later ((Below.refl _ _).drew : Below wr.heap.size wr wr.drew)
          have CV : Hid (Below w.heap.size w wr.drew) := hW.drew
          have x0 := hD.c 0 (by omega)
          have x1 := hD.c 1 (by omega)
          have x2 := hD.c 2 (by omega)
          have x3 := hD.c 3 (by omega)
          have x4 := hD.c 4 (by omega)
          have x5 := hD.c 5 (by omega)
          go_upto_region 22 with fail
          clear x0 x1 x2 x3 x4 x5 hD hW
          have x0 := CD.c 0 (by omega)
          have x1 := CD.c 1 (by omega)
          have x2 := CD.c 2 (by omega)
          have x3 := CD.c 3 (by omega)
          have x4 := CD.c 4 (by omega)
          have x5 := CD.c 5 (by omega)
          have f0 := CD.f 0 (by omega)
          have f1 := CD.f 1 (by omega)
          have f2 := CD.f 2 (by omega)
          have f3 := CD.f 3 (by omega)
          have f4 := CD.f 4 (by omega)
          have f5 := CD.f 5 (by omega)
          go_region_with (first
            | (go_at_call 27; refine (sone_10 _).mono ?_; rintro e wz ⟨rfl, hb⟩; clear x0 x1 x2 x3 x4 x5 f0 f1 f2 f3 f4 f5; replace CD := CD.later hb; replace CV := hidD' CV hb; clear hb; have x0 := CD.c 0 (by omega); have x1 := CD.c 1 (by omega); have x2 := CD.c 2 (by omega); have x3 := CD.c 3 (by omega); have x4 := CD.c 4 (by omega); have x5 := CD.c 5 (by omega); have f0 := CD.f 0 (by omega); have f1 := CD.f 1 (by omega); have f2 := CD.f 2 (by omega); have f3 := CD.f 3 (by omega); have f4 := CD.f 4 (by omega); have f5 := CD.f 5 (by omega))
            | (go_at_call 29; refine (splus_any X 1 _).mono ?_; rintro e wz ⟨rfl, hb⟩; clear x0 x1 x2 x3 x4 x5 f0 f1 f2 f3 f4 f5; replace CD := CD.later hb; replace CV := hidD' CV hb; clear hb; have x0 := CD.c 0 (by omega); have x1 := CD.c 1 (by omega); have x2 := CD.c 2 (by omega); have x3 := CD.c 3 (by omega); have x4 := CD.c 4 (by omega); have x5 := CD.c 5 (by omega); have f0 := CD.f 0 (by omega); have f1 := CD.f 1 (by omega); have f2 := CD.f 2 (by omega); have f3 := CD.f 3 (by omega); have f4 := CD.f 4 (by omega); have f5 := CD.f 5 (by omega)))
          all_goals
            have D5 := CD.all (dg (X + 1))
            have W5 := bel6 CV.out hd (dg (X + 1))
            clear CD CV x0 x1 x2 x3 x4 x5 f0 f1 f2 f3 f4 f5
            generalize hw10 : (((((wz.setCell ⟨d, 0, none⟩ (.int .u64 (dg (X + 1) 0))).setCell ⟨d, 1, none⟩ (.int .u64 (dg (X + 1) 1))).setCell ⟨d, 2, none⟩ (.int .u64 (dg (X + 1) 2))).setCell ⟨d, 3, none⟩ (.int .u64 (dg (X + 1) 3))).setCell ⟨d, 4, none⟩ (.int .u64 (dg (X + 1) 4))).setCell ⟨d, 5, none⟩ (.int .u64 (dg (X + 1) 5)) = w10 at *
            clear hw10
            go_wp2
            go_loopw [8] (fun n wr => n = .int .i64 0 ∧ B6 d (dg (X + 1)) wr ∧ Below w.heap.size w wr) (fun _ _ => 0)
            case atStart => exact ⟨by first | rfl | (congr 1; omega), D5, W5⟩
            case round =>
              clear D5 W5
              obtain ⟨rfl, A9, V9⟩ := hrel
              have y0 := A9.c 0 (by omega)
              have y1 := A9.c 1 (by omega)
              have y2 := A9.c 2 (by omega)
              have y3 := A9.c 3 (by omega)
              have y4 := A9.c 4 (by omega)
              have y5 := A9.c 5 (by omega)
              clear A9
              go_wp2_with fail
              refine (CA.out _).mono ?_
              rintro e w9 ⟨rfl, hbl⟩
              have W9 := bchain V9 hbl
              clear hbl V9 CA y0 y1 y2 y3 y4 y5
              go_wp2
              exact bodyPost_ret (v := .tuple #[.int .i64 (clv V), .bool (ovv V), .bool true]) (by simp [results, Try.results11, go_sem]) rfl ⟨rfl, W9⟩
  · have hE0 : E = 0 := by omega
    obtain ⟨k, hk⟩ : ∃ k : Nat, (-P).toNat = k := ⟨_, rfl⟩
    rw [hk] at hV
    have hk2 : (k : Int) = -(-1042) := by have := hPn hpo; omega
    have HV : Hid ((if (b / 9223372036854775808 == 1) = true then -(rr M k) else rr M k) = V) := hV
    have SO : Hid (∀ W : World, Calls Try.prog 27 #[.int .u64 F, .int .i64 0] W fun e w' => e = .returned (.agg #[.int .u64 (dg (M) 0), .int .u64 (dg (M) 1), .int .u64 (dg (M) 2), .int .u64 (dg (M) 3), .int .u64 (dg (M) 4), .int .u64 (dg (M) 5)]) ∧ Below W.heap.size W w') := fun W => sone_of _ _ (hDn hpo) (by omega) (by omega) W
    clear hDp hDn hPp hPn hV hk hP hE0
    go_enter Try.func11, Try.ntmps11
    go_wp2_with fail
    refine (SO.out _).mono ?_
    rintro e w1 ⟨rfl, W1⟩
    clear SO
    have A0 := B6.new w1 (dg M) 53
    have V0 := bchain W1 (bel1 w1 (.cells #[.int .u64 (dg (M) 0), .int .u64 (dg (M) 1), .int .u64 (dg (M) 2), .int .u64 (dg (M) 3), .int .u64 (dg (M) 4), .int .u64 (dg (M) 5)] 53))
    have hd := W1.size
    clear W1
    go_wp2
    generalize w1.alloc (.cells #[.int .u64 (dg (M) 0), .int .u64 (dg (M) 1), .int .u64 (dg (M) 2), .int .u64 (dg (M) 3), .int .u64 (dg (M) 4), .int .u64 (dg (M) 5)] 53) = w2 at *
    generalize w1.heap.size = d at *
    go_loopw [8, 10, 11] (fun n l r wr => ∃ j : Nat, (j : Int) ≤ -(-1042) ∧ n = .int .i64 (-1042 + (j : Int)) ∧ l = .int .u64 (lastB M j) ∧ r = .int .u64 (restB M j) ∧ B6 d (dg (M / 2 ^ j)) wr ∧ Below w.heap.size w wr) (fun n _ _ _ => (-(intOf n)).toNat)
    case atStart => exact ⟨0, by omega, by simp, rfl, by unfold restB; rw [if_pos (by omega)], by rw [Int.pow_zero, Int.ediv_one]; exact A0, V0⟩
    case round =>
      clear A0 V0
      obtain ⟨j, hj, rfl, rfl, rfl, hD, hW⟩ := hrel
      have hp := pow_pos' j
      have m0 : 0 ≤ M / 2 ^ j := Int.ediv_nonneg M0 (by omega)
      have m1 : M / 2 ^ j ≤ M := Int.ediv_le_self _ M0
      by_cases hlt : -1042 + (j : Int) < 0
      · have hor := rest_step M j
        have HL : Hid (M / 2 ^ j % 2 = lastB M (j + 1)) := by show _ = _; unfold lastB; rw [if_neg (by omega), show j + 1 - 1 = j by omega]
        have HD : Hid (M / 2 ^ j / 2 = M / 2 ^ (j + 1)) := by show _ = _; rw [Int.ediv_ediv_of_nonneg (by omega), Int.pow_succ]
        have x0 := hD.c 0 (by omega)
        have x1 := hD.c 1 (by omega)
        have x2 := hD.c 2 (by omega)
        have x3 := hD.c 3 (by omega)
        have x4 := hD.c 4 (by omega)
        have x5 := hD.c 5 (by omega)
        clear hp HV
        go_wp2_with fail
        refine (shalf_any (M / 2 ^ j) m0 (by omega) _).mono ?_
        rintro e w3 ⟨rfl, hb⟩
        have D3 := hD.later hb
        have W3 := bchain hW hb
        clear hb hD hW x0 x1 x2 x3 x4 x5 hor
        have x0 := D3.c 0 (by omega)
        have x1 := D3.c 1 (by omega)
        have x2 := D3.c 2 (by omega)
        have x3 := D3.c 3 (by omega)
        have x4 := D3.c 4 (by omega)
        have x5 := D3.c 5 (by omega)
        have f0 := D3.f 0 (by omega)
        have f1 := D3.f 1 (by omega)
        have f2 := D3.f 2 (by omega)
        have f3 := D3.f 3 (by omega)
        have f4 := D3.f 4 (by omega)
        have f5 := D3.f 5 (by omega)
        have D4 := D3.all (dg (M / 2 ^ j / 2))
        have W4 := bel6 W3 hd (dg (M / 2 ^ j / 2))
        clear D3 W3
        go_wp2
        go_roundw
        case rel => exact ⟨j + 1, by omega, by rw [show ((j + 1 : Nat) : Int) = (j : Int) + 1 by omega, Int.add_assoc], by rw [HL.out], rfl, D4.cong fun k hk => by rw [HD.out], W4⟩
        case measure => simp [intOf]; omega
      · have hjN : -1042 + (j : Int) = 0 := by omega
        have hHV : (if (b / 9223372036854775808 == 1) = true then -(rr M j) else rr M j) = V := by
          have h := HV.out
          rw [show k = j by omega] at h
          exact h
        clear HV hp
        have CA0 : Hid (∀ Z : Int, rr M j = Z → 0 ≤ Z → Z < 36893488147419103232 → ∀ W : World, Calls Try.prog 30 #[.agg #[.int .u64 (dg (Z) 0), .int .u64 (dg (Z) 1), .int .u64 (dg (Z) 2), .int .u64 (dg (Z) 3), .int .u64 (dg (Z) 4), .int .u64 (dg (Z) 5)], .bool (b / 9223372036854775808 == 1)] W fun e w' => e = .returned (.tuple #[.int .i64 (clv V), .bool (ovv V)]) ∧ Below W.heap.size W w') := by
          intro Z hZ z0 z1 W
          rw [hZ] at hHV
          exact sclamp_as _ _ _ _ (by rw [hHV]; exact ⟨rfl, rfl⟩) z0 (by omega) W
        clear hHV
        have hU := up_iff M j M0
        have L01 := lastB_01 M j
        have R01 := restB_01 M j
        have hpar := dg0_par (M / 2 ^ j)
        have P01 : M / 2 ^ j % 2 = 0 ∨ M / 2 ^ j % 2 = 1 := by omega
        obtain ⟨z0, z1⟩ := dg_rng (M / 2 ^ j) 0
        have u1 := Int.tmod_eq_emod_of_nonneg (b := 2) z0
        have u2 := wrap_small (dg (M / 2 ^ j) 0 % 2) (by omega) (by omega)
        have hcase : (lastB M j = 0 ∧ rr M j = M / 2 ^ j) ∨ (lastB M j = 1 ∧ restB M j = 0 ∧ dg (M / 2 ^ j) 0 % 2 = 0 ∧ rr M j = M / 2 ^ j) ∨ (lastB M j = 1 ∧ restB M j = 1 ∧ rr M j = M / 2 ^ j + 1) ∨ (lastB M j = 1 ∧ restB M j = 0 ∧ dg (M / 2 ^ j) 0 % 2 = 1 ∧ rr M j = M / 2 ^ j + 1) := by
          rcases L01 with h1 | h1
          · exact .inl ⟨h1, by rw [hU, if_neg (by omega)]⟩
          · rcases R01 with h2 | h2
            · rcases P01 with h3 | h3
              · exact .inr (.inl ⟨h1, h2, by omega, by rw [hU, if_neg (by omega)]⟩)
              · exact .inr (.inr (.inr ⟨h1, h2, by omega, by rw [hU, if_pos (by omega)]⟩))
            · exact .inr (.inr (.inl ⟨h1, h2, by rw [hU, if_pos (by omega)]⟩))
        clear hU L01 R01 hpar P01
        generalize lastB M j = l at *
        generalize restB M j = r at *
        generalize M / 2 ^ j = X at *
        rcases hcase with ⟨rfl, hZ⟩ | ⟨rfl, rfl, hb0, hZ⟩ | ⟨rfl, rfl, hZ⟩ | ⟨rfl, rfl, hb1, hZ⟩
        · have CA : Hid (∀ W : World, Calls Try.prog 30 #[.agg #[.int .u64 (dg (X) 0), .int .u64 (dg (X) 1), .int .u64 (dg (X) 2), .int .u64 (dg (X) 3), .int .u64 (dg (X) 4), .int .u64 (dg (X) 5)], .bool (b / 9223372036854775808 == 1)] W fun e w' => e = .returned (.tuple #[.int .i64 (clv V), .bool (ovv V)]) ∧ Below W.heap.size W w') := fun W => CA0.out X hZ m0 (by omega) W
          clear CA0 hZ
          have x0 := hD.c 0 (by omega)
          have x1 := hD.c 1 (by omega)
          have x2 := hD.c 2 (by omega)
          have x3 := hD.c 3 (by omega)
          have x4 := hD.c 4 (by omega)
          have x5 := hD.c 5 (by omega)
          go_wp2
          clear x0 x1 x2 x3 x4 x5
          go_loopw [8] (fun n wr => n = .int .i64 0 ∧ B6 d (dg (X)) wr ∧ Below w.heap.size w wr) (fun _ _ => 0)
          case atStart => exact ⟨by first | rfl | (congr 1; omega), hD, hW⟩
          case round =>
            clear hD hW
            obtain ⟨rfl, A9, V9⟩ := hrel
            have y0 := A9.c 0 (by omega)
            have y1 := A9.c 1 (by omega)
            have y2 := A9.c 2 (by omega)
            have y3 := A9.c 3 (by omega)
            have y4 := A9.c 4 (by omega)
            have y5 := A9.c 5 (by omega)
            clear A9
            go_wp2_with fail
            refine (CA.out _).mono ?_
            rintro e w9 ⟨rfl, hbl⟩
            have W9 := bchain V9 hbl
            clear hbl V9 CA y0 y1 y2 y3 y4 y5
            go_wp2
            exact bodyPost_ret (v := .tuple #[.int .i64 (clv V), .bool (ovv V), .bool true]) (by simp [results, Try.results11, go_sem]) rfl ⟨rfl, W9⟩
        · have CA : Hid (∀ W : World, Calls Try.prog 30 #[.agg #[.int .u64 (dg (X) 0), .int .u64 (dg (X) 1), .int .u64 (dg (X) 2), .int .u64 (dg (X) 3), .int .u64 (dg (X) 4), .int .u64 (dg (X) 5)], .bool (b / 9223372036854775808 == 1)] W fun e w' => e = .returned (.tuple #[.int .i64 (clv V), .bool (ovv V)]) ∧ Below W.heap.size W w') := fun W => CA0.out X hZ m0 (by omega) W
          clear CA0 hZ
          have x0 := hD.c 0 (by omega)
          have x1 := hD.c 1 (by omega)
          have x2 := hD.c 2 (by omega)
          have x3 := hD.c 3 (by omega)
          have x4 := hD.c 4 (by omega)
          have x5 := hD.c 5 (by omega)
          go_wp2
          clear x0 x1 x2 x3 x4 x5
          go_loopw [8] (fun n wr => n = .int .i64 0 ∧ B6 d (dg (X)) wr ∧ Below w.heap.size w wr) (fun _ _ => 0)
          case atStart => exact ⟨by first | rfl | (congr 1; omega), hD, hW⟩
          case round =>
            clear hD hW
            obtain ⟨rfl, A9, V9⟩ := hrel
            have y0 := A9.c 0 (by omega)
            have y1 := A9.c 1 (by omega)
            have y2 := A9.c 2 (by omega)
            have y3 := A9.c 3 (by omega)
            have y4 := A9.c 4 (by omega)
            have y5 := A9.c 5 (by omega)
            clear A9
            go_wp2_with fail
            refine (CA.out _).mono ?_
            rintro e w9 ⟨rfl, hbl⟩
            have W9 := bchain V9 hbl
            clear hbl V9 CA y0 y1 y2 y3 y4 y5
            go_wp2
            exact bodyPost_ret (v := .tuple #[.int .i64 (clv V), .bool (ovv V), .bool true]) (by simp [results, Try.results11, go_sem]) rfl ⟨rfl, W9⟩
        all_goals
          have CA : Hid (∀ W : World, Calls Try.prog 30 #[.agg #[.int .u64 (dg (X + 1) 0), .int .u64 (dg (X + 1) 1), .int .u64 (dg (X + 1) 2), .int .u64 (dg (X + 1) 3), .int .u64 (dg (X + 1) 4), .int .u64 (dg (X + 1) 5)], .bool (b / 9223372036854775808 == 1)] W fun e w' => e = .returned (.tuple #[.int .i64 (clv V), .bool (ovv V)]) ∧ Below W.heap.size W w') := fun W => CA0.out (X + 1) hZ (by omega) (by omega) W
          clear CA0 hZ
          have CD := hD.later ((Below.refl _ _).drew : Below wr.heap.size wr wr.drew)
          have CV : Hid (Below w.heap.size w wr.drew) := hW.drew
          have x0 := hD.c 0 (by omega)
          have x1 := hD.c 1 (by omega)
          have x2 := hD.c 2 (by omega)
          have x3 := hD.c 3 (by omega)
          have x4 := hD.c 4 (by omega)
          have x5 := hD.c 5 (by omega)
          go_upto_region 22 with fail
          clear x0 x1 x2 x3 x4 x5 hD hW
          have x0 := CD.c 0 (by omega)
          have x1 := CD.c 1 (by omega)
          have x2 := CD.c 2 (by omega)
          have x3 := CD.c 3 (by omega)
          have x4 := CD.c 4 (by omega)
          have x5 := CD.c 5 (by omega)
          have f0 := CD.f 0 (by omega)
          have f1 := CD.f 1 (by omega)
          have f2 := CD.f 2 (by omega)
          have f3 := CD.f 3 (by omega)
          have f4 := CD.f 4 (by omega)
          have f5 := CD.f 5 (by omega)
          go_region_with (first
            | (go_at_call 27; refine (sone_10 _).mono ?_; rintro e wz ⟨rfl, hb⟩; clear x0 x1 x2 x3 x4 x5 f0 f1 f2 f3 f4 f5; replace CD := CD.later hb; replace CV := hidD' CV hb; clear hb; have x0 := CD.c 0 (by omega); have x1 := CD.c 1 (by omega); have x2 := CD.c 2 (by omega); have x3 := CD.c 3 (by omega); have x4 := CD.c 4 (by omega); have x5 := CD.c 5 (by omega); have f0 := CD.f 0 (by omega); have f1 := CD.f 1 (by omega); have f2 := CD.f 2 (by omega); have f3 := CD.f 3 (by omega); have f4 := CD.f 4 (by omega); have f5 := CD.f 5 (by omega))
            | (go_at_call 29; refine (splus_any X 1 _).mono ?_; rintro e wz ⟨rfl, hb⟩; clear x0 x1 x2 x3 x4 x5 f0 f1 f2 f3 f4 f5; replace CD := CD.later hb; replace CV := hidD' CV hb; clear hb; have x0 := CD.c 0 (by omega); have x1 := CD.c 1 (by omega); have x2 := CD.c 2 (by omega); have x3 := CD.c 3 (by omega); have x4 := CD.c 4 (by omega); have x5 := CD.c 5 (by omega); have f0 := CD.f 0 (by omega); have f1 := CD.f 1 (by omega); have f2 := CD.f 2 (by omega); have f3 := CD.f 3 (by omega); have f4 := CD.f 4 (by omega); have f5 := CD.f 5 (by omega)))
          all_goals
            have D5 := CD.all (dg (X + 1))
            have W5 := bel6 CV.out hd (dg (X + 1))
            clear CD CV x0 x1 x2 x3 x4 x5 f0 f1 f2 f3 f4 f5
            generalize hw10 : (((((wz.setCell ⟨d, 0, none⟩ (.int .u64 (dg (X + 1) 0))).setCell ⟨d, 1, none⟩ (.int .u64 (dg (X + 1) 1))).setCell ⟨d, 2, none⟩ (.int .u64 (dg (X + 1) 2))).setCell ⟨d, 3, none⟩ (.int .u64 (dg (X + 1) 3))).setCell ⟨d, 4, none⟩ (.int .u64 (dg (X + 1) 4))).setCell ⟨d, 5, none⟩ (.int .u64 (dg (X + 1) 5)) = w10 at *
            clear hw10
            go_wp2
            go_loopw [8] (fun n wr => n = .int .i64 0 ∧ B6 d (dg (X + 1)) wr ∧ Below w.heap.size w wr) (fun _ _ => 0)
            case atStart => exact ⟨by first | rfl | (congr 1; omega), D5, W5⟩
            case round =>
              clear D5 W5
              obtain ⟨rfl, A9, V9⟩ := hrel
              have y0 := A9.c 0 (by omega)
              have y1 := A9.c 1 (by omega)
              have y2 := A9.c 2 (by omega)
              have y3 := A9.c 3 (by omega)
              have y4 := A9.c 4 (by omega)
              have y5 := A9.c 5 (by omega)
              clear A9
              go_wp2_with fail
              refine (CA.out _).mono ?_
              rintro e w9 ⟨rfl, hbl⟩
              have W9 := bchain V9 hbl
              clear hbl V9 CA y0 y1 y2 y3 y4 y5
              go_wp2
              exact bodyPost_ret (v := .tuple #[.int .i64 (clv V), .bool (ovv V), .bool true]) (by simp [results, Try.results11, go_sem]) rfl ⟨rfl, W9⟩
end Go.Proofs.Ytpmlpcejmndidab
