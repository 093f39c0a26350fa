/-
  VecOuters: the matrix of all products has each, held, in its place.
-/
import Derived.Test.YtldnnjcfihjkdaaDoorLawVS
import Derived.Test.YtldnnjcfihjkdaaDoorBJ
import Derived.Deep.DrawnRows
import Derived.Deep.QuietTactic
import Derived.BigQuiet
set_option linter.unusedVariables false
set_option linter.unusedSimpArgs false
namespace Go.Proofs.YtldnnjcfihjkdaaDoor
open Go.RowKit
attribute [local go_sem ↓] Go.wp_at_zero Go.wp_at_succ

/-- Outer's error. -/
def oE (n m : Nat) : Int := if 65536 < n ∨ 65536 < m then 3 else if n = 0 ∨ m = 0 then 40 else if 65536 < n * m then 3 else 0
/-- The contract of vec.Outer. -/
structure Vec4 : Prop where
  outerU : ∀ (va vb : Value) (n m : Nat) (f g : Nat → Int) (d : Nat) (c : Int) (w : World), n ≤ 70000 → m ≤ 70000 → 0 ≤ c → c ≤ 800000000 → VT w → Ar w va n f → Ar w vb m g → Nb va d → Nb vb d → Uc w d c →
    Calls Tryd.prog 38 #[.pointer (some ⟨d, 0, none⟩), va, vb] w fun e w' => ∃ (r k : Int) (v' : Value), e = .returned (.tuple #[.agg #[.int .i64 r, .int .i64 k, v'], .int .i64 (oE n m)]) ∧ r = cE (oE n m) (n : Int) ∧ k = cE (oE n m) (m : Int) ∧ LL w w' v' (n * m) (otX f g m) (oE n m) ∧ Un d (c + cE (oE n m) (otN f g m n)) w w'
theorem oE_few (n m : Nat) (hn : n ≤ 200) (hm : m ≤ 200) : oE n m = (if n = 0 ∨ m = 0 then 40 else 0) := by
  unfold oE
  have h := Nat.mul_le_mul hn hm
  rw [if_neg (by omega)]
  split
  · rfl
  · rw [if_neg (by omega)]
set_option maxRecDepth 100000 in
set_option maxHeartbeats 8000000 in
theorem vecOuters_any (V : Vec1) (V4 : Vec4) (va vb : Value) (n m : Nat) (f g : Nat → Int) (w : World) (hV : VT w) (hA : Ar w va n f) (hB : Ar w vb m g) :
    Calls Tryd.prog 6 #[va, vb] w fun e w' => e = .returned (.bool true) ∧ Below w.heap.size w w' := by
  have HAB : Hid (Ar w va n f ∧ Ar w vb m g) := ⟨hA, hB⟩
  have HV : Hid (VT w) := hV
  obtain ⟨ada, ca, ba, oa, rfl, k1, k2, -, -⟩ := hA
  obtain ⟨adb, cb, bb, ob, rfl, q1, q2, -, -⟩ := hB
  go_enter Tryd.func6, Tryd.ntmps6
  go_wp2_with fail
  refine (vawake_any V _ hV).mono ?_
  rintro e w1 ⟨rfl, W1⟩
  have HW1 : Hid (Below w.heap.size w w1) := W1
  have HF : Hid (Calls Tryd.prog 10 #[.slice (some ⟨w1.heap.size, 0, none⟩) 2 2] (w1.alloc (.cells #[.slice ada n ca, .slice adb m cb] 22)) fun e w' => e = .returned (.bool (decide (n ≤ 200) && decide (m ≤ 200))) ∧ w' = (w1.alloc (.cells #[.slice ada n ca, .slice adb m cb] 22))) := few2_any w1 ada adb n m ca cb (by omega) (by omega)
  clear W1 hV k1 k2 q1 q2
  go_wp2_with fail
  refine HF.out.mono ?_
  rintro e w2 ⟨rfl, rfl⟩
  clear HF
  obtain ⟨R, hR⟩ : ∃ R, (decide (n ≤ 200) && decide (m ≤ 200)) = R := ⟨_, rfl⟩
  rw [hR]
  cases R
  · clear hR
    go_wp2
    go_ret
    exact ⟨rfl, bchain HW1.out (bel1' _ _)⟩
  have hnm : n ≤ 200 ∧ m ≤ 200 := by simpa using hR
  obtain ⟨hn, hm⟩ := hnm
  clear hR
  go_upto_region 6 with fail
  have L : Hid (L2 w (w1.heap.size + 1) (w1.heap.size + 1 + 1) 0 0 (((w1.alloc (.cells #[.slice ada n ca, .slice adb m cb] 22)).alloc (.cells #[.int .i64 0] 29)).alloc (.cells #[.int .i64 0] 32))) := l2_new' (bchain HW1.out (bel1' w1 _)) (alloc_size_eq w1 _) _ _
  have hs := HW1.out.size
  obtain ⟨du, hdu⟩ : ∃ du, w1.heap.size + 1 = du := ⟨_, rfl⟩
  have hd0 : w.heap.size ≤ du := by omega
  have hd1 : w.heap.size ≤ du + 1 := by omega
  rw [hdu] at L ⊢
  generalize (((w1.alloc (.cells #[.slice ada n ca, .slice adb m cb] 22)).alloc (.cells #[.int .i64 0] 29)).alloc (.cells #[.int .i64 0] 32)) = w3 at *
  clear hs hdu HW1
  have hnm : n * m ≤ 40000 := Nat.mul_le_mul hn hm
  obtain ⟨E, hE⟩ : ∃ E, oE n m = E := ⟨_, rfl⟩
  have HE : Hid (E = if n = 0 ∨ m = 0 then 40 else 0) := by show _ = _; rw [← hE]; exact oE_few n m hn hm
  have PO : Hid (Calls Tryd.prog 38 #[.pointer (some ⟨du, 0, none⟩), .slice ada n ca, .slice adb m cb] w3 fun e w' => ∃ (r k : Int) (v' : Value), e = .returned (.tuple #[.agg #[.int .i64 r, .int .i64 k, v'], .int .i64 E]) ∧ r = cE E (n : Int) ∧ k = cE E (m : Int) ∧ LL w3 w' v' (n * m) (otX f g m) E ∧ Un du (0 + cE E (otN f g m n)) w3 w') := by
    have h := V4.outerU _ _ n m f g du 0 w3 (by omega) (by omega) (by omega) (by omega) (HV.out.later L.out.B) (HAB.out.1.later L.out.B) (HAB.out.2.later L.out.B) (HAB.out.1.nb hd0) (HAB.out.2.nb hd0) L.out.u
    rw [hE] at h
    exact h
  clear hE V V4 HV
  go_wp2_with fail
  refine PO.out.mono ?_
  rintro e w4 ⟨r, k, v4, rfl, hr, hk, hL, hU⟩
  have L4 : Hid (L2 w du (du + 1) (0 + cE E (otN f g m n)) 0 w4) := L.out.unu hU hd0 (by omega)
  by_cases hz : n = 0 ∨ m = 0
  · have e40 := HE.out
    rw [if_pos hz] at e40
    subst e40
    obtain ⟨ad4, cp4, rfl⟩ := hL.2.1 (by omega)
    have hr0 : r = 0 := hr
    have hk0 : k = 0 := hk
    subst hr0 hk0
    have L5 : Hid (L2 w du (du + 1) 0 0 w4) := L4.out
    clear HE hL hU L4 PO L hr hk
    have D5 : Hid (M3 w4.heap.size (.int .i64 0) (.int .i64 0) (.slice ad4 0 cp4) _) := M3.new w4 (.int .i64 0) (.int .i64 0) (.slice ad4 0 cp4) 56
    have L6 : Hid (L2 w du (du + 1) 0 0 (w4.alloc (.cells #[.int .i64 0, .int .i64 0, .slice ad4 0 cp4] 56))) := L5.out.later (bel1' _ _)
    go_upto_region 7 with fail
    generalize w4.alloc (.cells #[.int .i64 0, .int .i64 0, .slice ad4 0 cp4] 56) = w5 at *
    have y0 := D5.out.c0
    have y1 := D5.out.c1
    have y2 := D5.out.c2
    have xU := L6.out.u.1
    clear L5
    by_cases h0 : n = 0
    · subst h0
      go_wp2_with (go_at_call 14; refine (count_any du 0 _ xU).mono ?_; rintro e wq ⟨rfl, rfl⟩)
      go_wp2
      go_ret
      exact ⟨rfl, L6.out.B⟩
    · have h1 : m = 0 := by omega
      subst h1
      have hnI : ¬ ((n : Nat) : Int) = 0 := by omega
      have hnB : (((n : Nat) : Int) == 0) = false := by simpa using hnI
      clear hz
      go_wp2_with (go_at_call 14; refine (count_any du 0 _ xU).mono ?_; rintro e wq ⟨rfl, rfl⟩)
      go_wp2
      go_ret
      exact ⟨rfl, L6.out.B⟩
  · have e0 := HE.out
    rw [if_neg hz] at e0
    subst e0
    have hr0 : r = (n : Int) := hr
    have hk0 : k = (m : Int) := hk
    subst hr0 hk0
    have A4 := hL.1 rfl
    obtain ⟨ad4, cp4, b4, o4, rfl, -, -, -, -⟩ := id A4
    have Y4 : Hid (An du (du + 1) (.slice ad4 (n * m) cp4) (n * m) (otX f g m) w4) := An.new L.out A4 hL.2.2
    have L5 : Hid (L2 w du (du + 1) (0 + otN f g m n) 0 w4) := L4.out
    clear HE hL hU L4 PO L A4 hr hk
    have D5 : Hid (M3 w4.heap.size (.int .i64 (n : Int)) (.int .i64 (m : Int)) (.slice ad4 (n * m) cp4) _) := M3.new w4 (.int .i64 (n : Int)) (.int .i64 (m : Int)) (.slice ad4 (n * m) cp4) 56
    have L6 : Hid (L2 w du (du + 1) (0 + otN f g m n) 0 (w4.alloc (.cells #[.int .i64 (n : Int), .int .i64 (m : Int), .slice ad4 (n * m) cp4] 56))) := L5.out.later (bel1' _ _)
    have Y6 : Hid (An du (du + 1) (.slice ad4 (n * m) cp4) (n * m) (otX f g m) (w4.alloc (.cells #[.int .i64 (n : Int), .int .i64 (m : Int), .slice ad4 (n * m) cp4] 56))) := Y4.out.later (bel1' _ _)
    have hb5 : Hid (du + 1 < w4.heap.size) := World.block_lt_of_cell? _ _ L5.out.v.1
    go_upto_region 7 with fail
    generalize w4.alloc (.cells #[.int .i64 (n : Int), .int .i64 (m : Int), .slice ad4 (n * m) cp4] 56) = w5 at *
    obtain ⟨bm, hbm⟩ : ∃ x, w4.heap.size = x := ⟨_, rfl⟩
    rw [hbm] at D5 hb5 ⊢
    clear L5 Y4 hbm
    have hnI : ¬ ((n : Nat) : Int) = 0 := by omega
    have hnB : (((n : Nat) : Int) == 0) = false := by simpa using hnI
    have hmI : ¬ ((m : Nat) : Int) = 0 := by omega
    have hmB : (((m : Nat) : Int) == 0) = false := by simpa using hmI
    have hn0 : 1 ≤ n := by omega
    have hm0 : 1 ≤ m := by omega
    clear hz
    go_wp2_with fail
    refine (plain_any _ n f (by omega) _ (HAB.out.1.later L6.out.B)).mono ?_
    rintro e w7 ⟨v7, rfl, A7, O7, hb⟩
    have X7 : Hid (An du (du + 1) v7 n f w7) := An.new L6.out A7 O7
    have L7 : Hid (L2 w du (du + 1) (0 + otN f g m n) 0 w7) := L6.out.later hb
    have Y7 : Hid (An du (du + 1) (.slice ad4 (n * m) cp4) (n * m) (otX f g m) w7 ∧ M3 bm (.int .i64 (n : Int)) (.int .i64 (m : Int)) (.slice ad4 (n * m) cp4) w7) := ⟨Y6.out.later hb, D5.out.later hb⟩
    clear hb A7 O7 L6 Y6 D5
    go_wp2_with fail
    refine (plain_any _ m g (by omega) _ (HAB.out.2.later L7.out.B)).mono ?_
    rintro e w8 ⟨v8, rfl, A8, O8, hb⟩
    have X8 : Hid (An du (du + 1) v7 n f w8 ∧ An du (du + 1) v8 m g w8) := ⟨X7.out.later hb, An.new L7.out A8 O8⟩
    have L8 : Hid (L2 w du (du + 1) (0 + otN f g m n) 0 w8) := L7.out.later hb
    have Y8 : Hid (An du (du + 1) (.slice ad4 (n * m) cp4) (n * m) (otX f g m) w8 ∧ M3 bm (.int .i64 (n : Int)) (.int .i64 (m : Int)) (.slice ad4 (n * m) cp4) w8) := ⟨Y7.out.1.later hb, Y7.out.2.later hb⟩
    clear hb A8 O8 L7 Y7 X7
    go_wp2_with fail
    refine (uouter_any v7 v8 n m f g (du + 1) 0 hn0 hm0 (by omega) (by omega) (by omega) (by omega) (by omega) _ X8.out.1.a X8.out.2.a X8.out.1.v X8.out.2.v L8.out.v.1 L8.out.v.2).mono ?_
    rintro e w9 ⟨v9, rfl, A9, O9, hU⟩
    obtain ⟨ad9, cp9, b9, o9, rfl, -, -, -, -⟩ := id A9
    have L9 : Hid (L2 w du (du + 1) (0 + otN f g m n) (0 + otN f g m n) w9) := L8.out.unv hU hd1 (by omega)
    have Y9 : Hid (Ar w9 (.slice ad4 (n * m) cp4) (n * m) (otX f g m) ∧ Ar w9 (.slice ad9 (n * m) cp9) (n * m) (otX f g m) ∧ M3 bm (.int .i64 (n : Int)) (.int .i64 (m : Int)) (.slice ad4 (n * m) cp4) w9) := ⟨(Y8.out.1.unv hU).a, A9, Y8.out.2.un hU (by have := hb5.out; omega)⟩
    clear hU A9 O9 L8 Y8 X8
    have hb9 : Below w9.heap.size w9 (w9.alloc (.cells #[.int .i64 (n : Int), .int .i64 (m : Int), .slice ad9 (n * m) cp9] 58)) := bel1' _ _
    have D9 := M3.new w9 (.int .i64 (n : Int)) (.int .i64 (m : Int)) (.slice ad9 (n * m) cp9) 58
    have L10 : Hid (L2 w du (du + 1) (0 + otN f g m n) (0 + otN f g m n) (w9.alloc (.cells #[.int .i64 (n : Int), .int .i64 (m : Int), .slice ad9 (n * m) cp9] 58))) := L9.out.later hb9
    have Y10 : Hid (Ar (w9.alloc (.cells #[.int .i64 (n : Int), .int .i64 (m : Int), .slice ad9 (n * m) cp9] 58)) (.slice ad4 (n * m) cp4) (n * m) (otX f g m) ∧ Ar (w9.alloc (.cells #[.int .i64 (n : Int), .int .i64 (m : Int), .slice ad9 (n * m) cp9] 58)) (.slice ad9 (n * m) cp9) (n * m) (otX f g m)) := ⟨Y9.out.1.later hb9, Y9.out.2.1.later hb9⟩
    have D8 := Y9.out.2.2.later hb9
    clear hb9 L9 Y9
    go_upto_region 10 with fail
    generalize w9.alloc (.cells #[.int .i64 (n : Int), .int .i64 (m : Int), .slice ad9 (n * m) cp9] 58) = w10 at *
    generalize w9.heap.size = bw at *
    have LK : Hid (Calls Tryd.prog 21 #[.slice ad4 (n * m) cp4, .int .i64 0, .slice ad9 (n * m) cp9, .pointer (some ⟨du, 0, none⟩), .pointer (some ⟨du + 1, 0, none⟩)] w10 fun e w' => e = .returned (.bool true) ∧ Below w10.heap.size w10 w') := like_yes _ _ (n * m) _ (by omega) du (du + 1) _ _ Y10.out.1 Y10.out.2 L10.out.u L10.out.v
    have y0 := D8.c0
    have y1 := D8.c1
    have y2 := D8.c2
    have t0 := D9.c0
    have t1 := D9.c1
    have t2 := D9.c2
    have enn : (((n : Nat) : Int) == (n : Int)) = true := by simp
    have emm : (((m : Nat) : Int) == (m : Int)) = true := by simp
    clear D8 D9 Y10
    go_wp2_with (go_at_call 21; refine LK.out.mono ?_; rintro e w11 ⟨rfl, hb⟩; have L11 : Hid (Below w.heap.size w w11) := bchain L10.out.B hb; clear hb)
    go_wp2
    go_ret
    exact ⟨by first | rfl | simp, L11.out⟩
end Go.Proofs.YtldnnjcfihjkdaaDoor
