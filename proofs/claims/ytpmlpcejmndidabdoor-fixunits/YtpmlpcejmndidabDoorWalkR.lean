/-
  The contract of regatta/wide's Near.
-/
import Derived.Test.YtpmlpcejmndidabDoorWalkQ
set_option linter.unusedVariables false
set_option linter.unusedSimpArgs false
namespace Go.Proofs.YtpmlpcejmndidabDoor
open Go.RowKit

set_option maxHeartbeats 400000 in
theorem clamped_fits (l : Int) (b : Bool) (w : World) :
    Calls Tryd.prog 70 #[.int .i64 l, .bool b, .bool true] w fun e w' => e = .returned (.tuple #[.int .i64 l, .bool false]) ∧ w' = w := by
  go_enter Tryd.func70, Tryd.ntmps70
  go_wp2
  go_ret2
  exact ⟨rfl, rfl⟩
set_option maxHeartbeats 400000 in
theorem clamped_low (l : Int) (w : World) :
    Calls Tryd.prog 70 #[.int .i64 l, .bool true, .bool false] w fun e w' => e = .returned (.tuple #[.int .i64 (-9223372036854775808), .bool true]) ∧ w' = w := by
  go_enter Tryd.func70, Tryd.ntmps70
  go_wp2
  go_ret2
  exact ⟨rfl, rfl⟩
set_option maxHeartbeats 400000 in
theorem clamped_high (l : Int) (w : World) :
    Calls Tryd.prog 70 #[.int .i64 l, .bool false, .bool false] w fun e w' => e = .returned (.tuple #[.int .i64 9223372036854775807, .bool true]) ∧ w' = w := by
  go_enter Tryd.func70, Tryd.ntmps70
  go_wp2
  go_ret2
  exact ⟨rfl, rfl⟩

theorem rl_rng (v : Int) (n : Nat) (h0 : -3138550867693340381917894711603833208051177722232017256448 ≤ v) (h1 : v ≤ 3138550867693340381917894711603833208051177722232017256447) : -3138550867693340381917894711603833208051177722232017256448 ≤ rl v n ∧ rl v n ≤ 3138550867693340381917894711603833208051177722232017256447 := by
  by_cases hn : n = 0
  · subst hn; rw [rl_zero]; exact ⟨h0, h1⟩
  · have hp : (2 : Int) ≤ 2 ^ n := by
      have := pow_two (n - 1)
      have := pow_pos' (n - 1)
      rw [show n - 1 + 1 = n by omega] at *
      omega
    have a1 : v / 2 ^ n ≤ 1569275433846670190958947355801916604025588861116008628223 := by
      have := Int.ediv_le_ediv (show (0 : Int) < 2 ^ n by omega) h1
      have h2 : (3138550867693340381917894711603833208051177722232017256447 : Int) / 2 ^ n ≤ 1569275433846670190958947355801916604025588861116008628223 := by
        apply Int.le_of_lt_add_one
        apply Int.ediv_lt_of_lt_mul (by omega)
        have := Int.mul_le_mul_of_nonneg_left hp (show (0 : Int) ≤ 1569275433846670190958947355801916604025588861116008628224 by omega)
        omega
      omega
    have a0 : -1569275433846670190958947355801916604025588861116008628224 ≤ v / 2 ^ n := by
      rw [Int.le_ediv_iff_mul_le (by omega)]
      have := Int.mul_le_mul_of_nonpos_left (a := -1569275433846670190958947355801916604025588861116008628224) (by omega) hp
      omega
    unfold rl
    split <;> omega
/-- A long number that fits 64 bits is its lowest word; of one that doesn't another word is other. -/
theorem long_fits (r : Int) (h0 : -9223372036854775808 ≤ r) (h1 : r ≤ 9223372036854775807) : sg (lo r) = r := (fits_in r h0 h1).2
theorem long_out (r : Int) (r0 : -3138550867693340381917894711603833208051177722232017256448 ≤ r) (r1 : r ≤ 3138550867693340381917894711603833208051177722232017256447) (h : ¬ (-9223372036854775808 ≤ r ∧ r ≤ 9223372036854775807)) :
    ¬ t3 r = t3 (sg (lo r)) ∨ (t3 r = t3 (sg (lo r)) ∧ ¬ m3 r = m3 (sg (lo r))) := by
  have hs : -9223372036854775808 ≤ sg (lo r) ∧ sg (lo r) ≤ 9223372036854775807 := by unfold sg; omega
  have hd : (sg (lo r) - r) % 18446744073709551616 = 0 := by unfold sg lo; omega
  generalize sg (lo r) = L at *
  by_cases ht : t3 r = t3 L
  · refine .inr ⟨ht, ?_⟩
    intro hm
    have e1 : r / 340282366920938463463374607431768211456 = L / 340282366920938463463374607431768211456 := by unfold t3 at ht; omega
    have e2 : r / 18446744073709551616 % 18446744073709551616 = L / 18446744073709551616 % 18446744073709551616 := hm
    have x1 : r / 340282366920938463463374607431768211456 = r / 18446744073709551616 / 18446744073709551616 := by omega
    have x2 : L / 340282366920938463463374607431768211456 = L / 18446744073709551616 / 18446744073709551616 := by omega
    rw [x1, x2] at e1
    have e3 : r / 18446744073709551616 = L / 18446744073709551616 := by omega
    have e4 : r = L := by omega
    omega
  · exact .inl ht
theorem t3_sign (r : Int) (r0 : -3138550867693340381917894711603833208051177722232017256448 ≤ r) (r1 : r ≤ 3138550867693340381917894711603833208051177722232017256447) : (r < 0 → t3 r < 0) ∧ (0 ≤ r → 0 ≤ t3 r) := by unfold t3; omega

set_option maxHeartbeats 400000 in
theorem near_big (t m l n : Int) (hn : 191 < n) (w : World) :
    Calls Tryd.prog 49 #[.agg #[.int .i64 t, .int .u64 m, .int .u64 l], .int .i64 n] w fun e w' => e = .returned (.tuple #[.int .i64 0, .bool false]) ∧ Below w.heap.size w w' := by
  have hm : max n 0 = n := by omega
  go_enter Tryd.func49, Tryd.ntmps49
  go_wp2
  go_ret2
  exact ⟨rfl, bel1 _ _⟩

set_option maxHeartbeats 2000000 in
theorem near_mid (v n : Int) (k : Nat) (hk : max n 0 = (k : Int)) (k1 : k ≤ 191) (h0 : -3138550867693340381917894711603833208051177722232017256448 ≤ v) (h1 : v ≤ 3138550867693340381917894711603833208051177722232017256447) (w : World) (hT : TabAt w) :
    Calls Tryd.prog 49 #[.agg #[.int .i64 (t3 v), .int .u64 (m3 v), .int .u64 (lo v)], .int .i64 n] w fun e w' => e = .returned (.tuple #[.int .i64 (clv (rl v k)), .bool (ovv (rl v k))]) ∧ Below w.heap.size w w' := by
  have RD : Hid (∀ W : World, TabAt W → Calls Tryd.prog 68 #[.agg #[.int .u64 (lo v), .int .u64 (m3 v), .int .u64 (u3 v)], .int .i64 (k : Int)] W fun e w' => e = .returned (.agg #[.int .u64 (lo (rl v k)), .int .u64 (m3 (rl v k)), .int .u64 (u3 (rl v k))]) ∧ Below W.heap.size W w') := fun W h => rounded_any v k k1 h0 h1 W h
  obtain ⟨r0, r1⟩ := rl_rng v k h0 h1
  generalize rl v k = r at *
  have hk191 : ¬ (191 : Int) < (k : Int) := by omega
  have B0 := B3.new w (.int .i64 (t3 v)) (.int .u64 (m3 v)) (.int .u64 (lo v)) 54
  have W0 := bel1 w (.cells #[.int .i64 (t3 v), .int .u64 (m3 v), .int .u64 (lo v)] 54)
  have T0 := hT.later W0
  have hs : -9223372036854775808 ≤ sg (lo r) ∧ sg (lo r) ≤ 9223372036854775807 := by unfold sg; omega
  obtain ⟨s0, s1⟩ := hs
  have hin := long_fits r
  have hout := long_out r r0 r1
  have hsg := t3_sign r r0 r1
  have hl : lo (sg (lo r)) = lo r := by unfold sg lo; omega
  have hw : wrap64 (lo r) = sg (lo r) := w64 _
  generalize sg (lo r) = L at *
  go_enter Tryd.func49, Tryd.ntmps49
  go_wp2_with fail
  refine (wordsOf_any v _).mono ?_
  rintro e w1 ⟨rfl, hb⟩
  have W1 := bchain W0 hb
  have T1 := T0.later hb
  clear hb W0 T0 hT B0
  go_wp2_with fail
  refine (RD.out _ T1).mono ?_
  rintro e w2 ⟨rfl, hb⟩
  have W2 := bchain W1 hb
  clear hb W1 T1 RD
  go_wp2_with fail
  refine (wlong_any r _).mono ?_
  rintro e w3 ⟨rfl, hb⟩
  have W3 := bchain W2 hb
  clear hb W2
  have N4 := B3.new w3 (.int .i64 (t3 r)) (.int .u64 (m3 r)) (.int .u64 (lo r)) 54
  have W4 := bchain W3 (bel1 w3 (.cells #[.int .i64 (t3 r), .int .u64 (m3 r), .int .u64 (lo r)] 54))
  clear W3
  go_upto_region 6 with fail
  generalize w3.alloc (.cells #[.int .i64 (t3 r), .int .u64 (m3 r), .int .u64 (lo r)] 54) = w4 at *
  generalize w3.heap.size = d at *
  have z0 := fun x y => cell_regrown N4.c0 x y
  have z1 := fun x y => cell_regrown N4.c1 x y
  have z2 := fun x y => cell_regrown N4.c2 x y
  rw [hw]
  clear hw
  by_cases hi : -9223372036854775808 ≤ r ∧ r ≤ 9223372036854775807
  · obtain rfl : L = r := hin hi.1 hi.2
    obtain ⟨e1, e2⟩ := clv_in L hi.1 hi.2
    have HV : Hid (clv L = L ∧ ovv L = false) := ⟨e1, e2⟩
    clear hin hout hl hsg e1 e2 hi
    refine wp_region_quiet_below (by kernel_rfl) (by kernel_rfl) ?_
    repeat (quiet_step (first | (go_at_call 38; exact Calls.regrown_of (of_any L s0 s1 _)) | (go_at_call 26; exact Calls.regrown_of (extend_any L (by omega) (by omega) _)) | (go_at_call 70; exact Calls.regrown_same (clamped_fits _ _ _))))
    refine wpQuiet_nil ?_
    intro wd hw'
    have hB2 : Below w4.heap.size w4 wd := by obtain ⟨⟨dq, osq⟩, rfl⟩ := hw'; exact below_regrown w4 dq osq
    have W5 := bchain W4 hB2
    clear hw' hB2
    go_wp2
    go_ret2
    exact ⟨by rw [HV.out.1, HV.out.2]; rfl, W5⟩
  · have ho := hout hi
    clear hin hout hl
    by_cases hneg : r < 0
    · have ht := hsg.1 hneg
      obtain ⟨e1, e2⟩ := clv_lo r (by omega)
      have HV : Hid (clv r = -9223372036854775808 ∧ ovv r = true) := ⟨e1, e2⟩
      clear hsg e1 e2 hi
      rcases ho with ho | ⟨hp, ho⟩
      · have hob : (t3 r == t3 L) = false := beq_eq_false_iff_ne.2 ho
        refine wp_region_quiet_below (by kernel_rfl) (by kernel_rfl) ?_
        repeat (quiet_step (first | (go_at_call 38; exact Calls.regrown_of (of_any L s0 s1 _)) | (go_at_call 26; exact Calls.regrown_of (extend_any L (by omega) (by omega) _)) | (go_at_call 70; exact Calls.regrown_same (clamped_low _ _))))
        refine wpQuiet_nil ?_
        intro wd hw'
        have hB2 : Below w4.heap.size w4 wd := by obtain ⟨⟨dq, osq⟩, rfl⟩ := hw'; exact below_regrown w4 dq osq
        have W5 := bchain W4 hB2
        clear hw' hB2
        go_wp2
        go_ret2
        exact ⟨by rw [HV.out.1, HV.out.2]; rfl, W5⟩
      · have hob : (m3 r == m3 L) = false := beq_eq_false_iff_ne.2 ho
        have hpb : (t3 r == t3 L) = true := beq_iff_eq.2 hp
        clear hp
        refine wp_region_quiet_below (by kernel_rfl) (by kernel_rfl) ?_
        repeat (quiet_step (first | (go_at_call 38; exact Calls.regrown_of (of_any L s0 s1 _)) | (go_at_call 26; exact Calls.regrown_of (extend_any L (by omega) (by omega) _)) | (go_at_call 70; exact Calls.regrown_same (clamped_low _ _))))
        refine wpQuiet_nil ?_
        intro wd hw'
        have hB2 : Below w4.heap.size w4 wd := by obtain ⟨⟨dq, osq⟩, rfl⟩ := hw'; exact below_regrown w4 dq osq
        have W5 := bchain W4 hB2
        clear hw' hB2
        go_wp2
        go_ret2
        exact ⟨by rw [HV.out.1, HV.out.2]; rfl, W5⟩
    · have ht := hsg.2 (by omega)
      have hdt : decide (t3 r < 0) = false := decide_eq_false (by omega)
      obtain ⟨e1, e2⟩ := clv_hi r (by omega)
      have HV : Hid (clv r = 9223372036854775807 ∧ ovv r = true) := ⟨e1, e2⟩
      clear hsg e1 e2 hi
      rcases ho with ho | ⟨hp, ho⟩
      · have hob : (t3 r == t3 L) = false := beq_eq_false_iff_ne.2 ho
        refine wp_region_quiet_below (by kernel_rfl) (by kernel_rfl) ?_
        repeat (quiet_step (first | (go_at_call 38; exact Calls.regrown_of (of_any L s0 s1 _)) | (go_at_call 26; exact Calls.regrown_of (extend_any L (by omega) (by omega) _)) | (go_at_call 70; exact Calls.regrown_same (clamped_high _ _))))
        refine wpQuiet_nil ?_
        intro wd hw'
        have hB2 : Below w4.heap.size w4 wd := by obtain ⟨⟨dq, osq⟩, rfl⟩ := hw'; exact below_regrown w4 dq osq
        have W5 := bchain W4 hB2
        clear hw' hB2
        go_wp2
        go_ret2
        exact ⟨by rw [HV.out.1, HV.out.2]; rfl, W5⟩
      · have hob : (m3 r == m3 L) = false := beq_eq_false_iff_ne.2 ho
        have hpb : (t3 r == t3 L) = true := beq_iff_eq.2 hp
        clear hp
        refine wp_region_quiet_below (by kernel_rfl) (by kernel_rfl) ?_
        repeat (quiet_step (first | (go_at_call 38; exact Calls.regrown_of (of_any L s0 s1 _)) | (go_at_call 26; exact Calls.regrown_of (extend_any L (by omega) (by omega) _)) | (go_at_call 70; exact Calls.regrown_same (clamped_high _ _))))
        refine wpQuiet_nil ?_
        intro wd hw'
        have hB2 : Below w4.heap.size w4 wd := by obtain ⟨⟨dq, osq⟩, rfl⟩ := hw'; exact below_regrown w4 dq osq
        have W5 := bchain W4 hB2
        clear hw' hB2
        go_wp2
        go_ret2
        exact ⟨by rw [HV.out.1, HV.out.2]; rfl, W5⟩
end Go.Proofs.YtpmlpcejmndidabDoor
