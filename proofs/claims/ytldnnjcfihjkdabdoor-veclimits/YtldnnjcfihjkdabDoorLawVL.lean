/-
  VecLimits: vectors of as many parts as may be are taken, with one more refused.
-/
import Derived.Test.YtldnnjcfihjkdabDoorPWalkC
import Derived.Test.YtldnnjcfihjkdabDoorPWalkG
import Derived.Test.YtldnnjcfihjkdabDoorPWalkI
import Derived.Test.YtldnnjcfihjkdabDoorPWalkK
set_option linter.unusedVariables false
set_option linter.unusedSimpArgs false
namespace Go.Proofs.YtldnnjcfihjkdabDoor
open Go.RowKit

theorem ar_nil (w : World) : Ar w (.slice none 0 0) 0 (fun _ => 0) := ⟨none, 0, 0, 0, rfl, Nat.le_refl _, Nat.zero_le _, fun h => by omega, fun k hk => by omega⟩
theorem ar_one (w : World) : Ar (w.alloc (.cells #[.int .i64 1] 25)) (.slice (some ⟨w.heap.size, 0, none⟩) 1 1) 1 (fun _ => 1) :=
  ⟨_, 1, w.heap.size, 0, rfl, Nat.le_refl _, by unfold maxLen; omega, fun _ => rfl, fun k hk => by obtain rfl : k = 0 := by omega
                                                                                                   exact ⟨by simp [go_sem], by show (-9223372036854775808 : Int) ≤ 1; omega, by show (1 : Int) ≤ 9223372036854775807; omega⟩⟩
theorem ll_slice {w w' : World} {v : Value} {n : Nat} {F : Nat → Int} {E : Int} (h : LL w w' v n F E) : ∃ ad l cp, v = .slice ad l cp := by
  by_cases e : E = 0
  · obtain ⟨ad, cap, b, o, rfl, -⟩ := h.1 e
    exact ⟨_, _, _, rfl⟩
  · obtain ⟨ad, cap, rfl⟩ := h.2.1 e
    exact ⟨_, _, _, rfl⟩
/-- The state of the law. -/
structure T6 (w : World) (b n : Nat) (wz : World) : Prop where
  B : Below w.heap.size w wz
  V : VT wz
  a : Ar wz (.slice (some ⟨b, 0, none⟩) n n) n (fun _ => 0)
theorem T6.later {w : World} {b n : Nat} {wz wy : World} (h : T6 w b n wz) (hb : Below wz.heap.size wz wy) : T6 w b n wy := ⟨bchain h.B hb, h.V.later hb, h.a.later hb⟩
set_option maxRecDepth 100000 in
set_option maxHeartbeats 8000000 in
theorem vecLimits_any (p : Int) (p0 : -9223372036854775808 ≤ p) (p1 : p ≤ 9223372036854775807) (w : World) (hV : VT w) :
    Calls Tryd.prog 3 #[.int .i64 p] w fun e w' => e = .returned (.bool true) ∧ Below w.heap.size w w' := by
  have HV : Hid (VT w) := hV
  go_enter Tryd.func3, Tryd.ntmps3
  go_wp2_with fail
  refine (vawake_any vec1 _ hV).mono ?_
  rintro e w1 ⟨rfl, W1⟩
  have HW1 : Hid (Below w.heap.size w w1) := W1
  clear W1 hV
  rcases (show p < 65533 ∨ (¬ p < 65533 ∧ 65539 < p) ∨ (65533 ≤ p ∧ p ≤ 65539) by omega) with h | ⟨h, h'⟩ | ⟨h, h'⟩
  · go_wp2
    go_ret
    exact ⟨rfl, HW1.out⟩
  · go_wp2
    go_ret
    exact ⟨rfl, HW1.out⟩
  obtain ⟨n, rfl⟩ := Int.eq_ofNat_of_zero_le (show 0 ≤ p by omega)
  have hn0 : 65533 ≤ n := by omega
  have hn1 : n ≤ 65539 := by omega
  have q1 : ¬ (n : Int) < 65533 := by omega
  have q2 : ¬ (65539 : Int) < (n : Int) := by omega
  have hmk := make_fx n (by omega)
  have HR := Rw.made w1 (.int .i64 0) n 25
  have HB2 := bchain HW1.out (bel1 w1 (.cells (madeCells #[.int .i64 0] n) 25))
  have HT : Hid (T6 w w1.heap.size n (w1.alloc (.cells (madeCells #[.int .i64 0] n) 25))) := ⟨HB2, HV.out.later HB2, HR.ar (by omega) (fun k hk => by omega)⟩
  clear HR HB2 HV HW1 h h' p0 p1
  by_cases hcase : 65536 < n
  · have hs : 65536 < n := by omega
    have hsI : (65536 : Int) < (n : Int) := by omega
    have hE : sE n = 3 := by unfold sE; rw [if_pos (by omega)]
    have hM : mE n = 3 := by unfold mE; rw [if_pos (by omega)]
    have hD : dE n 0 = 3 := by unfold dE; rw [if_pos (by omega)]
    have hO : oE n 1 = 3 := by unfold oE; rw [if_pos (by omega)]
    have hX : mvE 0 0 0 n = 3 := by unfold mvE; rw [if_pos (by omega)]
    have hR : mtB 1 (n : Int) n = false := mt_no (fun x => by omega)
    go_upto_region 7 with fail
    generalize hw2 : w1.alloc (.cells (madeCells #[.int .i64 0] n) 25) = w2 at *
    clear hw2 hmk
    have C2 := Sum_nil _ n (fun _ => 0) w2 (by omega) HT.out.V HT.out.a
    rw [hE] at C2
    replace C2 : Hid (Calls _ _ _ _ _) := C2
    go_wp2_with fail
    refine C2.out.mono ?_
    rintro e w3 ⟨rfl, hb⟩
    have HT' : Hid (T6 w w1.heap.size n w3) := HT.out.later hb
    clear hb C2 HT
    have HT := HT'
    clear HT'
    have C3 := Norm_nil _ n (fun _ => 0) w3 (by omega) HT.out.V HT.out.a
    rw [hE] at C3
    replace C3 : Hid (Calls _ _ _ _ _) := C3
    go_wp2_with fail
    refine C3.out.mono ?_
    rintro e w4 ⟨rfl, hb⟩
    have HT' : Hid (T6 w w1.heap.size n w4) := HT.out.later hb
    clear hb C3 HT
    have HT := HT'
    clear HT'
    have C4 := Scale_nil 1 _ n (fun _ => 0) w4 (by omega) (by omega) (by omega) HT.out.a
    rw [hE] at C4
    replace C4 : Hid (Calls _ _ _ _ _) := C4
    go_wp2_with fail
    refine C4.out.mono ?_
    rintro e w5 ⟨v4, rfl, -, hb⟩
    have HT' : Hid (T6 w w1.heap.size n w5) := HT.out.later hb
    clear hb C4 HT
    have HT := HT'
    clear HT'
    have C5 := Clip_nil 0 _ n (fun _ => 0) w5 (by omega) (by omega) (by omega) HT.out.a
    rw [hE] at C5
    replace C5 : Hid (Calls _ _ _ _ _) := C5
    go_wp2_with fail
    refine C5.out.mono ?_
    rintro e w6 ⟨v5, rfl, -, hb⟩
    have HT' : Hid (T6 w w1.heap.size n w6) := HT.out.later hb
    clear hb C5 HT
    have HT := HT'
    clear HT'
    have C6 := Mean_nil _ n (fun _ => 0) w6 (by omega) HT.out.V HT.out.a
    rw [hM] at C6
    replace C6 : Hid (Calls _ _ _ _ _) := C6
    go_wp2_with fail
    refine C6.out.mono ?_
    rintro e w7 ⟨rfl, hb⟩
    have HT' : Hid (T6 w w1.heap.size n w7) := HT.out.later hb
    clear hb C6 HT
    have HT := HT'
    clear HT'
    have C7 := Dot_nil _ (.slice none 0 0) n 0 (fun _ => 0) (fun _ => 0) w7 (by omega) (by omega) HT.out.V HT.out.a (ar_nil w7)
    rw [hD] at C7
    replace C7 : Hid (Calls _ _ _ _ _) := C7
    go_wp2_with fail
    refine C7.out.mono ?_
    rintro e w8 ⟨rfl, hb⟩
    have HT' : Hid (T6 w w1.heap.size n w8) := HT.out.later hb
    clear hb C7 HT
    have HT := HT'
    clear HT'
    have C8 := Outer_nil _ _ n 1 (fun _ => 0) (fun _ => 1) (w8.alloc (.cells #[.int .i64 1] 25)) (by omega) (by omega) (HT.out.a.later (bel1 _ _)) (ar_one w8)
    rw [hO] at C8
    replace C8 : Hid (Calls _ _ _ _ _) := C8
    go_wp2_with fail
    refine C8.out.mono ?_
    rintro e w9 ⟨mr, mk, v8, rfl, -, -, hL, hb⟩
    obtain ⟨ad8, l8, cp8, rfl⟩ := ll_slice hL
    clear hL
    have HT' : Hid (T6 w w1.heap.size n w9) := HT.out.later (bchain (bel1 _ _) hb)
    clear hb C8 HT
    have HT := HT'
    clear HT'
    have HT9 : Hid (T6 w w1.heap.size n (w9.alloc (.cells #[.int .i64 mr, .int .i64 mk, .slice ad8 l8 cp8] 34))) := HT.out.later (bel1 _ _)
    have C9 := MatVec_err none 0 0 (by omega) (by omega) (by omega) (by omega) none (some ⟨w1.heap.size, 0, none⟩) 0 0 n n (by omega) (by omega) (w9.alloc (.cells #[.int .i64 mr, .int .i64 mk, .slice ad8 l8 cp8] 34)) (fun x => by have := mt_yes x.1; omega)
    rw [hX] at C9
    replace C9 : Hid (Calls _ _ _ _ _) := C9
    clear HT
    go_wp2_with fail
    refine C9.out.mono ?_
    rintro e w10 ⟨rfl, hb⟩
    have HT : Hid (T6 w w1.heap.size n w10) := HT9.out.later hb
    clear hb C9 HT9
    have C10 : Hid (∀ W : World, Calls Tryd.prog 17 #[.agg #[.int .i64 1, .int .i64 (n : Int), .slice (some ⟨w1.heap.size, 0, none⟩) n n]] W fun e w' => e = .returned (.bool false) ∧ Below W.heap.size W w') := fun W => by
      have h := Right_any 1 (n : Int) (by omega) (by omega) (by omega) (by omega) (some ⟨w1.heap.size, 0, none⟩) n n (by omega) W
      rw [hR] at h
      exact h
    have hle : ¬ (n : Int) ≤ 65536 := by omega
    go_wp2_with (go_at_call 17; refine (C10.out _).mono ?_; rintro e w11 ⟨rfl, hb⟩; have HT11 : Hid (T6 w w1.heap.size n w11) := HT.out.later hb; clear hb)
    go_ret
    exact ⟨by first | rfl | simp [hle] | (simp; omega), HT11.out.B⟩
  · have hs : n ≤ 65536 := by omega
    have hsI : ¬ (65536 : Int) < (n : Int) := by omega
    have hE : sE n = 0 := by unfold sE; rw [if_neg (by omega)]
    have hM : mE n = 0 := by unfold mE; rw [if_neg (by omega), if_neg (by omega)]
    have hD : dE n 0 = 40 := by unfold dE; rw [if_neg (by omega), if_neg (by omega)]
    have hO : oE n 1 = 0 := by unfold oE; rw [if_neg (by omega), if_neg (by omega), if_neg (by omega)]
    have hX : mvE 0 0 0 n = 40 := by unfold mvE; rw [if_neg (by omega), if_neg (fun x => by have := mt_yes x.1; omega)]
    have hR : mtB 1 (n : Int) n = true := mt_of (by omega) (by omega) (by omega) (by omega)
    go_upto_region 7 with fail
    generalize hw2 : w1.alloc (.cells (madeCells #[.int .i64 0] n) 25) = w2 at *
    clear hw2 hmk
    have C2 := Sum_nil _ n (fun _ => 0) w2 (by omega) HT.out.V HT.out.a
    rw [hE] at C2
    replace C2 : Hid (Calls _ _ _ _ _) := C2
    go_wp2_with fail
    refine C2.out.mono ?_
    rintro e w3 ⟨rfl, hb⟩
    have HT' : Hid (T6 w w1.heap.size n w3) := HT.out.later hb
    clear hb C2 HT
    have HT := HT'
    clear HT'
    have C3 := Norm_nil _ n (fun _ => 0) w3 (by omega) HT.out.V HT.out.a
    rw [hE] at C3
    replace C3 : Hid (Calls _ _ _ _ _) := C3
    go_wp2_with fail
    refine C3.out.mono ?_
    rintro e w4 ⟨rfl, hb⟩
    have HT' : Hid (T6 w w1.heap.size n w4) := HT.out.later hb
    clear hb C3 HT
    have HT := HT'
    clear HT'
    have C4 := Scale_nil 1 _ n (fun _ => 0) w4 (by omega) (by omega) (by omega) HT.out.a
    rw [hE] at C4
    replace C4 : Hid (Calls _ _ _ _ _) := C4
    go_wp2_with fail
    refine C4.out.mono ?_
    rintro e w5 ⟨v4, rfl, -, hb⟩
    have HT' : Hid (T6 w w1.heap.size n w5) := HT.out.later hb
    clear hb C4 HT
    have HT := HT'
    clear HT'
    have C5 := Clip_nil 0 _ n (fun _ => 0) w5 (by omega) (by omega) (by omega) HT.out.a
    rw [hE] at C5
    replace C5 : Hid (Calls _ _ _ _ _) := C5
    go_wp2_with fail
    refine C5.out.mono ?_
    rintro e w6 ⟨v5, rfl, -, hb⟩
    have HT' : Hid (T6 w w1.heap.size n w6) := HT.out.later hb
    clear hb C5 HT
    have HT := HT'
    clear HT'
    have C6 := Mean_nil _ n (fun _ => 0) w6 (by omega) HT.out.V HT.out.a
    rw [hM] at C6
    replace C6 : Hid (Calls _ _ _ _ _) := C6
    go_wp2_with fail
    refine C6.out.mono ?_
    rintro e w7 ⟨rfl, hb⟩
    have HT' : Hid (T6 w w1.heap.size n w7) := HT.out.later hb
    clear hb C6 HT
    have HT := HT'
    clear HT'
    have C7 := Dot_nil _ (.slice none 0 0) n 0 (fun _ => 0) (fun _ => 0) w7 (by omega) (by omega) HT.out.V HT.out.a (ar_nil w7)
    rw [hD] at C7
    replace C7 : Hid (Calls _ _ _ _ _) := C7
    go_wp2_with fail
    refine C7.out.mono ?_
    rintro e w8 ⟨rfl, hb⟩
    have HT' : Hid (T6 w w1.heap.size n w8) := HT.out.later hb
    clear hb C7 HT
    have HT := HT'
    clear HT'
    have C8 := Outer_nil _ _ n 1 (fun _ => 0) (fun _ => 1) (w8.alloc (.cells #[.int .i64 1] 25)) (by omega) (by omega) (HT.out.a.later (bel1 _ _)) (ar_one w8)
    rw [hO] at C8
    replace C8 : Hid (Calls _ _ _ _ _) := C8
    go_wp2_with fail
    refine C8.out.mono ?_
    rintro e w9 ⟨mr, mk, v8, rfl, -, -, hL, hb⟩
    obtain ⟨ad8, l8, cp8, rfl⟩ := ll_slice hL
    clear hL
    have HT' : Hid (T6 w w1.heap.size n w9) := HT.out.later (bchain (bel1 _ _) hb)
    clear hb C8 HT
    have HT := HT'
    clear HT'
    have HT9 : Hid (T6 w w1.heap.size n (w9.alloc (.cells #[.int .i64 mr, .int .i64 mk, .slice ad8 l8 cp8] 34))) := HT.out.later (bel1 _ _)
    have C9 := MatVec_err none 0 0 (by omega) (by omega) (by omega) (by omega) none (some ⟨w1.heap.size, 0, none⟩) 0 0 n n (by omega) (by omega) (w9.alloc (.cells #[.int .i64 mr, .int .i64 mk, .slice ad8 l8 cp8] 34)) (fun x => by have := mt_yes x.1; omega)
    rw [hX] at C9
    replace C9 : Hid (Calls _ _ _ _ _) := C9
    clear HT
    go_wp2_with fail
    refine C9.out.mono ?_
    rintro e w10 ⟨rfl, hb⟩
    have HT : Hid (T6 w w1.heap.size n w10) := HT9.out.later hb
    clear hb C9 HT9
    have C10 : Hid (∀ W : World, Calls Tryd.prog 17 #[.agg #[.int .i64 1, .int .i64 (n : Int), .slice (some ⟨w1.heap.size, 0, none⟩) n n]] W fun e w' => e = .returned (.bool true) ∧ Below W.heap.size W w') := fun W => by
      have h := Right_any 1 (n : Int) (by omega) (by omega) (by omega) (by omega) (some ⟨w1.heap.size, 0, none⟩) n n (by omega) W
      rw [hR] at h
      exact h
    have hle : (n : Int) ≤ 65536 := by omega
    go_wp2_with (go_at_call 17; refine (C10.out _).mono ?_; rintro e w11 ⟨rfl, hb⟩; have HT11 : Hid (T6 w w1.heap.size n w11) := HT.out.later hb; clear hb)
    go_ret
    exact ⟨by first | rfl | simp [hle] | (simp; omega), HT11.out.B⟩
end Go.Proofs.YtldnnjcfihjkdabDoor
