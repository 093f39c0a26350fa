/-
  The chapter's examples (regattalaw12.awake).
-/
import Derived.Test.YtahbpegjdmblaaaPkLawC
set_option linter.unusedVariables false
set_option linter.unusedSimpArgs false
namespace Go.Proofs.Ytahbpegjdmblaaa
open Go.RowKit

theorem bs_two (w : World) (x y : Nat) (t : TypeId) : Bs (w.alloc (.cells #[.int .u8 (x : Int), .int .u8 (y : Int)] t)) (.slice (some ⟨w.heap.size, 0, none⟩) 2 2) [x, y] :=
  ⟨_, 2, w.heap.size, 0, rfl, Nat.le_refl _, ⟨by unfold maxLen; omega, fun e => by cases e⟩, fun _ => rfl, fun k hk => by
    have hk0 : k < 2 := hk
    have : k = 0 ∨ k = 1 := by omega
    rcases this with rfl | rfl <;> simp [go_sem, b8f]⟩
theorem bs_three (w : World) (x y z : Nat) (t : TypeId) : Bs (w.alloc (.cells #[.int .u8 (x : Int), .int .u8 (y : Int), .int .u8 (z : Int)] t)) (.slice (some ⟨w.heap.size, 0, none⟩) 3 3) [x, y, z] :=
  ⟨_, 3, w.heap.size, 0, rfl, Nat.le_refl _, ⟨by unfold maxLen; omega, fun e => by cases e⟩, fun _ => rfl, fun k hk => by
    have hk0 : k < 3 := hk
    have : k = 0 ∨ k = 1 ∨ k = 2 := by omega
    rcases this with rfl | rfl | rfl <;> simp [go_sem, b8f]⟩
theorem en300 : enU 300 = [172, 2] := by rw [enU_ge (by omega), enU_lt (by omega)]
theorem enM1 : enI (-1) = [1] := by
  unfold enI
  rw [show ctI (-1) = 1 by decide, enU_lt (by omega)]
theorem awS : pt (pt (.ok []) (enU 300)) (enI (-1)) = .ok [172, 2, 1] := by
  rw [en300, enM1, pt_ok (by decide), pt_ok (by decide)]
  rfl
theorem awR : rU [128, 0] = .error 121 := by unfold rU; rw [rd_more (by omega) (by omega), rd_long (by omega) (by omega) (by omega)]
/-- What a call with an object hands on. -/
theorem Af.below {T : World → Value → (Nat → Prop) → Sta → Prop} {p : Value} {F : Nat → Prop} {s : Sta} {w0 w w' : World} {B : Nat} (h : Af T p F s w w') (hb : Below B w0 w) (hF : ∀ i, F i → B ≤ i) (hB : B ≤ w.heap.size) : ∃ F' : Nat → Prop, T w' p F' s ∧ (∀ i, F' i → B ≤ i) ∧ Below B w0 w' := by
  obtain ⟨F', h1, h2, h3⟩ := h
  exact ⟨F', h1, h2.up hF hB, h3.next hb hF hB⟩
set_option maxRecDepth 100000 in
set_option maxHeartbeats 8000000 in
theorem awake12 (V : Pack1) (w : World) :
    Calls Try.prog 9 #[] w fun e w' => e = .returned (.bool true) ∧ Below w.heap.size w w' := by
  have HW0 : Hid (V.Wt (w.alloc (.cells #[.slice none 0 0, .bool false] 28)) (.pointer (some ⟨w.heap.size, 0, none⟩)) (· = w.heap.size) (.ok [])) := V.wz w
  have HB0 : Hid (Below w.heap.size w (w.alloc (.cells #[.slice none 0 0, .bool false] 28))) := bel1 _ _
  go_enter Try.func9, Try.ntmps9
  go_wp2_with fail
  refine (V.wuint _ _ _ _ 300 HW0.out (by omega)).mono ?_
  rintro e w1 ⟨rfl, hA⟩
  obtain ⟨F1, hW1, hF1, hB1⟩ := hA.below HB0.out (fun i hi => by omega) HB0.out.size
  have HW1 : Hid (V.Wt w1 (.pointer (some ⟨w.heap.size, 0, none⟩)) F1 (pt (.ok []) (enU 300)) ∧ (∀ i, F1 i → w.heap.size ≤ i) ∧ Below w.heap.size w w1) := ⟨hW1, hF1, hB1⟩
  clear hA hW1 hF1 hB1 HW0 HB0
  go_wp2_with fail
  refine (V.wint _ _ _ _ (-1) HW1.out.1 (by unfold okI; omega)).mono ?_
  rintro e w2 ⟨rfl, hA⟩
  obtain ⟨F2, hW2, hF2, hB2⟩ := hA.below HW1.out.2.2 HW1.out.2.1 HW1.out.2.2.size
  have HW2 : Hid (V.Wt w2 (.pointer (some ⟨w.heap.size, 0, none⟩)) F2 (.ok [172, 2, 1]) ∧ (∀ i, F2 i → w.heap.size ≤ i) ∧ Below w.heap.size w w2) := ⟨by rw [awS] at hW2; exact hW2, hF2, hB2⟩
  clear hA hW2 hF2 hB2 HW1
  go_wp2_with fail
  refine (V.wdone _ _ _ _ HW2.out.1).mono ?_
  rintro e w3 ⟨v3, rfl, hL3, hO3, hB3⟩
  have HL3 : Hid (Bs w3 v3 [172, 2, 1] ∧ Below w.heap.size w w3) := ⟨hL3, bchain HW2.out.2.2 hB3⟩
  obtain ⟨ad3, cap3, rfl, -, -⟩ := hL3.len
  clear hL3 hO3 hB3 HW2
  go_wp2_with fail
  refine (V.read _ _ [128, 0] (bs_two w3 128 0 _) (by decide) (by decide)).mono ?_
  rintro e w4 ⟨p4, F4, rfl, hR, hF, hB⟩
  have hb4 := bchain (bel1 w3 _) hB
  have HL4 : Hid (Bs w4 (.slice ad3 3 cap3) [172, 2, 1] ∧ Below w.heap.size w w4 ∧ V.Rt w4 p4 F4 (.ok [128, 0]) ∧ (∀ i, F4 i → w3.heap.size < i) ∧ Lo w3.heap.size (.slice ad3 3 cap3)) := ⟨HL3.out.1.later hb4, bchain HL3.out.2 hb4, hR, fun i hi => by have := hF i hi; rw [World.size_alloc] at this; omega, Ls.lo HL3.out.1⟩
  clear hR hF hB hb4
  have hs3 : w.heap.size ≤ w3.heap.size := HL3.out.2.size
  clear HL3
  go_wp2_with fail
  refine (V.ruint _ _ _ _ HL4.out.2.2.1).mono ?_
  rintro e w5 ⟨rfl, F5, hR, hG, hK⟩
  have HL5 : Hid (Bs w5 (.slice ad3 3 cap3) [172, 2, 1] ∧ Below w.heap.size w w5 ∧ V.Rt w5 p4 F5 (.error 121)) := by
    refine ⟨hK.bs HL4.out.1 (fun a n c e hn q => ?_), hK.next HL4.out.2.1 (fun i hi => by have := HL4.out.2.2.2.1 i hi; omega) HL4.out.2.1.size, ?_⟩
    · have h1 := HL4.out.2.2.2.2 a n c e hn
      have h2 := HL4.out.2.2.2.1 _ q
      omega
    · rw [pn_no awR] at hR; exact hR
  have hpv : pv rU 0 (.ok [128, 0]) = 0 := pv_no awR
  rw [hpv]
  clear hR hG hK HL4 hpv
  go_wp2_with fail
  refine (sameB _ _ [172, 2, 1] [172, 2, 1] _ (HL5.out.1.later (bel1 _ _)) (bs_three w5 172 2 1 _)).mono ?_
  rintro e w6 ⟨rfl, hB6⟩
  have hb6 := bchain (bel1 w5 _) hB6
  have HL6 : Hid (Below w.heap.size w w6 ∧ V.Rt w6 p4 F5 (.error 121)) := ⟨bchain HL5.out.2.1 hb6, V.rl HL5.out.2.2 hb6⟩
  clear hB6 hb6 HL5
  have hd : decide ([172, 2, 1] = [172, 2, 1]) = true := by decide
  rw [hd]
  clear hd
  go_wp2_with fail
  refine (V.rerr _ _ _ _ HL6.out.2).mono ?_
  rintro e w7 ⟨rfl, hB7⟩
  have HL7 : Hid (Below w.heap.size w w7) := bchain HL6.out.1 hB7
  clear hB7 HL6
  have he : ((dnE (.error 121) : Nat) : Int) = 121 := rfl
  rw [he]
  clear he
  go_wp2
  go_ret
  exact ⟨rfl, HL7.out⟩
end Go.Proofs.Ytahbpegjdmblaaa
