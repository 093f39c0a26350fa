/-
  RandBetween: a number between two ends is the document's, and between them.
-/
import Derived.Test.YtoojakjbpbjeaaaLawRW
import Derived.Test.YtoojakjbpbjeaaaHWalkB
import Derived.Test.YtoojakjbpbjeaaaEDraw
set_option linter.unusedVariables false
set_option linter.unusedSimpArgs false
namespace Go.Proofs.Ytoojakjbpbjeaaa
open Go.RowKit

/-- A block of three cells. -/
structure K3 (b : Nat) (x y z : Value) (w : World) : Prop where
  c0 : w.cell? ⟨b, 0, none⟩ = some x
  c1 : w.cell? ⟨b, 1, none⟩ = some y
  c2 : w.cell? ⟨b, 2, none⟩ = some z
theorem K3.later {b : Nat} {x y z : Value} {w w' : World} (h : K3 b x y z w) (hb : Below w.heap.size w w') : K3 b x y z w' :=
  ⟨(hb.cell (World.block_lt_of_cell? _ _ h.c0)).trans h.c0, (hb.cell (World.block_lt_of_cell? _ _ h.c1)).trans h.c1, (hb.cell (World.block_lt_of_cell? _ _ h.c2)).trans h.c2⟩
set_option maxRecDepth 100000 in
set_option maxHeartbeats 4000000 in
theorem randBetween_any (V : Rand1) (s : Nat) (a b c i lw hg : Int) (hk : Ky s a b c) (i0 : -9223372036854775808 ≤ i) (i1 : i ≤ 9223372036854775807) (l0 : -9223372036854775808 ≤ lw) (l1 : lw ≤ 9223372036854775807) (h1 : hg ≤ 9223372036854775807) (w : World) (hV : RT w) :
    Calls Try.prog 5 #[.agg #[.int .u64 (s : Int), .int .i64 a, .int .i64 b, .int .i64 c], .agg #[.int .i64 i, .int .i64 lw, .int .i64 hg]] w fun e w' => e = .returned (.bool true) ∧ Below w.heap.size w w' := by
  have HL : Hid (∀ W : World, Calls Try.prog 12 #[.agg #[.int .u64 (s : Int), .int .i64 a, .int .i64 b, .int .i64 c]] W fun e w' => e = .returned (.agg #[.int .u64 (s : Int), .int .i64 a, .int .i64 b, .int .i64 c]) ∧ Below W.heap.size W w') := fun W => lkey_any s a b c W
  have HA : Hid (∀ W : World, Below w.heap.size w W → Calls Try.prog 9 #[] W fun e w' => e = .returned (.bool true) ∧ Below W.heap.size W w') := fun W hb => rawake_any V W (hV.later hb)
  have HP : Hid (∀ W : World, Calls Try.prog 15 #[.agg #[.int .u64 (s : Int), .int .i64 a, .int .i64 b, .int .i64 c], .int .i64 i] W fun e w' => e = .returned (.int .i64 ((ptN (wdN s a b c i) : Nat) : Int)) ∧ Below W.heap.size W w') := fun W => pPart_any s a b c i hk i0 i1 W
  have HRP : Hid (∀ W : World, Calls Try.prog 17 #[.agg #[.int .u64 (s : Int), .int .i64 a, .int .i64 b, .int .i64 c], .int .i64 i] W fun e w' => e = .returned (.int .i64 ((ptN (wdN s a b c i) : Nat) : Int)) ∧ Below W.heap.size W w') := fun W => refPart_any s a b c i hk i0 i1 W
  obtain ⟨B, HB, HRB, hB1, hB2⟩ : ∃ B : Int, Hid (∀ W : World, Calls Try.prog 16 #[.agg #[.int .u64 (s : Int), .int .i64 a, .int .i64 b, .int .i64 c], .int .i64 i, .int .i64 lw, .int .i64 hg] W fun e w' => e = .returned (.int .i64 B) ∧ Below W.heap.size W w') ∧ Hid (∀ W : World, Calls Try.prog 18 #[.agg #[.int .u64 (s : Int), .int .i64 a, .int .i64 b, .int .i64 c], .int .i64 i, .int .i64 lw, .int .i64 hg] W fun e w' => e = .returned (.int .i64 B) ∧ Below W.heap.size W w') ∧ (hg ≤ lw → B = lw) ∧ (¬ hg ≤ lw → lw ≤ B ∧ B < hg) := by
    by_cases hlh : hg ≤ lw
    · exact ⟨lw, fun W => pBetween_low s a b c i lw hg hlh W, fun W => refBetween_low s a b c i lw hg hlh W, fun _ => rfl, fun h => absurd hlh h⟩
    · refine ⟨_, fun W => pBetween_any s a b c i lw hg hk i0 i1 l0 h1 (by omega) W, fun W => refBetween_any s a b c i lw hg hk i0 i1 l0 h1 (by omega) W, fun h => absurd h hlh, fun _ => ?_⟩
      have := bwN_lt (hg - lw).toNat (ptN (wdN s a b c i)) (ptN_lt _ (wdN_lt s a b c i)) (by omega)
      omega
  have hl := ptN_lt _ (wdN_lt s a b c i)
  generalize ptN (wdN s a b c i) = p at *
  have B0' : -9223372036854775808 ≤ B ∧ B ≤ 9223372036854775807 := by
    by_cases hlh : hg ≤ lw
    · have := hB1 hlh; omega
    · have := hB2 hlh; omega
  have hB : Hid ((hg ≤ lw → B = lw) ∧ (¬ hg ≤ lw → lw ≤ B ∧ B < hg)) := ⟨hB1, hB2⟩
  obtain ⟨b0, b1⟩ := B0'
  clear hB1 hB2 hk hV V
  have K0 : K4 w.heap.size (.int .u64 (s : Int)) (.int .i64 a) (.int .i64 b) (.int .i64 c) ((w.alloc (.cells #[.int .u64 (s : Int), .int .i64 a, .int .i64 b, .int .i64 c] 24)).alloc (.cells #[.int .i64 i, .int .i64 lw, .int .i64 hg] 36)) := (⟨by simp [go_sem], by simp [go_sem], by simp [go_sem], by simp [go_sem]⟩ : K4 w.heap.size (.int .u64 (s : Int)) (.int .i64 a) (.int .i64 b) (.int .i64 c) (w.alloc (.cells #[.int .u64 (s : Int), .int .i64 a, .int .i64 b, .int .i64 c] 24))).later (bel1 _ _)
  have R0 : K3 (w.heap.size + 1) (.int .i64 i) (.int .i64 lw) (.int .i64 hg) ((w.alloc (.cells #[.int .u64 (s : Int), .int .i64 a, .int .i64 b, .int .i64 c] 24)).alloc (.cells #[.int .i64 i, .int .i64 lw, .int .i64 hg] 36)) := by
    have h : K3 (w.alloc (.cells #[.int .u64 (s : Int), .int .i64 a, .int .i64 b, .int .i64 c] 24)).heap.size (.int .i64 i) (.int .i64 lw) (.int .i64 hg) ((w.alloc (.cells #[.int .u64 (s : Int), .int .i64 a, .int .i64 b, .int .i64 c] 24)).alloc (.cells #[.int .i64 i, .int .i64 lw, .int .i64 hg] 36)) := ⟨by simp [go_sem], by simp [go_sem], by simp [go_sem]⟩
    rw [World.size_alloc] at h
    exact h
  have B0 : Hid (Below w.heap.size w ((w.alloc (.cells #[.int .u64 (s : Int), .int .i64 a, .int .i64 b, .int .i64 c] 24)).alloc (.cells #[.int .i64 i, .int .i64 lw, .int .i64 hg] 36))) := bel2 w _ _
  go_enter Try.func5, Try.ntmps5
  go_upto_region 1 with fail
  generalize (w.alloc (.cells #[.int .u64 (s : Int), .int .i64 a, .int .i64 b, .int .i64 c] 24)).alloc (.cells #[.int .i64 i, .int .i64 lw, .int .i64 hg] 36) = w1 at *
  go_wp2_with fail
  refine (HA.out _ B0.out).mono ?_
  rintro e w2 ⟨rfl, hb⟩
  have B2' : Hid (Below w.heap.size w w2) := bchain B0.out hb
  have K2 := K0.later hb
  have R2 := R0.later hb
  clear hb B0 K0 R0 HA
  have c0 := K2.c0
  have c1 := K2.c1
  have c2 := K2.c2
  have c3 := K2.c3
  have r0 := R2.c0
  have r1 := R2.c1
  have r2 := R2.c2
  go_wp2_with fail
  refine (HP.out _).mono ?_
  rintro e w3 ⟨rfl, hb⟩
  have B3' : Hid (Below w.heap.size w w3) := bchain B2'.out hb
  have K3' := K2.later hb
  have R3 := R2.later hb
  clear c0 c1 c2 c3 r0 r1 r2 hb B2' K2 R2 HP
  have c0 := K3'.c0
  have c1 := K3'.c1
  have c2 := K3'.c2
  have c3 := K3'.c3
  have r0 := R3.c0
  have r1 := R3.c1
  have r2 := R3.c2
  go_wp2_with fail
  refine (HB.out _).mono ?_
  rintro e w4 ⟨rfl, hb⟩
  have B4' : Hid (Below w.heap.size w w4) := bchain B3'.out hb
  have K4' := K3'.later hb
  have R4 := R3.later hb
  clear c0 c1 c2 c3 r0 r1 r2 hb B3' K3' R3 HB
  have hp0 : ¬ (p : Int) < 0 := by omega
  have hp1 : ¬ (4294967296 : Int) ≤ (p : Int) := by omega
  have hp0D : decide ((p : Int) < 0) = false := by simp; try omega
  have hp1D : decide ((4294967296 : Int) ≤ (p : Int)) = false := by simp; omega
  have hpE : (((p : Nat) : Int) != (p : Int)) = false := by simp
  have hBE : ((B : Int) != B) = false := by simp
  go_upto_region 5 with fail
  have hd1 : Below w4.heap.size w4 w4.drew := (Below.refl _ _).drew
  have A := K4'.later hd1
  have AR := R4.later hd1
  have CW : Hid (Below w.heap.size w w4.drew) := bchain B4'.out hd1
  clear hd1 K4' R4 B4'
  go_region_held3 (fun w' => w'.cell? ⟨w.heap.size, 0, none⟩ = some (.int .u64 (s : Int)) ∧ w'.cell? ⟨w.heap.size, 1, none⟩ = some (.int .i64 a) ∧ w'.cell? ⟨w.heap.size, 2, none⟩ = some (.int .i64 b) ∧ w'.cell? ⟨w.heap.size, 3, none⟩ = some (.int .i64 c) ∧ w'.cell? ⟨w.heap.size + 1, 0, none⟩ = some (.int .i64 i) ∧ w'.cell? ⟨w.heap.size + 1, 1, none⟩ = some (.int .i64 lw) ∧ w'.cell? ⟨w.heap.size + 1, 2, none⟩ = some (.int .i64 hg))
    (exact ⟨A.c0, A.c1, A.c2, A.c3, AR.c0, AR.c1, AR.c2⟩)
    (first
      | (go_at_call 12; refine (HL.out _).mono ?_; rintro e wz ⟨rfl, hb⟩; replace A := A.later hb; replace AR := AR.later hb; replace CW : Hid (Below w.heap.size w wz) := bchain CW.out hb; clear hb)
      | (go_at_call 17; refine (HRP.out _).mono ?_; rintro e wz ⟨rfl, hb⟩; replace A := A.later hb; replace AR := AR.later hb; replace CW : Hid (Below w.heap.size w wz) := bchain CW.out hb; clear hb)
      | (go_at_call 18; refine (HRB.out _).mono ?_; rintro e wz ⟨rfl, hb⟩; replace A := A.later hb; replace AR := AR.later hb; replace CW : Hid (Below w.heap.size w wz) := bchain CW.out hb; clear hb))
  have r1 := AR.c1
  have r2 := AR.c2
  clear HL HRB HRP
  by_cases hlh : hg ≤ lw
  · have hE : (B == lw) = true := by rw [hB.out.1 hlh]; simp
    clear hB
    go_wp2_with fail
    all_goals (try go_quiet (fail))
    all_goals go_wp2
    go_ret
    exact ⟨by first | rfl | simp, CW.out⟩
  · obtain ⟨h3, h4⟩ := hB.out.2 (by omega)
    clear hB
    go_wp2_with fail
    all_goals (try go_quiet (fail))
    all_goals go_wp2
    go_ret
    exact ⟨by first | rfl | simp, CW.out⟩
end Go.Proofs.Ytoojakjbpbjeaaa
