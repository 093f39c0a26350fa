/-
  The laws' helpers of layer 10 (regattalaw10): plain, few, like, awake; a step with no unit, and with one.
-/
import Derived.Test.YtfcneciknldohaaOWalkB
import Derived.Test.YtfcneciknldohaaORef
set_option linter.unusedVariables false
set_option linter.unusedSimpArgs false
namespace Go.Proofs.Ytfcneciknldohaa
open Go.RowKit

set_option maxRecDepth 100000 in
set_option maxHeartbeats 4000000 in
theorem plain10_any (va : Value) (n : Nat) (f : Nat → Int) (hn : n ≤ 70000) (w : World) (hA : Ar w va n f) :
    Calls Try.prog 14 #[va] w fun e w' => ∃ v', e = .returned v' ∧ Ar w' v' n f ∧ Ow w.heap.size v' ∧ Below w.heap.size w w' := by
  obtain ⟨i0, hi, hz0, hz1, hz2⟩ := info_parts dinfo_i64
  obtain ⟨adr, cap, b, o, rfl, k1, k2, k3, k4⟩ := hA
  unfold maxLen at k2
  have HA : Hid (∀ k, k < n → w.cell? ⟨b, o + k, none⟩ = some (.int .i64 (f k)) ∧ -9223372036854775808 ≤ f k ∧ f k ≤ 9223372036854775807) := k4
  have HK : Hid (0 < n → adr = some ⟨b, o, none⟩) := k3
  clear k3 k4
  go_enter Try.func14, Try.ntmps14
  go_wp2_with (at_make; refine wpList_make_own _ rfl _ _ 43 rfl w.heap.size 2 i0 (.int .i64 0) 1 Try.underlying43 hi hz0 hz1 .i64 .i64 (n : Int) n rfl rfl rfl (by rw [hz2]; omega) (by unfold maxLen; omega) (Nat.le_refl _) ?_; intro w1 hown hgrow)
  have hW1 : Below w.heap.size w w1 := (Below.refl _ w).grown hgrow (Nat.le_refl _) (fun k hk => by cases hk)
  clear hgrow
  go_wp2
  go_loopw [3, 11] (fun s3 s11 wr => ∃ j : Nat, j ≤ n ∧ s3 = .slice (some ⟨w.heap.size, 0, none⟩) j n ∧ s11 = .int .i64 (j : Int) ∧ wr.ownsRow w.heap.size 2 1 (.slice (some ⟨w.heap.size, 0, none⟩) j n) j (il f j) ∧ Below w.heap.size w wr) (fun _ s11 _ => n - (intOf s11).toNat)
  case atStart => exact ⟨0, by omega, rfl, rfl, hown, hW1⟩
  case round =>
    clear hown hW1
    obtain ⟨j, hj, rfl, rfl, hown, hW⟩ := hrel
    by_cases hlt : j < n
    · have hjI : (j : Int) < (n : Int) := by omega
      have ea := HK.out (by omega)
      subst ea
      obtain ⟨ca, a0, a1⟩ := HA.out j hlt
      have cA : wr.cell? ⟨b, o + j, none⟩ = some (.int .i64 (f j)) := (hW.cell (World.block_lt_of_cell? _ _ ca)).trans ca
      have bA := World.block_lt_of_cell? _ _ ca
      clear ca
      go_wp2_with (at_builtin; refine wpList_append_fits _ rfl _ _ 43 rfl w.heap.size 2 i0 1 Try.underlying43 hi hz1 w.heap.size j n _ rfl (hown.alloc _) ⟨wr.heap.size, 0, none⟩ 1 1 [.int .i64 (f j)] rfl rfl (cell_one_new _ _ _) (ints_oneCell .i64 [f j]) (by omega) ?_; intro w2 hown' hgrow)
      have hown3 : w2.ownsRow w.heap.size 2 1 (.slice (some ⟨w.heap.size, 0, none⟩) (j + 1) n) (j + 1) (il f (j + 1)) := by rw [il_succ]; exact hown'
      have hW3 : Below w.heap.size w w2 := dbelow_grown' hown hW hgrow rfl
      clear hown' hgrow hown hW
      go_wp2
      go_roundw
      case rel => exact ⟨j + 1, by omega, rfl, by go_num, hown3, hW3⟩
      case measure => simp [intOf]; omega
    · obtain rfl : j = n := by omega
      have HR : Hid (Ar wr (.slice (some ⟨w.heap.size, 0, none⟩) j j) j f ∧ Ow w.heap.size (.slice (some ⟨w.heap.size, 0, none⟩) j j)) := ar_of_own hown (fun k hk => (HA.out k hk).2)
      have HW : Hid (Below w.heap.size w wr) := hW
      clear hown hW
      go_wp2
      go_ret
      exact ⟨_, rfl, HR.out.1, HR.out.2, HW.out⟩
/-- What like reads. -/
structure Lk10 (b : Nat) (x1 x2 x3 x4 : Value) (w : World) : Prop where
  c0 : w.cell? ⟨b, 0, none⟩ = some x1
  c1 : w.cell? ⟨b, 1, none⟩ = some x2
  d0 : w.cell? ⟨b + 1, 0, none⟩ = some x3
  d1 : w.cell? ⟨b + 1, 1, none⟩ = some x4
theorem Lk10.later {b : Nat} {x1 x2 x3 x4 : Value} {w w' : World} (h : Lk10 b x1 x2 x3 x4 w) (hb : Below w.heap.size w w') : Lk10 b x1 x2 x3 x4 w' := ⟨cell_later hb h.c0, cell_later hb h.c1, cell_later hb h.d0, cell_later hb h.d1⟩
theorem step10_nil (r m : Int) (hr : ruO r m) (r1 : r ≤ 9223372036854775807) (vP vB vG : Value) (n : Nat) (P B G : Nat → Int) (hn : n ≤ 65536) (w : World) (hP : Ar w vP n P) (hB : Ar w vB n B) (hG : Ar w vG n G) :
    Calls Try.prog 10 #[.pointer none, .int .i64 r, .int .i64 m, .agg #[vP, vB], vG] w fun e w' => ∃ (a1 a2 : Option Addr) (k1 k2 : Nat), e = .returned (.tuple #[.agg #[.slice a1 n k1, .slice a2 n k2], .int .i64 0]) ∧ St10 w (.slice a1 n k1) (.slice a2 n k2) n r m B P G w' ∧ Below w.heap.size w w' := by
  refine (step10_ok r m hr r1 vP vB vG n P B G hn none 0 (by omega) (by omega) w hP hB hG (nv_none _) (nv_none _) (nv_none _) (Or.inl rfl)).mono ?_
  rintro e w' ⟨⟨a1, a2, k1, k2, he, hS⟩, hU⟩
  exact ⟨a1, a2, k1, k2, he, hS, ux_nil hU⟩
theorem step10_un (r m : Int) (hr : ruO r m) (r1 : r ≤ 9223372036854775807) (vP vB vG : Value) (n : Nat) (P B G : Nat → Int) (hn : n ≤ 65536) (d : Nat) (c : Int) (c0 : 0 ≤ c) (c1 : c ≤ 100000000) (w : World) (hP : Ar w vP n P) (hB : Ar w vB n B) (hG : Ar w vG n G) (nP : Nb vP d) (nB : Nb vB d) (nG : Nb vG d) (hc : Uc w d c) :
    Calls Try.prog 10 #[.pointer (some ⟨d, 0, none⟩), .int .i64 r, .int .i64 m, .agg #[vP, vB], vG] w fun e w' => ∃ (a1 a2 : Option Addr) (k1 k2 : Nat), e = .returned (.tuple #[.agg #[.slice a1 n k1, .slice a2 n k2], .int .i64 0]) ∧ St10 w (.slice a1 n k1) (.slice a2 n k2) n r m B P G w' ∧ Un d (c + oS r m B P G n) w w' := by
  refine (step10_ok r m hr r1 vP vB vG n P B G hn (some ⟨d, 0, none⟩) c c0 c1 w hP hB hG (nv_some nP) (nv_some nB) (nv_some nG) (Or.inr ⟨d, rfl, hc⟩)).mono ?_
  rintro e w' ⟨⟨a1, a2, k1, k2, he, hS⟩, hU⟩
  exact ⟨a1, a2, k1, k2, he, hS, ux_one hU⟩
theorem delta10_un (va vb : Value) (n m : Nat) (f g : Nat → Int) (hn : n ≤ 70000) (hm : m ≤ 70000) (d : Nat) (c : Int) (c0 : 0 ≤ c) (c1 : c ≤ 800000000) (w : World) (hA : Ar w va n f) (hB : Ar w vb m g) (ha : Nb va d) (hb : Nb vb d) (hc : Uc w d c) :
    Calls Try.prog 17 #[.pointer (some ⟨d, 0, none⟩), va, vb] w fun e w' => ∃ v', e = .returned (.tuple #[v', .int .i64 (dE n m)]) ∧ LL w w' v' n (fun i => clv (f i - g i)) (dE n m) ∧ Un d (c + cE (dE n m) (cntV (fun i => ovv (f i - g i)) n)) w w' := by
  refine (delta10_ux va vb n m f g hn hm (some ⟨d, 0, none⟩) c c0 c1 w hA hB (nv_some ha) (nv_some hb) (Or.inr ⟨d, rfl, hc⟩)).mono ?_
  rintro e w' ⟨⟨v', he, hL⟩, hU⟩
  exact ⟨v', he, hL, ux_one hU⟩
set_option maxRecDepth 100000 in
set_option maxHeartbeats 4000000 in
theorem few10_any (aP aB aG : Option Addr) (nP nB nG cP cB cG : Nat) (b : Bool) (hb : b = true ↔ nP ≤ 200 ∧ nB ≤ 200 ∧ nG ≤ 200) (w : World) :
    Calls Try.prog 9 #[.agg #[.slice aP nP cP, .slice aB nB cB], .slice aG nG cG] w fun e w' => e = .returned (.bool b) ∧ Below w.heap.size w w' := by
  have HE : Hid (b = true ↔ nP ≤ 200 ∧ nB ≤ 200 ∧ nG ≤ 200) := hb
  clear hb
  obtain ⟨w1, hw1⟩ : ∃ w1, w1 = w.alloc (.cells #[.slice aP nP cP, .slice aB nB cB] 27) := ⟨_, rfl⟩
  have HB1 : Hid (Below w.heap.size w w1) := by rw [hw1]; exact bel1 _ _
  have HQ : Y2 w.heap.size (.slice aP nP cP) (.slice aB nB cB) w1 := by rw [hw1]; exact Y2.new _ _ _ _
  go_enter Try.func9, Try.ntmps9
  go_upto_region 1 with fail
  rw [← hw1]
  clear hw1
  have y0 := HQ.c0
  have y1 := HQ.c1
  go_wp2
  all_goals
    go_ret
    refine ⟨congrArg (fun x => Ending.returned (Value.bool x)) ?_, HB1.out⟩
    rw [Bool.eq_iff_iff, HE.out, decide_eq_true_iff]
    first
      | omega
      | (split at * <;> omega)
set_option maxRecDepth 100000 in
set_option maxHeartbeats 4000000 in
theorem like10_yes (vP vB uP uB : Value) (n : Nat) (F H : Nat → Int) (hn : n ≤ 65536) (w : World) (h1 : Ar w vP n F) (h2 : Ar w vB n H) (h3 : Ar w uP n F) (h4 : Ar w uB n H) :
    Calls Try.prog 15 #[.agg #[vP, vB], .agg #[uP, uB]] w fun e w' => e = .returned (.bool true) ∧ Below w.heap.size w w' := by
  obtain ⟨a1, k1, b1, o1, rfl, -, -, -, -⟩ := id h1
  obtain ⟨a2, k2, b2, o2, rfl, -, -, -, -⟩ := id h2
  obtain ⟨a3, k3, b3, o3, rfl, -, -, -, -⟩ := id h3
  obtain ⟨a4, k4, b4, o4, rfl, -, -, -, -⟩ := id h4
  have CP1 : Hid (∀ W : World, Below w.heap.size w W → Calls Try.prog 14 #[.slice a1 n k1] W fun e w' => ∃ v', e = .returned v' ∧ Ar w' v' n F ∧ Ow W.heap.size v' ∧ Below W.heap.size W w') := fun W hb => plain10_any _ n F (by omega) W (h1.later hb)
  have CP2 : Hid (∀ W : World, Below w.heap.size w W → Calls Try.prog 14 #[.slice a2 n k2] W fun e w' => ∃ v', e = .returned v' ∧ Ar w' v' n H ∧ Ow W.heap.size v' ∧ Below W.heap.size W w') := fun W hb => plain10_any _ n H (by omega) W (h2.later hb)
  have CS1 : Hid (∀ (W : World) (v : Value), Below w.heap.size w W → Ar W v n F → Calls Try.prog 18 #[v, .slice a3 n k3] W fun e w' => e = .returned (.bool true) ∧ Below W.heap.size W w') := fun W v hb h => same_yes v _ n F (by omega) W h (h3.later hb)
  have CS2 : Hid (∀ (W : World) (v : Value), Below w.heap.size w W → Ar W v n H → Calls Try.prog 18 #[v, .slice a4 n k4] W fun e w' => e = .returned (.bool true) ∧ Below W.heap.size W w') := fun W v hb h => same_yes v _ n H (by omega) W h (h4.later hb)
  obtain ⟨w1, hw1⟩ : ∃ w1, w1 = (w.alloc (.cells #[.slice a1 n k1, .slice a2 n k2] 27)).alloc (.cells #[.slice a3 n k3, .slice a4 n k4] 45) := ⟨_, rfl⟩
  have hb1 : Below w.heap.size w w1 := by rw [hw1]; exact bel2 _ _ _
  have hY1 : Y2 w.heap.size (.slice a1 n k1) (.slice a2 n k2) w1 := by rw [hw1]; exact (Y2.new w _ _ _).later (bel1 _ _)
  have hZ1 : Y2 (w.heap.size + 1) (.slice a3 n k3) (.slice a4 n k4) w1 := by
    have h := Y2.new (w.alloc (.cells #[.slice a1 n k1, .slice a2 n k2] 27)) (.slice a3 n k3) (.slice a4 n k4) 45
    rw [World.size_alloc] at h
    rw [hw1]; exact h
  clear h1 h2 h3 h4
  go_enter Try.func15, Try.ntmps15
  go_upto_region 1 with fail
  rw [← hw1]
  clear hw1
  have hbD : Below w1.heap.size w1 w1.drew := (Below.refl _ _).drew
  have HB : Hid (Below w.heap.size w w1.drew) := bchain hb1 hbD
  refine wp_region_held_drew (S := Lk10 w.heap.size (.slice a1 n k1) (.slice a2 n k2) (.slice a3 n k3) (.slice a4 n k4)) (by kernel_rfl) ⟨(hY1.later hbD).c0, (hY1.later hbD).c1, (hZ1.later hbD).c0, (hZ1.later hbD).c1⟩ (fun HS => ?_)
  clear hbD hb1 hY1 hZ1
  generalize w1.drew = q0 at *
  refine wpAnyH_take (i := 0) (v := ?v1) rfl (by kernel_rfl) (by kernel_rfl) (by kernel_rfl) (fun _ _ _ h => h) (Or.inl ⟨by kernel_rfl, ?h1⟩) HS ?r1
  case h1 => (rintro w ⟨y0, y1, z0, z1⟩; go_simp) <;> with_reducible rfl
  try simp only [Act.put, List.getElem_toArray, List.getElem_cons_succ, List.getElem_cons_zero, List.setIfInBounds_toArray, List.set_cons_zero, List.set_cons_succ]
  refine wpAnyH_take (i := 1) (v := ?v2) rfl (by kernel_rfl) (by kernel_rfl) (by kernel_rfl) (fun _ _ _ h => h) (Or.inl ⟨by kernel_rfl, ?h2⟩) HS ?r2
  case h2 => (rintro w ⟨y0, y1, z0, z1⟩; go_simp) <;> with_reducible rfl
  try simp only [Act.put, List.getElem_toArray, List.getElem_cons_succ, List.getElem_cons_zero, List.setIfInBounds_toArray, List.set_cons_zero, List.set_cons_succ]
  refine wpAnyH_take (i := 3) (v := ?v3) rfl (by kernel_rfl) (by kernel_rfl) (by kernel_rfl) (fun _ _ _ h => h) (Or.inl ⟨by kernel_rfl, ?h3⟩) HS ?r3
  case h3 => (rintro w ⟨y0, y1, z0, z1⟩; go_simp) <;> with_reducible rfl
  try simp only [Act.put, List.getElem_toArray, List.getElem_cons_succ, List.getElem_cons_zero, List.setIfInBounds_toArray, List.set_cons_zero, List.set_cons_succ]
  refine wpAnyH_take (i := 4) (v := ?v4) rfl (by kernel_rfl) (by kernel_rfl) (by kernel_rfl) (fun _ _ _ h => h) (Or.inl ⟨by kernel_rfl, ?h4⟩) HS ?r4
  case h4 => (rintro w ⟨y0, y1, z0, z1⟩; go_simp) <;> with_reducible rfl
  try simp only [Act.put, List.getElem_toArray, List.getElem_cons_succ, List.getElem_cons_zero, List.setIfInBounds_toArray, List.set_cons_zero, List.set_cons_succ]
  refine wpAnyH_ready (rs := [2]) (by kernel_rfl) (by simp) ?_
  refine AllReadyH.cons rfl (fun K hK => ?_) AllReadyH.nil
  go_simp
  refine (CP1.out _ HB.out).mono ?_
  rintro e q1 ⟨v1, rfl, hA, -, hb⟩
  refine hK.out _ _ (HS.later hb) (fun HS => ?_)
  clear hK K
  have HB1 : Hid (Below w.heap.size w q1) := bchain HB.out hb
  have HA1 : Hid (Ar q1 v1 n F) := hA
  clear hA hb HB CP1
  try simp only [Act.put, List.getElem_toArray, List.getElem_cons_succ, List.getElem_cons_zero, List.setIfInBounds_toArray, List.set_cons_zero, List.set_cons_succ]
  refine wpAnyH_ready (rs := [5]) (by kernel_rfl) (by simp) ?_
  refine AllReadyH.cons rfl (fun K hK => ?_) AllReadyH.nil
  go_simp
  refine (CS1.out _ _ HB1.out HA1.out).mono ?_
  rintro e q2 ⟨rfl, hb⟩
  refine hK.out _ _ (HS.later hb) (fun HS => ?_)
  clear hK K
  have HB2 : Hid (Below w.heap.size w q2) := bchain HB1.out hb
  clear hb HB1 HA1 CS1
  try simp only [Act.put, List.getElem_toArray, List.getElem_cons_succ, List.getElem_cons_zero, List.setIfInBounds_toArray, List.set_cons_zero, List.set_cons_succ]
  refine wpAnyH_take (i := 6) (v := ?v5) rfl (by kernel_rfl) (by kernel_rfl) (by kernel_rfl) (fun _ _ _ h => h) (Or.inl ⟨by kernel_rfl, ?h5⟩) HS ?r5
  case h5 => (rintro w ⟨y0, y1, z0, z1⟩; go_simp) <;> with_reducible rfl
  try simp only [Act.put, List.getElem_toArray, List.getElem_cons_succ, List.getElem_cons_zero, List.setIfInBounds_toArray, List.set_cons_zero, List.set_cons_succ]
  refine wpAnyH_take (i := 7) (v := ?v6) rfl (by kernel_rfl) (by kernel_rfl) (by kernel_rfl) (fun _ _ _ h => h) (Or.inl ⟨by kernel_rfl, ?h6⟩) HS ?r6
  case h6 => (rintro w ⟨y0, y1, z0, z1⟩; go_simp) <;> with_reducible rfl
  try simp only [Act.put, List.getElem_toArray, List.getElem_cons_succ, List.getElem_cons_zero, List.setIfInBounds_toArray, List.set_cons_zero, List.set_cons_succ]
  refine wpAnyH_take (i := 8) (v := ?v7) rfl (by kernel_rfl) (by kernel_rfl) (by kernel_rfl) (fun _ _ _ h => h) (Or.inl ⟨by kernel_rfl, ?h7⟩) HS ?r7
  case h7 => (rintro w ⟨y0, y1, z0, z1⟩; go_simp) <;> with_reducible rfl
  try simp only [Act.put, List.getElem_toArray, List.getElem_cons_succ, List.getElem_cons_zero, List.setIfInBounds_toArray, List.set_cons_zero, List.set_cons_succ]
  refine wpAnyH_take (i := 10) (v := ?v8) rfl (by kernel_rfl) (by kernel_rfl) (by kernel_rfl) (fun _ _ _ h => h) (Or.inl ⟨by kernel_rfl, ?h8⟩) HS ?r8
  case h8 => (rintro w ⟨y0, y1, z0, z1⟩; go_simp) <;> with_reducible rfl
  try simp only [Act.put, List.getElem_toArray, List.getElem_cons_succ, List.getElem_cons_zero, List.setIfInBounds_toArray, List.set_cons_zero, List.set_cons_succ]
  refine wpAnyH_take (i := 11) (v := ?v9) rfl (by kernel_rfl) (by kernel_rfl) (by kernel_rfl) (fun _ _ _ h => h) (Or.inl ⟨by kernel_rfl, ?h9⟩) HS ?r9
  case h9 => (rintro w ⟨y0, y1, z0, z1⟩; go_simp) <;> with_reducible rfl
  try simp only [Act.put, List.getElem_toArray, List.getElem_cons_succ, List.getElem_cons_zero, List.setIfInBounds_toArray, List.set_cons_zero, List.set_cons_succ]
  refine wpAnyH_ready (rs := [9]) (by kernel_rfl) (by simp) ?_
  refine AllReadyH.cons rfl (fun K hK => ?_) AllReadyH.nil
  go_simp
  refine (CP2.out _ HB2.out).mono ?_
  rintro e q3 ⟨v3, rfl, hA, -, hb⟩
  refine hK.out _ _ (HS.later hb) (fun HS => ?_)
  clear hK K
  have HB3 : Hid (Below w.heap.size w q3) := bchain HB2.out hb
  have HA3 : Hid (Ar q3 v3 n H) := hA
  clear hA hb HB2 CP2
  try simp only [Act.put, List.getElem_toArray, List.getElem_cons_succ, List.getElem_cons_zero, List.setIfInBounds_toArray, List.set_cons_zero, List.set_cons_succ]
  refine wpAnyH_ready (rs := [12]) (by kernel_rfl) (by simp) ?_
  refine AllReadyH.cons rfl (fun K hK => ?_) AllReadyH.nil
  go_simp
  refine (CS2.out _ _ HB3.out HA3.out).mono ?_
  rintro e q4 ⟨rfl, hb⟩
  refine hK.out _ _ (HS.later hb) (fun HS => ?_)
  clear hK K
  have HB4 : Hid (Below w.heap.size w q4) := bchain HB3.out hb
  clear hb HB3 HA3 CS2
  try simp only [Act.put, List.getElem_toArray, List.getElem_cons_succ, List.getElem_cons_zero, List.setIfInBounds_toArray, List.set_cons_zero, List.set_cons_succ]
  refine wpAnyH_take (i := 13) (v := ?v10) rfl (by kernel_rfl) (by kernel_rfl) (by kernel_rfl) (fun _ _ _ h => h) (Or.inl ⟨by kernel_rfl, ?h10⟩) HS ?r10
  case h10 => (rintro w ⟨y0, y1, z0, z1⟩; go_simp) <;> with_reducible rfl
  try simp only [Act.put, List.getElem_toArray, List.getElem_cons_succ, List.getElem_cons_zero, List.setIfInBounds_toArray, List.set_cons_zero, List.set_cons_succ]
  refine wpAnyH_take (i := 14) (v := ?v11) rfl (by kernel_rfl) (by kernel_rfl) (by kernel_rfl) (fun _ _ _ h => h) (Or.inl ⟨by kernel_rfl, ?h11⟩) HS ?r11
  case h11 => (rintro w ⟨y0, y1, z0, z1⟩; go_simp) <;> with_reducible rfl
  try simp only [Act.put, List.getElem_toArray, List.getElem_cons_succ, List.getElem_cons_zero, List.setIfInBounds_toArray, List.set_cons_zero, List.set_cons_succ]
  refine wpAnyH_done (by kernel_rfl) ?_ _
  clear HS
  go_wp2
  go_ret
  exact ⟨rfl, HB4.out⟩
theorem one_ar10 (w : World) (x : Int) (x0 : -9223372036854775808 ≤ x) (x1 : x ≤ 9223372036854775807) (t : TypeId) : Ar (w.alloc (.cells #[.int .i64 x] t)) (.slice (some ⟨w.heap.size, 0, none⟩) 1 1) 1 (fun _ => x) :=
  ⟨_, 1, w.heap.size, 0, rfl, Nat.le_refl _, by unfold maxLen; omega, fun _ => rfl, fun k hk => by
    obtain rfl : k = 0 := by omega
    exact ⟨by simp [go_sem], x0, x1⟩⟩
set_option maxRecDepth 100000 in
set_option maxHeartbeats 8000000 in
theorem awake10_any (w : World) : Calls Try.prog 8 #[] w fun e w' => e = .returned (.bool true) ∧ Below w.heap.size w w' := by
  have CB : Hid (∀ (W : World) (va : Value), Ar W va 1 (fun _ => 42949672960) → Calls Try.prog 16 #[va] W fun e w' => ∃ (a1 a2 : Option Addr) (c1 c2 : Nat), e = .returned (.tuple #[.agg #[.slice a1 1 c1, .slice a2 1 c2], .int .i64 0]) ∧ Bg10 W (.slice a1 1 c1) (.slice a2 1 c2) 1 (fun _ => 42949672960) w') := fun W va h => begin10_ok va 1 _ (by omega) W h
  have hv := out_vals
  have hru : ruO 4294967296 2147483648 := ⟨by omega, by omega, by omega⟩
  have CS1 : Hid (∀ (W : World) (vP vB vG : Value), Ar W vP 1 (fun _ => 42949672960) → Ar W vB 1 (fun _ => 0) → Ar W vG 1 (fun _ => 17179869184) → Calls Try.prog 10 #[.pointer none, .int .i64 4294967296, .int .i64 2147483648, .agg #[vP, vB], vG] W fun e w' => ∃ (a1 a2 : Option Addr) (k1 k2 : Nat), e = .returned (.tuple #[.agg #[.slice a1 1 k1, .slice a2 1 k2], .int .i64 0]) ∧ (Ar w' (.slice a1 1 k1) 1 (fun _ => 17179869184) ∧ Ar w' (.slice a2 1 k2) 1 (fun _ => 17179869184) ∧ Ow W.heap.size (.slice a1 1 k1) ∧ Ow W.heap.size (.slice a2 1 k2)) ∧ Below W.heap.size W w') := by
    intro W vP vB vG h1 h2 h3
    refine (step10_nil 4294967296 2147483648 hru (by omega) vP vB vG 1 _ _ _ (by omega) W h1 h2 h3).mono ?_
    rintro e w' ⟨a1, a2, k1, k2, he, ⟨q1, q2, q3, q4⟩, hb⟩
    simp only [hv.1, hv.2.1] at q1 q2
    exact ⟨a1, a2, k1, k2, he, ⟨q1, q2, q3, q4⟩, hb⟩
  have CS2 : Hid (∀ (W : World) (vP vB vG : Value), Ar W vP 1 (fun _ => 17179869184) → Ar W vB 1 (fun _ => 17179869184) → Ar W vG 1 (fun _ => 17179869184) → Calls Try.prog 10 #[.pointer none, .int .i64 4294967296, .int .i64 2147483648, .agg #[vP, vB], vG] W fun e w' => ∃ (a1 a2 : Option Addr) (k1 k2 : Nat), e = .returned (.tuple #[.agg #[.slice a1 1 k1, .slice a2 1 k2], .int .i64 0]) ∧ (Ar w' (.slice a1 1 k1) 1 (fun _ => -12884901888) ∧ Ar w' (.slice a2 1 k2) 1 (fun _ => 25769803776) ∧ Ow W.heap.size (.slice a1 1 k1) ∧ Ow W.heap.size (.slice a2 1 k2)) ∧ Below W.heap.size W w') := by
    intro W vP vB vG h1 h2 h3
    refine (step10_nil 4294967296 2147483648 hru (by omega) vP vB vG 1 _ _ _ (by omega) W h1 h2 h3).mono ?_
    rintro e w' ⟨a1, a2, k1, k2, he, ⟨q1, q2, q3, q4⟩, hb⟩
    simp only [hv.2.2.1, hv.2.2.2] at q1 q2
    exact ⟨a1, a2, k1, k2, he, ⟨q1, q2, q3, q4⟩, hb⟩
  clear hv hru
  go_enter Try.func8, Try.ntmps8
  go_wp2_with fail
  refine (CB.out _ _ (one_ar10 w 42949672960 (by omega) (by omega) _)).mono ?_
  rintro e w2 ⟨a1, a2, c1, c2, rfl, hG1, hG2, -, hb⟩
  obtain ⟨w3, hw3⟩ : ∃ w3, w3 = w2.alloc (.cells #[.slice a1 1 c1, .slice a2 1 c2] 27) := ⟨_, rfl⟩
  have hb2 : Below w.heap.size w w2 := bchain (bel1 _ _) hb
  have HB3 : Hid (Below w.heap.size w w3) := by rw [hw3]; exact bchain hb2 (bel1 _ _)
  have HA3 : Hid (Ar w3 (.slice a1 1 c1) 1 (fun _ => 42949672960) ∧ Ar w3 (.slice a2 1 c2) 1 (fun _ => 0)) := by rw [hw3]; exact ⟨hG1.later (bel1 _ _), hG2.later (bel1 _ _)⟩
  have HY3 : Y2 w2.heap.size (.slice a1 1 c1) (.slice a2 1 c2) w3 := by rw [hw3]; exact Y2.new _ _ _ _
  have hwb : w.heap.size ≤ w2.heap.size := hb2.size
  clear hG1 hG2 hb hb2 CB
  go_upto_region 2 with fail
  rw [← hw3]
  clear hw3
  generalize w2.heap.size = bo at *
  have y0 := HY3.c0
  have y1 := HY3.c1
  go_wp2_with fail
  refine (CS1.out _ _ _ _ (HA3.out.1.later (bel1 _ _)) (HA3.out.2.later (bel1 _ _)) (one_ar10 w3 17179869184 (by omega) (by omega) _)).mono ?_
  rintro e w5 ⟨a3, a4, c3, c4, rfl, ⟨hP, hB, hO1, hO2⟩, hb⟩
  have hlt := HY3.lt
  rw [World.size_alloc] at hO1 hO2
  have HB5 : Hid (Below w.heap.size w w5) := bchain HB3.out (bchain (bel1 _ _) hb)
  have HY5 : Y2 bo (.slice a1 1 c1) (.slice a2 1 c2) w5 := HY3.later (bchain (bel1 _ _) hb)
  have HA5 : Hid (Ar w5 (.slice a3 1 c3) 1 (fun _ => 17179869184) ∧ Ar w5 (.slice a4 1 c4) 1 (fun _ => 17179869184) ∧ Nb (.slice a3 1 c3) bo ∧ Nb (.slice a4 1 c4) bo) := ⟨hP, hB, ow_apart hO1 (by omega), ow_apart hO2 (by omega)⟩
  clear hP hB hO1 hO2 hb HB3 HA3 HY3 y0 y1 CS1 hlt
  have y0 := HY5.c0
  have y1 := HY5.c1
  have f0 := HY5.f0
  have f1 := HY5.f1
  obtain ⟨w6, hw6⟩ : ∃ w6, w6 = (w5.setCell ⟨bo, 0, none⟩ (.slice a3 1 c3)).setCell ⟨bo, 1, none⟩ (.slice a4 1 c4) := ⟨_, rfl⟩
  have HB6 : Hid (Below w.heap.size w w6) := by rw [hw6]; exact (HB5.out.setCell (by dsimp only; omega) _).setCell (by dsimp only; omega) _
  have HY6 : Hid (Y2 bo (.slice a3 1 c3) (.slice a4 1 c4) w6) := by rw [hw6]; exact (HY5.set0 _).set1 _
  have HA6 : Hid (Ar w6 (.slice a3 1 c3) 1 (fun _ => 17179869184) ∧ Ar w6 (.slice a4 1 c4) 1 (fun _ => 17179869184)) := by rw [hw6]; exact ⟨(HA5.out.1.set10 _ _ HA5.out.2.2.1).set10 _ _ HA5.out.2.2.1, (HA5.out.2.1.set10 _ _ HA5.out.2.2.2).set10 _ _ HA5.out.2.2.2⟩
  clear HY5
  go_upto_region 3 with fail
  rw [← hw6]
  clear hw6 HB5 HA5 y0 y1 f0 f1
  have y0 := HY6.out.c0
  have y1 := HY6.out.c1
  go_wp2_with fail
  refine (CS2.out _ _ _ _ (HA6.out.1.later (bel1 _ _)) (HA6.out.2.later (bel1 _ _)) (one_ar10 w6 17179869184 (by omega) (by omega) _)).mono ?_
  rintro e w7 ⟨a5, a6, c5, c6, rfl, ⟨hP, hB, hO1, hO2⟩, hb⟩
  have hlt := HY6.out.lt
  rw [World.size_alloc] at hO1 hO2
  have HB7 : Hid (Below w.heap.size w w7) := bchain HB6.out (bchain (bel1 _ _) hb)
  have HY7 : Y2 bo (.slice a3 1 c3) (.slice a4 1 c4) w7 := HY6.out.later (bchain (bel1 _ _) hb)
  have HA7 : Hid (Ar w7 (.slice a5 1 c5) 1 (fun _ => -12884901888) ∧ Ar w7 (.slice a6 1 c6) 1 (fun _ => 25769803776) ∧ Nb (.slice a5 1 c5) bo ∧ Nb (.slice a6 1 c6) bo) := ⟨hP, hB, ow_apart hO1 (by omega), ow_apart hO2 (by omega)⟩
  clear hP hB hO1 hO2 hb HB6 HA6 HY6 y0 y1 CS2 hlt
  have y0 := HY7.c0
  have y1 := HY7.c1
  have f0 := HY7.f0
  have f1 := HY7.f1
  obtain ⟨w8, hw8⟩ : ∃ w8, w8 = (w7.setCell ⟨bo, 0, none⟩ (.slice a5 1 c5)).setCell ⟨bo, 1, none⟩ (.slice a6 1 c6) := ⟨_, rfl⟩
  have HB8 : Hid (Below w.heap.size w w8) := by rw [hw8]; exact (HB7.out.setCell (by dsimp only; omega) _).setCell (by dsimp only; omega) _
  have HY8 : Hid (Y2 bo (.slice a5 1 c5) (.slice a6 1 c6) w8) := by rw [hw8]; exact (HY7.set0 _).set1 _
  have HA8 : Hid (Ar w8 (.slice a5 1 c5) 1 (fun _ => -12884901888) ∧ Ar w8 (.slice a6 1 c6) 1 (fun _ => 25769803776)) := by rw [hw8]; exact ⟨(HA7.out.1.set10 _ _ HA7.out.2.2.1).set10 _ _ HA7.out.2.2.1, (HA7.out.2.1.set10 _ _ HA7.out.2.2.2).set10 _ _ HA7.out.2.2.2⟩
  clear HY7
  go_upto_region 4 with fail
  rw [← hw8]
  clear hw8 HB7 HA7 y0 y1 f0 f1
  have y0 := HY8.out.c0
  have y1 := HY8.out.c1
  obtain ⟨b5, o5, k5, e5, p5, -⟩ := ar_spot10 HA8.out.1 0 (by omega)
  obtain ⟨b6, o6, k6, e6, p6, -⟩ := ar_spot10 HA8.out.2 0 (by omega)
  cases e5
  cases e6
  rw [Nat.add_zero] at p5 p6
  go_wp2
  go_ret
  exact ⟨rfl, HB8.out⟩
end Go.Proofs.Ytfcneciknldohaa
