/-
  The laws' helpers of layer 9 (regattalaw09): plain, state, few.
-/
import Derived.Test.YtcdehbhdloaieaaGreatDoorARefC
import Derived.Deep.RegionHeld3
set_option linter.unusedVariables false
set_option linter.unusedSimpArgs false
namespace Go.Proofs.YtcdehbhdloaieaaGreatDoor
open Go.RowKit

set_option maxRecDepth 100000 in
set_option maxHeartbeats 4000000 in
theorem plain9_any (va : Value) (n : Nat) (f : Nat → Int) (hn : n ≤ 70000) (w : World) (hA : Ar w va n f) :
    Calls Tryz.prog 13 #[va] w fun e w' => ∃ v', e = .returned v' ∧ Ar w' v' n f ∧ Ow w.heap.size v' ∧ Below w.heap.size w w' := by
  obtain ⟨i0, hi, hz0, hz1, hz2⟩ := info_parts dinfo_i64
  obtain ⟨adr, cap, b, o, rfl, k1, k2, k3, k4⟩ := hA
  unfold maxLen at k2
  have HA : Hid (∀ k, k < n → w.cell? ⟨b, o + k, none⟩ = some (.int .i64 (f k)) ∧ -9223372036854775808 ≤ f k ∧ f k ≤ 9223372036854775807) := k4
  have HK : Hid (0 < n → adr = some ⟨b, o, none⟩) := k3
  clear k3 k4
  go_enter Tryz.func13, Tryz.ntmps13
  go_wp2_with (at_make; refine wpList_make_own _ rfl _ _ 52 rfl w.heap.size 2 i0 (.int .i64 0) 1 Tryz.underlying52 hi hz0 hz1 .i64 .i64 (n : Int) n rfl rfl rfl (by rw [hz2]; omega) (by unfold maxLen; omega) (Nat.le_refl _) ?_; intro w1 hown hgrow)
  have hW1 : Below w.heap.size w w1 := (Below.refl _ w).grown hgrow (Nat.le_refl _) (fun k hk => by cases hk)
  clear hgrow
  go_wp2
  go_loopw [3, 11] (fun s3 s11 wr => ∃ j : Nat, j ≤ n ∧ s3 = .slice (some ⟨w.heap.size, 0, none⟩) j n ∧ s11 = .int .i64 (j : Int) ∧ wr.ownsRow w.heap.size 2 1 (.slice (some ⟨w.heap.size, 0, none⟩) j n) j (il f j) ∧ Below w.heap.size w wr) (fun _ s11 _ => n - (intOf s11).toNat)
  case atStart => exact ⟨0, by omega, rfl, rfl, hown, hW1⟩
  case round =>
    clear hown hW1
    obtain ⟨j, hj, rfl, rfl, hown, hW⟩ := hrel
    by_cases hlt : j < n
    · have hjI : (j : Int) < (n : Int) := by omega
      have ea := HK.out (by omega)
      subst ea
      obtain ⟨ca, a0, a1⟩ := HA.out j hlt
      have cA : wr.cell? ⟨b, o + j, none⟩ = some (.int .i64 (f j)) := (hW.cell (World.block_lt_of_cell? _ _ ca)).trans ca
      have bA := World.block_lt_of_cell? _ _ ca
      clear ca
      go_wp2_with (at_builtin; refine wpList_append_fits _ rfl _ _ 52 rfl w.heap.size 2 i0 1 Tryz.underlying52 hi hz1 w.heap.size j n _ rfl (hown.alloc _) ⟨wr.heap.size, 0, none⟩ 1 1 [.int .i64 (f j)] rfl rfl (cell_one_new _ _ _) (ints_oneCell .i64 [f j]) (by omega) ?_; intro w2 hown' hgrow)
      have hown3 : w2.ownsRow w.heap.size 2 1 (.slice (some ⟨w.heap.size, 0, none⟩) (j + 1) n) (j + 1) (il f (j + 1)) := by rw [il_succ]; exact hown'
      have hW3 : Below w.heap.size w w2 := dbelow_grown' hown hW hgrow rfl
      clear hown' hgrow hown hW
      go_wp2
      go_roundw
      case rel => exact ⟨j + 1, by omega, rfl, by go_num, hown3, hW3⟩
      case measure => simp [intOf]; omega
    · obtain rfl : j = n := by omega
      have HR : Hid (Ar wr (.slice (some ⟨w.heap.size, 0, none⟩) j j) j f ∧ Ow w.heap.size (.slice (some ⟨w.heap.size, 0, none⟩) j j)) := ar_of_own hown (fun k hk => (HA.out k hk).2)
      have HW : Hid (Below w.heap.size w wr) := hW
      clear hown hW
      go_wp2
      go_ret
      exact ⟨_, rfl, HR.out.1, HR.out.2, HW.out⟩
theorem Ar.set9 {w : World} {v : Value} {n : Nat} {f : Nat → Int} (h : Ar w v n f) (a : Addr) (u : Value) (hn : Nb v a.block) : Ar (w.setCell a u) v n f := by
  obtain ⟨adr, cap, b, o, e, h1, h2, h3, h4⟩ := h
  refine ⟨adr, cap, b, o, e, h1, h2, h3, fun k hk => ⟨cell_set ?_ (h4 k hk).1, (h4 k hk).2⟩⟩
  have e2 := h3 (by omega)
  subst e2
  exact fun h' => hn ⟨b, o, none⟩ n cap e (by omega) h'.symm
set_option maxRecDepth 100000 in
set_option maxHeartbeats 4000000 in
theorem state9_any (vM vV : Value) (nM nV : Nat) (M V : Nat → Int) (T : Int) (h1 : nM ≤ 70000) (h2 : nV ≤ 70000) (w : World) (hM : Ar w vM nM M) (hV : Ar w vV nV V) :
    Calls Tryz.prog 12 #[.agg #[vM, vV, .int .i64 T]] w fun e w' => ∃ uM uV, e = .returned (.agg #[uM, uV, .int .i64 T]) ∧ Ar w' uM nM M ∧ Ar w' uV nV V ∧ Ow w.heap.size uM ∧ Ow w.heap.size uV ∧ Below w.heap.size w w' := by
  have CM : Hid (∀ W : World, Below w.heap.size w W → Calls Tryz.prog 13 #[vM] W fun e w' => ∃ v', e = .returned v' ∧ Ar w' v' nM M ∧ Ow W.heap.size v' ∧ Below W.heap.size W w') := fun W hb => plain9_any vM nM M h1 W (hM.later hb)
  have CV : Hid (∀ W : World, Below w.heap.size w W → Calls Tryz.prog 13 #[vV] W fun e w' => ∃ v', e = .returned v' ∧ Ar w' v' nV V ∧ Ow W.heap.size v' ∧ Below W.heap.size W w') := fun W hb => plain9_any vV nV V h2 W (hV.later hb)
  obtain ⟨adM, caM, bM, oM, rfl, -, -, -, -⟩ := hM
  obtain ⟨adV, caV, bV, oV, rfl, -, -, -, -⟩ := hV
  obtain ⟨w1, hw1⟩ : ∃ w1, w1 = (w.alloc (.cells #[.slice adM nM caM, .slice adV nV caV, .int .i64 T] 30)).alloc (.cells #[.slice none 0 0, .slice none 0 0, .int .i64 0] 54) := ⟨_, rfl⟩
  have HB1 : Hid (Below w.heap.size w w1) := by rw [hw1]; exact bel2 _ _ _
  have HX := (Y3.new w (.slice adM nM caM) (.slice adV nV caV) (.int .i64 T) 30).later (bel1 _ (.cells #[.slice none 0 0, .slice none 0 0, .int .i64 0] 54))
  have HY := Y3.new (w.alloc (.cells #[.slice adM nM caM, .slice adV nV caV, .int .i64 T] 30)) (.slice none 0 0) (.slice none 0 0) (.int .i64 0) 54
  rw [World.size_alloc] at HY
  rw [← hw1] at HX HY
  go_enter Tryz.func12, Tryz.ntmps12
  go_upto_region 1 with fail
  rw [← hw1]
  clear hw1
  obtain ⟨g, hg⟩ : ∃ g, w.heap.size + 1 = g := ⟨_, rfl⟩
  rw [hg] at HY
  try simp only [hg]
  have hgw : w.heap.size < g := by omega
  clear hg
  have hbD : Below w1.heap.size w1 w1.drew := (Below.refl _ _).drew
  have HB2 : Hid (Below w.heap.size w w1.drew) := bchain HB1.out hbD
  have HY2 : Hid (Y3 g (.slice none 0 0) (.slice none 0 0) (.int .i64 0) w1.drew) := HY.later hbD
  refine wp_region_held_drew (S := fun w' => w'.cell? ⟨w.heap.size, 0, none⟩ = some (.slice adM nM caM) ∧ w'.cell? ⟨w.heap.size, 1, none⟩ = some (.slice adV nV caV) ∧ w'.cell? ⟨w.heap.size, 2, none⟩ = some (.int .i64 T)) (by kernel_rfl) ⟨cell_drew HX.c0, cell_drew HX.c1, cell_drew HX.c2⟩ (fun HS => ?_)
  clear hbD HX HY HB1
  generalize w1.drew = w2 at *
  refine wpAnyH_take (i := 0) (v := ?v1) rfl (by kernel_rfl) (by kernel_rfl) (by kernel_rfl) (fun _ _ _ h => h) (Or.inl ⟨by kernel_rfl, ?h1⟩) HS ?r1
  case h1 => (rintro w ⟨s0, s1, s2⟩; go_simp) <;> with_reducible rfl
  try simp only [Act.put, List.getElem_toArray, List.getElem_cons_succ, List.getElem_cons_zero, List.setIfInBounds_toArray, List.set_cons_zero, List.set_cons_succ]
  refine wpAnyH_take (i := 1) (v := ?v2) rfl (by kernel_rfl) (by kernel_rfl) (by kernel_rfl) (fun _ _ _ h => h) (Or.inl ⟨by kernel_rfl, ?h2⟩) HS ?r2
  case h2 => (rintro w ⟨s0, s1, s2⟩; go_simp) <;> with_reducible rfl
  try simp only [Act.put, List.getElem_toArray, List.getElem_cons_succ, List.getElem_cons_zero, List.setIfInBounds_toArray, List.set_cons_zero, List.set_cons_succ]
  refine wpAnyH_take (i := 3) (v := ?v3) rfl (by kernel_rfl) (by kernel_rfl) (by kernel_rfl) (fun _ _ _ h => h) (Or.inl ⟨by kernel_rfl, ?h3⟩) HS ?r3
  case h3 => (rintro w ⟨s0, s1, s2⟩; go_simp) <;> with_reducible rfl
  try simp only [Act.put, List.getElem_toArray, List.getElem_cons_succ, List.getElem_cons_zero, List.setIfInBounds_toArray, List.set_cons_zero, List.set_cons_succ]
  refine wpAnyH_take (i := 4) (v := ?v4) rfl (by kernel_rfl) (by kernel_rfl) (by kernel_rfl) (fun _ _ _ h => h) (Or.inl ⟨by kernel_rfl, ?h4⟩) HS ?r4
  case h4 => (rintro w ⟨s0, s1, s2⟩; go_simp) <;> with_reducible rfl
  try simp only [Act.put, List.getElem_toArray, List.getElem_cons_succ, List.getElem_cons_zero, List.setIfInBounds_toArray, List.set_cons_zero, List.set_cons_succ]
  refine wpAnyH_take (i := 6) (v := ?v5) rfl (by kernel_rfl) (by kernel_rfl) (by kernel_rfl) (fun _ _ _ h => h) (Or.inl ⟨by kernel_rfl, ?h5⟩) HS ?r5
  case h5 => (rintro w ⟨s0, s1, s2⟩; go_simp) <;> with_reducible rfl
  try simp only [Act.put, List.getElem_toArray, List.getElem_cons_succ, List.getElem_cons_zero, List.setIfInBounds_toArray, List.set_cons_zero, List.set_cons_succ]
  refine wpAnyH_take (i := 7) (v := ?v6) rfl (by kernel_rfl) (by kernel_rfl) (by kernel_rfl) (fun _ _ _ h => h) (Or.inl ⟨by kernel_rfl, ?h6⟩) HS ?r6
  case h6 => (rintro w ⟨s0, s1, s2⟩; go_simp) <;> with_reducible rfl
  try simp only [Act.put, List.getElem_toArray, List.getElem_cons_succ, List.getElem_cons_zero, List.setIfInBounds_toArray, List.set_cons_zero, List.set_cons_succ]
  refine wpAnyH_ready (rs := [2]) (by kernel_rfl) (by simp) ?_
  refine AllReadyH.cons rfl (fun K hK => ?_) AllReadyH.nil
  go_simp
  refine (CM.out _ HB2.out).mono ?_
  rintro e w3 ⟨v3, rfl, hA3, hO3, hb⟩
  refine hK.out _ _ ⟨cell_later hb HS.1, cell_later hb HS.2.1, cell_later hb HS.2.2⟩ (fun HS => ?_)
  clear hK K
  have HB3 : Hid (Below w.heap.size w w3) := bchain HB2.out hb
  have HY3' : Hid (Y3 g (.slice none 0 0) (.slice none 0 0) (.int .i64 0) w3) := HY2.out.later hb
  have HN3 : Hid (Nb v3 g ∧ Ow w.heap.size v3) := ⟨hO3.nb HY2.out.lt, fun a n c e h => Nat.le_trans HB2.out.size (hO3 a n c e h)⟩
  have HA3 : Hid (Ar w3 v3 nM M) := hA3
  clear hb HB2 HY2 hO3 hA3
  refine wpAnyH_ready (rs := [5]) (by kernel_rfl) (by simp) ?_
  refine AllReadyH.cons rfl (fun K hK => ?_) AllReadyH.nil
  go_simp
  refine (CV.out _ HB3.out).mono ?_
  rintro e w4 ⟨v4, rfl, hA4, hO4, hb⟩
  refine hK.out _ _ ⟨cell_later hb HS.1, cell_later hb HS.2.1, cell_later hb HS.2.2⟩ (fun HS => ?_)
  clear hK K
  have HB4 : Hid (Below w.heap.size w w4) := bchain HB3.out hb
  have HY4 : Y3 g (.slice none 0 0) (.slice none 0 0) (.int .i64 0) w4 := HY3'.out.later hb
  have HN4 : Hid (Nb v4 g ∧ Ow w.heap.size v4) := ⟨hO4.nb HY3'.out.lt, fun a n c e h => Nat.le_trans HB3.out.size (hO4 a n c e h)⟩
  have HA4 : Hid (Ar w4 v3 nM M ∧ Ar w4 v4 nV V) := ⟨HA3.out.later hb, hA4⟩
  obtain ⟨ad3, ca3, b3, o3, rfl, -, -, -, -⟩ := id HA3.out
  obtain ⟨ad4, ca4, b4, o4, rfl, -, -, -, -⟩ := id hA4
  clear hb HB3 HY3' hO4 hA4 HA3
  refine wpAnyH_take (i := 8) (v := ?v7) rfl (by kernel_rfl) (by kernel_rfl) (by kernel_rfl) (fun _ _ _ h => h) (Or.inl ⟨by kernel_rfl, ?h7⟩) HS ?r7
  case h7 => (rintro w ⟨s0, s1, s2⟩; go_simp) <;> with_reducible rfl
  try simp only [Act.put, List.getElem_toArray, List.getElem_cons_succ, List.getElem_cons_zero, List.setIfInBounds_toArray, List.set_cons_zero, List.set_cons_succ]
  have y0 := HY4.c0
  have y1 := HY4.c1
  have y2 := HY4.c2
  have f0 := HY4.f0
  have f1 := HY4.f1
  have f2 := HY4.f2
  refine wpAnyH_ready (rs := [9]) (by kernel_rfl) (by simp) ?_
  refine AllReadyH.cons rfl (fun K hK => ?_) AllReadyH.nil
  go_simp
  refine hK.out _ _ ⟨cell_set (by dsimp only; omega) (cell_set (by dsimp only; omega) (cell_set (by dsimp only; omega) HS.1)), cell_set (by dsimp only; omega) (cell_set (by dsimp only; omega) (cell_set (by dsimp only; omega) HS.2.1)), cell_set (by dsimp only; omega) (cell_set (by dsimp only; omega) (cell_set (by dsimp only; omega) HS.2.2))⟩ (fun HS => ?_)
  clear hK K
  refine wpAnyH_done (by kernel_rfl) ?_ _
  clear HS
  have q : ∀ (v : Value) (n : Nat) (f : Nat → Int), Ar w4 v n f → Nb v g → Ar (((w4.setCell ⟨g, 0, none⟩ (.slice ad3 nM ca3)).setCell ⟨g, 1, none⟩ (.slice ad4 nV ca4)).setCell ⟨g, 2, none⟩ (.int .i64 T)) v n f := fun v n f h hn => ((h.set9 _ _ hn).set9 _ _ hn).set9 _ _ hn
  have HQ : Hid (Ar (((w4.setCell ⟨g, 0, none⟩ (.slice ad3 nM ca3)).setCell ⟨g, 1, none⟩ (.slice ad4 nV ca4)).setCell ⟨g, 2, none⟩ (.int .i64 T)) (.slice ad3 nM ca3) nM M ∧ Ar (((w4.setCell ⟨g, 0, none⟩ (.slice ad3 nM ca3)).setCell ⟨g, 1, none⟩ (.slice ad4 nV ca4)).setCell ⟨g, 2, none⟩ (.int .i64 T)) (.slice ad4 nV ca4) nV V ∧ Below w.heap.size w (((w4.setCell ⟨g, 0, none⟩ (.slice ad3 nM ca3)).setCell ⟨g, 1, none⟩ (.slice ad4 nV ca4)).setCell ⟨g, 2, none⟩ (.int .i64 T))) := ⟨q _ _ _ HA4.out.1 HN3.out.1, q _ _ _ HA4.out.2 HN4.out.1, ((HB4.out.setCell (by dsimp only; omega) _).setCell (by dsimp only; omega) _).setCell (by dsimp only; omega) _⟩
  clear q
  go_wp2
  exact bodyPost_ret (v := .agg #[.slice ad3 nM ca3, .slice ad4 nV ca4, .int .i64 T]) (by simp [results, Tryz.results12, go_sem, y0, y1, y2, f0, f1, f2]) rfl ⟨_, _, rfl, HQ.out.1, HQ.out.2.1, HN3.out.2, HN4.out.2, HQ.out.2.2⟩
theorem run_max4 {P : Program} (w : World) (ts : Array TypeId) (t : TypeId) (a b c d : Int) : (Builtin.max_ ts t #[.int .i64 a, .int .i64 b, .int .i64 c, .int .i64 d]).run P w = .ok (.int .i64 (max (max (max a b) c) d)) w := by
  have e : ∀ x y : Int, (if y > x then y else x) = max x y := fun x y => by
    rw [Int.max_def]
    split <;> split <;> omega
  simp [Builtin.max_, Builtin.max2, e]
attribute [local go_sem high] run_max4
/-- May a play go through with it? -/
def fw9 (nM nV nP nG : Nat) (T : Int) : Prop := (nM ≤ 100 ∧ nV ≤ 100 ∧ nP ≤ 100 ∧ nG ≤ 100) ∧ (T ≤ 2000 ∨ 1048576 ≤ T)
structure Q5w (b : Nat) (x0 x1 x2 x3 x4 : Value) (w : World) : Prop where
  c0 : w.cell? ⟨b, 0, none⟩ = some x0
  c1 : w.cell? ⟨b, 1, none⟩ = some x1
  c2 : w.cell? ⟨b, 2, none⟩ = some x2
  c3 : w.cell? ⟨b, 3, none⟩ = some x3
  c4 : w.cell? ⟨b, 4, none⟩ = some x4
set_option maxRecDepth 100000 in
set_option maxHeartbeats 4000000 in
theorem few9_any (aM aV aP aG : Option Addr) (nM nV nP nG cM cV cP cG : Nat) (T : Int) (w : World) :
    Calls Tryz.prog 6 #[.agg #[.slice aM nM cM, .slice aV nV cV, .int .i64 T, .slice aP nP cP, .slice aG nG cG]] w fun e w' => Tel e (fw9 nM nV nP nG T) ∧ Below w.heap.size w w' := by
  obtain ⟨mx, hmx⟩ : ∃ mx : Int, max (max (max (nM : Int) (nV : Int)) (nP : Int)) (nG : Int) = mx := ⟨_, rfl⟩
  have HF : Hid (fw9 nM nV nP nG T ↔ mx ≤ 100 ∧ (T ≤ 2000 ∨ 1048576 ≤ T)) := by
    show _ ↔ _
    unfold fw9
    constructor
    · rintro ⟨⟨a, b, c, d⟩, e⟩; exact ⟨by omega, e⟩
    · rintro ⟨a, e⟩; exact ⟨⟨by omega, by omega, by omega, by omega⟩, e⟩
  obtain ⟨w1, hw1⟩ : ∃ w1, w1 = w.alloc (.cells #[.slice aM nM cM, .slice aV nV cV, .int .i64 T, .slice aP nP cP, .slice aG nG cG] 32) := ⟨_, rfl⟩
  have HB1 : Hid (Below w.heap.size w w1) := by rw [hw1]; exact bel1 _ _
  have HQ : Q5w w.heap.size (.slice aM nM cM) (.slice aV nV cV) (.int .i64 T) (.slice aP nP cP) (.slice aG nG cG) w1 := by rw [hw1]; exact ⟨by simp [go_sem], by simp [go_sem], by simp [go_sem], by simp [go_sem], by simp [go_sem]⟩
  go_enter Tryz.func6, Tryz.ntmps6
  go_upto_region 1 with fail
  rw [← hw1]
  clear hw1
  have x0 := HQ.c0
  have x1 := HQ.c1
  have x2 := HQ.c2
  have x3 := HQ.c3
  have x4 := HQ.c4
  by_cases q1 : mx ≤ 100
  · by_cases q2 : T ≤ 2000
    · go_wp2
      go_ret
      exact ⟨tel_yes (HF.out.2 ⟨q1, Or.inl q2⟩), HB1.out⟩
    · by_cases q3 : 1048576 ≤ T
      · go_wp2
        go_ret
        exact ⟨tel_yes (HF.out.2 ⟨q1, Or.inr q3⟩), HB1.out⟩
      · go_wp2
        go_ret
        exact ⟨tel_no (fun h => by have := HF.out.1 h; omega), HB1.out⟩
  · go_wp2
    go_ret
    exact ⟨tel_no (fun h => by have := HF.out.1 h; omega), HB1.out⟩
end Go.Proofs.YtcdehbhdloaieaaGreatDoor
