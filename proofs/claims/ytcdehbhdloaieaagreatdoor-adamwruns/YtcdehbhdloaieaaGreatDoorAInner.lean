/-
  The laws' own inner (regattalaw09.inner).
-/
import Derived.Test.YtcdehbhdloaieaaGreatDoorAHelp
set_option linter.unusedVariables false
set_option linter.unusedSimpArgs false
namespace Go.Proofs.YtcdehbhdloaieaaGreatDoor
open Go.RowKit

theorem cell_two_new8 (w : World) (x y : Value) (t : TypeId) : ∀ j q, [x, y][j]? = some q → (w.alloc (.cells #[x, y] t)).cell? ((⟨w.heap.size, 0, none⟩ : Addr).add j) = some q := by
  intro j q h
  rcases j with _ | _ | j
  all_goals simp at h
  all_goals subst h
  all_goals simp [go_sem, Addr.add]
theorem dinfo_rdr : (Tryz.prog.info? 80).map (fun i => (i.zero, i.size, i.bytes)) = some (some (.agg #[.int .i64 0, .int .i64 0]), 2, 16) := by kernel_rfl
/-- The cells of the first drops. -/
def dlL (at' fa : Nat → Int) : Nat → List Value
  | 0 => []
  | k + 1 => dlL at' fa k ++ [.int .i64 (at' k), .int .i64 (fa k)]
theorem dlL_len (at' fa : Nat → Int) (k : Nat) : (dlL at' fa k).length = k * 2 := by
  induction k with
  | zero => rfl
  | succ k ih => show (dlL at' fa k ++ _).length = _; rw [List.length_append, ih]; simp; omega
theorem dlL_get (at' fa : Nat → Int) (n k : Nat) (hk : k < n) : (dlL at' fa n)[k * 2]? = some (.int .i64 (at' k)) ∧ (dlL at' fa n)[k * 2 + 1]? = some (.int .i64 (fa k)) := by
  induction n with
  | zero => omega
  | succ n ih =>
    show (dlL at' fa n ++ _)[k * 2]? = _ ∧ (dlL at' fa n ++ _)[k * 2 + 1]? = _
    have hl := dlL_len at' fa n
    rcases Nat.lt_or_ge k n with h | h
    · obtain ⟨h1, h2⟩ := ih h
      refine ⟨?_, ?_⟩
      · rw [List.getElem?_append_left (by omega)]; exact h1
      · rw [List.getElem?_append_left (by omega)]; exact h2
    · obtain rfl : k = n := by omega
      refine ⟨?_, ?_⟩
      · rw [List.getElem?_append_right (by omega), hl, Nat.sub_self]; rfl
      · rw [List.getElem?_append_right (by omega), hl, show k * 2 + 1 - k * 2 = 1 by omega]; rfl
theorem drp_of_own {w : World} {base : Nat} {v : Value} {n : Nat} {at' fa : Nat → Int} (h : w.ownsRow base 80 2 v n (dlL at' fa n)) (hr : ∀ k, k < n → (-9223372036854775808 ≤ at' k ∧ at' k ≤ 9223372036854775807) ∧ -9223372036854775808 ≤ fa k ∧ fa k ≤ 9223372036854775807) : Drp w v n at' fa := by
  rcases id h.2 with ⟨hv, h0⟩ | ⟨g, cL, cur, rfl, hg, hh, hc1, hc2, hsz, htk⟩
  · subst h0
    exact ⟨none, 0, 0, 0, hv, Nat.le_refl _, Nat.zero_le _, fun h => by omega, fun k hk => by omega⟩
  · have hl := dlL_len at' fa n
    refine ⟨_, cL, g, 0, rfl, hc1, hc2, fun _ => rfl, fun k hk => ⟨?_, hr k hk⟩⟩
    obtain ⟨a1, a2⟩ := dlL_get at' fa n k hk
    rw [Nat.zero_add]
    exact ⟨(h.cellAt _ (by omega)).trans a1, (h.cellAt _ (by omega)).trans a2⟩
/-- Eight cells of a struct that may be written. -/
structure Z8 (b : Nat) (x0 x1 x2 x3 x4 x5 x6 x7 : Value) (w : World) : Prop where
  c0 : w.cell? ⟨b, 0, none⟩ = some x0
  c1 : w.cell? ⟨b, 1, none⟩ = some x1
  c2 : w.cell? ⟨b, 2, none⟩ = some x2
  c3 : w.cell? ⟨b, 3, none⟩ = some x3
  c4 : w.cell? ⟨b, 4, none⟩ = some x4
  c5 : w.cell? ⟨b, 5, none⟩ = some x5
  c6 : w.cell? ⟨b, 6, none⟩ = some x6
  c7 : w.cell? ⟨b, 7, none⟩ = some x7
  f0 : w.frozen? ⟨b, 0, none⟩ = false
  f1 : w.frozen? ⟨b, 1, none⟩ = false
  f2 : w.frozen? ⟨b, 2, none⟩ = false
  f3 : w.frozen? ⟨b, 3, none⟩ = false
  f4 : w.frozen? ⟨b, 4, none⟩ = false
  f5 : w.frozen? ⟨b, 5, none⟩ = false
  f6 : w.frozen? ⟨b, 6, none⟩ = false
  f7 : w.frozen? ⟨b, 7, none⟩ = false
theorem Z8.new (w : World) (x0 x1 x2 x3 x4 x5 x6 x7 : Value) (t : TypeId) : Z8 w.heap.size x0 x1 x2 x3 x4 x5 x6 x7 (w.alloc (.cells #[x0, x1, x2, x3, x4, x5, x6, x7] t)) := ⟨by simp [go_sem], by simp [go_sem], by simp [go_sem], by simp [go_sem], by simp [go_sem], by simp [go_sem], by simp [go_sem], by simp [go_sem], by simp [go_sem], by simp [go_sem], by simp [go_sem], by simp [go_sem], by simp [go_sem], by simp [go_sem], by simp [go_sem], by simp [go_sem]⟩
theorem Z8.blk {b : Nat} {x0 x1 x2 x3 x4 x5 x6 x7 : Value} {w w' : World} (h : Z8 b x0 x1 x2 x3 x4 x5 x6 x7 w) (e : w'.heap[b]? = w.heap[b]?) : Z8 b x0 x1 x2 x3 x4 x5 x6 x7 w' :=
  ⟨(World.cell?_of_block (w := w) e).trans h.c0, (World.cell?_of_block (w := w) e).trans h.c1, (World.cell?_of_block (w := w) e).trans h.c2, (World.cell?_of_block (w := w) e).trans h.c3, (World.cell?_of_block (w := w) e).trans h.c4, (World.cell?_of_block (w := w) e).trans h.c5, (World.cell?_of_block (w := w) e).trans h.c6, (World.cell?_of_block (w := w) e).trans h.c7, (World.frozen?_of_block (w := w) e).trans h.f0, (World.frozen?_of_block (w := w) e).trans h.f1, (World.frozen?_of_block (w := w) e).trans h.f2, (World.frozen?_of_block (w := w) e).trans h.f3, (World.frozen?_of_block (w := w) e).trans h.f4, (World.frozen?_of_block (w := w) e).trans h.f5, (World.frozen?_of_block (w := w) e).trans h.f6, (World.frozen?_of_block (w := w) e).trans h.f7⟩
theorem Z8.lt {b : Nat} {x0 x1 x2 x3 x4 x5 x6 x7 : Value} {w : World} (h : Z8 b x0 x1 x2 x3 x4 x5 x6 x7 w) : b < w.heap.size := World.block_lt_of_cell? _ _ h.c0
theorem Z8.below {b base : Nat} {x0 x1 x2 x3 x4 x5 x6 x7 : Value} {w w' : World} (h : Z8 b x0 x1 x2 x3 x4 x5 x6 x7 w) (hb : Below base w w') (hlt : b < base) : Z8 b x0 x1 x2 x3 x4 x5 x6 x7 w' := h.blk (hb.block b hlt)
theorem Z8.far {b : Nat} {x0 x1 x2 x3 x4 x5 x6 x7 : Value} {w : World} (h : Z8 b x0 x1 x2 x3 x4 x5 x6 x7 w) (p : Addr) (u : Value) (hp : p.block ≠ b) : Z8 b x0 x1 x2 x3 x4 x5 x6 x7 (w.setCell p u) := h.blk (Below.heap_setCell _ _ _ _ (fun e => hp e.symm))
theorem Z8.set2 {b : Nat} {x0 x1 x2 x3 x4 x5 x6 x7 : Value} {w : World} (h : Z8 b x0 x1 x2 x3 x4 x5 x6 x7 w) (u : Value) : Z8 b x0 x1 u x3 x4 x5 x6 x7 (w.setCell ⟨b, 2, none⟩ u) :=
  ⟨(World.cell?_setCell_other _ _ _ _ (by simp)).trans h.c0, (World.cell?_setCell_other _ _ _ _ (by simp)).trans h.c1, World.cell?_setCell_same' _ _ _ (by rw [h.c2]; rfl), (World.cell?_setCell_other _ _ _ _ (by simp)).trans h.c3, (World.cell?_setCell_other _ _ _ _ (by simp)).trans h.c4, (World.cell?_setCell_other _ _ _ _ (by simp)).trans h.c5, (World.cell?_setCell_other _ _ _ _ (by simp)).trans h.c6, (World.cell?_setCell_other _ _ _ _ (by simp)).trans h.c7, by rw [World.frozen?_setCell]; exact h.f0, by rw [World.frozen?_setCell]; exact h.f1, by rw [World.frozen?_setCell]; exact h.f2, by rw [World.frozen?_setCell]; exact h.f3, by rw [World.frozen?_setCell]; exact h.f4, by rw [World.frozen?_setCell]; exact h.f5, by rw [World.frozen?_setCell]; exact h.f6, by rw [World.frozen?_setCell]; exact h.f7⟩
set_option maxRecDepth 100000 in
set_option maxHeartbeats 8000000 in
theorem inner9_any (B W : Int) (v : Value) (n : Nat) (at' fa : Nat → Int) (b1 b2 ep dc cl : Int) (hn : n ≤ 1000) (w : World) (hA : Drp w v n at' fa) :
    Calls Tryz.prog 8 #[.agg #[.int .i64 B, .int .i64 W, v, .int .i64 b1, .int .i64 b2, .int .i64 ep, .int .i64 dc, .int .i64 cl]] w fun e w' => ∃ v', e = .returned (.agg #[.int .i64 B, .int .i64 W, v', .int .i64 b1, .int .i64 b2, .int .i64 ep, .int .i64 dc, .int .i64 cl]) ∧ Drp w' v' n at' fa ∧ Below w.heap.size w w' := by
  obtain ⟨i0, hti, hy0, hy1, hy2⟩ := info_parts dinfo_rdr
  obtain ⟨adr, cap, b, o, rfl, k1, k2, k3, k4⟩ := hA
  unfold maxLen at k2
  have HC : Hid (∀ k, k < n → w.cell? ⟨b, o + k * 2, none⟩ = some (.int .i64 (at' k)) ∧ w.cell? ⟨b, o + k * 2 + 1, none⟩ = some (.int .i64 (fa k))) := fun k hk => (k4 k hk).1
  have HG : Hid (∀ k, k < n → (-9223372036854775808 ≤ at' k ∧ at' k ≤ 9223372036854775807) ∧ -9223372036854775808 ≤ fa k ∧ fa k ≤ 9223372036854775807) := fun k hk => (k4 k hk).2
  have HK : Hid (0 < n → adr = some ⟨b, o, none⟩) := k3
  clear k3 k4
  obtain ⟨w1, hw1⟩ : ∃ w1, w1 = (w.alloc (.cells #[.int .i64 B, .int .i64 W, .slice adr n cap, .int .i64 b1, .int .i64 b2, .int .i64 ep, .int .i64 dc, .int .i64 cl] 27)).alloc (.cells #[.int .i64 0, .int .i64 0, .slice none 0 0, .int .i64 0, .int .i64 0, .int .i64 0, .int .i64 0, .int .i64 0] 49) := ⟨_, rfl⟩
  have hb1 : Below w.heap.size w w1 := by rw [hw1]; exact bel2 _ _ _
  have hs1 : w1.heap.size = w.heap.size + 1 + 1 := by rw [hw1, World.size_alloc, World.size_alloc]
  have A1 : Q8 w.heap.size (.int .i64 B) (.int .i64 W) (.slice adr n cap) (.int .i64 b1) (.int .i64 b2) (.int .i64 ep) (.int .i64 dc) (.int .i64 cl) w1 := by rw [hw1]; exact (Q8.new w _ _ _ _ _ _ _ _ _).later (bel1 _ _)
  have R1 : Z8 (w.heap.size + 1) (.int .i64 0) (.int .i64 0) (.slice none 0 0) (.int .i64 0) (.int .i64 0) (.int .i64 0) (.int .i64 0) (.int .i64 0) w1 := by
    have h := Z8.new (w.alloc (.cells #[.int .i64 B, .int .i64 W, .slice adr n cap, .int .i64 b1, .int .i64 b2, .int .i64 ep, .int .i64 dc, .int .i64 cl] 27)) (.int .i64 0) (.int .i64 0) (.slice none 0 0) (.int .i64 0) (.int .i64 0) (.int .i64 0) (.int .i64 0) (.int .i64 0) 49
    rw [World.size_alloc] at h
    rw [hw1]; exact h
  obtain ⟨w2, hw2⟩ : ∃ w2, w2 = w1.alloc (.cells #[.int .i64 B, .int .i64 W, .slice none 0 0, .int .i64 b1, .int .i64 b2, .int .i64 ep, .int .i64 dc, .int .i64 cl] 49) := ⟨_, rfl⟩
  have hb2 : Below w1.heap.size w1 w2 := by rw [hw2]; exact bel1 _ _
  have hs2 : w2.heap.size = w.heap.size + 1 + 1 + 1 := by rw [hw2, World.size_alloc, hs1]
  have A2 := A1.later hb2
  have R2 : Hid (Z8 (w.heap.size + 1) (.int .i64 0) (.int .i64 0) (.slice none 0 0) (.int .i64 0) (.int .i64 0) (.int .i64 0) (.int .i64 0) (.int .i64 0) w2) := R1.below hb2 (by omega)
  have O2 : Hid (Z8 (w.heap.size + 1 + 1) (.int .i64 B) (.int .i64 W) (.slice none 0 0) (.int .i64 b1) (.int .i64 b2) (.int .i64 ep) (.int .i64 dc) (.int .i64 cl) w2) := by
    have h := Z8.new w1 (.int .i64 B) (.int .i64 W) (.slice none 0 0) (.int .i64 b1) (.int .i64 b2) (.int .i64 ep) (.int .i64 dc) (.int .i64 cl) 49
    rw [← hw2, hs1] at h
    exact h
  have HB2 : Hid (Below w.heap.size w w2) := bchain hb1 hb2
  have x0 := A1.c0
  have x1 := A1.c1
  have x3 := A1.c3
  have x4 := A1.c4
  have x5 := A1.c5
  have x6 := A1.c6
  have x7 := A1.c7
  have ax0 : ∀ ob : Obj, (w1.alloc ob).cell? ⟨w.heap.size, 0, none⟩ = some (.int .i64 B) := fun ob => cell_later (bel1 _ _) x0
  have ax1 : ∀ ob : Obj, (w1.alloc ob).cell? ⟨w.heap.size, 1, none⟩ = some (.int .i64 W) := fun ob => cell_later (bel1 _ _) x1
  have hs1' : Hid (w1.heap.size = w.heap.size + 1 + 1) := hs1
  clear R1 hb1 hb2
  go_enter Tryz.func8, Tryz.ntmps8
  go_upto_region 1 with fail
  rw [← hw1]
  clear hw1
  go_upto_region 3 with fail
  rw [← hw2]
  clear hw2 x0 x1 x3 x4 x5 x6 x7 ax0 ax1 A1
  have x2 := A2.c2
  try simp only [hs1]
  clear hs1
  obtain ⟨bo, hbo⟩ : ∃ bo, w.heap.size + 1 + 1 = bo := ⟨_, rfl⟩
  obtain ⟨br, hbr⟩ : ∃ br, w.heap.size + 1 = br := ⟨_, rfl⟩
  rw [hbo] at O2
  rw [hbr] at R2
  try simp only [hbo]
  try simp only [hbr]
  have hrb : br < bo := by omega
  have hwb : w.heap.size < br := by omega
  have hbs : bo < w2.heap.size := by omega
  clear hbo hbr hs1' hs2
  go_upto_region 4 with fail
  clear x2 A2
  go_loopw [29] (fun si wr => ∃ (j : Nat) (vj : Value), j ≤ n ∧ si = .int .i64 (j : Int) ∧ Hid (wr.ownsRow w2.heap.size 80 2 vj j (dlL at' fa j)) ∧ Hid (Z8 bo (.int .i64 B) (.int .i64 W) vj (.int .i64 b1) (.int .i64 b2) (.int .i64 ep) (.int .i64 dc) (.int .i64 cl) wr) ∧ Hid (Z8 br (.int .i64 0) (.int .i64 0) (.slice none 0 0) (.int .i64 0) (.int .i64 0) (.int .i64 0) (.int .i64 0) (.int .i64 0) wr) ∧ Hid (w2.heap.size ≤ wr.heap.size ∧ Below w.heap.size w wr)) (fun si _ => n - (intOf si).toNat)
  case atStart => exact ⟨0, .slice none 0 0, by omega, rfl, World.ownsRow_nil _ _ _ _, O2, R2, Nat.le_refl _, HB2.out⟩
  case round =>
    obtain ⟨j, vj, hj, rfl, HO, HZ, HR, HW⟩ := hrel
    by_cases hlt : j < n
    · have hjI : (j : Int) < (n : Int) := by omega
      have ea := HK.out (by omega)
      subst ea
      have c0 := cell_later HW.out.2 (HC.out j hlt).1
      have c1 := cell_later HW.out.2 (HC.out j hlt).2
      obtain ⟨we, hwe⟩ : ∃ we, we = wr.alloc (.cells #[.int .i64 (at' j), .int .i64 (fa j)] 78) := ⟨_, rfl⟩
      have hbe : Below w2.heap.size wr we := by rw [hwe]; exact (bel1 _ _).mono HW.out.1
      have e0 : we.cell? ⟨wr.heap.size, 0, none⟩ = some (.int .i64 (at' j)) := by rw [hwe]; simp [go_sem]
      have e1 : we.cell? ⟨wr.heap.size, 1, none⟩ = some (.int .i64 (fa j)) := by rw [hwe]; simp [go_sem]
      have hse : w2.heap.size ≤ we.heap.size := by have := HW.out.1; rw [hwe, World.size_alloc]; omega
      have HZe : Z8 bo (.int .i64 B) (.int .i64 W) vj (.int .i64 b1) (.int .i64 b2) (.int .i64 ep) (.int .i64 dc) (.int .i64 cl) we := HZ.out.below hbe hbs
      have HRe : Z8 br (.int .i64 0) (.int .i64 0) (.slice none 0 0) (.int .i64 0) (.int .i64 0) (.int .i64 0) (.int .i64 0) (.int .i64 0) we := HR.out.below hbe (by omega)
      have HOe : we.ownsRow w2.heap.size 80 2 vj j (dlL at' fa j) := by rw [hwe]; exact HO.out.alloc _
      have HWe : Below w.heap.size w we := by rw [hwe]; exact bchain HW.out.2 (bel1 _ _)
      have HX : Hid (Z8 bo (.int .i64 B) (.int .i64 W) vj (.int .i64 b1) (.int .i64 b2) (.int .i64 ep) (.int .i64 dc) (.int .i64 cl) we ∧ Z8 br (.int .i64 0) (.int .i64 0) (.slice none 0 0) (.int .i64 0) (.int .i64 0) (.int .i64 0) (.int .i64 0) (.int .i64 0) we ∧ Below w.heap.size w we) := ⟨HZe, HRe, HWe⟩
      have z2' := HZe.c2
      obtain ⟨R, hR⟩ : ∃ R, R = dlL at' fa j ++ [.int .i64 (at' j), .int .i64 (fa j)] := ⟨_, rfl⟩
      have HR' : Hid (R = dlL at' fa (j + 1)) := hR
      generalize at' j = x at *
      generalize fa j = y at *
      clear HO HZ HR HW hbe HWe HZe HRe
      go_upto_region 6 with fail
      rw [← hwe]
      clear hwe c0 c1
      go_wp2_with (at_builtin; refine wpList_append_own _ rfl _ _ 45 rfl w2.heap.size 80 i0 (.agg #[.int .i64 0, .int .i64 0]) 2 16 Tryz.underlying45 hti hy0 hy1 hy2 rfl (by decide) _ _ _ rfl (HOe.alloc _) ⟨we.heap.size, 0, none⟩ 1 1 [.int .i64 x, .int .i64 y] rfl rfl (cell_two_new8 _ _ _ _) (by intro q hq; simp only [List.mem_cons, List.not_mem_nil, or_false] at hq; rcases hq with rfl | rfl <;> rfl) (by unfold maxLen; omega) (by omega) (by rw [World.size_alloc]; omega) ?_; intro v' w9 hown' hgrow hnil; obtain ⟨g', cap', rfl⟩ := own_succ9 hown'; have hb9 : Below w2.heap.size we w9 := (((bel1 we _).mono hse).grown hgrow (by rw [World.size_alloc]; omega) (fun k hk => (HOe.lt k hk).1)); have HZ9 := HX.out.1.below hb9 hbs; have HR9 := HX.out.2.1.below hb9 (by omega); have y2 := HZ9.c2; have y3 := HZ9.f2; have hw9 : Below w.heap.size w w9 := HX.out.2.2.trans (hb9.mono (by omega)); have HN : Hid ((w9.setCell ⟨bo, 2, none⟩ (.slice (some ⟨g', 0, none⟩) (j + 1) cap')).ownsRow w2.heap.size 80 2 (.slice (some ⟨g', 0, none⟩) (j + 1) cap') (j + 1) R ∧ Z8 bo (.int .i64 B) (.int .i64 W) (.slice (some ⟨g', 0, none⟩) (j + 1) cap') (.int .i64 b1) (.int .i64 b2) (.int .i64 ep) (.int .i64 dc) (.int .i64 cl) (w9.setCell ⟨bo, 2, none⟩ (.slice (some ⟨g', 0, none⟩) (j + 1) cap')) ∧ Z8 br (.int .i64 0) (.int .i64 0) (.slice none 0 0) (.int .i64 0) (.int .i64 0) (.int .i64 0) (.int .i64 0) (.int .i64 0) (w9.setCell ⟨bo, 2, none⟩ (.slice (some ⟨g', 0, none⟩) (j + 1) cap')) ∧ w2.heap.size ≤ (w9.setCell ⟨bo, 2, none⟩ (.slice (some ⟨g', 0, none⟩) (j + 1) cap')).heap.size ∧ Below w.heap.size w (w9.setCell ⟨bo, 2, none⟩ (.slice (some ⟨g', 0, none⟩) (j + 1) cap'))) := ⟨by rw [hR]; exact own_far9 hown' _ _ hbs, HZ9.set2 _, HR9.far _ _ (by dsimp only; omega), by have := hb9.size; simp; omega, hw9.setCell (by dsimp only; omega) _⟩; clear hown' hgrow hnil hb9 HZ9 HR9 hw9 HOe HX z2' e0 e1)
      clear y2 y3
      generalize w9.setCell ⟨bo, 2, none⟩ (.slice (some ⟨g', 0, none⟩) (j + 1) cap') = wn at *
      go_roundw
      case rel => exact ⟨j + 1, (.slice (some ⟨g', 0, none⟩) (j + 1) cap'), by omega, by go_num, by rw [← HR'.out]; exact HN.out.1, HN.out.2.1, HN.out.2.2.1, HN.out.2.2.2⟩
      case measure => simp [intOf]; omega
    · obtain rfl : j = n := by omega
      have hjI : ¬ (j : Int) < (j : Int) := by omega
      have hD : Drp wr vj j at' fa := drp_of_own HO.out HG.out
      obtain ⟨ad, ca, bb, ob, rfl, l1, l2, l3, l4⟩ := id hD
      have y0 := HZ.out.c0
      have r0 := HR.out.c0
      have g0 := HR.out.f0
      have y1 := HZ.out.c1
      have r1 := HR.out.c1
      have g1 := HR.out.f1
      have y2 := HZ.out.c2
      have r2 := HR.out.c2
      have g2 := HR.out.f2
      have y3 := HZ.out.c3
      have r3 := HR.out.c3
      have g3 := HR.out.f3
      have y4 := HZ.out.c4
      have r4 := HR.out.c4
      have g4 := HR.out.f4
      have y5 := HZ.out.c5
      have r5 := HR.out.c5
      have g5 := HR.out.f5
      have y6 := HZ.out.c6
      have r6 := HR.out.c6
      have g6 := HR.out.f6
      have y7 := HZ.out.c7
      have r7 := HR.out.c7
      have g7 := HR.out.f7
      have HD : Hid (Drp wr (.slice ad j ca) j at' fa ∧ wr.ownsRow w2.heap.size 80 2 (.slice ad j ca) j (dlL at' fa j)) := ⟨hD, HO.out⟩
      clear hD l3 l4
      go_wp2
      have hr : br < w2.heap.size := by omega
      have HE : Drp ((((((((wr.setCell ⟨br, 0, none⟩ (.int .i64 B)).setCell ⟨br, 1, none⟩ (.int .i64 W)).setCell ⟨br, 2, none⟩ (.slice ad j ca)).setCell ⟨br, 3, none⟩ (.int .i64 b1)).setCell ⟨br, 4, none⟩ (.int .i64 b2)).setCell ⟨br, 5, none⟩ (.int .i64 ep)).setCell ⟨br, 6, none⟩ (.int .i64 dc)).setCell ⟨br, 7, none⟩ (.int .i64 cl)) (.slice ad j ca) j at' fa := drp_of_own (own_far9 (own_far9 (own_far9 (own_far9 (own_far9 (own_far9 (own_far9 (own_far9 (HD.out.2) _ _ (by exact hr)) _ _ (by exact hr)) _ _ (by exact hr)) _ _ (by exact hr)) _ _ (by exact hr)) _ _ (by exact hr)) _ _ (by exact hr)) _ _ (by exact hr)) HG.out
      have HF : Below w.heap.size w ((((((((wr.setCell ⟨br, 0, none⟩ (.int .i64 B)).setCell ⟨br, 1, none⟩ (.int .i64 W)).setCell ⟨br, 2, none⟩ (.slice ad j ca)).setCell ⟨br, 3, none⟩ (.int .i64 b1)).setCell ⟨br, 4, none⟩ (.int .i64 b2)).setCell ⟨br, 5, none⟩ (.int .i64 ep)).setCell ⟨br, 6, none⟩ (.int .i64 dc)).setCell ⟨br, 7, none⟩ (.int .i64 cl)) := ((((((((HW.out.2).setCell (by dsimp only; omega) _).setCell (by dsimp only; omega) _).setCell (by dsimp only; omega) _).setCell (by dsimp only; omega) _).setCell (by dsimp only; omega) _).setCell (by dsimp only; omega) _).setCell (by dsimp only; omega) _).setCell (by dsimp only; omega) _
      exact bodyPost_ret (v := .agg #[.int .i64 B, .int .i64 W, .slice ad j ca, .int .i64 b1, .int .i64 b2, .int .i64 ep, .int .i64 dc, .int .i64 cl]) (by simp [results, Tryz.results8, go_sem, r0, r1, r2, r3, r4, r5, r6, r7, g0, g1, g2, g3, g4, g5, g6, g7]) rfl ⟨_, rfl, HE, HF⟩
end Go.Proofs.YtcdehbhdloaieaaGreatDoor
