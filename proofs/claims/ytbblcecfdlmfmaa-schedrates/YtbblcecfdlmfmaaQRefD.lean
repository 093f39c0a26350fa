/-
  The laws' own rates and pace (regattalaw08).
-/
import Derived.Test.YtbblcecfdlmfmaaQRefC
set_option linter.unusedVariables false
set_option linter.unusedSimpArgs false
namespace Go.Proofs.Ytbblcecfdlmfmaa
open Go.RowKit

set_option maxRecDepth 100000 in
set_option maxHeartbeats 4000000 in
theorem pace8_any (l m f g : Int) (w : World) :
    Calls Try.prog 18 #[.agg #[.int .i64 l, .int .i64 m, .int .i64 f, .int .i64 g]] w fun e w' => e = .returned (.agg #[.int .i64 l, .int .i64 m, .int .i64 f, .int .i64 g]) ∧ Below w.heap.size w w' := by
  go_enter Try.func18, Try.ntmps18
  go_wp2
  refine bodyPost_ret (v := .agg #[.int .i64 l, .int .i64 m, .int .i64 f, .int .i64 g]) (by simp [results, Try.results18, go_sem]) rfl ⟨rfl, ?_⟩
  exact bel2 _ _ _
theorem cell_two_new8 (w : World) (x y : Value) (t : TypeId) : ∀ j q, [x, y][j]? = some q → (w.alloc (.cells #[x, y] t)).cell? ((⟨w.heap.size, 0, none⟩ : Addr).add j) = some q := by
  intro j q h
  rcases j with _ | _ | j
  all_goals simp at h
  all_goals subst h
  all_goals simp [go_sem, Addr.add]
theorem dinfo_rdr : (Try.prog.info? 61).map (fun i => (i.zero, i.size, i.bytes)) = some (some (.agg #[.int .i64 0, .int .i64 0]), 2, 16) := by kernel_rfl
/-- The cells of the first drops. -/
def dlL (at' fa : Nat → Int) : Nat → List Value
  | 0 => []
  | k + 1 => dlL at' fa k ++ [.int .i64 (at' k), .int .i64 (fa k)]
theorem dlL_len (at' fa : Nat → Int) (k : Nat) : (dlL at' fa k).length = k * 2 := by
  induction k with
  | zero => rfl
  | succ k ih => show (dlL at' fa k ++ _).length = _; rw [List.length_append, ih]; simp; omega
theorem dlL_get (at' fa : Nat → Int) (n k : Nat) (hk : k < n) : (dlL at' fa n)[k * 2]? = some (.int .i64 (at' k)) ∧ (dlL at' fa n)[k * 2 + 1]? = some (.int .i64 (fa k)) := by
  induction n with
  | zero => omega
  | succ n ih =>
    show (dlL at' fa n ++ _)[k * 2]? = _ ∧ (dlL at' fa n ++ _)[k * 2 + 1]? = _
    have hl := dlL_len at' fa n
    rcases Nat.lt_or_ge k n with h | h
    · obtain ⟨h1, h2⟩ := ih h
      refine ⟨?_, ?_⟩
      · rw [List.getElem?_append_left (by omega)]; exact h1
      · rw [List.getElem?_append_left (by omega)]; exact h2
    · obtain rfl : k = n := by omega
      refine ⟨?_, ?_⟩
      · rw [List.getElem?_append_right (by omega), hl, Nat.sub_self]; rfl
      · rw [List.getElem?_append_right (by omega), hl, show k * 2 + 1 - k * 2 = 1 by omega]; rfl
theorem drp_of_own {w : World} {base : Nat} {v : Value} {n : Nat} {at' fa : Nat → Int} (h : w.ownsRow base 61 2 v n (dlL at' fa n)) (hr : ∀ k, k < n → (-9223372036854775808 ≤ at' k ∧ at' k ≤ 9223372036854775807) ∧ -9223372036854775808 ≤ fa k ∧ fa k ≤ 9223372036854775807) : Drp w v n at' fa := by
  rcases id h.2 with ⟨hv, h0⟩ | ⟨g, cL, cur, rfl, hg, hh, hc1, hc2, hsz, htk⟩
  · subst h0
    exact ⟨none, 0, 0, 0, hv, Nat.le_refl _, Nat.zero_le _, fun h => by omega, fun k hk => by omega⟩
  · have hl := dlL_len at' fa n
    refine ⟨_, cL, g, 0, rfl, hc1, hc2, fun _ => rfl, fun k hk => ⟨?_, hr k hk⟩⟩
    obtain ⟨a1, a2⟩ := dlL_get at' fa n k hk
    rw [Nat.zero_add]
    exact ⟨(h.cellAt _ (by omega)).trans a1, (h.cellAt _ (by omega)).trans a2⟩
/-- Three cells of a struct that may be written. -/
structure Z3 (b : Nat) (x y z : Value) (w : World) : Prop where
  c0 : w.cell? ⟨b, 0, none⟩ = some x
  c1 : w.cell? ⟨b, 1, none⟩ = some y
  c2 : w.cell? ⟨b, 2, none⟩ = some z
  f0 : w.frozen? ⟨b, 0, none⟩ = false
  f1 : w.frozen? ⟨b, 1, none⟩ = false
  f2 : w.frozen? ⟨b, 2, none⟩ = false
theorem Z3.new (w : World) (x y z : Value) (t : TypeId) : Z3 w.heap.size x y z (w.alloc (.cells #[x, y, z] t)) := ⟨by simp [go_sem], by simp [go_sem], by simp [go_sem], by simp [go_sem], by simp [go_sem], by simp [go_sem]⟩
theorem Z3.below {b base : Nat} {x y z : Value} {w w' : World} (h : Z3 b x y z w) (hb : Below base w w') (hlt : b < base) : Z3 b x y z w' :=
  ⟨(hb.cell hlt).trans h.c0, (hb.cell hlt).trans h.c1, (hb.cell hlt).trans h.c2, (hb.frozen hlt).trans h.f0, (hb.frozen hlt).trans h.f1, (hb.frozen hlt).trans h.f2⟩
theorem Z3.set2 {b : Nat} {x y z : Value} {w : World} (h : Z3 b x y z w) (u : Value) : Z3 b x y u (w.setCell ⟨b, 2, none⟩ u) :=
  ⟨(World.cell?_setCell_other _ _ _ _ (by simp)).trans h.c0, (World.cell?_setCell_other _ _ _ _ (by simp)).trans h.c1, World.cell?_setCell_same' _ _ _ (by rw [h.c2]; rfl), by rw [World.frozen?_setCell]; exact h.f0, by rw [World.frozen?_setCell]; exact h.f1, by rw [World.frozen?_setCell]; exact h.f2⟩
theorem Z3.far {b : Nat} {x y z : Value} {w : World} (h : Z3 b x y z w) (p : Addr) (u : Value) (hp : p.block ≠ b) : Z3 b x y z (w.setCell p u) :=
  ⟨cell_set hp h.c0, cell_set hp h.c1, cell_set hp h.c2, by rw [World.frozen?_setCell]; exact h.f0, by rw [World.frozen?_setCell]; exact h.f1, by rw [World.frozen?_setCell]; exact h.f2⟩
theorem own_off {w : World} {B : Nat} {e : TypeId} {s : Nat} {v : Value} {n : Nat} {xs : List Value} (h : w.ownsRow B e s v n xs) (p : Addr) (u : Value) (hp : p.block < B) : (w.setCell p u).ownsRow B e s v n xs := by
  refine ⟨h.1, ?_⟩
  rcases h.2 with h0 | ⟨g, cap, cur, hv, hg, hh, r⟩
  · exact Or.inl h0
  · exact Or.inr ⟨g, cap, cur, hv, hg, (Below.heap_setCell _ _ _ _ (by omega)).trans hh, r⟩
theorem own_succ8 {W : World} {base : Nat} {e : TypeId} {size : Nat} {v : Value} {k : Nat} {xs : List Value} (h : W.ownsRow base e size v (k + 1) xs) : ∃ g cap, v = .slice (some ⟨g, 0, none⟩) (k + 1) cap := by
  rcases h.2 with ⟨_, h0⟩ | ⟨g, cap, _, rfl, _⟩
  · omega
  · exact ⟨g, cap, rfl⟩
set_option maxRecDepth 100000 in
set_option maxHeartbeats 8000000 in
theorem rates8_any (B W : Int) (v : Value) (n : Nat) (at' fa : Nat → Int) (hn : n ≤ 1000) (w : World) (hA : Drp w v n at' fa) :
    Calls Try.prog 10 #[.agg #[.int .i64 B, .int .i64 W, v]] w fun e w' => ∃ v', e = .returned (.agg #[.int .i64 B, .int .i64 W, v']) ∧ Drp w' v' n at' fa ∧ Below w.heap.size w w' := by
  obtain ⟨i0, hti, hy0, hy1, hy2⟩ := info_parts dinfo_rdr
  obtain ⟨adr, cap, b, o, rfl, k1, k2, k3, k4⟩ := hA
  unfold maxLen at k2
  have HC : Hid (∀ k, k < n → w.cell? ⟨b, o + k * 2, none⟩ = some (.int .i64 (at' k)) ∧ w.cell? ⟨b, o + k * 2 + 1, none⟩ = some (.int .i64 (fa k))) := fun k hk => (k4 k hk).1
  have HG : Hid (∀ k, k < n → (-9223372036854775808 ≤ at' k ∧ at' k ≤ 9223372036854775807) ∧ -9223372036854775808 ≤ fa k ∧ fa k ≤ 9223372036854775807) := fun k hk => (k4 k hk).2
  have HK : Hid (0 < n → adr = some ⟨b, o, none⟩) := k3
  clear k3 k4
  obtain ⟨w1, hw1⟩ : ∃ w1, w1 = (w.alloc (.cells #[.int .i64 B, .int .i64 W, .slice adr n cap] 25)).alloc (.cells #[.int .i64 0, .int .i64 0, .slice none 0 0] 29) := ⟨_, rfl⟩
  have hb1 : Below w.heap.size w w1 := by rw [hw1]; exact bel2 _ _ _
  have hs1 : w1.heap.size = w.heap.size + 1 + 1 := by rw [hw1, World.size_alloc, World.size_alloc]
  have A1 : Q3 w.heap.size (.int .i64 B) (.int .i64 W) (.slice adr n cap) w1 := by rw [hw1]; exact (Q3.new w _ _ _ _).later (bel1 _ _)
  have R1 : Z3 (w.heap.size + 1) (.int .i64 0) (.int .i64 0) (.slice none 0 0) w1 := by
    have h := Z3.new (w.alloc (.cells #[.int .i64 B, .int .i64 W, .slice adr n cap] 25)) (.int .i64 0) (.int .i64 0) (.slice none 0 0) 29
    rw [World.size_alloc] at h
    rw [hw1]; exact h
  obtain ⟨w2, hw2⟩ : ∃ w2, w2 = w1.alloc (.cells #[.int .i64 B, .int .i64 W, .slice none 0 0] 29) := ⟨_, rfl⟩
  have hb2 : Below w1.heap.size w1 w2 := by rw [hw2]; exact bel1 _ _
  have hs2 : w2.heap.size = w.heap.size + 1 + 1 + 1 := by rw [hw2, World.size_alloc, hs1]
  have A2 := A1.later hb2
  have R2 : Hid (Z3 (w.heap.size + 1) (.int .i64 0) (.int .i64 0) (.slice none 0 0) w2) := R1.below hb2 (by omega)
  have O2 : Hid (Z3 (w.heap.size + 1 + 1) (.int .i64 B) (.int .i64 W) (.slice none 0 0) w2) := by
    have h := Z3.new w1 (.int .i64 B) (.int .i64 W) (.slice none 0 0) 29
    rw [← hw2, hs1] at h
    exact h
  have HB2 : Hid (Below w.heap.size w w2) := bchain hb1 hb2
  have x0 := A1.c0
  have x1 := A1.c1
  have hs1' : Hid (w1.heap.size = w.heap.size + 1 + 1) := hs1
  clear R1 hb1 hb2
  go_enter Try.func10, Try.ntmps10
  go_upto_region 1 with fail
  rw [← hw1]
  clear hw1
  go_upto_region 2 with fail
  rw [← hw2]
  clear hw2 x0 x1 A1
  have x2 := A2.c2
  try simp only [hs1]
  clear hs1
  obtain ⟨bo, hbo⟩ : ∃ bo, w.heap.size + 1 + 1 = bo := ⟨_, rfl⟩
  obtain ⟨br, hbr⟩ : ∃ br, w.heap.size + 1 = br := ⟨_, rfl⟩
  rw [hbo] at O2
  rw [hbr] at R2
  try simp only [hbo]
  try simp only [hbr]
  have hrb : br < bo := by omega
  have hwb : w.heap.size < br := by omega
  have hbs : bo < w2.heap.size := by omega
  clear hbo hbr hs1' hs2
  go_upto_region 3 with fail
  clear x2 A2
  go_loopw [14] (fun si wr => ∃ (j : Nat) (vj : Value), j ≤ n ∧ si = .int .i64 (j : Int) ∧ Hid (wr.ownsRow w2.heap.size 61 2 vj j (dlL at' fa j)) ∧ Hid (Z3 bo (.int .i64 B) (.int .i64 W) vj wr) ∧ Hid (Z3 br (.int .i64 0) (.int .i64 0) (.slice none 0 0) wr) ∧ Hid (w2.heap.size ≤ wr.heap.size ∧ Below w.heap.size w wr)) (fun si _ => n - (intOf si).toNat)
  case atStart => exact ⟨0, .slice none 0 0, by omega, rfl, World.ownsRow_nil _ _ _ _, O2, R2, Nat.le_refl _, HB2.out⟩
  case round =>
    obtain ⟨j, vj, hj, rfl, HO, HZ, HR, HW⟩ := hrel
    by_cases hlt : j < n
    · have hjI : (j : Int) < (n : Int) := by omega
      have ea := HK.out (by omega)
      subst ea
      have c0 := cell_later HW.out.2 (HC.out j hlt).1
      have c1 := cell_later HW.out.2 (HC.out j hlt).2
      obtain ⟨we, hwe⟩ : ∃ we, we = wr.alloc (.cells #[.int .i64 (at' j), .int .i64 (fa j)] 59) := ⟨_, rfl⟩
      have hbe : Below w2.heap.size wr we := by rw [hwe]; exact (bel1 _ _).mono HW.out.1
      have e0 : we.cell? ⟨wr.heap.size, 0, none⟩ = some (.int .i64 (at' j)) := by rw [hwe]; simp [go_sem]
      have e1 : we.cell? ⟨wr.heap.size, 1, none⟩ = some (.int .i64 (fa j)) := by rw [hwe]; simp [go_sem]
      have hse : w2.heap.size ≤ we.heap.size := by have := HW.out.1; rw [hwe, World.size_alloc]; omega
      have HZe : Z3 bo (.int .i64 B) (.int .i64 W) vj we := HZ.out.below hbe hbs
      have HRe : Z3 br (.int .i64 0) (.int .i64 0) (.slice none 0 0) we := HR.out.below hbe (by omega)
      have HOe : we.ownsRow w2.heap.size 61 2 vj j (dlL at' fa j) := by rw [hwe]; exact HO.out.alloc _
      have HWe : Below w.heap.size w we := by rw [hwe]; exact bchain HW.out.2 (bel1 _ _)
      have HX : Hid (Z3 bo (.int .i64 B) (.int .i64 W) vj we ∧ Z3 br (.int .i64 0) (.int .i64 0) (.slice none 0 0) we ∧ Below w.heap.size w we) := ⟨HZe, HRe, HWe⟩
      have z2 : ∀ ob : Obj, (we.alloc ob).cell? ⟨bo, 2, none⟩ = some vj := fun ob => cell_later (bel1 _ _) HZe.c2
      have z2' := HZe.c2
      obtain ⟨R, hR⟩ : ∃ R, R = dlL at' fa j ++ [.int .i64 (at' j), .int .i64 (fa j)] := ⟨_, rfl⟩
      have HR' : Hid (R = dlL at' fa (j + 1)) := hR
      generalize at' j = x at *
      generalize fa j = y at *
      clear HO HZ HR HW hbe HWe HZe HRe
      go_upto_region 5 with fail
      rw [← hwe]
      clear hwe c0 c1
      go_wp2_with (at_builtin; refine wpList_append_own _ rfl _ _ 27 rfl w2.heap.size 61 i0 (.agg #[.int .i64 0, .int .i64 0]) 2 16 Try.underlying27 hti hy0 hy1 hy2 rfl (by decide) _ _ _ rfl (HOe.alloc _) ⟨we.heap.size, 0, none⟩ 1 1 [.int .i64 x, .int .i64 y] rfl rfl (cell_two_new8 _ _ _ _) (by intro q hq; simp only [List.mem_cons, List.not_mem_nil, or_false] at hq; rcases hq with rfl | rfl <;> rfl) (by unfold maxLen; omega) (by omega) (by rw [World.size_alloc]; omega) ?_; intro v' w9 hown' hgrow hnil; obtain ⟨g', cap', rfl⟩ := own_succ8 hown'; have hb9 : Below w2.heap.size we w9 := (((bel1 we _).mono hse).grown hgrow (by rw [World.size_alloc]; omega) (fun k hk => (HOe.lt k hk).1)); have HZ9 := HX.out.1.below hb9 hbs; have HR9 := HX.out.2.1.below hb9 (by omega); have y2 := HZ9.c2; have y3 := HZ9.f2; have hw9 : Below w.heap.size w w9 := HX.out.2.2.trans (hb9.mono (by omega)); have HN : Hid ((w9.setCell ⟨bo, 2, none⟩ (.slice (some ⟨g', 0, none⟩) (j + 1) cap')).ownsRow w2.heap.size 61 2 (.slice (some ⟨g', 0, none⟩) (j + 1) cap') (j + 1) R ∧ Z3 bo (.int .i64 B) (.int .i64 W) (.slice (some ⟨g', 0, none⟩) (j + 1) cap') (w9.setCell ⟨bo, 2, none⟩ (.slice (some ⟨g', 0, none⟩) (j + 1) cap')) ∧ Z3 br (.int .i64 0) (.int .i64 0) (.slice none 0 0) (w9.setCell ⟨bo, 2, none⟩ (.slice (some ⟨g', 0, none⟩) (j + 1) cap')) ∧ w2.heap.size ≤ (w9.setCell ⟨bo, 2, none⟩ (.slice (some ⟨g', 0, none⟩) (j + 1) cap')).heap.size ∧ Below w.heap.size w (w9.setCell ⟨bo, 2, none⟩ (.slice (some ⟨g', 0, none⟩) (j + 1) cap'))) := ⟨by rw [hR]; exact own_off hown' _ _ hbs, HZ9.set2 _, HR9.far _ _ (by dsimp only; omega), by have := hb9.size; simp; omega, hw9.setCell (by dsimp only; omega) _⟩; clear hown' hgrow hnil hb9 HZ9 HR9 hw9 HOe HX z2 z2' e0 e1)
      clear y2 y3
      generalize w9.setCell ⟨bo, 2, none⟩ (.slice (some ⟨g', 0, none⟩) (j + 1) cap') = wn at *
      go_roundw
      case rel => exact ⟨j + 1, (.slice (some ⟨g', 0, none⟩) (j + 1) cap'), by omega, by go_num, by rw [← HR'.out]; exact HN.out.1, HN.out.2.1, HN.out.2.2.1, HN.out.2.2.2⟩
      case measure => simp [intOf]; omega
    · obtain rfl : j = n := by omega
      have hjI : ¬ (j : Int) < (j : Int) := by omega
      have hD : Drp wr vj j at' fa := drp_of_own HO.out HG.out
      obtain ⟨ad, ca, bb, ob, rfl, l1, l2, l3, l4⟩ := id hD
      have y0 := HZ.out.c0
      have y1 := HZ.out.c1
      have y2 := HZ.out.c2
      have r0 := HR.out.c0
      have r1 := HR.out.c1
      have r2 := HR.out.c2
      have g0 := HR.out.f0
      have g1 := HR.out.f1
      have g2 := HR.out.f2
      have HD : Hid (Drp wr (.slice ad j ca) j at' fa ∧ wr.ownsRow w2.heap.size 61 2 (.slice ad j ca) j (dlL at' fa j)) := ⟨hD, HO.out⟩
      clear hD l3 l4
      go_wp2
      have hr : br < w2.heap.size := by omega
      have HE : Drp (((wr.setCell ⟨br, 0, none⟩ (.int .i64 B)).setCell ⟨br, 1, none⟩ (.int .i64 W)).setCell ⟨br, 2, none⟩ (.slice ad j ca)) (.slice ad j ca) j at' fa := drp_of_own (own_off (own_off (own_off HD.out.2 _ _ (by exact hr)) _ _ (by exact hr)) _ _ (by exact hr)) HG.out
      have HF : Below w.heap.size w (((wr.setCell ⟨br, 0, none⟩ (.int .i64 B)).setCell ⟨br, 1, none⟩ (.int .i64 W)).setCell ⟨br, 2, none⟩ (.slice ad j ca)) := ((HW.out.2.setCell (by dsimp only; omega) _).setCell (by dsimp only; omega) _).setCell (by dsimp only; omega) _
      exact bodyPost_ret (v := .agg #[.int .i64 B, .int .i64 W, .slice ad j ca]) (by simp [results, Try.results10, go_sem, r0, r1, r2, g0, g1, g2]) rfl ⟨_, rfl, HE, HF⟩
end Go.Proofs.Ytbblcecfdlmfmaa
