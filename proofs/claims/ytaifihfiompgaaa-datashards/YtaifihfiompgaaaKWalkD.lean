/-
  The contract of data's Batch.
-/
import Derived.Test.YtaifihfiompgaaaKWalkC
set_option linter.unusedVariables false
set_option linter.unusedSimpArgs false
namespace Go.Proofs.Ytaifihfiompgaaa
open Go.RowKit Go.Shelf
attribute [local go_sem] Oper.semAt_some

/-- All blocks below n but one are as they were. -/
def Kept1 (n B : Nat) (A W : World) : Prop := n ≤ W.heap.size ∧ ∀ k, k < n → k ≠ B → W.heap[k]? = A.heap[k]?
theorem kept1_own {β : Type} (n B : Nat) (A : World) : OwnFrom n (fun (_ : β) W => Kept1 n B A W) := fun s X Y row h hg hr =>
  ⟨Nat.le_trans h.1 hg.size, fun k hk hB => (hg.block k (Nat.lt_of_lt_of_le hk h.1) (fun e => by have := (hr k e.symm).1; omega)).trans (h.2 k hk hB)⟩
theorem Boxed.at {W A : World} {n B k : Nat} {t : TypeId} {v : Value} (h : Kept1 n B A W) (hk : k < n) (hB : k ≠ B) (hA : Boxed A k t v) : Boxed W k t v := (h.2 k hk hB).trans hA
theorem box_later {W W' : World} {k : Nat} {t : TypeId} {v : Value} (h : Boxed W k t v) (hb : Below W.heap.size W W') : Boxed W' k t v := (hb.block k h.lt).trans h
theorem ownsRow_base {W : World} {base base' : Nat} {e : TypeId} {size : Nat} {v : Value} {k : Nat} {xs : List Value} (h : W.ownsRow base e size v k xs) (hb : base' ≤ base) : W.ownsRow base' e size v k xs := by
  refine ⟨h.1, ?_⟩
  rcases h.2 with h0 | ⟨g, cap, cur, hv, hg, r⟩
  · exact Or.inl h0
  · exact Or.inr ⟨g, cap, cur, hv, Nat.le_trans hb hg, r⟩
theorem box_appended {W0 W w1 : World} {n₀ B : Nat} {t e : TypeId} {size : Nat} {v v' : Value} {k m : Nat} {xs ys : List Value} {tmp : Obj} (hW : Below W0.heap.size W0 W) (hn : n₀ ≤ W0.heap.size) (hB : B < n₀)
    (hv : Boxed W B t v) (hte : t ≠ e) (hrow : W.ownsRow n₀ e size v k xs) (hown' : w1.ownsRow n₀ e size v' m ys) (hgrow : (W.alloc tmp).grownBy w1 v.ownBlock) :
    Boxed w1 B t v ∧ Boxed (w1.setCell ⟨B, 0, none⟩ v') B t v' ∧ (w1.setCell ⟨B, 0, none⟩ v').ownsRow n₀ e size v' m ys ∧ KeepsFrom n₀ W0 (w1.setCell ⟨B, 0, none⟩ v') ∧ (∀ k, k < n₀ → k ≠ B → (w1.setCell ⟨B, 0, none⟩ v').heap[k]? = W0.heap[k]?) ∧ n₀ ≤ (w1.setCell ⟨B, 0, none⟩ v').heap.size ∧ Below B W0 (w1.setCell ⟨B, 0, none⟩ v') := by
  have hs := hW.size
  obtain ⟨a1, a2, -, a4, a5⟩ := hv.appended hte (ownsRow_base hrow (Nat.le_of_lt hB)) (by omega) (Nat.le_refl B) (ownsRow_base hown' (Nat.le_of_lt hB)) hgrow
  have g2 := grownBy_setCell' w1 B v'
  have hz1 := hgrow.size
  rw [World.size_alloc] at hz1
  have hz2 := g2.size
  refine ⟨a1, a2, hown'.kept g2 (.inr (a1.not_row hte hown').symm), ⟨by omega, fun k o hk h1 h2 => a4.same k o ((hW.block k (Array.getElem?_eq_some_iff.1 h1).1).trans h1) h2⟩, fun k hk hkB => ?_, by omega, (hW.mono (by omega)).trans a5⟩
  refine (g2.block k (by omega) (by simp; exact hkB)).trans ?_
  refine (hgrow.block k (by rw [World.size_alloc]; omega) (fun e' => ?_)).trans ?_
  · rcases hrow.2 with ⟨rfl, _⟩ | ⟨g, cap, cur, rfl, hb, _, _⟩
    · simp [Value.ownBlock] at e'
    · obtain rfl : k = g := by simpa [Value.ownBlock] using e'
      omega
  · exact (Below.heap_alloc _ _ _ (by omega)).trans (hW.block k (by omega))
theorem cell_set4 {bk k i : Nat} {x0 x1 x2 x3 u : Value} {w : World} (hp : k < bk) (h : w.cell? ⟨k, i, none⟩ = some u) : ((((w.setCell ⟨bk, 0, none⟩ x0).setCell ⟨bk, 1, none⟩ x1).setCell ⟨bk, 2, none⟩ x2).setCell ⟨bk, 3, none⟩ x3).cell? ⟨k, i, none⟩ = some u :=
  cell_set (Nat.ne_of_gt hp) (cell_set (Nat.ne_of_gt hp) (cell_set (Nat.ne_of_gt hp) (cell_set (Nat.ne_of_gt hp) h)))
theorem K4.stored {bk : Nat} {x0 x1 x2 x3 y0 y1 y2 y3 : Value} {w : World} (h : K4 bk y0 y1 y2 y3 w) : K4 bk x0 x1 x2 x3 ((((w.setCell ⟨bk, 0, none⟩ x0).setCell ⟨bk, 1, none⟩ x1).setCell ⟨bk, 2, none⟩ x2).setCell ⟨bk, 3, none⟩ x3) := by
  refine ⟨?_, ?_, ?_, ?_⟩
  · refine (World.cell?_setCell_other _ _ _ _ (by simp)).trans ((World.cell?_setCell_other _ _ _ _ (by simp)).trans ((World.cell?_setCell_other _ _ _ _ (by simp)).trans (World.cell?_setCell_same' _ _ _ (by rw [h.c0]; rfl))))
  · refine (World.cell?_setCell_other _ _ _ _ (by simp)).trans ((World.cell?_setCell_other _ _ _ _ (by simp)).trans (World.cell?_setCell_same' _ _ _ ?_))
    rw [World.cell?_setCell_other _ _ _ _ (by simp), h.c1]; rfl
  · refine (World.cell?_setCell_other _ _ _ _ (by simp)).trans (World.cell?_setCell_same' _ _ _ ?_)
    rw [World.cell?_setCell_other _ _ _ _ (by simp), World.cell?_setCell_other _ _ _ _ (by simp), h.c2]; rfl
  · refine World.cell?_setCell_same' _ _ _ ?_
    rw [World.cell?_setCell_other _ _ _ _ (by simp), World.cell?_setCell_other _ _ _ _ (by simp), World.cell?_setCell_other _ _ _ _ (by simp), h.c3]; rfl
set_option maxRecDepth 100000 in
set_option maxHeartbeats 8000000 in
theorem pBatch_in (s x r t z m b o cap : Nat) (f : Nat → Int) (G : Nat → Nat) (hs : s < 18446744073709551616) (hx : x < 64) (hr : r ≤ 256) (ht : t < 64) (hz0 : 1 ≤ z) (hz : z ≤ 64) (hm0 : 1 ≤ m) (hm : m ≤ 4096) (hc1 : m ≤ cap) (hc2 : cap ≤ 9223372036854775807) (w : World)
    (HX : Hid (∀ k, k < m → w.cell? ⟨b, o + k, none⟩ = some (.int .i64 (f k)) ∧ -9223372036854775808 ≤ f k ∧ f k ≤ 9223372036854775807))
    (HG : Hid (∀ q, q < 4096 → Goes s 2 (x : Int) (65536 * (r : Int) + ((q / m : Nat) : Int)) m (q % m) (G q))) :
    CallsIn Fence.wide 10 Try.prog 13 #[.int .u64 (s : Int), .int .i64 (x : Int), .int .i64 (r : Int), .int .i64 (t : Int), .int .i64 (z : Int), .slice (some ⟨b, o, none⟩) m cap] w fun e w' => ∃ v', e = .returned (.tuple #[v', .int .i64 0]) ∧ w'.ownsRow w.heap.size 3 1 v' z (il (fun k => f (G (t * z + k))) z) ∧ Below w.heap.size w w' := by
  have HFt : Hid (∀ V : World, CallsIn Fence.wide 9 Try.prog 18 #[.slice (some ⟨V.heap.size, 0, none⟩) 5 5] (V.alloc (.cells #[.int .i64 (x : Int), .int .i64 0, .int .i64 63, .int .i64 (r : Int), .int .i64 0, .int .i64 256, .int .i64 (t : Int), .int .i64 0, .int .i64 63, .int .i64 (z : Int), .int .i64 1, .int .i64 64, .int .i64 (m : Int), .int .i64 1, .int .i64 4096] 47)) fun e w' => e = .returned (.bool true) ∧ Below V.heap.size V w') := fun V => callsIn_wide.2 ((fit_five _ _ _ _ _ V).mono fun e w' hh => ⟨hh.1.yes (by unfold Akd; omega), hh.2⟩)
  have HCn : Hid (∀ V : World, CallsIn Fence.wide 9 Try.prog 23 #[.int .i64 (t : Int), .int .i64 (z : Int)] V fun e w' => e = .returned (.func (.func 33) #[] #[.pointer (some ⟨V.heap.size + 1, 0, none⟩), .pointer (some ⟨V.heap.size, 0, none⟩)]) ∧ w' = ((V.alloc (.cells #[.int .i64 (t : Int)] 3)).alloc (.cells #[.int .i64 (z : Int)] 3))) := fun V => callsIn_wide.2 (counts_any t z V)
  obtain ⟨w0, hw0⟩ : ∃ w0, w0 = (((((w.alloc (.cells #[.int .u64 (s : Int)] 22)).alloc (.cells #[.int .i64 (x : Int)] 3)).alloc (.cells #[.int .i64 (r : Int)] 3)).alloc (.cells #[.slice (some ⟨b, o, none⟩) m cap] 26)).alloc (.cells #[.slice none 0 0] 26)).alloc (.cells #[.int .i64 0] 27) := ⟨_, rfl⟩
  have HBx : Hid (Boxed w0 w.heap.size 22 (.int .u64 (s : Int)) ∧ Boxed w0 (w.heap.size + 1) 3 (.int .i64 (x : Int)) ∧ Boxed w0 (w.heap.size + 1 + 1) 3 (.int .i64 (r : Int)) ∧ Boxed w0 (w.heap.size + 1 + 1 + 1) 26 (.slice (some ⟨b, o, none⟩) m cap) ∧ Boxed w0 (w.heap.size + 1 + 1 + 1 + 1) 26 (.slice none 0 0) ∧ Boxed w0 (w.heap.size + 1 + 1 + 1 + 1 + 1) 27 (.int .i64 0)) := by
    subst hw0
    refine ⟨?_, ?_, ?_, ?_, ?_, ?_⟩
    · exact (((((Boxed.new w _ _).alloc _).alloc _).alloc _).alloc _).alloc _
    · have h := Boxed.new (w.alloc (.cells #[.int .u64 (s : Int)] 22)) 3 (.int .i64 (x : Int))
      simp only [World.size_alloc] at h
      exact (((h.alloc _).alloc _).alloc _).alloc _
    · have h := Boxed.new ((w.alloc (.cells #[.int .u64 (s : Int)] 22)).alloc (.cells #[.int .i64 (x : Int)] 3)) 3 (.int .i64 (r : Int))
      simp only [World.size_alloc] at h
      exact ((h.alloc _).alloc _).alloc _
    · have h := Boxed.new (((w.alloc (.cells #[.int .u64 (s : Int)] 22)).alloc (.cells #[.int .i64 (x : Int)] 3)).alloc (.cells #[.int .i64 (r : Int)] 3)) 26 (.slice (some ⟨b, o, none⟩) m cap)
      simp only [World.size_alloc] at h
      exact (h.alloc _).alloc _
    · have h := Boxed.new ((((w.alloc (.cells #[.int .u64 (s : Int)] 22)).alloc (.cells #[.int .i64 (x : Int)] 3)).alloc (.cells #[.int .i64 (r : Int)] 3)).alloc (.cells #[.slice (some ⟨b, o, none⟩) m cap] 26)) 26 (.slice none 0 0)
      simp only [World.size_alloc] at h
      exact h.alloc _
    · have h := Boxed.new (((((w.alloc (.cells #[.int .u64 (s : Int)] 22)).alloc (.cells #[.int .i64 (x : Int)] 3)).alloc (.cells #[.int .i64 (r : Int)] 3)).alloc (.cells #[.slice (some ⟨b, o, none⟩) m cap] 26)).alloc (.cells #[.slice none 0 0] 26)) 27 (.int .i64 0)
      simp only [World.size_alloc] at h
      exact h
  have HB0 : Hid (Below w.heap.size w w0) := by subst hw0; exact bchain (bel4 _ _ _ _ _) (bel2 _ _ _)
  have Hsz : Hid (w0.heap.size = w.heap.size + 1 + 1 + 1 + 1 + 1 + 1) := by subst hw0; show _ = _; simp only [World.size_alloc]
  refine callsIn_of_wp_marks Try.func13 rfl trivial ?_ rfl
  simp only [Try.ntmps13, List.size_toArray, List.length_cons, List.length_nil, Nat.reduceAdd, Nat.reduceSub, Array.replicate_succ, Array.replicate_zero, List.push_toArray, List.append_toArray, List.nil_append, List.cons_append]
  gi_wp2_with fail
  rw [← hw0, ← Hsz.out]
  refine ⟨trivial, (HFt.out w0).mono ?_⟩
  rintro e w1 ⟨rfl, hb⟩
  obtain ⟨y6, y7, y8, y11, y12, y13⟩ := HBx.out
  have HX1 : Hid (Boxed w1 w.heap.size 22 (.int .u64 (s : Int)) ∧ Boxed w1 (w.heap.size + 1) 3 (.int .i64 (x : Int)) ∧ Boxed w1 (w.heap.size + 1 + 1) 3 (.int .i64 (r : Int)) ∧ Boxed w1 (w.heap.size + 1 + 1 + 1) 26 (.slice (some ⟨b, o, none⟩) m cap) ∧ Boxed w1 (w.heap.size + 1 + 1 + 1 + 1) 26 (.slice none 0 0) ∧ Boxed w1 (w.heap.size + 1 + 1 + 1 + 1 + 1) 27 (.int .i64 0)) := ⟨box_later y6 hb, box_later y7 hb, box_later y8 hb, box_later y11 hb, box_later y12 hb, box_later y13 hb⟩
  have HB1 : Hid (Below w.heap.size w w1) := bchain HB0.out hb
  clear y6 y7 y8 y11 y12 y13 hb HFt HBx hw0
  generalize w0.heap.size = b15 at *
  obtain ⟨T, hT⟩ : ∃ T, t * z = T := ⟨_, rfl⟩
  have hT1 : T + z ≤ 4096 := by have : T ≤ 63 * 64 := (by rw [← hT]; exact Nat.mul_le_mul (by omega) hz); omega
  obtain ⟨b14, h14⟩ : ∃ k, w1.heap.size = k := ⟨_, rfl⟩
  obtain ⟨w2, hw2⟩ : ∃ w2, w2 = ((w1.alloc (.cells #[.slice none 0 0] 26)).alloc (.cells #[.int .i64 (t : Int)] 3)).alloc (.cells #[.int .i64 (z : Int)] 3) := ⟨_, rfl⟩
  have HS2 : Hid (w2.heap.size = b14 + 1 + 1 + 1) := by subst hw2; show _ = _; simp only [World.size_alloc, h14]
  have HB2 : Hid (Below w1.heap.size w1 w2) := by subst hw2; exact bel3 _ _ _ _
  have HN2 : Hid (Boxed w2 b14 26 (.slice none 0 0) ∧ Boxed w2 (b14 + 1) 3 (.int .i64 (t : Int)) ∧ Boxed w2 (b14 + 1 + 1) 3 (.int .i64 (z : Int))) := by
    subst hw2
    subst h14
    refine ⟨((Boxed.new w1 _ _).alloc _).alloc _, ?_, ?_⟩
    · have h := Boxed.new (w1.alloc (.cells #[.slice none 0 0] 26)) 3 (.int .i64 (t : Int))
      simp only [World.size_alloc] at h
      exact h.alloc _
    · have h := Boxed.new ((w1.alloc (.cells #[.slice none 0 0] 26)).alloc (.cells #[.int .i64 (t : Int)] 3)) 3 (.int .i64 (z : Int))
      simp only [World.size_alloc] at h
      exact h
  have hlt1 : Hid (w.heap.size + 1 + 1 + 1 + 1 + 1 < b14) := by show _ < _; rw [← h14]; exact HX1.out.2.2.2.2.2.lt
  gi_wp2_with fail
  refine ⟨trivial, (HCn.out _).mono ?_⟩
  rintro e w2' ⟨rfl, hz2⟩
  have hz3 : w2' = w2 := hz2.trans hw2.symm
  subst hz3
  clear hz2 hw2 HCn
  simp only [World.size_alloc, h14]
  gi_wp2_with fail
  obtain ⟨y6, y7, y8, y11, y12, y13⟩ := HX1.out
  have HX2 : Hid (Boxed w2' w.heap.size 22 (.int .u64 (s : Int)) ∧ Boxed w2' (w.heap.size + 1) 3 (.int .i64 (x : Int)) ∧ Boxed w2' (w.heap.size + 1 + 1) 3 (.int .i64 (r : Int)) ∧ Boxed w2' (w.heap.size + 1 + 1 + 1) 26 (.slice (some ⟨b, o, none⟩) m cap) ∧ Boxed w2' (w.heap.size + 1 + 1 + 1 + 1) 26 (.slice none 0 0) ∧ Boxed w2' (w.heap.size + 1 + 1 + 1 + 1 + 1) 27 (.int .i64 0)) := ⟨box_later y6 HB2.out, box_later y7 HB2.out, box_later y8 HB2.out, box_later y11 HB2.out, box_later y12 HB2.out, box_later y13 HB2.out⟩
  have HB3 : Hid (Below w.heap.size w w2') := bchain HB1.out HB2.out
  have Hlt : Hid (w.heap.size < b14 ∧ w.heap.size + 1 < b14 ∧ w.heap.size + 1 + 1 < b14 ∧ w.heap.size + 1 + 1 + 1 < b14 ∧ w.heap.size + 1 + 1 + 1 + 1 < b14 ∧ w.heap.size + 1 + 1 + 1 + 1 + 1 < b14 ∧ w.heap.size + 1 + 1 + 1 + 1 < w.heap.size + 1 + 1 + 1 + 1 + 1 ∧ w.heap.size ≤ w.heap.size + 1 + 1 + 1 + 1) := by have := hlt1.out; refine ⟨?_, ?_, ?_, ?_, ?_, ?_, ?_, ?_⟩ <;> omega
  clear y6 y7 y8 y11 y12 y13 HX1 HB1 HB2 HB0 Hsz hlt1 h14
  generalize w.heap.size + 1 + 1 + 1 + 1 + 1 = b13 at *
  generalize w.heap.size + 1 + 1 + 1 + 1 = b12 at *
  generalize w.heap.size + 1 + 1 + 1 = b11 at *
  generalize w.heap.size + 1 + 1 = b8 at *
  generalize w.heap.size + 1 = b7 at *
  generalize hb6 : w.heap.size = b6 at *
  have Hb6 : Hid (w.heap.size = b6) := hb6
  clear hb6
  obtain ⟨Bt, hBt⟩ : ∃ k, b14 + 1 = k := ⟨_, rfl⟩
  obtain ⟨Bz, hBz⟩ : ∃ k, Bt + 1 = k := ⟨_, rfl⟩
  rw [hBt, hBz] at HN2 HS2
  simp only [hBt, hBz]
  have HL : Hid (b14 < Bt ∧ Bt < Bz ∧ Bz < w2'.heap.size) := ⟨by omega, by omega, by rw [HS2.out]; omega⟩
  clear hBt hBz HS2 w1 w0
  obtain ⟨n2, hn2⟩ : ∃ k, w2'.heap.size = k := ⟨_, rfl⟩
  rw [hn2] at HL
  have cz := HN2.out.2.2.cell
  have ct := HN2.out.2.1.cell
  refine wpIn_rangeFunc_ownG rfl (by omega) (gf := 33) (lb := #[.pointer (some ⟨Bz, 0, none⟩), .pointer (some ⟨Bt, 0, none⟩)]) rfl trivial (enters_of Try.func33 (by kernel_rfl) rfl)
    (counts_stops Fence.wide (10 - 1) trivial rfl (by omega) Bz Bt t z T hT hz hT1 w2' cz ct) keep2_t (keep2_b (by have := HL.out; omega) (by have := HL.out; omega)) (Below.refl _ _) (fun _ => rfl)
    (fun (pre : List Cn) (W : World) => (∃ v, Boxed W b14 26 v ∧ W.ownsRow n2 3 1 v pre.length (pre.map (fun q => Value.int .i64 (f (G q.val)))) ∧ True) ∧ Kept1 n2 b14 w2' W ∧ Below b14 w2' W)
    (fun _ _ _ => False)
    (by rw [hn2]; exact OwnFrom.and (Own.from (holdsRow_own n2 b14 26 3 1 (fun pre : List Cn => pre.length) (fun pre : List Cn => pre.map (fun q => Value.int .i64 (f (G q.val)))) (fun _ _ => True)) _) (OwnFrom.and (kept1_own n2 b14 w2') (ownFrom_below (by have := HL.out; omega) (by have := HL.out; omega))))
    (fun _ _ _ _ _ hs _ _ => hs)
    ⟨⟨_, HN2.out.1, World.ownsRow_nil _ _ _ _, trivial⟩, ⟨by omega, fun _ _ _ => rfl⟩, Below.refl _ _⟩
    (fun q => { tmps := #[.int .u64 (s : Int), .int .i64 (x : Int), .int .i64 (r : Int), .int .i64 (t : Int), .int .i64 (z : Int), .slice (some ⟨b, o, none⟩) m cap, .pointer (some ⟨b6, 0, none⟩), .pointer (some ⟨b7, 0, none⟩), .pointer (some ⟨b8, 0, none⟩), undef, undef, .pointer (some ⟨b11, 0, none⟩), .pointer (some ⟨b12, 0, none⟩), .pointer (some ⟨b13, 0, none⟩), .pointer (some ⟨b14, 0, none⟩), .int .i64 (q.val : Int), undef, undef, undef, .int .i64 (x : Int), .agg #[.int .i64 (x : Int), .int .i64 0, .int .i64 63], .int .i64 (r : Int), .agg #[.int .i64 (r : Int), .int .i64 0, .int .i64 256], .int .i64 (t : Int), .agg #[.int .i64 (t : Int), .int .i64 0, .int .i64 63], .int .i64 (z : Int), .agg #[.int .i64 (z : Int), .int .i64 1, .int .i64 64], .slice (some ⟨b, o, none⟩) m cap, .int .i64 (m : Int), .agg #[.int .i64 (m : Int), .int .i64 1, .int .i64 4096], .slice (some ⟨b15, 0, none⟩) 5 5, .bool true, .bool false, .int .i64 (t : Int), .int .i64 (z : Int), .func (.func 33) #[] #[.pointer (some ⟨Bz, 0, none⟩), .pointer (some ⟨Bt, 0, none⟩)], .int .i64 (q.val : Int), undef, undef, undef, undef, undef, undef, undef, undef, undef, undef, undef, undef, undef, undef, undef, undef, undef, undef, undef, undef, undef, undef, undef, undef, undef, undef, undef, undef, undef, undef], defers := [] }) ?assign ?body ?done ?stop
  case stop =>
    rintro D c' pre W _ _ h _
    exact h.elim
  case assign =>
    intro l x W K hK
    gi_wp2
    exact hK
  case done =>
    rintro D ys W hD rfl ⟨⟨v, hv, hrow, -⟩, hB, hBw⟩ hK
    obtain ⟨l6, l7, l8, l11, l12, l13, l1213, l612⟩ := Hlt.out
    obtain ⟨k1, k2, k3⟩ := HL.out
    have B12 := Boxed.at hB (by omega) (by omega) HX2.out.2.2.2.2.1
    have B13 := Boxed.at hB (by omega) (by omega) HX2.out.2.2.2.2.2
    have c14 := hv.cell
    have c12 := B12.cell
    have c13 := B13.cell
    have r12 := B12.frozen
    have r13 := B13.frozen
    rw [cnts_len] at hrow
    obtain ⟨z', hzz⟩ : ∃ z', z = z' + 1 := ⟨z - 1, by omega⟩
    rw [hzz] at hrow
    obtain ⟨g', cap', rfl⟩ := ownsRow_succ hrow
    rw [← hzz] at hrow hv c14
    have HD : Hid (w2'.heap.size ≤ D ∧ W.heap[D]? = some (.deferred (some []))) := ⟨hD, hK⟩
    clear hzz z' hD hK
    gi_wp2
    have b1 := hv.cell
    have S12 := B12.set (.slice (some ⟨g', 0, none⟩) z cap')
    have h12 : (b12 : Nat) ≠ b13 := by omega
    have B13' := B13.kept (grownBy_setCell' W b12 (.slice (some ⟨g', 0, none⟩) z cap')) (by simp; omega)
    have S12' := S12.kept (grownBy_setCell' (W.setCell ⟨b12, 0, none⟩ (.slice (some ⟨g', 0, none⟩) z cap')) b13 (.int .i64 0)) (by simp; omega)
    have S13' := B13'.set (.int .i64 0)
    have hrow1 := hrow.kept (grownBy_setCell' W b12 (.slice (some ⟨g', 0, none⟩) z cap')) (.inr (B12.not_row (by decide) hrow).symm)
    have hrow2 := hrow1.kept (grownBy_setCell' (W.setCell ⟨b12, 0, none⟩ (.slice (some ⟨g', 0, none⟩) z cap')) b13 (.int .i64 0)) (.inr (B13'.not_row (by decide) hrow1).symm)
    have hK2 : ((W.setCell ⟨b12, 0, none⟩ (.slice (some ⟨g', 0, none⟩) z cap')).setCell ⟨b13, 0, none⟩ (.int .i64 0)).heap[D]? = some (.deferred (some [])) :=
      (Below.heap_setCell _ _ _ D (by have := HD.out.1; dsimp only; omega)).trans ((Below.heap_setCell _ _ _ D (by have := HD.out.1; dsimp only; omega)).trans HD.out.2)
    have hbl : Below w.heap.size w ((W.setCell ⟨b12, 0, none⟩ (.slice (some ⟨g', 0, none⟩) z cap')).setCell ⟨b13, 0, none⟩ (.int .i64 0)) := by
      rw [Hb6.out]
      exact ((HB3.out.trans (hBw.mono (by omega))).setCell (by dsimp only; omega) _).setCell (by dsimp only; omega) _
    generalize ((W.setCell ⟨b12, 0, none⟩ (.slice (some ⟨g', 0, none⟩) z cap')).setCell ⟨b13, 0, none⟩ (.int .i64 0)) = W2 at *
    have hrow3 := ownsRow_putObj hrow2 (.deferred none) hK2 rfl
    have hg := grownBy_putObj' W2 D (.deferred none)
    have F12 := (S12'.kept hg (by have := HD.out.1; simp; omega)).cell
    have F13 := (S13'.kept hg (by have := HD.out.1; simp; omega)).cell
    have hb3 : Below w.heap.size w (W2.putObj D (.deferred none)) := hbl.grown hg (by have := hbl.size; omega) (fun k e => by cases e; have := HD.out.1; rw [Hb6.out]; omega)
    refine ⟨by simp, .inl ⟨_, _, rfl, run_takeDeferred hK2, ?_⟩⟩
    generalize W2.putObj D (.deferred none) = W3 at *
    refine ⟨.tuple #[.slice (some ⟨g', 0, none⟩) z cap', .int .i64 0], by simp [results, Try.results13, go_sem, F12, F13], _, rfl, ?_, hb3⟩
    have hl : (cnts T z).map (fun q => Value.int .i64 (f (G q.val))) = il (fun k => f (G (t * z + k))) z := by
      rw [hT]
      unfold cnts il
      rw [List.map_map]
      refine List.map_congr_left fun k hk => ?_
      have hk2 := List.mem_range.1 hk
      show Value.int .i64 (f (G ((T + k) % 4096))) = _
      rw [Nat.mod_eq_of_lt (by omega)]
    rw [← hl]
    exact ownsRow_base hrow3 (by rw [Hb6.out]; omega)
  case body =>
    rintro l pre q W ⟨⟨v, hv, hrow, -⟩, hB, hBw⟩ hlt
    have HBw : Hid (Below b14 w2' W) := hBw
    clear hBw
    obtain ⟨l6, l7, l8, l11, l12, l13, -, -⟩ := Hlt.out
    obtain ⟨k1, k2, k3⟩ := HL.out
    have d6 := (Boxed.at hB (by omega) (by omega) HX2.out.1).cell
    have d7 := (Boxed.at hB (by omega) (by omega) HX2.out.2.1).cell
    have d8 := (Boxed.at hB (by omega) (by omega) HX2.out.2.2.1).cell
    have d11 := (Boxed.at hB (by omega) (by omega) HX2.out.2.2.2.1).cell
    have HGq := HG.out q.val q.isLt
    have hmap : Hid ((pre ++ [q]).map (fun q => Value.int .i64 (f (G q.val))) = pre.map (fun q => Value.int .i64 (f (G q.val))) ++ [.int .i64 (f (G q.val))] ∧ (pre ++ [q]).length = pre.length + 1) := by constructor <;> simp
    have HVR : Hid (Boxed W b14 26 v ∧ W.ownsRow n2 3 1 v pre.length (pre.map (fun q => Value.int .i64 (f (G q.val)))) ∧ Kept1 n2 b14 w2' W) := ⟨hv, hrow, hB⟩
    have HLt : Hid (w.heap.size < b14 ∧ b14 < Bt ∧ Bt < Bz ∧ Bz < n2 ∧ b11 < b14) := ⟨by rw [Hb6.out]; exact l6, k1, k2, k3, l11⟩
    clear hv hrow hB l6 l7 l8 l11 l12 l13 k1 k2 k3 cz ct HN2 HX2 Hlt HL
    have hq := q.isLt
    obtain ⟨qv, hqv⟩ : ∃ k, q.val = k := ⟨_, rfl⟩
    rw [hqv] at HGq hq hmap
    have HQ : Hid (q.val = qv) := hqv
    simp only [hqv]
    clear hqv
    obtain ⟨D, hD⟩ : ∃ D, qv / m = D := ⟨_, rfl⟩
    obtain ⟨R, hR⟩ : ∃ R, qv % m = R := ⟨_, rfl⟩
    obtain ⟨g, hg⟩ : ∃ g, G qv = g := ⟨_, rfl⟩
    rw [hD, hR, hg] at HGq
    rw [hg] at hmap
    have eq1 : ((qv : Nat) : Int).tdiv (m : Int) = (D : Int) := by rw [← hD, Int.tdiv_eq_ediv_of_nonneg (by omega), Int.natCast_ediv]
    have eq2 : ((qv : Nat) : Int).tmod (m : Int) = (R : Int) := by rw [← hR, Int.tmod_eq_emod_of_nonneg (by omega), Int.natCast_emod]
    have eq3 : (qv : Int) / (m : Int) = (D : Int) := by rw [← hD, Int.natCast_ediv]
    have eq4 : (qv : Int) % (m : Int) = (R : Int) := by rw [← hR, Int.natCast_emod]
    have hD1 : D ≤ 4096 := by rw [← hD]; exact Nat.le_trans (Nat.div_le_self _ _) (by omega)
    have hR1 : R < m := by rw [← hR]; exact Nat.mod_lt _ (by omega)
    have hg1 : g < m := HGq.lt
    have hm1 : ¬ (m : Int) = 0 := by omega
    have hm2 : ¬ m = 0 := by omega
    have hwD : IntKind.i64.wrap (D : Int) = (D : Int) := by simp only [IntKind.wrap_i64]; omega
    have hwR : IntKind.i64.wrap (R : Int) = (R : Int) := by simp only [IntKind.wrap_i64]; omega
    have hgI : (g : Int) < (m : Int) := by omega
    clear hD hR hg
    have CK : Hid (∀ V : World, Calls Try.prog 24 #[.int .u64 (s : Int), .int .i64 (x : Int), .int .i64 (r : Int), .int .i64 (D : Int)] V fun e w' => e = .returned (.agg #[.int .u64 (s : Int), .int .i64 2, .int .i64 (x : Int), .int .i64 (65536 * (r : Int) + (D : Int))]) ∧ Below V.heap.size V w') := fun V => passKey_any s x r D hr (by omega) V
    have CP : Hid (∀ V : World, Calls Try.prog 25 #[.agg #[.int .u64 (s : Int), .int .i64 2, .int .i64 (x : Int), .int .i64 (65536 * (r : Int) + (D : Int))], .int .i64 (m : Int), .int .i64 (R : Int)] V fun e w' => e = .returned (.tuple #[.int .i64 (g : Int), .int .i64 0]) ∧ Below V.heap.size V w') := fun V => by
      refine (pPlace_any s 2 (x : Int) _ m R ⟨hs, by omega, by omega, by omega, by omega, by omega, by omega⟩ hm0 (by omega) hR1 V).mono ?_
      rintro e w' ⟨y, rfl, hG2, hb⟩
      rw [hG2.one HGq]
      exact ⟨rfl, hb⟩
    obtain ⟨ck, hck⟩ : ∃ c : Int, 65536 * (r : Int) + (D : Int) = c := ⟨_, rfl⟩
    rw [hck] at CK CP
    clear HGq hck
    gi_wp2
    rename_i K0 hK0
    have REST : ∀ (bk : Nat) (w5 : World), K4 bk (.int .u64 (s : Int)) (.int .i64 2) (.int .i64 (x : Int)) (.int .i64 ck) w5 → Below W.heap.size W w5 → K0 { tmps := #[.int .u64 (s : Int), .int .i64 (x : Int), .int .i64 (r : Int), .int .i64 (t : Int), .int .i64 (z : Int), .slice (some ⟨b, o, none⟩) m cap, .pointer (some ⟨b6, 0, none⟩), .pointer (some ⟨b7, 0, none⟩), .pointer (some ⟨b8, 0, none⟩), undef, undef, .pointer (some ⟨b11, 0, none⟩), .pointer (some ⟨b12, 0, none⟩), .pointer (some ⟨b13, 0, none⟩), .pointer (some ⟨b14, 0, none⟩), .int .i64 (qv : Int), .pointer (some ⟨bk, 0, none⟩), undef, undef, .int .i64 (x : Int), .agg #[.int .i64 (x : Int), .int .i64 0, .int .i64 63], .int .i64 (r : Int), .agg #[.int .i64 (r : Int), .int .i64 0, .int .i64 256], .int .i64 (t : Int), .agg #[.int .i64 (t : Int), .int .i64 0, .int .i64 63], .int .i64 (z : Int), .agg #[.int .i64 (z : Int), .int .i64 1, .int .i64 64], .slice (some ⟨b, o, none⟩) m cap, .int .i64 (m : Int), .agg #[.int .i64 (m : Int), .int .i64 1, .int .i64 4096], .slice (some ⟨b15, 0, none⟩) 5 5, .bool true, .bool false, .int .i64 (t : Int), .int .i64 (z : Int), .func (.func 33) #[] #[.pointer (some ⟨Bz, 0, none⟩), .pointer (some ⟨Bt, 0, none⟩)], .int .i64 (qv : Int), .int .u64 (s : Int), .int .i64 (x : Int), .int .i64 (r : Int), .int .i64 (qv : Int), .slice (some ⟨b, o, none⟩) m cap, .int .i64 (m : Int), .int .i64 (D : Int), .agg #[.int .u64 (s : Int), .int .i64 2, .int .i64 (x : Int), .int .i64 ck], undef, undef, undef, undef, undef, undef, undef, undef, undef, undef, undef, undef, undef, undef, undef, undef, undef, undef, undef, undef, undef, undef], defers := [] } w5 := by
      intro bk w5 hK4 hb5
      clear CK d6 d7 d8
      have e11 := cell_later hb5 d11
      have e0 := hK4.c0
      have e1 := hK4.c1
      have e2 := hK4.c2
      have e3 := hK4.c3
      have HW5 : Hid (Below W.heap.size W w5) := hb5
      refine hK0 _ _ ?_
      clear hK0 K0 hK4 hb5 d11
      gi_wp2
      have hbD : Below w5.heap.size w5 w5.drew := (Below.refl _ _).drew
      refine region_round_held (fun W' => W'.cell? ⟨bk, 0, none⟩ = some (.int .u64 (s : Int)) ∧ W'.cell? ⟨bk, 1, none⟩ = some (.int .i64 2) ∧ W'.cell? ⟨bk, 2, none⟩ = some (.int .i64 (x : Int)) ∧ W'.cell? ⟨bk, 3, none⟩ = some (.int .i64 ck) ∧ W'.cell? ⟨b11, 0, none⟩ = some (.slice (some ⟨b, o, none⟩) m cap)) (by kernel_rfl) (by kernel_rfl) (by rintro ⟨_, _, h⟩; exact h) ⟨e0, e1, e2, e3, e11⟩ (fun HS => ?_)
      generalize w5.drew = w6 at *
      have HW6 : Hid (Below W.heap.size W w6) := bchain HW5.out hbD
      clear HW5 hbD e0 e1 e2 e3 e11
      refine wpAnyH_take (i := 0) (v := ?v8) rfl (by kernel_rfl) (by kernel_rfl) (by kernel_rfl) (fun _ _ _ h => h) (Or.inl ⟨by kernel_rfl, ?h8⟩) HS ?r8
      case h8 => (rintro w ⟨s1, s2, s3, s4, s5⟩; go_simp) <;> with_reducible rfl
      try simp only [Act.put, List.setIfInBounds_toArray, List.set_cons_zero, List.set_cons_succ]
      refine wpAnyH_take (i := 1) (v := ?v9) rfl (by kernel_rfl) (by kernel_rfl) (by kernel_rfl) (fun _ _ _ h => h) (Or.inl ⟨by kernel_rfl, ?h9⟩) HS ?r9
      case h9 => (rintro w ⟨s1, s2, s3, s4, s5⟩; go_simp) <;> with_reducible rfl
      try simp only [Act.put, List.setIfInBounds_toArray, List.set_cons_zero, List.set_cons_succ]
      refine wpAnyH_take (i := 2) (v := ?v10) rfl (by kernel_rfl) (by kernel_rfl) (by kernel_rfl) (fun _ _ _ h => h) (Or.inl ⟨by kernel_rfl, ?h10⟩) HS ?r10
      case h10 => (rintro w ⟨s1, s2, s3, s4, s5⟩; go_simp) <;> with_reducible rfl
      try simp only [Act.put, List.setIfInBounds_toArray, List.set_cons_zero, List.set_cons_succ]
      refine wpAnyH_take (i := 3) (v := ?v11) rfl (by kernel_rfl) (by kernel_rfl) (by kernel_rfl) (fun _ _ _ h => h) (Or.inl ⟨by kernel_rfl, ?h11⟩) HS ?r11
      case h11 => (rintro w ⟨s1, s2, s3, s4, s5⟩; go_simp) <;> with_reducible rfl
      try simp only [Act.put, List.setIfInBounds_toArray, List.set_cons_zero, List.set_cons_succ]
      refine wpAnyH_take (i := 4) (v := ?v12) rfl (by kernel_rfl) (by kernel_rfl) (by kernel_rfl) (fun _ _ _ h => h) (Or.inl ⟨by kernel_rfl, ?h12⟩) HS ?r12
      case h12 => (rintro w ⟨s1, s2, s3, s4, s5⟩; go_simp) <;> with_reducible rfl
      try simp only [Act.put, List.setIfInBounds_toArray, List.set_cons_zero, List.set_cons_succ]
      refine wpAnyH_take (i := 5) (v := ?v13) rfl (by kernel_rfl) (by kernel_rfl) (by kernel_rfl) (fun _ _ _ h => h) (Or.inl ⟨by kernel_rfl, ?h13⟩) HS ?r13
      case h13 => (rintro w ⟨s1, s2, s3, s4, s5⟩; go_simp) <;> with_reducible rfl
      try simp only [Act.put, List.setIfInBounds_toArray, List.set_cons_zero, List.set_cons_succ]
      refine wpAnyH_take (i := 6) (v := ?v14) rfl (by kernel_rfl) (by kernel_rfl) (by kernel_rfl) (fun _ _ _ h => h) (Or.inl ⟨by kernel_rfl, ?h14⟩) HS ?r14
      case h14 => (rintro w ⟨s1, s2, s3, s4, s5⟩; go_simp) <;> with_reducible rfl
      try simp only [Act.put, List.setIfInBounds_toArray, List.set_cons_zero, List.set_cons_succ]
      refine wpAnyH_ready (rs := [7]) (by kernel_rfl) (by simp) ?_
      refine AllReadyH.cons rfl (fun K hK => ?_) AllReadyH.nil
      go_simp
      refine (CP.out _).mono ?_
      rintro e w7 ⟨rfl, hb7⟩
      have HS3 := HS
      refine hK.out _ _ ⟨cell_later hb7 HS3.1, cell_later hb7 HS3.2.1, cell_later hb7 HS3.2.2.1, cell_later hb7 HS3.2.2.2.1, cell_later hb7 HS3.2.2.2.2⟩ (fun HS => ?_)
      clear hK K
      have HW7 : Hid (Below W.heap.size W w7) := bchain HW6.out hb7
      clear HW6 hb7 HS3
      try simp only [Act.put, List.setIfInBounds_toArray, List.set_cons_zero, List.set_cons_succ]
      refine wpAnyH_take (i := 8) (v := ?v15) rfl (by kernel_rfl) (by kernel_rfl) (by kernel_rfl) (fun _ _ _ h => h) (Or.inl ⟨by kernel_rfl, ?h15⟩) HS ?r15
      case h15 => (rintro w ⟨s1, s2, s3, s4, s5⟩; go_simp) <;> with_reducible rfl
      try simp only [Act.put, List.setIfInBounds_toArray, List.set_cons_zero, List.set_cons_succ]
      refine wpAnyH_take (i := 9) (v := ?v16) rfl (by kernel_rfl) (by kernel_rfl) (by kernel_rfl) (fun _ _ _ h => h) (Or.inl ⟨by kernel_rfl, ?h16⟩) HS ?r16
      case h16 => (rintro w ⟨s1, s2, s3, s4, s5⟩; go_simp) <;> with_reducible rfl
      try simp only [Act.put, List.setIfInBounds_toArray, List.set_cons_zero, List.set_cons_succ]
      refine wpAnyH_take (i := 10) (v := ?v17) rfl (by kernel_rfl) (by kernel_rfl) (by kernel_rfl) (fun _ _ _ h => h) (Or.inl ⟨by kernel_rfl, ?h17⟩) HS ?r17
      case h17 => (rintro w ⟨s1, s2, s3, s4, s5⟩; go_simp) <;> with_reducible rfl
      try simp only [Act.put, List.setIfInBounds_toArray, List.set_cons_zero, List.set_cons_succ]
      refine wpAnyH_take (i := 11) (v := ?v18) rfl (by kernel_rfl) (by kernel_rfl) (by kernel_rfl) (fun _ _ _ h => h) (Or.inl ⟨by kernel_rfl, ?h18⟩) HS ?r18
      case h18 => (rintro w ⟨s1, s2, s3, s4, s5⟩; go_simp) <;> with_reducible rfl
      try simp only [Act.put, List.setIfInBounds_toArray, List.set_cons_zero, List.set_cons_succ]
      refine wpAnyH_take (i := 12) (v := ?v19) rfl (by kernel_rfl) (by kernel_rfl) (by kernel_rfl) (fun _ _ _ h => h) (Or.inl ⟨by kernel_rfl, ?h19⟩) HS ?r19
      case h19 => (rintro w ⟨s1, s2, s3, s4, s5⟩; go_simp) <;> with_reducible rfl
      try simp only [Act.put, List.setIfInBounds_toArray, List.set_cons_zero, List.set_cons_succ]
      refine wpAnyH_done (by kernel_rfl) ?_ _
      have f11 := HS.2.2.2.2
      clear HS CP
      gi_wp2
      have hbD : Below w7.heap.size w7 w7.drew := (Below.refl _ _).drew
      have hb8 : Below W.heap.size W w7.drew := bchain HW7.out hbD
      have g11 : w7.drew.cell? ⟨b11, 0, none⟩ = some (.slice (some ⟨b, o, none⟩) m cap) := f11
      have g14 := (box_later HVR.out.1 hb8).cell
      have hE : W.cell? ⟨b, o + g, none⟩ = some (.int .i64 (f g)) := by
        have h0 := (HX.out g hg1).1
        have hlt0 := World.block_lt_of_cell? _ _ h0
        have hL := HLt.out
        have h1 : w2'.cell? ⟨b, o + g, none⟩ = some (.int .i64 (f g)) := cell_later (by rw [Hb6.out]; exact HB3.out) h0
        exact (World.cell?_of_block (w := w2') (HVR.out.2.2.2 b (by dsimp only at hlt0; omega) (by dsimp only at hlt0; omega))).trans h1
      have gE := cell_later hb8 hE
      have HR8 : Hid (w7.drew.ownsRow n2 3 1 v pre.length (pre.map (fun q => Value.int .i64 (f (G q.val))))) := own_later HVR.out.2.1 hb8
      have HB8 : Hid (Boxed w7.drew b14 26 v) := box_later HVR.out.1 hb8
      have HW8 : Hid (Below W.heap.size W w7.drew) := hb8
      refine region_round (by kernel_rfl) (by kernel_rfl) (by rintro ⟨_, _, h⟩; exact h) ?_
      clear f11 hE hb8 hbD HW7
      generalize w7.drew = w8 at *
      have t14 := cell_later (bel1 w8 (.cells #[.int .i64 (f g)] 3)) g14
      refine any_cut 2 #[true, true, true, true, true, true, false, false] { tmps := #[.int .u64 (s : Int), .int .i64 (x : Int), .int .i64 (r : Int), .int .i64 (t : Int), .int .i64 (z : Int), .slice (some ⟨b, o, none⟩) m cap, .pointer (some ⟨b6, 0, none⟩), .pointer (some ⟨b7, 0, none⟩), .pointer (some ⟨b8, 0, none⟩), undef, undef, .pointer (some ⟨b11, 0, none⟩), .pointer (some ⟨b12, 0, none⟩), .pointer (some ⟨b13, 0, none⟩), .pointer (some ⟨b14, 0, none⟩), .int .i64 (qv : Int), .pointer (some ⟨bk, 0, none⟩), .int .i64 (g : Int), .int .i64 0, .int .i64 (x : Int), .agg #[.int .i64 (x : Int), .int .i64 0, .int .i64 63], .int .i64 (r : Int), .agg #[.int .i64 (r : Int), .int .i64 0, .int .i64 256], .int .i64 (t : Int), .agg #[.int .i64 (t : Int), .int .i64 0, .int .i64 63], .int .i64 (z : Int), .agg #[.int .i64 (z : Int), .int .i64 1, .int .i64 64], .slice (some ⟨b, o, none⟩) m cap, .int .i64 (m : Int), .agg #[.int .i64 (m : Int), .int .i64 1, .int .i64 4096], .slice (some ⟨b15, 0, none⟩) 5 5, .bool true, .bool false, .int .i64 (t : Int), .int .i64 (z : Int), .func (.func 33) #[] #[.pointer (some ⟨Bz, 0, none⟩), .pointer (some ⟨Bt, 0, none⟩)], .int .i64 (qv : Int), .int .u64 (s : Int), .int .i64 (x : Int), .int .i64 (r : Int), .int .i64 (qv : Int), .slice (some ⟨b, o, none⟩) m cap, .int .i64 (m : Int), .int .i64 (D : Int), .agg #[.int .u64 (s : Int), .int .i64 2, .int .i64 (x : Int), .int .i64 ck], .tuple #[.int .i64 (g : Int), .int .i64 0], .agg #[.int .u64 (s : Int), .int .i64 2, .int .i64 (x : Int), .int .i64 ck], .slice (some ⟨b, o, none⟩) m cap, .int .i64 (m : Int), .int .i64 (qv : Int), .slice (some ⟨b, o, none⟩) m cap, .int .i64 (m : Int), .int .i64 (R : Int), .tuple #[.int .i64 (g : Int), .int .i64 0], .int .i64 (g : Int), .int .i64 0, .int .i64 0, .bool false, undef, v, .slice (some ⟨b, o, none⟩) m cap, .int .i64 (g : Int), .pointer (some ⟨b, o + g, none⟩), .int .i64 (f g), .slice (some ⟨w8.heap.size, 0, none⟩) 1 1, undef, undef], defers := [] } (w8.alloc (.cells #[.int .i64 (f g)] 3)) ?tail (fun TAIL => ?_)
      case tail =>
        obtain ⟨i0, hti, hy0, hy1, hy2⟩ := info_parts dinfo_int
        have hL := HLt.out
        have hrow8 := HR8.out
        have hsz : n2 ≤ w8.heap.size := Nat.le_trans HVR.out.2.2.1 HW8.out.size
        refine wpAny_ready (rs := [6]) (by kernel_rfl) (by simp) (ready_cons (op_law rfl (by kernel_rfl) ?_) AllReady.nil)
        refine wp_append_own _ _ _ 26 rfl n2 3 i0 (.int .i64 0) 1 8 Try.underlying26 hti hy0 hy1 hy2 rfl (by decide) v pre.length (pre.map (fun q => Value.int .i64 (f (G q.val)))) rfl (hrow8.alloc _) ⟨w8.heap.size, 0, none⟩ 1 1 [.int .i64 (f g)] rfl rfl (cell_one_new _ _ _) (ints_oneCell .i64 [f g]) (by unfold maxLen; omega) (by omega) (by rw [World.size_alloc]; omega) (fun v' w9 hown' hgrow hnil => ?_)
        obtain ⟨g', cap', rfl⟩ := ownsRow_succ hown'
        obtain ⟨z1, z2, z3, z4, z5, z6, z7⟩ := box_appended HW8.out HVR.out.2.2.1 (by omega) HB8.out (by decide) hrow8 hown' hgrow
        have c1 := z1.cell
        have c2 := z1.frozen
        try simp only [Act.put, List.setIfInBounds_toArray, List.set_cons_zero, List.set_cons_succ]
        refine wpAny_ready (rs := [7]) (by kernel_rfl) (by simp) (ready_cons (op_skip (w' := ?_) rfl (by kernel_rfl) ?hst ?rst) AllReady.nil)
        case hst => go_simp <;> with_reducible rfl
        refine wpAny_done (by kernel_rfl) ?_ _
        refine ⟨by rw [hn2]; exact z4, ⟨z5 Bz (by omega) (by omega), z5 Bt (by omega) (by omega)⟩, ⟨_, z2, by rw [hmap.out.1, hmap.out.2]; exact z3, trivial⟩, ⟨z6, fun k hk hkB => (z5 k hk hkB).trans (HVR.out.2.2.2 k hk hkB)⟩, HBw.out.trans z7⟩
      refine wpAny_take (i := 2) (v := ?v20) rfl (by kernel_rfl) (by kernel_rfl) (by kernel_rfl) (fun _ _ _ h => h) (Or.inl ⟨by kernel_rfl, ?h20⟩) ?r20
      case h20 => (intro w; go_simp) <;> with_reducible rfl
      try simp only [Act.put, List.setIfInBounds_toArray, List.set_cons_zero, List.set_cons_succ]
      refine wpAny_ready (rs := [0, 1]) (by kernel_rfl) (by simp) (ready_cons ?_ (ready_cons ?_ AllReady.nil))
      · refine op_val (v := ?v21) rfl (by kernel_rfl) ?h21 ?r21
        case h21 => go_simp <;> with_reducible rfl
        try simp only [Act.put, List.setIfInBounds_toArray, List.set_cons_zero, List.set_cons_succ]
        refine wpAny_ready (rs := [1]) (by kernel_rfl) (by simp) (ready_cons ?_ AllReady.nil)
        · refine op_val (v := ?v22) rfl (by kernel_rfl) ?h22 ?r22
          case h22 => go_simp <;> with_reducible rfl
          try simp only [Act.put, List.setIfInBounds_toArray, List.set_cons_zero, List.set_cons_succ]
          refine wpAny_take (i := 3) (v := ?v23) rfl (by kernel_rfl) (by kernel_rfl) (by kernel_rfl) (fun _ _ _ h => h) (Or.inl ⟨by kernel_rfl, ?h23⟩) ?r23
          case h23 => (intro w; go_simp) <;> with_reducible rfl
          try simp only [Act.put, List.setIfInBounds_toArray, List.set_cons_zero, List.set_cons_succ]
          refine wpAny_ready (rs := [4]) (by kernel_rfl) (by simp) (ready_cons ?_ AllReady.nil)
          · refine op_val (v := ?v24) rfl (by kernel_rfl) ?h24 ?r24
            case h24 => go_simp <;> with_reducible rfl
            try simp only [Act.put, List.setIfInBounds_toArray, List.set_cons_zero, List.set_cons_succ]
            refine wpAny_ready (rs := [5]) (by kernel_rfl) (by simp) (ready_cons ?_ AllReady.nil)
            · refine op_valw (w' := w8.alloc (.cells #[.int .i64 (f g)] 3)) (v := .slice (some ⟨w8.heap.size, 0, none⟩) 1 1) rfl (by kernel_rfl) ?h25 ?r25
              case h25 => go_simp
              try simp only [Act.put, List.setIfInBounds_toArray, List.set_cons_zero, List.set_cons_succ]
              refine any_eq (listed' := #[true, true, true, true, true, true, false, false]) (by kernel_rfl) ?_
              exact TAIL
      · refine op_val (v := ?v26) rfl (by kernel_rfl) ?h26 ?r26
        case h26 => go_simp <;> with_reducible rfl
        try simp only [Act.put, List.setIfInBounds_toArray, List.set_cons_zero, List.set_cons_succ]
        refine wpAny_take (i := 3) (v := ?v27) rfl (by kernel_rfl) (by kernel_rfl) (by kernel_rfl) (fun _ _ _ h => h) (Or.inl ⟨by kernel_rfl, ?h27⟩) ?r27
        case h27 => (intro w; go_simp) <;> with_reducible rfl
        try simp only [Act.put, List.setIfInBounds_toArray, List.set_cons_zero, List.set_cons_succ]
        refine wpAny_ready (rs := [0, 4]) (by kernel_rfl) (by simp) (ready_cons ?_ (ready_cons ?_ AllReady.nil))
        · refine op_val (v := ?v28) rfl (by kernel_rfl) ?h28 ?r28
          case h28 => go_simp <;> with_reducible rfl
          try simp only [Act.put, List.setIfInBounds_toArray, List.set_cons_zero, List.set_cons_succ]
          refine wpAny_ready (rs := [4]) (by kernel_rfl) (by simp) (ready_cons ?_ AllReady.nil)
          · refine op_val (v := ?v29) rfl (by kernel_rfl) ?h29 ?r29
            case h29 => go_simp <;> with_reducible rfl
            try simp only [Act.put, List.setIfInBounds_toArray, List.set_cons_zero, List.set_cons_succ]
            refine wpAny_ready (rs := [5]) (by kernel_rfl) (by simp) (ready_cons ?_ AllReady.nil)
            · refine op_valw (w' := w8.alloc (.cells #[.int .i64 (f g)] 3)) (v := .slice (some ⟨w8.heap.size, 0, none⟩) 1 1) rfl (by kernel_rfl) ?h30 ?r30
              case h30 => go_simp
              try simp only [Act.put, List.setIfInBounds_toArray, List.set_cons_zero, List.set_cons_succ]
              refine any_eq (listed' := #[true, true, true, true, true, true, false, false]) (by kernel_rfl) ?_
              exact TAIL
        · refine op_val (v := ?v31) rfl (by kernel_rfl) ?h31 ?r31
          case h31 => go_simp <;> with_reducible rfl
          try simp only [Act.put, List.setIfInBounds_toArray, List.set_cons_zero, List.set_cons_succ]
          refine wpAny_ready (rs := [0, 5]) (by kernel_rfl) (by simp) (ready_cons ?_ (ready_cons ?_ AllReady.nil))
          · refine op_val (v := ?v32) rfl (by kernel_rfl) ?h32 ?r32
            case h32 => go_simp <;> with_reducible rfl
            try simp only [Act.put, List.setIfInBounds_toArray, List.set_cons_zero, List.set_cons_succ]
            refine wpAny_ready (rs := [5]) (by kernel_rfl) (by simp) (ready_cons ?_ AllReady.nil)
            · refine op_valw (w' := w8.alloc (.cells #[.int .i64 (f g)] 3)) (v := .slice (some ⟨w8.heap.size, 0, none⟩) 1 1) rfl (by kernel_rfl) ?h33 ?r33
              case h33 => go_simp
              try simp only [Act.put, List.setIfInBounds_toArray, List.set_cons_zero, List.set_cons_succ]
              refine any_eq (listed' := #[true, true, true, true, true, true, false, false]) (by kernel_rfl) ?_
              exact TAIL
          · refine op_valw (w' := w8.alloc (.cells #[.int .i64 (f g)] 3)) (v := .slice (some ⟨w8.heap.size, 0, none⟩) 1 1) rfl (by kernel_rfl) ?h34 ?r34
            case h34 => go_simp
            try simp only [Act.put, List.setIfInBounds_toArray, List.set_cons_zero, List.set_cons_succ]
            refine wpAny_ready (rs := [0]) (by kernel_rfl) (by simp) (ready_cons ?_ AllReady.nil)
            · refine op_val (v := ?v35) rfl (by kernel_rfl) ?h35 ?r35
              case h35 => go_simp <;> with_reducible rfl
              try simp only [Act.put, List.setIfInBounds_toArray, List.set_cons_zero, List.set_cons_succ]
              refine any_eq (listed' := #[true, true, true, true, true, true, false, false]) (by kernel_rfl) ?_
              exact TAIL
    clear hK0
    have hbD : Below W.heap.size W W.drew := (Below.refl _ _).drew
    refine region_round_held (fun W' => W'.cell? ⟨b6, 0, none⟩ = some (.int .u64 (s : Int)) ∧ W'.cell? ⟨b7, 0, none⟩ = some (.int .i64 (x : Int)) ∧ W'.cell? ⟨b8, 0, none⟩ = some (.int .i64 (r : Int)) ∧ W'.cell? ⟨b11, 0, none⟩ = some (.slice (some ⟨b, o, none⟩) m cap)) (by kernel_rfl) (by kernel_rfl) (by rintro ⟨_, _, h⟩; exact h) ⟨d6, d7, d8, d11⟩ (fun HS => ?_)
    generalize W.drew = WD at *
    refine wpAnyH_take (i := 0) (v := ?v1) rfl (by kernel_rfl) (by kernel_rfl) (by kernel_rfl) (fun _ _ _ h => h) (Or.inl ⟨by kernel_rfl, ?h1⟩) HS ?r1
    case h1 => (rintro w ⟨s1, s2, s3, s4⟩; go_simp) <;> with_reducible rfl
    try simp only [Act.put, List.setIfInBounds_toArray, List.set_cons_zero, List.set_cons_succ]
    refine wpAnyH_take (i := 1) (v := ?v2) rfl (by kernel_rfl) (by kernel_rfl) (by kernel_rfl) (fun _ _ _ h => h) (Or.inl ⟨by kernel_rfl, ?h2⟩) HS ?r2
    case h2 => (rintro w ⟨s1, s2, s3, s4⟩; go_simp) <;> with_reducible rfl
    try simp only [Act.put, List.setIfInBounds_toArray, List.set_cons_zero, List.set_cons_succ]
    refine wpAnyH_take (i := 2) (v := ?v3) rfl (by kernel_rfl) (by kernel_rfl) (by kernel_rfl) (fun _ _ _ h => h) (Or.inl ⟨by kernel_rfl, ?h3⟩) HS ?r3
    case h3 => (rintro w ⟨s1, s2, s3, s4⟩; go_simp) <;> with_reducible rfl
    try simp only [Act.put, List.setIfInBounds_toArray, List.set_cons_zero, List.set_cons_succ]
    refine wpAnyH_take (i := 3) (v := ?v4) rfl (by kernel_rfl) (by kernel_rfl) (by kernel_rfl) (fun _ _ _ h => h) (Or.inl ⟨by kernel_rfl, ?h4⟩) HS ?r4
    case h4 => (rintro w ⟨s1, s2, s3, s4⟩; go_simp) <;> with_reducible rfl
    try simp only [Act.put, List.setIfInBounds_toArray, List.set_cons_zero, List.set_cons_succ]
    refine wpAnyH_take (i := 4) (v := ?v5) rfl (by kernel_rfl) (by kernel_rfl) (by kernel_rfl) (fun _ _ _ h => h) (Or.inl ⟨by kernel_rfl, ?h5⟩) HS ?r5
    case h5 => (rintro w ⟨s1, s2, s3, s4⟩; go_simp) <;> with_reducible rfl
    try simp only [Act.put, List.setIfInBounds_toArray, List.set_cons_zero, List.set_cons_succ]
    refine wpAnyH_take (i := 5) (v := ?v6) rfl (by kernel_rfl) (by kernel_rfl) (by kernel_rfl) (fun _ _ _ h => h) (Or.inl ⟨by kernel_rfl, ?h6⟩) HS ?r6
    case h6 => (rintro w ⟨s1, s2, s3, s4⟩; go_simp) <;> with_reducible rfl
    try simp only [Act.put, List.setIfInBounds_toArray, List.set_cons_zero, List.set_cons_succ]
    refine wpAnyH_take (i := 6) (v := ?v7) rfl (by kernel_rfl) (by kernel_rfl) (by kernel_rfl) (fun _ _ _ h => h) (Or.inl ⟨by kernel_rfl, ?h7⟩) HS ?r7
    case h7 => (rintro w ⟨s1, s2, s3, s4⟩; go_simp) <;> with_reducible rfl
    try simp only [Act.put, List.setIfInBounds_toArray, List.set_cons_zero, List.set_cons_succ]
    refine wpAnyH_ready (rs := [7, 8]) (by kernel_rfl) (by simp) ?_
    refine AllReadyH.cons rfl (fun K hK => ?_) (AllReadyH.cons rfl (fun K hK => ?_) AllReadyH.nil)
    · go_simp
      refine (CK.out _).mono ?_
      rintro e w3 ⟨rfl, hb3⟩
      have HS3 := HS
      refine hK.out _ _ ⟨cell_later hb3 HS3.1, cell_later hb3 HS3.2.1, cell_later hb3 HS3.2.2.1, cell_later hb3 HS3.2.2.2⟩ (fun HS => ?_)
      clear hK K
      refine wpAnyH_ready (rs := [8]) (by kernel_rfl) (by simp) ?_
      refine AllReadyH.cons rfl (fun K hK => ?_) AllReadyH.nil
      go_simp
      refine hK.out _ _ ⟨cell_later (bel1 _ _) HS.1, cell_later (bel1 _ _) HS.2.1, cell_later (bel1 _ _) HS.2.2.1, cell_later (bel1 _ _) HS.2.2.2⟩ (fun HS4 => ?_)
      clear hK K
      refine wpAnyH_ready (rs := [9]) (by kernel_rfl) (by simp) ?_
      refine AllReadyH.cons rfl (fun K hK => ?_) AllReadyH.nil
      go_simp
      refine hK.out _ _ ⟨cell_later (bel1 _ _) HS.1, cell_later (bel1 _ _) HS.2.1, cell_later (bel1 _ _) HS.2.2.1, cell_later (bel1 _ _) HS.2.2.2⟩ (fun HS4 => ?_)
      clear hK K
      refine wpAnyH_done (by kernel_rfl) ?_ _
      exact REST w3.heap.size _ ⟨by simp [go_sem], by simp [go_sem], by simp [go_sem], by simp [go_sem]⟩ (bchain (bchain hbD hb3) (bel1 _ _))
    · go_simp
      have HS1 := HS
      refine hK.out _ _ ⟨cell_later (bel1 _ _) HS1.1, cell_later (bel1 _ _) HS1.2.1, cell_later (bel1 _ _) HS1.2.2.1, cell_later (bel1 _ _) HS1.2.2.2⟩ (fun HS => ?_)
      clear hK K
      have hk0 : K4 WD.heap.size (.int .u64 0) (.int .i64 0) (.int .i64 0) (.int .i64 0) (WD.alloc (.cells #[.int .u64 0, .int .i64 0, .int .i64 0, .int .i64 0] 51)) := ⟨by simp [go_sem], by simp [go_sem], by simp [go_sem], by simp [go_sem]⟩
      have hf0 : ∀ i, (WD.alloc (.cells #[.int .u64 0, .int .i64 0, .int .i64 0, .int .i64 0] 51)).frozen? ⟨WD.heap.size, i, none⟩ = false := fun i => by simp [go_sem]
      have hbA : Below W.heap.size W (WD.alloc (.cells #[.int .u64 0, .int .i64 0, .int .i64 0, .int .i64 0] 51)) := bchain hbD (bel1 _ _)
      have hsD : W.heap.size ≤ WD.heap.size := hbD.size
      generalize WD.alloc (.cells #[.int .u64 0, .int .i64 0, .int .i64 0, .int .i64 0] 51) = WA at *
      refine wpAnyH_ready (rs := [7]) (by kernel_rfl) (by simp) ?_
      refine AllReadyH.cons rfl (fun K hK => ?_) AllReadyH.nil
      go_simp
      refine (CK.out _).mono ?_
      rintro e w3 ⟨rfl, hb3⟩
      have HS3 := HS
      refine hK.out _ _ ⟨cell_later hb3 HS3.1, cell_later hb3 HS3.2.1, cell_later hb3 HS3.2.2.1, cell_later hb3 HS3.2.2.2⟩ (fun HS => ?_)
      clear hK K
      have hk1 := hk0.later hb3
      have q0 := hk1.c0
      have q1 := hk1.c1
      have q2 := hk1.c2
      have q3 := hk1.c3
      have p0 := frozen_later hb3 hk0.c0 (hf0 0)
      have p1 := frozen_later hb3 hk0.c1 (hf0 1)
      have p2 := frozen_later hb3 hk0.c2 (hf0 2)
      have p3 := frozen_later hb3 hk0.c3 (hf0 3)
      refine wpAnyH_ready (rs := [9]) (by kernel_rfl) (by simp) ?_
      refine AllReadyH.cons rfl (fun K hK => ?_) AllReadyH.nil
      go_simp
      have n1 := World.block_lt_of_cell? _ _ HS1.1
      have n2' := World.block_lt_of_cell? _ _ HS1.2.1
      have n3 := World.block_lt_of_cell? _ _ HS1.2.2.1
      have n4 := World.block_lt_of_cell? _ _ HS1.2.2.2
      refine hK.out _ _ ⟨cell_set4 (by omega) HS.1, cell_set4 (by omega) HS.2.1, cell_set4 (by omega) HS.2.2.1, cell_set4 (by omega) HS.2.2.2⟩ (fun HS4 => ?_)
      clear hK K
      refine wpAnyH_done (by kernel_rfl) ?_ _
      exact REST WD.heap.size _ hk1.stored (((((bchain hbA hb3).setCell (by exact hsD) _).setCell (by exact hsD) _).setCell (by exact hsD) _).setCell (by exact hsD) _)
end Go.Proofs.Ytaifihfiompgaaa
