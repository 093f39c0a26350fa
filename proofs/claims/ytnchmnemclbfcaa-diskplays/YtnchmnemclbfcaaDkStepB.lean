/-
  Layer 15: a step of a play, of both disks: Flush, Arm, Crash, nothing.
-/
import Derived.Test.YtnchmnemclbfcaaDkStepA
set_option linter.unusedVariables false
set_option linter.unusedSimpArgs false
namespace Go.Proofs.Ytnchmnemclbfcaa
open Go.RowKit

/-- The step in its box. -/
structure Bo (bo : Nat) (k i : Int) (vb vf : Value) (w : World) : Prop where
  x0 : w.cell? ⟨bo, 0, none⟩ = some (.int .i64 k)
  x1 : w.cell? ⟨bo, 1, none⟩ = some (.int .i64 i)
  x2 : w.cell? ⟨bo, 2, none⟩ = some vb
  x3 : w.cell? ⟨bo, 3, none⟩ = some vf
theorem Bo.blk {bo : Nat} {k i : Int} {vb vf : Value} {w w' : World} (h : Bo bo k i vb vf w) (e : w'.heap[bo]? = w.heap[bo]?) : Bo bo k i vb vf w' :=
  ⟨cell_blk5 (a := ⟨bo, 0, none⟩) e h.x0, cell_blk5 (a := ⟨bo, 1, none⟩) e h.x1, cell_blk5 (a := ⟨bo, 2, none⟩) e h.x2, cell_blk5 (a := ⟨bo, 3, none⟩) e h.x3⟩
theorem Bo.later {bo : Nat} {k i : Int} {vb vf : Value} {w w' : World} (h : Bo bo k i vb vf w) (e : Below w.heap.size w w') : Bo bo k i vb vf w' :=
  ⟨cell_later e h.x0, cell_later e h.x1, cell_later e h.x2, cell_later e h.x3⟩
/-- What is older than the law is as it was. -/
theorem Fts.upto {w0 w w' : World} {v : Value} {fs : List (Int × Int)} (h : Fts w v fs) (k : Below w0.heap.size w0 w) (k' : Below w0.heap.size w0 w') (hl : Lo w0.heap.size v) : Fts w' v fs := by
  obtain ⟨ad, cap, b, o, rfl, h2, h3, h4, h5⟩ := h
  refine ⟨ad, cap, b, o, rfl, h2, h3, h4, fun j hj => ?_⟩
  have e := h4 (by omega)
  subst e
  have hb := hl ⟨b, o, none⟩ _ cap rfl (by omega)
  have eb : w'.heap[b]? = w.heap[b]? := (k'.block b hb).trans (k.block b hb).symm
  exact ⟨cell_blk5 (a := ⟨b, o + j * 2, none⟩) eb (h5 j hj).1, cell_blk5 (a := ⟨b, o + j * 2 + 1, none⟩) eb (h5 j hj).2⟩
theorem Bs.upto0 {w0 w w' : World} {v : Value} {l : List Nat} (h : Bs w v l) (k : Below w0.heap.size w0 w) (k' : Below w0.heap.size w0 w') (hl : Lo w0.heap.size v) : Bs w' v l :=
  bs_blk h (fun a n c e hn => (k'.block _ (hl a n c e hn)).trans (k.block _ (hl a n c e hn)).symm)
/-- How a step ends. -/
def StE (V : Disk1) (w0 : World) (d r : Value) (s : Dsk) (e : Ending) (w' : World) : Prop := e = .returned (.bool true) ∧ ∃ s', D2 V w0 w' d r s' s' (fun _ => False) ∧ s'.un.length ≤ s.un.length + 1 ∧ s'.bl.length = s.bl.length
theorem flS_len (s : Dsk) : (flS s).un.length ≤ s.un.length + 1 ∧ (flS s).bl.length = s.bl.length := by
  unfold flS
  split
  · exact ⟨by omega, rfl⟩
  · split
    · exact ⟨Nat.zero_le _, lay_len _ _⟩
    · rw [(dGone_bl s).1, (dGone_bl s).2]; exact ⟨by omega, rfl⟩
theorem wrS_len (s : Dsk) (i : Int) (b : List Nat) : (wrS s i b).un.length ≤ s.un.length + 1 ∧ (wrS s i b).bl.length = s.bl.length := by
  unfold wrS
  split
  · exact ⟨by omega, rfl⟩
  · rw [(dGone_bl _).1, (dGone_bl _).2]; exact ⟨by rw [List.length_append]; exact Nat.le_refl _, rfl⟩
theorem crS_len (s : Dsk) (fs : List (Int × Int)) : (crS s fs).un.length ≤ s.un.length + 1 ∧ (crS s fs).bl.length = s.bl.length := ⟨Nat.zero_le _, fall_len _ _ _⟩
theorem ow_ou {w0 w w' : World} {N : Nat → Prop} {v : Value} (ho : Ow w.heap.size v) (hl : Lo w'.heap.size v) : Ou w0.heap.size (fun i => N i ∨ (w.heap.size ≤ i ∧ i < w'.heap.size)) v := fun a n c e hn => Or.inr (Or.inr ⟨ho a n c e hn, hl a n c e hn⟩)
set_option maxRecDepth 100000 in
set_option maxHeartbeats 16000000 in
theorem step15_3 (V : Disk1) (w0 w : World) (d r : Value) (s : Dsk) (h : D2 V w0 w d r s s (fun _ => False)) (hu : s.un.length ≤ 900) (i : Int) (hi : Bd64 i) (vb vf : Value) (b : List Nat) (fs : List (Int × Int)) (hb : Bs w vb b) (hbl : b.length ≤ 300) (hbb : ∀ c ∈ b, c < 256) (hlb : Lo w0.heap.size vb) (hf : Fts w vf fs) (hfl : fs.length ≤ 100) (hlf : Lo w0.heap.size vf) :
    Calls Try.prog 13 #[d, r, .agg #[.int .i64 3, .int .i64 i, vb, vf]] w fun e w' => StE V w0 d r s e w' := by
  obtain ⟨ab, pb, rfl, -, -⟩ := hb.len
  obtain ⟨af, pf, rfl, -, -⟩ := hf.len
  obtain ⟨nb, hnb⟩ : ∃ nb, b.length = nb := ⟨_, rfl⟩
  obtain ⟨nf, hnf⟩ : ∃ nf, fs.length = nf := ⟨_, rfl⟩
  have HN : Hid (b.length = nb ∧ nb ≤ 300 ∧ fs.length = nf ∧ nf ≤ 100 ∧ s.un.length ≤ 900) := ⟨hnb, by omega, hnf, by omega, hu⟩
  rw [hnb] at hb hlb ⊢
  rw [hnf] at hf hlf ⊢
  obtain ⟨w1, hw1⟩ : ∃ w1, w1 = w.alloc (.cells #[.int .i64 3, .int .i64 i, .slice ab nb pb, .slice af nf pf] 35) := ⟨_, rfl⟩
  obtain ⟨bo, hbo⟩ : ∃ bo, w.heap.size = bo := ⟨_, rfl⟩
  have hk1 : Below w.heap.size w w1 := by rw [hw1]; exact bel1 _ _
  have HB : Hid (Bs w1 (.slice ab nb pb) b ∧ (∀ c ∈ b, c < 256) ∧ Lo w0.heap.size (.slice ab nb pb) ∧ Fts w1 (.slice af nf pf) fs ∧ Lo w0.heap.size (.slice af nf pf) ∧ Bd64 i) := ⟨hb.later hk1, hbb, hlb, hf.later hk1, hlf, hi⟩
  have HD : Hid (D2 V w0 w1 d r s s (fun k => bo ≤ k ∧ k < w1.heap.size)) := (h.later hk1).weak (fun k hk => Or.inr (by rw [hbo]; exact hk))
  have HX : Hid (Bo bo 3 i (.slice ab nb pb) (.slice af nf pf) w1 ∧ w1.heap.size = bo + 1) := ⟨by rw [hw1, ← hbo]; exact ⟨by simp [go_sem], by simp [go_sem], by simp [go_sem], by simp [go_sem]⟩, by rw [hw1, World.size_alloc, hbo]⟩
  clear hb hbl hbb hlb hf hfl hlf hi hk1 h hu hnb hnf
  go_enter Try.func13, Try.ntmps13
  go_upto_region 1 with fail
  rw [← hw1]
  clear hw1
  try rw [hbo]
  clear hbo
  have x0 := HX.out.1.x0
  have x1 := HX.out.1.x1
  have x2 := HX.out.1.x2
  have x3 := HX.out.1.x3
  go_wp2_with fail
  refine (d2FlR HD.out (by have := HN.out; omega)).mono ?_
  rintro e w2 ⟨rfl, hD2, -⟩
  have HD2 : Hid (D2 V w0 w2 d r s (flS s) (fun k => bo ≤ k ∧ k < w1.heap.size)) := hD2
  clear hD2 HD x0 x1 x2 x3
  go_wp2_with fail
  refine (d2FlD HD2.out (by have := HN.out; omega)).mono ?_
  rintro e w3 ⟨rfl, hD3, -⟩
  have HD3 : Hid (D2 V w0 w3 d r (flS s) (flS s) (fun _ => False)) := hD3.weak (fun k hk => hk.elim)
  clear hD3 HD2
  have HF := hid5 (flS_len s)
  generalize flE s = E at *
  go_wp2
  go_ret
  exact ⟨by simp, flS s, HD3.out, HF.out⟩
set_option maxRecDepth 100000 in
set_option maxHeartbeats 16000000 in
theorem step15_4 (V : Disk1) (w0 w : World) (d r : Value) (s : Dsk) (h : D2 V w0 w d r s s (fun _ => False)) (hu : s.un.length ≤ 900) (i : Int) (hi : Bd64 i) (vb vf : Value) (b : List Nat) (fs : List (Int × Int)) (hb : Bs w vb b) (hbl : b.length ≤ 300) (hbb : ∀ c ∈ b, c < 256) (hlb : Lo w0.heap.size vb) (hf : Fts w vf fs) (hfl : fs.length ≤ 100) (hlf : Lo w0.heap.size vf) :
    Calls Try.prog 13 #[d, r, .agg #[.int .i64 4, .int .i64 i, vb, vf]] w fun e w' => StE V w0 d r s e w' := by
  obtain ⟨ab, pb, rfl, -, -⟩ := hb.len
  obtain ⟨af, pf, rfl, -, -⟩ := hf.len
  obtain ⟨nb, hnb⟩ : ∃ nb, b.length = nb := ⟨_, rfl⟩
  obtain ⟨nf, hnf⟩ : ∃ nf, fs.length = nf := ⟨_, rfl⟩
  have HN : Hid (b.length = nb ∧ nb ≤ 300 ∧ fs.length = nf ∧ nf ≤ 100 ∧ s.un.length ≤ 900) := ⟨hnb, by omega, hnf, by omega, hu⟩
  rw [hnb] at hb hlb ⊢
  rw [hnf] at hf hlf ⊢
  obtain ⟨w1, hw1⟩ : ∃ w1, w1 = w.alloc (.cells #[.int .i64 4, .int .i64 i, .slice ab nb pb, .slice af nf pf] 35) := ⟨_, rfl⟩
  obtain ⟨bo, hbo⟩ : ∃ bo, w.heap.size = bo := ⟨_, rfl⟩
  have hk1 : Below w.heap.size w w1 := by rw [hw1]; exact bel1 _ _
  have HB : Hid (Bs w1 (.slice ab nb pb) b ∧ (∀ c ∈ b, c < 256) ∧ Lo w0.heap.size (.slice ab nb pb) ∧ Fts w1 (.slice af nf pf) fs ∧ Lo w0.heap.size (.slice af nf pf) ∧ Bd64 i) := ⟨hb.later hk1, hbb, hlb, hf.later hk1, hlf, hi⟩
  have HD : Hid (D2 V w0 w1 d r s s (fun k => bo ≤ k ∧ k < w1.heap.size)) := (h.later hk1).weak (fun k hk => Or.inr (by rw [hbo]; exact hk))
  have HX : Hid (Bo bo 4 i (.slice ab nb pb) (.slice af nf pf) w1 ∧ w1.heap.size = bo + 1) := ⟨by rw [hw1, ← hbo]; exact ⟨by simp [go_sem], by simp [go_sem], by simp [go_sem], by simp [go_sem]⟩, by rw [hw1, World.size_alloc, hbo]⟩
  clear hb hbl hbb hlb hf hfl hlf hi hk1 h hu hnb hnf
  go_enter Try.func13, Try.ntmps13
  go_upto_region 1 with fail
  rw [← hw1]
  clear hw1
  try rw [hbo]
  clear hbo
  have x0 := HX.out.1.x0
  have x1 := HX.out.1.x1
  have x2 := HX.out.1.x2
  have x3 := HX.out.1.x3
  go_wp2_with fail
  refine (d2ArD HD.out i HB.out.2.2.2.2.2).mono ?_
  rintro e w2 ⟨rfl, hD2, hK2⟩
  have HX2 := hid5 (HX.out.1.blk (hK2 bo ⟨Nat.le_refl _, by have := HX.out.2; omega⟩))
  have HD2 : Hid (D2 V w0 w2 d r (arS s i) s (fun k => bo ≤ k ∧ k < w1.heap.size)) := hD2
  clear hD2 hK2 HD x0 x1 x2 x3
  have x1 := HX2.out.x1
  go_wp2_with fail
  refine (d2ArR HD2.out i HB.out.2.2.2.2.2).mono ?_
  rintro e w3 ⟨rfl, hD3, -⟩
  have HD3 : Hid (D2 V w0 w3 d r (arS s i) (arS s i) (fun _ => False)) := hD3.weak (fun k hk => hk.elim)
  clear hD3 HD2 x1
  go_wp2
  go_ret
  exact ⟨rfl, arS s i, HD3.out, by show s.un.length ≤ _; omega, rfl⟩
set_option maxRecDepth 100000 in
set_option maxHeartbeats 16000000 in
theorem step15_5 (V : Disk1) (w0 w : World) (d r : Value) (s : Dsk) (h : D2 V w0 w d r s s (fun _ => False)) (hu : s.un.length ≤ 900) (i : Int) (hi : Bd64 i) (vb vf : Value) (b : List Nat) (fs : List (Int × Int)) (hb : Bs w vb b) (hbl : b.length ≤ 300) (hbb : ∀ c ∈ b, c < 256) (hlb : Lo w0.heap.size vb) (hf : Fts w vf fs) (hfl : fs.length ≤ 100) (hlf : Lo w0.heap.size vf) :
    Calls Try.prog 13 #[d, r, .agg #[.int .i64 5, .int .i64 i, vb, vf]] w fun e w' => StE V w0 d r s e w' := by
  obtain ⟨ab, pb, rfl, -, -⟩ := hb.len
  obtain ⟨af, pf, rfl, -, -⟩ := hf.len
  obtain ⟨nb, hnb⟩ : ∃ nb, b.length = nb := ⟨_, rfl⟩
  obtain ⟨nf, hnf⟩ : ∃ nf, fs.length = nf := ⟨_, rfl⟩
  have HN : Hid (b.length = nb ∧ nb ≤ 300 ∧ fs.length = nf ∧ nf ≤ 100 ∧ s.un.length ≤ 900) := ⟨hnb, by omega, hnf, by omega, hu⟩
  rw [hnb] at hb hlb ⊢
  rw [hnf] at hf hlf ⊢
  obtain ⟨w1, hw1⟩ : ∃ w1, w1 = w.alloc (.cells #[.int .i64 5, .int .i64 i, .slice ab nb pb, .slice af nf pf] 35) := ⟨_, rfl⟩
  obtain ⟨bo, hbo⟩ : ∃ bo, w.heap.size = bo := ⟨_, rfl⟩
  have hk1 : Below w.heap.size w w1 := by rw [hw1]; exact bel1 _ _
  have HB : Hid (Bs w1 (.slice ab nb pb) b ∧ (∀ c ∈ b, c < 256) ∧ Lo w0.heap.size (.slice ab nb pb) ∧ Fts w1 (.slice af nf pf) fs ∧ Lo w0.heap.size (.slice af nf pf) ∧ Bd64 i) := ⟨hb.later hk1, hbb, hlb, hf.later hk1, hlf, hi⟩
  have HD : Hid (D2 V w0 w1 d r s s (fun k => bo ≤ k ∧ k < w1.heap.size)) := (h.later hk1).weak (fun k hk => Or.inr (by rw [hbo]; exact hk))
  have HX : Hid (Bo bo 5 i (.slice ab nb pb) (.slice af nf pf) w1 ∧ w1.heap.size = bo + 1) := ⟨by rw [hw1, ← hbo]; exact ⟨by simp [go_sem], by simp [go_sem], by simp [go_sem], by simp [go_sem]⟩, by rw [hw1, World.size_alloc, hbo]⟩
  clear hb hbl hbb hlb hf hfl hlf hi hk1 h hu hnb hnf
  go_enter Try.func13, Try.ntmps13
  go_upto_region 1 with fail
  rw [← hw1]
  clear hw1
  try rw [hbo]
  clear hbo
  have x0 := HX.out.1.x0
  have x1 := HX.out.1.x1
  have x2 := HX.out.1.x2
  have x3 := HX.out.1.x3
  go_wp2_with fail
  refine (d2CrD HD.out HB.out.2.2.2.1 HB.out.2.2.2.2.1.ou (by have := HN.out; omega) (by have := HN.out; omega)).mono ?_
  rintro e w2 ⟨rfl, hD2, hK2⟩
  have HX2 := hid5 (HX.out.1.blk (hK2 bo ⟨Nat.le_refl _, by have := HX.out.2; omega⟩))
  have HF2 : Hid (Fts w2 (.slice af nf pf) fs) := HB.out.2.2.2.1.upto HD.out.bel hD2.bel HB.out.2.2.2.2.1
  have HD2 : Hid (D2 V w0 w2 d r (crS s fs) s (fun k => bo ≤ k ∧ k < w1.heap.size)) := hD2
  clear hD2 hK2 HD x0 x1 x2 x3
  have x3 := HX2.out.x3
  go_wp2_with fail
  refine (fates15 _ fs (by have := HN.out; omega) w2 HF2.out).mono ?_
  rintro e w3 ⟨v3, rfl, hF3, hO3, hB3⟩
  have HD3 := hid5 (HD2.out.later hB3)
  have HF3 : Hid (Fts w3 v3 fs ∧ Ow w2.heap.size v3 ∧ Lo w3.heap.size v3) := ⟨hF3, hO3, hF3.lo⟩
  obtain ⟨a3, p3, rfl, -, -⟩ := hF3.len
  clear hF3 hO3 hB3 HD2 x3
  go_wp2_with fail
  refine (d2CrR HD3.out HF3.out.1 (fun a n c e hn => Or.inr (Or.inr ⟨HF3.out.2.1 a n c e hn, HF3.out.2.2 a n c e hn⟩)) (by have := HN.out; omega)).mono ?_
  rintro e w4 ⟨rfl, hD4, -⟩
  have HD4 : Hid (D2 V w0 w4 d r (crS s fs) (crS s fs) (fun _ => False)) := hD4.weak (fun k hk => hk.elim)
  clear hD4 HD3 HF3
  have HF := hid5 (crS_len s fs)
  go_wp2
  go_ret
  exact ⟨rfl, crS s fs, HD4.out, HF.out⟩
set_option maxRecDepth 100000 in
set_option maxHeartbeats 16000000 in
theorem step15_0 (V : Disk1) (w0 w : World) (d r : Value) (s : Dsk) (h : D2 V w0 w d r s s (fun _ => False)) (hu : s.un.length ≤ 900) (k : Int) (hk1 : ¬ k = 1) (hk2 : ¬ k = 2) (hk3 : ¬ k = 3) (hk4 : ¬ k = 4) (hk5 : ¬ k = 5) (hk6 : ¬ k = 6) (hk7 : ¬ k = 7) (i : Int) (hi : Bd64 i) (vb vf : Value) (b : List Nat) (fs : List (Int × Int)) (hb : Bs w vb b) (hbl : b.length ≤ 300) (hbb : ∀ c ∈ b, c < 256) (hlb : Lo w0.heap.size vb) (hf : Fts w vf fs) (hfl : fs.length ≤ 100) (hlf : Lo w0.heap.size vf) :
    Calls Try.prog 13 #[d, r, .agg #[.int .i64 k, .int .i64 i, vb, vf]] w fun e w' => StE V w0 d r s e w' := by
  obtain ⟨ab, pb, rfl, -, -⟩ := hb.len
  obtain ⟨af, pf, rfl, -, -⟩ := hf.len
  obtain ⟨nb, hnb⟩ : ∃ nb, b.length = nb := ⟨_, rfl⟩
  obtain ⟨nf, hnf⟩ : ∃ nf, fs.length = nf := ⟨_, rfl⟩
  have HN : Hid (b.length = nb ∧ nb ≤ 300 ∧ fs.length = nf ∧ nf ≤ 100 ∧ s.un.length ≤ 900) := ⟨hnb, by omega, hnf, by omega, hu⟩
  rw [hnb] at hb hlb ⊢
  rw [hnf] at hf hlf ⊢
  obtain ⟨w1, hw1⟩ : ∃ w1, w1 = w.alloc (.cells #[.int .i64 k, .int .i64 i, .slice ab nb pb, .slice af nf pf] 35) := ⟨_, rfl⟩
  obtain ⟨bo, hbo⟩ : ∃ bo, w.heap.size = bo := ⟨_, rfl⟩
  have hkB : Below w.heap.size w w1 := by rw [hw1]; exact bel1 _ _
  have HB : Hid (Bs w1 (.slice ab nb pb) b ∧ (∀ c ∈ b, c < 256) ∧ Lo w0.heap.size (.slice ab nb pb) ∧ Fts w1 (.slice af nf pf) fs ∧ Lo w0.heap.size (.slice af nf pf) ∧ Bd64 i) := ⟨hb.later hkB, hbb, hlb, hf.later hkB, hlf, hi⟩
  have HD : Hid (D2 V w0 w1 d r s s (fun k => bo ≤ k ∧ k < w1.heap.size)) := (h.later hkB).weak (fun k hk => Or.inr (by rw [hbo]; exact hk))
  have HX : Hid (Bo bo k i (.slice ab nb pb) (.slice af nf pf) w1 ∧ w1.heap.size = bo + 1) := ⟨by rw [hw1, ← hbo]; exact ⟨by simp [go_sem], by simp [go_sem], by simp [go_sem], by simp [go_sem]⟩, by rw [hw1, World.size_alloc, hbo]⟩
  clear hb hbl hbb hlb hf hfl hlf hi hkB h hu hnb hnf
  go_enter Try.func13, Try.ntmps13
  go_upto_region 1 with fail
  rw [← hw1]
  clear hw1
  try rw [hbo]
  clear hbo
  have x0 := HX.out.1.x0
  have x1 := HX.out.1.x1
  have x2 := HX.out.1.x2
  have x3 := HX.out.1.x3
  have HE : Hid (D2 V w0 w1 d r s s (fun _ => False)) := HD.out.weak (fun k hk => hk.elim)
  clear HD
  go_wp2
  go_ret
  exact ⟨rfl, s, HE.out, by omega, rfl⟩
end Go.Proofs.Ytnchmnemclbfcaa
