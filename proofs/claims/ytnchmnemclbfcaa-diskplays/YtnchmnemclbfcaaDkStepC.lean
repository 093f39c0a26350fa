/-
  Layer 15: a step of a play, of both disks: Write, Read.
-/
import Derived.Test.YtnchmnemclbfcaaDkStepB
set_option linter.unusedVariables false
set_option linter.unusedSimpArgs false
namespace Go.Proofs.Ytnchmnemclbfcaa
open Go.RowKit

/-- Bytes that may be written, in one of these blocks. -/
def Sb (N : Nat → Prop) (w : World) (v : Value) (n : Nat) : Prop := ∃ (adr : Option Addr) (cap g o : Nat), v = .slice adr n cap ∧ (0 < n → adr = some ⟨g, o, none⟩ ∧ N g) ∧ ∀ k, k < n → (∃ x : Nat, x < 256 ∧ w.cell? ⟨g, o + k, none⟩ = some (.int .u8 (x : Int))) ∧ w.frozen? ⟨g, o + k, none⟩ = false
theorem Sb.at {N : Nat → Prop} {w : World} {a : Option Addr} {n cap : Nat} (h : Sb N w (.slice a n cap) n) (j : Nat) (hj : j < n) : ∃ (g o : Nat), a = some ⟨g, o, none⟩ ∧ N g ∧ ∃ x : Nat, x < 256 ∧ w.cell? ⟨g, o + j, none⟩ = some (.int .u8 (x : Int)) ∧ w.frozen? ⟨g, o + j, none⟩ = false := by
  obtain ⟨adr, c, g, o, e, h1, h2⟩ := h
  injection e with e1 e2 e3
  obtain ⟨q1, q2⟩ := h1 (by omega)
  obtain ⟨⟨x, q3, q4⟩, q5⟩ := h2 j hj
  exact ⟨g, o, e1.trans q1, q2, x, q3, q4, q5⟩
theorem Sb.set {N : Nat → Prop} {w : World} {g o n cap : Nat} (h : Sb N w (.slice (some ⟨g, o, none⟩) n cap) n) (j y : Nat) (hy : y < 256) : Sb N (w.setCell ⟨g, o + j, none⟩ (.int .u8 (y : Int))) (.slice (some ⟨g, o, none⟩) n cap) n := by
  obtain ⟨adr, c, g', o', e, h1, h2⟩ := h
  refine ⟨adr, c, g', o', e, h1, fun k hk => ?_⟩
  injection e with e1 e2 e3
  obtain ⟨q1, -⟩ := h1 (by omega)
  rw [← e1] at q1
  injection q1 with q1
  injection q1 with q1 q2
  subst q1 q2
  obtain ⟨⟨x, q3, q4⟩, q5⟩ := h2 k hk
  refine ⟨?_, by rw [World.frozen?_setCell]; exact q5⟩
  by_cases ek : k = j
  · subst ek
    exact ⟨y, hy, World.cell?_setCell_same' _ _ _ (by rw [q4]; rfl)⟩
  · exact ⟨x, q3, (World.cell?_setCell_other _ _ _ _ (by intro e; injection e with _ e; omega)).trans q4⟩
theorem Bs.sb {N : Nat → Prop} {w : World} {v : Value} {l : List Nat} (h : Bs w v l) (hb : ∀ c ∈ l, c < 256) (hu : Uf w v) (hN : ∀ (a : Addr) (n cap : Nat), v = .slice (some a) n cap → 0 < n → N a.block) : Sb N w v l.length := by
  obtain ⟨adr, cap, g, o, rfl, h2, h3, h4, h5⟩ := h
  refine ⟨adr, cap, g, o, rfl, fun hp => ⟨h4 hp, ?_⟩, fun k hk => ⟨⟨l.getD k 0, getD_byte hb k, h5 k hk⟩, ?_⟩⟩
  · have e := h4 hp
    subst e
    exact hN ⟨g, o, none⟩ _ cap rfl hp
  · have e := h4 (by omega)
    subst e
    exact hu g o _ cap rfl k hk
theorem Ob.uf {base : Nat} {w : World} {v : Value} {l : List Nat} (h : Ob base w v l) : Uf w v := by
  intro b o n cap e k hk
  subst e
  rcases id h.2 with ⟨hv, h0⟩ | ⟨g, c, cur, hv, hg, hh, r⟩
  · cases hv
  · injection hv with v1 v2 v3
    injection v1 with v1
    injection v1 with v1 v4
    subst v1
    subst v4
    subst v2
    subst v3
    rw [Nat.zero_add]
    exact h.frozenAt k
theorem lastU_ok (un : List (Nat × List Nat)) (i : Nat) : ∀ d : List Nat, okb d → (∀ u ∈ un, okb u.2) → okb (lastU un i d) := by
  unfold lastU
  induction un with
  | nil => intro d h _; exact h
  | cons u un ih =>
    intro d h hu
    rw [List.foldl_cons]
    refine ih _ ?_ (fun x hx => hu x (by simp [hx]))
    split
    · exact hu u (by simp)
    · exact h
theorem rdB_ok {s : Dsk} (h : OkD s) (i : Int) : (∀ c ∈ rdB s i, c < 256) ∧ (rdB s i).length ≤ 2000 := by
  unfold rdB
  split
  · exact ⟨fun c hc => (by cases hc), by simp⟩
  · rename_i q
    have q1 := dAsk_lt (show dAsk s i = 0 by omega)
    have := lastU_ok s.un i.toNat _ (getD_ok h.bl q1.2.2) (fun u hu => (h.un u hu).2)
    exact ⟨this.2, by rw [this.1]; omega⟩
theorem uf_later {w w' : World} {v : Value} {l : List Nat} (hb : Below w.heap.size w w') (h : Bs w v l) (hf : Uf w v) : Uf w' v := fun b o n c e k hk => by
  have hlo := Ls.lo h ⟨b, o, none⟩ n c e (by omega)
  exact (World.frozen?_of_block (w := w) (a := ⟨b, o + k, none⟩) (hb.block b hlo)).trans (hf b o n c e k hk)
set_option maxRecDepth 100000 in
set_option maxHeartbeats 16000000 in
theorem step15_1 (V : Disk1) (w0 w : World) (d r : Value) (s : Dsk) (h : D2 V w0 w d r s s (fun _ => False)) (hu : s.un.length ≤ 900) (i : Int) (hi : Bd64 i) (vb vf : Value) (b : List Nat) (fs : List (Int × Int)) (hb : Bs w vb b) (hbl : b.length ≤ 300) (hbb : ∀ c ∈ b, c < 256) (hlb : Lo w0.heap.size vb) (hf : Fts w vf fs) (hfl : fs.length ≤ 100) (hlf : Lo w0.heap.size vf) :
    Calls Try.prog 13 #[d, r, .agg #[.int .i64 1, .int .i64 i, vb, vf]] w fun e w' => StE V w0 d r s e w' := by
  obtain ⟨ab, pb, rfl, -, -⟩ := hb.len
  obtain ⟨af, pf, rfl, -, -⟩ := hf.len
  obtain ⟨nb, hnb⟩ : ∃ nb, b.length = nb := ⟨_, rfl⟩
  obtain ⟨nf, hnf⟩ : ∃ nf, fs.length = nf := ⟨_, rfl⟩
  have HN : Hid (b.length = nb ∧ nb ≤ 300 ∧ fs.length = nf ∧ nf ≤ 100 ∧ s.un.length ≤ 900) := ⟨hnb, by omega, hnf, by omega, hu⟩
  rw [hnb] at hb hlb ⊢
  rw [hnf] at hf hlf ⊢
  obtain ⟨w1, hw1⟩ : ∃ w1, w1 = w.alloc (.cells #[.int .i64 1, .int .i64 i, .slice ab nb pb, .slice af nf pf] 35) := ⟨_, rfl⟩
  obtain ⟨bo, hbo⟩ : ∃ bo, w.heap.size = bo := ⟨_, rfl⟩
  have hk1 : Below w.heap.size w w1 := by rw [hw1]; exact bel1 _ _
  have HB : Hid (Bs w1 (.slice ab nb pb) b ∧ (∀ c ∈ b, c < 256) ∧ Lo w0.heap.size (.slice ab nb pb) ∧ Fts w1 (.slice af nf pf) fs ∧ Lo w0.heap.size (.slice af nf pf) ∧ Bd64 i) := ⟨hb.later hk1, hbb, hlb, hf.later hk1, hlf, hi⟩
  have HD : Hid (D2 V w0 w1 d r s s (fun k => bo ≤ k ∧ k < w1.heap.size)) := (h.later hk1).weak (fun k hk => Or.inr (by rw [hbo]; exact hk))
  have HX : Hid (Bo bo 1 i (.slice ab nb pb) (.slice af nf pf) w1 ∧ w1.heap.size = bo + 1) := ⟨by rw [hw1, ← hbo]; exact ⟨by simp [go_sem], by simp [go_sem], by simp [go_sem], by simp [go_sem]⟩, by rw [hw1, World.size_alloc, hbo]⟩
  clear hb hbl hbb hlb hf hfl hlf hi hk1 h hu hnb hnf
  go_enter Try.func13, Try.ntmps13
  go_upto_region 1 with fail
  rw [← hw1]
  clear hw1
  try rw [hbo]
  clear hbo
  have x0 := HX.out.1.x0
  have x1 := HX.out.1.x1
  have x2 := HX.out.1.x2
  have x3 := HX.out.1.x3
  have HO0 : Hid (Ob w1.heap.size (w1.alloc (.cells #[] 5)) (.slice (some ⟨w1.heap.size, 0, none⟩) 0 0) []) := World.ownsRow_made w1 #[] 0 (Nat.le_refl _) (by unfold maxLen; omega) rfl
  have y2 : ∀ ob, (w1.alloc ob).cell? ⟨bo, 2, none⟩ = some (.slice ab nb pb) := fun ob => cell_later (bel1 _ _) x2
  go_upto_region 4 with (at_builtin; refine apB rfl _ _ rfl w1.heap.size _ [] rfl HO0.out _ b rfl (HB.out.1.later (bel1 _ _)) (by have := HN.out; simp; omega) (by simp) ?_; intro v7 w2 hO2 hg2; rw [List.nil_append] at hO2; obtain ⟨a7, p7, rfl⟩ := hO2.sl)
  have hb2 : Below w1.heap.size w1 w2 := hg2.1 _ (bel1 _ _)
  have hsz := HX.out.2
  obtain ⟨N7, hN7⟩ : ∃ N7 : Nat → Prop, N7 = fun k => bo ≤ k ∧ k < w2.heap.size := ⟨_, rfl⟩
  have HD2 : Hid (D2 V w0 w2 d r s s N7) := by
    rw [hN7]
    exact (HD.out.later hb2).weak (fun k hk => by
      by_cases q : k < w1.heap.size
      · exact Or.inl ⟨hk.1, q⟩
      · exact Or.inr ⟨by omega, hk.2⟩)
  have HO2 : Hid (Ob w1.heap.size w2 (.slice a7 b.length p7) b ∧ Bo bo 1 i (.slice ab nb pb) (.slice af nf pf) w2 ∧ Bs w2 (.slice ab nb pb) b ∧ N7 bo ∧ (∀ g, (Value.slice a7 b.length p7).ownBlock = some g → N7 g)) := by
    refine ⟨hO2, HX.out.1.later hb2, HB.out.1.later hb2, ?_, fun g hg => ?_⟩
    · rw [hN7]; exact ⟨Nat.le_refl _, by have := hb2.size; omega⟩
    · rw [hN7]; have := hO2.lt g hg; exact ⟨by omega, this.2⟩
  rw [HN.out.1] at HO2 ⊢
  clear hO2 hg2 hb2 HO0 y2 x0 x1 x2 x3 HD hN7 hsz
  have x1 := HO2.out.2.1.x1
  have x2 := HO2.out.2.1.x2
  go_wp2_with fail
  refine (d2WrR HD2.out i HO2.out.2.2.1 HB.out.2.1 (by have := HN.out; omega)).mono ?_
  rintro e w3 ⟨rfl, hD3, hK3⟩
  have HD3 : Hid (D2 V w0 w3 d r s (wrS s i b) N7) := hD3
  have HO3 : Hid (Ob w1.heap.size w3 (.slice a7 nb p7) b ∧ Bo bo 1 i (.slice ab nb pb) (.slice af nf pf) w3) := ⟨by have h1 := HO2.out.1; unfold Ob at h1 ⊢; exact own_block16 h1 (fun g hg => hK3 g (HO2.out.2.2.2.2 g hg)), HO2.out.2.1.blk (hK3 bo HO2.out.2.2.2.1)⟩
  clear hD3 hK3 HD2 x1 x2
  have x1 := HO3.out.2.x1
  go_wp2_with fail
  refine (d2WrD HD3.out i (by have h1 := HO3.out.1.bs.1; exact h1) (fun a n c e hn => Or.inr (HO2.out.2.2.2.2 a.block (by rw [e]; rfl))) HB.out.2.1 (by have := HN.out; omega) (by have := HN.out; omega)).mono ?_
  rintro e w4 ⟨rfl, hD4, hK4⟩
  have HS7 : Hid (Sb N7 w4 (.slice a7 nb p7) nb ∧ D2 V w0 w4 d r (wrS s i b) (wrS s i b) N7) := by
    have h1 := HO3.out.1
    unfold Ob at h1
    have h2 : Ob w1.heap.size w4 (.slice a7 nb p7) b := by unfold Ob; exact own_block16 h1 (fun g hg => hK4 g (HO2.out.2.2.2.2 g hg))
    refine ⟨?_, hD4⟩
    have h3 := h2.bs.1.sb (N := N7) HB.out.2.1 h2.uf (fun a n c e hn => HO2.out.2.2.2.2 a.block (by rw [e]; rfl))
    rw [HN.out.1] at h3
    exact h3
  have HN7 : Hid (nb ≤ 2000) := by have := HN.out; show _ ≤ _; omega
  have HF := hid5 (wrS_len s i b)
  clear hD4 hK4 HD3 HO3 HO2 x1
  generalize wrE s i b = E at *
  generalize wrS s i b = s2 at *
  go_upto_region 7 with fail
  go_loopw [45] (fun s9 we => ∃ j : Nat, j ≤ nb ∧ s9 = .int .i64 (j : Int) ∧ Hid (Sb N7 we (.slice a7 nb p7) nb ∧ D2 V w0 we d r s2 s2 N7)) (fun s9 _ => nb - (intOf s9).toNat)
  case atStart => exact ⟨0, by omega, rfl, HS7.out⟩
  case round =>
    rename World => we
    obtain ⟨j, hj, rfl, HW⟩ := hrel
    clear HS7
    by_cases hlt : j < nb
    · have hjI : (j : Int) < (nb : Int) := by omega
      have hj0 : (0 : Int) ≤ (j : Int) := by omega
      obtain ⟨g, o, ea, hNg, x, hx, cx, fx⟩ := HW.out.1.at j hlt
      subst ea
      have hxor : bits .xor .u8 (x : Int) 255 = ((x ^^^ 255 : Nat) : Int) := xor8 x 255 hx (by omega)
      have HW2 : Hid (Sb N7 (we.setCell ⟨g, o + j, none⟩ (.int .u8 ((x ^^^ 255 : Nat) : Int))) (.slice (some ⟨g, o, none⟩) nb p7) nb ∧ D2 V w0 (we.setCell ⟨g, o + j, none⟩ (.int .u8 ((x ^^^ 255 : Nat) : Int))) d r s2 s2 N7) := ⟨HW.out.1.set j (x ^^^ 255) (Nat.xor_lt_two_pow (n := 8) hx (by omega)), HW.out.2.set (p := ⟨g, o + j, none⟩) hNg _⟩
      have HL7 : Hid (nb ≤ 2000) := HN7.out
      have hjw : IntKind.i64.wrap ((j : Int) + 1) = ((j + 1 : Nat) : Int) := by have := HL7.out; rw [IntKind.wrap_i64]; omega
      clear HW
      generalize x ^^^ 255 = y at *
      go_wp2
      go_roundw
      case rel => exact ⟨j + 1, by omega, by first | rfl | go_num, HW2⟩
      case measure => simp only [intOf]; omega
    · obtain rfl : j = nb := by omega
      have hjI : ¬ (j : Int) < (j : Int) := by omega
      have HE : Hid (D2 V w0 we d r s2 s2 (fun _ => False)) := HW.out.2.weak (fun k hk => hk.elim)
      go_wp2
      go_ret
      exact ⟨by simp, s2, HE.out, HF.out⟩
set_option maxRecDepth 100000 in
set_option maxHeartbeats 16000000 in
theorem step15_2 (V : Disk1) (w0 w : World) (d r : Value) (s : Dsk) (h : D2 V w0 w d r s s (fun _ => False)) (hu : s.un.length ≤ 900) (i : Int) (hi : Bd64 i) (vb vf : Value) (b : List Nat) (fs : List (Int × Int)) (hb : Bs w vb b) (hbl : b.length ≤ 300) (hbb : ∀ c ∈ b, c < 256) (hlb : Lo w0.heap.size vb) (hf : Fts w vf fs) (hfl : fs.length ≤ 100) (hlf : Lo w0.heap.size vf) :
    Calls Try.prog 13 #[d, r, .agg #[.int .i64 2, .int .i64 i, vb, vf]] w fun e w' => StE V w0 d r s e w' := by
  obtain ⟨ab, pb, rfl, -, -⟩ := hb.len
  obtain ⟨af, pf, rfl, -, -⟩ := hf.len
  obtain ⟨nb, hnb⟩ : ∃ nb, b.length = nb := ⟨_, rfl⟩
  obtain ⟨nf, hnf⟩ : ∃ nf, fs.length = nf := ⟨_, rfl⟩
  have HN : Hid (b.length = nb ∧ nb ≤ 300 ∧ fs.length = nf ∧ nf ≤ 100 ∧ s.un.length ≤ 900) := ⟨hnb, by omega, hnf, by omega, hu⟩
  rw [hnb] at hb hlb ⊢
  rw [hnf] at hf hlf ⊢
  obtain ⟨w1, hw1⟩ : ∃ w1, w1 = w.alloc (.cells #[.int .i64 2, .int .i64 i, .slice ab nb pb, .slice af nf pf] 35) := ⟨_, rfl⟩
  obtain ⟨bo, hbo⟩ : ∃ bo, w.heap.size = bo := ⟨_, rfl⟩
  have hk1 : Below w.heap.size w w1 := by rw [hw1]; exact bel1 _ _
  have HB : Hid (Bs w1 (.slice ab nb pb) b ∧ (∀ c ∈ b, c < 256) ∧ Lo w0.heap.size (.slice ab nb pb) ∧ Fts w1 (.slice af nf pf) fs ∧ Lo w0.heap.size (.slice af nf pf) ∧ Bd64 i) := ⟨hb.later hk1, hbb, hlb, hf.later hk1, hlf, hi⟩
  have HD : Hid (D2 V w0 w1 d r s s (fun k => bo ≤ k ∧ k < w1.heap.size)) := (h.later hk1).weak (fun k hk => Or.inr (by rw [hbo]; exact hk))
  have HX : Hid (Bo bo 2 i (.slice ab nb pb) (.slice af nf pf) w1 ∧ w1.heap.size = bo + 1) := ⟨by rw [hw1, ← hbo]; exact ⟨by simp [go_sem], by simp [go_sem], by simp [go_sem], by simp [go_sem]⟩, by rw [hw1, World.size_alloc, hbo]⟩
  clear hb hbl hbb hlb hf hfl hlf hi hk1 h hu hnb hnf
  go_enter Try.func13, Try.ntmps13
  go_upto_region 1 with fail
  rw [← hw1]
  clear hw1
  try rw [hbo]
  clear hbo
  have x0 := HX.out.1.x0
  have x1 := HX.out.1.x1
  have x2 := HX.out.1.x2
  have x3 := HX.out.1.x3
  go_wp2_with fail
  refine (d2RdD HD.out i).mono ?_
  rintro e w2 ⟨v7, rfl, hB2, hO2, hW2⟩
  obtain ⟨a7, p7, rfl, -, -⟩ := hB2.len
  obtain ⟨N7, hN7⟩ : ∃ N7 : Nat → Prop, N7 = fun k => (bo ≤ k ∧ k < w1.heap.size) ∨ (w1.heap.size ≤ k ∧ k < w2.heap.size) := ⟨_, rfl⟩
  have HD2 : Hid (D2 V w0 w2 d r s s N7) := by rw [hN7]; exact HD.out.later hW2
  obtain ⟨n7, hn7⟩ : ∃ n7, (rdB s i).length = n7 := ⟨_, rfl⟩
  have HR : Hid (Bs w2 (.slice a7 n7 p7) (rdB s i) ∧ Uf w2 (.slice a7 n7 p7) ∧ (∀ (a : Addr) (n cap : Nat), Value.slice a7 n7 p7 = .slice (some a) n cap → 0 < n → N7 a.block) ∧ Bo bo 2 i (.slice ab nb pb) (.slice af nf pf) w2 ∧ (rdB s i).length = n7) := by
    rw [hn7] at hB2 hO2
    refine ⟨hB2, hO2.2, fun a n c e hn => ?_, HX.out.1.later hW2, hn7⟩
    rw [hN7]
    exact Or.inr ⟨hO2.1 a n c e hn, Ls.lo hB2 a n c e hn⟩
  have HOk : Hid ((∀ c ∈ rdB s i, c < 256) ∧ n7 ≤ 2000) := by
    obtain ⟨F, G, h1, -⟩ := HD.out
    have := rdB_ok (V.dtO h1) i
    rw [← hn7]
    exact this
  rw [hn7]
  clear hB2 hO2 hW2 HD hN7 hn7 x0 x1 x2 x3
  have x1 := HR.out.2.2.2.1.x1
  go_wp2_with fail
  refine (d2RdR HD2.out i (by have := HN.out; omega)).mono ?_
  rintro e w3 ⟨v8, rfl, hB3, hw3⟩
  subst hw3
  obtain ⟨a8, p8, rfl, -, -⟩ := hB3.len
  rw [HR.out.2.2.2.2] at hB3 ⊢
  have HB3 : Hid (Bs w3 (.slice a8 n7 p8) (rdB s i)) := hB3
  clear hB3 x1
  generalize dAsk s i = A at *
  have HSa : Hid (Sb N7 w3 (.slice a7 n7 p7) n7 ∧ D2 V w0 w3 d r s s N7) := by
    have h3 := HR.out.1.sb (N := N7) HOk.out.1 HR.out.2.1 HR.out.2.2.1
    rw [HR.out.2.2.2.2] at h3
    exact ⟨h3, HD2.out⟩
  have HN7 : Hid (n7 ≤ 2000) := HOk.out.2
  go_wp2_with fail
  refine (sameB _ _ _ _ w3 HR.out.1 HB3.out).mono ?_
  rintro e w4 ⟨rfl, hB4⟩
  rw [decide_eq_true (rfl : rdB s i = rdB s i)]
  obtain ⟨w4s, hw4s⟩ : ∃ w4s, w4 = w4s := ⟨_, rfl⟩
  have HS7 : Hid (Sb N7 w4 (.slice a7 n7 p7) n7 ∧ D2 V w0 w4 d r s s N7) := by
    refine ⟨?_, (HSa.out.2.later hB4).weak (fun k hk => Or.inl hk)⟩
    have h3 := (HR.out.1.later hB4).sb (N := N7) HOk.out.1 (uf_later hB4 HR.out.1 HR.out.2.1) HR.out.2.2.1
    rw [HR.out.2.2.2.2] at h3
    exact h3
  clear hB4 HSa HD2 HR HB3 hw4s
  go_upto_region 17 with fail
  go_loopw [84] (fun s9 we => ∃ j : Nat, j ≤ n7 ∧ s9 = .int .i64 (j : Int) ∧ Hid (Sb N7 we (.slice a7 n7 p7) n7 ∧ D2 V w0 we d r s s N7)) (fun s9 _ => n7 - (intOf s9).toNat)
  case atStart => exact ⟨0, by omega, rfl, HS7.out⟩
  case round =>
    rename World => we
    obtain ⟨j, hj, rfl, HW⟩ := hrel
    clear HS7
    by_cases hlt : j < n7
    · have hjI : (j : Int) < (n7 : Int) := by omega
      have hj0 : (0 : Int) ≤ (j : Int) := by omega
      obtain ⟨g, o, ea, hNg, x, hx, cx, fx⟩ := HW.out.1.at j hlt
      subst ea
      have hxor : bits .xor .u8 (x : Int) 255 = ((x ^^^ 255 : Nat) : Int) := xor8 x 255 hx (by omega)
      have HW2 : Hid (Sb N7 (we.setCell ⟨g, o + j, none⟩ (.int .u8 ((x ^^^ 255 : Nat) : Int))) (.slice (some ⟨g, o, none⟩) n7 p7) n7 ∧ D2 V w0 (we.setCell ⟨g, o + j, none⟩ (.int .u8 ((x ^^^ 255 : Nat) : Int))) d r s s N7) := ⟨HW.out.1.set j (x ^^^ 255) (Nat.xor_lt_two_pow (n := 8) hx (by omega)), HW.out.2.set (p := ⟨g, o + j, none⟩) hNg _⟩
      have HL7 : Hid (n7 ≤ 2000) := HN7.out
      have hjw : IntKind.i64.wrap ((j : Int) + 1) = ((j + 1 : Nat) : Int) := by have := HL7.out; rw [IntKind.wrap_i64]; omega
      clear HW
      generalize x ^^^ 255 = y at *
      go_wp2
      go_roundw
      case rel => exact ⟨j + 1, by omega, by first | rfl | go_num, HW2⟩
      case measure => simp only [intOf]; omega
    · obtain rfl : j = n7 := by omega
      have hjI : ¬ (j : Int) < (j : Int) := by omega
      have HE : Hid (D2 V w0 we d r s s (fun _ => False)) := HW.out.2.weak (fun k hk => hk.elim)
      go_wp2
      go_ret
      exact ⟨rfl, s, HE.out, by omega, rfl⟩
end Go.Proofs.Ytnchmnemclbfcaa
