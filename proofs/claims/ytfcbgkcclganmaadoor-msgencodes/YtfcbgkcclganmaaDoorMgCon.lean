/-
  Layer 14: the contracts of msg; a message there and back, in numbers; awake (regattalaw14).
-/
import Derived.Test.YtfcbgkcclganmaaDoorMgRefE
import Derived.Test.YtfcbgkcclganmaaDoorMgRefG
import Derived.Test.YtfcbgkcclganmaaDoorMgSame
set_option linter.unusedVariables false
set_option linter.unusedSimpArgs false
namespace Go.Proofs.YtfcbgkcclganmaaDoor
open Go.RowKit

/-- The contracts of msg. -/
structure Mg1 : Prop where
  rgt : ∀ (w : World) (m : Ms) (v : Value), Bs w v m.d → FT w →
    Calls Tryd.prog 11 #[msV m v] w fun e w' => RgE m w e w'
  encY : ∀ (w : World) (m : Ms) (v : Value), Bs w v m.d → (∀ c ∈ m.d, c < 256) → Rgt m → FT w →
    Calls Tryd.prog 9 #[msV m v] w fun e w' => ∃ v', e = .returned (.tuple #[v', .int .i64 0]) ∧ Ob w.heap.size w' v' (fsl m.k.toNat (pay m)) ∧ Below w.heap.size w w'
  encN : ∀ (w : World) (m : Ms) (v : Value), Bs w v m.d → (∀ c ∈ m.d, c < 256) → ¬ Rgt m → FT w →
    Calls Tryd.prog 9 #[msV m v] w fun e w' => ∃ v', e = .returned (.tuple #[v', .int .i64 140]) ∧ Bs w' v' [] ∧ Below w.heap.size w w'
  dec : ∀ (w : World) (v : Value) (l : List Nat), Bs w v l → (∀ c ∈ l, c < 256) → l.length ≤ 90000 → FT w →
    Calls Tryd.prog 14 #[v] w fun e w' => ∃ vd, e = .returned (.tuple #[msV (dcM l) vd, .int .i64 ((dcE l : Nat) : Int)]) ∧ Bs w' vd (dcM l).d ∧ Ow w.heap.size vd ∧ Below w.heap.size w w'
/-- What was encoded is decoded. -/
theorem dc_seal {m : Ms} (r : Rgt m) (hb : ∀ c ∈ m.d, c < 256) : dcE (fsl m.k.toNat (pay m)) = 0 ∧ dcM (fsl m.k.toNat (pay m)) = m := by
  have h1 := r.k1
  have hl := pay_len r
  obtain ⟨e1, e2, e3, e4⟩ := op_seal0 (k := m.k.toNat) (by omega) (pay m) (by omega)
  obtain ⟨f1, f2⟩ := form_is14 r hb
  have ek : ((m.k.toNat : Nat) : Int) = m.k := by omega
  have := dc_yes (l := fsl m.k.toNat (pay m)) e1 (by rw [e4, seal_len]; omega) (by rw [e2, e3, ek]; exact f2)
  rw [e2, e3, ek, f1] at this
  exact this
theorem dc_cut {k : Nat} (hk : k ≠ 0) (l q : List Nat) (hl : l.length ≤ 65536) (h1 : q <+: fsl k l) (h2 : q.length < (fsl k l).length) : dcE q = 130 := by
  have e := opE_cut hk l q hl h1 h2
  rw [(dc_err (l := q) (by omega)).1, e]
theorem dc_more {k : Nat} (hk : k ≠ 0) (l t : List Nat) (hl : l.length ≤ 65536) (ht : 0 < t.length) : dcE (fsl k l ++ t) = 122 := by
  have e := opE_seal hk l t hl
  have e2 := op_seal hk l t hl
  exact (dc_left e (by rw [e2.2.2, List.length_append, seal_len]; omega)).1
/-- Any payload of any kind. -/
theorem dc_pay {k : Nat} (h1 : 1 ≤ k) (l : List Nat) (hl : l.length ≤ 65536) (hb : ∀ c ∈ l, c < 256) : (dcE (fsl k l) = 140 ∧ dcM (fsl k l) = ms0) ∨ (dcE (fsl k l) = 0 ∧ Rgt (dcM (fsl k l)) ∧ (∀ c ∈ (dcM (fsl k l)).d, c < 256) ∧ fsl (dcM (fsl k l)).k.toNat (pay (dcM (fsl k l))) = fsl k l) := by
  obtain ⟨e1, e2, e3, e4⟩ := op_seal0 (k := k) (by omega) l hl
  have hN : ¬ opN (fsl k l) < (fsl k l).length := by rw [e4, seal_len]; omega
  by_cases q : Is14 (k : Int) l
  · have := dc_yes e1 hN (by rw [e2, e3]; exact q)
    rw [e2, e3] at this
    obtain ⟨f1, f2⟩ := is14_form hb q
    refine Or.inr ⟨this.1, by rw [this.2]; exact q.2.2.2, by rw [this.2]; exact f2, ?_⟩
    rw [this.2, ← f1, rdM_k]
    rfl
  · exact Or.inl (dc_no e1 hN (by rw [e2, e3]; exact q))
/-- The message that awake sends. -/
def aw14 : Ms := ⟨1, 3, 1, 0, 0, 0, 0, []⟩
theorem aw14_rgt : Rgt aw14 where
  k1 := by decide
  k8 := by decide
  nF := fun _ => by exact absurd (Or.inl rfl) ‹_›
  nI := fun q => absurd ⟨by decide, by decide⟩ q
  nR := fun _ => rfl
  nH := fun _ => rfl
  nP := fun _ => rfl
  nS := fun _ => rfl
  nD := fun _ => rfl
  fr := fun _ => by decide
  inc := by decide
  rd := by decide
  pt := by decide
  h := fun q => by cases q
  ps := fun q => by rcases q with q | q | q <;> cases q
  d := by decide
theorem aw14_pay : pay aw14 = [6, 2] := by
  show enI 3 ++ (enI 1 ++ []) ++ [] = _
  rw [show enI 3 = [6] from enU_lt (by decide), show enI 1 = [2] from enU_lt (by decide)]
  rfl
set_option maxRecDepth 100000 in
set_option maxHeartbeats 8000000 in
theorem awake14 (V : Mg1) (w : World) (hT : FT w) :
    Calls Tryd.prog 7 #[] w fun e w' => e = .returned (.bool true) ∧ Below w.heap.size w w' := by
  have HT : Hid (FT w) := hT
  have HF : Hid (dcE (fsl 1 [6, 2]) = 0 ∧ dcM (fsl 1 [6, 2]) = aw14) := by have := dc_seal aw14_rgt (by intro c hc; cases hc); rw [aw14_pay] at this; exact this
  have HFl : Hid ((fsl 1 [6, 2]).length = 14 ∧ (fsl 1 [6, 2]).getD 8 0 = 6 ∧ (fsl 1 [6, 2]).getD 9 0 = 2 ∧ ∀ c ∈ fsl 1 [6, 2], c < 256) := ⟨seal_len 1 [6, 2], by rw [fsl_nil, seal_eight]; rfl, by rw [fsl_nil, seal_eight]; rfl, seal_byte (by omega) (by decide) (by decide)⟩
  have C := fun W hW => V.encY W aw14 (.slice none 0 0) (bs_nil14 W) (by intro c hc; cases hc) aw14_rgt hW
  rw [aw14_pay] at C
  have HC : Hid (∀ W, FT W → Calls Tryd.prog 9 #[.agg #[.int .i64 1, .int .i64 3, .int .i64 1, .int .i64 0, .int .i64 0, .int .i64 0, .int .i64 0, .slice none 0 0]] W fun e w' => ∃ v', e = .returned (.tuple #[v', .int .i64 0]) ∧ Ob W.heap.size w' v' (fsl 1 [6, 2]) ∧ Below W.heap.size W w') := C
  clear hT C
  go_enter Tryd.func7, Tryd.ntmps7
  go_wp2_with fail
  refine (HC.out _ (HT.out.later (bel1 _ _))).mono ?_
  rintro e w1 ⟨v1, rfl, hO1, hB1⟩
  have HB1 : Hid (Below w.heap.size w w1) := bchain (bel1 _ _) hB1
  have HL1 : Hid (Bs w1 v1 (fsl 1 [6, 2])) := hO1.bs.1
  obtain ⟨ad1, cap1, rfl⟩ := hO1.sl
  generalize fsl 1 [6, 2] = S at *
  have hSl := HFl.out.1
  rw [hSl] at HL1 ⊢
  clear hO1 hB1 hSl HC
  go_wp2_with fail
  refine (V.dec _ _ S HL1.out HFl.out.2.2.2 (by have := HFl.out.1; omega) (HT.out.later HB1.out)).mono ?_
  rintro e w2 ⟨v2, rfl, hL2, hO2, hB2⟩
  rw [HF.out.1, HF.out.2]
  rw [HF.out.2] at hL2
  have HB2 : Hid (∀ o : Obj, Below w.heap.size w (w2.alloc o)) := fun o => bchain (bchain HB1.out hB2) (bel1 _ _)
  have hS := HL1.out.later hB2
  obtain ⟨g, o, e1, ca⟩ := hS.cel 8 (by have := HFl.out.1; omega)
  obtain ⟨g', o', e2, cb⟩ := hS.cel 9 (by have := HFl.out.1; omega)
  rw [HFl.out.2.1] at ca
  rw [HFl.out.2.2.1] at cb
  subst e1
  cases e2
  obtain ⟨ad2, cap2, rfl, -, -⟩ := hL2.len
  have y1 : ∀ ob : Obj, (w2.alloc ob).cell? ⟨g, o + 8, none⟩ = some (.int .u8 6) := fun ob => cell_later (bel1 _ _) ca
  have y2 : ∀ ob : Obj, (w2.alloc ob).cell? ⟨g, o + 9, none⟩ = some (.int .u8 2) := fun ob => cell_later (bel1 _ _) cb
  clear hL2 hO2 hB2 hS ca cb HL1 HB1 HF HFl HT
  unfold msV aw14
  dsimp only
  go_wp2
  go_ret
  exact ⟨rfl, HB2.out _⟩
end Go.Proofs.YtfcbgkcclganmaaDoor
