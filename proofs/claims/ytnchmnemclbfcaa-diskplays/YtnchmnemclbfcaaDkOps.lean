/-
  Layer 15: the steps of a play in memory; few.
-/
import Derived.Test.YtnchmnemclbfcaaDkDefs
set_option linter.unusedVariables false
set_option linter.unusedSimpArgs false
namespace Go.Proofs.Ytnchmnemclbfcaa
open Go.RowKit

/-- A step of a play. -/
structure Opv where
  k : Int
  i : Int
  b : List Nat
  fs : List (Int × Int)
def op0 : Opv := ⟨0, 0, [], []⟩
/-- A list of steps in memory. -/
def Ops (w : World) (v : Value) (os : List Opv) : Prop :=
  ∃ (ad : Option Addr) (cap b o : Nat), v = .slice ad os.length cap ∧ os.length ≤ cap ∧ cap ≤ maxLen ∧ (0 < os.length → ad = some ⟨b, o, none⟩) ∧
    ∀ j, j < os.length → ∃ vb vf, w.cell? ⟨b, o + j * 4, none⟩ = some (.int .i64 (os.getD j op0).k) ∧ w.cell? ⟨b, o + j * 4 + 1, none⟩ = some (.int .i64 (os.getD j op0).i) ∧ w.cell? ⟨b, o + j * 4 + 2, none⟩ = some vb ∧ w.cell? ⟨b, o + j * 4 + 3, none⟩ = some vf ∧ Bs w vb (os.getD j op0).b ∧ Fts w vf (os.getD j op0).fs
theorem Ops.len {w : World} {v : Value} {os : List Opv} (h : Ops w v os) : ∃ ad cap, v = .slice ad os.length cap ∧ os.length ≤ cap ∧ cap ≤ maxLen := by
  obtain ⟨ad, cap, b, o, h1, h2, h3, -⟩ := h
  exact ⟨ad, cap, h1, h2, h3⟩
theorem Ops.cel {w : World} {ad : Option Addr} {n cap : Nat} {os : List Opv} (h : Ops w (.slice ad n cap) os) (j : Nat) (hj : j < os.length) :
    ∃ b o vb vf, ad = some ⟨b, o, none⟩ ∧ w.cell? ⟨b, o + j * 4, none⟩ = some (.int .i64 (os.getD j op0).k) ∧ w.cell? ⟨b, o + j * 4 + 1, none⟩ = some (.int .i64 (os.getD j op0).i) ∧ w.cell? ⟨b, o + j * 4 + 2, none⟩ = some vb ∧ w.cell? ⟨b, o + j * 4 + 3, none⟩ = some vf ∧ Bs w vb (os.getD j op0).b ∧ Fts w vf (os.getD j op0).fs := by
  obtain ⟨ad', cap', b, o, e, h2, h3, h4, h5⟩ := h
  injection e with e1 e2 e3
  obtain ⟨vb, vf, q⟩ := h5 j hj
  exact ⟨b, o, vb, vf, by rw [e1]; exact h4 (by omega), q⟩
theorem Ops.later {w w' : World} {v : Value} {os : List Opv} (h : Ops w v os) (k : Below w.heap.size w w') : Ops w' v os := by
  obtain ⟨ad, cap, b, o, h1, h2, h3, h4, h5⟩ := h
  refine ⟨ad, cap, b, o, h1, h2, h3, h4, fun j hj => ?_⟩
  obtain ⟨vb, vf, q0, q1, q2, q3, q4, q5⟩ := h5 j hj
  exact ⟨vb, vf, cell_later k q0, cell_later k q1, cell_later k q2, cell_later k q3, q4.later k, q5.later k⟩
theorem Fts.len {w : World} {v : Value} {fs : List (Int × Int)} (h : Fts w v fs) : ∃ ad cap, v = .slice ad fs.length cap ∧ fs.length ≤ cap ∧ cap ≤ maxLen := by
  obtain ⟨ad, cap, b, o, h1, h2, h3, -⟩ := h
  exact ⟨ad, cap, h1, h2, h3⟩
theorem Fts.lo {w : World} {v : Value} {fs : List (Int × Int)} (h : Fts w v fs) : Lo w.heap.size v := by
  obtain ⟨ad, cap, b, o, rfl, h2, h3, h4, h5⟩ := h
  intro a n c e hn
  injection e with e1 e2 e3
  have := h4 (by omega)
  rw [this] at e1
  cases e1
  exact World.block_lt_of_cell? _ _ (h5 0 (by omega)).1
/-- So few that a play goes through with them. -/
def Few (os : List Opv) : Prop := os.length ≤ 80 ∧ ∀ j, j < os.length → (os.getD j op0).b.length ≤ 300 ∧ (os.getD j op0).fs.length ≤ 100
/-- What few answers. -/
def FwE (os : List Opv) (w : World) (e : Ending) (w' : World) : Prop := ∃ B : Bool, e = .returned (.bool B) ∧ (B = true → Few os) ∧ Below w.heap.size w w'
theorem FwE.no {os : List Opv} {w w' : World} (hb : Below w.heap.size w w') : FwE os w (.returned (.bool false)) w' := ⟨false, rfl, (fun q => by cases q), hb⟩
theorem FwE.yes {os : List Opv} {w w' : World} (h : Few os) (hb : Below w.heap.size w w') : FwE os w (.returned (.bool true)) w' := ⟨true, rfl, fun _ => h, hb⟩
set_option maxRecDepth 100000 in
set_option maxHeartbeats 8000000 in
theorem few15 (v : Value) (os : List Opv) (w : World) (h : Ops w v os) :
    Calls Try.prog 9 #[v] w fun e w' => FwE os w e w' := by
  have HL : Hid (Ops w v os) := h
  obtain ⟨ad, cap, rfl, k1, k2⟩ := h.len
  unfold maxLen at k2
  obtain ⟨m, hm⟩ : ∃ m, os.length = m := ⟨_, rfl⟩
  have HM : Hid (os.length = m) := hm
  rw [hm] at k1 HL ⊢
  clear h hm
  go_enter Try.func9, Try.ntmps9
  by_cases q1 : 80 < m
  · have q1I : (80 : Int) < (m : Int) := by omega
    go_wp2
    go_ret
    exact FwE.no (Below.refl _ _)
  have q1I : ¬ (80 : Int) < (m : Int) := by omega
  go_upto_region 4 with fail
  go_loopw [10] (fun s10 wr => ∃ j : Nat, j ≤ m ∧ s10 = .int .i64 (j : Int) ∧ Hid (∀ k, k < j → (os.getD k op0).b.length ≤ 300 ∧ (os.getD k op0).fs.length ≤ 100) ∧ Hid (Below w.heap.size w wr)) (fun s10 _ => m - (intOf s10).toNat)
  case atStart => exact ⟨0, by omega, rfl, fun k hk => by omega, Below.refl _ _⟩
  case round =>
    obtain ⟨j, hj, rfl, HF, HB⟩ := hrel
    by_cases hlt : j < m
    · have hjI : (j : Int) < (m : Int) := by omega
      have hM := HM.out
      obtain ⟨b, o, vb, vf, rfl, c0, c1, c2, c3, hB, hF⟩ := HL.out.cel j (by omega)
      obtain ⟨a1, p1, rfl, -, -⟩ := hB.len
      obtain ⟨a2, p2, rfl, -, -⟩ := hF.len
      have x0 := cell_later HB.out c0
      have x1 := cell_later HB.out c1
      have x2 := cell_later HB.out c2
      have x3 := cell_later HB.out c3
      have HF2 : Hid ((os.getD j op0).b.length ≤ 300 → (os.getD j op0).fs.length ≤ 100 → ∀ k, k < j + 1 → (os.getD k op0).b.length ≤ 300 ∧ (os.getD k op0).fs.length ≤ 100) := fun h1 h2 k hk => by
        by_cases e : k = j
        · subst e; exact ⟨h1, h2⟩
        · exact HF.out k (by omega)
      have HB2 : Hid (∀ ob : Obj, Below w.heap.size w (wr.alloc ob)) := fun ob => bchain HB.out (bel1 _ _)
      clear c0 c1 c2 c3 hB hF hM HF HB
      generalize (os.getD j op0).k = kk at *
      generalize (os.getD j op0).i = ii at *
      generalize (os.getD j op0).b.length = nb at *
      generalize (os.getD j op0).fs.length = nf at *
      by_cases q2 : 300 < nb
      · have q2I : (300 : Int) < (nb : Int) := by omega
        go_wp2
        go_ret
        exact FwE.no (HB2.out _)
      have q2I : ¬ (300 : Int) < (nb : Int) := by omega
      by_cases q3 : 100 < nf
      · have q3I : (100 : Int) < (nf : Int) := by omega
        go_wp2
        go_ret
        exact FwE.no (HB2.out _)
      have q3I : ¬ (100 : Int) < (nf : Int) := by omega
      have HF3 := HF2.out (by omega) (by omega)
      have HF4 : Hid (∀ k, k < j + 1 → (os.getD k op0).b.length ≤ 300 ∧ (os.getD k op0).fs.length ≤ 100) := HF3
      clear HF2 HF3
      go_wp2
      go_roundw
      case rel => exact ⟨j + 1, by omega, by go_num, HF4, HB2.out _⟩
      case measure => simp [intOf]; omega
    · obtain rfl : j = m := by omega
      have hjI : ¬ (j : Int) < (j : Int) := by omega
      have HP : Hid (Few os) := ⟨by have := HM.out; omega, fun k hk => HF.out k (by have := HM.out; omega)⟩
      go_wp2
      go_ret
      exact FwE.yes HP.out HB.out
end Go.Proofs.Ytnchmnemclbfcaa
