/-
The program's disk in memory: its box, its map, the writes under way; what is written into it.
The program's disk: what keep makes safe.
-/
import Derived.Test.YtkbpcmjdfaokhaaDoorZ26
import Derived.Laws.OwnMore
import Derived.Maps.AppendAt

set_option linter.unusedVariables false
set_option linter.unusedSimpArgs false
namespace Go.Proofs.YtkbpcmjdfaokhaaDoor
open Go.RowKit

/-- A write as a row of cells; all of them. -/
def wr15 (u : Nat × List Nat) : List Value := .int .i64 ((u.1 : Nat) : Int) :: b8 u.2
def wcs (un : List (Nat × List Nat)) : List Value := un.flatMap wr15
theorem wcs_app (a b : List (Nat × List Nat)) : wcs (a ++ b) = wcs a ++ wcs b := by unfold wcs; rw [List.flatMap_append]
theorem wr15_len {u : Nat × List Nat} (h : u.2.length = 128) : (wr15 u).length = 129 := by unfold wr15; rw [List.length_cons, b8_len, h]
theorem wr15_one (u : Nat × List Nat) : ∀ v ∈ wr15 u, v.oneCell' = true := by
  intro v hv
  rcases List.mem_cons.1 hv with rfl | q
  · rfl
  · exact b8_one _ v q
theorem wcs_get : ∀ (un : List (Nat × List Nat)), (∀ u ∈ un, u.2.length = 128) → ∀ k j, k < un.length → j < 129 → (wcs un)[k * 129 + j]? = (wr15 (un.getD k (0, [])))[j]? := by
  intro un
  induction un with
  | nil => intro _ k j hk; simp at hk
  | cons u un ih =>
    intro h k j hk hj
    have hl := wr15_len (h u (by simp))
    have e : wcs (u :: un) = wr15 u ++ wcs un := rfl
    rw [e]
    cases k with
    | zero =>
      rw [List.getElem?_append_left (by omega)]
      simp
    | succ k =>
      rw [List.getElem?_append_right (by omega), hl, show (k + 1) * 129 + j - 129 = k * 129 + j by omega, ih (fun x hx => h x (by simp [hx])) k j (by simpa using hk) hj]
      simp
/-- The program's disk: its box d, its map M, the writes vU, how many calls are left L. -/
structure Pd (w : World) (d M : Nat) (vU : Value) (L : Int) (F : Nat → Prop) (s : Dsk) : Prop where
  ok : OkD s
  lt : ∀ k, F k → k < w.heap.size
  fd : F d
  fM : F M
  gU : ∀ g, vU.ownBlock = some g → F g ∧ g ≠ d ∧ g ≠ M
  dM : d ≠ M
  n1 : 1 ≤ s.bl.length
  n2 : s.bl.length ≤ 16384
  c0 : w.cell? ⟨d, 0, none⟩ = some (.int .i64 ((s.bl.length : Nat) : Int))
  c1 : w.cell? ⟨d, 1, none⟩ = some (.map (some M))
  c2 : w.cell? ⟨d, 2, none⟩ = some vU
  c3 : w.cell? ⟨d, 3, none⟩ = some (.int .i64 L)
  c4 : w.cell? ⟨d, 4, none⟩ = some (.bool s.dn)
  f0 : ∀ k, k < 5 → w.frozen? ⟨d, k, none⟩ = false
  rU : w.ownsRow 0 102 129 vU s.un.length (wcs s.un)
  mz : Mz w M s.bl
  ar : s.ar = decide (0 ≤ L)
  lf : s.ar = true → L = s.lf
  b64 : Bd64 L
def PD (w : World) (p : Value) (F : Nat → Prop) (s : Dsk) : Prop := ∃ (d M : Nat) (vU : Value) (L : Int), p = .pointer (some ⟨d, 0, none⟩) ∧ Pd w d M vU L F s
theorem Pd.kept {w w' : World} {d M : Nat} {vU : Value} {L : Int} {F : Nat → Prop} {s : Dsk} (h : Pd w d M vU L F s) (k : ∀ k, F k → w'.heap[k]? = w.heap[k]?) (hs : w.heap.size ≤ w'.heap.size) : Pd w' d M vU L F s :=
  ⟨h.ok, fun i hi => Nat.lt_of_lt_of_le (h.lt i hi) hs, h.fd, h.fM, h.gU, h.dM, h.n1, h.n2, cell_blk5 (k d h.fd) h.c0, cell_blk5 (k d h.fd) h.c1, cell_blk5 (k d h.fd) h.c2, cell_blk5 (k d h.fd) h.c3, cell_blk5 (k d h.fd) h.c4, fun i hi => frz_blk5 (k d h.fd) (h.f0 i hi), own_block16 h.rU (fun g hg => k g (h.gU g hg).1), h.mz.kept (k M h.fM), h.ar, h.lf, h.b64⟩
theorem Pd.later {w w' : World} {d M : Nat} {vU : Value} {L : Int} {F : Nat → Prop} {s : Dsk} (h : Pd w d M vU L F s) (k : Below w.heap.size w w') : Pd w' d M vU L F s := h.kept (fun i hi => k.block i (h.lt i hi)) k.size
theorem Pd.sU {w : World} {d M : Nat} {vU : Value} {L : Int} {F : Nat → Prop} {s : Dsk} (h : Pd w d M vU L F s) : ∃ ad cap, vU = .slice ad s.un.length cap := own_sl h.rU
/-- What is written into the box leaves the rest. -/
theorem Pd.box {w : World} {d M : Nat} {vU : Value} {L : Int} {F : Nat → Prop} {s : Dsk} (h : Pd w d M vU L F s) (j : Nat) (u : Value) : Mz (w.setCell ⟨d, j, none⟩ u) M s.bl ∧ (w.setCell ⟨d, j, none⟩ u).ownsRow 0 102 129 vU s.un.length (wcs s.un) ∧ (∀ k, k < 5 → (w.setCell ⟨d, j, none⟩ u).frozen? ⟨d, k, none⟩ = false) ∧ (∀ k, F k → k < (w.setCell ⟨d, j, none⟩ u).heap.size) :=
  ⟨h.mz.kept (out5 h.dM.symm), own_block16 h.rU (fun g hg => out5 (h.gU g hg).2.1), fun k hk => by rw [World.frozen?_setCell]; exact h.f0 k hk, fun k hk => by rw [World.size_setCell]; exact h.lt k hk⟩
theorem Pd.left {w : World} {d M : Nat} {vU : Value} {L : Int} {F : Nat → Prop} {s : Dsk} (h : Pd w d M vU L F s) (x y : Int) (hx : Bd64 x) (hy : 0 ≤ x → x = y) : Pd (w.setCell ⟨d, 3, none⟩ (.int .i64 x)) d M vU x F { s with ar := decide (0 ≤ x), lf := y } := by
  obtain ⟨b1, b2, b3, b4⟩ := h.box 3 (.int .i64 x)
  exact ⟨⟨h.ok.bl, h.ok.un⟩, b4, h.fd, h.fM, h.gU, h.dM, h.n1, h.n2, far5 h.c0 (by omega), far5 h.c1 (by omega), far5 h.c2 (by omega), same5 h.c3, far5 h.c4 (by omega), b3, b2, b1, rfl, fun q => hy (by simpa using q), hx⟩
theorem Pd.dn {w : World} {d M : Nat} {vU : Value} {L : Int} {F : Nat → Prop} {s : Dsk} (h : Pd w d M vU L F s) (x : Bool) : Pd (w.setCell ⟨d, 4, none⟩ (.bool x)) d M vU L F { s with dn := x } := by
  obtain ⟨b1, b2, b3, b4⟩ := h.box 4 (.bool x)
  exact ⟨⟨h.ok.bl, h.ok.un⟩, b4, h.fd, h.fM, h.gU, h.dM, h.n1, h.n2, far5 h.c0 (by omega), far5 h.c1 (by omega), far5 h.c2 (by omega), far5 h.c3 (by omega), same5 h.c4, b3, b2, b1, h.ar, h.lf, h.b64⟩
theorem Pd.nil {w : World} {d M : Nat} {vU : Value} {L : Int} {F : Nat → Prop} {s : Dsk} (h : Pd w d M vU L F s) : Pd (w.setCell ⟨d, 2, none⟩ (.slice none 0 0)) d M (.slice none 0 0) L F { s with un := [] } := by
  obtain ⟨b1, b2, b3, b4⟩ := h.box 2 (.slice none 0 0)
  exact ⟨⟨h.ok.bl, fun u hu => by cases hu⟩, b4, h.fd, h.fM, fun g hg => (by cases hg), h.dM, h.n1, h.n2, far5 h.c0 (by omega), far5 h.c1 (by omega), same5 h.c2, far5 h.c3 (by omega), far5 h.c4 (by omega), b3, World.ownsRow_nil _ _ _ _, b1, h.ar, h.lf, h.b64⟩
/-- The map is another. -/
theorem Pd.map {w w' : World} {d M : Nat} {vU : Value} {L : Int} {F : Nat → Prop} {s : Dsk} (h : Pd w d M vU L F s) {bl : List (List Nat)} (hm : Mz w' M bl) (hk : Kp (fun k => k = M) w w') (hl : bl.length = s.bl.length) (ho : ∀ b ∈ bl, okb b) : Pd w' d M vU L F { s with bl := bl } := by
  have hb : ∀ k, F k → k ≠ M → w'.heap[k]? = w.heap[k]? := fun k hF hn => hk.block k (h.lt k hF) hn
  have hd := hb d h.fd h.dM
  refine ⟨⟨ho, fun u hu => ?_⟩, fun i hi => Nat.lt_of_lt_of_le (h.lt i hi) hk.size, h.fd, h.fM, h.gU, h.dM, ?_, ?_, ?_, cell_blk5 hd h.c1, cell_blk5 hd h.c2, cell_blk5 hd h.c3, cell_blk5 hd h.c4, fun i hi => frz_blk5 hd (h.f0 i hi), own_block16 h.rU (fun g hg => hb g (h.gU g hg).1 (h.gU g hg).2.2), hm, h.ar, h.lf, h.b64⟩
  · show u.1 < bl.length ∧ okb u.2
    rw [hl]; exact h.ok.un u hu
  · show 1 ≤ bl.length
    rw [hl]; exact h.n1
  · show bl.length ≤ _
    rw [hl]; exact h.n2
  · show _ = some (Value.int .i64 ((bl.length : Nat) : Int))
    rw [hl]; exact cell_blk5 hd h.c0
/-- A write is under way. -/
theorem Pd.add {w w1 w2 : World} {d M : Nat} {vU vU' : Value} {L : Int} {F : Nat → Prop} {s : Dsk} (h : Pd w d M vU L F s) (k1 : Below w.heap.size w w1) (i : Nat) (t : List Nat) (hi : i < s.bl.length) (ht : okb t)
    (hown : w2.ownsRow 0 102 129 vU' (s.un.length + 1) (wcs s.un ++ wr15 (i, t))) (hg : w1.grownBy w2 vU.ownBlock) (hat : ∀ k, vU'.ownBlock = some k → vU.ownBlock = some k ∨ w1.heap.size ≤ k) :
    Pd (w2.setCell ⟨d, 2, none⟩ vU') d M vU' L (fun k => F k ∨ (w.heap.size ≤ k ∧ k < w2.heap.size)) { s with un := s.un ++ [(i, t)] } ∧ Kp F w (w2.setCell ⟨d, 2, none⟩ vU') := by
  have hs1 := k1.size
  have hs2 := hg.size
  have hold : ∀ g, vU.ownBlock = some g → g < w.heap.size := fun g q => (h.rU.lt g q).2
  have hnl : ∀ g, vU'.ownBlock = some g → g < w2.heap.size := fun g q => (hown.lt g q).2
  have k3 : ∀ k, k < w.heap.size → vU.ownBlock ≠ some k → w2.heap[k]? = w.heap[k]? := fun k hk hn => (hg.block k (by omega) (fun e => hn e.symm)).trans (k1.block k hk)
  have hud : vU.ownBlock ≠ some d := fun e => (h.gU d e).2.1 rfl
  have huM : vU.ownBlock ≠ some M := fun e => (h.gU M e).2.2 rfl
  have hbd := h.lt d h.fd
  have hbM := h.lt M h.fM
  have hdd := k3 d hbd hud
  have hud' : vU'.ownBlock ≠ some d := fun e => by
    rcases hat d e with q | q
    · exact hud q
    · omega
  refine ⟨⟨⟨h.ok.bl, fun u hu => ?_⟩, fun k hk => ?_, Or.inl h.fd, Or.inl h.fM, fun g hg' => ?_, h.dM, h.n1, h.n2, far5 (cell_blk5 (a := ⟨d, 0, none⟩) hdd h.c0) (by omega), far5 (cell_blk5 (a := ⟨d, 1, none⟩) hdd h.c1) (by omega), same5 (cell_blk5 (a := ⟨d, 2, none⟩) hdd h.c2), far5 (cell_blk5 (a := ⟨d, 3, none⟩) hdd h.c3) (by omega), far5 (cell_blk5 (a := ⟨d, 4, none⟩) hdd h.c4) (by omega), fun j hj => ?_, ?_, h.mz.kept ((out5 h.dM.symm).trans (k3 M hbM huM)), h.ar, h.lf, h.b64⟩, ?_⟩
  · rcases List.mem_append.1 hu with q | q
    · exact h.ok.un u q
    · obtain rfl : u = (i, t) := by simpa using q
      exact ⟨hi, ht⟩
  · rw [World.size_setCell]
    rcases hk with q | q
    · have := h.lt k q; omega
    · exact q.2
  · rcases hat g hg' with q | q
    · exact ⟨Or.inl (h.gU g q).1, (h.gU g q).2⟩
    · have := hnl g hg'
      exact ⟨Or.inr ⟨by omega, this⟩, by omega, by omega⟩
  · rw [World.frozen?_setCell]
    exact frz_blk5 (a := ⟨d, j, none⟩) hdd (h.f0 j hj)
  · show World.ownsRow _ _ _ _ _ (s.un ++ [(i, t)]).length (wcs (s.un ++ [(i, t)]))
    rw [List.length_append, wcs_app]
    have e : wcs [(i, t)] = wr15 (i, t) := by unfold wcs; simp
    rw [e]
    exact own_block16 hown (fun g hg' => out5 (fun e => hud' (by rw [← e]; exact hg')))
  · refine ⟨hg.os.trans k1.os, hg.tape.trans k1.tape, hg.output.trans k1.output, by rw [World.size_setCell]; omega, fun k hk hn => ?_⟩
    exact (out5 (fun e => hn (by rw [e]; exact h.fd))).trans (k3 k hk (fun e => hn (h.gU k e).1))
theorem PD.kept {w w' : World} {p : Value} {F : Nat → Prop} {s : Dsk} (h : PD w p F s) (k : ∀ k, F k → w'.heap[k]? = w.heap[k]?) (hs : w.heap.size ≤ w'.heap.size) : PD w' p F s := by
  obtain ⟨d, M, vU, L, e, h⟩ := h
  exact ⟨d, M, vU, L, e, h.kept k hs⟩
theorem PD.lt {w : World} {p : Value} {F : Nat → Prop} {s : Dsk} (h : PD w p F s) : ∀ k, F k → k < w.heap.size := by
  obtain ⟨d, M, vU, L, e, h⟩ := h
  exact h.lt
theorem PD.ok {w : World} {p : Value} {F : Nat → Prop} {s : Dsk} (h : PD w p F s) : OkD s := by
  obtain ⟨d, M, vU, L, e, h⟩ := h
  exact h.ok
/-- A disk that is none: nil, or one that New did not make. -/
def Nd (w : World) (p : Value) : Prop := p = .pointer none ∨ ∃ d : Nat, p = .pointer (some ⟨d, 0, none⟩) ∧ w.cell? ⟨d, 0, none⟩ = some (.int .i64 0)
theorem Nd.later {w w' : World} {p : Value} (h : Nd w p) (k : Below w.heap.size w w') : Nd w' p := by
  rcases h with e | ⟨d, e, c⟩
  · exact Or.inl e
  · exact Or.inr ⟨d, e, cell_later k c⟩
/-! Whether it is one, whether it runs, whether it has a block. -/
set_option maxRecDepth 100000 in
set_option maxHeartbeats 4000000 in
theorem made_no {w : World} {p : Value} (h : Nd w p) : Calls Tryd.prog 46 #[p] w fun e w' => e = .returned (.bool false) ∧ w' = w := by
  rcases h with rfl | ⟨d, rfl, c⟩
  · go_enter Tryd.func46, Tryd.ntmps46
    go_wp2
    go_ret
    exact ⟨rfl, rfl⟩
  · go_enter Tryd.func46, Tryd.ntmps46
    go_wp2
    go_ret
    exact ⟨rfl, rfl⟩
set_option maxRecDepth 100000 in
set_option maxHeartbeats 4000000 in
theorem made_yes {w : World} {d M : Nat} {vU : Value} {L : Int} {F : Nat → Prop} {s : Dsk} (h : Pd w d M vU L F s) : Calls Tryd.prog 46 #[.pointer (some ⟨d, 0, none⟩)] w fun e w' => e = .returned (.bool true) ∧ w' = w := by
  have c0 := h.c0
  have n1 : 0 < s.bl.length := by have := h.n1; omega
  clear h
  generalize s.bl.length = n at *
  go_enter Tryd.func46, Tryd.ntmps46
  go_wp2
  go_ret
  exact ⟨rfl, rfl⟩
set_option maxRecDepth 100000 in
set_option maxHeartbeats 4000000 in
theorem has_any {w : World} {d M : Nat} {vU : Value} {L : Int} {F : Nat → Prop} {s : Dsk} (h : Pd w d M vU L F s) (i : Int) : Calls Tryd.prog 53 #[.pointer (some ⟨d, 0, none⟩), .int .i64 i] w fun e w' => e = .returned (.bool (decide (0 ≤ i ∧ i < (s.bl.length : Int)))) ∧ w' = w := by
  have c0 := h.c0
  clear h
  generalize s.bl.length = n at *
  by_cases q : 0 ≤ i
  · by_cases q2 : i < (n : Int)
    · have e : decide (0 ≤ i ∧ i < (n : Int)) = true := by simp [q, q2]
      rw [e]
      clear e
      go_enter Tryd.func53, Tryd.ntmps53
      go_wp2
      go_ret
      exact ⟨rfl, rfl⟩
    · have e : decide (0 ≤ i ∧ i < (n : Int)) = false := by simp [q2]
      rw [e]
      clear e
      go_enter Tryd.func53, Tryd.ntmps53
      go_wp2
      go_ret
      exact ⟨rfl, rfl⟩
  · have e : decide (0 ≤ i ∧ i < (n : Int)) = false := by simp [q]
    rw [e]
    clear e
    have q2 : i < 0 := by omega
    clear q
    go_enter Tryd.func53, Tryd.ntmps53
    go_wp2
    go_ret
    exact ⟨rfl, rfl⟩
set_option maxRecDepth 100000 in
set_option maxHeartbeats 4000000 in
theorem runs_no {w : World} {p : Value} (h : Nd w p) : Calls Tryd.prog 52 #[p] w fun e w' => e = .returned (.int .i64 1) ∧ w' = w := by
  have hm := made_no h
  go_enter Tryd.func52, Tryd.ntmps52
  go_wp2_with (go_at_call 46; refine hm.mono ?_; rintro e w' ⟨rfl, rfl⟩; clear hm)
  go_ret
  exact ⟨rfl, rfl⟩
set_option maxRecDepth 100000 in
set_option maxHeartbeats 4000000 in
theorem runs_yes {w : World} {d M : Nat} {vU : Value} {L : Int} {F : Nat → Prop} {s : Dsk} (h : Pd w d M vU L F s) : Calls Tryd.prog 52 #[.pointer (some ⟨d, 0, none⟩)] w fun e w' => e = .returned (.int .i64 ((if s.dn = true then 150 else 0 : Nat) : Int)) ∧ w' = w := by
  have hm := made_yes h
  have c4 := h.c4
  clear h
  generalize s.dn = dn at *
  cases dn with
  | true =>
    go_enter Tryd.func52, Tryd.ntmps52
    go_wp2_with (go_at_call 46; refine hm.mono ?_; rintro e w' ⟨rfl, rfl⟩; clear hm)
    go_ret
    exact ⟨rfl, rfl⟩
  | false =>
    go_enter Tryd.func52, Tryd.ntmps52
    go_wp2_with (go_at_call 46; refine hm.mono ?_; rintro e w' ⟨rfl, rfl⟩; clear hm)
    go_ret
    exact ⟨rfl, rfl⟩
/-- A call is taken off what is left. -/
def Bxd (d M : Nat) (vU : Value) (F : Nat → Prop) (s : Dsk) (w w' : World) : Prop := ∃ L, Pd w' d M vU L F s ∧ Kp (fun k => k = d) w w'
def spE (s : Dsk) : Nat := if dGo s = true then 0 else 150
set_option maxRecDepth 100000 in
set_option maxHeartbeats 4000000 in
theorem spend_any {w : World} {d M : Nat} {vU : Value} {L : Int} {F : Nat → Prop} {s : Dsk} (h : Pd w d M vU L F s) : Calls Tryd.prog 54 #[.pointer (some ⟨d, 0, none⟩)] w fun e w' => e = .returned (.int .i64 ((spE s : Nat) : Int)) ∧ Bxd d M vU F (dGone s) w w' := by
  have c3 := h.c3
  have c4 := h.c4
  have f3 := h.f0 3 (by omega)
  have f4 := h.f0 4 (by omega)
  have HP : Hid (Pd w d M vU L F s) := h
  have hb := h.b64
  unfold Bd64 at hb
  by_cases q : L < 0
  · have ha : s.ar = false := by rw [h.ar]; simp; omega
    have HS : Hid (spE s = 0 ∧ dGone s = s) := by
      refine ⟨?_, ?_⟩
      · unfold spE dGo; rw [ha]; rfl
      · unfold dGone; rw [ha]; rfl
    have q1 : ¬ L = 0 := by omega
    have q2 : ¬ 0 < L := by omega
    clear h hb ha q
    go_enter Tryd.func54, Tryd.ntmps54
    go_wp2
    go_ret
    exact ⟨by rw [HS.out.1]; rfl, L, by rw [HS.out.2]; exact HP.out, Kp.refl _ _⟩
  · have ha : s.ar = true := by rw [h.ar]; simp; omega
    have hl := h.lf ha
    by_cases q0 : L = 0
    · subst q0
      have HS : Hid (spE s = 150 ∧ dGone s = { s with dn := true }) := by
        refine ⟨?_, ?_⟩
        · unfold spE dGo; rw [ha, ← hl]; rfl
        · unfold dGone; rw [if_pos ha, if_pos hl.symm]
      have HP2 := hid5 (HP.out.dn true)
      clear h hb ha q hl
      go_enter Tryd.func54, Tryd.ntmps54
      go_wp2
      go_ret
      exact ⟨by rw [HS.out.1]; rfl, 0, by rw [HS.out.2]; exact HP2.out, (Kp.refl (fun k => k = d) _).set (p := ⟨d, 4, none⟩) (Or.inl rfl) _⟩
    · have HS : Hid (spE s = 0 ∧ dGone s = { s with ar := decide (0 ≤ L - 1), lf := L - 1 }) := by
        refine ⟨?_, ?_⟩
        · unfold spE dGo; rw [ha, ← hl]; simp [q0]
        · unfold dGone
          rw [if_pos ha, if_neg (by omega), ← hl]
          have e : decide (0 ≤ L - 1) = s.ar := by rw [ha]; simp; omega
          rw [e]
      have hw : IntKind.i64.wrap (L - 1) = L - 1 := by rw [IntKind.wrap_i64]; omega
      have HP2 := hid5 (HP.out.left (L - 1) (L - 1) ⟨by omega, by omega⟩ (fun _ => rfl))
      have q2 : 0 < L := by omega
      clear h hb ha q hl
      go_enter Tryd.func54, Tryd.ntmps54
      go_wp2
      go_ret
      exact ⟨by rw [HS.out.1]; rfl, L - 1, by rw [HS.out.2]; exact HP2.out, (Kp.refl (fun k => k = d) _).set (p := ⟨d, 3, none⟩) (Or.inl rfl) _⟩
end Go.Proofs.YtkbpcmjdfaokhaaDoor
set_option linter.unusedVariables false
set_option linter.unusedSimpArgs false
namespace Go.Proofs.YtkbpcmjdfaokhaaDoor
open Go.RowKit

theorem mpS {ops : Array Oper} {o : Oper} {a : Act} {w w' : World} {K : Act → World → Prop} {Q : Exit → Act → World → Prop} {E : Prop} (hgd : o.guard = none) (T : TypeId) (m x v : Operand) (ho : o.op = .mapUpdate T m x v)
    (vm vx vv : Value) (hm : a.eval m = vm) (hx : a.eval x = vx) (hv : a.eval v = vv) (hrun : (Instr.mapUpdate T vm vx vv).run Tryd.prog w = .ok () w') (h : K (a.put o.dst undef) w') : if Region.wanted o (yielded ops a.tmps) = true then Oper.wp Tryd.prog o a w K Q else E := by
  have hw : Region.wanted o (yielded ops a.tmps) = true := by simp [Region.wanted, hgd]
  rw [if_pos hw]
  unfold Oper.wp
  simp [execOp, ho, hm, hx, hv, hrun, Result.andThen]
  exact h
theorem okb_set {bl : List (List Nat)} (h : ∀ b ∈ bl, okb b) (i : Nat) {t : List Nat} (ht : okb t) : ∀ b ∈ bl.set i t, okb b := by
  intro b hb
  rcases List.mem_or_eq_of_mem_set hb with q | q
  · exact h b q
  · rw [q]; exact ht
/-- What keep leaves. -/
def Kd15 (d M : Nat) (vU : Value) (L : Int) (F : Nat → Prop) (s : Dsk) (w w' : World) : Prop := Pd w' d M vU L F s ∧ Kp (fun k => k = M) w w'
set_option maxRecDepth 100000 in
set_option maxHeartbeats 4000000 in
theorem keep15 {w : World} {d M : Nat} {vU : Value} {L : Int} {F : Nat → Prop} {s : Dsk} (h : Pd w d M vU L F s) (i : Nat) (t : List Nat) (hi : i < s.bl.length) (ht : okb t) :
    Calls Tryd.prog 47 #[.pointer (some ⟨d, 0, none⟩), .int .i64 (i : Int), .agg (b8 t).toArray] w fun e w' => e = .returned (.tuple #[]) ∧ Kd15 d M vU L F { s with bl := s.bl.set i t } w w' := by
  obtain ⟨wA, hwA⟩ : ∃ wA, wA = w.alloc (.cells (b8 t).toArray 100) := ⟨_, rfl⟩
  have HA : Hid (Pd wA d M vU L F s ∧ Vb wA w.heap.size 100 (b8 t) ∧ Below w.heap.size w wA) := by
    rw [hwA]
    exact ⟨h.later (bel1 _ _), Vb.new _ _ _, bel1 _ _⟩
  have HI : Hid (i < s.bl.length ∧ okb t ∧ M < w.heap.size ∧ d < w.heap.size ∧ d ≠ M) := ⟨hi, ht, h.lt M h.fM, h.lt d h.fd, h.dM⟩
  clear h hi ht
  have c1 := HA.out.1.c1
  have hE := fun W => eq_zero15 t HI.out.2.1.1 W
  unfold bkV at hE
  have hg : Tryd.prog.eqGuardType Tryd.prog.depth 100 = false := by kernel_rfl
  have hbd := zero_blk15
  unfold bkV at hbd
  by_cases q : t = zr15
  · rw [decide_eq_true q] at hE
    obtain ⟨wD, hdel, hM, hK⟩ := map_del HA.out.1.mz i HI.out.1
    rw [← q] at hM
    unfold key15 at hdel
    have HR : Hid (Kd15 d M vU L F { s with bl := s.bl.set i t } w wD) :=
      ⟨HA.out.1.map hM hK (by rw [List.length_set]) (okb_set HA.out.1.ok.bl i HI.out.2.1), ((Kp.of HA.out.2.2).mono (fun _ q => q)).trans hK (fun k hk => Or.inl hk)⟩
    clear hM hK q
    go_enter Tryd.func47, Tryd.ntmps47
    go_upto_region 1 with fail
    rw [← hwA]
    clear hwA
    go_wp2_with (refine ldB rfl _ rfl w.heap.size 0 t rfl HA.out.2.1.all HI.out.2.1.1 ?_)
    refine bodyPost_ret (results_none rfl _ _ _) rfl ?_
    exact ⟨rfl, HR.out⟩
  · rw [decide_eq_false q] at hE
    go_enter Tryd.func47, Tryd.ntmps47
    go_upto_region 1 with fail
    rw [← hwA]
    clear hwA
    go_upto_region 3 with (refine ldB rfl _ rfl w.heap.size 0 t rfl HA.out.2.1.all HI.out.2.1.1 ?_)
    refine wp_region_held_drew (S := fun W => W.cell? ⟨d, 1, none⟩ = some (.map (some M)) ∧ Vb W w.heap.size 100 (b8 t)) (by kernel_rfl) ⟨c1, HA.out.2.1⟩ (fun HS => ?_)
    have HAd : Hid (Pd wA.drew d M vU L F s ∧ Below w.heap.size w wA.drew) := ⟨HA.out.1.kept (fun _ _ => rfl) (Nat.le_refl _), HA.out.2.2.drew⟩
    clear HA c1 hE hg hbd
    generalize wA.drew = wD at *
    obtain ⟨wE, hput, hM, hK⟩ := map_put HAd.out.1.mz i t HI.out.1
    unfold key15 bkV at hput
    have HR : Hid (Kd15 d M vU L F { s with bl := s.bl.set i t } w wE) :=
      ⟨HAd.out.1.map hM hK (by rw [List.length_set]) (okb_set HAd.out.1.ok.bl i HI.out.2.1), ((Kp.of HAd.out.2).mono (fun _ q => q)).trans hK (fun k hk => Or.inl hk)⟩
    have HSE : Hid (wE.cell? ⟨d, 1, none⟩ = some (.map (some M)) ∧ Vb wE w.heap.size 100 (b8 t)) := ⟨HR.out.1.c1, HS.2.kept (hK.block _ HS.2.lt (by have := HI.out.2.2.1; omega))⟩
    clear hM hK HAd q
    refine wpAnyH_take (i := 0) (v := ?v1) rfl (by kernel_rfl) (by kernel_rfl) (by kernel_rfl) (fun _ _ _ h => h) (Or.inl ⟨by kernel_rfl, ?h1⟩) HS ?r1
    case h1 => (rintro w ⟨n0, n1⟩; go_simp) <;> with_reducible rfl
    try simp only [Act.put, List.getElem_toArray, List.getElem_cons_succ, List.getElem_cons_zero, List.setIfInBounds_toArray, List.set_cons_zero, List.set_cons_succ]
    refine wpAnyH_take (i := 1) (v := ?v2) rfl (by kernel_rfl) (by kernel_rfl) (by kernel_rfl) (fun _ _ _ h => h) (Or.inl ⟨by kernel_rfl, ?h2⟩) HS ?r2
    case h2 => (rintro w ⟨n0, n1⟩; go_simp) <;> with_reducible rfl
    try simp only [Act.put, List.getElem_toArray, List.getElem_cons_succ, List.getElem_cons_zero, List.setIfInBounds_toArray, List.set_cons_zero, List.set_cons_succ]
    refine wpAnyH_take (i := 2) (v := ?v3) rfl (by kernel_rfl) (by kernel_rfl) (by kernel_rfl) (fun _ _ _ h => h) (Or.inl ⟨by kernel_rfl, ?h3⟩) HS ?r3
    case h3 => (rintro w ⟨n0, n1⟩; go_simp) <;> with_reducible rfl
    try simp only [Act.put, List.getElem_toArray, List.getElem_cons_succ, List.getElem_cons_zero, List.setIfInBounds_toArray, List.set_cons_zero, List.set_cons_succ]
    refine wpAnyH_take (i := 3) (v := ?v4) rfl (by kernel_rfl) (by kernel_rfl) (by kernel_rfl) (fun _ _ _ h => h) (Or.inl ⟨by kernel_rfl, ?h4⟩) HS ?r4
    case h4 => (rintro w ⟨n0, n1⟩; go_simp) <;> with_reducible rfl
    try simp only [Act.put, List.getElem_toArray, List.getElem_cons_succ, List.getElem_cons_zero, List.setIfInBounds_toArray, List.set_cons_zero, List.set_cons_succ]
    refine wpAnyH_take (i := 4) (v := ?v5) rfl (by kernel_rfl) (by kernel_rfl) (by kernel_rfl) (fun _ _ _ h => h) (Or.inl ⟨by kernel_rfl, ?h5⟩) HS ?r5
    case h5 => (rintro w ⟨n0, n1⟩; go_simp) <;> with_reducible rfl
    try simp only [Act.put, List.getElem_toArray, List.getElem_cons_succ, List.getElem_cons_zero, List.setIfInBounds_toArray, List.set_cons_zero, List.set_cons_succ]
    refine wpAnyH_take (i := 5) (v := .agg (b8 t).toArray) rfl (by kernel_rfl) (by kernel_rfl) (by kernel_rfl) (fun _ _ _ h => h) ?ha HS ?_
    case ha =>
      refine yieldsIf_load_mid (by kernel_rfl) 100 _ rfl w.heap.size 0 rfl (b8 t) _ ?_ und_blk15 rfl (by rw [b8_len, HI.out.2.1.1]; exact sz_blk15)
      exact fun W hW => hW.2.all
    try simp only [Act.put, List.getElem_toArray, List.getElem_cons_succ, List.getElem_cons_zero, List.setIfInBounds_toArray, List.set_cons_zero, List.set_cons_succ]
    refine wpAnyH_ready (rs := [6]) (by kernel_rfl) (by simp) ?_
    refine AllReadyH.cons rfl (fun K hK => ?_) AllReadyH.nil
    refine mpS rfl 67 _ _ _ rfl _ _ _ rfl rfl rfl hput ?_
    refine hK.out _ _ HSE.out (fun HS => ?_)
    clear hK K
    try simp only [Act.put, List.getElem_toArray, List.getElem_cons_succ, List.getElem_cons_zero, List.setIfInBounds_toArray, List.set_cons_zero, List.set_cons_succ]
    refine wpAnyH_done (by kernel_rfl) ?_ _
    clear HS HSE hput
    go_wp2
    go_end0
    exact ⟨rfl, HR.out⟩
end Go.Proofs.YtkbpcmjdfaokhaaDoor
