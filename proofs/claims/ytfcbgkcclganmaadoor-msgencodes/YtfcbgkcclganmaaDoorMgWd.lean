/-
  Layer 14's msg: readField, must, read.
-/
import Derived.Test.YtfcbgkcclganmaaDoorMgWc
set_option linter.unusedVariables false
set_option linter.unusedSimpArgs false
namespace Go.Proofs.YtfcbgkcclganmaaDoor
open Go.RowKit

/-- A number put into a field. -/
def setF (m : Ms) : Nat → Int → Ms
  | 0, x => { m with fr := x }
  | 1, x => { m with inc := x }
  | 2, x => { m with rd := x }
  | 3, x => { m with h := x }
  | 4, x => { m with pt := x }
  | 5, x => { m with ps := x }
  | _, _ => m
def rdStep (z : Sta × Ms) (x : Int) : Sta × Ms := if x = 6 then (pn rB z.1, { z.2 with d := pv rB [] z.1 }) else (pn rI z.1, setF z.2 x.toNat (pv rI 0 z.1))
def rdFold (k : Int) (p : List Nat) (j : Nat) : Sta × Ms := ((fdL k).take j).foldl rdStep (.ok p, ⟨k, 0, 0, 0, 0, 0, 0, []⟩)
theorem rdFold_zero (k : Int) (p : List Nat) : rdFold k p 0 = (.ok p, ⟨k, 0, 0, 0, 0, 0, 0, []⟩) := rfl
theorem rdFold_next (k : Int) (p : List Nat) (j : Nat) (hj : j < (fdL k).length) : rdFold k p (j + 1) = rdStep (rdFold k p j) ((fdL k).getD j 0) := by
  unfold rdFold
  rw [List.take_succ_eq_append_getElem hj, List.foldl_append]
  simp [List.getD, hj]
theorem rdFold_all (k : Int) (p : List Nat) : rdFold k p (fdL k).length = (rdD k p, rdM k p) := by
  by_cases hk : 1 ≤ k ∧ k ≤ 8
  · rcases kind8 hk.1 hk.2 with rfl | rfl | rfl | rfl | rfl | rfl | rfl | rfl <;> rfl
  · unfold rdFold rdD rdM rdI
    rw [fdL_none hk, if_neg (by omega), if_neg (by omega), if_neg (by omega), if_neg (by omega), if_neg (by omega), if_neg (by omega), if_neg (by omega), if_neg (by omega)]
    have : cnt k = 0 := by unfold cnt; rw [if_neg (by omega), if_neg (by omega), if_neg (by omega), if_neg (by omega), if_neg (by omega), if_neg (by omega), if_neg (by omega)]
    rw [this]
    rfl
theorem fd_last (k : Int) (j : Nat) (hj : j < (fdL k).length) (h : (fdL k).getD j 0 = 6) : j + 1 = (fdL k).length := by
  by_cases hk : 1 ≤ k ∧ k ≤ 8
  · rcases kind8 hk.1 hk.2 with rfl | rfl | rfl | rfl | rfl | rfl | rfl | rfl
    all_goals
      revert j
      decide
  · rw [fdL_none hk] at hj; cases hj
/-- What a field's reading leaves: the reader, the message. -/
structure Rdl (p : Value) (F : Nat → Prop) (g : Nat) (s : Sta) (m : Ms) (vd : Value) (w w' : World) : Prop where
  rd : ∃ F', Rp w' p F' s ∧ Gr F F' w
  mb : Rw g 8 (mf m vd) w'
  kp : Kp (fun i => F i ∨ i = g) w w'
theorem mf_put {g : Nat} {m m' : Ms} {vd vd' : Value} {w : World} (r : Rw g 8 (mf m vd) w) (j : Nat) (u : Value) (e : ∀ k, k < 8 → (if k = j then u else mf m vd k) = mf m' vd' k) : Rw g 8 (mf m' vd') (w.setCell ⟨g, j, none⟩ u) := (r.set j u).congr e
theorem Rdl.mk2 {p : Value} {F : Nat → Prop} {g : Nat} {s : Sta} {m m' : Ms} {vd vd' : Value} {w w1 : World} (hg : ¬ F g) (r : Rw g 8 (mf m vd) w) (hA : Af Rp p F s w w1) (j : Nat) (u : Value) (e : ∀ k, k < 8 → (if k = j then u else mf m vd k) = mf m' vd' k) : Rdl p F g s m' vd' w (w1.setCell ⟨g, j, none⟩ u) := by
  have hlt := r.lt (by omega)
  obtain ⟨F', h1, h2, h3⟩ := hA
  have hn : ¬ F' g := fun q => by
    rcases h2 g q with q | q
    · exact hg q
    · omega
  have r1 : Rw g 8 (mf m vd) w1 := r.block (h3.block g hlt hg)
  refine ⟨⟨F', h1.kept (fun k hk => Below.heap_setCell _ _ _ _ (fun e => hn (by have e2 : k = g := e; rw [← e2]; exact hk))) (by rw [World.size_setCell]; exact Nat.le_refl _), h2⟩, mf_put r1 j u e, ?_⟩
  exact (Kp.mono (G := fun i => F i ∨ i = g) h3 (fun i hi => Or.inl hi)).set (p := ⟨g, j, none⟩) (Or.inl (Or.inr rfl)) u
set_option maxRecDepth 100000 in
set_option maxHeartbeats 1000000 in
theorem must_yes (w : World) : Calls Tryd.prog 50 #[.bool true] w fun e w' => e = .returned (.tuple #[]) ∧ w' = w := by
  go_enter Tryd.func50, Tryd.ntmps50
  go_wp2
  go_end0
  exact ⟨rfl, rfl⟩
set_option maxRecDepth 100000 in
set_option maxHeartbeats 1000000 in
theorem must_no (w : World) : Calls Tryd.prog 50 #[.bool false] w fun e w' => e = .panicked [{ v := .iface 28 (.int .i64 140), recovered := false }] ∧ w' = w := by
  go_enter Tryd.func50, Tryd.ntmps50
  go_wp2
  exact ⟨rfl, rfl, rfl⟩
set_option maxRecDepth 100000 in
set_option maxHeartbeats 2000000 in
theorem readField0 (p : Value) (F : Nat → Prop) (g : Nat) (s : Sta) (m : Ms) (vd : Value) (w : World) (h : Rp w p F s) (r : Rw g 8 (mf m vd) w) (hg : ¬ F g) :
    Calls Tryd.prog 56 #[p, .pointer (some ⟨g, 0, none⟩), .int .i64 0] w fun e w' => e = .returned (.tuple #[]) ∧ Rdl p F g (pn rI s) (setF m 0 (pv rI 0 s)) vd w w' := by
  have HR : Hid (Rp w p F s ∧ Rw g 8 (mf m vd) w ∧ ¬ F g) := ⟨h, r, hg⟩
  clear h r hg
  go_enter Tryd.func56, Tryd.ntmps56
  go_wp2_with fail
  refine (rInt_any _ _ F _ HR.out.1).mono ?_
  rintro e w1 ⟨rfl, hA⟩
  have HA : Hid (Af Rp p F (pn rI s) w w1) := hA
  have HW : Hid (Rw g 8 (mf m vd) w1) := by
    obtain ⟨F', -, -, h3⟩ := hA
    exact HR.out.2.1.block (h3.block g (HR.out.2.1.lt (by omega)) HR.out.2.2)
  have x := HW.out.c 1 (by omega)
  have y := HW.out.f 1 (by omega)
  clear hA
  dsimp only [mf] at x
  go_wp2
  go_end0
  refine ⟨rfl, Rdl.mk2 HR.out.2.2 HR.out.2.1 HA.out 1 _ fun k hk => ?_⟩
  rcases less8 hk with rfl | rfl | rfl | rfl | rfl | rfl | rfl | rfl <;> rfl
set_option maxRecDepth 100000 in
set_option maxHeartbeats 2000000 in
theorem readField1 (p : Value) (F : Nat → Prop) (g : Nat) (s : Sta) (m : Ms) (vd : Value) (w : World) (h : Rp w p F s) (r : Rw g 8 (mf m vd) w) (hg : ¬ F g) :
    Calls Tryd.prog 56 #[p, .pointer (some ⟨g, 0, none⟩), .int .i64 1] w fun e w' => e = .returned (.tuple #[]) ∧ Rdl p F g (pn rI s) (setF m 1 (pv rI 0 s)) vd w w' := by
  have HR : Hid (Rp w p F s ∧ Rw g 8 (mf m vd) w ∧ ¬ F g) := ⟨h, r, hg⟩
  clear h r hg
  go_enter Tryd.func56, Tryd.ntmps56
  go_wp2_with fail
  refine (rInt_any _ _ F _ HR.out.1).mono ?_
  rintro e w1 ⟨rfl, hA⟩
  have HA : Hid (Af Rp p F (pn rI s) w w1) := hA
  have HW : Hid (Rw g 8 (mf m vd) w1) := by
    obtain ⟨F', -, -, h3⟩ := hA
    exact HR.out.2.1.block (h3.block g (HR.out.2.1.lt (by omega)) HR.out.2.2)
  have x := HW.out.c 2 (by omega)
  have y := HW.out.f 2 (by omega)
  clear hA
  dsimp only [mf] at x
  go_wp2
  go_end0
  refine ⟨rfl, Rdl.mk2 HR.out.2.2 HR.out.2.1 HA.out 2 _ fun k hk => ?_⟩
  rcases less8 hk with rfl | rfl | rfl | rfl | rfl | rfl | rfl | rfl <;> rfl
set_option maxRecDepth 100000 in
set_option maxHeartbeats 2000000 in
theorem readField2 (p : Value) (F : Nat → Prop) (g : Nat) (s : Sta) (m : Ms) (vd : Value) (w : World) (h : Rp w p F s) (r : Rw g 8 (mf m vd) w) (hg : ¬ F g) :
    Calls Tryd.prog 56 #[p, .pointer (some ⟨g, 0, none⟩), .int .i64 2] w fun e w' => e = .returned (.tuple #[]) ∧ Rdl p F g (pn rI s) (setF m 2 (pv rI 0 s)) vd w w' := by
  have HR : Hid (Rp w p F s ∧ Rw g 8 (mf m vd) w ∧ ¬ F g) := ⟨h, r, hg⟩
  clear h r hg
  go_enter Tryd.func56, Tryd.ntmps56
  go_wp2_with fail
  refine (rInt_any _ _ F _ HR.out.1).mono ?_
  rintro e w1 ⟨rfl, hA⟩
  have HA : Hid (Af Rp p F (pn rI s) w w1) := hA
  have HW : Hid (Rw g 8 (mf m vd) w1) := by
    obtain ⟨F', -, -, h3⟩ := hA
    exact HR.out.2.1.block (h3.block g (HR.out.2.1.lt (by omega)) HR.out.2.2)
  have x := HW.out.c 3 (by omega)
  have y := HW.out.f 3 (by omega)
  clear hA
  dsimp only [mf] at x
  go_wp2
  go_end0
  refine ⟨rfl, Rdl.mk2 HR.out.2.2 HR.out.2.1 HA.out 3 _ fun k hk => ?_⟩
  rcases less8 hk with rfl | rfl | rfl | rfl | rfl | rfl | rfl | rfl <;> rfl
set_option maxRecDepth 100000 in
set_option maxHeartbeats 2000000 in
theorem readField3 (p : Value) (F : Nat → Prop) (g : Nat) (s : Sta) (m : Ms) (vd : Value) (w : World) (h : Rp w p F s) (r : Rw g 8 (mf m vd) w) (hg : ¬ F g) :
    Calls Tryd.prog 56 #[p, .pointer (some ⟨g, 0, none⟩), .int .i64 3] w fun e w' => e = .returned (.tuple #[]) ∧ Rdl p F g (pn rI s) (setF m 3 (pv rI 0 s)) vd w w' := by
  have HR : Hid (Rp w p F s ∧ Rw g 8 (mf m vd) w ∧ ¬ F g) := ⟨h, r, hg⟩
  clear h r hg
  go_enter Tryd.func56, Tryd.ntmps56
  go_wp2_with fail
  refine (rInt_any _ _ F _ HR.out.1).mono ?_
  rintro e w1 ⟨rfl, hA⟩
  have HA : Hid (Af Rp p F (pn rI s) w w1) := hA
  have HW : Hid (Rw g 8 (mf m vd) w1) := by
    obtain ⟨F', -, -, h3⟩ := hA
    exact HR.out.2.1.block (h3.block g (HR.out.2.1.lt (by omega)) HR.out.2.2)
  have x := HW.out.c 4 (by omega)
  have y := HW.out.f 4 (by omega)
  clear hA
  dsimp only [mf] at x
  go_wp2
  go_end0
  refine ⟨rfl, Rdl.mk2 HR.out.2.2 HR.out.2.1 HA.out 4 _ fun k hk => ?_⟩
  rcases less8 hk with rfl | rfl | rfl | rfl | rfl | rfl | rfl | rfl <;> rfl
set_option maxRecDepth 100000 in
set_option maxHeartbeats 2000000 in
theorem readField4 (p : Value) (F : Nat → Prop) (g : Nat) (s : Sta) (m : Ms) (vd : Value) (w : World) (h : Rp w p F s) (r : Rw g 8 (mf m vd) w) (hg : ¬ F g) :
    Calls Tryd.prog 56 #[p, .pointer (some ⟨g, 0, none⟩), .int .i64 4] w fun e w' => e = .returned (.tuple #[]) ∧ Rdl p F g (pn rI s) (setF m 4 (pv rI 0 s)) vd w w' := by
  have HR : Hid (Rp w p F s ∧ Rw g 8 (mf m vd) w ∧ ¬ F g) := ⟨h, r, hg⟩
  clear h r hg
  go_enter Tryd.func56, Tryd.ntmps56
  go_wp2_with fail
  refine (rInt_any _ _ F _ HR.out.1).mono ?_
  rintro e w1 ⟨rfl, hA⟩
  have HA : Hid (Af Rp p F (pn rI s) w w1) := hA
  have HW : Hid (Rw g 8 (mf m vd) w1) := by
    obtain ⟨F', -, -, h3⟩ := hA
    exact HR.out.2.1.block (h3.block g (HR.out.2.1.lt (by omega)) HR.out.2.2)
  have x := HW.out.c 5 (by omega)
  have y := HW.out.f 5 (by omega)
  clear hA
  dsimp only [mf] at x
  go_wp2
  go_end0
  refine ⟨rfl, Rdl.mk2 HR.out.2.2 HR.out.2.1 HA.out 5 _ fun k hk => ?_⟩
  rcases less8 hk with rfl | rfl | rfl | rfl | rfl | rfl | rfl | rfl <;> rfl
set_option maxRecDepth 100000 in
set_option maxHeartbeats 2000000 in
theorem readField5 (p : Value) (F : Nat → Prop) (g : Nat) (s : Sta) (m : Ms) (vd : Value) (w : World) (h : Rp w p F s) (r : Rw g 8 (mf m vd) w) (hg : ¬ F g) :
    Calls Tryd.prog 56 #[p, .pointer (some ⟨g, 0, none⟩), .int .i64 5] w fun e w' => e = .returned (.tuple #[]) ∧ Rdl p F g (pn rI s) (setF m 5 (pv rI 0 s)) vd w w' := by
  have HR : Hid (Rp w p F s ∧ Rw g 8 (mf m vd) w ∧ ¬ F g) := ⟨h, r, hg⟩
  clear h r hg
  go_enter Tryd.func56, Tryd.ntmps56
  go_wp2_with fail
  refine (rInt_any _ _ F _ HR.out.1).mono ?_
  rintro e w1 ⟨rfl, hA⟩
  have HA : Hid (Af Rp p F (pn rI s) w w1) := hA
  have HW : Hid (Rw g 8 (mf m vd) w1) := by
    obtain ⟨F', -, -, h3⟩ := hA
    exact HR.out.2.1.block (h3.block g (HR.out.2.1.lt (by omega)) HR.out.2.2)
  have x := HW.out.c 6 (by omega)
  have y := HW.out.f 6 (by omega)
  clear hA
  dsimp only [mf] at x
  go_wp2
  go_end0
  refine ⟨rfl, Rdl.mk2 HR.out.2.2 HR.out.2.1 HA.out 6 _ fun k hk => ?_⟩
  rcases less8 hk with rfl | rfl | rfl | rfl | rfl | rfl | rfl | rfl <;> rfl
set_option maxRecDepth 100000 in
set_option maxHeartbeats 2000000 in
theorem readField6 (p : Value) (F : Nat → Prop) (g : Nat) (s : Sta) (m : Ms) (vd : Value) (w : World) (h : Rp w p F s) (r : Rw g 8 (mf m vd) w) (hg : ¬ F g) :
    Calls Tryd.prog 56 #[p, .pointer (some ⟨g, 0, none⟩), .int .i64 6] w fun e w' => e = .returned (.tuple #[]) ∧ ∃ v, Rdl p F g (pn rB s) { m with d := pv rB [] s } v w w' ∧ Bs w' v (pv rB [] s) ∧ Ow w.heap.size v := by
  have HR : Hid (Rp w p F s ∧ Rw g 8 (mf m vd) w ∧ ¬ F g) := ⟨h, r, hg⟩
  clear h r hg
  go_enter Tryd.func56, Tryd.ntmps56
  go_wp2_with fail
  refine (rBytes_any _ _ F _ HR.out.1).mono ?_
  rintro e w1 ⟨v1, rfl, hB, hO, hA⟩
  have HA : Hid (Af Rp p F (pn rB s) w w1 ∧ Bs w1 v1 (pv rB [] s) ∧ Ow w.heap.size v1) := ⟨hA, hB, hO⟩
  have HW : Hid (Rw g 8 (mf m vd) w1) := by
    obtain ⟨F', -, -, h3⟩ := hA
    exact HR.out.2.1.block (h3.block g (HR.out.2.1.lt (by omega)) HR.out.2.2)
  have x := HW.out.c 7 (by omega)
  have y := HW.out.f 7 (by omega)
  obtain ⟨ad, cap, rfl, -, -⟩ := hB.len
  clear hA hB hO
  dsimp only [mf] at x
  go_wp2
  go_end0
  refine ⟨rfl, _, Rdl.mk2 HR.out.2.2 HR.out.2.1 HA.out.1 7 _ fun k hk => ?_, Ls.set HA.out.2.1 _ _ (ow_apart HA.out.2.2 (HR.out.2.1.lt (by omega))), HA.out.2.2⟩
  rcases less8 hk with rfl | rfl | rfl | rfl | rfl | rfl | rfl | rfl <;> rfl
theorem readField_any (p : Value) (F : Nat → Prop) (g : Nat) (s : Sta) (m : Ms) (vd : Value) (f : Nat) (hf : f < 6) (w : World) (h : Rp w p F s) (r : Rw g 8 (mf m vd) w) (hg : ¬ F g) :
    Calls Tryd.prog 56 #[p, .pointer (some ⟨g, 0, none⟩), .int .i64 (f : Int)] w fun e w' => e = .returned (.tuple #[]) ∧ Rdl p F g (pn rI s) (setF m f (pv rI 0 s)) vd w w' := by
  have : f = 0 ∨ f = 1 ∨ f = 2 ∨ f = 3 ∨ f = 4 ∨ f = 5 := by omega
  rcases this with rfl | rfl | rfl | rfl | rfl | rfl
  · exact readField0 p F g s m vd w h r hg
  · exact readField1 p F g s m vd w h r hg
  · exact readField2 p F g s m vd w h r hg
  · exact readField3 p F g s m vd w h r hg
  · exact readField4 p F g s m vd w h r hg
  · exact readField5 p F g s m vd w h r hg
end Go.Proofs.YtfcbgkcclganmaaDoor
