/-
  The program's disk keeps its contracts; a disk that is none.
-/
import Derived.Test.YtnchmnemclbfcaaDqH
import Derived.Test.YtnchmnemclbfcaaDqI
import Derived.Test.YtnchmnemclbfcaaDkLawD
set_option linter.unusedVariables false
set_option linter.unusedSimpArgs false
namespace Go.Proofs.Ytnchmnemclbfcaa
open Go.RowKit

def disk1 : Disk1 where
  Dt := PD
  dtK := fun h k hs => h.kept k hs
  dtB := fun h => h.lt
  dtO := fun h => h.ok
  new := fun w n h1 h2 => new15 w n h1 h2
  newN := fun w n h => newN15 w n h
  write := fun w p F s i v b h hv hnf hb hl hu => write15 w p F s i v b h hv hnf hb hl hu
  read := fun w p F s i h => read15 w p F s i h
  safeY := fun w p F s i h hi => by
    obtain ⟨d, M, vU, L, rfl, h⟩ := h
    exact (safe15 h i hi).mono fun e w' ⟨v, q1, q2, q3, q4⟩ => ⟨v, q1, q2, q3.1, q4⟩
  safeN := fun w p F s i h hi => by
    obtain ⟨d, M, vU, L, rfl, h⟩ := h
    exact (safeN15 h i hi).mono fun e w' ⟨q1, q2⟩ => ⟨_, q1, ls_none _ _, by rw [q2]; exact Below.refl _ _⟩
  flush := fun w p F s h hu => flush15 w p F s h hu
  arm := fun w p F s n h hn => arm15 w p F s n h hn
  under := fun w p F s h hu => under15 w p F s h hu
  blocks := fun w p F s h => blocks15 w p F s h
  down := fun w p F s h => down15 w p F s h
  crash := fun w p F s v fs h hf hnf hl hu => crash15 w p F s v fs h hf hnf hl hu
set_option maxRecDepth 100000 in
set_option maxHeartbeats 4000000 in
theorem writeN15 (w : World) (p : Value) (i : Int) (v : Value) (b : List Nat) (h : Nd w p) (hb : Bs w v b) :
    Calls Try.prog 19 #[p, .int .i64 i, v] w fun e w' => e = .returned (.int .i64 1) ∧ Below w.heap.size w w' := by
  have hr := runs_no h
  go_enter Try.func19, Try.ntmps19
  go_wp2_with (go_at_call 34; refine hr.mono ?_; rintro e w' ⟨rfl, hw⟩; replace hw := hw.symm; subst hw; clear hr)
  go_ret
  exact ⟨rfl, Below.refl _ _⟩
set_option maxRecDepth 100000 in
set_option maxHeartbeats 4000000 in
theorem flushN15 (w : World) (p : Value) (h : Nd w p) :
    Calls Try.prog 20 #[p] w fun e w' => e = .returned (.int .i64 1) ∧ Below w.heap.size w w' := by
  have hr := runs_no h
  go_enter Try.func20, Try.ntmps20
  go_wp2_with (go_at_call 34; refine hr.mono ?_; rintro e w' ⟨rfl, hw⟩; replace hw := hw.symm; subst hw; clear hr)
  go_ret
  exact ⟨rfl, Below.refl _ _⟩
set_option maxRecDepth 100000 in
set_option maxHeartbeats 4000000 in
theorem crashN15 (w : World) (p : Value) (v : Value) (fs : List (Int × Int)) (h : Nd w p) (hf : Fts w v fs) :
    Calls Try.prog 21 #[p, v] w fun e w' => e = .returned (.int .i64 1) ∧ Below w.heap.size w w' := by
  have hr := made_no h
  go_enter Try.func21, Try.ntmps21
  go_wp2_with (go_at_call 24; refine hr.mono ?_; rintro e w' ⟨rfl, hw⟩; replace hw := hw.symm; subst hw; clear hr)
  go_ret
  exact ⟨rfl, Below.refl _ _⟩
set_option maxRecDepth 100000 in
set_option maxHeartbeats 4000000 in
theorem underN15 (w : World) (p : Value) (h : Nd w p) :
    Calls Try.prog 22 #[p] w fun e w' => ∃ v, e = .returned v ∧ Is w' v [] ∧ Below w.heap.size w w' := by
  have hr := made_no h
  have HI : Hid (Is w (.slice none 0 0) []) := ls_none w _
  go_enter Try.func22, Try.ntmps22
  go_wp2_with (go_at_call 24; refine hr.mono ?_; rintro e w' ⟨rfl, hw⟩; replace hw := hw.symm; subst hw; clear hr)
  go_ret
  exact ⟨_, rfl, HI.out, Below.refl _ _⟩
set_option maxRecDepth 100000 in
set_option maxHeartbeats 4000000 in
theorem readN15 (w : World) (p : Value) (i : Int) (h : Nd w p) :
    Calls Try.prog 17 #[p, .int .i64 i] w fun e w' => ∃ v, e = .returned (.tuple #[v, .int .i64 1]) ∧ Bs w' v [] ∧ Below w.heap.size w w' := by
  refine (callsIn_wide (n := 10)).1 ?_
  refine callsIn_of_wp_marks Try.func17 rfl trivial ?_ rfl
  refine wpIn_wide.2 ?_
  simp only [Try.ntmps17, List.size_toArray, List.length_cons, List.length_nil, Nat.reduceAdd, Nat.reduceSub, Array.replicate_succ, Array.replicate_zero, List.push_toArray, List.append_toArray, List.nil_append, List.cons_append]
  obtain ⟨w1, hw1⟩ : ∃ w1, w1 = ((w.alloc (.cells #[.int .i64 i] 3)).alloc (.cells #[.slice none 0 0] 32)).alloc (.cells #[.int .i64 0] 26) := ⟨_, rfl⟩
  have hB1 : Below w.heap.size w w1 := by rw [hw1]; exact ((bel1 _ _).alloc (by simp) _).alloc (by simp; omega) _
  have c4 : w1.cell? ⟨w.heap.size + 1, 0, none⟩ = some (.slice none 0 0) := by rw [hw1]; simp [go_sem]
  have f4 : w1.frozen? ⟨w.heap.size + 1, 0, none⟩ = false := by rw [hw1]; simp [go_sem]
  have c5 : w1.cell? ⟨w.heap.size + 1 + 1, 0, none⟩ = some (.int .i64 0) := by rw [hw1]; simp [go_sem]
  have f5 : w1.frozen? ⟨w.heap.size + 1 + 1, 0, none⟩ = false := by rw [hw1]; simp [go_sem]
  have hr := runs_no (h.later hB1)
  have c5s : ∀ u, (w1.setCell ⟨w.heap.size + 1, 0, none⟩ u).cell? ⟨w.heap.size + 1 + 1, 0, none⟩ = some (.int .i64 0) := fun u => cell_set (by dsimp only; omega) c5
  have HZ : Hid (Below w.heap.size w ((w1.setCell ⟨w.heap.size + 1, 0, none⟩ (.slice none 0 0)).setCell ⟨w.heap.size + 1 + 1, 0, none⟩ (.int .i64 1)) ∧ ((w1.setCell ⟨w.heap.size + 1, 0, none⟩ (.slice none 0 0)).setCell ⟨w.heap.size + 1 + 1, 0, none⟩ (.int .i64 1)).cell? ⟨w.heap.size + 1, 0, none⟩ = some (.slice none 0 0) ∧ ((w1.setCell ⟨w.heap.size + 1, 0, none⟩ (.slice none 0 0)).setCell ⟨w.heap.size + 1 + 1, 0, none⟩ (.int .i64 1)).cell? ⟨w.heap.size + 1 + 1, 0, none⟩ = some (.int .i64 1)) :=
    ⟨(hB1.setCell (by dsimp only; omega) _).setCell (by dsimp only; omega) _, cell_set (by dsimp only; omega) (World.cell?_setCell_same' _ _ _ (by rw [c4]; rfl)), World.cell?_setCell_same' _ _ _ (by rw [c5s]; rfl)⟩
  clear hB1
  go_upto_region 1 with fail
  rw [← hw1]
  clear hw1
  go_wp2_with (go_at_call 34; refine hr.mono ?_; rintro e w' ⟨rfl, hw⟩; replace hw := hw.symm; subst hw; clear hr)
  obtain ⟨z0, z4, z5⟩ := HZ.out
  exact ⟨.tuple #[.slice none 0 0, .int .i64 1], by simp [results, Try.results17, go_sem, z4, z5], .slice none 0 0, rfl, ls_none _ _, z0⟩
def disk0 : Disk0 where
  Nt := Nd
  later := fun h k => h.later k
  nil := fun _ => Or.inl rfl
  zero := fun w => Or.inr ⟨w.heap.size, rfl, by simp [go_sem]⟩
  read := fun w p i h => readN15 w p i h
  safe := fun w p i h => safeNo15 w p i h
  arm := fun w p n h => armN15 w p n h
  write := fun w p i v b h hb => writeN15 w p i v b h hb
  flush := fun w p h => flushN15 w p h
  crash := fun w p v fs h hf => crashN15 w p v fs h hf
  blocks := fun w p h => blocksN15 w p h
  down := fun w p h => downN15 w p h
  under := fun w p h => underN15 w p h
end Go.Proofs.Ytnchmnemclbfcaa
