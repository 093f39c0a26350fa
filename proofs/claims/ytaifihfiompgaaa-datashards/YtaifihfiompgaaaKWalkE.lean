/-
  The contracts of data's Batch, as the laws want them.
-/
import Derived.Test.YtaifihfiompgaaaKWalkD
set_option linter.unusedVariables false
set_option linter.unusedSimpArgs false
namespace Go.Proofs.Ytaifihfiompgaaa
open Go.RowKit Go.Shelf
attribute [local go_sem] Oper.semAt_some

theorem pBatch_any (s x r t z m : Nat) (va : Value) (f : Nat → Int) (PL : Nat → Nat) (w : World) (hs : s < 18446744073709551616) (hx : x < 64) (hr : r ≤ 256) (ht : t < 64) (hz0 : 1 ≤ z) (hz : z ≤ 64) (hm0 : 1 ≤ m) (hm : m ≤ 4096) (hA : Ar w va m f) (hP : Pls s x r t z m PL) :
    Calls Try.prog 13 #[.int .u64 (s : Int), .int .i64 (x : Int), .int .i64 (r : Int), .int .i64 (t : Int), .int .i64 (z : Int), va] w fun e w' => ∃ v', e = .returned (.tuple #[v', .int .i64 0]) ∧ Ar w' v' z (fun k => f (PL k)) ∧ Ow w.heap.size v' ∧ Below w.heap.size w w' := by
  classical
  obtain ⟨adr, cap, b, o, rfl, x1, x2, x3, x4⟩ := hA
  unfold maxLen at x2
  have hadr := x3 (by omega)
  subst hadr
  have hex : ∀ q, ∃ y, Goes s 2 (x : Int) (65536 * (r : Int) + ((q / m : Nat) : Int)) m (q % m) y := fun q => goes_ex _ _ _ _ _ _ (Nat.mod_lt _ (by omega))
  have hG : ∀ q, Goes s 2 (x : Int) (65536 * (r : Int) + ((q / m : Nat) : Int)) m (q % m) (Classical.choose (hex q)) := fun q => Classical.choose_spec (hex q)
  refine Calls.mono ((callsIn_wide (n := 10)).1 (pBatch_in s x r t z m b o cap f (fun q => Classical.choose (hex q)) hs hx hr ht hz0 hz hm0 hm x1 x2 w x4 (fun q _ => hG q))) ?_
  rintro e w' ⟨v', rfl, hrow, hb⟩
  have hPL : ∀ k, k < z → Classical.choose (hex (t * z + k)) = PL k := fun k hk => (hG (t * z + k)).one (hP k hk)
  have hl : il (fun k => f (Classical.choose (hex (t * z + k)))) z = il (fun k => f (PL k)) z := by
    unfold il
    exact List.map_congr_left fun k hk => congrArg (fun y => Value.int .i64 (f y)) (hPL k (List.mem_range.1 hk))
  rw [hl] at hrow
  obtain ⟨hA', hO⟩ := ar_of_own hrow (fun k hk => (x4 (PL k) (hP k hk).lt).2)
  exact ⟨v', rfl, hA', hO, hb⟩
set_option maxRecDepth 100000 in
set_option maxHeartbeats 4000000 in
theorem pBatch_bad (s m : Nat) (x r t z : Int) (va : Value) (f : Nat → Int) (w : World) (hm : m ≤ 100000) (hA : Ar w va m f) (hN : ¬ Akd x r t z (m : Int)) :
    Calls Try.prog 13 #[.int .u64 (s : Int), .int .i64 x, .int .i64 r, .int .i64 t, .int .i64 z, va] w fun e w' => ∃ (ad : Option Addr) (cap : Nat), e = .returned (.tuple #[.slice ad 0 cap, .int .i64 2]) ∧ Below w.heap.size w w' := by
  obtain ⟨adr, cap, b, o, rfl, x1, x2, -, -⟩ := hA
  unfold maxLen at x2
  have HFt : Hid (∀ V : World, CallsIn Fence.wide 9 Try.prog 18 #[.slice (some ⟨V.heap.size, 0, none⟩) 5 5] (V.alloc (.cells #[.int .i64 x, .int .i64 0, .int .i64 63, .int .i64 r, .int .i64 0, .int .i64 256, .int .i64 t, .int .i64 0, .int .i64 63, .int .i64 z, .int .i64 1, .int .i64 64, .int .i64 (m : Int), .int .i64 1, .int .i64 4096] 47)) fun e w' => e = .returned (.bool false) ∧ Below V.heap.size V w') := fun V => callsIn_wide.2 ((fit_five _ _ _ _ _ V).mono fun e w' hh => ⟨hh.1.no hN, hh.2⟩)
  obtain ⟨w0, hw0⟩ : ∃ w0, w0 = (((((w.alloc (.cells #[.int .u64 (s : Int)] 22)).alloc (.cells #[.int .i64 x] 3)).alloc (.cells #[.int .i64 r] 3)).alloc (.cells #[.slice adr m cap] 26)).alloc (.cells #[.slice none 0 0] 26)).alloc (.cells #[.int .i64 0] 27) := ⟨_, rfl⟩
  have HBx : Hid (Boxed w0 (w.heap.size + 1 + 1 + 1 + 1) 26 (.slice none 0 0) ∧ Boxed w0 (w.heap.size + 1 + 1 + 1 + 1 + 1) 27 (.int .i64 0)) := by
    subst hw0
    refine ⟨?_, ?_⟩
    · have h := Boxed.new ((((w.alloc (.cells #[.int .u64 (s : Int)] 22)).alloc (.cells #[.int .i64 x] 3)).alloc (.cells #[.int .i64 r] 3)).alloc (.cells #[.slice adr m cap] 26)) 26 (.slice none 0 0)
      simp only [World.size_alloc] at h
      exact h.alloc _
    · have h := Boxed.new (((((w.alloc (.cells #[.int .u64 (s : Int)] 22)).alloc (.cells #[.int .i64 x] 3)).alloc (.cells #[.int .i64 r] 3)).alloc (.cells #[.slice adr m cap] 26)).alloc (.cells #[.slice none 0 0] 26)) 27 (.int .i64 0)
      simp only [World.size_alloc] at h
      exact h
  have HB0 : Hid (Below w.heap.size w w0) := by subst hw0; exact bchain (bel4 _ _ _ _ _) (bel2 _ _ _)
  have Hsz : Hid (w0.heap.size = w.heap.size + 1 + 1 + 1 + 1 + 1 + 1) := by subst hw0; show _ = _; simp only [World.size_alloc]
  clear hN
  refine (callsIn_wide (n := 10)).1 ?_
  refine callsIn_of_wp_marks Try.func13 rfl trivial ?_ rfl
  simp only [Try.ntmps13, List.size_toArray, List.length_cons, List.length_nil, Nat.reduceAdd, Nat.reduceSub, Array.replicate_succ, Array.replicate_zero, List.push_toArray, List.append_toArray, List.nil_append, List.cons_append]
  gi_wp2_with fail
  rw [← hw0, ← Hsz.out]
  refine ⟨trivial, (HFt.out w0).mono ?_⟩
  rintro e w1 ⟨rfl, hb⟩
  have B12 := box_later HBx.out.1 hb
  have B13 := box_later HBx.out.2 hb
  have HB1 : Hid (Below w.heap.size w w1) := bchain HB0.out hb
  have hL : Hid (w.heap.size ≤ w.heap.size + 1 + 1 + 1 + 1 ∧ w.heap.size ≤ w.heap.size + 1 + 1 + 1 + 1 + 1 ∧ w.heap.size + 1 + 1 + 1 + 1 ≠ w.heap.size + 1 + 1 + 1 + 1 + 1) := ⟨by omega, by omega, by omega⟩
  clear hb HFt HBx hw0 Hsz HB0
  generalize w0.heap.size = b15 at *
  generalize w.heap.size + 1 + 1 + 1 + 1 + 1 = b13 at *
  generalize w.heap.size + 1 + 1 + 1 + 1 = b12 at *
  have c12 := B12.cell
  have c13 := B13.cell
  have r12 := B12.frozen
  have r13 := B13.frozen
  have hne := hL.out.2.2
  have B13' := B13.kept (grownBy_setCell' w1 b12 (.slice none 0 0)) (by simp; omega)
  have F12 := ((B12.set (.slice none 0 0)).kept (grownBy_setCell' (w1.setCell ⟨b12, 0, none⟩ (.slice none 0 0)) b13 (.int .i64 2)) (by simp; omega)).cell
  have F13 := (B13'.set (.int .i64 2)).cell
  have hbl : Hid (Below w.heap.size w ((w1.setCell ⟨b12, 0, none⟩ (.slice none 0 0)).setCell ⟨b13, 0, none⟩ (.int .i64 2))) := (HB1.out.setCell (by exact hL.out.1) _).setCell (by exact hL.out.2.1) _
  clear B12 B13 B13'
  gi_wp2
  generalize ((w1.setCell ⟨b12, 0, none⟩ (.slice none 0 0)).setCell ⟨b13, 0, none⟩ (.int .i64 2)) = W3 at *
  exact ⟨.tuple #[.slice none 0 0, .int .i64 2], by simp [results, Try.results13, go_sem, F12, F13], _, _, rfl, hbl.out⟩
theorem data2 : Data2 where
  batch := fun s x r t z m va f PL w hs hx hr ht hz0 hz hm0 hm hA hP _ => pBatch_any s x r t z m va f PL w hs hx hr ht hz0 hz hm0 hm hA hP
  batchE := fun s m x r t z va f w hm hA hN _ => pBatch_bad s m x r t z va f w hm hA hN
end Go.Proofs.Ytaifihfiompgaaa
