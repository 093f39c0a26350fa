/-
  The program's disk: New, Blocks, Down, Arm, Safe.
-/
import Derived.Test.YtnchmnemclbfcaaDqC
import Derived.Test.YtnchmnemclbfcaaPkOwn
set_option linter.unusedVariables false
set_option linter.unusedSimpArgs false
namespace Go.Proofs.Ytnchmnemclbfcaa
open Go.RowKit

set_option maxRecDepth 100000 in
set_option maxHeartbeats 4000000 in
theorem new15 (w : World) (n : Nat) (h1 : 1 ≤ n) (h2 : n ≤ 16384) :
    Calls Try.prog 10 #[.int .i64 (n : Int)] w fun e w' => ∃ p F, e = .returned (.tuple #[p, .int .i64 0]) ∧ PD w' p F (dNew n) ∧ (∀ k, F k → w.heap.size ≤ k) ∧ Below w.heap.size w w' := by
  obtain ⟨wB, hwB⟩ : ∃ wB, wB = (w.alloc (.map #[] 0)).alloc (.cells #[.int .i64 (n : Int), .map (some w.heap.size), .slice none 0 0, .int .i64 (-1), .bool false] 48) := ⟨_, rfl⟩
  have HM : Hid (Mz wB w.heap.size (List.replicate n zr15)) := by
    rw [hwB]
    exact (Mz.made w n).kept (Below.heap_alloc _ _ _ (by simp))
  have HB : Hid (Below w.heap.size w wB) := by rw [hwB]; exact bel2 _ _ _
  have HP : Hid (PD wB (.pointer (some ⟨w.heap.size + 1, 0, none⟩)) (fun k => k = w.heap.size ∨ k = w.heap.size + 1) (dNew n)) := by
    refine ⟨w.heap.size + 1, w.heap.size, .slice none 0 0, -1, rfl, ?_⟩
    have hz : (dNew n).bl = List.replicate n zr15 := rfl
    have hl : (dNew n).bl.length = n := by rw [hz, List.length_replicate]
    refine ⟨okD_new n, ?_, Or.inr rfl, Or.inl rfl, fun g hg => (by cases hg), by omega, by omega, by omega, ?_, ?_, ?_, ?_, ?_, ?_, World.ownsRow_nil _ _ _ _, HM.out, rfl, fun q => (by cases q), ⟨by omega, by omega⟩⟩
    · intro k hk
      rw [hwB]
      simp
      omega
    · rw [hl, hwB]; simp [go_sem]
    · rw [hwB]; simp [go_sem]
    · rw [hwB]; simp [go_sem]
    · rw [hwB]; simp [go_sem]
    · rw [hwB]; simp [go_sem, dNew]
    · intro k hk
      rw [hwB]; simp [go_sem]
  have q1 : ¬ (n : Int) < 1 := by omega
  have q2 : ¬ (16384 : Int) < (n : Int) := by omega
  have q3 : 1 ≤ n := h1
  have q4 : n ≤ 16384 := h2
  have hmk : (Instr.makeMap 45 none).run Try.prog w = .ok (.map (some w.heap.size)) (w.alloc (.map #[] 0)) := by
    simp [Instr.makeMap, run_underlying und_map15, go_sem, Result.andThen]
  clear HM h1 h2
  go_enter Try.func10, Try.ntmps10
  go_wp2
  go_ret2
  rw [← hwB]
  exact ⟨_, rfl, _, HP.out, fun k (hk : k = w.heap.size ∨ k = w.heap.size + 1) => by omega, HB.out⟩
set_option maxRecDepth 100000 in
set_option maxHeartbeats 4000000 in
theorem newN15 (w : World) (n : Int) (h : n < 1 ∨ 16384 < n) :
    Calls Try.prog 10 #[.int .i64 n] w fun e w' => e = .returned (.tuple #[.pointer none, .int .i64 2]) ∧ Below w.heap.size w w' := by
  by_cases q : n < 1
  · clear h
    go_enter Try.func10, Try.ntmps10
    go_wp2
    go_ret2
    exact ⟨rfl, Below.refl _ _⟩
  · have q2 : 16384 < n := by omega
    clear h
    go_enter Try.func10, Try.ntmps10
    go_wp2
    go_ret2
    exact ⟨rfl, Below.refl _ _⟩
set_option maxRecDepth 100000 in
set_option maxHeartbeats 4000000 in
theorem blocks15 (w : World) (p : Value) (F : Nat → Prop) (s : Dsk) (h : PD w p F s) :
    Calls Try.prog 12 #[p] w fun e w' => e = .returned (.int .i64 ((s.bl.length : Nat) : Int)) ∧ Below w.heap.size w w' := by
  obtain ⟨d, M, vU, L, rfl, h⟩ := h
  have hm := made_yes h
  have c0 := h.c0
  clear h
  generalize s.bl.length = n at *
  go_enter Try.func12, Try.ntmps12
  go_wp2_with (go_at_call 24; refine hm.mono ?_; rintro e w' ⟨rfl, hw⟩; replace hw := hw.symm; subst hw; clear hm)
  go_ret
  exact ⟨rfl, Below.refl _ _⟩
set_option maxRecDepth 100000 in
set_option maxHeartbeats 4000000 in
theorem blocksN15 (w : World) (p : Value) (h : Nd w p) :
    Calls Try.prog 12 #[p] w fun e w' => e = .returned (.int .i64 0) ∧ Below w.heap.size w w' := by
  have hm := made_no h
  go_enter Try.func12, Try.ntmps12
  go_wp2_with (go_at_call 24; refine hm.mono ?_; rintro e w' ⟨rfl, hw⟩; replace hw := hw.symm; subst hw; clear hm)
  go_ret
  exact ⟨rfl, Below.refl _ _⟩
set_option maxRecDepth 100000 in
set_option maxHeartbeats 4000000 in
theorem down15 (w : World) (p : Value) (F : Nat → Prop) (s : Dsk) (h : PD w p F s) :
    Calls Try.prog 14 #[p] w fun e w' => e = .returned (.bool s.dn) ∧ Below w.heap.size w w' := by
  obtain ⟨d, M, vU, L, rfl, h⟩ := h
  have hm := made_yes h
  have c4 := h.c4
  clear h
  generalize s.dn = dn at *
  go_enter Try.func14, Try.ntmps14
  go_wp2_with (go_at_call 24; refine hm.mono ?_; rintro e w' ⟨rfl, hw⟩; replace hw := hw.symm; subst hw; clear hm)
  go_ret
  exact ⟨rfl, Below.refl _ _⟩
set_option maxRecDepth 100000 in
set_option maxHeartbeats 4000000 in
theorem downN15 (w : World) (p : Value) (h : Nd w p) :
    Calls Try.prog 14 #[p] w fun e w' => e = .returned (.bool false) ∧ Below w.heap.size w w' := by
  have hm := made_no h
  go_enter Try.func14, Try.ntmps14
  go_wp2_with (go_at_call 24; refine hm.mono ?_; rintro e w' ⟨rfl, hw⟩; replace hw := hw.symm; subst hw; clear hm)
  go_ret
  exact ⟨rfl, Below.refl _ _⟩
set_option maxRecDepth 100000 in
set_option maxHeartbeats 4000000 in
theorem arm15 (w : World) (p : Value) (F : Nat → Prop) (s : Dsk) (n : Int) (h : PD w p F s) (hn : Bd64 n) :
    Calls Try.prog 18 #[p, .int .i64 n] w fun e w' => e = .returned (.tuple #[]) ∧ Ad PD p F (arS s n) w w' := by
  obtain ⟨d, M, vU, L, rfl, h⟩ := h
  have hm := made_yes h
  have f3 := h.f0 3 (by omega)
  have c3 := h.c3
  have HP : Hid (Pd (w.setCell ⟨d, 3, none⟩ (.int .i64 n)) d M vU n F (arS s n)) := h.left n n hn (fun _ => rfl)
  have HF : Hid (F d) := h.fd
  clear h hn
  go_enter Try.func18, Try.ntmps18
  go_wp2_with (go_at_call 24; refine hm.mono ?_; rintro e w' ⟨rfl, hw⟩; replace hw := hw.symm; subst hw; clear hm)
  go_end0
  exact ⟨rfl, F, ⟨d, M, vU, n, rfl, HP.out⟩, fun k hk => Or.inl hk, (Kp.refl F _).set (p := ⟨d, 3, none⟩) (Or.inl HF.out) _⟩
set_option maxRecDepth 100000 in
set_option maxHeartbeats 4000000 in
theorem armN15 (w : World) (p : Value) (n : Int) (h : Nd w p) :
    Calls Try.prog 18 #[p, .int .i64 n] w fun e w' => e = .returned (.tuple #[]) ∧ Below w.heap.size w w' := by
  have hm := made_no h
  go_enter Try.func18, Try.ntmps18
  go_wp2_with (go_at_call 24; refine hm.mono ?_; rintro e w' ⟨rfl, hw⟩; replace hw := hw.symm; subst hw; clear hm)
  go_end0
  exact ⟨rfl, Below.refl _ _⟩
/-- A list of one's own may be written. -/
theorem ob_uf {base : Nat} {w : World} {v : Value} {l : List Nat} (h : Ob base w v l) : Uf w v := by
  intro b o n cap e k hk
  subst e
  rcases id h.2 with ⟨e, _⟩ | ⟨g, c, cur, e, hg, hh, _⟩
  · cases e
  · cases e
    simp [World.frozen?, hh]
/-- What a call hands out as bytes of its own. -/
def Hn15 (w : World) (l : List Nat) (v : Value) (w' : World) : Prop := Bs w' v l ∧ (Ow w.heap.size v ∧ Uf w' v) ∧ Below w.heap.size w w'
set_option maxRecDepth 100000 in
set_option maxHeartbeats 4000000 in
theorem safe15 {w : World} {d M : Nat} {vU : Value} {L : Int} {F : Nat → Prop} {s : Dsk} (h : Pd w d M vU L F s) (i : Nat) (hi : i < s.bl.length) :
    Calls Try.prog 15 #[.pointer (some ⟨d, 0, none⟩), .int .i64 (i : Int)] w fun e w' => ∃ v, e = .returned (.tuple #[v, .int .i64 0]) ∧ Hn15 w (s.bl.getD i []) v w' := by
  have hm := made_yes h
  have hh := has_any h (i : Int)
  have e : decide (0 ≤ (i : Int) ∧ (i : Int) < (s.bl.length : Int)) = true := by simp; omega
  rw [e] at hh
  have c1 := h.c1
  have hlk := map_look h.mz i hi
  have HL : Hid ((s.bl.getD i []).length = 128) := (getD_ok h.ok.bl hi).1
  unfold bkV key15 at hlk
  clear h hi e
  generalize s.bl.getD i [] = b at *
  have hz : ∀ W, (zeroValue 73).run Try.prog W = .ok (.agg (b8 zr15).toArray) W := fun W => zero_blk15 W
  go_enter Try.func15, Try.ntmps15
  go_upto_region 6 with (first
    | (go_at_call 24; refine hm.mono ?_; rintro e w' ⟨rfl, hw⟩; replace hw := hw.symm; subst hw; clear hm)
    | (go_at_call 32; refine hh.mono ?_; rintro e w' ⟨rfl, hw⟩; replace hw := hw.symm; subst hw; clear hh)
    | (refine alV rfl 73 (b8 zr15) hz rfl ?_; intro wB hV hB hS)
    | (refine stV rfl 73 _ _ rfl _ (b8 zr15) (b8 b) rfl rfl hV (by rw [b8_len, b8_len, HL.out, zr_len]) (by rw [b8_len, HL.out]; exact sz_blk15) (b8_one b) ?_; intro wC hVC hKC hSC))
  have HC : Hid (Below w.heap.size w wC ∧ Bs wC (.slice (some ⟨w.heap.size, 0, none⟩) 128 128) b) := by
    refine ⟨hKC.next hB (fun i hi => by omega) hB.size, ?_⟩
    have h := hVC.bs 0 b (fun j hj => by rw [Nat.zero_add]; exact b8_cell _ _ hj) 128 (by have := HL.out; omega) (by unfold maxLen; omega)
    rw [HL.out] at h
    exact h
  clear hV hB hS hVC hKC hSC hlk c1 hz
  have hcl := clone_any wC _ b HC.out.2 (by have := HL.out; omega)
  go_wp2_with (go_at_call 33; refine hcl.mono ?_; rintro e w' ⟨v, rfl, hO, hBw⟩; clear hcl)
  go_ret2
  have hs := HC.out.1.size
  exact ⟨_, rfl, hO.bs.1, ⟨hO.bs.2.low hs, ob_uf hO⟩, bchain HC.out.1 hBw⟩
set_option maxRecDepth 100000 in
set_option maxHeartbeats 4000000 in
theorem safeN15 {w : World} {d M : Nat} {vU : Value} {L : Int} {F : Nat → Prop} {s : Dsk} (h : Pd w d M vU L F s) (i : Int) (hi : i < 0 ∨ (s.bl.length : Int) ≤ i) :
    Calls Try.prog 15 #[.pointer (some ⟨d, 0, none⟩), .int .i64 i] w fun e w' => e = .returned (.tuple #[.slice none 0 0, .int .i64 151]) ∧ w' = w := by
  have hm := made_yes h
  have hh := has_any h i
  have e : decide (0 ≤ i ∧ i < (s.bl.length : Int)) = false := by simp; omega
  rw [e] at hh
  clear h hi e
  go_enter Try.func15, Try.ntmps15
  go_wp2_with (first
    | (go_at_call 24; refine hm.mono ?_; rintro e w' ⟨rfl, hw⟩; replace hw := hw.symm; subst hw; clear hm)
    | (go_at_call 32; refine hh.mono ?_; rintro e w' ⟨rfl, hw⟩; replace hw := hw.symm; subst hw; clear hh))
  go_ret2
  exact ⟨rfl, rfl⟩
set_option maxRecDepth 100000 in
set_option maxHeartbeats 4000000 in
theorem safeNo15 (w : World) (p : Value) (i : Int) (h : Nd w p) :
    Calls Try.prog 15 #[p, .int .i64 i] w fun e w' => ∃ v, e = .returned (.tuple #[v, .int .i64 1]) ∧ Bs w' v [] ∧ Below w.heap.size w w' := by
  have hm := made_no h
  have HB : Hid (Bs w (.slice none 0 0) []) := ls_none w _
  go_enter Try.func15, Try.ntmps15
  go_wp2_with (go_at_call 24; refine hm.mono ?_; rintro e w' ⟨rfl, hw⟩; replace hw := hw.symm; subst hw; clear hm)
  go_ret2
  exact ⟨_, rfl, HB.out, Below.refl _ _⟩
end Go.Proofs.Ytnchmnemclbfcaa
