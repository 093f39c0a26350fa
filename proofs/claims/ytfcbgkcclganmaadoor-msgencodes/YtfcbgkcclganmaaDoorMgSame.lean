/-
  A message as the document's (regattalaw14.plain); equal messages held against each other (regattaref14.Same).
-/
import Derived.Test.YtfcbgkcclganmaaDoorMgDefs
import Derived.Test.YtfcbgkcclganmaaDoorPkSame
set_option linter.unusedVariables false
set_option linter.unusedSimpArgs false
namespace Go.Proofs.YtfcbgkcclganmaaDoor
open Go.RowKit

set_option maxRecDepth 100000 in
set_option maxHeartbeats 2000000 in
theorem plain14 (m : Ms) (ad : Option Addr) (n cap : Nat) (w : World) :
    Calls Tryd.prog 8 #[msV m (.slice ad n cap)] w fun e w' => e = .returned (msV m (.slice ad n cap)) ∧ Below w.heap.size w w' := by
  obtain ⟨k, fr, inc, rd, h, pt, ps, d⟩ := m
  unfold msV
  dsimp only
  go_enter Tryd.func8, Tryd.ntmps8
  go_wp2
  exact bodyPost_ret (v := .agg #[.int .i64 k, .int .i64 fr, .int .i64 inc, .int .i64 rd, .int .i64 h, .int .i64 pt, .int .i64 ps, .slice ad n cap]) (by simp [results, Tryd.results8, go_sem]) rfl ⟨rfl, bel2 _ _ _⟩
set_option maxRecDepth 100000 in
set_option maxHeartbeats 4000000 in
theorem same14 (m : Ms) (va vb : Value) (w : World) (hA : Bs w va m.d) (hB : Bs w vb m.d) :
    Calls Tryd.prog 16 #[msV m va, msV m vb] w fun e w' => e = .returned (.bool true) ∧ Below w.heap.size w w' := by
  obtain ⟨k, fr, inc, rd, h, pt, ps, d⟩ := m
  dsimp only at hA hB
  obtain ⟨wX, hwX⟩ : ∃ wX, wX = (w.alloc (.cells #[.int .i64 k, .int .i64 fr, .int .i64 inc, .int .i64 rd, .int .i64 h, .int .i64 pt, .int .i64 ps, va] 26)).alloc (.cells #[.int .i64 k, .int .i64 fr, .int .i64 inc, .int .i64 rd, .int .i64 h, .int .i64 pt, .int .i64 ps, vb] 26) := ⟨_, rfl⟩
  have HX : Hid (B8 w.heap.size ⟨k, fr, inc, rd, h, pt, ps, d⟩ va wX ∧ B8 (w.heap.size + 1) ⟨k, fr, inc, rd, h, pt, ps, d⟩ vb wX ∧ Bs wX va d ∧ Bs wX vb d ∧ Below w.heap.size w wX) := by
    rw [hwX]
    have e := B8.new (w.alloc (.cells #[.int .i64 k, .int .i64 fr, .int .i64 inc, .int .i64 rd, .int .i64 h, .int .i64 pt, .int .i64 ps, va] 26)) ⟨k, fr, inc, rd, h, pt, ps, d⟩ vb 26
    rw [World.size_alloc] at e
    exact ⟨(B8.new _ _ _ _).later (bel1 _ _), e, hA.later (bel2 _ _ _), hB.later (bel2 _ _ _), bel2 _ _ _⟩
  obtain ⟨ad, cap, rfl, k1, k2⟩ := hA.len
  obtain ⟨bd, bap, rfl, q1, q2⟩ := hB.len
  unfold maxLen at k2 q2
  obtain ⟨n, hn⟩ : ∃ n, d.length = n := ⟨_, rfl⟩
  have HN : Hid (d.length = n) := hn
  rw [hn] at k1 q1 HX hwX ⊢
  clear hA hB hn
  show Calls Tryd.prog 16 #[.agg #[.int .i64 k, .int .i64 fr, .int .i64 inc, .int .i64 rd, .int .i64 h, .int .i64 pt, .int .i64 ps, .slice ad n cap], .agg #[.int .i64 k, .int .i64 fr, .int .i64 inc, .int .i64 rd, .int .i64 h, .int .i64 pt, .int .i64 ps, .slice bd n bap]] w _
  go_enter Tryd.func16, Tryd.ntmps16
  go_upto_region 4 with fail
  rw [← hwX]
  clear hwX
  go_loopw [5] (fun s5 wr => ∃ j : Nat, j ≤ n ∧ s5 = .int .i64 (j : Int) ∧ Hid (Below wX.heap.size wX wr)) (fun s5 _ => n - (intOf s5).toNat)
  case atStart => exact ⟨0, by omega, rfl, Below.refl _ _⟩
  case round =>
    obtain ⟨j, hj, rfl, HW⟩ := hrel
    have x7 := cell_later HW.out HX.out.1.c7
    have y7 := cell_later HW.out HX.out.2.1.c7
    by_cases hlt : j < n
    · have hjI : (j : Int) < (n : Int) := by omega
      have hN := HN.out
      obtain ⟨b, o, rfl, ca⟩ := HX.out.2.2.1.cel j (by omega)
      obtain ⟨b2, o2, rfl, cb⟩ := HX.out.2.2.2.1.cel j (by omega)
      have cA := cell_later HW.out ca
      have cB := cell_later HW.out cb
      have hne : (((d.getD j 0 : Nat) : Int) != ((d.getD j 0 : Nat) : Int)) = false := neF rfl
      clear ca cb hN
      generalize d.getD j 0 = x at *
      go_wp2
      go_quiet (fail)
      go_wp2
      go_roundw
      case rel => exact ⟨j + 1, by omega, by go_num, below_drewP HW.out _⟩
      case measure => simp [intOf]; omega
    · obtain rfl : j = n := by omega
      have hjI : ¬ (j : Int) < (j : Int) := by omega
      have HB : Hid (Below w.heap.size w wr) := bchain HX.out.2.2.2.2 HW.out
      go_wp2
      go_ret
      exact ⟨rfl, HB.out⟩
end Go.Proofs.YtfcbgkcclganmaaDoor
