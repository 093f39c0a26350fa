/-
  The document's messages (regattaref14): Right of any message; payload.
-/
import Derived.Test.YtfcbgkcclganmaaDoorMgRefB1
import Derived.Test.YtfcbgkcclganmaaDoorMgRefB2
import Derived.Test.YtfcbgkcclganmaaDoorMgRefB3
import Derived.Test.YtfcbgkcclganmaaDoorMgRefB4
import Derived.Test.YtfcbgkcclganmaaDoorMgRefB5
import Derived.Test.YtfcbgkcclganmaaDoorMgRefB6
import Derived.Test.YtfcbgkcclganmaaDoorPkRefA
set_option linter.unusedVariables false
set_option linter.unusedSimpArgs false
namespace Go.Proofs.YtfcbgkcclganmaaDoor
open Go.RowKit

set_option maxRecDepth 100000 in
set_option maxHeartbeats 4000000 in
theorem refRight0 (k fr inc rd h pt ps : Int) (d : List Nat) (ad : Option Addr) (n cap : Nat) (hk : k < 1 ∨ 8 < k) (w : World) :
    Calls Tryd.prog 10 #[msV ⟨k, fr, inc, rd, h, pt, ps, d⟩ (.slice ad n cap)] w fun e w' => RgE ⟨k, fr, inc, rd, h, pt, ps, d⟩ w e w' := by
  have HN : Hid (¬ Rgt ⟨k, fr, inc, rd, h, pt, ps, d⟩) := fun r => by have h1 := r.k1; have h2 := r.k8; dsimp only at h1 h2; omega
  have HK : Hid (∀ W, Calls Tryd.prog 24 #[.agg #[.int .i64 k, .int .i64 fr, .int .i64 inc, .int .i64 rd, .int .i64 h, .int .i64 pt, .int .i64 ps, .slice ad n cap]] W fun e w' => e = .returned (.tuple #[.agg #[.int .i64 k, .int .i64 0, .int .i64 0, .int .i64 0, .int .i64 0, .int .i64 0, .int .i64 0, .slice none 0 0], .bool false]) ∧ Below W.heap.size W w') := fun W => by
    refine (refKept0 ⟨k, fr, inc, rd, h, pt, ps, d⟩ ad n cap hk W).mono fun e w' h => ⟨?_, h.2⟩
    rw [h.1]
    unfold kpt kpv
    dsimp only
    rw [if_neg (by omega), if_neg (by omega), if_neg (by omega), if_neg (by omega), if_neg (by omega), if_neg (by omega), if_neg (by omega), if_neg (by omega)]
    rfl
  obtain ⟨wA, hwA⟩ : ∃ wA, wA = w.alloc (.cells #[.int .i64 k, .int .i64 fr, .int .i64 inc, .int .i64 rd, .int .i64 h, .int .i64 pt, .int .i64 ps, .slice ad n cap] 26) := ⟨_, rfl⟩
  have HA : Hid (B8 w.heap.size ⟨k, fr, inc, rd, h, pt, ps, d⟩ (.slice ad n cap) wA ∧ Below w.heap.size w wA) := by rw [hwA]; exact ⟨B8.new _ _ _ _, bel1 _ _⟩
  clear hk
  show Calls Tryd.prog 10 #[.agg #[.int .i64 k, .int .i64 fr, .int .i64 inc, .int .i64 rd, .int .i64 h, .int .i64 pt, .int .i64 ps, .slice ad n cap]] w _
  go_enter Tryd.func10, Tryd.ntmps10
  go_upto_region 1 with fail
  rw [← hwA]
  clear hwA
  have x0 := HA.out.1.c0
  have x1 := HA.out.1.c1
  have x2 := HA.out.1.c2
  have x3 := HA.out.1.c3
  have x4 := HA.out.1.c4
  have x5 := HA.out.1.c5
  have x6 := HA.out.1.c6
  have x7 := HA.out.1.c7
  dsimp only at x0 x1 x2 x3 x4 x5 x6 x7
  go_wp2_with fail
  refine (HK.out wA).mono ?_
  rintro e w1 ⟨rfl, hb1⟩
  have HB : Hid (∀ o : Obj, Below w.heap.size w (w1.alloc o)) := fun o => bchain HA.out.2 (bchain hb1 (bel1 _ _))
  clear hb1 HA HK
  go_wp2
  go_ret
  exact RgE.no HN.out (HB.out _)
/-- The document's Right. -/
theorem refRight14 (m : Ms) (v : Value) (w : World) (h : Bs w v m.d) :
    Calls Tryd.prog 10 #[msV m v] w fun e w' => RgE m w e w' := by
  obtain ⟨ad, cap, rfl, h1, h2⟩ := h.len
  unfold maxLen at h2
  obtain ⟨k, fr, inc, rd, hh, pt, ps, d⟩ := m
  dsimp only at h1 ⊢
  by_cases hk : k < 1 ∨ 8 < k
  · exact refRight0 k fr inc rd hh pt ps d ad _ cap hk w
  · rcases kind8 (k := k) (by omega) (by omega) with rfl | rfl | rfl | rfl | rfl | rfl | rfl | rfl
    · exact refRight1 fr inc rd hh pt ps d ad _ cap rfl (by omega) w
    · exact refRight2 fr inc rd hh pt ps d ad _ cap rfl (by omega) w
    · exact refRight3 fr inc rd hh pt ps d ad _ cap rfl (by omega) w
    · exact refRight4 fr inc rd hh pt ps d ad _ cap rfl (by omega) w
    · exact refRight5 fr inc rd hh pt ps d ad _ cap rfl (by omega) w
    · exact refRight6 fr inc rd hh pt ps d ad _ cap rfl (by omega) w
    · exact refRight7 fr inc rd hh pt ps d ad _ cap rfl (by omega) w
    · exact refRight8 fr inc rd hh pt ps d ad _ cap rfl (by omega) w
theorem is_list (w : World) (l : List Int) (t : TypeId) (vs : Array Value) (hv : vs = (l.map fun x => Value.int .i64 x).toArray) (hl : l.length ≤ 100) : Is (w.alloc (.cells vs t)) (.slice (some ⟨w.heap.size, 0, none⟩) l.length l.length) l := by
  refine ⟨_, l.length, w.heap.size, 0, rfl, Nat.le_refl _, ⟨by unfold maxLen; omega, fun e => by cases e⟩, fun _ => rfl, fun k hk => ?_⟩
  subst hv
  rw [Nat.zero_add]
  simp [go_sem, i6f, List.getD, hk]
end Go.Proofs.YtfcbgkcclganmaaDoor
