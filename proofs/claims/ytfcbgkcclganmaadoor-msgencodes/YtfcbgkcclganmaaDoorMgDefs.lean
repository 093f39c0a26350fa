/-
  Messages in memory; the document's Kept and in (regattaref14).
-/
import Derived.Test.YtfcbgkcclganmaaDoorMgMath
import Derived.Test.YtfcbgkcclganmaaDoorPkRefG
import Derived.Test.YtfcbgkcclganmaaDoorFrDefs
set_option linter.unusedVariables false
set_option linter.unusedSimpArgs false
namespace Go.Proofs.YtfcbgkcclganmaaDoor
open Go.RowKit

/-- A message as a value: its data lie where v says. -/
def msV (m : Ms) (v : Value) : Value := .agg #[.int .i64 m.k, .int .i64 m.fr, .int .i64 m.inc, .int .i64 m.rd, .int .i64 m.h, .int .i64 m.pt, .int .i64 m.ps, v]
/-- A message in a box. -/
structure B8 (b : Nat) (m : Ms) (v : Value) (w : World) : Prop where
  c0 : w.cell? ⟨b, 0, none⟩ = some (.int .i64 m.k)
  c1 : w.cell? ⟨b, 1, none⟩ = some (.int .i64 m.fr)
  c2 : w.cell? ⟨b, 2, none⟩ = some (.int .i64 m.inc)
  c3 : w.cell? ⟨b, 3, none⟩ = some (.int .i64 m.rd)
  c4 : w.cell? ⟨b, 4, none⟩ = some (.int .i64 m.h)
  c5 : w.cell? ⟨b, 5, none⟩ = some (.int .i64 m.pt)
  c6 : w.cell? ⟨b, 6, none⟩ = some (.int .i64 m.ps)
  c7 : w.cell? ⟨b, 7, none⟩ = some v
theorem B8.new (w : World) (m : Ms) (v : Value) (t : TypeId) : B8 w.heap.size m v (w.alloc (.cells #[.int .i64 m.k, .int .i64 m.fr, .int .i64 m.inc, .int .i64 m.rd, .int .i64 m.h, .int .i64 m.pt, .int .i64 m.ps, v] t)) :=
  ⟨by simp [go_sem], by simp [go_sem], by simp [go_sem], by simp [go_sem], by simp [go_sem], by simp [go_sem], by simp [go_sem], by simp [go_sem]⟩
theorem B8.later {b : Nat} {m : Ms} {v : Value} {w w' : World} (h : B8 b m v w) (k : Below w.heap.size w w') : B8 b m v w' :=
  ⟨cell_later k h.c0, cell_later k h.c1, cell_later k h.c2, cell_later k h.c3, cell_later k h.c4, cell_later k h.c5, cell_later k h.c6, cell_later k h.c7⟩
/-- The fields alone that its kind uses. -/
def kpt (m : Ms) : Ms :=
  if m.k = 1 ∨ m.k = 8 then ⟨m.k, m.fr, m.inc, 0, 0, 0, 0, []⟩ else if m.k = 2 then ⟨m.k, 0, 0, m.rd, m.h, 0, m.ps, []⟩ else if m.k = 3 then ⟨m.k, m.fr, m.inc, m.rd, 0, m.pt, 0, []⟩ else if m.k = 4 then ⟨m.k, 0, 0, m.rd, 0, m.pt, m.ps, m.d⟩ else if m.k = 5 then ⟨m.k, m.fr, m.inc, m.rd, 0, m.pt, m.ps, m.d⟩ else if m.k = 6 then ⟨m.k, 0, m.inc, m.rd, 0, m.pt, 0, []⟩ else if m.k = 7 then ⟨m.k, 0, m.inc, m.rd, 0, 0, 0, []⟩ else ⟨m.k, 0, 0, 0, 0, 0, 0, []⟩
def kpv (m : Ms) (v : Value) : Value := if m.k = 4 ∨ m.k = 5 then v else .slice none 0 0
set_option maxRecDepth 100000 in
set_option maxHeartbeats 2000000 in
theorem refKept1 (m : Ms) (ad : Option Addr) (n cap : Nat) (hk : m.k = 1) (w : World) :
    Calls Tryd.prog 24 #[msV m (.slice ad n cap)] w fun e w' => e = .returned (.tuple #[msV (kpt m) (kpv m (.slice ad n cap)), .bool true]) ∧ Below w.heap.size w w' := by
  obtain ⟨k, fr, inc, rd, h, pt, ps, d⟩ := m
  dsimp only at hk
  subst hk
  have HK : Hid (msV (kpt ⟨1, fr, inc, rd, h, pt, ps, d⟩) (kpv ⟨1, fr, inc, rd, h, pt, ps, d⟩ (.slice ad n cap)) = .agg #[.int .i64 1, .int .i64 fr, .int .i64 inc, .int .i64 0, .int .i64 0, .int .i64 0, .int .i64 0, .slice none 0 0]) := rfl
  rw [HK.out]
  clear HK
  show Calls Tryd.prog 24 #[.agg #[.int .i64 1, .int .i64 fr, .int .i64 inc, .int .i64 rd, .int .i64 h, .int .i64 pt, .int .i64 ps, .slice ad n cap]] w _
  go_enter Tryd.func24, Tryd.ntmps24
  go_wp2
  exact bodyPost_ret (v := .tuple #[.agg #[.int .i64 1, .int .i64 fr, .int .i64 inc, .int .i64 0, .int .i64 0, .int .i64 0, .int .i64 0, .slice none 0 0], .bool true]) (by simp [results, Tryd.results24, go_sem]) rfl ⟨rfl, bchain (bel2 _ _ _) (bel1 _ _)⟩
set_option maxRecDepth 100000 in
set_option maxHeartbeats 2000000 in
theorem refKept2 (m : Ms) (ad : Option Addr) (n cap : Nat) (hk : m.k = 2) (w : World) :
    Calls Tryd.prog 24 #[msV m (.slice ad n cap)] w fun e w' => e = .returned (.tuple #[msV (kpt m) (kpv m (.slice ad n cap)), .bool true]) ∧ Below w.heap.size w w' := by
  obtain ⟨k, fr, inc, rd, h, pt, ps, d⟩ := m
  dsimp only at hk
  subst hk
  have HK : Hid (msV (kpt ⟨2, fr, inc, rd, h, pt, ps, d⟩) (kpv ⟨2, fr, inc, rd, h, pt, ps, d⟩ (.slice ad n cap)) = .agg #[.int .i64 2, .int .i64 0, .int .i64 0, .int .i64 rd, .int .i64 h, .int .i64 0, .int .i64 ps, .slice none 0 0]) := rfl
  rw [HK.out]
  clear HK
  show Calls Tryd.prog 24 #[.agg #[.int .i64 2, .int .i64 fr, .int .i64 inc, .int .i64 rd, .int .i64 h, .int .i64 pt, .int .i64 ps, .slice ad n cap]] w _
  go_enter Tryd.func24, Tryd.ntmps24
  go_wp2
  exact bodyPost_ret (v := .tuple #[.agg #[.int .i64 2, .int .i64 0, .int .i64 0, .int .i64 rd, .int .i64 h, .int .i64 0, .int .i64 ps, .slice none 0 0], .bool true]) (by simp [results, Tryd.results24, go_sem]) rfl ⟨rfl, bchain (bel2 _ _ _) (bel1 _ _)⟩
set_option maxRecDepth 100000 in
set_option maxHeartbeats 2000000 in
theorem refKept3 (m : Ms) (ad : Option Addr) (n cap : Nat) (hk : m.k = 3) (w : World) :
    Calls Tryd.prog 24 #[msV m (.slice ad n cap)] w fun e w' => e = .returned (.tuple #[msV (kpt m) (kpv m (.slice ad n cap)), .bool true]) ∧ Below w.heap.size w w' := by
  obtain ⟨k, fr, inc, rd, h, pt, ps, d⟩ := m
  dsimp only at hk
  subst hk
  have HK : Hid (msV (kpt ⟨3, fr, inc, rd, h, pt, ps, d⟩) (kpv ⟨3, fr, inc, rd, h, pt, ps, d⟩ (.slice ad n cap)) = .agg #[.int .i64 3, .int .i64 fr, .int .i64 inc, .int .i64 rd, .int .i64 0, .int .i64 pt, .int .i64 0, .slice none 0 0]) := rfl
  rw [HK.out]
  clear HK
  show Calls Tryd.prog 24 #[.agg #[.int .i64 3, .int .i64 fr, .int .i64 inc, .int .i64 rd, .int .i64 h, .int .i64 pt, .int .i64 ps, .slice ad n cap]] w _
  go_enter Tryd.func24, Tryd.ntmps24
  go_wp2
  exact bodyPost_ret (v := .tuple #[.agg #[.int .i64 3, .int .i64 fr, .int .i64 inc, .int .i64 rd, .int .i64 0, .int .i64 pt, .int .i64 0, .slice none 0 0], .bool true]) (by simp [results, Tryd.results24, go_sem]) rfl ⟨rfl, bchain (bel2 _ _ _) (bel1 _ _)⟩
set_option maxRecDepth 100000 in
set_option maxHeartbeats 2000000 in
theorem refKept4 (m : Ms) (ad : Option Addr) (n cap : Nat) (hk : m.k = 4) (w : World) :
    Calls Tryd.prog 24 #[msV m (.slice ad n cap)] w fun e w' => e = .returned (.tuple #[msV (kpt m) (kpv m (.slice ad n cap)), .bool true]) ∧ Below w.heap.size w w' := by
  obtain ⟨k, fr, inc, rd, h, pt, ps, d⟩ := m
  dsimp only at hk
  subst hk
  have HK : Hid (msV (kpt ⟨4, fr, inc, rd, h, pt, ps, d⟩) (kpv ⟨4, fr, inc, rd, h, pt, ps, d⟩ (.slice ad n cap)) = .agg #[.int .i64 4, .int .i64 0, .int .i64 0, .int .i64 rd, .int .i64 0, .int .i64 pt, .int .i64 ps, .slice ad n cap]) := rfl
  rw [HK.out]
  clear HK
  show Calls Tryd.prog 24 #[.agg #[.int .i64 4, .int .i64 fr, .int .i64 inc, .int .i64 rd, .int .i64 h, .int .i64 pt, .int .i64 ps, .slice ad n cap]] w _
  go_enter Tryd.func24, Tryd.ntmps24
  go_wp2
  exact bodyPost_ret (v := .tuple #[.agg #[.int .i64 4, .int .i64 0, .int .i64 0, .int .i64 rd, .int .i64 0, .int .i64 pt, .int .i64 ps, .slice ad n cap], .bool true]) (by simp [results, Tryd.results24, go_sem]) rfl ⟨rfl, bchain (bel2 _ _ _) (bel1 _ _)⟩
set_option maxRecDepth 100000 in
set_option maxHeartbeats 2000000 in
theorem refKept5 (m : Ms) (ad : Option Addr) (n cap : Nat) (hk : m.k = 5) (w : World) :
    Calls Tryd.prog 24 #[msV m (.slice ad n cap)] w fun e w' => e = .returned (.tuple #[msV (kpt m) (kpv m (.slice ad n cap)), .bool true]) ∧ Below w.heap.size w w' := by
  obtain ⟨k, fr, inc, rd, h, pt, ps, d⟩ := m
  dsimp only at hk
  subst hk
  have HK : Hid (msV (kpt ⟨5, fr, inc, rd, h, pt, ps, d⟩) (kpv ⟨5, fr, inc, rd, h, pt, ps, d⟩ (.slice ad n cap)) = .agg #[.int .i64 5, .int .i64 fr, .int .i64 inc, .int .i64 rd, .int .i64 0, .int .i64 pt, .int .i64 ps, .slice ad n cap]) := rfl
  rw [HK.out]
  clear HK
  show Calls Tryd.prog 24 #[.agg #[.int .i64 5, .int .i64 fr, .int .i64 inc, .int .i64 rd, .int .i64 h, .int .i64 pt, .int .i64 ps, .slice ad n cap]] w _
  go_enter Tryd.func24, Tryd.ntmps24
  go_wp2
  exact bodyPost_ret (v := .tuple #[.agg #[.int .i64 5, .int .i64 fr, .int .i64 inc, .int .i64 rd, .int .i64 0, .int .i64 pt, .int .i64 ps, .slice ad n cap], .bool true]) (by simp [results, Tryd.results24, go_sem]) rfl ⟨rfl, bchain (bel2 _ _ _) (bel1 _ _)⟩
set_option maxRecDepth 100000 in
set_option maxHeartbeats 2000000 in
theorem refKept6 (m : Ms) (ad : Option Addr) (n cap : Nat) (hk : m.k = 6) (w : World) :
    Calls Tryd.prog 24 #[msV m (.slice ad n cap)] w fun e w' => e = .returned (.tuple #[msV (kpt m) (kpv m (.slice ad n cap)), .bool true]) ∧ Below w.heap.size w w' := by
  obtain ⟨k, fr, inc, rd, h, pt, ps, d⟩ := m
  dsimp only at hk
  subst hk
  have HK : Hid (msV (kpt ⟨6, fr, inc, rd, h, pt, ps, d⟩) (kpv ⟨6, fr, inc, rd, h, pt, ps, d⟩ (.slice ad n cap)) = .agg #[.int .i64 6, .int .i64 0, .int .i64 inc, .int .i64 rd, .int .i64 0, .int .i64 pt, .int .i64 0, .slice none 0 0]) := rfl
  rw [HK.out]
  clear HK
  show Calls Tryd.prog 24 #[.agg #[.int .i64 6, .int .i64 fr, .int .i64 inc, .int .i64 rd, .int .i64 h, .int .i64 pt, .int .i64 ps, .slice ad n cap]] w _
  go_enter Tryd.func24, Tryd.ntmps24
  go_wp2
  exact bodyPost_ret (v := .tuple #[.agg #[.int .i64 6, .int .i64 0, .int .i64 inc, .int .i64 rd, .int .i64 0, .int .i64 pt, .int .i64 0, .slice none 0 0], .bool true]) (by simp [results, Tryd.results24, go_sem]) rfl ⟨rfl, bchain (bel2 _ _ _) (bel1 _ _)⟩
set_option maxRecDepth 100000 in
set_option maxHeartbeats 2000000 in
theorem refKept7 (m : Ms) (ad : Option Addr) (n cap : Nat) (hk : m.k = 7) (w : World) :
    Calls Tryd.prog 24 #[msV m (.slice ad n cap)] w fun e w' => e = .returned (.tuple #[msV (kpt m) (kpv m (.slice ad n cap)), .bool true]) ∧ Below w.heap.size w w' := by
  obtain ⟨k, fr, inc, rd, h, pt, ps, d⟩ := m
  dsimp only at hk
  subst hk
  have HK : Hid (msV (kpt ⟨7, fr, inc, rd, h, pt, ps, d⟩) (kpv ⟨7, fr, inc, rd, h, pt, ps, d⟩ (.slice ad n cap)) = .agg #[.int .i64 7, .int .i64 0, .int .i64 inc, .int .i64 rd, .int .i64 0, .int .i64 0, .int .i64 0, .slice none 0 0]) := rfl
  rw [HK.out]
  clear HK
  show Calls Tryd.prog 24 #[.agg #[.int .i64 7, .int .i64 fr, .int .i64 inc, .int .i64 rd, .int .i64 h, .int .i64 pt, .int .i64 ps, .slice ad n cap]] w _
  go_enter Tryd.func24, Tryd.ntmps24
  go_wp2
  exact bodyPost_ret (v := .tuple #[.agg #[.int .i64 7, .int .i64 0, .int .i64 inc, .int .i64 rd, .int .i64 0, .int .i64 0, .int .i64 0, .slice none 0 0], .bool true]) (by simp [results, Tryd.results24, go_sem]) rfl ⟨rfl, bchain (bel2 _ _ _) (bel1 _ _)⟩
set_option maxRecDepth 100000 in
set_option maxHeartbeats 2000000 in
theorem refKept8 (m : Ms) (ad : Option Addr) (n cap : Nat) (hk : m.k = 8) (w : World) :
    Calls Tryd.prog 24 #[msV m (.slice ad n cap)] w fun e w' => e = .returned (.tuple #[msV (kpt m) (kpv m (.slice ad n cap)), .bool true]) ∧ Below w.heap.size w w' := by
  obtain ⟨k, fr, inc, rd, h, pt, ps, d⟩ := m
  dsimp only at hk
  subst hk
  have HK : Hid (msV (kpt ⟨8, fr, inc, rd, h, pt, ps, d⟩) (kpv ⟨8, fr, inc, rd, h, pt, ps, d⟩ (.slice ad n cap)) = .agg #[.int .i64 8, .int .i64 fr, .int .i64 inc, .int .i64 0, .int .i64 0, .int .i64 0, .int .i64 0, .slice none 0 0]) := rfl
  rw [HK.out]
  clear HK
  show Calls Tryd.prog 24 #[.agg #[.int .i64 8, .int .i64 fr, .int .i64 inc, .int .i64 rd, .int .i64 h, .int .i64 pt, .int .i64 ps, .slice ad n cap]] w _
  go_enter Tryd.func24, Tryd.ntmps24
  go_wp2
  exact bodyPost_ret (v := .tuple #[.agg #[.int .i64 8, .int .i64 fr, .int .i64 inc, .int .i64 0, .int .i64 0, .int .i64 0, .int .i64 0, .slice none 0 0], .bool true]) (by simp [results, Tryd.results24, go_sem]) rfl ⟨rfl, bchain (bel2 _ _ _) (bel1 _ _)⟩
set_option maxRecDepth 100000 in
set_option maxHeartbeats 2000000 in
theorem refKept0 (m : Ms) (ad : Option Addr) (n cap : Nat) (hk : m.k < 1 ∨ 8 < m.k) (w : World) :
    Calls Tryd.prog 24 #[msV m (.slice ad n cap)] w fun e w' => e = .returned (.tuple #[msV (kpt m) (kpv m (.slice ad n cap)), .bool false]) ∧ Below w.heap.size w w' := by
  obtain ⟨k, fr, inc, rd, h, pt, ps, d⟩ := m
  dsimp only at hk
  have HK : Hid (msV (kpt ⟨k, fr, inc, rd, h, pt, ps, d⟩) (kpv ⟨k, fr, inc, rd, h, pt, ps, d⟩ (.slice ad n cap)) = .agg #[.int .i64 k, .int .i64 0, .int .i64 0, .int .i64 0, .int .i64 0, .int .i64 0, .int .i64 0, .slice none 0 0]) := by
    show _ = _
    unfold kpt kpv
    dsimp only
    rw [if_neg (by omega), if_neg (by omega), if_neg (by omega), if_neg (by omega), if_neg (by omega), if_neg (by omega), if_neg (by omega), if_neg (by omega)]
    rfl
  have n1 : ¬ k = 1 := by omega
  have n2 : ¬ k = 2 := by omega
  have n3 : ¬ k = 3 := by omega
  have n4 : ¬ k = 4 := by omega
  have n5 : ¬ k = 5 := by omega
  have n6 : ¬ k = 6 := by omega
  have n7 : ¬ k = 7 := by omega
  have n8 : ¬ k = 8 := by omega
  clear hk
  rw [HK.out]
  clear HK
  show Calls Tryd.prog 24 #[.agg #[.int .i64 k, .int .i64 fr, .int .i64 inc, .int .i64 rd, .int .i64 h, .int .i64 pt, .int .i64 ps, .slice ad n cap]] w _
  go_enter Tryd.func24, Tryd.ntmps24
  go_wp2
  exact bodyPost_ret (v := .tuple #[.agg #[.int .i64 k, .int .i64 0, .int .i64 0, .int .i64 0, .int .i64 0, .int .i64 0, .int .i64 0, .slice none 0 0], .bool false]) (by simp [results, Tryd.results24, go_sem]) rfl ⟨rfl, bchain (bel2 _ _ _) (bel1 _ _)⟩
end Go.Proofs.YtfcbgkcclganmaaDoor
