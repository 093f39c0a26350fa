/-
Messages in memory; the document's Kept and in (regattaref14).
The document's messages (regattaref14): in.
The document's Right (regattaref14), some kinds.
The document's Right (regattaref14), some kinds.
The document's Right (regattaref14), some kinds.
-/
import Derived.Test.YtfcbgkcclganmaaDoorZ03
import Derived.Test.YtfcbgkcclganmaaDoorZ04
import Derived.Test.YtfcbgkcclganmaaDoorZ06

set_option linter.unusedVariables false
set_option linter.unusedSimpArgs false
namespace Go.Proofs.YtfcbgkcclganmaaDoor
open Go.RowKit

/-- A message as a value: its data lie where v says. -/
def msV (m : Ms) (v : Value) : Value := .agg #[.int .i64 m.k, .int .i64 m.fr, .int .i64 m.inc, .int .i64 m.rd, .int .i64 m.h, .int .i64 m.pt, .int .i64 m.ps, v]
/-- A message in a box. -/
structure B8 (b : Nat) (m : Ms) (v : Value) (w : World) : Prop where
  c0 : w.cell? ⟨b, 0, none⟩ = some (.int .i64 m.k)
  c1 : w.cell? ⟨b, 1, none⟩ = some (.int .i64 m.fr)
  c2 : w.cell? ⟨b, 2, none⟩ = some (.int .i64 m.inc)
  c3 : w.cell? ⟨b, 3, none⟩ = some (.int .i64 m.rd)
  c4 : w.cell? ⟨b, 4, none⟩ = some (.int .i64 m.h)
  c5 : w.cell? ⟨b, 5, none⟩ = some (.int .i64 m.pt)
  c6 : w.cell? ⟨b, 6, none⟩ = some (.int .i64 m.ps)
  c7 : w.cell? ⟨b, 7, none⟩ = some v
theorem B8.new (w : World) (m : Ms) (v : Value) (t : TypeId) : B8 w.heap.size m v (w.alloc (.cells #[.int .i64 m.k, .int .i64 m.fr, .int .i64 m.inc, .int .i64 m.rd, .int .i64 m.h, .int .i64 m.pt, .int .i64 m.ps, v] t)) :=
  ⟨by simp [go_sem], by simp [go_sem], by simp [go_sem], by simp [go_sem], by simp [go_sem], by simp [go_sem], by simp [go_sem], by simp [go_sem]⟩
theorem B8.later {b : Nat} {m : Ms} {v : Value} {w w' : World} (h : B8 b m v w) (k : Below w.heap.size w w') : B8 b m v w' :=
  ⟨cell_later k h.c0, cell_later k h.c1, cell_later k h.c2, cell_later k h.c3, cell_later k h.c4, cell_later k h.c5, cell_later k h.c6, cell_later k h.c7⟩
/-- The fields alone that its kind uses. -/
def kpt (m : Ms) : Ms :=
  if m.k = 1 ∨ m.k = 8 then ⟨m.k, m.fr, m.inc, 0, 0, 0, 0, []⟩ else if m.k = 2 then ⟨m.k, 0, 0, m.rd, m.h, 0, m.ps, []⟩ else if m.k = 3 then ⟨m.k, m.fr, m.inc, m.rd, 0, m.pt, 0, []⟩ else if m.k = 4 then ⟨m.k, 0, 0, m.rd, 0, m.pt, m.ps, m.d⟩ else if m.k = 5 then ⟨m.k, m.fr, m.inc, m.rd, 0, m.pt, m.ps, m.d⟩ else if m.k = 6 then ⟨m.k, 0, m.inc, m.rd, 0, m.pt, 0, []⟩ else if m.k = 7 then ⟨m.k, 0, m.inc, m.rd, 0, 0, 0, []⟩ else ⟨m.k, 0, 0, 0, 0, 0, 0, []⟩
def kpv (m : Ms) (v : Value) : Value := if m.k = 4 ∨ m.k = 5 then v else .slice none 0 0
set_option maxRecDepth 100000 in
set_option maxHeartbeats 2000000 in
theorem refKept1 (m : Ms) (ad : Option Addr) (n cap : Nat) (hk : m.k = 1) (w : World) :
    Calls Tryd.prog 24 #[msV m (.slice ad n cap)] w fun e w' => e = .returned (.tuple #[msV (kpt m) (kpv m (.slice ad n cap)), .bool true]) ∧ Below w.heap.size w w' := by
  obtain ⟨k, fr, inc, rd, h, pt, ps, d⟩ := m
  dsimp only at hk
  subst hk
  have HK : Hid (msV (kpt ⟨1, fr, inc, rd, h, pt, ps, d⟩) (kpv ⟨1, fr, inc, rd, h, pt, ps, d⟩ (.slice ad n cap)) = .agg #[.int .i64 1, .int .i64 fr, .int .i64 inc, .int .i64 0, .int .i64 0, .int .i64 0, .int .i64 0, .slice none 0 0]) := rfl
  rw [HK.out]
  clear HK
  show Calls Tryd.prog 24 #[.agg #[.int .i64 1, .int .i64 fr, .int .i64 inc, .int .i64 rd, .int .i64 h, .int .i64 pt, .int .i64 ps, .slice ad n cap]] w _
  go_enter Tryd.func24, Tryd.ntmps24
  go_wp2
  exact bodyPost_ret (v := .tuple #[.agg #[.int .i64 1, .int .i64 fr, .int .i64 inc, .int .i64 0, .int .i64 0, .int .i64 0, .int .i64 0, .slice none 0 0], .bool true]) (by simp [results, Tryd.results24, go_sem]) rfl ⟨rfl, bchain (bel2 _ _ _) (bel1 _ _)⟩
set_option maxRecDepth 100000 in
set_option maxHeartbeats 2000000 in
theorem refKept2 (m : Ms) (ad : Option Addr) (n cap : Nat) (hk : m.k = 2) (w : World) :
    Calls Tryd.prog 24 #[msV m (.slice ad n cap)] w fun e w' => e = .returned (.tuple #[msV (kpt m) (kpv m (.slice ad n cap)), .bool true]) ∧ Below w.heap.size w w' := by
  obtain ⟨k, fr, inc, rd, h, pt, ps, d⟩ := m
  dsimp only at hk
  subst hk
  have HK : Hid (msV (kpt ⟨2, fr, inc, rd, h, pt, ps, d⟩) (kpv ⟨2, fr, inc, rd, h, pt, ps, d⟩ (.slice ad n cap)) = .agg #[.int .i64 2, .int .i64 0, .int .i64 0, .int .i64 rd, .int .i64 h, .int .i64 0, .int .i64 ps, .slice none 0 0]) := rfl
  rw [HK.out]
  clear HK
  show Calls Tryd.prog 24 #[.agg #[.int .i64 2, .int .i64 fr, .int .i64 inc, .int .i64 rd, .int .i64 h, .int .i64 pt, .int .i64 ps, .slice ad n cap]] w _
  go_enter Tryd.func24, Tryd.ntmps24
  go_wp2
  exact bodyPost_ret (v := .tuple #[.agg #[.int .i64 2, .int .i64 0, .int .i64 0, .int .i64 rd, .int .i64 h, .int .i64 0, .int .i64 ps, .slice none 0 0], .bool true]) (by simp [results, Tryd.results24, go_sem]) rfl ⟨rfl, bchain (bel2 _ _ _) (bel1 _ _)⟩
set_option maxRecDepth 100000 in
set_option maxHeartbeats 2000000 in
theorem refKept3 (m : Ms) (ad : Option Addr) (n cap : Nat) (hk : m.k = 3) (w : World) :
    Calls Tryd.prog 24 #[msV m (.slice ad n cap)] w fun e w' => e = .returned (.tuple #[msV (kpt m) (kpv m (.slice ad n cap)), .bool true]) ∧ Below w.heap.size w w' := by
  obtain ⟨k, fr, inc, rd, h, pt, ps, d⟩ := m
  dsimp only at hk
  subst hk
  have HK : Hid (msV (kpt ⟨3, fr, inc, rd, h, pt, ps, d⟩) (kpv ⟨3, fr, inc, rd, h, pt, ps, d⟩ (.slice ad n cap)) = .agg #[.int .i64 3, .int .i64 fr, .int .i64 inc, .int .i64 rd, .int .i64 0, .int .i64 pt, .int .i64 0, .slice none 0 0]) := rfl
  rw [HK.out]
  clear HK
  show Calls Tryd.prog 24 #[.agg #[.int .i64 3, .int .i64 fr, .int .i64 inc, .int .i64 rd, .int .i64 h, .int .i64 pt, .int .i64 ps, .slice ad n cap]] w _
  go_enter Tryd.func24, Tryd.ntmps24
  go_wp2
  exact bodyPost_ret (v := .tuple #[.agg #[.int .i64 3, .int .i64 fr, .int .i64 inc, .int .i64 rd, .int .i64 0, .int .i64 pt, .int .i64 0, .slice none 0 0], .bool true]) (by simp [results, Tryd.results24, go_sem]) rfl ⟨rfl, bchain (bel2 _ _ _) (bel1 _ _)⟩
set_option maxRecDepth 100000 in
set_option maxHeartbeats 2000000 in
theorem refKept4 (m : Ms) (ad : Option Addr) (n cap : Nat) (hk : m.k = 4) (w : World) :
    Calls Tryd.prog 24 #[msV m (.slice ad n cap)] w fun e w' => e = .returned (.tuple #[msV (kpt m) (kpv m (.slice ad n cap)), .bool true]) ∧ Below w.heap.size w w' := by
  obtain ⟨k, fr, inc, rd, h, pt, ps, d⟩ := m
  dsimp only at hk
  subst hk
  have HK : Hid (msV (kpt ⟨4, fr, inc, rd, h, pt, ps, d⟩) (kpv ⟨4, fr, inc, rd, h, pt, ps, d⟩ (.slice ad n cap)) = .agg #[.int .i64 4, .int .i64 0, .int .i64 0, .int .i64 rd, .int .i64 0, .int .i64 pt, .int .i64 ps, .slice ad n cap]) := rfl
  rw [HK.out]
  clear HK
  show Calls Tryd.prog 24 #[.agg #[.int .i64 4, .int .i64 fr, .int .i64 inc, .int .i64 rd, .int .i64 h, .int .i64 pt, .int .i64 ps, .slice ad n cap]] w _
  go_enter Tryd.func24, Tryd.ntmps24
  go_wp2
  exact bodyPost_ret (v := .tuple #[.agg #[.int .i64 4, .int .i64 0, .int .i64 0, .int .i64 rd, .int .i64 0, .int .i64 pt, .int .i64 ps, .slice ad n cap], .bool true]) (by simp [results, Tryd.results24, go_sem]) rfl ⟨rfl, bchain (bel2 _ _ _) (bel1 _ _)⟩
set_option maxRecDepth 100000 in
set_option maxHeartbeats 2000000 in
theorem refKept5 (m : Ms) (ad : Option Addr) (n cap : Nat) (hk : m.k = 5) (w : World) :
    Calls Tryd.prog 24 #[msV m (.slice ad n cap)] w fun e w' => e = .returned (.tuple #[msV (kpt m) (kpv m (.slice ad n cap)), .bool true]) ∧ Below w.heap.size w w' := by
  obtain ⟨k, fr, inc, rd, h, pt, ps, d⟩ := m
  dsimp only at hk
  subst hk
  have HK : Hid (msV (kpt ⟨5, fr, inc, rd, h, pt, ps, d⟩) (kpv ⟨5, fr, inc, rd, h, pt, ps, d⟩ (.slice ad n cap)) = .agg #[.int .i64 5, .int .i64 fr, .int .i64 inc, .int .i64 rd, .int .i64 0, .int .i64 pt, .int .i64 ps, .slice ad n cap]) := rfl
  rw [HK.out]
  clear HK
  show Calls Tryd.prog 24 #[.agg #[.int .i64 5, .int .i64 fr, .int .i64 inc, .int .i64 rd, .int .i64 h, .int .i64 pt, .int .i64 ps, .slice ad n cap]] w _
  go_enter Tryd.func24, Tryd.ntmps24
  go_wp2
  exact bodyPost_ret (v := .tuple #[.agg #[.int .i64 5, .int .i64 fr, .int .i64 inc, .int .i64 rd, .int .i64 0, .int .i64 pt, .int .i64 ps, .slice ad n cap], .bool true]) (by simp [results, Tryd.results24, go_sem]) rfl ⟨rfl, bchain (bel2 _ _ _) (bel1 _ _)⟩
set_option maxRecDepth 100000 in
set_option maxHeartbeats 2000000 in
theorem refKept6 (m : Ms) (ad : Option Addr) (n cap : Nat) (hk : m.k = 6) (w : World) :
    Calls Tryd.prog 24 #[msV m (.slice ad n cap)] w fun e w' => e = .returned (.tuple #[msV (kpt m) (kpv m (.slice ad n cap)), .bool true]) ∧ Below w.heap.size w w' := by
  obtain ⟨k, fr, inc, rd, h, pt, ps, d⟩ := m
  dsimp only at hk
  subst hk
  have HK : Hid (msV (kpt ⟨6, fr, inc, rd, h, pt, ps, d⟩) (kpv ⟨6, fr, inc, rd, h, pt, ps, d⟩ (.slice ad n cap)) = .agg #[.int .i64 6, .int .i64 0, .int .i64 inc, .int .i64 rd, .int .i64 0, .int .i64 pt, .int .i64 0, .slice none 0 0]) := rfl
  rw [HK.out]
  clear HK
  show Calls Tryd.prog 24 #[.agg #[.int .i64 6, .int .i64 fr, .int .i64 inc, .int .i64 rd, .int .i64 h, .int .i64 pt, .int .i64 ps, .slice ad n cap]] w _
  go_enter Tryd.func24, Tryd.ntmps24
  go_wp2
  exact bodyPost_ret (v := .tuple #[.agg #[.int .i64 6, .int .i64 0, .int .i64 inc, .int .i64 rd, .int .i64 0, .int .i64 pt, .int .i64 0, .slice none 0 0], .bool true]) (by simp [results, Tryd.results24, go_sem]) rfl ⟨rfl, bchain (bel2 _ _ _) (bel1 _ _)⟩
set_option maxRecDepth 100000 in
set_option maxHeartbeats 2000000 in
theorem refKept7 (m : Ms) (ad : Option Addr) (n cap : Nat) (hk : m.k = 7) (w : World) :
    Calls Tryd.prog 24 #[msV m (.slice ad n cap)] w fun e w' => e = .returned (.tuple #[msV (kpt m) (kpv m (.slice ad n cap)), .bool true]) ∧ Below w.heap.size w w' := by
  obtain ⟨k, fr, inc, rd, h, pt, ps, d⟩ := m
  dsimp only at hk
  subst hk
  have HK : Hid (msV (kpt ⟨7, fr, inc, rd, h, pt, ps, d⟩) (kpv ⟨7, fr, inc, rd, h, pt, ps, d⟩ (.slice ad n cap)) = .agg #[.int .i64 7, .int .i64 0, .int .i64 inc, .int .i64 rd, .int .i64 0, .int .i64 0, .int .i64 0, .slice none 0 0]) := rfl
  rw [HK.out]
  clear HK
  show Calls Tryd.prog 24 #[.agg #[.int .i64 7, .int .i64 fr, .int .i64 inc, .int .i64 rd, .int .i64 h, .int .i64 pt, .int .i64 ps, .slice ad n cap]] w _
  go_enter Tryd.func24, Tryd.ntmps24
  go_wp2
  exact bodyPost_ret (v := .tuple #[.agg #[.int .i64 7, .int .i64 0, .int .i64 inc, .int .i64 rd, .int .i64 0, .int .i64 0, .int .i64 0, .slice none 0 0], .bool true]) (by simp [results, Tryd.results24, go_sem]) rfl ⟨rfl, bchain (bel2 _ _ _) (bel1 _ _)⟩
set_option maxRecDepth 100000 in
set_option maxHeartbeats 2000000 in
theorem refKept8 (m : Ms) (ad : Option Addr) (n cap : Nat) (hk : m.k = 8) (w : World) :
    Calls Tryd.prog 24 #[msV m (.slice ad n cap)] w fun e w' => e = .returned (.tuple #[msV (kpt m) (kpv m (.slice ad n cap)), .bool true]) ∧ Below w.heap.size w w' := by
  obtain ⟨k, fr, inc, rd, h, pt, ps, d⟩ := m
  dsimp only at hk
  subst hk
  have HK : Hid (msV (kpt ⟨8, fr, inc, rd, h, pt, ps, d⟩) (kpv ⟨8, fr, inc, rd, h, pt, ps, d⟩ (.slice ad n cap)) = .agg #[.int .i64 8, .int .i64 fr, .int .i64 inc, .int .i64 0, .int .i64 0, .int .i64 0, .int .i64 0, .slice none 0 0]) := rfl
  rw [HK.out]
  clear HK
  show Calls Tryd.prog 24 #[.agg #[.int .i64 8, .int .i64 fr, .int .i64 inc, .int .i64 rd, .int .i64 h, .int .i64 pt, .int .i64 ps, .slice ad n cap]] w _
  go_enter Tryd.func24, Tryd.ntmps24
  go_wp2
  exact bodyPost_ret (v := .tuple #[.agg #[.int .i64 8, .int .i64 fr, .int .i64 inc, .int .i64 0, .int .i64 0, .int .i64 0, .int .i64 0, .slice none 0 0], .bool true]) (by simp [results, Tryd.results24, go_sem]) rfl ⟨rfl, bchain (bel2 _ _ _) (bel1 _ _)⟩
set_option maxRecDepth 100000 in
set_option maxHeartbeats 2000000 in
theorem refKept0 (m : Ms) (ad : Option Addr) (n cap : Nat) (hk : m.k < 1 ∨ 8 < m.k) (w : World) :
    Calls Tryd.prog 24 #[msV m (.slice ad n cap)] w fun e w' => e = .returned (.tuple #[msV (kpt m) (kpv m (.slice ad n cap)), .bool false]) ∧ Below w.heap.size w w' := by
  obtain ⟨k, fr, inc, rd, h, pt, ps, d⟩ := m
  dsimp only at hk
  have HK : Hid (msV (kpt ⟨k, fr, inc, rd, h, pt, ps, d⟩) (kpv ⟨k, fr, inc, rd, h, pt, ps, d⟩ (.slice ad n cap)) = .agg #[.int .i64 k, .int .i64 0, .int .i64 0, .int .i64 0, .int .i64 0, .int .i64 0, .int .i64 0, .slice none 0 0]) := by
    show _ = _
    unfold kpt kpv
    dsimp only
    rw [if_neg (by omega), if_neg (by omega), if_neg (by omega), if_neg (by omega), if_neg (by omega), if_neg (by omega), if_neg (by omega), if_neg (by omega)]
    rfl
  have n1 : ¬ k = 1 := by omega
  have n2 : ¬ k = 2 := by omega
  have n3 : ¬ k = 3 := by omega
  have n4 : ¬ k = 4 := by omega
  have n5 : ¬ k = 5 := by omega
  have n6 : ¬ k = 6 := by omega
  have n7 : ¬ k = 7 := by omega
  have n8 : ¬ k = 8 := by omega
  clear hk
  rw [HK.out]
  clear HK
  show Calls Tryd.prog 24 #[.agg #[.int .i64 k, .int .i64 fr, .int .i64 inc, .int .i64 rd, .int .i64 h, .int .i64 pt, .int .i64 ps, .slice ad n cap]] w _
  go_enter Tryd.func24, Tryd.ntmps24
  go_wp2
  exact bodyPost_ret (v := .tuple #[.agg #[.int .i64 k, .int .i64 0, .int .i64 0, .int .i64 0, .int .i64 0, .int .i64 0, .int .i64 0, .slice none 0 0], .bool false]) (by simp [results, Tryd.results24, go_sem]) rfl ⟨rfl, bchain (bel2 _ _ _) (bel1 _ _)⟩
end Go.Proofs.YtfcbgkcclganmaaDoor
set_option linter.unusedVariables false
set_option linter.unusedSimpArgs false
namespace Go.Proofs.YtfcbgkcclganmaaDoor
open Go.RowKit

/-- Between two ends. -/
def inB (n lo hi : Int) : Bool := decide (lo ≤ n) && decide (n ≤ hi)
theorem inB_yes {n lo hi : Int} (h1 : lo ≤ n) (h2 : n ≤ hi) : inB n lo hi = true := by simp [inB, h1, h2]
theorem inB_of {n lo hi : Int} (h : inB n lo hi = true) : lo ≤ n ∧ n ≤ hi := by simpa [inB] using h
theorem inB_no {n lo hi : Int} (h : inB n lo hi = false) (h1 : lo ≤ n) (h2 : n ≤ hi) : False := by rw [inB_yes h1 h2] at h; cases h
set_option maxRecDepth 100000 in
set_option maxHeartbeats 1000000 in
theorem refIn (n lo hi : Int) (w : World) : Calls Tryd.prog 25 #[.int .i64 n, .int .i64 lo, .int .i64 hi] w fun e w' => e = .returned (.bool (inB n lo hi)) ∧ w' = w := by
  by_cases h1 : lo ≤ n
  · by_cases h2 : n ≤ hi
    · have HB : Hid (inB n lo hi = true) := inB_yes h1 h2
      go_enter Tryd.func25, Tryd.ntmps25
      go_wp2
      go_ret
      exact ⟨by rw [HB.out]; rfl, rfl⟩
    · have HB : Hid (inB n lo hi = false) := by show _ = _; simp [inB, h2]
      have h3 : hi < n := by omega
      go_enter Tryd.func25, Tryd.ntmps25
      go_wp2
      go_ret
      exact ⟨by rw [HB.out]; rfl, rfl⟩
  · have HB : Hid (inB n lo hi = false) := by show _ = _; simp [inB, h1]
    have h3 : n < lo := by omega
    go_enter Tryd.func25, Tryd.ntmps25
    go_wp2
    go_ret
    exact ⟨by rw [HB.out]; rfl, rfl⟩
/-- What Right answers of a message. -/
def RgE (m : Ms) (w : World) (e : Ending) (w' : World) : Prop := ∃ B : Bool, e = .returned (.bool B) ∧ (B = true ↔ Rgt m) ∧ Below w.heap.size w w'
theorem RgE.no {m : Ms} {w w' : World} (h : ¬ Rgt m) (hb : Below w.heap.size w w') : RgE m w (.returned (.bool false)) w' := ⟨false, rfl, ⟨(fun q => by cases q), fun q => absurd q h⟩, hb⟩
theorem RgE.yes {m : Ms} {w w' : World} (h : Rgt m) (hb : Below w.heap.size w w') : RgE m w (.returned (.bool true)) w' := ⟨true, rfl, ⟨fun _ => h, fun _ => rfl⟩, hb⟩
end Go.Proofs.YtfcbgkcclganmaaDoor
set_option linter.unusedVariables false
set_option linter.unusedSimpArgs false
namespace Go.Proofs.YtfcbgkcclganmaaDoor
open Go.RowKit

set_option maxRecDepth 100000 in
set_option maxHeartbeats 4000000 in
theorem refRight1 (fr inc rd h pt ps : Int) (d : List Nat) (ad : Option Addr) (n cap : Nat) (hn : d.length = n) (hn2 : n ≤ 9223372036854775807) (w : World) :
    Calls Tryd.prog 10 #[msV ⟨1, fr, inc, rd, h, pt, ps, d⟩ (.slice ad n cap)] w fun e w' => RgE ⟨1, fr, inc, rd, h, pt, ps, d⟩ w e w' := by
  have HD : Hid (d.length = n) := hn
  have HK : Hid (∀ W, Calls Tryd.prog 24 #[.agg #[.int .i64 1, .int .i64 fr, .int .i64 inc, .int .i64 rd, .int .i64 h, .int .i64 pt, .int .i64 ps, .slice ad n cap]] W fun e w' => e = .returned (.tuple #[.agg #[.int .i64 1, .int .i64 fr, .int .i64 inc, .int .i64 0, .int .i64 0, .int .i64 0, .int .i64 0, .slice none 0 0], .bool true]) ∧ Below W.heap.size W w') := fun W => refKept1 ⟨1, fr, inc, rd, h, pt, ps, d⟩ ad n cap rfl W
  obtain ⟨wA, hwA⟩ : ∃ wA, wA = w.alloc (.cells #[.int .i64 1, .int .i64 fr, .int .i64 inc, .int .i64 rd, .int .i64 h, .int .i64 pt, .int .i64 ps, .slice ad n cap] 26) := ⟨_, rfl⟩
  have HA : Hid (B8 w.heap.size ⟨1, fr, inc, rd, h, pt, ps, d⟩ (.slice ad n cap) wA ∧ Below w.heap.size w wA) := by rw [hwA]; exact ⟨B8.new _ _ _ _, bel1 _ _⟩
  clear hn
  show Calls Tryd.prog 10 #[.agg #[.int .i64 1, .int .i64 fr, .int .i64 inc, .int .i64 rd, .int .i64 h, .int .i64 pt, .int .i64 ps, .slice ad n cap]] w _
  go_enter Tryd.func10, Tryd.ntmps10
  go_upto_region 1 with fail
  rw [← hwA]
  clear hwA
  have x0 := HA.out.1.c0
  have x1 := HA.out.1.c1
  have x2 := HA.out.1.c2
  have x3 := HA.out.1.c3
  have x4 := HA.out.1.c4
  have x5 := HA.out.1.c5
  have x6 := HA.out.1.c6
  have x7 := HA.out.1.c7
  dsimp only at x0 x1 x2 x3 x4 x5 x6 x7
  go_wp2_with fail
  refine (HK.out wA).mono ?_
  rintro e w1 ⟨rfl, hb1⟩
  obtain ⟨w2, hw2⟩ : ∃ w2, w2 = w1.alloc (.cells #[.int .i64 1, .int .i64 fr, .int .i64 inc, .int .i64 0, .int .i64 0, .int .i64 0, .int .i64 0, .slice none 0 0] 26) := ⟨_, rfl⟩
  have hb2 : Below wA.heap.size wA w2 := by rw [hw2]; exact bchain hb1 (bel1 _ _)
  have HB : Hid (Below w.heap.size w w2) := bchain HA.out.2 hb2
  have y0 := cell_later hb2 x0
  have y1 := cell_later hb2 x1
  have y2 := cell_later hb2 x2
  have y3 := cell_later hb2 x3
  have y4 := cell_later hb2 x4
  have y5 := cell_later hb2 x5
  have y6 := cell_later hb2 x6
  have y7 := cell_later hb2 x7
  have z1 : w2.cell? ⟨w1.heap.size, 1, none⟩ = some (.int .i64 fr) := by rw [hw2]; simp [go_sem]
  have z2 : w2.cell? ⟨w1.heap.size, 2, none⟩ = some (.int .i64 inc) := by rw [hw2]; simp [go_sem]
  have z3 : w2.cell? ⟨w1.heap.size, 3, none⟩ = some (.int .i64 0) := by rw [hw2]; simp [go_sem]
  have z4 : w2.cell? ⟨w1.heap.size, 4, none⟩ = some (.int .i64 0) := by rw [hw2]; simp [go_sem]
  have z5 : w2.cell? ⟨w1.heap.size, 5, none⟩ = some (.int .i64 0) := by rw [hw2]; simp [go_sem]
  have z6 : w2.cell? ⟨w1.heap.size, 6, none⟩ = some (.int .i64 0) := by rw [hw2]; simp [go_sem]
  have z7 : w2.cell? ⟨w1.heap.size, 7, none⟩ = some (.slice none 0 0) := by rw [hw2]; simp [go_sem]
  clear hb1 hb2 x0 x1 x2 x3 x4 x5 x6 x7 HA HK
  go_upto_region 2 with fail
  rw [← hw2]
  clear hw2
  generalize w1.heap.size = bk at *
  generalize w.heap.size = bm at y0 y1 y2 y3 y4 y5 y6 y7 ⊢
  by_cases hZ : rd = 0 ∧ h = 0 ∧ pt = 0 ∧ ps = 0 ∧ n = 0
  rotate_left
  · have hN : ¬ Rgt ⟨1, fr, inc, rd, h, pt, ps, d⟩ := fun r => hZ ⟨r.nR (by simp [uR]), r.nH (by simp [uH]), r.nP (by simp [uP]), r.nS (by simp [uS]), (by have h1 := r.nD (by simp [uD]); have h2 := HD.out; dsimp only at h1; rw [h1] at h2; exact h2.symm)⟩
    have HNR : Hid (¬ Rgt ⟨1, fr, inc, rd, h, pt, ps, d⟩) := hN
    clear hN
    go_upto_if 64 with fail
    all_goals first | (exfalso; simp at *; omega) | (exfalso; omega) | (go_wp2; go_ret; exact RgE.no HNR.out HB.out)
  obtain ⟨rfl, rfl, rfl, rfl, rfl⟩ := hZ
  have qR : inB 0 0 256 = true := rfl
  have qP : inB 0 0 1023 = true := rfl
  cases qF : inB fr 1 64 with
  | false =>
    go_wp2_with (go_at_call 25; refine (refIn _ _ _ _).mono ?_; rintro e w9 ⟨rfl, rfl⟩)
    go_ret
    exact RgE.no (fun r => inB_no qF (r.fr (by simp [uF])).1 (r.fr (by simp [uF])).2) HB.out
  | true =>
    cases qI : inB inc 0 2147483647 with
    | false =>
      go_wp2_with (go_at_call 25; refine (refIn _ _ _ _).mono ?_; rintro e w9 ⟨rfl, rfl⟩)
      go_ret
      exact RgE.no (fun r => inB_no qI r.inc.1 r.inc.2) HB.out
    | true =>
      have HR : Hid (Rgt ⟨1, fr, inc, 0, 0, 0, 0, d⟩) := ⟨by show (1 : Int) ≤ 1; decide, by show (1 : Int) ≤ 8; decide, fun q => absurd q (by simp [uF]), fun q => absurd q (by simp [uI]), fun _ => rfl, fun _ => rfl, fun _ => rfl, fun _ => rfl, fun _ => List.eq_nil_of_length_eq_zero HD.out, fun _ => inB_of qF, inB_of qI, (show (0 : Int) ≤ 0 ∧ (0 : Int) ≤ 256 by omega), (show (0 : Int) ≤ 0 ∧ (0 : Int) ≤ 1023 by omega), fun q => by simp [uH] at q, fun q => by simp [uS] at q, by show d.length ≤ 32768; rw [HD.out]; omega⟩
      go_wp2_with (go_at_call 25; refine (refIn _ _ _ _).mono ?_; rintro e w9 ⟨rfl, rfl⟩)
      go_ret
      exact RgE.yes HR.out HB.out
set_option maxRecDepth 100000 in
set_option maxHeartbeats 4000000 in
theorem refRight2 (fr inc rd h pt ps : Int) (d : List Nat) (ad : Option Addr) (n cap : Nat) (hn : d.length = n) (hn2 : n ≤ 9223372036854775807) (w : World) :
    Calls Tryd.prog 10 #[msV ⟨2, fr, inc, rd, h, pt, ps, d⟩ (.slice ad n cap)] w fun e w' => RgE ⟨2, fr, inc, rd, h, pt, ps, d⟩ w e w' := by
  have HD : Hid (d.length = n) := hn
  have HK : Hid (∀ W, Calls Tryd.prog 24 #[.agg #[.int .i64 2, .int .i64 fr, .int .i64 inc, .int .i64 rd, .int .i64 h, .int .i64 pt, .int .i64 ps, .slice ad n cap]] W fun e w' => e = .returned (.tuple #[.agg #[.int .i64 2, .int .i64 0, .int .i64 0, .int .i64 rd, .int .i64 h, .int .i64 0, .int .i64 ps, .slice none 0 0], .bool true]) ∧ Below W.heap.size W w') := fun W => refKept2 ⟨2, fr, inc, rd, h, pt, ps, d⟩ ad n cap rfl W
  obtain ⟨wA, hwA⟩ : ∃ wA, wA = w.alloc (.cells #[.int .i64 2, .int .i64 fr, .int .i64 inc, .int .i64 rd, .int .i64 h, .int .i64 pt, .int .i64 ps, .slice ad n cap] 26) := ⟨_, rfl⟩
  have HA : Hid (B8 w.heap.size ⟨2, fr, inc, rd, h, pt, ps, d⟩ (.slice ad n cap) wA ∧ Below w.heap.size w wA) := by rw [hwA]; exact ⟨B8.new _ _ _ _, bel1 _ _⟩
  clear hn
  show Calls Tryd.prog 10 #[.agg #[.int .i64 2, .int .i64 fr, .int .i64 inc, .int .i64 rd, .int .i64 h, .int .i64 pt, .int .i64 ps, .slice ad n cap]] w _
  go_enter Tryd.func10, Tryd.ntmps10
  go_upto_region 1 with fail
  rw [← hwA]
  clear hwA
  have x0 := HA.out.1.c0
  have x1 := HA.out.1.c1
  have x2 := HA.out.1.c2
  have x3 := HA.out.1.c3
  have x4 := HA.out.1.c4
  have x5 := HA.out.1.c5
  have x6 := HA.out.1.c6
  have x7 := HA.out.1.c7
  dsimp only at x0 x1 x2 x3 x4 x5 x6 x7
  go_wp2_with fail
  refine (HK.out wA).mono ?_
  rintro e w1 ⟨rfl, hb1⟩
  obtain ⟨w2, hw2⟩ : ∃ w2, w2 = w1.alloc (.cells #[.int .i64 2, .int .i64 0, .int .i64 0, .int .i64 rd, .int .i64 h, .int .i64 0, .int .i64 ps, .slice none 0 0] 26) := ⟨_, rfl⟩
  have hb2 : Below wA.heap.size wA w2 := by rw [hw2]; exact bchain hb1 (bel1 _ _)
  have HB : Hid (Below w.heap.size w w2) := bchain HA.out.2 hb2
  have y0 := cell_later hb2 x0
  have y1 := cell_later hb2 x1
  have y2 := cell_later hb2 x2
  have y3 := cell_later hb2 x3
  have y4 := cell_later hb2 x4
  have y5 := cell_later hb2 x5
  have y6 := cell_later hb2 x6
  have y7 := cell_later hb2 x7
  have z1 : w2.cell? ⟨w1.heap.size, 1, none⟩ = some (.int .i64 0) := by rw [hw2]; simp [go_sem]
  have z2 : w2.cell? ⟨w1.heap.size, 2, none⟩ = some (.int .i64 0) := by rw [hw2]; simp [go_sem]
  have z3 : w2.cell? ⟨w1.heap.size, 3, none⟩ = some (.int .i64 rd) := by rw [hw2]; simp [go_sem]
  have z4 : w2.cell? ⟨w1.heap.size, 4, none⟩ = some (.int .i64 h) := by rw [hw2]; simp [go_sem]
  have z5 : w2.cell? ⟨w1.heap.size, 5, none⟩ = some (.int .i64 0) := by rw [hw2]; simp [go_sem]
  have z6 : w2.cell? ⟨w1.heap.size, 6, none⟩ = some (.int .i64 ps) := by rw [hw2]; simp [go_sem]
  have z7 : w2.cell? ⟨w1.heap.size, 7, none⟩ = some (.slice none 0 0) := by rw [hw2]; simp [go_sem]
  clear hb1 hb2 x0 x1 x2 x3 x4 x5 x6 x7 HA HK
  go_upto_region 2 with fail
  rw [← hw2]
  clear hw2
  generalize w1.heap.size = bk at *
  generalize w.heap.size = bm at y0 y1 y2 y3 y4 y5 y6 y7 ⊢
  by_cases hZ : fr = 0 ∧ inc = 0 ∧ pt = 0 ∧ n = 0
  rotate_left
  · have hN : ¬ Rgt ⟨2, fr, inc, rd, h, pt, ps, d⟩ := fun r => hZ ⟨r.nF (by simp [uF]), r.nI (by simp [uI]), r.nP (by simp [uP]), (by have h1 := r.nD (by simp [uD]); have h2 := HD.out; dsimp only at h1; rw [h1] at h2; exact h2.symm)⟩
    have HNR : Hid (¬ Rgt ⟨2, fr, inc, rd, h, pt, ps, d⟩) := hN
    clear hN
    go_upto_if 64 with fail
    all_goals first | (exfalso; simp at *; omega) | (exfalso; omega) | (go_wp2; go_ret; exact RgE.no HNR.out HB.out)
  obtain ⟨rfl, rfl, rfl, rfl⟩ := hZ
  have qI : inB 0 0 2147483647 = true := rfl
  have qP : inB 0 0 1023 = true := rfl
  cases qR : inB rd 0 256 with
  | false =>
    go_wp2_with (go_at_call 25; refine (refIn _ _ _ _).mono ?_; rintro e w9 ⟨rfl, rfl⟩)
    go_ret
    exact RgE.no (fun r => inB_no qR r.rd.1 r.rd.2) HB.out
  | true =>
    cases qH : inB h 1 64 with
    | false =>
      go_wp2_with (go_at_call 25; refine (refIn _ _ _ _).mono ?_; rintro e w9 ⟨rfl, rfl⟩)
      go_ret
      exact RgE.no (fun r => inB_no qH (r.h (by simp [uH])).1 (r.h (by simp [uH])).2) HB.out
    | true =>
      cases qS : inB ps 1 1024 with
      | false =>
        go_wp2_with (go_at_call 25; refine (refIn _ _ _ _).mono ?_; rintro e w9 ⟨rfl, rfl⟩)
        go_ret
        exact RgE.no (fun r => inB_no qS (r.ps (by simp [uS])).1 (r.ps (by simp [uS])).2.1) HB.out
      | true =>
        by_cases qL : 0 < ps
        rotate_left
        · have qLI : ps ≤ 0 := by omega
          go_wp2_with (go_at_call 25; refine (refIn _ _ _ _).mono ?_; rintro e w9 ⟨rfl, rfl⟩)
          go_ret
          exact RgE.no (fun r : Rgt ⟨2, 0, 0, rd, h, 0, ps, d⟩ => by have h1 := (r.ps (by simp [uS])).2.2; dsimp only at h1; omega) HB.out
        have qLI : ¬ ps ≤ 0 := by omega
        have HR : Hid (Rgt ⟨2, 0, 0, rd, h, 0, ps, d⟩) := ⟨by show (1 : Int) ≤ 2; decide, by show (2 : Int) ≤ 8; decide, fun _ => rfl, fun _ => rfl, fun q => absurd q (by simp [uR]), fun q => absurd q (by simp [uH]), fun _ => rfl, fun q => absurd q (by simp [uS]), fun _ => List.eq_nil_of_length_eq_zero HD.out, fun q => by simp [uF] at q, (show (0 : Int) ≤ 0 ∧ (0 : Int) ≤ 2147483647 by omega), inB_of qR, (show (0 : Int) ≤ 0 ∧ (0 : Int) ≤ 1023 by omega), fun _ => inB_of qH, fun _ => ⟨(inB_of qS).1, (inB_of qS).2, qL⟩, by show d.length ≤ 32768; rw [HD.out]; omega⟩
        go_wp2_with (go_at_call 25; refine (refIn _ _ _ _).mono ?_; rintro e w9 ⟨rfl, rfl⟩)
        go_ret
        exact RgE.yes HR.out HB.out
end Go.Proofs.YtfcbgkcclganmaaDoor
set_option linter.unusedVariables false
set_option linter.unusedSimpArgs false
namespace Go.Proofs.YtfcbgkcclganmaaDoor
open Go.RowKit

set_option maxRecDepth 100000 in
set_option maxHeartbeats 4000000 in
theorem refRight3 (fr inc rd h pt ps : Int) (d : List Nat) (ad : Option Addr) (n cap : Nat) (hn : d.length = n) (hn2 : n ≤ 9223372036854775807) (w : World) :
    Calls Tryd.prog 10 #[msV ⟨3, fr, inc, rd, h, pt, ps, d⟩ (.slice ad n cap)] w fun e w' => RgE ⟨3, fr, inc, rd, h, pt, ps, d⟩ w e w' := by
  have HD : Hid (d.length = n) := hn
  have HK : Hid (∀ W, Calls Tryd.prog 24 #[.agg #[.int .i64 3, .int .i64 fr, .int .i64 inc, .int .i64 rd, .int .i64 h, .int .i64 pt, .int .i64 ps, .slice ad n cap]] W fun e w' => e = .returned (.tuple #[.agg #[.int .i64 3, .int .i64 fr, .int .i64 inc, .int .i64 rd, .int .i64 0, .int .i64 pt, .int .i64 0, .slice none 0 0], .bool true]) ∧ Below W.heap.size W w') := fun W => refKept3 ⟨3, fr, inc, rd, h, pt, ps, d⟩ ad n cap rfl W
  obtain ⟨wA, hwA⟩ : ∃ wA, wA = w.alloc (.cells #[.int .i64 3, .int .i64 fr, .int .i64 inc, .int .i64 rd, .int .i64 h, .int .i64 pt, .int .i64 ps, .slice ad n cap] 26) := ⟨_, rfl⟩
  have HA : Hid (B8 w.heap.size ⟨3, fr, inc, rd, h, pt, ps, d⟩ (.slice ad n cap) wA ∧ Below w.heap.size w wA) := by rw [hwA]; exact ⟨B8.new _ _ _ _, bel1 _ _⟩
  clear hn
  show Calls Tryd.prog 10 #[.agg #[.int .i64 3, .int .i64 fr, .int .i64 inc, .int .i64 rd, .int .i64 h, .int .i64 pt, .int .i64 ps, .slice ad n cap]] w _
  go_enter Tryd.func10, Tryd.ntmps10
  go_upto_region 1 with fail
  rw [← hwA]
  clear hwA
  have x0 := HA.out.1.c0
  have x1 := HA.out.1.c1
  have x2 := HA.out.1.c2
  have x3 := HA.out.1.c3
  have x4 := HA.out.1.c4
  have x5 := HA.out.1.c5
  have x6 := HA.out.1.c6
  have x7 := HA.out.1.c7
  dsimp only at x0 x1 x2 x3 x4 x5 x6 x7
  go_wp2_with fail
  refine (HK.out wA).mono ?_
  rintro e w1 ⟨rfl, hb1⟩
  obtain ⟨w2, hw2⟩ : ∃ w2, w2 = w1.alloc (.cells #[.int .i64 3, .int .i64 fr, .int .i64 inc, .int .i64 rd, .int .i64 0, .int .i64 pt, .int .i64 0, .slice none 0 0] 26) := ⟨_, rfl⟩
  have hb2 : Below wA.heap.size wA w2 := by rw [hw2]; exact bchain hb1 (bel1 _ _)
  have HB : Hid (Below w.heap.size w w2) := bchain HA.out.2 hb2
  have y0 := cell_later hb2 x0
  have y1 := cell_later hb2 x1
  have y2 := cell_later hb2 x2
  have y3 := cell_later hb2 x3
  have y4 := cell_later hb2 x4
  have y5 := cell_later hb2 x5
  have y6 := cell_later hb2 x6
  have y7 := cell_later hb2 x7
  have z1 : w2.cell? ⟨w1.heap.size, 1, none⟩ = some (.int .i64 fr) := by rw [hw2]; simp [go_sem]
  have z2 : w2.cell? ⟨w1.heap.size, 2, none⟩ = some (.int .i64 inc) := by rw [hw2]; simp [go_sem]
  have z3 : w2.cell? ⟨w1.heap.size, 3, none⟩ = some (.int .i64 rd) := by rw [hw2]; simp [go_sem]
  have z4 : w2.cell? ⟨w1.heap.size, 4, none⟩ = some (.int .i64 0) := by rw [hw2]; simp [go_sem]
  have z5 : w2.cell? ⟨w1.heap.size, 5, none⟩ = some (.int .i64 pt) := by rw [hw2]; simp [go_sem]
  have z6 : w2.cell? ⟨w1.heap.size, 6, none⟩ = some (.int .i64 0) := by rw [hw2]; simp [go_sem]
  have z7 : w2.cell? ⟨w1.heap.size, 7, none⟩ = some (.slice none 0 0) := by rw [hw2]; simp [go_sem]
  clear hb1 hb2 x0 x1 x2 x3 x4 x5 x6 x7 HA HK
  go_upto_region 2 with fail
  rw [← hw2]
  clear hw2
  generalize w1.heap.size = bk at *
  generalize w.heap.size = bm at y0 y1 y2 y3 y4 y5 y6 y7 ⊢
  by_cases hZ : h = 0 ∧ ps = 0 ∧ n = 0
  rotate_left
  · have hN : ¬ Rgt ⟨3, fr, inc, rd, h, pt, ps, d⟩ := fun r => hZ ⟨r.nH (by simp [uH]), r.nS (by simp [uS]), (by have h1 := r.nD (by simp [uD]); have h2 := HD.out; dsimp only at h1; rw [h1] at h2; exact h2.symm)⟩
    have HNR : Hid (¬ Rgt ⟨3, fr, inc, rd, h, pt, ps, d⟩) := hN
    clear hN
    go_upto_if 64 with fail
    all_goals first | (exfalso; simp at *; omega) | (exfalso; omega) | (go_wp2; go_ret; exact RgE.no HNR.out HB.out)
  obtain ⟨rfl, rfl, rfl⟩ := hZ
  cases qF : inB fr 1 64 with
  | false =>
    go_wp2_with (go_at_call 25; refine (refIn _ _ _ _).mono ?_; rintro e w9 ⟨rfl, rfl⟩)
    go_ret
    exact RgE.no (fun r => inB_no qF (r.fr (by simp [uF])).1 (r.fr (by simp [uF])).2) HB.out
  | true =>
    cases qI : inB inc 0 2147483647 with
    | false =>
      go_wp2_with (go_at_call 25; refine (refIn _ _ _ _).mono ?_; rintro e w9 ⟨rfl, rfl⟩)
      go_ret
      exact RgE.no (fun r => inB_no qI r.inc.1 r.inc.2) HB.out
    | true =>
      cases qR : inB rd 0 256 with
      | false =>
        go_wp2_with (go_at_call 25; refine (refIn _ _ _ _).mono ?_; rintro e w9 ⟨rfl, rfl⟩)
        go_ret
        exact RgE.no (fun r => inB_no qR r.rd.1 r.rd.2) HB.out
      | true =>
        cases qP : inB pt 0 1023 with
        | false =>
          go_wp2_with (go_at_call 25; refine (refIn _ _ _ _).mono ?_; rintro e w9 ⟨rfl, rfl⟩)
          go_ret
          exact RgE.no (fun r => inB_no qP r.pt.1 r.pt.2) HB.out
        | true =>
          have HR : Hid (Rgt ⟨3, fr, inc, rd, 0, pt, 0, d⟩) := ⟨by show (1 : Int) ≤ 3; decide, by show (3 : Int) ≤ 8; decide, fun q => absurd q (by simp [uF]), fun q => absurd q (by simp [uI]), fun q => absurd q (by simp [uR]), fun _ => rfl, fun q => absurd q (by simp [uP]), fun _ => rfl, fun _ => List.eq_nil_of_length_eq_zero HD.out, fun _ => inB_of qF, inB_of qI, inB_of qR, inB_of qP, fun q => by simp [uH] at q, fun q => by simp [uS] at q, by show d.length ≤ 32768; rw [HD.out]; omega⟩
          go_wp2_with (go_at_call 25; refine (refIn _ _ _ _).mono ?_; rintro e w9 ⟨rfl, rfl⟩)
          go_ret
          exact RgE.yes HR.out HB.out
set_option maxRecDepth 100000 in
set_option maxHeartbeats 4000000 in
theorem refRight6 (fr inc rd h pt ps : Int) (d : List Nat) (ad : Option Addr) (n cap : Nat) (hn : d.length = n) (hn2 : n ≤ 9223372036854775807) (w : World) :
    Calls Tryd.prog 10 #[msV ⟨6, fr, inc, rd, h, pt, ps, d⟩ (.slice ad n cap)] w fun e w' => RgE ⟨6, fr, inc, rd, h, pt, ps, d⟩ w e w' := by
  have HD : Hid (d.length = n) := hn
  have HK : Hid (∀ W, Calls Tryd.prog 24 #[.agg #[.int .i64 6, .int .i64 fr, .int .i64 inc, .int .i64 rd, .int .i64 h, .int .i64 pt, .int .i64 ps, .slice ad n cap]] W fun e w' => e = .returned (.tuple #[.agg #[.int .i64 6, .int .i64 0, .int .i64 inc, .int .i64 rd, .int .i64 0, .int .i64 pt, .int .i64 0, .slice none 0 0], .bool true]) ∧ Below W.heap.size W w') := fun W => refKept6 ⟨6, fr, inc, rd, h, pt, ps, d⟩ ad n cap rfl W
  obtain ⟨wA, hwA⟩ : ∃ wA, wA = w.alloc (.cells #[.int .i64 6, .int .i64 fr, .int .i64 inc, .int .i64 rd, .int .i64 h, .int .i64 pt, .int .i64 ps, .slice ad n cap] 26) := ⟨_, rfl⟩
  have HA : Hid (B8 w.heap.size ⟨6, fr, inc, rd, h, pt, ps, d⟩ (.slice ad n cap) wA ∧ Below w.heap.size w wA) := by rw [hwA]; exact ⟨B8.new _ _ _ _, bel1 _ _⟩
  clear hn
  show Calls Tryd.prog 10 #[.agg #[.int .i64 6, .int .i64 fr, .int .i64 inc, .int .i64 rd, .int .i64 h, .int .i64 pt, .int .i64 ps, .slice ad n cap]] w _
  go_enter Tryd.func10, Tryd.ntmps10
  go_upto_region 1 with fail
  rw [← hwA]
  clear hwA
  have x0 := HA.out.1.c0
  have x1 := HA.out.1.c1
  have x2 := HA.out.1.c2
  have x3 := HA.out.1.c3
  have x4 := HA.out.1.c4
  have x5 := HA.out.1.c5
  have x6 := HA.out.1.c6
  have x7 := HA.out.1.c7
  dsimp only at x0 x1 x2 x3 x4 x5 x6 x7
  go_wp2_with fail
  refine (HK.out wA).mono ?_
  rintro e w1 ⟨rfl, hb1⟩
  obtain ⟨w2, hw2⟩ : ∃ w2, w2 = w1.alloc (.cells #[.int .i64 6, .int .i64 0, .int .i64 inc, .int .i64 rd, .int .i64 0, .int .i64 pt, .int .i64 0, .slice none 0 0] 26) := ⟨_, rfl⟩
  have hb2 : Below wA.heap.size wA w2 := by rw [hw2]; exact bchain hb1 (bel1 _ _)
  have HB : Hid (Below w.heap.size w w2) := bchain HA.out.2 hb2
  have y0 := cell_later hb2 x0
  have y1 := cell_later hb2 x1
  have y2 := cell_later hb2 x2
  have y3 := cell_later hb2 x3
  have y4 := cell_later hb2 x4
  have y5 := cell_later hb2 x5
  have y6 := cell_later hb2 x6
  have y7 := cell_later hb2 x7
  have z1 : w2.cell? ⟨w1.heap.size, 1, none⟩ = some (.int .i64 0) := by rw [hw2]; simp [go_sem]
  have z2 : w2.cell? ⟨w1.heap.size, 2, none⟩ = some (.int .i64 inc) := by rw [hw2]; simp [go_sem]
  have z3 : w2.cell? ⟨w1.heap.size, 3, none⟩ = some (.int .i64 rd) := by rw [hw2]; simp [go_sem]
  have z4 : w2.cell? ⟨w1.heap.size, 4, none⟩ = some (.int .i64 0) := by rw [hw2]; simp [go_sem]
  have z5 : w2.cell? ⟨w1.heap.size, 5, none⟩ = some (.int .i64 pt) := by rw [hw2]; simp [go_sem]
  have z6 : w2.cell? ⟨w1.heap.size, 6, none⟩ = some (.int .i64 0) := by rw [hw2]; simp [go_sem]
  have z7 : w2.cell? ⟨w1.heap.size, 7, none⟩ = some (.slice none 0 0) := by rw [hw2]; simp [go_sem]
  clear hb1 hb2 x0 x1 x2 x3 x4 x5 x6 x7 HA HK
  go_upto_region 2 with fail
  rw [← hw2]
  clear hw2
  generalize w1.heap.size = bk at *
  generalize w.heap.size = bm at y0 y1 y2 y3 y4 y5 y6 y7 ⊢
  by_cases hZ : fr = 0 ∧ h = 0 ∧ ps = 0 ∧ n = 0
  rotate_left
  · have hN : ¬ Rgt ⟨6, fr, inc, rd, h, pt, ps, d⟩ := fun r => hZ ⟨r.nF (by simp [uF]), r.nH (by simp [uH]), r.nS (by simp [uS]), (by have h1 := r.nD (by simp [uD]); have h2 := HD.out; dsimp only at h1; rw [h1] at h2; exact h2.symm)⟩
    have HNR : Hid (¬ Rgt ⟨6, fr, inc, rd, h, pt, ps, d⟩) := hN
    clear hN
    go_upto_if 64 with fail
    all_goals first | (exfalso; simp at *; omega) | (exfalso; omega) | (go_wp2; go_ret; exact RgE.no HNR.out HB.out)
  obtain ⟨rfl, rfl, rfl, rfl⟩ := hZ
  cases qI : inB inc 0 2147483647 with
  | false =>
    go_wp2_with (go_at_call 25; refine (refIn _ _ _ _).mono ?_; rintro e w9 ⟨rfl, rfl⟩)
    go_ret
    exact RgE.no (fun r => inB_no qI r.inc.1 r.inc.2) HB.out
  | true =>
    cases qR : inB rd 0 256 with
    | false =>
      go_wp2_with (go_at_call 25; refine (refIn _ _ _ _).mono ?_; rintro e w9 ⟨rfl, rfl⟩)
      go_ret
      exact RgE.no (fun r => inB_no qR r.rd.1 r.rd.2) HB.out
    | true =>
      cases qP : inB pt 0 1023 with
      | false =>
        go_wp2_with (go_at_call 25; refine (refIn _ _ _ _).mono ?_; rintro e w9 ⟨rfl, rfl⟩)
        go_ret
        exact RgE.no (fun r => inB_no qP r.pt.1 r.pt.2) HB.out
      | true =>
        have HR : Hid (Rgt ⟨6, 0, inc, rd, 0, pt, 0, d⟩) := ⟨by show (1 : Int) ≤ 6; decide, by show (6 : Int) ≤ 8; decide, fun _ => rfl, fun q => absurd q (by simp [uI]), fun q => absurd q (by simp [uR]), fun _ => rfl, fun q => absurd q (by simp [uP]), fun _ => rfl, fun _ => List.eq_nil_of_length_eq_zero HD.out, fun q => by simp [uF] at q, inB_of qI, inB_of qR, inB_of qP, fun q => by simp [uH] at q, fun q => by simp [uS] at q, by show d.length ≤ 32768; rw [HD.out]; omega⟩
        go_wp2_with (go_at_call 25; refine (refIn _ _ _ _).mono ?_; rintro e w9 ⟨rfl, rfl⟩)
        go_ret
        exact RgE.yes HR.out HB.out
end Go.Proofs.YtfcbgkcclganmaaDoor
set_option linter.unusedVariables false
set_option linter.unusedSimpArgs false
namespace Go.Proofs.YtfcbgkcclganmaaDoor
open Go.RowKit

set_option maxRecDepth 100000 in
set_option maxHeartbeats 4000000 in
theorem refRight4 (fr inc rd h pt ps : Int) (d : List Nat) (ad : Option Addr) (n cap : Nat) (hn : d.length = n) (hn2 : n ≤ 9223372036854775807) (w : World) :
    Calls Tryd.prog 10 #[msV ⟨4, fr, inc, rd, h, pt, ps, d⟩ (.slice ad n cap)] w fun e w' => RgE ⟨4, fr, inc, rd, h, pt, ps, d⟩ w e w' := by
  have HD : Hid (d.length = n) := hn
  have HK : Hid (∀ W, Calls Tryd.prog 24 #[.agg #[.int .i64 4, .int .i64 fr, .int .i64 inc, .int .i64 rd, .int .i64 h, .int .i64 pt, .int .i64 ps, .slice ad n cap]] W fun e w' => e = .returned (.tuple #[.agg #[.int .i64 4, .int .i64 0, .int .i64 0, .int .i64 rd, .int .i64 0, .int .i64 pt, .int .i64 ps, .slice ad n cap], .bool true]) ∧ Below W.heap.size W w') := fun W => refKept4 ⟨4, fr, inc, rd, h, pt, ps, d⟩ ad n cap rfl W
  obtain ⟨wA, hwA⟩ : ∃ wA, wA = w.alloc (.cells #[.int .i64 4, .int .i64 fr, .int .i64 inc, .int .i64 rd, .int .i64 h, .int .i64 pt, .int .i64 ps, .slice ad n cap] 26) := ⟨_, rfl⟩
  have HA : Hid (B8 w.heap.size ⟨4, fr, inc, rd, h, pt, ps, d⟩ (.slice ad n cap) wA ∧ Below w.heap.size w wA) := by rw [hwA]; exact ⟨B8.new _ _ _ _, bel1 _ _⟩
  clear hn
  show Calls Tryd.prog 10 #[.agg #[.int .i64 4, .int .i64 fr, .int .i64 inc, .int .i64 rd, .int .i64 h, .int .i64 pt, .int .i64 ps, .slice ad n cap]] w _
  go_enter Tryd.func10, Tryd.ntmps10
  go_upto_region 1 with fail
  rw [← hwA]
  clear hwA
  have x0 := HA.out.1.c0
  have x1 := HA.out.1.c1
  have x2 := HA.out.1.c2
  have x3 := HA.out.1.c3
  have x4 := HA.out.1.c4
  have x5 := HA.out.1.c5
  have x6 := HA.out.1.c6
  have x7 := HA.out.1.c7
  dsimp only at x0 x1 x2 x3 x4 x5 x6 x7
  go_wp2_with fail
  refine (HK.out wA).mono ?_
  rintro e w1 ⟨rfl, hb1⟩
  obtain ⟨w2, hw2⟩ : ∃ w2, w2 = w1.alloc (.cells #[.int .i64 4, .int .i64 0, .int .i64 0, .int .i64 rd, .int .i64 0, .int .i64 pt, .int .i64 ps, .slice ad n cap] 26) := ⟨_, rfl⟩
  have hb2 : Below wA.heap.size wA w2 := by rw [hw2]; exact bchain hb1 (bel1 _ _)
  have HB : Hid (Below w.heap.size w w2) := bchain HA.out.2 hb2
  have y0 := cell_later hb2 x0
  have y1 := cell_later hb2 x1
  have y2 := cell_later hb2 x2
  have y3 := cell_later hb2 x3
  have y4 := cell_later hb2 x4
  have y5 := cell_later hb2 x5
  have y6 := cell_later hb2 x6
  have y7 := cell_later hb2 x7
  have z1 : w2.cell? ⟨w1.heap.size, 1, none⟩ = some (.int .i64 0) := by rw [hw2]; simp [go_sem]
  have z2 : w2.cell? ⟨w1.heap.size, 2, none⟩ = some (.int .i64 0) := by rw [hw2]; simp [go_sem]
  have z3 : w2.cell? ⟨w1.heap.size, 3, none⟩ = some (.int .i64 rd) := by rw [hw2]; simp [go_sem]
  have z4 : w2.cell? ⟨w1.heap.size, 4, none⟩ = some (.int .i64 0) := by rw [hw2]; simp [go_sem]
  have z5 : w2.cell? ⟨w1.heap.size, 5, none⟩ = some (.int .i64 pt) := by rw [hw2]; simp [go_sem]
  have z6 : w2.cell? ⟨w1.heap.size, 6, none⟩ = some (.int .i64 ps) := by rw [hw2]; simp [go_sem]
  have z7 : w2.cell? ⟨w1.heap.size, 7, none⟩ = some (.slice ad n cap) := by rw [hw2]; simp [go_sem]
  clear hb1 hb2 x0 x1 x2 x3 x4 x5 x6 x7 HA HK
  go_upto_region 2 with fail
  rw [← hw2]
  clear hw2
  generalize w1.heap.size = bk at *
  generalize w.heap.size = bm at y0 y1 y2 y3 y4 y5 y6 y7 ⊢
  by_cases hZ : fr = 0 ∧ inc = 0 ∧ h = 0
  rotate_left
  · have hN : ¬ Rgt ⟨4, fr, inc, rd, h, pt, ps, d⟩ := fun r => hZ ⟨r.nF (by simp [uF]), r.nI (by simp [uI]), r.nH (by simp [uH])⟩
    have HNR : Hid (¬ Rgt ⟨4, fr, inc, rd, h, pt, ps, d⟩) := hN
    clear hN
    go_upto_if 64 with fail
    all_goals first | (exfalso; simp at *; omega) | (exfalso; omega) | (go_wp2; go_ret; exact RgE.no HNR.out HB.out)
  obtain ⟨rfl, rfl, rfl⟩ := hZ
  have qI : inB 0 0 2147483647 = true := rfl
  cases qR : inB rd 0 256 with
  | false =>
    go_wp2_with (go_at_call 25; refine (refIn _ _ _ _).mono ?_; rintro e w9 ⟨rfl, rfl⟩)
    go_ret
    exact RgE.no (fun r => inB_no qR r.rd.1 r.rd.2) HB.out
  | true =>
    cases qP : inB pt 0 1023 with
    | false =>
      go_wp2_with (go_at_call 25; refine (refIn _ _ _ _).mono ?_; rintro e w9 ⟨rfl, rfl⟩)
      go_ret
      exact RgE.no (fun r => inB_no qP r.pt.1 r.pt.2) HB.out
    | true =>
      cases qS : inB ps 1 1024 with
      | false =>
        go_wp2_with (go_at_call 25; refine (refIn _ _ _ _).mono ?_; rintro e w9 ⟨rfl, rfl⟩)
        go_ret
        exact RgE.no (fun r => inB_no qS (r.ps (by simp [uS])).1 (r.ps (by simp [uS])).2.1) HB.out
      | true =>
        by_cases qL : pt < ps
        rotate_left
        · have qLI : ps ≤ pt := by omega
          go_wp2_with (go_at_call 25; refine (refIn _ _ _ _).mono ?_; rintro e w9 ⟨rfl, rfl⟩)
          go_ret
          exact RgE.no (fun r : Rgt ⟨4, 0, 0, rd, 0, pt, ps, d⟩ => by have h1 := (r.ps (by simp [uS])).2.2; dsimp only at h1; omega) HB.out
        have qLI : ¬ ps ≤ pt := by omega
        by_cases qD : n ≤ 32768
        rotate_left
        · have qDI : ¬ (n : Int) ≤ 32768 := by omega
          have qDB : decide ((n : Int) ≤ 32768) = false := by simp; omega
          have qDC : decide (n ≤ 32768) = false := by simp; omega
          go_wp2_with (go_at_call 25; refine (refIn _ _ _ _).mono ?_; rintro e w9 ⟨rfl, rfl⟩)
          go_ret
          exact RgE.no (fun r : Rgt ⟨4, 0, 0, rd, 0, pt, ps, d⟩ => by have h1 := r.d; have h2 := HD.out; dsimp only at h1; omega) HB.out
        have qDI : (n : Int) ≤ 32768 := by omega
        have qDB : decide ((n : Int) ≤ 32768) = true := by simp; omega
        have qDC : decide (n ≤ 32768) = true := by simp; omega
        have HR : Hid (Rgt ⟨4, 0, 0, rd, 0, pt, ps, d⟩) := ⟨by show (1 : Int) ≤ 4; decide, by show (4 : Int) ≤ 8; decide, fun _ => rfl, fun _ => rfl, fun q => absurd q (by simp [uR]), fun _ => rfl, fun q => absurd q (by simp [uP]), fun q => absurd q (by simp [uS]), fun q => absurd q (by simp [uD]), fun q => by simp [uF] at q, (show (0 : Int) ≤ 0 ∧ (0 : Int) ≤ 2147483647 by omega), inB_of qR, inB_of qP, fun q => by simp [uH] at q, fun _ => ⟨(inB_of qS).1, (inB_of qS).2, qL⟩, by show d.length ≤ 32768; rw [HD.out]; exact qD⟩
        go_wp2_with (go_at_call 25; refine (refIn _ _ _ _).mono ?_; rintro e w9 ⟨rfl, rfl⟩)
        go_ret
        exact RgE.yes HR.out HB.out
end Go.Proofs.YtfcbgkcclganmaaDoor
