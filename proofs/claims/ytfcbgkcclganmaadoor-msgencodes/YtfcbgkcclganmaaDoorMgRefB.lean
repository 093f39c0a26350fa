/-
  The document's messages (regattaref14): in.
-/
import Derived.Test.YtfcbgkcclganmaaDoorMgDefs
set_option linter.unusedVariables false
set_option linter.unusedSimpArgs false
namespace Go.Proofs.YtfcbgkcclganmaaDoor
open Go.RowKit

/-- Between two ends. -/
def inB (n lo hi : Int) : Bool := decide (lo ≤ n) && decide (n ≤ hi)
theorem inB_yes {n lo hi : Int} (h1 : lo ≤ n) (h2 : n ≤ hi) : inB n lo hi = true := by simp [inB, h1, h2]
theorem inB_of {n lo hi : Int} (h : inB n lo hi = true) : lo ≤ n ∧ n ≤ hi := by simpa [inB] using h
theorem inB_no {n lo hi : Int} (h : inB n lo hi = false) (h1 : lo ≤ n) (h2 : n ≤ hi) : False := by rw [inB_yes h1 h2] at h; cases h
set_option maxRecDepth 100000 in
set_option maxHeartbeats 1000000 in
theorem refIn (n lo hi : Int) (w : World) : Calls Tryd.prog 25 #[.int .i64 n, .int .i64 lo, .int .i64 hi] w fun e w' => e = .returned (.bool (inB n lo hi)) ∧ w' = w := by
  by_cases h1 : lo ≤ n
  · by_cases h2 : n ≤ hi
    · have HB : Hid (inB n lo hi = true) := inB_yes h1 h2
      go_enter Tryd.func25, Tryd.ntmps25
      go_wp2
      go_ret
      exact ⟨by rw [HB.out]; rfl, rfl⟩
    · have HB : Hid (inB n lo hi = false) := by show _ = _; simp [inB, h2]
      have h3 : hi < n := by omega
      go_enter Tryd.func25, Tryd.ntmps25
      go_wp2
      go_ret
      exact ⟨by rw [HB.out]; rfl, rfl⟩
  · have HB : Hid (inB n lo hi = false) := by show _ = _; simp [inB, h1]
    have h3 : n < lo := by omega
    go_enter Tryd.func25, Tryd.ntmps25
    go_wp2
    go_ret
    exact ⟨by rw [HB.out]; rfl, rfl⟩
/-- What Right answers of a message. -/
def RgE (m : Ms) (w : World) (e : Ending) (w' : World) : Prop := ∃ B : Bool, e = .returned (.bool B) ∧ (B = true ↔ Rgt m) ∧ Below w.heap.size w w'
theorem RgE.no {m : Ms} {w w' : World} (h : ¬ Rgt m) (hb : Below w.heap.size w w') : RgE m w (.returned (.bool false)) w' := ⟨false, rfl, ⟨(fun q => by cases q), fun q => absurd q h⟩, hb⟩
theorem RgE.yes {m : Ms} {w w' : World} (h : Rgt m) (hb : Below w.heap.size w w') : RgE m w (.returned (.bool true)) w' := ⟨true, rfl, ⟨fun _ => h, fun _ => rfl⟩, hb⟩
end Go.Proofs.YtfcbgkcclganmaaDoor
