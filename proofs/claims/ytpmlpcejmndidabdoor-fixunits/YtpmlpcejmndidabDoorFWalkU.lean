/-
  The contracts of fix's Unit: Take, Clear, Count.
-/
import Derived.Test.YtpmlpcejmndidabDoorTools
set_option linter.unusedVariables false
set_option linter.unusedSimpArgs false
namespace Go.Proofs.YtpmlpcejmndidabDoor
open Go.RowKit

/-- From a world to one in which a unit's count is n, and whatever lay elsewhere is as it was. -/
structure Un (d : Nat) (n : Int) (w w' : World) : Prop where
  c : w'.cell? ⟨d, 0, none⟩ = some (.int .i64 n)
  f : w'.frozen? ⟨d, 0, none⟩ = false
  b : ∀ (base : Nat) (w0 : World), base ≤ d → base ≤ w.heap.size → Below base w0 w → Below base w0 w'
  o : ∀ (a : Addr) (v : Value), a.block ≠ d → w.cell? a = some v → w'.cell? a = some v
  s : w.heap.size ≤ w'.heap.size
theorem Un.same {d : Nat} {n : Int} {w : World} (c : w.cell? ⟨d, 0, none⟩ = some (.int .i64 n)) (f : w.frozen? ⟨d, 0, none⟩ = false) : Un d n w w :=
  ⟨c, f, fun _ _ _ _ h => h, fun _ _ _ h => h, Nat.le_refl _⟩
theorem Un.set {d : Nat} {n m : Int} {w : World} (c : w.cell? ⟨d, 0, none⟩ = some (.int .i64 n)) (f : w.frozen? ⟨d, 0, none⟩ = false) : Un d m w (w.setCell ⟨d, 0, none⟩ (.int .i64 m)) where
  c := by simp [go_sem, c, f]
  f := by rw [World.frozen?_setCell]; exact f
  b := fun base w0 hd _ h => h.setCell (by dsimp only; omega) _
  o := fun a v ha h => cell_set (fun he => ha he.symm) h
  s := by simp
/-- Behind whatever changes nothing that was there. -/
theorem Un.after {d : Nat} {n : Int} {w w1 w2 : World} (hb : Below w.heap.size w w1) (h : Un d n w1 w2) : Un d n w w2 where
  c := h.c
  f := h.f
  b := fun base w0 hd hs h0 => h.b base w0 hd (Nat.le_trans hs hb.size) (h0.trans (hb.mono hs))
  o := fun a v ha hc => h.o a v ha (cell_later hb hc)
  s := Nat.le_trans hb.size h.s
/-- Ahead of it. -/
theorem Un.ahead {d : Nat} {n : Int} {w w1 w2 : World} (h : Un d n w w1) (hb : Below w1.heap.size w1 w2) : Un d n w w2 where
  c := cell_later hb h.c
  f := frozen_later hb h.c h.f
  b := fun base w0 hd hs h0 => (h.b base w0 hd hs h0).trans (hb.mono (Nat.le_trans hs h.s))
  o := fun a v ha hc => cell_later hb (h.o a v ha hc)
  s := Nat.le_trans h.s hb.size

/-- A result that was held counts for one. -/
def bi (o : Bool) : Int := if o = true then 1 else 0

set_option maxHeartbeats 1000000 in
theorem take_nil (a : Int) (o : Bool) (w : World) :
    Calls Tryd.prog 28 #[.pointer none, .int .i64 a, .bool o] w fun e w' => e = .returned (.int .i64 a) ∧ w' = w := by
  cases o
  · go_enter Tryd.func28, Tryd.ntmps28
    go_wp2
    go_ret
    exact ⟨rfl, rfl⟩
  · go_enter Tryd.func28, Tryd.ntmps28
    go_wp2
    go_ret
    exact ⟨rfl, rfl⟩
set_option maxHeartbeats 1000000 in
theorem more_any (d : Nat) (n : Int) (n0 : 0 ≤ n) (n1 : n ≤ 1000) (w : World) (c : w.cell? ⟨d, 0, none⟩ = some (.int .i64 n)) (f : w.frozen? ⟨d, 0, none⟩ = false) :
    Calls Tryd.prog 51 #[.pointer (some ⟨d, 0, none⟩)] w fun e w' => e = .returned (.tuple #[]) ∧ w' = w.setCell ⟨d, 0, none⟩ (.int .i64 (n + 1)) := by
  go_enter Tryd.func51, Tryd.ntmps51
  go_wp2
  go_end0
  exact ⟨rfl, rfl⟩
set_option maxHeartbeats 1000000 in
theorem take_un (d : Nat) (n a : Int) (o : Bool) (n0 : 0 ≤ n) (n1 : n ≤ 1000) (w : World) (c : w.cell? ⟨d, 0, none⟩ = some (.int .i64 n)) (f : w.frozen? ⟨d, 0, none⟩ = false) :
    Calls Tryd.prog 28 #[.pointer (some ⟨d, 0, none⟩), .int .i64 a, .bool o] w fun e w' => e = .returned (.int .i64 a) ∧ Un d (n + bi o) w w' := by
  have U0 : Hid (Un d n w w) := Un.same c f
  have U1 : Hid (Un d (n + 1) w (w.setCell ⟨d, 0, none⟩ (.int .i64 (n + 1)))) := Un.set c f
  cases o
  · have e0 : n + bi false = n := by unfold bi; simp
    rw [e0]
    go_enter Tryd.func28, Tryd.ntmps28
    go_wp2
    go_ret
    exact ⟨rfl, U0.out⟩
  · have e0 : n + bi true = n + 1 := by unfold bi; simp
    rw [e0]
    go_enter Tryd.func28, Tryd.ntmps28
    go_wp2_with fail
    refine (more_any d n n0 n1 _ c f).mono ?_
    rintro e w1 ⟨rfl, hw⟩
    subst hw
    go_wp2
    go_ret
    exact ⟨rfl, U1.out⟩
set_option maxHeartbeats 1000000 in
theorem count_nil (w : World) :
    Calls Tryd.prog 8 #[.pointer none] w fun e w' => e = .returned (.int .i64 0) ∧ w' = w := by
  go_enter Tryd.func8, Tryd.ntmps8
  go_wp2
  go_ret
  exact ⟨rfl, rfl⟩
set_option maxHeartbeats 1000000 in
theorem count_any (d : Nat) (n : Int) (w : World) (c : w.cell? ⟨d, 0, none⟩ = some (.int .i64 n)) :
    Calls Tryd.prog 8 #[.pointer (some ⟨d, 0, none⟩)] w fun e w' => e = .returned (.int .i64 n) ∧ w' = w := by
  go_enter Tryd.func8, Tryd.ntmps8
  go_wp2
  go_ret
  exact ⟨rfl, rfl⟩
set_option maxHeartbeats 1000000 in
theorem clear_nil (w : World) :
    Calls Tryd.prog 5 #[.pointer none] w fun e w' => e = .returned (.tuple #[]) ∧ w' = w := by
  go_enter Tryd.func5, Tryd.ntmps5
  go_wp2
  go_end0
  exact ⟨rfl, rfl⟩
set_option maxHeartbeats 1000000 in
theorem clear_any (d : Nat) (n : Int) (w : World) (c : w.cell? ⟨d, 0, none⟩ = some (.int .i64 n)) (f : w.frozen? ⟨d, 0, none⟩ = false) :
    Calls Tryd.prog 5 #[.pointer (some ⟨d, 0, none⟩)] w fun e w' => e = .returned (.tuple #[]) ∧ Un d 0 w w' := by
  have U1 : Hid (Un d 0 w (w.setCell ⟨d, 0, none⟩ (.int .i64 0))) := Un.set c f
  go_enter Tryd.func5, Tryd.ntmps5
  go_wp2
  go_end0
  exact ⟨rfl, U1.out⟩
end Go.Proofs.YtpmlpcejmndidabDoor
