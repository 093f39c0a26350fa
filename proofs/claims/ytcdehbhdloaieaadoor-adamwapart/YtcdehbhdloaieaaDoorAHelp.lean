/-
  The laws' helpers of layer 9 (regattalaw09): plain, state, few.
-/
import Derived.Test.YtcdehbhdloaieaaDoorARefC
import Derived.Deep.RegionHeld3
set_option linter.unusedVariables false
set_option linter.unusedSimpArgs false
namespace Go.Proofs.YtcdehbhdloaieaaDoor
open Go.RowKit

theorem Ar.set9 {w : World} {v : Value} {n : Nat} {f : Nat → Int} (h : Ar w v n f) (a : Addr) (u : Value) (hn : Nb v a.block) : Ar (w.setCell a u) v n f := by
  obtain ⟨adr, cap, b, o, e, h1, h2, h3, h4⟩ := h
  refine ⟨adr, cap, b, o, e, h1, h2, h3, fun k hk => ⟨cell_set ?_ (h4 k hk).1, (h4 k hk).2⟩⟩
  have e2 := h3 (by omega)
  subst e2
  exact fun h' => hn ⟨b, o, none⟩ n cap e (by omega) h'.symm
theorem run_max4 {P : Program} (w : World) (ts : Array TypeId) (t : TypeId) (a b c d : Int) : (Builtin.max_ ts t #[.int .i64 a, .int .i64 b, .int .i64 c, .int .i64 d]).run P w = .ok (.int .i64 (max (max (max a b) c) d)) w := by
  have e : ∀ x y : Int, (if y > x then y else x) = max x y := fun x y => by
    rw [Int.max_def]
    split <;> split <;> omega
  simp [Builtin.max_, Builtin.max2, e]
attribute [local go_sem high] run_max4
/-- May a play go through with it? -/
def fw9 (nM nV nP nG : Nat) (T : Int) : Prop := (nM ≤ 100 ∧ nV ≤ 100 ∧ nP ≤ 100 ∧ nG ≤ 100) ∧ (T ≤ 2000 ∨ 1048576 ≤ T)
structure Q5w (b : Nat) (x0 x1 x2 x3 x4 : Value) (w : World) : Prop where
  c0 : w.cell? ⟨b, 0, none⟩ = some x0
  c1 : w.cell? ⟨b, 1, none⟩ = some x1
  c2 : w.cell? ⟨b, 2, none⟩ = some x2
  c3 : w.cell? ⟨b, 3, none⟩ = some x3
  c4 : w.cell? ⟨b, 4, none⟩ = some x4
set_option maxRecDepth 100000 in
set_option maxHeartbeats 4000000 in
theorem few9_any (aM aV aP aG : Option Addr) (nM nV nP nG cM cV cP cG : Nat) (T : Int) (w : World) :
    Calls Tryd.prog 13 #[.agg #[.slice aM nM cM, .slice aV nV cV, .int .i64 T, .slice aP nP cP, .slice aG nG cG]] w fun e w' => Tel e (fw9 nM nV nP nG T) ∧ Below w.heap.size w w' := by
  obtain ⟨mx, hmx⟩ : ∃ mx : Int, max (max (max (nM : Int) (nV : Int)) (nP : Int)) (nG : Int) = mx := ⟨_, rfl⟩
  have HF : Hid (fw9 nM nV nP nG T ↔ mx ≤ 100 ∧ (T ≤ 2000 ∨ 1048576 ≤ T)) := by
    show _ ↔ _
    unfold fw9
    constructor
    · rintro ⟨⟨a, b, c, d⟩, e⟩; exact ⟨by omega, e⟩
    · rintro ⟨a, e⟩; exact ⟨⟨by omega, by omega, by omega, by omega⟩, e⟩
  obtain ⟨w1, hw1⟩ : ∃ w1, w1 = w.alloc (.cells #[.slice aM nM cM, .slice aV nV cV, .int .i64 T, .slice aP nP cP, .slice aG nG cG] 47) := ⟨_, rfl⟩
  have HB1 : Hid (Below w.heap.size w w1) := by rw [hw1]; exact bel1 _ _
  have HQ : Q5w w.heap.size (.slice aM nM cM) (.slice aV nV cV) (.int .i64 T) (.slice aP nP cP) (.slice aG nG cG) w1 := by rw [hw1]; exact ⟨by simp [go_sem], by simp [go_sem], by simp [go_sem], by simp [go_sem], by simp [go_sem]⟩
  go_enter Tryd.func13, Tryd.ntmps13
  go_upto_region 1 with fail
  rw [← hw1]
  clear hw1
  have x0 := HQ.c0
  have x1 := HQ.c1
  have x2 := HQ.c2
  have x3 := HQ.c3
  have x4 := HQ.c4
  by_cases q1 : mx ≤ 100
  · by_cases q2 : T ≤ 2000
    · go_wp2
      go_ret
      exact ⟨tel_yes (HF.out.2 ⟨q1, Or.inl q2⟩), HB1.out⟩
    · by_cases q3 : 1048576 ≤ T
      · go_wp2
        go_ret
        exact ⟨tel_yes (HF.out.2 ⟨q1, Or.inr q3⟩), HB1.out⟩
      · go_wp2
        go_ret
        exact ⟨tel_no (fun h => by have := HF.out.1 h; omega), HB1.out⟩
  · go_wp2
    go_ret
    exact ⟨tel_no (fun h => by have := HF.out.1 h; omega), HB1.out⟩
end Go.Proofs.YtcdehbhdloaieaaDoor
