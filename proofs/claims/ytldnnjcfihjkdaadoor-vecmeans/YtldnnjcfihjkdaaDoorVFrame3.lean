/-
  An argument that is a list of lists of numbers, opened.
-/
import Derived.Test.YtldnnjcfihjkdaaDoorVFrame2
import Derived.Test.YtldnnjcfihjkdaaDoorLawVG0
set_option linter.unusedVariables false
namespace Go.Proofs.YtldnnjcfihjkdaaDoor
open Go.ChangeShapes Go.WideShapes Go.ChangeAt Go.RowKit Go.Joins

theorem cellsFs : Tryd.prog.cellsOf 22 = 1 := by kernel_rfl
set_option maxRecDepth 100000 in
theorem open_lists {H : Type} {enc : TypeId × Value → H} {w : World} {r : Reach} {b0 : Nat} {v : Value} {d : DataW H} {p : List MemPlace}
    (hv : Value.okWide Tryd.prog w r b0 74 v) (h : DataW.Trod enc Tryd.prog w 0 (fun _ => true) true 74 v d p) : ∃ (K : Nat) (ns : Nat → Nat) (fs : Nat → Nat → Int), Lt w v K ns fs := by
  obtain ⟨adr, len, cap, rfl⟩ := okWide_slice Tryd.underlying74 hv
  obtain ⟨fuel, h⟩ := h
  rcases Go.Deep.open_slice Tryd.underlying74 h with h0 | ⟨a, len', cap', m, n, D, Pl, hc, hb, hl, hm, hmm, -, hx⟩
  · have hc := h0.1
    simp [Value.cells] at hc
    obtain ⟨rfl, rfl, rfl⟩ := hc
    exact ⟨0, fun _ => 0, fun _ _ => 0, none, 0, 0, 0, rfl, Nat.le_refl _, Nat.zero_le _, fun h => by omega, fun j hj => by omega⟩
  · simp [Value.cells] at hc
    obtain ⟨rfl, rfl, rfl⟩ := hc
    simp only [if_true] at hmm
    subst hmm
    obtain ⟨ab, ao, spot⟩ := a
    have hint : ∀ i, i < len → ∃ q : Option Addr × Nat × Nat × (Nat → Int), w.cell? ((⟨ab, ao, spot⟩ : Addr).add i) = some (.slice q.1 q.2.1 q.2.2.1) ∧ Ar w (.slice q.1 q.2.1 q.2.2.1) q.2.1 q.2.2.2 := fun i hi => by
      obtain ⟨cs', h1, h2⟩ := hx i (by omega)
      rw [cellsFs] at h1
      obtain ⟨_, hlen, hcell⟩ := World.cells?_some h1
      obtain ⟨x, rfl⟩ : ∃ x, cs' = [x] := by
        match cs', hlen with
        | [x], _ => exact ⟨x, rfl⟩
      have e1 := hcell 0 (by omega)
      rw [Go.Deep.add_add] at e1
      obtain ⟨n', f', hA⟩ := fixes_raw h2
      obtain ⟨ad, ca, b, o, rfl, -, -, -, -⟩ := id hA
      exact ⟨(ad, n', ca, f'), by simpa using e1, hA⟩
    obtain ⟨q, hq⟩ := Go.Deep.choose_lt hint
    refine ⟨len, fun i => (q i).2.1, fun i => (q i).2.2.2, some ⟨ab, ao, spot⟩, m, ab, ao, rfl, hl, hm, ?_, ?_⟩
    · intro h0
      have hspot : spot = none := by simpa [Addr.add] using World.cell?_spot (hq 0 h0).1
      rw [hspot]
    · intro j hj
      have hspot : spot = none := by simpa [Addr.add] using World.cell?_spot (hq 0 (by omega)).1
      subst hspot
      obtain ⟨d0, d1⟩ := hq j hj
      rw [add_noneV] at d0
      exact ⟨(q j).1, (q j).2.2.1, d0, d1⟩
end Go.Proofs.YtldnnjcfihjkdaaDoor
