/-
  Arguments of layer 10's laws, opened: a rule, an outer, a list of lists.
-/
import Derived.Test.YtfcneciknldohaaFFrame
import Derived.Test.YtfcneciknldohaaVFrame
import Derived.Test.YtfcneciknldohaaBI
set_option linter.unusedVariables false
namespace Go.Proofs.Ytfcneciknldohaa
open Go.ChangeShapes Go.WideShapes Go.ChangeAt Go.RowKit Go.Joins

theorem cellsFs10 : Try.prog.cellsOf 25 = 1 := by kernel_rfl
theorem cellsRu10 : Try.prog.cellsOf 24 = 2 := by kernel_rfl
theorem cellsOu10 : Try.prog.cellsOf 27 = 2 := by kernel_rfl
/-- A list of lists. -/
def Lt10 (w : World) (v : Value) (K : Nat) (ns : Nat → Nat) (fs : Nat → Nat → Int) : Prop := ∃ (adr : Option Addr) (cap b o : Nat), v = .slice adr K cap ∧ K ≤ cap ∧ cap ≤ maxLen ∧ (0 < K → adr = some ⟨b, o, none⟩) ∧ ∀ j, j < K → ∃ (ad : Option Addr) (ca : Nat), w.cell? ⟨b, o + j, none⟩ = some (.slice ad (ns j) ca) ∧ Ar w (.slice ad (ns j) ca) (ns j) (fs j)
set_option maxRecDepth 100000 in
theorem fixes_raw10 {H : Type} {enc : TypeId × Value → H} {w : World} {fuel : Nat} {v : Value} {x : DataW H × List MemPlace}
    (h : DataW.trod enc Try.prog w 0 (fun _ => true) true fuel 25 [v] = some x) : ∃ (n : Nat) (f : Nat → Int), Ar w v n f := by
  rcases Go.Deep.open_slice Try.underlying25 h with h0 | ⟨a, len, cap, m, n, D, Pl, hc, hb, hl, hm, hmm, -, hx⟩
  · have hc := h0.1
    simp at hc
    subst hc
    exact ⟨0, fun _ => 0, none, 0, 0, 0, rfl, Nat.le_refl _, Nat.zero_le _, fun h => by omega, fun j hj => by omega⟩
  · simp at hc
    subst hc
    simp only [if_true] at hmm
    subst hmm
    obtain ⟨ab, ao, spot⟩ := a
    have hint : ∀ i, i < len → ∃ q : Int, w.cell? ((⟨ab, ao, spot⟩ : Addr).add i) = some (.int .i64 q) ∧ (Lit.int .i64 q).wf = true := fun i hi => by
      obtain ⟨cs', h1, h2⟩ := hx i (by omega)
      rw [cellsFx] at h1
      obtain ⟨_, hlen, hcell⟩ := World.cells?_some h1
      obtain ⟨x, e0, _, wx⟩ := DataW.trod_int Try.underlying22 h2
      subst e0
      have e1 := hcell 0 (by omega)
      rw [Go.Deep.add_add] at e1
      exact ⟨x, by simpa using e1, wx⟩
    obtain ⟨q, hq⟩ := Go.Deep.choose_lt hint
    refine ⟨len, q, some ⟨ab, ao, spot⟩, m, ab, ao, rfl, hl, hm, ?_, ?_⟩
    · intro h0
      have hspot : spot = none := by simpa [Addr.add] using World.cell?_spot (hq 0 h0).1
      rw [hspot]
    · intro j hj
      have hspot : spot = none := by simpa [Addr.add] using World.cell?_spot (hq 0 (by omega)).1
      subst hspot
      obtain ⟨d0, d1⟩ := hq j hj
      rw [add_noneV] at d0
      exact ⟨d0, bounds_i64 d1⟩
set_option maxRecDepth 100000 in
theorem open_rule {H : Type} {enc : TypeId × Value → H} {w : World} {r : Reach} {b0 : Nat} {v : Value} {d : DataW H} {p : List MemPlace}
    (hv : Value.okWide Try.prog w r b0 24 v) (h : DataW.Trod enc Try.prog w 0 (fun _ => true) true 24 v d p) :
    ∃ (a b : Int), v = .agg #[.int .i64 a, .int .i64 b] ∧ (-9223372036854775808 ≤ a ∧ a ≤ 9223372036854775807) := by
  obtain ⟨c0, c1, y0, y1, m, rfl, rfl, rfl, hy0, hy1⟩ := open_agg2 Try.underlying24 (by kernel_rfl) cellsRu10 hv h
  obtain ⟨a, e0, -, wa⟩ := DataW.trod_int Try.underlying22 hy0
  obtain ⟨b, e1, -, wb⟩ := DataW.trod_int Try.underlying22 hy1
  simp at e0 e1
  subst e0 e1
  exact ⟨a, b, rfl, bounds_i64 wa⟩
set_option maxRecDepth 100000 in
theorem open_outer {H : Type} {enc : TypeId × Value → H} {w : World} {r : Reach} {b0 : Nat} {v : Value} {d : DataW H} {p : List MemPlace}
    (hv : Value.okWide Try.prog w r b0 27 v) (h : DataW.Trod enc Try.prog w 0 (fun _ => true) true 27 v d p) :
    ∃ (vP vB : Value) (nP nB : Nat) (P B : Nat → Int), v = .agg #[vP, vB] ∧ Ar w vP nP P ∧ Ar w vB nB B := by
  obtain ⟨c0, c1, y0, y1, m, rfl, rfl, rfl, hy0, hy1⟩ := open_agg2 Try.underlying27 (by kernel_rfl) cellsOu10 hv h
  obtain ⟨nP, P, hP⟩ := fixes_raw10 hy0
  obtain ⟨nB, B, hB⟩ := fixes_raw10 hy1
  exact ⟨c0, c1, nP, nB, P, B, rfl, hP, hB⟩
set_option maxRecDepth 100000 in
theorem open_lists10 {H : Type} {enc : TypeId × Value → H} {w : World} {r : Reach} {b0 : Nat} {v : Value} {d : DataW H} {p : List MemPlace}
    (hv : Value.okWide Try.prog w r b0 50 v) (h : DataW.Trod enc Try.prog w 0 (fun _ => true) true 50 v d p) : ∃ (K : Nat) (ns : Nat → Nat) (fs : Nat → Nat → Int), Lt10 w v K ns fs := by
  obtain ⟨adr, len, cap, rfl⟩ := okWide_slice Try.underlying50 hv
  obtain ⟨fuel, h⟩ := h
  rcases Go.Deep.open_slice Try.underlying50 h with h0 | ⟨a, len', cap', m, n, D, Pl, hc, hb, hl, hm, hmm, -, hx⟩
  · have hc := h0.1
    simp [Value.cells] at hc
    obtain ⟨rfl, rfl, rfl⟩ := hc
    exact ⟨0, fun _ => 0, fun _ _ => 0, none, 0, 0, 0, rfl, Nat.le_refl _, Nat.zero_le _, fun h => by omega, fun j hj => by omega⟩
  · simp [Value.cells] at hc
    obtain ⟨rfl, rfl, rfl⟩ := hc
    simp only [if_true] at hmm
    subst hmm
    obtain ⟨ab, ao, spot⟩ := a
    have hint : ∀ i, i < len → ∃ q : Option Addr × Nat × Nat × (Nat → Int), w.cell? ((⟨ab, ao, spot⟩ : Addr).add i) = some (.slice q.1 q.2.1 q.2.2.1) ∧ Ar w (.slice q.1 q.2.1 q.2.2.1) q.2.1 q.2.2.2 := fun i hi => by
      obtain ⟨cs', h1, h2⟩ := hx i (by omega)
      rw [cellsFs10] at h1
      obtain ⟨_, hlen, hcell⟩ := World.cells?_some h1
      obtain ⟨x, rfl⟩ : ∃ x, cs' = [x] := by
        match cs', hlen with
        | [x], _ => exact ⟨x, rfl⟩
      have e1 := hcell 0 (by omega)
      rw [Go.Deep.add_add] at e1
      obtain ⟨n', f', hA⟩ := fixes_raw10 h2
      obtain ⟨ad, ca, b, o, rfl, -, -, -, -⟩ := id hA
      exact ⟨(ad, n', ca, f'), by simpa using e1, hA⟩
    obtain ⟨q, hq⟩ := Go.Deep.choose_lt hint
    refine ⟨len, fun i => (q i).2.1, fun i => (q i).2.2.2, some ⟨ab, ao, spot⟩, m, ab, ao, rfl, hl, hm, ?_, ?_⟩
    · intro h0
      have hspot : spot = none := by simpa [Addr.add] using World.cell?_spot (hq 0 h0).1
      rw [hspot]
    · intro j hj
      have hspot : spot = none := by simpa [Addr.add] using World.cell?_spot (hq 0 (by omega)).1
      subst hspot
      obtain ⟨d0, d1⟩ := hq j hj
      rw [add_noneV] at d0
      exact ⟨(q j).1, (q j).2.2.1, d0, d1⟩
end Go.Proofs.Ytfcneciknldohaa
