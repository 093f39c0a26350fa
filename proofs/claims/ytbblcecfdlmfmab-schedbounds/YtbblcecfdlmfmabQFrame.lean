/-
  Arguments that are rates, paces and lists of entries, opened.
-/
import Derived.Test.YtbblcecfdlmfmabFFrame
import Derived.Test.YtbblcecfdlmfmabVFrame
import Derived.Test.YtbblcecfdlmfmabQWalkD
import Derived.Test.YtbblcecfdlmfmabBI
set_option linter.unusedVariables false
namespace Go.Proofs.Ytbblcecfdlmfmab
open Go.ChangeShapes Go.WideShapes Go.ChangeAt Go.RowKit Go.Joins

theorem cellsInt8 : Try.prog.cellsOf 3 = 1 := by kernel_rfl
theorem cellsFx8 : Try.prog.cellsOf 35 = 1 := by kernel_rfl
theorem cellsDr8 : Try.prog.cellsOf 57 = 2 := by kernel_rfl
theorem cellsRt8 : Try.prog.cellsOf 40 = 3 := by kernel_rfl
theorem cellsPc8 : Try.prog.cellsOf 23 = 4 := by kernel_rfl
theorem cellsEn8 : Try.prog.cellsOf 32 = 5 := by kernel_rfl
theorem cellsIs8 : Try.prog.cellsOf 30 = 1 := by kernel_rfl
set_option maxRecDepth 100000 in
theorem drops_raw {H : Type} {enc : TypeId × Value → H} {w : World} {fuel : Nat} {v : Value} {x : DataW H × List MemPlace}
    (h : DataW.trod enc Try.prog w 0 (fun _ => true) true fuel 38 [v] = some x) : ∃ (n : Nat) (at' fa : Nat → Int), Drp w v n at' fa := by
  rcases Go.Deep.open_slice Try.underlying38 h with h0 | ⟨a, len, cap, m, n, D, Pl, hc, hb, hl, hm, hmm, -, hx⟩
  · have hc := h0.1
    simp at hc
    subst hc
    exact ⟨0, fun _ => 0, fun _ => 0, none, 0, 0, 0, rfl, Nat.le_refl _, Nat.zero_le _, fun h => by omega, fun j hj => by omega⟩
  · simp at hc
    subst hc
    simp only [if_true] at hmm
    subst hmm
    obtain ⟨ab, ao, spot⟩ := a
    have hint : ∀ i, i < len → ∃ q : Int × Int, (w.cell? ((⟨ab, ao, spot⟩ : Addr).add (i * 2)) = some (.int .i64 q.1) ∧ w.cell? ((⟨ab, ao, spot⟩ : Addr).add (i * 2 + 1)) = some (.int .i64 q.2)) ∧ (Lit.int .i64 q.1).wf = true ∧ (Lit.int .i64 q.2).wf = true := fun i hi => by
      obtain ⟨cs', h1, h2⟩ := hx i (by omega)
      rw [cellsDr8] at h1
      obtain ⟨_, hlen, hcell⟩ := World.cells?_some h1
      obtain ⟨x, y, rfl⟩ : ∃ x y, cs' = [x, y] := by
        match cs', hlen with
        | [x, y], _ => exact ⟨x, y, rfl⟩
      obtain ⟨y0, y1, n', hxx, _, t0, t1⟩ := trod_struct2 Try.underlying57 h2
      have e1 := hcell 0 (by omega)
      have e2 := hcell 1 (by omega)
      rw [Go.Deep.add_add] at e1 e2
      obtain ⟨a0, c0, -, wa⟩ := DataW.trod_int (cs := [x]) Try.underlying3 (by simpa [cellsInt8] using t0)
      obtain ⟨a1, c1, -, wb⟩ := DataW.trod_int (cs := [y]) Try.underlying35 (by simpa [cellsInt8, cellsFx8] using t1)
      simp at c0 c1
      subst c0 c1
      exact ⟨(a0, a1), ⟨by simpa using e1, by simpa using e2⟩, wa, wb⟩
    obtain ⟨q, hq⟩ := Go.Deep.choose_lt hint
    refine ⟨len, fun i => (q i).1, fun i => (q i).2, some ⟨ab, ao, spot⟩, m, ab, ao, rfl, hl, hm, ?_, ?_⟩
    · intro h0
      have hspot : spot = none := by simpa [Addr.add] using World.cell?_spot (hq 0 h0).1.1
      rw [hspot]
    · intro j hj
      have hspot : spot = none := by simpa [Addr.add] using World.cell?_spot (hq 0 (by omega)).1.1
      subst hspot
      obtain ⟨⟨d0, d1⟩, d2, d3⟩ := hq j hj
      rw [add_noneV] at d0 d1
      exact ⟨⟨d0, by rw [Nat.add_assoc]; exact d1⟩, bounds_i64 d2, bounds_i64 d3⟩
set_option maxRecDepth 100000 in
theorem open_rates {H : Type} {enc : TypeId × Value → H} {w : World} {r : Reach} {b0 : Nat} {v : Value} {d : DataW H} {p : List MemPlace}
    (hv : Value.okWide Try.prog w r b0 40 v) (h : DataW.Trod enc Try.prog w 0 (fun _ => true) true 40 v d p) :
    ∃ (B W : Int) (u : Value) (n : Nat) (at' fa : Nat → Int), v = .agg #[.int .i64 B, .int .i64 W, u] ∧ Drp w u n at' fa ∧ B ≤ 9223372036854775807 := by
  obtain ⟨c0, c1, c2, y0, y1, y2, m, rfl, rfl, rfl, hy0, hy1, hy2⟩ := open_agg3 Try.underlying40 (by kernel_rfl) cellsRt8 hv h
  obtain ⟨s, e0, -, ws⟩ := DataW.trod_int Try.underlying35 hy0
  obtain ⟨a, e1, -, wa⟩ := DataW.trod_int Try.underlying3 hy1
  obtain ⟨n, at', fa, hD⟩ := drops_raw hy2
  simp at e0 e1
  subst e0 e1
  exact ⟨s, a, c2, n, at', fa, rfl, hD, (bounds_i64 ws).2⟩
set_option maxRecDepth 100000 in
theorem open_pace {H : Type} {enc : TypeId × Value → H} {w : World} {r : Reach} {b0 : Nat} {v : Value} {d : DataW H} {p : List MemPlace}
    (hv : Value.okWide Try.prog w r b0 23 v) (h : DataW.Trod enc Try.prog w 0 (fun _ => true) true 23 v d p) :
    ∃ (l m f g : Int), v = .agg #[.int .i64 l, .int .i64 m, .int .i64 f, .int .i64 g] := by
  obtain ⟨c0, c1, c2, c3, y0, y1, y2, y3, m, rfl, rfl, rfl, hy0, hy1, hy2, hy3⟩ := open_agg4 Try.underlying23 (by kernel_rfl) cellsPc8 hv h
  obtain ⟨s, e0, -, ws⟩ := DataW.trod_int Try.underlying3 hy0
  obtain ⟨a, e1, -, wa⟩ := DataW.trod_int Try.underlying3 hy1
  obtain ⟨b, e2, -, wb⟩ := DataW.trod_int Try.underlying3 hy2
  obtain ⟨c, e3, -, wc⟩ := DataW.trod_int Try.underlying3 hy3
  simp at e0 e1 e2 e3
  subst e0 e1 e2 e3
  exact ⟨s, a, b, c, rfl⟩
theorem slice_raw {H : Type} {enc : TypeId × Value → H} {w : World} {fuel : Nat} {v : Value} {x : DataW H × List MemPlace}
    (h : DataW.trod enc Try.prog w 0 (fun _ => true) true fuel 30 [v] = some x) : ∃ (ad : Option Addr) (n cap : Nat), v = .slice ad n cap ∧ n ≤ maxLen := by
  rcases Go.Deep.open_slice Try.underlying30 h with h0 | ⟨a, len, cap, m, n, D, Pl, hc, hb, hl, hm, hmm, -, hx⟩
  · have hc := h0.1
    simp at hc
    subst hc
    exact ⟨none, 0, 0, rfl, Nat.zero_le _⟩
  · simp at hc
    subst hc
    exact ⟨_, len, _, rfl, Nat.le_trans hl hm⟩
set_option maxRecDepth 100000 in
theorem open_entries {H : Type} {enc : TypeId × Value → H} {w : World} {r : Reach} {b0 : Nat} {v : Value} {d : DataW H} {p : List MemPlace}
    (hv : Value.okWide Try.prog w r b0 24 v) (h : DataW.Trod enc Try.prog w 0 (fun _ => true) true 24 v d p) : ∃ (n : Nat) (mb : Nat → Int) (wh : Nat → Nat), Ens w v n mb wh := by
  obtain ⟨adr, len, cap, rfl⟩ := okWide_slice Try.underlying24 hv
  obtain ⟨fuel, h⟩ := h
  rcases Go.Deep.open_slice Try.underlying24 h with h0 | ⟨a, len', cap', m, n, D, Pl, hc, hb, hl, hm, hmm, -, hx⟩
  · have hc := h0.1
    simp [Value.cells] at hc
    obtain ⟨rfl, rfl, rfl⟩ := hc
    exact ⟨0, fun _ => 0, fun _ => 0, none, 0, 0, 0, rfl, Nat.le_refl _, Nat.zero_le _, fun h => by omega, fun j hj => by omega⟩
  · simp [Value.cells] at hc
    obtain ⟨rfl, rfl, rfl⟩ := hc
    simp only [if_true] at hmm
    subst hmm
    obtain ⟨ab, ao, spot⟩ := a
    have hint : ∀ i, i < len → ∃ q : Int × Nat, (∃ (r hh sa : Int) (ad : Option Addr) (cp : Nat), w.cell? ((⟨ab, ao, spot⟩ : Addr).add (i * 5)) = some (.int .i64 r) ∧ w.cell? ((⟨ab, ao, spot⟩ : Addr).add (i * 5 + 1)) = some (.int .i64 hh) ∧ w.cell? ((⟨ab, ao, spot⟩ : Addr).add (i * 5 + 2)) = some (.int .i64 q.1) ∧ w.cell? ((⟨ab, ao, spot⟩ : Addr).add (i * 5 + 3)) = some (.slice ad q.2 cp) ∧ w.cell? ((⟨ab, ao, spot⟩ : Addr).add (i * 5 + 4)) = some (.int .i64 sa)) ∧ (Lit.int .i64 q.1).wf = true ∧ q.2 ≤ maxLen := fun i hi => by
      obtain ⟨cs', h1, h2⟩ := hx i (by omega)
      rw [cellsEn8] at h1
      obtain ⟨_, hlen, hcell⟩ := World.cells?_some h1
      obtain ⟨c0, c1, c2, c3, c4, rfl⟩ : ∃ c0 c1 c2 c3 c4, cs' = [c0, c1, c2, c3, c4] := by
        match cs', hlen with
        | [c0, c1, c2, c3, c4], _ => exact ⟨c0, c1, c2, c3, c4, rfl⟩
      obtain ⟨xs, n', -, -, -, hlen2, hx2⟩ := DataW.trod_struct Try.underlying32 h2
      obtain ⟨y0, y1, y2, y3, y4, rfl⟩ : ∃ y0 y1 y2 y3 y4, xs = [y0, y1, y2, y3, y4] := by
        match xs, hlen2 with
        | [a, b, c, d, e], _ => exact ⟨a, b, c, d, e, rfl⟩
      have g0 := hx2 0 _ rfl
      have g1 := hx2 1 _ rfl
      have g2 := hx2 2 _ rfl
      have g3 := hx2 3 _ rfl
      have g4 := hx2 4 _ rfl
      simp [cellsInt8, cellsIs8] at g0 g1 g2 g3 g4
      obtain ⟨r, e0, -, w0⟩ := DataW.trod_int Try.underlying3 g0
      obtain ⟨hh, e1, -, w1⟩ := DataW.trod_int Try.underlying3 g1
      obtain ⟨mj, e2, -, w2⟩ := DataW.trod_int Try.underlying3 g2
      obtain ⟨ad, wj, cp, e3, w3⟩ := slice_raw g3
      obtain ⟨sa, e4, -, w4⟩ := DataW.trod_int Try.underlying3 g4
      simp at e0 e1 e2 e4
      subst e0 e1 e2 e3 e4
      have k0 := hcell 0 (by omega)
      have k1 := hcell 1 (by omega)
      have k2 := hcell 2 (by omega)
      have k3 := hcell 3 (by omega)
      have k4 := hcell 4 (by omega)
      rw [Go.Deep.add_add] at k0 k1 k2 k3 k4
      exact ⟨(mj, wj), ⟨r, hh, sa, ad, cp, by simpa using k0, by simpa using k1, by simpa using k2, by simpa using k3, by simpa using k4⟩, w2, w3⟩
    obtain ⟨q, hq⟩ := Go.Deep.choose_lt hint
    refine ⟨len, fun i => (q i).1, fun i => (q i).2, some ⟨ab, ao, spot⟩, m, ab, ao, rfl, hl, hm, ?_, ?_⟩
    · intro h0
      obtain ⟨⟨r, hh, sa, ad, cp, k0, -⟩, -⟩ := hq 0 h0
      have hspot : spot = none := by simpa [Addr.add] using World.cell?_spot k0
      rw [hspot]
    · intro j hj
      have hspot : spot = none := by
        obtain ⟨⟨r, hh, sa, ad, cp, k0, -⟩, -⟩ := hq 0 (by omega)
        simpa [Addr.add] using World.cell?_spot k0
      subst hspot
      obtain ⟨⟨r, hh, sa, ad, cp, k0, k1, k2, k3, k4⟩, k5, k6⟩ := hq j hj
      rw [add_noneV] at k0 k1 k2 k3 k4
      exact ⟨⟨r, hh, sa, ad, cp, k0, by rw [Nat.add_assoc]; exact k1, by rw [Nat.add_assoc]; exact k2, by rw [Nat.add_assoc]; exact k3, by rw [Nat.add_assoc]; exact k4⟩, bounds_i64 k5, k6⟩
end Go.Proofs.Ytbblcecfdlmfmab
