/-
  Arguments that are inners and what a step is made of, opened.
-/
import Derived.Test.YtcdehbhdloaieaaGreatDoorVFrame
import Derived.Test.YtcdehbhdloaieaaGreatDoorVDoor
import Derived.Test.YtcdehbhdloaieaaGreatDoorQWalkD
import Derived.Test.YtcdehbhdloaieaaGreatDoorBI
import Derived.Test.YtcdehbhdloaieaaGreatDoorADefs
import Derived.ChangeSame
set_option linter.unusedVariables false
namespace Go.Proofs.YtcdehbhdloaieaaGreatDoor
open Go.ChangeShapes Go.WideShapes Go.ChangeAt Go.RowKit Go.Joins

theorem cellsInt8 : Tryz.prog.cellsOf 3 = 1 := by kernel_rfl
theorem cellsFx8 : Tryz.prog.cellsOf 22 = 1 := by kernel_rfl
theorem cellsDr8 : Tryz.prog.cellsOf 78 = 2 := by kernel_rfl
theorem cellsRt8 : Tryz.prog.cellsOf 25 = 3 := by kernel_rfl
set_option maxRecDepth 100000 in
theorem drops_raw {H : Type} {enc : TypeId × Value → H} {w : World} {fuel : Nat} {v : Value} {x : DataW H × List MemPlace}
    (h : DataW.trod enc Tryz.prog w 0 (fun _ => true) true fuel 23 [v] = some x) : ∃ (n : Nat) (at' fa : Nat → Int), Drp w v n at' fa := by
  rcases Go.Deep.open_slice Tryz.underlying23 h with h0 | ⟨a, len, cap, m, n, D, Pl, hc, hb, hl, hm, hmm, -, hx⟩
  · have hc := h0.1
    simp at hc
    subst hc
    exact ⟨0, fun _ => 0, fun _ => 0, none, 0, 0, 0, rfl, Nat.le_refl _, Nat.zero_le _, fun h => by omega, fun j hj => by omega⟩
  · simp at hc
    subst hc
    simp only [if_true] at hmm
    subst hmm
    obtain ⟨ab, ao, spot⟩ := a
    have hint : ∀ i, i < len → ∃ q : Int × Int, (w.cell? ((⟨ab, ao, spot⟩ : Addr).add (i * 2)) = some (.int .i64 q.1) ∧ w.cell? ((⟨ab, ao, spot⟩ : Addr).add (i * 2 + 1)) = some (.int .i64 q.2)) ∧ (Lit.int .i64 q.1).wf = true ∧ (Lit.int .i64 q.2).wf = true := fun i hi => by
      obtain ⟨cs', h1, h2⟩ := hx i (by omega)
      rw [cellsDr8] at h1
      obtain ⟨_, hlen, hcell⟩ := World.cells?_some h1
      obtain ⟨x, y, rfl⟩ : ∃ x y, cs' = [x, y] := by
        match cs', hlen with
        | [x, y], _ => exact ⟨x, y, rfl⟩
      obtain ⟨y0, y1, n', hxx, _, t0, t1⟩ := trod_struct2 Tryz.underlying78 h2
      have e1 := hcell 0 (by omega)
      have e2 := hcell 1 (by omega)
      rw [Go.Deep.add_add] at e1 e2
      obtain ⟨a0, c0, -, wa⟩ := DataW.trod_int (cs := [x]) Tryz.underlying3 (by simpa [cellsInt8] using t0)
      obtain ⟨a1, c1, -, wb⟩ := DataW.trod_int (cs := [y]) Tryz.underlying22 (by simpa [cellsInt8, cellsFx8] using t1)
      simp at c0 c1
      subst c0 c1
      exact ⟨(a0, a1), ⟨by simpa using e1, by simpa using e2⟩, wa, wb⟩
    obtain ⟨q, hq⟩ := Go.Deep.choose_lt hint
    refine ⟨len, fun i => (q i).1, fun i => (q i).2, some ⟨ab, ao, spot⟩, m, ab, ao, rfl, hl, hm, ?_, ?_⟩
    · intro h0
      have hspot : spot = none := by simpa [Addr.add] using World.cell?_spot (hq 0 h0).1.1
      rw [hspot]
    · intro j hj
      have hspot : spot = none := by simpa [Addr.add] using World.cell?_spot (hq 0 (by omega)).1.1
      subst hspot
      obtain ⟨⟨d0, d1⟩, d2, d3⟩ := hq j hj
      rw [add_noneV] at d0 d1
      exact ⟨⟨d0, by rw [Nat.add_assoc]; exact d1⟩, bounds_i64 d2, bounds_i64 d3⟩
theorem cellsIn9 : Tryz.prog.cellsOf 27 = 8 := by kernel_rfl
theorem cellsFs9 : Tryz.prog.cellsOf 28 = 1 := by kernel_rfl
theorem cellsDs9 : Tryz.prog.cellsOf 23 = 1 := by kernel_rfl
theorem eight_of {α : Type} (l : Array α) (h : l.size = 8) : ∃ a b c d e f g i, l = #[a, b, c, d, e, f, g, i] := by
  obtain ⟨l⟩ := l
  match l, h with
  | [a, b, c, d, e, f, g, i], _ => exact ⟨a, b, c, d, e, f, g, i, rfl⟩
theorem five_of9 {α : Type} (l : Array α) (h : l.size = 5) : ∃ a b c d e, l = #[a, b, c, d, e] := by
  obtain ⟨l⟩ := l
  match l, h with
  | [a, b, c, d, e], _ => exact ⟨a, b, c, d, e, rfl⟩
set_option maxRecDepth 100000 in
theorem fixes_raw9 {H : Type} {enc : TypeId × Value → H} {w : World} {fuel : Nat} {v : Value} {x : DataW H × List MemPlace}
    (h : DataW.trod enc Tryz.prog w 0 (fun _ => true) true fuel 28 [v] = some x) : ∃ (n : Nat) (f : Nat → Int), Ar w v n f := by
  rcases Go.Deep.open_slice Tryz.underlying28 h with h0 | ⟨a, len, cap, m, n, D, Pl, hc, hb, hl, hm, hmm, -, hx⟩
  · have hc := h0.1
    simp at hc
    subst hc
    exact ⟨0, fun _ => 0, none, 0, 0, 0, rfl, Nat.le_refl _, Nat.zero_le _, fun h => by omega, fun j hj => by omega⟩
  · simp at hc
    subst hc
    simp only [if_true] at hmm
    subst hmm
    obtain ⟨ab, ao, spot⟩ := a
    have hint : ∀ i, i < len → ∃ q : Int, w.cell? ((⟨ab, ao, spot⟩ : Addr).add i) = some (.int .i64 q) ∧ (Lit.int .i64 q).wf = true := fun i hi => by
      obtain ⟨cs', h1, h2⟩ := hx i (by omega)
      rw [cellsFx] at h1
      obtain ⟨_, hlen, hcell⟩ := World.cells?_some h1
      obtain ⟨x, e0, _, wx⟩ := DataW.trod_int Tryz.underlying22 h2
      subst e0
      have e1 := hcell 0 (by omega)
      rw [Go.Deep.add_add] at e1
      exact ⟨x, by simpa using e1, wx⟩
    obtain ⟨q, hq⟩ := Go.Deep.choose_lt hint
    refine ⟨len, q, some ⟨ab, ao, spot⟩, m, ab, ao, rfl, hl, hm, ?_, ?_⟩
    · intro h0
      have hspot : spot = none := by simpa [Addr.add] using World.cell?_spot (hq 0 h0).1
      rw [hspot]
    · intro j hj
      have hspot : spot = none := by simpa [Addr.add] using World.cell?_spot (hq 0 (by omega)).1
      subst hspot
      obtain ⟨d0, d1⟩ := hq j hj
      rw [add_noneV] at d0
      exact ⟨d0, bounds_i64 d1⟩
set_option maxRecDepth 100000 in
theorem open_inner {H : Type} {enc : TypeId × Value → H} {w : World} {r : Reach} {b0 : Nat} {v : Value} {d : DataW H} {p : List MemPlace}
    (hv : Value.okWide Tryz.prog w r b0 27 v) (h : DataW.Trod enc Tryz.prog w 0 (fun _ => true) true 27 v d p) :
    ∃ (B W : Int) (u : Value) (n : Nat) (at' fa : Nat → Int) (b1 b2 ep dc cl : Int), v = .agg #[.int .i64 B, .int .i64 W, u, .int .i64 b1, .int .i64 b2, .int .i64 ep, .int .i64 dc, .int .i64 cl] ∧ Drp w u n at' fa ∧ bd9 B ep dc cl := by
  obtain ⟨cs, rfl, hsz⟩ := okWide_struct Tryz.underlying27 hv
  obtain ⟨c0, c1, c2, c3, c4, c5, c6, c7, rfl⟩ := eight_of cs (hsz.trans cellsIn9)
  obtain ⟨fuel, hf⟩ := h
  obtain ⟨xs, n, -, -, -, hlen, hx⟩ := DataW.trod_struct Tryz.underlying27 hf
  obtain ⟨y0, y1, y2, y3, y4, y5, rfl⟩ : ∃ y0 y1 y2 y3 y4 y5, xs = [y0, y1, y2, y3, y4, y5] := by
    match xs, hlen with
    | [a, b, c, d, e, f], _ => exact ⟨a, b, c, d, e, f, rfl⟩
  have h0 := hx 0 _ rfl
  have h1 := hx 1 _ rfl
  have h2 := hx 2 _ rfl
  have h3 := hx 3 _ rfl
  have h4 := hx 4 _ rfl
  have h5 := hx 5 _ rfl
  simp [Value.cells, cellsFx8, cellsRt8] at h0 h1 h2 h3 h4 h5
  obtain ⟨xs0, n0, -, -, -, hlen0, hx0⟩ := DataW.trod_struct Tryz.underlying25 h0
  obtain ⟨z0, z1, z2, rfl⟩ : ∃ z0 z1 z2, xs0 = [z0, z1, z2] := by
    match xs0, hlen0 with
    | [a, b, c], _ => exact ⟨a, b, c, rfl⟩
  have k0 := hx0 0 _ rfl
  have k1 := hx0 1 _ rfl
  have k2 := hx0 2 _ rfl
  simp [cellsFx8, cellsInt8, cellsDs9] at k0 k1 k2
  obtain ⟨B, e0, -, wB⟩ := DataW.trod_int Tryz.underlying22 k0
  obtain ⟨W, e1, -, wW⟩ := DataW.trod_int Tryz.underlying3 k1
  obtain ⟨nD, at', fa, hD⟩ := drops_raw k2
  obtain ⟨b1, e3, -, w3⟩ := DataW.trod_int Tryz.underlying22 h1
  obtain ⟨b2, e4, -, w4⟩ := DataW.trod_int Tryz.underlying22 h2
  obtain ⟨ep, e5, -, w5⟩ := DataW.trod_int Tryz.underlying22 h3
  obtain ⟨dc, e6, -, w6⟩ := DataW.trod_int Tryz.underlying22 h4
  obtain ⟨cl, e7, -, w7⟩ := DataW.trod_int Tryz.underlying22 h5
  simp at e0 e1 e3 e4 e5 e6 e7
  subst e0 e1 e3 e4 e5 e6 e7
  exact ⟨B, W, c2, nD, at', fa, b1, b2, ep, dc, cl, rfl, hD, (bounds_i64 wB).2, (bounds_i64 w5).2, (bounds_i64 w6).2, (bounds_i64 w7).2⟩
theorem cellsNw9 : Tryz.prog.cellsOf 32 = 5 := by kernel_rfl
theorem cellsAd9 : Tryz.prog.cellsOf 30 = 3 := by kernel_rfl
set_option maxRecDepth 100000 in
theorem open_now {H : Type} {enc : TypeId × Value → H} {w : World} {r : Reach} {b0 : Nat} {v : Value} {d : DataW H} {p : List MemPlace}
    (hv : Value.okWide Tryz.prog w r b0 32 v) (h : DataW.Trod enc Tryz.prog w 0 (fun _ => true) true 32 v d p) :
    ∃ (vM vV vP vG : Value) (T : Int) (nM nV nP nG : Nat) (M V P G : Nat → Int), v = .agg #[vM, vV, .int .i64 T, vP, vG] ∧ Ar w vM nM M ∧ Ar w vV nV V ∧ Ar w vP nP P ∧ Ar w vG nG G ∧ (-9223372036854775808 ≤ T ∧ T ≤ 9223372036854775807) := by
  obtain ⟨cs, rfl, hsz⟩ := okWide_struct Tryz.underlying32 hv
  obtain ⟨c0, c1, c2, c3, c4, rfl⟩ := five_of9 cs (hsz.trans cellsNw9)
  obtain ⟨fuel, hf⟩ := h
  obtain ⟨xs, n, -, -, -, hlen, hx⟩ := DataW.trod_struct Tryz.underlying32 hf
  obtain ⟨y0, y1, y2, rfl⟩ : ∃ y0 y1 y2, xs = [y0, y1, y2] := by
    match xs, hlen with
    | [a, b, c], _ => exact ⟨a, b, c, rfl⟩
  have h0 := hx 0 _ rfl
  have h1 := hx 1 _ rfl
  have h2 := hx 2 _ rfl
  simp [Value.cells, cellsAd9, cellsFs9] at h0 h1 h2
  obtain ⟨xs0, n0, -, -, -, hlen0, hx0⟩ := DataW.trod_struct Tryz.underlying30 h0
  obtain ⟨z0, z1, z2, rfl⟩ : ∃ z0 z1 z2, xs0 = [z0, z1, z2] := by
    match xs0, hlen0 with
    | [a, b, c], _ => exact ⟨a, b, c, rfl⟩
  have k0 := hx0 0 _ rfl
  have k1 := hx0 1 _ rfl
  have k2 := hx0 2 _ rfl
  simp [cellsFs9, cellsInt8] at k0 k1 k2
  obtain ⟨nM, M, hM⟩ := fixes_raw9 k0
  obtain ⟨nV, V, hV⟩ := fixes_raw9 k1
  obtain ⟨T, e2, -, w2⟩ := DataW.trod_int Tryz.underlying3 k2
  obtain ⟨nP, P, hP⟩ := fixes_raw9 h1
  obtain ⟨nG, G, hG⟩ := fixes_raw9 h2
  simp at e2
  subst e2
  exact ⟨c0, c1, c3, c4, T, nM, nV, nP, nG, M, V, P, G, rfl, hM, hV, hP, hG, bounds_i64 w2⟩
end Go.Proofs.YtcdehbhdloaieaaGreatDoor
