/-
  Arguments of layer 12's laws, opened: bytes, numbers, a list of things.
-/
import Derived.Test.YtahbpegjdmblaaaRows
import Derived.Test.YtahbpegjdmblaaaPkLawE
import Derived.WalkKit
import Derived.ProofKit
import Derived.OpenShut
import Derived.ChangeOld
import Derived.Below
import Derived.Lib.SmallJoins
import Derived.Deep.SlicePairs
import Derived.Carry
set_option linter.unusedVariables false
namespace Go.Proofs.Ytahbpegjdmblaaa
open Go.ChangeShapes Go.WideShapes Go.ChangeAt Go.RowKit Go.Joins

theorem own : ownKnob Try.prog.godebug = none := by kernel_rfl
theorem laidOutV : laidOutB Try.prog = true := by kernel_rfl
theorem cellsByte : Try.prog.cellsOf 5 = 1 := by kernel_rfl
theorem cellsBys : Try.prog.cellsOf 26 = 1 := by kernel_rfl
theorem cellsInt : Try.prog.cellsOf 3 = 1 := by kernel_rfl
theorem cellsInts : Try.prog.cellsOf 31 = 1 := by kernel_rfl
theorem add_noneV (b o n : Nat) : (⟨b, o, none⟩ : Addr).add n = ⟨b, o + n, none⟩ := by
  unfold Addr.add
  split
  · subst n; rfl
  · rfl
theorem mk_len {α : Type} (n : Nat) (f : Nat → α) : ((List.range n).map f).length = n := by simp
theorem mk_get {α : Type} (n : Nat) (f : Nat → α) (d : α) (k : Nat) (hk : k < n) : ((List.range n).map f).getD k d = f k := by
  simp [List.getD, hk]
theorem bs_mk {w : World} {v : Value} {n : Nat} {f : Nat → Nat} (h : Ls w v n (fun k => .int .u8 ((f k : Nat) : Int))) : Bs w v ((List.range n).map f) := by
  unfold Bs
  rw [mk_len]
  exact Ls.congr h (fun k hk => by unfold b8f; rw [mk_get n f 0 k hk])
theorem is_mk {w : World} {v : Value} {n : Nat} {f : Nat → Int} (h : Ls w v n (fun k => .int .i64 (f k))) : Is w v ((List.range n).map f) := by
  unfold Is
  rw [mk_len]
  exact Ls.congr h (fun k hk => by unfold i6f; rw [mk_get n f 0 k hk])
set_option maxRecDepth 100000 in
theorem bytes_raw {H : Type} {enc : TypeId × Value → H} {w : World} {fuel : Nat} {v : Value} {x : DataW H × List MemPlace}
    (h : DataW.trod enc Try.prog w 0 (fun _ => true) true fuel 26 [v] = some x) : ∃ l : List Nat, okB l ∧ Bs w v l := by
  rcases Go.Deep.open_slice Try.underlying26 h with h0 | ⟨a, len, cap, m, n, D, Pl, hc, hb, hl, hm, hmm, -, hx⟩
  · have hc := h0.1
    simp at hc
    subst hc
    exact ⟨[], ⟨fun c hc => (by cases hc), by simp⟩, ls_none w _⟩
  · simp at hc
    subst hc
    simp only [if_true] at hmm
    subst hmm
    obtain ⟨ab, ao, spot⟩ := a
    have hint : ∀ i, i < len → ∃ q : Nat, w.cell? ((⟨ab, ao, spot⟩ : Addr).add i) = some (.int .u8 (q : Int)) ∧ q < 256 := fun i hi => by
      obtain ⟨cs', h1, h2⟩ := hx i (by omega)
      rw [cellsByte] at h1
      obtain ⟨_, hlen, hcell⟩ := World.cells?_some h1
      obtain ⟨x, e0, _, wx⟩ := DataW.trod_int Try.underlying5 h2
      subst e0
      have e1 := hcell 0 (by omega)
      rw [Go.Deep.add_add] at e1
      have hb := bounds_u8 wx
      obtain ⟨y, rfl⟩ : ∃ y : Nat, x = (y : Int) := ⟨x.toNat, by omega⟩
      exact ⟨y, by simpa using e1, by omega⟩
    obtain ⟨q, hq⟩ := Go.Deep.choose_lt hint
    have hmx : m ≤ 9223372036854775807 := hm
    refine ⟨(List.range len).map q, ⟨fun c hc => ?_, by rw [mk_len]; omega⟩, bs_mk ⟨some ⟨ab, ao, spot⟩, m, ab, ao, rfl, hl, ⟨hm, fun e => by cases e⟩, ?_, ?_⟩⟩
    · obtain ⟨k, hk, rfl⟩ := List.mem_map.1 hc
      exact (hq k (List.mem_range.1 hk)).2
    · intro h0
      have hspot : spot = none := by simpa [Addr.add] using World.cell?_spot (hq 0 h0).1
      rw [hspot]
    · intro j hj
      have hspot : spot = none := by simpa [Addr.add] using World.cell?_spot (hq 0 (by omega)).1
      subst hspot
      obtain ⟨d0, d1⟩ := hq j hj
      rw [add_noneV] at d0
      exact d0
set_option maxRecDepth 100000 in
theorem ints_raw {H : Type} {enc : TypeId × Value → H} {w : World} {fuel : Nat} {v : Value} {x : DataW H × List MemPlace}
    (h : DataW.trod enc Try.prog w 0 (fun _ => true) true fuel 31 [v] = some x) : ∃ l : List Int, okL l ∧ Is w v l := by
  rcases Go.Deep.open_slice Try.underlying31 h with h0 | ⟨a, len, cap, m, n, D, Pl, hc, hb, hl, hm, hmm, -, hx⟩
  · have hc := h0.1
    simp at hc
    subst hc
    exact ⟨[], ⟨fun c hc => (by cases hc), by simp⟩, ls_none w _⟩
  · simp at hc
    subst hc
    simp only [if_true] at hmm
    subst hmm
    obtain ⟨ab, ao, spot⟩ := a
    have hint : ∀ i, i < len → ∃ q : Int, w.cell? ((⟨ab, ao, spot⟩ : Addr).add i) = some (.int .i64 q) ∧ okI q := fun i hi => by
      obtain ⟨cs', h1, h2⟩ := hx i (by omega)
      rw [cellsInt] at h1
      obtain ⟨_, hlen, hcell⟩ := World.cells?_some h1
      obtain ⟨x, e0, _, wx⟩ := DataW.trod_int Try.underlying3 h2
      subst e0
      have e1 := hcell 0 (by omega)
      rw [Go.Deep.add_add] at e1
      exact ⟨x, by simpa using e1, bounds_i64 wx⟩
    obtain ⟨q, hq⟩ := Go.Deep.choose_lt hint
    have hmx : m ≤ 9223372036854775807 := hm
    refine ⟨(List.range len).map q, ⟨fun c hc => ?_, by rw [mk_len]; omega⟩, is_mk ⟨some ⟨ab, ao, spot⟩, m, ab, ao, rfl, hl, ⟨hm, fun e => by cases e⟩, ?_, ?_⟩⟩
    · obtain ⟨k, hk, rfl⟩ := List.mem_map.1 hc
      exact (hq k (List.mem_range.1 hk)).2
    · intro h0
      have hspot : spot = none := by simpa [Addr.add] using World.cell?_spot (hq 0 h0).1
      rw [hspot]
    · intro j hj
      have hspot : spot = none := by simpa [Addr.add] using World.cell?_spot (hq 0 (by omega)).1
      subst hspot
      obtain ⟨d0, d1⟩ := hq j hj
      rw [add_noneV] at d0
      exact d0
/-- A text, and numbers. -/
theorem open_bytes {H : Type} {enc : TypeId × Value → H} {w : World} {v : Value} {d : DataW H} {p : List MemPlace} {r : Reach} {b0 : Nat}
    (hv : Value.okWide Try.prog w r b0 26 v) (h : DataW.Trod enc Try.prog w 0 (fun _ => true) true 26 v d p) : ∃ l : List Nat, okB l ∧ Bs w v l := by
  obtain ⟨adr, len, cap, rfl⟩ := okWide_slice Try.underlying26 hv
  obtain ⟨fuel, h⟩ := h
  exact bytes_raw (by simpa [Value.cells] using h)
theorem open_ints {H : Type} {enc : TypeId × Value → H} {w : World} {v : Value} {d : DataW H} {p : List MemPlace} {r : Reach} {b0 : Nat}
    (hv : Value.okWide Try.prog w r b0 31 v) (h : DataW.Trod enc Try.prog w 0 (fun _ => true) true 31 v d p) : ∃ l : List Int, okL l ∧ Is w v l := by
  obtain ⟨adr, len, cap, rfl⟩ := okWide_slice Try.underlying31 hv
  obtain ⟨fuel, h⟩ := h
  exact ints_raw (by simpa [Value.cells] using h)
theorem cellsFx : Try.prog.cellsOf 30 = 1 := by kernel_rfl
theorem cellsFs : Try.prog.cellsOf 32 = 1 := by kernel_rfl
theorem cellsU64 : Try.prog.cellsOf 29 = 1 := by kernel_rfl
theorem cellsThing : Try.prog.cellsOf 34 = 7 := by kernel_rfl
set_option maxRecDepth 100000 in
theorem fixes_raw {H : Type} {enc : TypeId × Value → H} {w : World} {fuel : Nat} {v : Value} {x : DataW H × List MemPlace}
    (h : DataW.trod enc Try.prog w 0 (fun _ => true) true fuel 32 [v] = some x) : ∃ l : List Int, okL l ∧ Is w v l := by
  rcases Go.Deep.open_slice Try.underlying32 h with h0 | ⟨a, len, cap, m, n, D, Pl, hc, hb, hl, hm, hmm, -, hx⟩
  · have hc := h0.1
    simp at hc
    subst hc
    exact ⟨[], ⟨fun c hc => (by cases hc), by simp⟩, ls_none w _⟩
  · simp at hc
    subst hc
    simp only [if_true] at hmm
    subst hmm
    obtain ⟨ab, ao, spot⟩ := a
    have hint : ∀ i, i < len → ∃ q : Int, w.cell? ((⟨ab, ao, spot⟩ : Addr).add i) = some (.int .i64 q) ∧ okI q := fun i hi => by
      obtain ⟨cs', h1, h2⟩ := hx i (by omega)
      rw [cellsFx] at h1
      obtain ⟨_, hlen, hcell⟩ := World.cells?_some h1
      obtain ⟨x, e0, _, wx⟩ := DataW.trod_int Try.underlying30 h2
      subst e0
      have e1 := hcell 0 (by omega)
      rw [Go.Deep.add_add] at e1
      exact ⟨x, by simpa using e1, bounds_i64 wx⟩
    obtain ⟨q, hq⟩ := Go.Deep.choose_lt hint
    have hmx : m ≤ 9223372036854775807 := hm
    refine ⟨(List.range len).map q, ⟨fun c hc => ?_, by rw [mk_len]; omega⟩, is_mk ⟨some ⟨ab, ao, spot⟩, m, ab, ao, rfl, hl, ⟨hm, fun e => by cases e⟩, ?_, ?_⟩⟩
    · obtain ⟨k, hk, rfl⟩ := List.mem_map.1 hc
      exact (hq k (List.mem_range.1 hk)).2
    · intro h0
      have hspot : spot = none := by simpa [Addr.add] using World.cell?_spot (hq 0 h0).1
      rw [hspot]
    · intro j hj
      have hspot : spot = none := by simpa [Addr.add] using World.cell?_spot (hq 0 (by omega)).1
      subst hspot
      obtain ⟨d0, d1⟩ := hq j hj
      rw [add_noneV] at d0
      exact d0
set_option maxRecDepth 100000 in
/-- A list of things. -/
theorem open_things {H : Type} {enc : TypeId × Value → H} {w : World} {r : Reach} {b0 : Nat} {v : Value} {d : DataW H} {p : List MemPlace}
    (hv : Value.okWide Try.prog w r b0 22 v) (h : DataW.Trod enc Try.prog w 0 (fun _ => true) true 22 v d p) : ∃ ts : List Th, (∀ t ∈ ts, t.good) ∧ Ts w v ts := by
  obtain ⟨adr, len, cap, rfl⟩ := okWide_slice Try.underlying22 hv
  obtain ⟨fuel, h⟩ := h
  rcases Go.Deep.open_slice Try.underlying22 h with h0 | ⟨a, len', cap', m, n, D, Pl, hc, hb, hl, hm, hmm, -, hx⟩
  · have hc := h0.1
    simp [Value.cells] at hc
    obtain ⟨rfl, rfl, rfl⟩ := hc
    exact ⟨[], fun t ht => (by cases ht), none, 0, 0, 0, rfl, Nat.le_refl _, Nat.zero_le _, fun h => by simp at h, fun j hj => by simp at hj⟩
  · simp [Value.cells] at hc
    obtain ⟨rfl, rfl, rfl⟩ := hc
    simp only [if_true] at hmm
    subst hmm
    obtain ⟨ab, ao, spot⟩ := a
    have hint : ∀ i, i < len → ∃ q : Th × (Value × Value × Value), (w.cell? ((⟨ab, ao, spot⟩ : Addr).add (i * 7)) = some (.int .i64 q.1.k) ∧ w.cell? ((⟨ab, ao, spot⟩ : Addr).add (i * 7 + 1)) = some (.int .u64 (q.1.u : Int)) ∧ w.cell? ((⟨ab, ao, spot⟩ : Addr).add (i * 7 + 2)) = some (.int .i64 q.1.n) ∧ w.cell? ((⟨ab, ao, spot⟩ : Addr).add (i * 7 + 3)) = some (.int .i64 q.1.x) ∧ w.cell? ((⟨ab, ao, spot⟩ : Addr).add (i * 7 + 4)) = some q.2.1 ∧ w.cell? ((⟨ab, ao, spot⟩ : Addr).add (i * 7 + 5)) = some q.2.2.1 ∧ w.cell? ((⟨ab, ao, spot⟩ : Addr).add (i * 7 + 6)) = some q.2.2.2) ∧ (Bs w q.2.1 q.1.b ∧ Is w q.2.2.1 q.1.l ∧ Is w q.2.2.2 q.1.f) ∧ q.1.good := fun i hi => by
      obtain ⟨cs', h1, h2⟩ := hx i (by omega)
      rw [cellsThing] at h1
      obtain ⟨_, hlen, hcell⟩ := World.cells?_some h1
      obtain ⟨c0, c1, c2, c3, c4, c5, c6, rfl⟩ : ∃ c0 c1 c2 c3 c4 c5 c6, cs' = [c0, c1, c2, c3, c4, c5, c6] := by
        match cs', hlen with
        | [a, b, c, d, e, f, g], _ => exact ⟨a, b, c, d, e, f, g, rfl⟩
      obtain ⟨xs, n', -, -, -, hxl, hxx⟩ := DataW.trod_struct Try.underlying34 h2
      obtain ⟨y0, y1, y2, y3, y4, y5, y6, rfl⟩ : ∃ y0 y1 y2 y3 y4 y5 y6, xs = [y0, y1, y2, y3, y4, y5, y6] := by
        match xs, hxl with
        | [a, b, c, d, e, f, g], _ => exact ⟨a, b, c, d, e, f, g, rfl⟩
      have t0 := hxx 0 _ rfl
      have t1 := hxx 1 _ rfl
      have t2 := hxx 2 _ rfl
      have t3 := hxx 3 _ rfl
      have t4 := hxx 4 _ rfl
      have t5 := hxx 5 _ rfl
      have t6 := hxx 6 _ rfl
      simp [cellsInt, cellsU64, cellsFx, cellsBys, cellsInts, cellsFs] at t0 t1 t2 t3 t4 t5 t6
      obtain ⟨k0, e0, -, w0⟩ := DataW.trod_int Try.underlying3 t0
      obtain ⟨k1, e1, -, w1⟩ := DataW.trod_int Try.underlying29 t1
      obtain ⟨k2, e2, -, w2⟩ := DataW.trod_int Try.underlying3 t2
      obtain ⟨k3, e3, -, w3⟩ := DataW.trod_int Try.underlying30 t3
      obtain ⟨lb, gb, hB⟩ := bytes_raw t4
      obtain ⟨ll, gl, hL⟩ := ints_raw t5
      obtain ⟨lf, gf, hF⟩ := fixes_raw t6
      simp at e0 e1 e2 e3
      subst e0 e1 e2 e3
      have hb1 := bounds_u64 w1
      obtain ⟨u, rfl⟩ : ∃ u : Nat, k1 = (u : Int) := ⟨k1.toNat, by omega⟩
      have f0 := hcell 0 (by omega)
      have f1 := hcell 1 (by omega)
      have f2 := hcell 2 (by omega)
      have f3 := hcell 3 (by omega)
      have f4 := hcell 4 (by omega)
      have f5 := hcell 5 (by omega)
      have f6 := hcell 6 (by omega)
      rw [Go.Deep.add_add] at f0 f1 f2 f3 f4 f5 f6
      exact ⟨(⟨k0, u, k2, k3, lb, ll, lf⟩, c4, c5, c6), ⟨by simpa using f0, by simpa using f1, by simpa using f2, by simpa using f3, by simpa using f4, by simpa using f5, by simpa using f6⟩, ⟨hB, hL, hF⟩, ⟨by show u < 18446744073709551616; omega, bounds_i64 w2, bounds_i64 w3, gb, gl, gf⟩⟩
    haveI : Inhabited (Th × (Value × Value × Value)) := ⟨(th0, .bool false, .bool false, .bool false)⟩
    obtain ⟨q, hq⟩ := Go.Deep.choose_lt hint
    refine ⟨(List.range len).map (fun i => (q i).1), fun t ht => ?_, some ⟨ab, ao, spot⟩, m, ab, ao, by rw [mk_len], by rw [mk_len]; exact hl, hm, ?_, ?_⟩
    · obtain ⟨k, hk, rfl⟩ := List.mem_map.1 ht
      exact (hq k (List.mem_range.1 hk)).2.2
    · intro h0
      rw [mk_len] at h0
      have hspot : spot = none := by simpa [Addr.add] using World.cell?_spot (hq 0 h0).1.1
      rw [hspot]
    · intro j hj
      rw [mk_len] at hj
      have hspot : spot = none := by simpa [Addr.add] using World.cell?_spot (hq 0 (by omega)).1.1
      subst hspot
      obtain ⟨⟨d0, d1, d2, d3, d4, d5, d6⟩, ⟨z1, z2, z3⟩, -⟩ := hq j hj
      rw [add_noneV] at d0 d1 d2 d3 d4 d5 d6
      refine ⟨(q j).2.1, (q j).2.2.1, (q j).2.2.2, ?_⟩
      rw [mk_get len (fun i => (q i).1) th0 j hj]
      exact ⟨d0, by rw [Nat.add_assoc]; exact d1, by rw [Nat.add_assoc]; exact d2, by rw [Nat.add_assoc]; exact d3, by rw [Nat.add_assoc]; exact d4, by rw [Nat.add_assoc]; exact d5, by rw [Nat.add_assoc]; exact d6, z1, z2, z3⟩
end Go.Proofs.Ytahbpegjdmblaaa
