/-
Arguments of layer 17's laws, opened: bytes, texts, steps, lives, a place.
A list of bytes of one's own grows by noughts (append of make).
-/
import Derived.Test.YtkbpcmjdfaokhaaDoorRows
import Derived.Test.YtkbpcmjdfaokhaaDoorTie
import Derived.Test.YtkbpcmjdfaokhaaDoorZ06
import Derived.Test.YtkbpcmjdfaokhaaDoorZ04
import Derived.WalkKit
import Derived.ProofKit
import Derived.OpenShut
import Derived.ChangeOld
import Derived.Below
import Derived.Lib.SmallJoins
import Derived.Deep.SlicePairs
import Derived.Carry
import Derived.Lib.LaidTab
import Derived.LaidMore
import Derived.Stop.LaidErr
import Derived.Stop.Joined
import Derived.Lib.AppendZeros
import Derived.Lib.AppendZerosOnto

set_option linter.unusedVariables false
namespace Go.Proofs.YtkbpcmjdfaokhaaDoor
open Go.ChangeShapes Go.WideShapes Go.ChangeAt Go.RowKit Go.Joins

theorem own : ownKnob Tryd.prog.godebug = none := by kernel_rfl
theorem laidOutV : laidOutB Tryd.prog = true := by kernel_rfl
theorem cellsByte : Tryd.prog.cellsOf 5 = 1 := by kernel_rfl
theorem cellsBys : Tryd.prog.cellsOf 40 = 1 := by kernel_rfl
theorem cellsInt : Tryd.prog.cellsOf 3 = 1 := by kernel_rfl
theorem add_noneV (b o n : Nat) : (⟨b, o, none⟩ : Addr).add n = ⟨b, o + n, none⟩ := by
  unfold Addr.add
  split
  · subst n; rfl
  · rfl
theorem mk_len {α : Type} (n : Nat) (f : Nat → α) : ((List.range n).map f).length = n := by simp
theorem mk_get {α : Type} (n : Nat) (f : Nat → α) (d : α) (k : Nat) (hk : k < n) : ((List.range n).map f).getD k d = f k := by
  simp [List.getD, hk]
theorem bs_mk {w : World} {v : Value} {n : Nat} {f : Nat → Nat} (h : Ls w v n (fun k => .int .u8 ((f k : Nat) : Int))) : Bs w v ((List.range n).map f) := by
  unfold Bs
  rw [mk_len]
  exact Ls.congr h (fun k hk => by unfold b8f; rw [mk_get n f 0 k hk])
theorem is_mk {w : World} {v : Value} {n : Nat} {f : Nat → Int} (h : Ls w v n (fun k => .int .i64 (f k))) : Is w v ((List.range n).map f) := by
  unfold Is
  rw [mk_len]
  exact Ls.congr h (fun k hk => by unfold i6f; rw [mk_get n f 0 k hk])
set_option maxRecDepth 100000 in
theorem bytes_raw {H : Type} {enc : TypeId × Value → H} {w : World} {fuel : Nat} {v : Value} {x : DataW H × List MemPlace}
    (h : DataW.trod enc Tryd.prog w 0 (fun _ => true) true fuel 40 [v] = some x) : ∃ l : List Nat, okB l ∧ Bs w v l := by
  rcases Go.Deep.open_slice Tryd.underlying40 h with h0 | ⟨a, len, cap, m, n, D, Pl, hc, hb, hl, hm, hmm, -, hx⟩
  · have hc := h0.1
    simp at hc
    subst hc
    exact ⟨[], ⟨fun c hc => (by cases hc), by simp⟩, ls_none w _⟩
  · simp at hc
    subst hc
    simp only [if_true] at hmm
    subst hmm
    obtain ⟨ab, ao, spot⟩ := a
    have hint : ∀ i, i < len → ∃ q : Nat, w.cell? ((⟨ab, ao, spot⟩ : Addr).add i) = some (.int .u8 (q : Int)) ∧ q < 256 := fun i hi => by
      obtain ⟨cs', h1, h2⟩ := hx i (by omega)
      rw [cellsByte] at h1
      obtain ⟨_, hlen, hcell⟩ := World.cells?_some h1
      obtain ⟨x, e0, _, wx⟩ := DataW.trod_int Tryd.underlying5 h2
      subst e0
      have e1 := hcell 0 (by omega)
      rw [Go.Deep.add_add] at e1
      have hb := bounds_u8 wx
      obtain ⟨y, rfl⟩ : ∃ y : Nat, x = (y : Int) := ⟨x.toNat, by omega⟩
      exact ⟨y, by simpa using e1, by omega⟩
    obtain ⟨q, hq⟩ := Go.Deep.choose_lt hint
    have hmx : m ≤ 9223372036854775807 := hm
    refine ⟨(List.range len).map q, ⟨fun c hc => ?_, by rw [mk_len]; omega⟩, bs_mk ⟨some ⟨ab, ao, spot⟩, m, ab, ao, rfl, hl, ⟨hm, fun e => by cases e⟩, ?_, ?_⟩⟩
    · obtain ⟨k, hk, rfl⟩ := List.mem_map.1 hc
      exact (hq k (List.mem_range.1 hk)).2
    · intro h0
      have hspot : spot = none := by simpa [Addr.add] using World.cell?_spot (hq 0 h0).1
      rw [hspot]
    · intro j hj
      have hspot : spot = none := by simpa [Addr.add] using World.cell?_spot (hq 0 (by omega)).1
      subst hspot
      obtain ⟨d0, d1⟩ := hq j hj
      rw [add_noneV] at d0
      exact d0
set_option maxRecDepth 100000 in
/-- A text, and numbers. -/
theorem open_bytes {H : Type} {enc : TypeId × Value → H} {w : World} {v : Value} {d : DataW H} {p : List MemPlace} {r : Reach} {b0 : Nat}
    (hv : Value.okWide Tryd.prog w r b0 40 v) (h : DataW.Trod enc Tryd.prog w 0 (fun _ => true) true 40 v d p) : ∃ l : List Nat, okB l ∧ Bs w v l := by
  obtain ⟨adr, len, cap, rfl⟩ := okWide_slice Tryd.underlying40 hv
  obtain ⟨fuel, h⟩ := h
  exact bytes_raw (by simpa [Value.cells] using h)
theorem cellsFate : Tryd.prog.cellsOf 106 = 2 := by kernel_rfl
theorem cellsFates : Tryd.prog.cellsOf 41 = 1 := by kernel_rfl
theorem cellsOp : Tryd.prog.cellsOf 43 = 4 := by kernel_rfl
set_option maxRecDepth 100000 in
theorem fates_raw {H : Type} {enc : TypeId × Value → H} {w : World} {fuel : Nat} {v : Value} {x : DataW H × List MemPlace}
    (h : DataW.trod enc Tryd.prog w 0 (fun _ => true) true fuel 41 [v] = some x) : ∃ fs : List (Int × Int), Fts w v fs := by
  rcases Go.Deep.open_slice Tryd.underlying41 h with h0 | ⟨a, len, cap, m, n, D, Pl, hc, hb, hl, hm, hmm, -, hx⟩
  · have hc := h0.1
    simp at hc
    subst hc
    exact ⟨[], fts_nil w⟩
  · simp at hc
    subst hc
    simp only [if_true] at hmm
    subst hmm
    obtain ⟨ab, ao, spot⟩ := a
    have hint : ∀ i, i < len → ∃ q : Int × Int, w.cell? ((⟨ab, ao, spot⟩ : Addr).add (i * 2)) = some (.int .i64 q.1) ∧ w.cell? ((⟨ab, ao, spot⟩ : Addr).add (i * 2 + 1)) = some (.int .i64 q.2) := fun i hi => by
      obtain ⟨cs', h1, h2⟩ := hx i (by omega)
      rw [cellsFate] at h1
      obtain ⟨_, hlen, hcell⟩ := World.cells?_some h1
      obtain ⟨c0, c1, rfl⟩ : ∃ c0 c1, cs' = [c0, c1] := by
        match cs', hlen with
        | [a, b], _ => exact ⟨a, b, rfl⟩
      obtain ⟨xs, n', -, -, -, hxl, hxx⟩ := DataW.trod_struct Tryd.underlying106 h2
      obtain ⟨y0, y1, rfl⟩ : ∃ y0 y1, xs = [y0, y1] := by
        match xs, hxl with
        | [a, b], _ => exact ⟨a, b, rfl⟩
      have t0 := hxx 0 _ rfl
      have t1 := hxx 1 _ rfl
      simp [cellsInt] at t0 t1
      obtain ⟨k0, e0, -, w0⟩ := DataW.trod_int Tryd.underlying3 t0
      obtain ⟨k1, e1, -, w1⟩ := DataW.trod_int Tryd.underlying3 t1
      simp at e0 e1
      subst e0 e1
      have f0 := hcell 0 (by omega)
      have f1 := hcell 1 (by omega)
      rw [Go.Deep.add_add] at f0 f1
      exact ⟨(k0, k1), by simpa using f0, by simpa using f1⟩
    obtain ⟨q, hq⟩ := Go.Deep.choose_lt hint
    refine ⟨(List.range len).map q, some ⟨ab, ao, spot⟩, m, ab, ao, by rw [mk_len], by rw [mk_len]; exact hl, hm, ?_, ?_⟩
    · intro h0
      rw [mk_len] at h0
      have hspot : spot = none := by simpa [Addr.add] using World.cell?_spot (hq 0 h0).1
      rw [hspot]
    · intro j hj
      rw [mk_len] at hj
      have hspot : spot = none := by simpa [Addr.add] using World.cell?_spot (hq 0 (by omega)).1
      subst hspot
      obtain ⟨d0, d1⟩ := hq j hj
      rw [add_noneV] at d0 d1
      rw [mk_get len q (0, 0) j hj]
      exact ⟨d0, by rw [Nat.add_assoc]; exact d1⟩
set_option maxRecDepth 100000 in
theorem open_fates {H : Type} {enc : TypeId × Value → H} {w : World} {v : Value} {d : DataW H} {p : List MemPlace} {r : Reach} {b0 : Nat}
    (hv : Value.okWide Tryd.prog w r b0 41 v) (h : DataW.Trod enc Tryd.prog w 0 (fun _ => true) true 41 v d p) : ∃ fs : List (Int × Int), Fts w v fs := by
  obtain ⟨adr, len, cap, rfl⟩ := okWide_slice Tryd.underlying41 hv
  obtain ⟨fuel, h⟩ := h
  exact fates_raw (by simpa [Value.cells] using h)
set_option maxRecDepth 100000 in
theorem texts_raw {H : Type} {enc : TypeId × Value → H} {w : World} {fuel : Nat} {v : Value} {x : DataW H × List MemPlace}
    (h : DataW.trod enc Tryd.prog w 0 (fun _ => true) true fuel 53 [v] = some x) : ∃ ls : List (List Nat), (∀ j, j < ls.length → ∀ c ∈ ls.getD j [], c < 256) ∧ Txs w v ls := by
  rcases Go.Deep.open_slice Tryd.underlying53 h with h0 | ⟨a, len, cap, m, n, D, Pl, hc, hb, hl, hm, hmm, -, hx⟩
  · have hc := h0.1
    simp at hc
    subst hc
    exact ⟨[], fun t ht => (by simp at ht), none, 0, 0, 0, rfl, Nat.le_refl _, Nat.zero_le _, fun h => by simp at h, fun j hj => by simp at hj⟩
  · simp at hc
    subst hc
    simp only [if_true] at hmm
    subst hmm
    obtain ⟨ab, ao, spot⟩ := a
    have hint : ∀ i, i < len → ∃ q : List Nat × Value, w.cell? ((⟨ab, ao, spot⟩ : Addr).add i) = some q.2 ∧ Bs w q.2 q.1 ∧ okB q.1 := fun i hi => by
      obtain ⟨cs', h1, h2⟩ := hx i (by omega)
      rw [cellsBys] at h1
      obtain ⟨_, hlen, hcell⟩ := World.cells?_some h1
      obtain ⟨c0, rfl⟩ : ∃ c0, cs' = [c0] := by
        match cs', hlen with
        | [a], _ => exact ⟨a, rfl⟩
      obtain ⟨lb, gb, hB⟩ := bytes_raw h2
      have f0 := hcell 0 (by omega)
      rw [Go.Deep.add_add] at f0
      exact ⟨(lb, c0), by simpa using f0, hB, gb⟩
    haveI : Inhabited (List Nat × Value) := ⟨([], .bool false)⟩
    obtain ⟨q, hq⟩ := Go.Deep.choose_lt hint
    refine ⟨(List.range len).map (fun i => (q i).1), fun j hj => ?_, some ⟨ab, ao, spot⟩, m, ab, ao, by rw [mk_len], by rw [mk_len]; exact hl, hm, ?_, ?_⟩
    · rw [mk_len] at hj
      rw [mk_get len (fun i => (q i).1) [] j hj]
      exact (hq j hj).2.2.1
    · intro h0
      have hspot : spot = none := by simpa [Addr.add] using World.cell?_spot (hq 0 (by rw [mk_len] at h0; exact h0)).1
      rw [hspot]
    · intro j hj
      rw [mk_len] at hj
      have hspot : spot = none := by simpa [Addr.add] using World.cell?_spot (hq 0 (by omega)).1
      subst hspot
      obtain ⟨d0, d1, -⟩ := hq j hj
      rw [add_noneV] at d0
      refine ⟨(q j).2, d0, ?_⟩
      rw [mk_get len (fun i => (q i).1) [] j hj]
      exact d1
set_option maxRecDepth 100000 in
/-- A list of texts. -/
theorem open_texts {H : Type} {enc : TypeId × Value → H} {w : World} {r : Reach} {b0 : Nat} {v : Value} {d : DataW H} {p : List MemPlace}
    (hv : Value.okWide Tryd.prog w r b0 53 v) (h : DataW.Trod enc Tryd.prog w 0 (fun _ => true) true 53 v d p) : ∃ ls : List (List Nat), (∀ j, j < ls.length → ∀ c ∈ ls.getD j [], c < 256) ∧ Txs w v ls := by
  obtain ⟨adr, len, cap, rfl⟩ := okWide_slice Tryd.underlying53 hv
  obtain ⟨fuel, h⟩ := h
  exact texts_raw (by simpa [Value.cells] using h)
set_option maxRecDepth 100000 in
/-- A list of steps. -/
theorem open_ops {H : Type} {enc : TypeId × Value → H} {w : World} {r : Reach} {b0 : Nat} {v : Value} {d : DataW H} {p : List MemPlace}
    (hv : Value.okWide Tryd.prog w r b0 24 v) (h : DataW.Trod enc Tryd.prog w 0 (fun _ => true) true 24 v d p) : ∃ os : List Opv, ((∀ j, j < os.length → ∀ c ∈ (os.getD j op0).b, c < 256) ∧ ∀ j, j < os.length → Bd64 (os.getD j op0).i) ∧ Ops w v os := by
  obtain ⟨adr, len, cap, rfl⟩ := okWide_slice Tryd.underlying24 hv
  obtain ⟨fuel, h⟩ := h
  rcases Go.Deep.open_slice Tryd.underlying24 h with h0 | ⟨a, len', cap', m, n, D, Pl, hc, hb, hl, hm, hmm, -, hx⟩
  · have hc := h0.1
    simp [Value.cells] at hc
    obtain ⟨rfl, rfl, rfl⟩ := hc
    exact ⟨[], ⟨fun t ht => (by simp at ht), fun t ht => (by simp at ht)⟩, none, 0, 0, 0, rfl, Nat.le_refl _, Nat.zero_le _, fun h => by simp at h, fun j hj => by simp at hj⟩
  · simp [Value.cells] at hc
    obtain ⟨rfl, rfl, rfl⟩ := hc
    simp only [if_true] at hmm
    subst hmm
    obtain ⟨ab, ao, spot⟩ := a
    have hint : ∀ i, i < len → ∃ q : Opv × (Value × Value), (w.cell? ((⟨ab, ao, spot⟩ : Addr).add (i * 4)) = some (.int .i64 q.1.k) ∧ w.cell? ((⟨ab, ao, spot⟩ : Addr).add (i * 4 + 1)) = some (.int .i64 q.1.i) ∧ w.cell? ((⟨ab, ao, spot⟩ : Addr).add (i * 4 + 2)) = some q.2.1 ∧ w.cell? ((⟨ab, ao, spot⟩ : Addr).add (i * 4 + 3)) = some q.2.2) ∧ (Bs w q.2.1 q.1.b ∧ Fts w q.2.2 q.1.fs) ∧ okB q.1.b ∧ Bd64 q.1.i := fun i hi => by
      obtain ⟨cs', h1, h2⟩ := hx i (by omega)
      rw [cellsOp] at h1
      obtain ⟨_, hlen, hcell⟩ := World.cells?_some h1
      obtain ⟨c0, c1, c2, c3, rfl⟩ : ∃ c0 c1 c2 c3, cs' = [c0, c1, c2, c3] := by
        match cs', hlen with
        | [a, b, c, d], _ => exact ⟨a, b, c, d, rfl⟩
      obtain ⟨xs, n', -, -, -, hxl, hxx⟩ := DataW.trod_struct Tryd.underlying43 h2
      obtain ⟨y0, y1, y2, y3, rfl⟩ : ∃ y0 y1 y2 y3, xs = [y0, y1, y2, y3] := by
        match xs, hxl with
        | [a, b, c, d], _ => exact ⟨a, b, c, d, rfl⟩
      have t0 := hxx 0 _ rfl
      have t1 := hxx 1 _ rfl
      have t2 := hxx 2 _ rfl
      have t3 := hxx 3 _ rfl
      simp [cellsInt, cellsBys, cellsFates] at t0 t1 t2 t3
      obtain ⟨k0, e0, -, w0⟩ := DataW.trod_int Tryd.underlying3 t0
      obtain ⟨k1, e1, -, w1⟩ := DataW.trod_int Tryd.underlying3 t1
      obtain ⟨lb, gb, hB⟩ := bytes_raw t2
      obtain ⟨ff, hF⟩ := fates_raw t3
      simp at e0 e1
      subst e0 e1
      have f0 := hcell 0 (by omega)
      have f1 := hcell 1 (by omega)
      have f2 := hcell 2 (by omega)
      have f3 := hcell 3 (by omega)
      rw [Go.Deep.add_add] at f0 f1 f2 f3
      exact ⟨(⟨k0, k1, lb, ff⟩, c2, c3), ⟨by simpa using f0, by simpa using f1, by simpa using f2, by simpa using f3⟩, ⟨hB, hF⟩, gb, bounds_i64 w1⟩
    haveI : Inhabited (Opv × (Value × Value)) := ⟨(op0, .bool false, .bool false)⟩
    obtain ⟨q, hq⟩ := Go.Deep.choose_lt hint
    refine ⟨(List.range len).map (fun i => (q i).1), ⟨fun j hj => ?_, fun j hj => ?_⟩, some ⟨ab, ao, spot⟩, m, ab, ao, by rw [mk_len], by rw [mk_len]; exact hl, hm, ?_, ?_⟩
    · rw [mk_len] at hj
      rw [mk_get len (fun i => (q i).1) op0 j hj]
      exact (hq j hj).2.2.1.1
    · rw [mk_len] at hj
      rw [mk_get len (fun i => (q i).1) op0 j hj]
      exact (hq j hj).2.2.2
    · intro h0
      rw [mk_len] at h0
      have hspot : spot = none := by simpa [Addr.add] using World.cell?_spot (hq 0 h0).1.1
      rw [hspot]
    · intro j hj
      rw [mk_len] at hj
      have hspot : spot = none := by simpa [Addr.add] using World.cell?_spot (hq 0 (by omega)).1.1
      subst hspot
      obtain ⟨⟨d0, d1, d2, d3⟩, ⟨z1, z2⟩, -⟩ := hq j hj
      rw [add_noneV] at d0 d1 d2 d3
      refine ⟨(q j).2.1, (q j).2.2, ?_⟩
      rw [mk_get len (fun i => (q i).1) op0 j hj]
      exact ⟨d0, by rw [Nat.add_assoc]; exact d1, by rw [Nat.add_assoc]; exact d2, by rw [Nat.add_assoc]; exact d3, z1, z2⟩
theorem cellsTxs : Tryd.prog.cellsOf 53 = 1 := by kernel_rfl
theorem cellsLf : Tryd.prog.cellsOf 61 = 3 := by kernel_rfl
set_option maxRecDepth 100000 in
/-- A list of lives. -/
theorem open_lives {H : Type} {enc : TypeId × Value → H} {w : World} {r : Reach} {b0 : Nat} {v : Value} {d : DataW H} {p : List MemPlace}
    (hv : Value.okWide Tryd.prog w r b0 59 v) (h : DataW.Trod enc Tryd.prog w 0 (fun _ => true) true 59 v d p) : ∃ os : List Lfj, (∀ j, j < os.length → (∀ k, k < (os.getD j lfj0).ts.length → ∀ c ∈ (os.getD j lfj0).ts.getD k [], c < 256) ∧ Bd64 (os.getD j lfj0).n) ∧ Lvj w v os := by
  obtain ⟨adr, len, cap, rfl⟩ := okWide_slice Tryd.underlying59 hv
  obtain ⟨fuel, h⟩ := h
  rcases Go.Deep.open_slice Tryd.underlying59 h with h0 | ⟨a, len', cap', m, n, D, Pl, hc, hb, hl, hm, hmm, -, hx⟩
  · have hc := h0.1
    simp [Value.cells] at hc
    obtain ⟨rfl, rfl, rfl⟩ := hc
    exact ⟨[], fun t ht => (by simp at ht), none, 0, 0, 0, rfl, Nat.le_refl _, Nat.zero_le _, fun h => by simp at h, fun j hj => by simp at hj⟩
  · simp [Value.cells] at hc
    obtain ⟨rfl, rfl, rfl⟩ := hc
    simp only [if_true] at hmm
    subst hmm
    obtain ⟨ab, ao, spot⟩ := a
    have hint : ∀ i, i < len → ∃ q : Lfj × (Value × Value), (w.cell? ((⟨ab, ao, spot⟩ : Addr).add (i * 3)) = some q.2.1 ∧ w.cell? ((⟨ab, ao, spot⟩ : Addr).add (i * 3 + 1)) = some (.int .i64 q.1.n) ∧ w.cell? ((⟨ab, ao, spot⟩ : Addr).add (i * 3 + 2)) = some q.2.2) ∧ (Txs w q.2.1 q.1.ts ∧ Fts w q.2.2 q.1.fs) ∧ (∀ k, k < q.1.ts.length → ∀ c ∈ q.1.ts.getD k [], c < 256) ∧ Bd64 q.1.n := fun i hi => by
      obtain ⟨cs', h1, h2⟩ := hx i (by omega)
      rw [cellsLf] at h1
      obtain ⟨_, hlen, hcell⟩ := World.cells?_some h1
      obtain ⟨c0, c1, c2, rfl⟩ : ∃ c0 c1 c2, cs' = [c0, c1, c2] := by
        match cs', hlen with
        | [a, b, c], _ => exact ⟨a, b, c, rfl⟩
      obtain ⟨xs, n', -, -, -, hxl, hxx⟩ := DataW.trod_struct Tryd.underlying61 h2
      obtain ⟨y0, y1, y2, rfl⟩ : ∃ y0 y1 y2, xs = [y0, y1, y2] := by
        match xs, hxl with
        | [a, b, c], _ => exact ⟨a, b, c, rfl⟩
      have t0 := hxx 0 _ rfl
      have t1 := hxx 1 _ rfl
      have t2 := hxx 2 _ rfl
      simp [cellsInt, cellsTxs, cellsFates] at t0 t1 t2
      obtain ⟨lb, gb, hB⟩ := texts_raw t0
      obtain ⟨k1, e1, -, w1⟩ := DataW.trod_int Tryd.underlying3 t1
      obtain ⟨ff, hF⟩ := fates_raw t2
      simp at e1
      subst e1
      have f0 := hcell 0 (by omega)
      have f1 := hcell 1 (by omega)
      have f2 := hcell 2 (by omega)
      rw [Go.Deep.add_add] at f0 f1 f2
      exact ⟨(⟨lb, k1, ff⟩, c0, c2), ⟨by simpa using f0, by simpa using f1, by simpa using f2⟩, ⟨hB, hF⟩, gb, bounds_i64 w1⟩
    haveI : Inhabited (Lfj × (Value × Value)) := ⟨(lfj0, .bool false, .bool false)⟩
    obtain ⟨q, hq⟩ := Go.Deep.choose_lt hint
    refine ⟨(List.range len).map (fun i => (q i).1), fun j hj => ?_, some ⟨ab, ao, spot⟩, m, ab, ao, by rw [mk_len], by rw [mk_len]; exact hl, hm, ?_, ?_⟩
    · rw [mk_len] at hj
      rw [mk_get len (fun i => (q i).1) lfj0 j hj]
      exact (hq j hj).2.2
    · intro h0
      rw [mk_len] at h0
      have hspot : spot = none := by simpa [Addr.add] using World.cell?_spot (hq 0 h0).1.1
      rw [hspot]
    · intro j hj
      rw [mk_len] at hj
      have hspot : spot = none := by simpa [Addr.add] using World.cell?_spot (hq 0 (by omega)).1.1
      subst hspot
      obtain ⟨⟨d0, d1, d2⟩, ⟨z1, z2⟩, -⟩ := hq j hj
      rw [add_noneV] at d0 d1 d2
      refine ⟨(q j).2.1, (q j).2.2, ?_⟩
      rw [mk_get len (fun i => (q i).1) lfj0 j hj]
      exact ⟨d0, by rw [Nat.add_assoc]; exact d1, by rw [Nat.add_assoc]; exact d2, z1, z2⟩
theorem cellsPl : Tryd.prog.cellsOf 23 = 3 := by kernel_rfl
theorem three_of {α : Type} (l : Array α) (h : l.size = 3) : ∃ a b c, l = #[a, b, c] := by
  obtain ⟨l⟩ := l
  match l, h with
  | [a, b, c], _ => exact ⟨a, b, c, rfl⟩
set_option maxRecDepth 100000 in
/-- A place. -/
theorem open_place {H : Type} {enc : TypeId × Value → H} {w : World} {r : Reach} {b0 : Nat} {v : Value} {d : DataW H} {p : List MemPlace}
    (hv : Value.okWide Tryd.prog w r b0 23 v) (h : DataW.Trod enc Tryd.prog w 0 (fun _ => true) true 23 v d p) : ∃ a b c : Int, v = .agg #[.int .i64 a, .int .i64 b, .int .i64 c] ∧ Bd64 a ∧ Bd64 b ∧ Bd64 c := by
  obtain ⟨cs, rfl, hsz⟩ := okWide_struct Tryd.underlying23 hv
  obtain ⟨c0, c1, c2, rfl⟩ := three_of cs (hsz.trans cellsPl)
  obtain ⟨fuel, hf⟩ := h
  obtain ⟨xs, n, -, -, -, hlen, hx⟩ := DataW.trod_struct Tryd.underlying23 hf
  have cI : Tryd.prog.cellsOf 3 = 1 := by kernel_rfl
  obtain ⟨y0, y1, y2, rfl⟩ : ∃ y0 y1 y2, xs = [y0, y1, y2] := by
    match xs, hlen with
    | [a, b, c], _ => exact ⟨a, b, c, rfl⟩
  have h0 := hx 0 _ rfl
  have h1 := hx 1 _ rfl
  have h2 := hx 2 _ rfl
  simp [Value.cells, cI] at h0 h1 h2
  obtain ⟨a0, e0, -, w0⟩ := DataW.trod_int Tryd.underlying3 h0
  obtain ⟨a1, e1, -, w1⟩ := DataW.trod_int Tryd.underlying3 h1
  obtain ⟨a2, e2, -, w2⟩ := DataW.trod_int Tryd.underlying3 h2
  simp at e0 e1 e2
  subst e0 e1 e2
  exact ⟨a0, a1, a2, rfl, bounds_i64 w0, bounds_i64 w1, bounds_i64 w2⟩
/-! The table, read off the row's condition. -/
def laidA : List (String × DataW Unit) := [("regatta/journal.widths", Rows.laid_regatta_journal_widths)]
theorem gWdN : Tryd.prog.globalNamed "regatta/journal.widths" = some 0 := by kernel_rfl
theorem tWdN : (Tryd.prog.globals[0]?).map (·.type) = some 115 := by kernel_rfl
theorem undWdN : Tryd.prog.underlying 115 = some (.array 5 3) := by kernel_rfl
theorem cellsWd : Tryd.prog.cellsOf 115 = 5 := by kernel_rfl
def wdZ : List Int := [4, 2, 2, 8, 8]
theorem wd_datum : (Rows.laid_regatta_journal_widths : DataW Unit) = Lib.tabData .i64 wdZ := by kernel_rfl
theorem wd_head {rest : List (String × DataW Unit)} {W : World} (h : laidMet Tryd.prog (("regatta/journal.widths", Rows.laid_regatta_journal_widths) :: rest) W) : JT W := by
  rw [wd_datum] at h
  have hT := Lib.tabIs_of_head gWdN tWdN undWdN Tryd.underlying3 cellsInt cellsWd h
  exact ⟨hT.cell gWdN 0 (by decide), hT.cell gWdN 1 (by decide), hT.cell gWdN 2 (by decide), hT.cell gWdN 3 (by decide), hT.cell gWdN 4 (by decide)⟩
theorem tabs_of_A {W : World} (h : laidMetH Tryd.prog laidA W) : JT W := by
  rw [MakeChecks.laidMetH_plain _ _ _ (by kernel_rfl)] at h
  exact wd_head h
/-- The door's own heap meets the conditions. -/
theorem door_A (os : Os) (args : Array Value) : laidMetH Tryd.prog laidA ((World.doorLaid Tryd.prog 400 os).forCall (fun _ _ => 0) ⟨#[], args, []⟩).memory :=
  laidMetH_of_parts3 (fuel := 8) (laidMet_of_run' 8 (by kernel_rfl) (by kernel_rfl)) (by kernel_rfl) (by kernel_rfl)
end Go.Proofs.YtkbpcmjdfaokhaaDoor
set_option linter.unusedVariables false
set_option linter.unusedSimpArgs false
namespace Go.Proofs.YtkbpcmjdfaokhaaDoor
open Go.RowKit

theorem zeroCells_byte (m : Nat) : Builtin.zeroCells (Value.int .u8 0).cells m = (b8 (List.replicate m 0)).toArray := by
  apply Array.ext
  · simp [Builtin.zeroCells, b8, Value.cells]
  · intro i h1 h2
    have h3 : i < m := by simpa [b8] using h2
    simp [Builtin.zeroCells, b8, Value.cells, Nat.mod_one]
theorem run_append_room_zeros (w : World) (ty : TypeId) (i0 : TypeInfo) (hti : Tryd.prog.info? 5 = some i0) (hz : i0.zero = some (.int .u8 0)) (hi1 : i0.size = 1) (hi2 : i0.bytes = 1) (g sLen sCap : Nat) (cur : Array Value) (hg : w.heap[g]? = some (.cells cur 5 (0, 0))) (m : Nat) (hm : 0 < m) (hm2 : m ≤ 1073741824) (hroom : sLen + m ≤ sCap) (hfit : sLen + m ≤ cur.size) :
    (Builtin.append_ #[40, 3] ty #[.slice (some ⟨g, 0, none⟩) sLen sCap, .int .i64 (m : Int)]).run Tryd.prog w =
      .ok (.slice (some ⟨g, 0, none⟩) (sLen + m) sCap) (w.setRow g (cur.toList.take sLen ++ b8 (List.replicate m 0) ++ cur.toList.drop (sLen + m)).toArray) := by
  have hst := run_storeCells_at Tryd.prog g (sLen * i0.size) 5 (b8 (List.replicate m 0)) 0 cur w hg (by rw [hi1, b8_len, List.length_replicate]; omega) (b8_one _)
  have hw : IntKind.i64.wrap (m : Int) = m := by rw [IntKind.wrap_i64]; omega
  have hneg : ¬ ((m : Int) < 0) := by omega
  have hbig : ¬ (281474976710656 < (m : Int)) := by omega
  have hm0 : ¬ m = 0 := by omega
  simp only [Nat.add_zero, hi1, Nat.mul_one, b8_len, List.length_replicate] at hst
  have hzc := zeroCells_byte m
  simp [Builtin.append_, run_underlying Tryd.underlying40, run_underlying Tryd.underlying3, sizeOf, typeInfo, zeroValue, hti, hz, hi1, hi2, asInt, asIntOf, hw, hneg, hbig, hm0, hroom, hzc, Addr.add_lit, hst]
theorem run_append_own_zeros (w : World) (base : Nat) (ty : TypeId) (v : Value) (l : List Nat) (hO : Ob base w v l) (m : Nat) (hm : 0 < m) (hlen : l.length + m ≤ 1073741824) (hbase : base ≤ w.heap.size) :
    ∃ v' w', (Builtin.append_ #[40, 3] ty #[v, .int .i64 (m : Int)]).run Tryd.prog w = .ok v' w' ∧ Ob base w' v' (l ++ List.replicate m 0) ∧ w.grownBy w' v.ownBlock := by
  obtain ⟨i0, hti, hi0, hi1, hi2⟩ := byteInfo
  have hzs : ∀ k, Builtin.zeroCells (Value.int .u8 0).cells k = (b8 (List.replicate k 0)).toArray := zeroCells_byte
  have hxs : (b8 (l ++ List.replicate m 0)).length = (l.length + m) * 1 := by rw [b8_len, List.length_append, List.length_replicate, Nat.mul_one]
  have grown : ∀ (old : Nat), old < l.length + m → ∀ (row : Option Nat),
      Ob base (w.drew.alloc (.cells ((b8 l).toArray ++ Builtin.zeroCells (Value.int .u8 0).cells m ++ Builtin.zeroCells (Value.int .u8 0).cells (grownCap w (l.length + m) old 5 - (l.length + m))) 5))
        (.slice (some ⟨w.heap.size, 0, none⟩) (l.length + m) (grownCap w (l.length + m) old 5)) (l ++ List.replicate m 0) ∧
      w.grownBy (w.drew.alloc (.cells ((b8 l).toArray ++ Builtin.zeroCells (Value.int .u8 0).cells m ++ Builtin.zeroCells (Value.int .u8 0).cells (grownCap w (l.length + m) old 5 - (l.length + m))) 5)) row := by
    intro old ho row
    have hge := grownCap_ge w (l.length + m) old 5
    have hcm : grownCap w (l.length + m) old 5 ≤ maxLen := grownCap_le_maxLen w (l.length + m) old 5 (by unfold maxLen; omega)
    refine ⟨?_, ⟨rfl, rfl, rfl, by simp, fun k hk _ => heap_alloc_old w.drew _ hk⟩⟩
    unfold Ob
    rw [List.length_append, List.length_replicate]
    refine ⟨hxs, .inr ⟨w.heap.size, _, _, rfl, hbase, heap_alloc_new w.drew _, hge, hcm, ?_, ?_⟩⟩
    · simp only [Array.size_append, List.size_toArray, size_zeroCells, b8_len]
      simp [Value.cells]
      omega
    · rw [hzs m]
      simp only [Array.toList_append, List.append_assoc]
      rw [← List.append_assoc, ← b8_app, ← hxs]
      exact List.take_left
  rcases hO.2 with ⟨rfl, hn⟩ | ⟨g, cap, cur, rfl, hbg, hg, hnc, hcm, hcs, htake⟩
  · have hl : l = [] := List.eq_nil_of_length_eq_zero hn
    subst hl
    have hr := Lib.run_append_nil_zeros (P := Tryd.prog) w 40 3 ty 5 i0 (.int .u8 0) .i64 .i64 Tryd.underlying40 Tryd.underlying3 hti hi0 m hm (by omega) (by simp at hlen; omega) (by simp at hlen; rw [hi2]; omega)
    have hgr := grown 0 (by simp; omega) (Value.ownBlock (.slice none 0 0))
    simp only [List.length_nil, Nat.zero_add, List.nil_append] at hgr ⊢
    have e : (b8 []).toArray ++ Builtin.zeroCells (Value.int .u8 0).cells m = Builtin.zeroCells (Value.int .u8 0).cells m := by simp [b8]
    rw [e] at hgr
    exact ⟨_, _, hr, hgr.1, hgr.2⟩
  · by_cases hroom : l.length + m ≤ cap
    · have hcs2 : cur.size = cap := by rw [hcs, Nat.mul_one]
      have hr := run_append_room_zeros w ty i0 hti hi0 hi1 hi2 g l.length cap cur hg m hm (by omega) hroom (by omega)
      refine ⟨_, _, hr, ?_, ⟨rfl, rfl, rfl, by simp, fun k _ hk => setRow_other w g k _ (fun e => hk (by simp [Value.ownBlock, e]))⟩⟩
      unfold Ob
      rw [List.length_append, List.length_replicate]
      have ht : cur.toList.take l.length = b8 l := by simpa using htake
      refine ⟨hxs, .inr ⟨g, cap, _, rfl, hbg, setRow_heap w g cur _ 5 _ hg, hroom, hcm, ?_, ?_⟩⟩
      · simp only [List.size_toArray, List.length_append, List.length_take, List.length_drop, Array.length_toList, b8_len, List.length_replicate]
        omega
      · rw [ht, ← hxs, ← b8_app]
        exact List.take_left
    · have holds : ∀ j u, (b8 l)[j]? = some u → w.cell? ((⟨g, 0, none⟩ : Addr).add j) = some u := World.ownsRow.cells hO (g := g) rfl
      have hold := run_firstCells_some (P := Tryd.prog) w.drew i0.size l.length ⟨g, 0, none⟩ l.length cap (b8 l) (by rw [b8_len, hi1, Nat.mul_one]) holds
      have hr := Lib.run_append_grow_zeros (P := Tryd.prog) w 40 3 ty 5 i0 (.int .u8 0) .i64 .i64 Tryd.underlying40 Tryd.underlying3 hti hi0 (some ⟨g, 0, none⟩) l.length cap (b8 l) hold m hm (by omega) (by omega) (by omega) (by rw [hi2]; omega) (growslice_fits (by omega) (by rw [hi2]; omega))
      have hgr := grown cap (by omega) (Value.ownBlock (.slice (some ⟨g, 0, none⟩) l.length cap))
      exact ⟨_, _, hr, hgr.1, hgr.2⟩
/-- The operation. -/
theorem apZ {ops : Array Oper} {rest : List Oper} {o : Oper} {a : Act} {w : World} {Q : Exit → Act → World → Prop} (hgd : o.guard = none) (s x : Operand)
    (ho : o.op = .call { callee := .builtin .append, args := #[s, x], argTypes := #[40, 3] })
    (base : Nat) (v : Value) (l : List Nat) (hs : a.eval s = v) (hO : Ob base w v l) (m : Nat) (hx : a.eval x = .int .i64 (m : Int)) (hm : 0 < m) (hlen : l.length + m ≤ 1073741824) (hbase : base ≤ w.heap.size)
    (h : ∀ v' w', Ob base w' v' (l ++ List.replicate m 0) → Gw base w w' → wpList Tryd.prog ops Q rest (a.put o.dst v') w') : wpList Tryd.prog ops Q (o :: rest) a w :=
  wpList_plain hgd fun _ hK => by
    obtain ⟨v', w', hr, h2, h3⟩ := run_append_own_zeros w base o.type v l hO m hm hlen hbase
    unfold Oper.wp execOp
    simp only [ho, resolve, invoke, builtin, Sem.run_bind, Sem.run_pure, Result.andThen_ok, List.map_toArray, List.map_cons, List.map_nil, hs, hx, hr]
    exact hK _ _ (h v' w' h2 ⟨fun w0 hb => hb.grown h3 hbase (fun k hk => (hO.lt k hk).1), h3.size⟩)
end Go.Proofs.YtkbpcmjdfaokhaaDoor
