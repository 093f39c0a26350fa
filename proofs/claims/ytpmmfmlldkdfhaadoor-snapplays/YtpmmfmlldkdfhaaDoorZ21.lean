/-
  Arguments of layer 16's laws, opened: bytes, texts, steps, lives, a place; crc's table, read off the row's condition.
-/
import Derived.Test.YtpmmfmlldkdfhaaDoorRows
import Derived.Test.YtpmmfmlldkdfhaaDoorTie
import Derived.Test.YtpmmfmlldkdfhaaDoorZ20
import Derived.WalkKit
import Derived.ProofKit
import Derived.OpenShut
import Derived.ChangeOld
import Derived.Below
import Derived.Lib.SmallJoins
import Derived.Deep.SlicePairs
import Derived.Carry
import Derived.Lib.LaidTab
import Derived.LaidMore
import Derived.Stop.LaidErr
import Derived.Stop.Joined

set_option linter.unusedVariables false
namespace Go.Proofs.YtpmmfmlldkdfhaaDoor
open Go.ChangeShapes Go.WideShapes Go.ChangeAt Go.RowKit Go.Joins

theorem own : ownKnob Tryd.prog.godebug = none := by kernel_rfl
theorem laidOutV : laidOutB Tryd.prog = true := by kernel_rfl
theorem cellsByte : Tryd.prog.cellsOf 5 = 1 := by kernel_rfl
theorem cellsBys : Tryd.prog.cellsOf 39 = 1 := by kernel_rfl
theorem cellsInt : Tryd.prog.cellsOf 3 = 1 := by kernel_rfl
theorem cellsInts : Tryd.prog.cellsOf 127 = 1 := by kernel_rfl
theorem add_noneV (b o n : Nat) : (⟨b, o, none⟩ : Addr).add n = ⟨b, o + n, none⟩ := by
  unfold Addr.add
  split
  · subst n; rfl
  · rfl
theorem mk_len {α : Type} (n : Nat) (f : Nat → α) : ((List.range n).map f).length = n := by simp
theorem mk_get {α : Type} (n : Nat) (f : Nat → α) (d : α) (k : Nat) (hk : k < n) : ((List.range n).map f).getD k d = f k := by
  simp [List.getD, hk]
theorem bs_mk {w : World} {v : Value} {n : Nat} {f : Nat → Nat} (h : Ls w v n (fun k => .int .u8 ((f k : Nat) : Int))) : Bs w v ((List.range n).map f) := by
  unfold Bs
  rw [mk_len]
  exact Ls.congr h (fun k hk => by unfold b8f; rw [mk_get n f 0 k hk])
theorem is_mk {w : World} {v : Value} {n : Nat} {f : Nat → Int} (h : Ls w v n (fun k => .int .i64 (f k))) : Is w v ((List.range n).map f) := by
  unfold Is
  rw [mk_len]
  exact Ls.congr h (fun k hk => by unfold i6f; rw [mk_get n f 0 k hk])
set_option maxRecDepth 100000 in
theorem bytes_raw {H : Type} {enc : TypeId × Value → H} {w : World} {fuel : Nat} {v : Value} {x : DataW H × List MemPlace}
    (h : DataW.trod enc Tryd.prog w 0 (fun _ => true) true fuel 39 [v] = some x) : ∃ l : List Nat, okB l ∧ Bs w v l := by
  rcases Go.Deep.open_slice Tryd.underlying39 h with h0 | ⟨a, len, cap, m, n, D, Pl, hc, hb, hl, hm, hmm, -, hx⟩
  · have hc := h0.1
    simp at hc
    subst hc
    exact ⟨[], ⟨fun c hc => (by cases hc), by simp⟩, ls_none w _⟩
  · simp at hc
    subst hc
    simp only [if_true] at hmm
    subst hmm
    obtain ⟨ab, ao, spot⟩ := a
    have hint : ∀ i, i < len → ∃ q : Nat, w.cell? ((⟨ab, ao, spot⟩ : Addr).add i) = some (.int .u8 (q : Int)) ∧ q < 256 := fun i hi => by
      obtain ⟨cs', h1, h2⟩ := hx i (by omega)
      rw [cellsByte] at h1
      obtain ⟨_, hlen, hcell⟩ := World.cells?_some h1
      obtain ⟨x, e0, _, wx⟩ := DataW.trod_int Tryd.underlying5 h2
      subst e0
      have e1 := hcell 0 (by omega)
      rw [Go.Deep.add_add] at e1
      have hb := bounds_u8 wx
      obtain ⟨y, rfl⟩ : ∃ y : Nat, x = (y : Int) := ⟨x.toNat, by omega⟩
      exact ⟨y, by simpa using e1, by omega⟩
    obtain ⟨q, hq⟩ := Go.Deep.choose_lt hint
    have hmx : m ≤ 9223372036854775807 := hm
    refine ⟨(List.range len).map q, ⟨fun c hc => ?_, by rw [mk_len]; omega⟩, bs_mk ⟨some ⟨ab, ao, spot⟩, m, ab, ao, rfl, hl, ⟨hm, fun e => by cases e⟩, ?_, ?_⟩⟩
    · obtain ⟨k, hk, rfl⟩ := List.mem_map.1 hc
      exact (hq k (List.mem_range.1 hk)).2
    · intro h0
      have hspot : spot = none := by simpa [Addr.add] using World.cell?_spot (hq 0 h0).1
      rw [hspot]
    · intro j hj
      have hspot : spot = none := by simpa [Addr.add] using World.cell?_spot (hq 0 (by omega)).1
      subst hspot
      obtain ⟨d0, d1⟩ := hq j hj
      rw [add_noneV] at d0
      exact d0
set_option maxRecDepth 100000 in
theorem ints_raw {H : Type} {enc : TypeId × Value → H} {w : World} {fuel : Nat} {v : Value} {x : DataW H × List MemPlace}
    (h : DataW.trod enc Tryd.prog w 0 (fun _ => true) true fuel 127 [v] = some x) : ∃ l : List Int, okL l ∧ Is w v l := by
  rcases Go.Deep.open_slice Tryd.underlying127 h with h0 | ⟨a, len, cap, m, n, D, Pl, hc, hb, hl, hm, hmm, -, hx⟩
  · have hc := h0.1
    simp at hc
    subst hc
    exact ⟨[], ⟨fun c hc => (by cases hc), by simp⟩, ls_none w _⟩
  · simp at hc
    subst hc
    simp only [if_true] at hmm
    subst hmm
    obtain ⟨ab, ao, spot⟩ := a
    have hint : ∀ i, i < len → ∃ q : Int, w.cell? ((⟨ab, ao, spot⟩ : Addr).add i) = some (.int .i64 q) ∧ okI q := fun i hi => by
      obtain ⟨cs', h1, h2⟩ := hx i (by omega)
      rw [cellsInt] at h1
      obtain ⟨_, hlen, hcell⟩ := World.cells?_some h1
      obtain ⟨x, e0, _, wx⟩ := DataW.trod_int Tryd.underlying3 h2
      subst e0
      have e1 := hcell 0 (by omega)
      rw [Go.Deep.add_add] at e1
      exact ⟨x, by simpa using e1, bounds_i64 wx⟩
    obtain ⟨q, hq⟩ := Go.Deep.choose_lt hint
    have hmx : m ≤ 9223372036854775807 := hm
    refine ⟨(List.range len).map q, ⟨fun c hc => ?_, by rw [mk_len]; omega⟩, is_mk ⟨some ⟨ab, ao, spot⟩, m, ab, ao, rfl, hl, ⟨hm, fun e => by cases e⟩, ?_, ?_⟩⟩
    · obtain ⟨k, hk, rfl⟩ := List.mem_map.1 hc
      exact (hq k (List.mem_range.1 hk)).2
    · intro h0
      have hspot : spot = none := by simpa [Addr.add] using World.cell?_spot (hq 0 h0).1
      rw [hspot]
    · intro j hj
      have hspot : spot = none := by simpa [Addr.add] using World.cell?_spot (hq 0 (by omega)).1
      subst hspot
      obtain ⟨d0, d1⟩ := hq j hj
      rw [add_noneV] at d0
      exact d0
set_option maxRecDepth 100000 in
/-- A text, and numbers. -/
theorem open_bytes {H : Type} {enc : TypeId × Value → H} {w : World} {v : Value} {d : DataW H} {p : List MemPlace} {r : Reach} {b0 : Nat}
    (hv : Value.okWide Tryd.prog w r b0 39 v) (h : DataW.Trod enc Tryd.prog w 0 (fun _ => true) true 39 v d p) : ∃ l : List Nat, okB l ∧ Bs w v l := by
  obtain ⟨adr, len, cap, rfl⟩ := okWide_slice Tryd.underlying39 hv
  obtain ⟨fuel, h⟩ := h
  exact bytes_raw (by simpa [Value.cells] using h)
set_option maxRecDepth 100000 in
theorem open_ints {H : Type} {enc : TypeId × Value → H} {w : World} {v : Value} {d : DataW H} {p : List MemPlace} {r : Reach} {b0 : Nat}
    (hv : Value.okWide Tryd.prog w r b0 127 v) (h : DataW.Trod enc Tryd.prog w 0 (fun _ => true) true 127 v d p) : ∃ l : List Int, okL l ∧ Is w v l := by
  obtain ⟨adr, len, cap, rfl⟩ := okWide_slice Tryd.underlying127 hv
  obtain ⟨fuel, h⟩ := h
  exact ints_raw (by simpa [Value.cells] using h)
theorem cellsFate : Tryd.prog.cellsOf 98 = 2 := by kernel_rfl
theorem cellsFates : Tryd.prog.cellsOf 40 = 1 := by kernel_rfl
theorem cellsOp : Tryd.prog.cellsOf 42 = 4 := by kernel_rfl
set_option maxRecDepth 100000 in
theorem fates_raw {H : Type} {enc : TypeId × Value → H} {w : World} {fuel : Nat} {v : Value} {x : DataW H × List MemPlace}
    (h : DataW.trod enc Tryd.prog w 0 (fun _ => true) true fuel 40 [v] = some x) : ∃ fs : List (Int × Int), Fts w v fs := by
  rcases Go.Deep.open_slice Tryd.underlying40 h with h0 | ⟨a, len, cap, m, n, D, Pl, hc, hb, hl, hm, hmm, -, hx⟩
  · have hc := h0.1
    simp at hc
    subst hc
    exact ⟨[], fts_nil w⟩
  · simp at hc
    subst hc
    simp only [if_true] at hmm
    subst hmm
    obtain ⟨ab, ao, spot⟩ := a
    have hint : ∀ i, i < len → ∃ q : Int × Int, w.cell? ((⟨ab, ao, spot⟩ : Addr).add (i * 2)) = some (.int .i64 q.1) ∧ w.cell? ((⟨ab, ao, spot⟩ : Addr).add (i * 2 + 1)) = some (.int .i64 q.2) := fun i hi => by
      obtain ⟨cs', h1, h2⟩ := hx i (by omega)
      rw [cellsFate] at h1
      obtain ⟨_, hlen, hcell⟩ := World.cells?_some h1
      obtain ⟨c0, c1, rfl⟩ : ∃ c0 c1, cs' = [c0, c1] := by
        match cs', hlen with
        | [a, b], _ => exact ⟨a, b, rfl⟩
      obtain ⟨xs, n', -, -, -, hxl, hxx⟩ := DataW.trod_struct Tryd.underlying98 h2
      obtain ⟨y0, y1, rfl⟩ : ∃ y0 y1, xs = [y0, y1] := by
        match xs, hxl with
        | [a, b], _ => exact ⟨a, b, rfl⟩
      have t0 := hxx 0 _ rfl
      have t1 := hxx 1 _ rfl
      simp [cellsInt] at t0 t1
      obtain ⟨k0, e0, -, w0⟩ := DataW.trod_int Tryd.underlying3 t0
      obtain ⟨k1, e1, -, w1⟩ := DataW.trod_int Tryd.underlying3 t1
      simp at e0 e1
      subst e0 e1
      have f0 := hcell 0 (by omega)
      have f1 := hcell 1 (by omega)
      rw [Go.Deep.add_add] at f0 f1
      exact ⟨(k0, k1), by simpa using f0, by simpa using f1⟩
    obtain ⟨q, hq⟩ := Go.Deep.choose_lt hint
    refine ⟨(List.range len).map q, some ⟨ab, ao, spot⟩, m, ab, ao, by rw [mk_len], by rw [mk_len]; exact hl, hm, ?_, ?_⟩
    · intro h0
      rw [mk_len] at h0
      have hspot : spot = none := by simpa [Addr.add] using World.cell?_spot (hq 0 h0).1
      rw [hspot]
    · intro j hj
      rw [mk_len] at hj
      have hspot : spot = none := by simpa [Addr.add] using World.cell?_spot (hq 0 (by omega)).1
      subst hspot
      obtain ⟨d0, d1⟩ := hq j hj
      rw [add_noneV] at d0 d1
      rw [mk_get len q (0, 0) j hj]
      exact ⟨d0, by rw [Nat.add_assoc]; exact d1⟩
set_option maxRecDepth 100000 in
theorem open_fates {H : Type} {enc : TypeId × Value → H} {w : World} {v : Value} {d : DataW H} {p : List MemPlace} {r : Reach} {b0 : Nat}
    (hv : Value.okWide Tryd.prog w r b0 40 v) (h : DataW.Trod enc Tryd.prog w 0 (fun _ => true) true 40 v d p) : ∃ fs : List (Int × Int), Fts w v fs := by
  obtain ⟨adr, len, cap, rfl⟩ := okWide_slice Tryd.underlying40 hv
  obtain ⟨fuel, h⟩ := h
  exact fates_raw (by simpa [Value.cells] using h)
set_option maxRecDepth 100000 in
/-- A list of texts. -/
theorem open_texts {H : Type} {enc : TypeId × Value → H} {w : World} {r : Reach} {b0 : Nat} {v : Value} {d : DataW H} {p : List MemPlace}
    (hv : Value.okWide Tryd.prog w r b0 75 v) (h : DataW.Trod enc Tryd.prog w 0 (fun _ => true) true 75 v d p) : ∃ ls : List (List Nat), (∀ j, j < ls.length → ∀ c ∈ ls.getD j [], c < 256) ∧ Txs w v ls := by
  obtain ⟨adr, len, cap, rfl⟩ := okWide_slice Tryd.underlying75 hv
  obtain ⟨fuel, h⟩ := h
  rcases Go.Deep.open_slice Tryd.underlying75 h with h0 | ⟨a, len', cap', m, n, D, Pl, hc, hb, hl, hm, hmm, -, hx⟩
  · have hc := h0.1
    simp [Value.cells] at hc
    obtain ⟨rfl, rfl, rfl⟩ := hc
    exact ⟨[], fun t ht => (by simp at ht), none, 0, 0, 0, rfl, Nat.le_refl _, Nat.zero_le _, fun h => by simp at h, fun j hj => by simp at hj⟩
  · simp [Value.cells] at hc
    obtain ⟨rfl, rfl, rfl⟩ := hc
    simp only [if_true] at hmm
    subst hmm
    obtain ⟨ab, ao, spot⟩ := a
    have hint : ∀ i, i < len → ∃ q : List Nat × Value, w.cell? ((⟨ab, ao, spot⟩ : Addr).add i) = some q.2 ∧ Bs w q.2 q.1 ∧ okB q.1 := fun i hi => by
      obtain ⟨cs', h1, h2⟩ := hx i (by omega)
      rw [cellsBys] at h1
      obtain ⟨_, hlen, hcell⟩ := World.cells?_some h1
      obtain ⟨c0, rfl⟩ : ∃ c0, cs' = [c0] := by
        match cs', hlen with
        | [a], _ => exact ⟨a, rfl⟩
      obtain ⟨lb, gb, hB⟩ := bytes_raw h2
      have f0 := hcell 0 (by omega)
      rw [Go.Deep.add_add] at f0
      exact ⟨(lb, c0), by simpa using f0, hB, gb⟩
    haveI : Inhabited (List Nat × Value) := ⟨([], .bool false)⟩
    obtain ⟨q, hq⟩ := Go.Deep.choose_lt hint
    refine ⟨(List.range len).map (fun i => (q i).1), fun j hj => ?_, some ⟨ab, ao, spot⟩, m, ab, ao, by rw [mk_len], by rw [mk_len]; exact hl, hm, ?_, ?_⟩
    · rw [mk_len] at hj
      rw [mk_get len (fun i => (q i).1) [] j hj]
      exact (hq j hj).2.2.1
    · intro h0
      rw [mk_len] at h0
      have hspot : spot = none := by simpa [Addr.add] using World.cell?_spot (hq 0 h0).1
      rw [hspot]
    · intro j hj
      rw [mk_len] at hj
      have hspot : spot = none := by simpa [Addr.add] using World.cell?_spot (hq 0 (by omega)).1
      subst hspot
      obtain ⟨d0, d1, -⟩ := hq j hj
      rw [add_noneV] at d0
      refine ⟨(q j).2, d0, ?_⟩
      rw [mk_get len (fun i => (q i).1) [] j hj]
      exact d1
set_option maxRecDepth 100000 in
/-- A list of steps. -/
theorem open_ops {H : Type} {enc : TypeId × Value → H} {w : World} {r : Reach} {b0 : Nat} {v : Value} {d : DataW H} {p : List MemPlace}
    (hv : Value.okWide Tryd.prog w r b0 24 v) (h : DataW.Trod enc Tryd.prog w 0 (fun _ => true) true 24 v d p) : ∃ os : List Opv, ((∀ j, j < os.length → ∀ c ∈ (os.getD j op0).b, c < 256) ∧ ∀ j, j < os.length → Bd64 (os.getD j op0).i) ∧ Ops w v os := by
  obtain ⟨adr, len, cap, rfl⟩ := okWide_slice Tryd.underlying24 hv
  obtain ⟨fuel, h⟩ := h
  rcases Go.Deep.open_slice Tryd.underlying24 h with h0 | ⟨a, len', cap', m, n, D, Pl, hc, hb, hl, hm, hmm, -, hx⟩
  · have hc := h0.1
    simp [Value.cells] at hc
    obtain ⟨rfl, rfl, rfl⟩ := hc
    exact ⟨[], ⟨fun t ht => (by simp at ht), fun t ht => (by simp at ht)⟩, none, 0, 0, 0, rfl, Nat.le_refl _, Nat.zero_le _, fun h => by simp at h, fun j hj => by simp at hj⟩
  · simp [Value.cells] at hc
    obtain ⟨rfl, rfl, rfl⟩ := hc
    simp only [if_true] at hmm
    subst hmm
    obtain ⟨ab, ao, spot⟩ := a
    have hint : ∀ i, i < len → ∃ q : Opv × (Value × Value), (w.cell? ((⟨ab, ao, spot⟩ : Addr).add (i * 4)) = some (.int .i64 q.1.k) ∧ w.cell? ((⟨ab, ao, spot⟩ : Addr).add (i * 4 + 1)) = some (.int .i64 q.1.i) ∧ w.cell? ((⟨ab, ao, spot⟩ : Addr).add (i * 4 + 2)) = some q.2.1 ∧ w.cell? ((⟨ab, ao, spot⟩ : Addr).add (i * 4 + 3)) = some q.2.2) ∧ (Bs w q.2.1 q.1.b ∧ Fts w q.2.2 q.1.fs) ∧ okB q.1.b ∧ Bd64 q.1.i := fun i hi => by
      obtain ⟨cs', h1, h2⟩ := hx i (by omega)
      rw [cellsOp] at h1
      obtain ⟨_, hlen, hcell⟩ := World.cells?_some h1
      obtain ⟨c0, c1, c2, c3, rfl⟩ : ∃ c0 c1 c2 c3, cs' = [c0, c1, c2, c3] := by
        match cs', hlen with
        | [a, b, c, d], _ => exact ⟨a, b, c, d, rfl⟩
      obtain ⟨xs, n', -, -, -, hxl, hxx⟩ := DataW.trod_struct Tryd.underlying42 h2
      obtain ⟨y0, y1, y2, y3, rfl⟩ : ∃ y0 y1 y2 y3, xs = [y0, y1, y2, y3] := by
        match xs, hxl with
        | [a, b, c, d], _ => exact ⟨a, b, c, d, rfl⟩
      have t0 := hxx 0 _ rfl
      have t1 := hxx 1 _ rfl
      have t2 := hxx 2 _ rfl
      have t3 := hxx 3 _ rfl
      simp [cellsInt, cellsBys, cellsFates] at t0 t1 t2 t3
      obtain ⟨k0, e0, -, w0⟩ := DataW.trod_int Tryd.underlying3 t0
      obtain ⟨k1, e1, -, w1⟩ := DataW.trod_int Tryd.underlying3 t1
      obtain ⟨lb, gb, hB⟩ := bytes_raw t2
      obtain ⟨ff, hF⟩ := fates_raw t3
      simp at e0 e1
      subst e0 e1
      have f0 := hcell 0 (by omega)
      have f1 := hcell 1 (by omega)
      have f2 := hcell 2 (by omega)
      have f3 := hcell 3 (by omega)
      rw [Go.Deep.add_add] at f0 f1 f2 f3
      exact ⟨(⟨k0, k1, lb, ff⟩, c2, c3), ⟨by simpa using f0, by simpa using f1, by simpa using f2, by simpa using f3⟩, ⟨hB, hF⟩, gb, bounds_i64 w1⟩
    haveI : Inhabited (Opv × (Value × Value)) := ⟨(op0, .bool false, .bool false)⟩
    obtain ⟨q, hq⟩ := Go.Deep.choose_lt hint
    refine ⟨(List.range len).map (fun i => (q i).1), ⟨fun j hj => ?_, fun j hj => ?_⟩, some ⟨ab, ao, spot⟩, m, ab, ao, by rw [mk_len], by rw [mk_len]; exact hl, hm, ?_, ?_⟩
    · rw [mk_len] at hj
      rw [mk_get len (fun i => (q i).1) op0 j hj]
      exact (hq j hj).2.2.1.1
    · rw [mk_len] at hj
      rw [mk_get len (fun i => (q i).1) op0 j hj]
      exact (hq j hj).2.2.2
    · intro h0
      rw [mk_len] at h0
      have hspot : spot = none := by simpa [Addr.add] using World.cell?_spot (hq 0 h0).1.1
      rw [hspot]
    · intro j hj
      rw [mk_len] at hj
      have hspot : spot = none := by simpa [Addr.add] using World.cell?_spot (hq 0 (by omega)).1.1
      subst hspot
      obtain ⟨⟨d0, d1, d2, d3⟩, ⟨z1, z2⟩, -⟩ := hq j hj
      rw [add_noneV] at d0 d1 d2 d3
      refine ⟨(q j).2.1, (q j).2.2, ?_⟩
      rw [mk_get len (fun i => (q i).1) op0 j hj]
      exact ⟨d0, by rw [Nat.add_assoc]; exact d1, by rw [Nat.add_assoc]; exact d2, by rw [Nat.add_assoc]; exact d3, z1, z2⟩
theorem cellsLf : Tryd.prog.cellsOf 73 = 3 := by kernel_rfl
set_option maxRecDepth 100000 in
/-- A list of lives. -/
theorem open_lives {H : Type} {enc : TypeId × Value → H} {w : World} {r : Reach} {b0 : Nat} {v : Value} {d : DataW H} {p : List MemPlace}
    (hv : Value.okWide Tryd.prog w r b0 71 v) (h : DataW.Trod enc Tryd.prog w 0 (fun _ => true) true 71 v d p) : ∃ os : List Lfv, ((∀ j, j < os.length → ∀ c ∈ (os.getD j lf0).b, c < 256) ∧ ∀ j, j < os.length → Bd64 (os.getD j lf0).n) ∧ Lvs w v os := by
  obtain ⟨adr, len, cap, rfl⟩ := okWide_slice Tryd.underlying71 hv
  obtain ⟨fuel, h⟩ := h
  rcases Go.Deep.open_slice Tryd.underlying71 h with h0 | ⟨a, len', cap', m, n, D, Pl, hc, hb, hl, hm, hmm, -, hx⟩
  · have hc := h0.1
    simp [Value.cells] at hc
    obtain ⟨rfl, rfl, rfl⟩ := hc
    exact ⟨[], ⟨fun t ht => (by simp at ht), fun t ht => (by simp at ht)⟩, none, 0, 0, 0, rfl, Nat.le_refl _, Nat.zero_le _, fun h => by simp at h, fun j hj => by simp at hj⟩
  · simp [Value.cells] at hc
    obtain ⟨rfl, rfl, rfl⟩ := hc
    simp only [if_true] at hmm
    subst hmm
    obtain ⟨ab, ao, spot⟩ := a
    have hint : ∀ i, i < len → ∃ q : Lfv × (Value × Value), (w.cell? ((⟨ab, ao, spot⟩ : Addr).add (i * 3)) = some q.2.1 ∧ w.cell? ((⟨ab, ao, spot⟩ : Addr).add (i * 3 + 1)) = some (.int .i64 q.1.n) ∧ w.cell? ((⟨ab, ao, spot⟩ : Addr).add (i * 3 + 2)) = some q.2.2) ∧ (Bs w q.2.1 q.1.b ∧ Fts w q.2.2 q.1.fs) ∧ okB q.1.b ∧ Bd64 q.1.n := fun i hi => by
      obtain ⟨cs', h1, h2⟩ := hx i (by omega)
      rw [cellsLf] at h1
      obtain ⟨_, hlen, hcell⟩ := World.cells?_some h1
      obtain ⟨c0, c1, c2, rfl⟩ : ∃ c0 c1 c2, cs' = [c0, c1, c2] := by
        match cs', hlen with
        | [a, b, c], _ => exact ⟨a, b, c, rfl⟩
      obtain ⟨xs, n', -, -, -, hxl, hxx⟩ := DataW.trod_struct Tryd.underlying73 h2
      obtain ⟨y0, y1, y2, rfl⟩ : ∃ y0 y1 y2, xs = [y0, y1, y2] := by
        match xs, hxl with
        | [a, b, c], _ => exact ⟨a, b, c, rfl⟩
      have t0 := hxx 0 _ rfl
      have t1 := hxx 1 _ rfl
      have t2 := hxx 2 _ rfl
      simp [cellsInt, cellsBys, cellsFates] at t0 t1 t2
      obtain ⟨lb, gb, hB⟩ := bytes_raw t0
      obtain ⟨k1, e1, -, w1⟩ := DataW.trod_int Tryd.underlying3 t1
      obtain ⟨ff, hF⟩ := fates_raw t2
      simp at e1
      subst e1
      have f0 := hcell 0 (by omega)
      have f1 := hcell 1 (by omega)
      have f2 := hcell 2 (by omega)
      rw [Go.Deep.add_add] at f0 f1 f2
      exact ⟨(⟨lb, k1, ff⟩, c0, c2), ⟨by simpa using f0, by simpa using f1, by simpa using f2⟩, ⟨hB, hF⟩, gb, bounds_i64 w1⟩
    haveI : Inhabited (Lfv × (Value × Value)) := ⟨(lf0, .bool false, .bool false)⟩
    obtain ⟨q, hq⟩ := Go.Deep.choose_lt hint
    refine ⟨(List.range len).map (fun i => (q i).1), ⟨fun j hj => ?_, fun j hj => ?_⟩, some ⟨ab, ao, spot⟩, m, ab, ao, by rw [mk_len], by rw [mk_len]; exact hl, hm, ?_, ?_⟩
    · rw [mk_len] at hj
      rw [mk_get len (fun i => (q i).1) lf0 j hj]
      exact (hq j hj).2.2.1.1
    · rw [mk_len] at hj
      rw [mk_get len (fun i => (q i).1) lf0 j hj]
      exact (hq j hj).2.2.2
    · intro h0
      rw [mk_len] at h0
      have hspot : spot = none := by simpa [Addr.add] using World.cell?_spot (hq 0 h0).1.1
      rw [hspot]
    · intro j hj
      rw [mk_len] at hj
      have hspot : spot = none := by simpa [Addr.add] using World.cell?_spot (hq 0 (by omega)).1.1
      subst hspot
      obtain ⟨⟨d0, d1, d2⟩, ⟨z1, z2⟩, -⟩ := hq j hj
      rw [add_noneV] at d0 d1 d2
      refine ⟨(q j).2.1, (q j).2.2, ?_⟩
      rw [mk_get len (fun i => (q i).1) lf0 j hj]
      exact ⟨d0, by rw [Nat.add_assoc]; exact d1, by rw [Nat.add_assoc]; exact d2, z1, z2⟩
theorem cellsPl : Tryd.prog.cellsOf 23 = 3 := by kernel_rfl
theorem three_of {α : Type} (l : Array α) (h : l.size = 3) : ∃ a b c, l = #[a, b, c] := by
  obtain ⟨l⟩ := l
  match l, h with
  | [a, b, c], _ => exact ⟨a, b, c, rfl⟩
set_option maxRecDepth 100000 in
/-- A place. -/
theorem open_place {H : Type} {enc : TypeId × Value → H} {w : World} {r : Reach} {b0 : Nat} {v : Value} {d : DataW H} {p : List MemPlace}
    (hv : Value.okWide Tryd.prog w r b0 23 v) (h : DataW.Trod enc Tryd.prog w 0 (fun _ => true) true 23 v d p) : ∃ a b c : Int, v = .agg #[.int .i64 a, .int .i64 b, .int .i64 c] ∧ Bd64 a ∧ Bd64 b ∧ Bd64 c := by
  obtain ⟨cs, rfl, hsz⟩ := okWide_struct Tryd.underlying23 hv
  obtain ⟨c0, c1, c2, rfl⟩ := three_of cs (hsz.trans cellsPl)
  obtain ⟨fuel, hf⟩ := h
  obtain ⟨xs, n, -, -, -, hlen, hx⟩ := DataW.trod_struct Tryd.underlying23 hf
  have cI : Tryd.prog.cellsOf 3 = 1 := by kernel_rfl
  obtain ⟨y0, y1, y2, rfl⟩ : ∃ y0 y1 y2, xs = [y0, y1, y2] := by
    match xs, hlen with
    | [a, b, c], _ => exact ⟨a, b, c, rfl⟩
  have h0 := hx 0 _ rfl
  have h1 := hx 1 _ rfl
  have h2 := hx 2 _ rfl
  simp [Value.cells, cI] at h0 h1 h2
  obtain ⟨a0, e0, -, w0⟩ := DataW.trod_int Tryd.underlying3 h0
  obtain ⟨a1, e1, -, w1⟩ := DataW.trod_int Tryd.underlying3 h1
  obtain ⟨a2, e2, -, w2⟩ := DataW.trod_int Tryd.underlying3 h2
  simp at e0 e1 e2
  subst e0 e1 e2
  exact ⟨a0, a1, a2, rfl, bounds_i64 w0, bounds_i64 w1, bounds_i64 w2⟩
/-! The tables, read off the row's condition. -/
def laidA : List (String × DataW Unit) := [("regatta/crc.halves", Rows.laid_regatta_crc_halves)]
theorem gTbN : Tryd.prog.globalNamed "regatta/crc.halves" = some 0 := by kernel_rfl
theorem tTbN : (Tryd.prog.globals[0]?).map (·.type) = some 131 := by kernel_rfl
theorem cellsTb : Tryd.prog.cellsOf 131 = 16 := by kernel_rfl
theorem cellsU32 : Tryd.prog.cellsOf 115 = 1 := by kernel_rfl
def tbZ : List Int := (List.range 16).map (fun i => ((cZs 4 i : Nat) : Int))
theorem tb_datum : (Rows.laid_regatta_crc_halves : DataW Unit) = Lib.tabData .u32 tbZ := by kernel_rfl
theorem tb_head {rest : List (String × DataW Unit)} {W : World} (h : laidMet Tryd.prog (("regatta/crc.halves", Rows.laid_regatta_crc_halves) :: rest) W) : TbAt W := by
  rw [tb_datum] at h
  have hT := Lib.tabIs_of_head gTbN tTbN Tryd.underlying131 Tryd.underlying115 cellsU32 cellsTb h
  intro j hj
  have hc := hT.cell gTbN j (by unfold tbZ; rw [List.length_map, List.length_range]; exact hj)
  rw [hc]
  simp [tbZ, List.getD, hj]
theorem tabs_of_A {W : World} (h : laidMetH Tryd.prog laidA W) : TbAt W := by
  rw [MakeChecks.laidMetH_plain _ _ _ (by kernel_rfl)] at h
  exact tb_head h
/-- The door's own heap meets the conditions. -/
theorem door_A (os : Os) (args : Array Value) : laidMetH Tryd.prog laidA ((World.doorLaid Tryd.prog 400 os).forCall (fun _ _ => 0) ⟨#[], args, []⟩).memory :=
  laidMetH_of_parts3 (fuel := 8) (laidMet_of_run' 8 (by kernel_rfl) (by kernel_rfl)) (by kernel_rfl) (by kernel_rfl)
end Go.Proofs.YtpmmfmlldkdfhaaDoor
