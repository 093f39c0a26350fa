/-
  Arguments of layer 13's laws, opened: bytes, a frame, a list of frames; crc's table, read off the row's condition.
-/
import Derived.Test.YtploeheklekjjaaDoorRows
import Derived.Test.YtploeheklekjjaaDoorTie
import Derived.Test.YtploeheklekjjaaDoorFrDefs3
import Derived.WalkKit
import Derived.ProofKit
import Derived.OpenShut
import Derived.ChangeOld
import Derived.Below
import Derived.Lib.SmallJoins
import Derived.Deep.SlicePairs
import Derived.Carry
import Derived.Lib.LaidTab
import Derived.LaidMore
import Derived.Stop.LaidErr
import Derived.Stop.Joined
set_option linter.unusedVariables false
namespace Go.Proofs.YtploeheklekjjaaDoor
open Go.ChangeShapes Go.WideShapes Go.ChangeAt Go.RowKit Go.Joins

theorem own : ownKnob Tryd.prog.godebug = none := by kernel_rfl
theorem laidOutV : laidOutB Tryd.prog = true := by kernel_rfl
theorem cellsByte : Tryd.prog.cellsOf 5 = 1 := by kernel_rfl
theorem cellsBys : Tryd.prog.cellsOf 22 = 1 := by kernel_rfl
theorem cellsInt : Tryd.prog.cellsOf 3 = 1 := by kernel_rfl
theorem add_noneV (b o n : Nat) : (⟨b, o, none⟩ : Addr).add n = ⟨b, o + n, none⟩ := by
  unfold Addr.add
  split
  · subst n; rfl
  · rfl
theorem mk_len {α : Type} (n : Nat) (f : Nat → α) : ((List.range n).map f).length = n := by simp
theorem mk_get {α : Type} (n : Nat) (f : Nat → α) (d : α) (k : Nat) (hk : k < n) : ((List.range n).map f).getD k d = f k := by
  simp [List.getD, hk]
theorem bs_mk {w : World} {v : Value} {n : Nat} {f : Nat → Nat} (h : Ls w v n (fun k => .int .u8 ((f k : Nat) : Int))) : Bs w v ((List.range n).map f) := by
  unfold Bs
  rw [mk_len]
  exact Ls.congr h (fun k hk => by unfold b8f; rw [mk_get n f 0 k hk])
theorem is_mk {w : World} {v : Value} {n : Nat} {f : Nat → Int} (h : Ls w v n (fun k => .int .i64 (f k))) : Is w v ((List.range n).map f) := by
  unfold Is
  rw [mk_len]
  exact Ls.congr h (fun k hk => by unfold i6f; rw [mk_get n f 0 k hk])
set_option maxRecDepth 100000 in
theorem bytes_raw {H : Type} {enc : TypeId × Value → H} {w : World} {fuel : Nat} {v : Value} {x : DataW H × List MemPlace}
    (h : DataW.trod enc Tryd.prog w 0 (fun _ => true) true fuel 22 [v] = some x) : ∃ l : List Nat, okB l ∧ Bs w v l := by
  rcases Go.Deep.open_slice Tryd.underlying22 h with h0 | ⟨a, len, cap, m, n, D, Pl, hc, hb, hl, hm, hmm, -, hx⟩
  · have hc := h0.1
    simp at hc
    subst hc
    exact ⟨[], ⟨fun c hc => (by cases hc), by simp⟩, ls_none w _⟩
  · simp at hc
    subst hc
    simp only [if_true] at hmm
    subst hmm
    obtain ⟨ab, ao, spot⟩ := a
    have hint : ∀ i, i < len → ∃ q : Nat, w.cell? ((⟨ab, ao, spot⟩ : Addr).add i) = some (.int .u8 (q : Int)) ∧ q < 256 := fun i hi => by
      obtain ⟨cs', h1, h2⟩ := hx i (by omega)
      rw [cellsByte] at h1
      obtain ⟨_, hlen, hcell⟩ := World.cells?_some h1
      obtain ⟨x, e0, _, wx⟩ := DataW.trod_int Tryd.underlying5 h2
      subst e0
      have e1 := hcell 0 (by omega)
      rw [Go.Deep.add_add] at e1
      have hb := bounds_u8 wx
      obtain ⟨y, rfl⟩ : ∃ y : Nat, x = (y : Int) := ⟨x.toNat, by omega⟩
      exact ⟨y, by simpa using e1, by omega⟩
    obtain ⟨q, hq⟩ := Go.Deep.choose_lt hint
    have hmx : m ≤ 9223372036854775807 := hm
    refine ⟨(List.range len).map q, ⟨fun c hc => ?_, by rw [mk_len]; omega⟩, bs_mk ⟨some ⟨ab, ao, spot⟩, m, ab, ao, rfl, hl, ⟨hm, fun e => by cases e⟩, ?_, ?_⟩⟩
    · obtain ⟨k, hk, rfl⟩ := List.mem_map.1 hc
      exact (hq k (List.mem_range.1 hk)).2
    · intro h0
      have hspot : spot = none := by simpa [Addr.add] using World.cell?_spot (hq 0 h0).1
      rw [hspot]
    · intro j hj
      have hspot : spot = none := by simpa [Addr.add] using World.cell?_spot (hq 0 (by omega)).1
      subst hspot
      obtain ⟨d0, d1⟩ := hq j hj
      rw [add_noneV] at d0
      exact d0
/-- A text. -/
theorem open_bytes {H : Type} {enc : TypeId × Value → H} {w : World} {v : Value} {d : DataW H} {p : List MemPlace} {r : Reach} {b0 : Nat}
    (hv : Value.okWide Tryd.prog w r b0 22 v) (h : DataW.Trod enc Tryd.prog w 0 (fun _ => true) true 22 v d p) : ∃ l : List Nat, okB l ∧ Bs w v l := by
  obtain ⟨adr, len, cap, rfl⟩ := okWide_slice Tryd.underlying22 hv
  obtain ⟨fuel, h⟩ := h
  exact bytes_raw (by simpa [Value.cells] using h)
theorem cellsFrame : Tryd.prog.cellsOf 31 = 2 := by kernel_rfl
set_option maxRecDepth 100000 in
/-- A frame. -/
theorem open_frame {H : Type} {enc : TypeId × Value → H} {w : World} {r : Reach} {b0 : Nat} {v : Value} {d : DataW H} {p : List MemPlace}
    (hv : Value.okWide Tryd.prog w r b0 31 v) (h : DataW.Trod enc Tryd.prog w 0 (fun _ => true) true 31 v d p) : ∃ (k : Int) (vp : Value) (l : List Nat), v = .agg #[.int .i64 k, vp] ∧ okI k ∧ okB l ∧ Bs w vp l := by
  obtain ⟨c0, c1, y0, y1, m, rfl, rfl, rfl, hy0, hy1⟩ := open_agg2 Tryd.underlying31 (by kernel_rfl) cellsFrame hv h
  obtain ⟨x, e0, _, wx⟩ := DataW.trod_int Tryd.underlying3 hy0
  obtain ⟨l, hl, hB⟩ := bytes_raw hy1
  simp at e0
  subst e0
  exact ⟨x, c1, l, rfl, bounds_i64 wx, hl, hB⟩
set_option maxRecDepth 100000 in
/-- A list of frames. -/
theorem open_frames {H : Type} {enc : TypeId × Value → H} {w : World} {r : Reach} {b0 : Nat} {v : Value} {d : DataW H} {p : List MemPlace}
    (hv : Value.okWide Tryd.prog w r b0 39 v) (h : DataW.Trod enc Tryd.prog w 0 (fun _ => true) true 39 v d p) : ∃ gs : List (Int × List Nat), (∀ g ∈ gs, ∀ c ∈ g.2, c < 256) ∧ FrI w v gs := by
  obtain ⟨adr, len, cap, rfl⟩ := okWide_slice Tryd.underlying39 hv
  obtain ⟨fuel, h⟩ := h
  rcases Go.Deep.open_slice Tryd.underlying39 h with h0 | ⟨a, len', cap', m, n, D, Pl, hc, hb, hl, hm, hmm, -, hx⟩
  · have hc := h0.1
    simp [Value.cells] at hc
    obtain ⟨rfl, rfl, rfl⟩ := hc
    exact ⟨[], fun t ht => (by cases ht), none, 0, 0, 0, rfl, Nat.le_refl _, Nat.zero_le _, fun h => by simp at h, fun j hj => by simp at hj⟩
  · simp [Value.cells] at hc
    obtain ⟨rfl, rfl, rfl⟩ := hc
    simp only [if_true] at hmm
    subst hmm
    obtain ⟨ab, ao, spot⟩ := a
    have hint : ∀ i, i < len → ∃ q : (Int × List Nat) × Value, w.cell? ((⟨ab, ao, spot⟩ : Addr).add (i * 2)) = some (.int .i64 q.1.1) ∧ w.cell? ((⟨ab, ao, spot⟩ : Addr).add (i * 2 + 1)) = some q.2 ∧ Bs w q.2 q.1.2 ∧ ∀ c ∈ q.1.2, c < 256 := fun i hi => by
      obtain ⟨cs', h1, h2⟩ := hx i (by omega)
      rw [cellsFrame] at h1
      obtain ⟨_, hlen, hcell⟩ := World.cells?_some h1
      obtain ⟨x, y, rfl⟩ : ∃ x y, cs' = [x, y] := by
        match cs', hlen with
        | [x, y], _ => exact ⟨x, y, rfl⟩
      obtain ⟨y0, y1, n', hxx, _, t0, t1⟩ := trod_struct2 Tryd.underlying31 h2
      have e1 := hcell 0 (by omega)
      have e2 := hcell 1 (by omega)
      rw [Go.Deep.add_add] at e1 e2
      obtain ⟨a0, c0, -, wa⟩ := DataW.trod_int (cs := [x]) Tryd.underlying3 (by simpa [cellsInt] using t0)
      obtain ⟨l1, g1, hA1⟩ := bytes_raw (v := y) (by simpa [cellsInt, cellsBys] using t1)
      simp at c0
      subst c0
      exact ⟨((a0, l1), y), by simpa using e1, by simpa using e2, hA1, g1.1⟩
    haveI : Inhabited ((Int × List Nat) × Value) := ⟨((0, []), .bool false)⟩
    obtain ⟨q, hq⟩ := Go.Deep.choose_lt hint
    refine ⟨(List.range len).map (fun i => (q i).1), fun g hg => ?_, some ⟨ab, ao, spot⟩, m, ab, ao, by rw [mk_len], by rw [mk_len]; exact hl, hm, ?_, ?_⟩
    · obtain ⟨k, hk, rfl⟩ := List.mem_map.1 hg
      exact (hq k (List.mem_range.1 hk)).2.2.2
    · intro h0
      rw [mk_len] at h0
      have hspot : spot = none := by simpa [Addr.add] using World.cell?_spot (hq 0 h0).1
      rw [hspot]
    · intro j hj
      rw [mk_len] at hj
      have hspot : spot = none := by simpa [Addr.add] using World.cell?_spot (hq 0 (by omega)).1
      subst hspot
      obtain ⟨d0, d1, d2, -⟩ := hq j hj
      rw [add_noneV] at d0 d1
      refine ⟨(q j).2, ?_⟩
      rw [mk_get len (fun i => (q i).1) gr0 j hj]
      exact ⟨d0, by rw [Nat.add_assoc]; exact d1, d2⟩
/-! The tables, read off the row's condition. -/
def laidA : List (String × DataW Unit) := [("regatta/crc.halves", Rows.laid_regatta_crc_halves), ("regatta/frame.ahead", Rows.laid_regatta_frame_ahead)]
theorem gTbN : Tryd.prog.globalNamed "regatta/crc.halves" = some 1 := by kernel_rfl
theorem tTbN : (Tryd.prog.globals[1]?).map (·.type) = some 74 := by kernel_rfl
theorem gAhN : Tryd.prog.globalNamed "regatta/frame.ahead" = some 0 := by kernel_rfl
theorem tAhN : (Tryd.prog.globals[0]?).map (·.type) = some 56 := by kernel_rfl
theorem cellsTb : Tryd.prog.cellsOf 74 = 16 := by kernel_rfl
theorem cellsAh : Tryd.prog.cellsOf 56 = 3 := by kernel_rfl
theorem cellsU32 : Tryd.prog.cellsOf 58 = 1 := by kernel_rfl
theorem cellsU8 : Tryd.prog.cellsOf 5 = 1 := by kernel_rfl
def tbZ : List Int := (List.range 16).map (fun i => ((cZs 4 i : Nat) : Int))
def ahZ : List Int := [82, 71, 1]
theorem tb_datum : (Rows.laid_regatta_crc_halves : DataW Unit) = Lib.tabData .u32 tbZ := by kernel_rfl
theorem ah_datum : (Rows.laid_regatta_frame_ahead : DataW Unit) = Lib.tabData .u8 ahZ := by kernel_rfl
theorem tb_head {rest : List (String × DataW Unit)} {W : World} (h : laidMet Tryd.prog (("regatta/crc.halves", Rows.laid_regatta_crc_halves) :: rest) W) : TbAt W := by
  rw [tb_datum] at h
  have hT := Lib.tabIs_of_head gTbN tTbN Tryd.underlying74 Tryd.underlying58 cellsU32 cellsTb h
  intro j hj
  have hc := hT.cell gTbN j (by unfold tbZ; rw [List.length_map, List.length_range]; exact hj)
  rw [hc]
  simp [tbZ, List.getD, hj]
theorem ah_head {rest : List (String × DataW Unit)} {W : World} (h : laidMet Tryd.prog (("regatta/frame.ahead", Rows.laid_regatta_frame_ahead) :: rest) W) : AhAt W := by
  rw [ah_datum] at h
  have hT := Lib.tabIs_of_head gAhN tAhN Tryd.underlying56 Tryd.underlying5 cellsU8 cellsAh h
  intro j hj
  have hc := hT.cell gAhN j hj
  rw [hc]
  have : j = 0 ∨ j = 1 ∨ j = 2 := by omega
  rcases this with rfl | rfl | rfl <;> rfl
theorem tabs_of_A {W : World} (h : laidMetH Tryd.prog laidA W) : FT W := by
  rw [MakeChecks.laidMetH_plain _ _ _ (by kernel_rfl)] at h
  exact ⟨tb_head h, ah_head (laidMet.tail h)⟩
/-- The door's own heap meets the condition. -/
theorem door_A (os : Os) (args : Array Value) : laidMetH Tryd.prog laidA ((World.doorLaid Tryd.prog 400 os).forCall (fun _ _ => 0) ⟨#[], args, []⟩).memory :=
  laidMetH_of_parts3 (fuel := 8) (laidMet_of_run' 8 (by kernel_rfl) (by kernel_rfl)) (by kernel_rfl) (by kernel_rfl)
end Go.Proofs.YtploeheklekjjaaDoor
