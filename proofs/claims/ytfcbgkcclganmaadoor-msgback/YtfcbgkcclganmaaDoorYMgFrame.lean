/-
  Arguments of layer 14's laws, opened: bytes, a message; crc's table, read off the row's condition.
-/
import Derived.Test.YtfcbgkcclganmaaDoorRows
import Derived.Test.YtfcbgkcclganmaaDoorTie
import Derived.Test.YtfcbgkcclganmaaDoorZ07
import Derived.WalkKit
import Derived.ProofKit
import Derived.OpenShut
import Derived.ChangeOld
import Derived.Below
import Derived.Lib.SmallJoins
import Derived.Deep.SlicePairs
import Derived.Carry
import Derived.Lib.LaidTab
import Derived.LaidMore
import Derived.Stop.LaidErr
import Derived.Stop.Joined

set_option linter.unusedVariables false
namespace Go.Proofs.YtfcbgkcclganmaaDoor
open Go.ChangeShapes Go.WideShapes Go.ChangeAt Go.RowKit Go.Joins

theorem own : ownKnob Tryd.prog.godebug = none := by kernel_rfl
theorem laidOutV : laidOutB Tryd.prog = true := by kernel_rfl
theorem cellsByte : Tryd.prog.cellsOf 5 = 1 := by kernel_rfl
theorem cellsBys : Tryd.prog.cellsOf 22 = 1 := by kernel_rfl
theorem cellsInt : Tryd.prog.cellsOf 3 = 1 := by kernel_rfl
theorem add_noneV (b o n : Nat) : (⟨b, o, none⟩ : Addr).add n = ⟨b, o + n, none⟩ := by
  unfold Addr.add
  split
  · subst n; rfl
  · rfl
theorem mk_len {α : Type} (n : Nat) (f : Nat → α) : ((List.range n).map f).length = n := by simp
theorem mk_get {α : Type} (n : Nat) (f : Nat → α) (d : α) (k : Nat) (hk : k < n) : ((List.range n).map f).getD k d = f k := by
  simp [List.getD, hk]
theorem bs_mk {w : World} {v : Value} {n : Nat} {f : Nat → Nat} (h : Ls w v n (fun k => .int .u8 ((f k : Nat) : Int))) : Bs w v ((List.range n).map f) := by
  unfold Bs
  rw [mk_len]
  exact Ls.congr h (fun k hk => by unfold b8f; rw [mk_get n f 0 k hk])
theorem is_mk {w : World} {v : Value} {n : Nat} {f : Nat → Int} (h : Ls w v n (fun k => .int .i64 (f k))) : Is w v ((List.range n).map f) := by
  unfold Is
  rw [mk_len]
  exact Ls.congr h (fun k hk => by unfold i6f; rw [mk_get n f 0 k hk])
set_option maxRecDepth 100000 in
theorem bytes_raw {H : Type} {enc : TypeId × Value → H} {w : World} {fuel : Nat} {v : Value} {x : DataW H × List MemPlace}
    (h : DataW.trod enc Tryd.prog w 0 (fun _ => true) true fuel 22 [v] = some x) : ∃ l : List Nat, okB l ∧ Bs w v l := by
  rcases Go.Deep.open_slice Tryd.underlying22 h with h0 | ⟨a, len, cap, m, n, D, Pl, hc, hb, hl, hm, hmm, -, hx⟩
  · have hc := h0.1
    simp at hc
    subst hc
    exact ⟨[], ⟨fun c hc => (by cases hc), by simp⟩, ls_none w _⟩
  · simp at hc
    subst hc
    simp only [if_true] at hmm
    subst hmm
    obtain ⟨ab, ao, spot⟩ := a
    have hint : ∀ i, i < len → ∃ q : Nat, w.cell? ((⟨ab, ao, spot⟩ : Addr).add i) = some (.int .u8 (q : Int)) ∧ q < 256 := fun i hi => by
      obtain ⟨cs', h1, h2⟩ := hx i (by omega)
      rw [cellsByte] at h1
      obtain ⟨_, hlen, hcell⟩ := World.cells?_some h1
      obtain ⟨x, e0, _, wx⟩ := DataW.trod_int Tryd.underlying5 h2
      subst e0
      have e1 := hcell 0 (by omega)
      rw [Go.Deep.add_add] at e1
      have hb := bounds_u8 wx
      obtain ⟨y, rfl⟩ : ∃ y : Nat, x = (y : Int) := ⟨x.toNat, by omega⟩
      exact ⟨y, by simpa using e1, by omega⟩
    obtain ⟨q, hq⟩ := Go.Deep.choose_lt hint
    have hmx : m ≤ 9223372036854775807 := hm
    refine ⟨(List.range len).map q, ⟨fun c hc => ?_, by rw [mk_len]; omega⟩, bs_mk ⟨some ⟨ab, ao, spot⟩, m, ab, ao, rfl, hl, ⟨hm, fun e => by cases e⟩, ?_, ?_⟩⟩
    · obtain ⟨k, hk, rfl⟩ := List.mem_map.1 hc
      exact (hq k (List.mem_range.1 hk)).2
    · intro h0
      have hspot : spot = none := by simpa [Addr.add] using World.cell?_spot (hq 0 h0).1
      rw [hspot]
    · intro j hj
      have hspot : spot = none := by simpa [Addr.add] using World.cell?_spot (hq 0 (by omega)).1
      subst hspot
      obtain ⟨d0, d1⟩ := hq j hj
      rw [add_noneV] at d0
      exact d0
set_option maxRecDepth 100000 in
/-- A text. -/
theorem open_bytes {H : Type} {enc : TypeId × Value → H} {w : World} {v : Value} {d : DataW H} {p : List MemPlace} {r : Reach} {b0 : Nat}
    (hv : Value.okWide Tryd.prog w r b0 22 v) (h : DataW.Trod enc Tryd.prog w 0 (fun _ => true) true 22 v d p) : ∃ l : List Nat, okB l ∧ Bs w v l := by
  obtain ⟨adr, len, cap, rfl⟩ := okWide_slice Tryd.underlying22 hv
  obtain ⟨fuel, h⟩ := h
  exact bytes_raw (by simpa [Value.cells] using h)
theorem cellsMsg : Tryd.prog.cellsOf 24 = 8 := by kernel_rfl
theorem eight_of {α : Type} (l : Array α) (h : l.size = 8) : ∃ a b c d e f g i, l = #[a, b, c, d, e, f, g, i] := by
  obtain ⟨l⟩ := l
  match l, h with
  | [a, b, c, d, e, f, g, i], _ => exact ⟨a, b, c, d, e, f, g, i, rfl⟩
set_option maxRecDepth 100000 in
/-- A message. -/
theorem open_msg {H : Type} {enc : TypeId × Value → H} {w : World} {r : Reach} {b0 : Nat} {v : Value} {d : DataW H} {p : List MemPlace}
    (hv : Value.okWide Tryd.prog w r b0 24 v) (h : DataW.Trod enc Tryd.prog w 0 (fun _ => true) true 24 v d p) : ∃ (m : Ms) (vp : Value), v = msV m vp ∧ okB m.d ∧ Bs w vp m.d := by
  obtain ⟨cs, rfl, hsz⟩ := okWide_struct Tryd.underlying24 hv
  obtain ⟨c0, c1, c2, c3, c4, c5, c6, c7, rfl⟩ := eight_of cs (hsz.trans cellsMsg)
  obtain ⟨fuel, hf⟩ := h
  obtain ⟨xs, n, -, -, -, hlen, hx⟩ := DataW.trod_struct Tryd.underlying24 hf
  have cI : Tryd.prog.cellsOf 3 = 1 := by kernel_rfl
  have cB : Tryd.prog.cellsOf 22 = 1 := by kernel_rfl
  obtain ⟨y0, y1, y2, y3, y4, y5, y6, y7, rfl⟩ : ∃ y0 y1 y2 y3 y4 y5 y6 y7, xs = [y0, y1, y2, y3, y4, y5, y6, y7] := by
    match xs, hlen with
    | [a, b, c, d, e, f, g, i], _ => exact ⟨a, b, c, d, e, f, g, i, rfl⟩
  have h0 := hx 0 _ rfl
  have h1 := hx 1 _ rfl
  have h2 := hx 2 _ rfl
  have h3 := hx 3 _ rfl
  have h4 := hx 4 _ rfl
  have h5 := hx 5 _ rfl
  have h6 := hx 6 _ rfl
  have h7 := hx 7 _ rfl
  simp [Value.cells, cI, cB] at h0 h1 h2 h3 h4 h5 h6 h7
  obtain ⟨a0, e0, -, -⟩ := DataW.trod_int Tryd.underlying3 h0
  obtain ⟨a1, e1, -, -⟩ := DataW.trod_int Tryd.underlying3 h1
  obtain ⟨a2, e2, -, -⟩ := DataW.trod_int Tryd.underlying3 h2
  obtain ⟨a3, e3, -, -⟩ := DataW.trod_int Tryd.underlying3 h3
  obtain ⟨a4, e4, -, -⟩ := DataW.trod_int Tryd.underlying3 h4
  obtain ⟨a5, e5, -, -⟩ := DataW.trod_int Tryd.underlying3 h5
  obtain ⟨a6, e6, -, -⟩ := DataW.trod_int Tryd.underlying3 h6
  obtain ⟨l, hl, hB⟩ := bytes_raw h7
  simp at e0 e1 e2 e3 e4 e5 e6
  subst e0 e1 e2 e3 e4 e5 e6
  exact ⟨⟨a0, a1, a2, a3, a4, a5, a6, l⟩, c7, rfl, hl, hB⟩
/-! The tables, read off the row's condition. -/
def laidA : List (String × DataW Unit) := [("regatta/crc.halves", Rows.laid_regatta_crc_halves), ("regatta/frame.ahead", Rows.laid_regatta_frame_ahead)]
theorem gTbN : Tryd.prog.globalNamed "regatta/crc.halves" = some 1 := by kernel_rfl
theorem tTbN : (Tryd.prog.globals[1]?).map (·.type) = some 104 := by kernel_rfl
theorem gAhN : Tryd.prog.globalNamed "regatta/frame.ahead" = some 0 := by kernel_rfl
theorem tAhN : (Tryd.prog.globals[0]?).map (·.type) = some 75 := by kernel_rfl
theorem cellsTb : Tryd.prog.cellsOf 104 = 16 := by kernel_rfl
theorem cellsAh : Tryd.prog.cellsOf 75 = 3 := by kernel_rfl
theorem cellsU32 : Tryd.prog.cellsOf 77 = 1 := by kernel_rfl
theorem cellsU8 : Tryd.prog.cellsOf 5 = 1 := by kernel_rfl
def tbZ : List Int := (List.range 16).map (fun i => ((cZs 4 i : Nat) : Int))
def ahZ : List Int := [82, 71, 1]
theorem tb_datum : (Rows.laid_regatta_crc_halves : DataW Unit) = Lib.tabData .u32 tbZ := by kernel_rfl
theorem ah_datum : (Rows.laid_regatta_frame_ahead : DataW Unit) = Lib.tabData .u8 ahZ := by kernel_rfl
theorem tb_head {rest : List (String × DataW Unit)} {W : World} (h : laidMet Tryd.prog (("regatta/crc.halves", Rows.laid_regatta_crc_halves) :: rest) W) : TbAt W := by
  rw [tb_datum] at h
  have hT := Lib.tabIs_of_head gTbN tTbN Tryd.underlying104 Tryd.underlying77 cellsU32 cellsTb h
  intro j hj
  have hc := hT.cell gTbN j (by unfold tbZ; rw [List.length_map, List.length_range]; exact hj)
  rw [hc]
  simp [tbZ, List.getD, hj]
theorem ah_head {rest : List (String × DataW Unit)} {W : World} (h : laidMet Tryd.prog (("regatta/frame.ahead", Rows.laid_regatta_frame_ahead) :: rest) W) : AhAt W := by
  rw [ah_datum] at h
  have hT := Lib.tabIs_of_head gAhN tAhN Tryd.underlying75 Tryd.underlying5 cellsU8 cellsAh h
  intro j hj
  have hc := hT.cell gAhN j hj
  rw [hc]
  have : j = 0 ∨ j = 1 ∨ j = 2 := by omega
  rcases this with rfl | rfl | rfl <;> rfl
theorem tabs_of_A {W : World} (h : laidMetH Tryd.prog laidA W) : FT W := by
  rw [MakeChecks.laidMetH_plain _ _ _ (by kernel_rfl)] at h
  exact ⟨tb_head h, ah_head (laidMet.tail h)⟩
/-- The door's own heap meets the condition. -/
theorem door_A (os : Os) (args : Array Value) : laidMetH Tryd.prog laidA ((World.doorLaid Tryd.prog 400 os).forCall (fun _ _ => 0) ⟨#[], args, []⟩).memory :=
  laidMetH_of_parts3 (fuel := 8) (laidMet_of_run' 8 (by kernel_rfl) (by kernel_rfl)) (by kernel_rfl) (by kernel_rfl)
end Go.Proofs.YtfcbgkcclganmaaDoor
