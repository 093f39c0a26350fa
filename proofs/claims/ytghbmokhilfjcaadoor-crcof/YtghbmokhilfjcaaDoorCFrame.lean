/-
  Arguments of layer 11's laws, opened: bytes, a list of texts, words of 32 bits, three texts; the two tables, read off the row's condition.
-/
import Derived.Test.YtghbmokhilfjcaaDoorRows
import Derived.Test.YtghbmokhilfjcaaDoorTie
import Derived.Test.YtghbmokhilfjcaaDoorCDefs
import Derived.Test.YtghbmokhilfjcaaDoorCRefC
import Derived.WalkKit
import Derived.ProofKit
import Derived.OpenShut
import Derived.ChangeOld
import Derived.Below
import Derived.Lib.SmallJoins
import Derived.Deep.SlicePairs
import Derived.Carry
import Derived.Lib.LaidTab
import Derived.LaidMore
import Derived.Stop.LaidErr
import Derived.Stop.Joined
set_option linter.unusedVariables false
namespace Go.Proofs.YtghbmokhilfjcaaDoor
open Go.ChangeShapes Go.WideShapes Go.ChangeAt Go.RowKit Go.Joins

theorem own : ownKnob Tryd.prog.godebug = none := by kernel_rfl
theorem laidOutV : laidOutB Tryd.prog = true := by kernel_rfl
theorem cellsByte : Tryd.prog.cellsOf 5 = 1 := by kernel_rfl
theorem cellsBys : Tryd.prog.cellsOf 24 = 1 := by kernel_rfl
theorem add_noneV (b o n : Nat) : (⟨b, o, none⟩ : Addr).add n = ⟨b, o + n, none⟩ := by
  unfold Addr.add
  split
  · subst n; rfl
  · rfl
set_option maxRecDepth 100000 in
theorem bytes_raw {H : Type} {enc : TypeId × Value → H} {w : World} {fuel : Nat} {v : Value} {x : DataW H × List MemPlace}
    (h : DataW.trod enc Tryd.prog w 0 (fun _ => true) true fuel 24 [v] = some x) : ∃ (n : Nat) (f : Nat → Nat), (∀ k, f k < 256) ∧ Ls w v n (by8 f) := by
  rcases Go.Deep.open_slice Tryd.underlying24 h with h0 | ⟨a, len, cap, m, n, D, Pl, hc, hb, hl, hm, hmm, -, hx⟩
  · have hc := h0.1
    simp at hc
    subst hc
    exact ⟨0, fun _ => 0, fun _ => (by decide : 0 < 256), ls_none w _⟩
  · simp at hc
    subst hc
    simp only [if_true] at hmm
    subst hmm
    obtain ⟨ab, ao, spot⟩ := a
    have hint : ∀ i, i < len → ∃ q : Nat, w.cell? ((⟨ab, ao, spot⟩ : Addr).add i) = some (.int .u8 (q : Int)) ∧ q < 256 := fun i hi => by
      obtain ⟨cs', h1, h2⟩ := hx i (by omega)
      rw [cellsByte] at h1
      obtain ⟨_, hlen, hcell⟩ := World.cells?_some h1
      obtain ⟨x, e0, _, wx⟩ := DataW.trod_int Tryd.underlying5 h2
      subst e0
      have e1 := hcell 0 (by omega)
      rw [Go.Deep.add_add] at e1
      have hb := bounds_u8 wx
      obtain ⟨y, rfl⟩ : ∃ y : Nat, x = (y : Int) := ⟨x.toNat, by omega⟩
      exact ⟨y, by simpa using e1, by omega⟩
    obtain ⟨q, hq⟩ := Go.Deep.choose_lt hint
    refine ⟨len, fun k => q k % 256, fun k => Nat.mod_lt _ (by omega), some ⟨ab, ao, spot⟩, m, ab, ao, rfl, hl, ⟨hm, fun e => by cases e⟩, ?_, ?_⟩
    · intro h0
      have hspot : spot = none := by simpa [Addr.add] using World.cell?_spot (hq 0 h0).1
      rw [hspot]
    · intro j hj
      have hspot : spot = none := by simpa [Addr.add] using World.cell?_spot (hq 0 (by omega)).1
      subst hspot
      obtain ⟨d0, d1⟩ := hq j hj
      rw [add_noneV] at d0
      unfold by8
      dsimp only
      rw [Nat.mod_eq_of_lt d1]
      exact d0
/-- A text. -/
theorem open_bytes {H : Type} {enc : TypeId × Value → H} {w : World} {v : Value} {d : DataW H} {p : List MemPlace} {r : Reach} {b0 : Nat}
    (hv : Value.okWide Tryd.prog w r b0 24 v) (h : DataW.Trod enc Tryd.prog w 0 (fun _ => true) true 24 v d p) : ∃ (n : Nat) (f : Nat → Nat), (∀ k, f k < 256) ∧ Ls w v n (by8 f) := by
  obtain ⟨adr, len, cap, rfl⟩ := okWide_slice Tryd.underlying24 hv
  obtain ⟨fuel, h⟩ := h
  exact bytes_raw (by simpa [Value.cells] using h)
set_option maxRecDepth 100000 in
/-- A list of texts. -/
theorem open_texts {H : Type} {enc : TypeId × Value → H} {w : World} {r : Reach} {b0 : Nat} {v : Value} {d : DataW H} {p : List MemPlace}
    (hv : Value.okWide Tryd.prog w r b0 22 v) (h : DataW.Trod enc Tryd.prog w 0 (fun _ => true) true 22 v d p) : ∃ (K : Nat) (ns : Nat → Nat) (fs : Nat → Nat → Nat), (∀ j k, fs j k < 256) ∧ Lb w v K ns fs := by
  obtain ⟨adr, len, cap, rfl⟩ := okWide_slice Tryd.underlying22 hv
  obtain ⟨fuel, h⟩ := h
  rcases Go.Deep.open_slice Tryd.underlying22 h with h0 | ⟨a, len', cap', m, n, D, Pl, hc, hb, hl, hm, hmm, -, hx⟩
  · have hc := h0.1
    simp [Value.cells] at hc
    obtain ⟨rfl, rfl, rfl⟩ := hc
    exact ⟨0, fun _ => 0, fun _ _ => 0, fun _ _ => (by decide : 0 < 256), none, 0, 0, 0, rfl, Nat.le_refl _, Nat.zero_le _, fun h => by omega, fun j hj => by omega⟩
  · simp [Value.cells] at hc
    obtain ⟨rfl, rfl, rfl⟩ := hc
    simp only [if_true] at hmm
    subst hmm
    obtain ⟨ab, ao, spot⟩ := a
    have hint : ∀ i, i < len → ∃ q : Option Addr × Nat × Nat × (Nat → Nat), (w.cell? ((⟨ab, ao, spot⟩ : Addr).add i) = some (.slice q.1 q.2.1 q.2.2.1) ∧ Ls w (.slice q.1 q.2.1 q.2.2.1) q.2.1 (by8 q.2.2.2)) ∧ ∀ k, q.2.2.2 k < 256 := fun i hi => by
      obtain ⟨cs', h1, h2⟩ := hx i (by omega)
      rw [cellsBys] at h1
      obtain ⟨_, hlen, hcell⟩ := World.cells?_some h1
      obtain ⟨x, rfl⟩ : ∃ x, cs' = [x] := by
        match cs', hlen with
        | [x], _ => exact ⟨x, rfl⟩
      have e1 := hcell 0 (by omega)
      rw [Go.Deep.add_add] at e1
      obtain ⟨n', f', hf, hA⟩ := bytes_raw h2
      obtain ⟨ad, ca, rfl, -, -⟩ := hA.len
      exact ⟨(ad, n', ca, f'), ⟨by simpa using e1, hA⟩, hf⟩
    obtain ⟨q, hq⟩ := Go.Deep.choose_lt hint
    refine ⟨len, fun i => (q i).2.1, fun i k => if i < len then (q i).2.2.2 k else 0, ?_, some ⟨ab, ao, spot⟩, m, ab, ao, rfl, hl, hm, ?_, ?_⟩
    · intro j k
      by_cases hj : j < len
      · simp only [if_pos hj]; exact (hq j hj).2 k
      · simp only [if_neg hj]; omega
    · intro h0
      have hspot : spot = none := by simpa [Addr.add] using World.cell?_spot (hq 0 h0).1.1
      rw [hspot]
    · intro j hj
      have hspot : spot = none := by simpa [Addr.add] using World.cell?_spot (hq 0 (by omega)).1.1
      subst hspot
      obtain ⟨⟨d0, d1⟩, -⟩ := hq j hj
      rw [add_noneV] at d0
      refine ⟨(q j).1, (q j).2.2.1, d0, ?_⟩
      simp only [if_pos hj]
      exact d1
-- @IF f:regatta/regattalaw11.CrcLaid@
theorem cellsTh : Tryd.prog.cellsOf 40 = 3 := by kernel_rfl
set_option maxRecDepth 100000 in
/-- Three texts. -/
theorem open_three {H : Type} {enc : TypeId × Value → H} {w : World} {r : Reach} {b0 : Nat} {v : Value} {d : DataW H} {p : List MemPlace}
    (hv : Value.okWide Tryd.prog w r b0 40 v) (h : DataW.Trod enc Tryd.prog w 0 (fun _ => true) true 40 v d p) :
    ∃ (va vb vc : Value) (n1 n2 n3 : Nat) (f g h : Nat → Nat), v = .agg #[va, vb, vc] ∧ (∀ k, f k < 256) ∧ (∀ k, g k < 256) ∧ (∀ k, h k < 256) ∧ Ls w va n1 (by8 f) ∧ Ls w vb n2 (by8 g) ∧ Ls w vc n3 (by8 h) := by
  obtain ⟨c0, c1, c2, y0, y1, y2, m, rfl, rfl, rfl, hy0, hy1, hy2⟩ := open_agg3 Tryd.underlying40 (by kernel_rfl) cellsTh hv h
  obtain ⟨n1, f, hf, hA⟩ := bytes_raw hy0
  obtain ⟨n2, g, hg, hB⟩ := bytes_raw hy1
  obtain ⟨n3, h, hh, hC⟩ := bytes_raw hy2
  exact ⟨c0, c1, c2, n1, n2, n3, f, g, h, rfl, hf, hg, hh, hA, hB, hC⟩
-- @END@
/-! The tables. -/
def laidB : List (String × DataW Unit) := [("regatta/regattaref11.powers", Rows.laid_regatta_regattaref11_powers), ("regatta/crc.halves", Rows.laid_regatta_crc_halves)]
def laidA : List (String × DataW Unit) := [("regatta/crc.halves", Rows.laid_regatta_crc_halves)]
theorem gTbN : Tryd.prog.globalNamed "regatta/crc.halves" = some 0 := by kernel_rfl
theorem tTbN : (Tryd.prog.globals[0]?).map (·.type) = some 47 := by kernel_rfl
theorem cellsTb : Tryd.prog.cellsOf 47 = 16 := by kernel_rfl
theorem cellsU32 : Tryd.prog.cellsOf 25 = 1 := by kernel_rfl
theorem gPwN : Tryd.prog.globalNamed "regatta/regattaref11.powers" = some 1 := by kernel_rfl
theorem tPwN : (Tryd.prog.globals[1]?).map (·.type) = some 48 := by kernel_rfl
theorem cellsPw : Tryd.prog.cellsOf 48 = 14 := by kernel_rfl
theorem cellsI : Tryd.prog.cellsOf 3 = 1 := by kernel_rfl
def tbZ : List Int := (List.range 16).map (fun i => ((cZs 4 i : Nat) : Int))
def pwZ : List Int := (List.range 14).map (fun i => ((pw i : Nat) : Int))
theorem tb_datum : (Rows.laid_regatta_crc_halves : DataW Unit) = Lib.tabData .u32 tbZ := by kernel_rfl
theorem pw_datum : (Rows.laid_regatta_regattaref11_powers : DataW Unit) = Lib.tabData .i64 pwZ := by kernel_rfl
theorem tb_head {rest : List (String × DataW Unit)} {W : World} (h : laidMet Tryd.prog (("regatta/crc.halves", Rows.laid_regatta_crc_halves) :: rest) W) : TbAt W := by
  rw [tb_datum] at h
  have hT := Lib.tabIs_of_head gTbN tTbN Tryd.underlying47 Tryd.underlying25 cellsU32 cellsTb h
  intro j hj
  have hc := hT.cell gTbN j (by unfold tbZ; rw [List.length_map, List.length_range]; exact hj)
  rw [hc]
  simp [tbZ, List.getD, hj]
theorem pw_head {rest : List (String × DataW Unit)} {W : World} (h : laidMet Tryd.prog (("regatta/regattaref11.powers", Rows.laid_regatta_regattaref11_powers) :: rest) W) : PwAt W := by
  rw [pw_datum] at h
  have hT := Lib.tabIs_of_head gPwN tPwN Tryd.underlying48 Tryd.underlying3 cellsI cellsPw h
  intro j hj
  have hc := hT.cell gPwN j (by unfold pwZ; rw [List.length_map, List.length_range]; exact hj)
  rw [hc]
  simp [pwZ, List.getD, hj]
theorem tabs_of_B {W : World} (h : laidMetH Tryd.prog laidB W) : TbAt W ∧ PwAt W := by
  rw [MakeChecks.laidMetH_plain _ _ _ (by kernel_rfl)] at h
  exact ⟨tb_head (laidMet.tail h), pw_head h⟩
theorem tabs_of_A {W : World} (h : laidMetH Tryd.prog laidA W) : TbAt W := by
  rw [MakeChecks.laidMetH_plain _ _ _ (by kernel_rfl)] at h
  exact tb_head h
/-- The door's own heap meets the conditions. -/
theorem door_B (os : Os) (args : Array Value) : laidMetH Tryd.prog laidB ((World.doorLaid Tryd.prog 400 os).forCall (fun _ _ => 0) ⟨#[], args, []⟩).memory :=
  laidMetH_of_parts3 (fuel := 8) (laidMet_of_run' 8 (by kernel_rfl) (by kernel_rfl)) (by kernel_rfl) (by kernel_rfl)
theorem door_A (os : Os) (args : Array Value) : laidMetH Tryd.prog laidA ((World.doorLaid Tryd.prog 400 os).forCall (fun _ _ => 0) ⟨#[], args, []⟩).memory :=
  laidMetH_of_parts3 (fuel := 8) (laidMet_of_run' 8 (by kernel_rfl) (by kernel_rfl)) (by kernel_rfl) (by kernel_rfl)
end Go.Proofs.YtghbmokhilfjcaaDoor
