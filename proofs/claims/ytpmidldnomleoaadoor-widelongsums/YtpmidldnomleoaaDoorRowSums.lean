/-
  WideLongSums, proved whole: for every list of wide numbers, every long number and every int n the law returns true (wide numbers are added up as long ones, one by one, without loss, and rounded and clamped at the end) and its arguments read as before. Its condition: the table of math/bits.TrailingZeros64 reads as its initialiser lays it; the card ties that to the program's text.
-/
import Derived.Test.YtpmidldnomleoaaDoorFrame2
import Derived.Test.YtpmidldnomleoaaDoorDoorKit
import Derived.Test.YtpmidldnomleoaaDoorCards
import Derived.SevenTiedAt
import Derived.Test.YtpmidldnomleoaaDoorLawSums
import Derived.Deep.SlicePairs
import Derived.Carry
set_option linter.unusedVariables false
namespace Go.Proofs.YtpmidldnomleoaaDoor
open Go.ChangeShapes Go.WideShapes Go.ChangeAt Go.RowKit Go.Joins

theorem laidOutP : laidOutB Tryd.prog = true := by kernel_rfl
theorem add_none (b o n : Nat) : (⟨b, o, none⟩ : Addr).add n = ⟨b, o + n, none⟩ := by
  unfold Addr.add
  split
  · subst n; rfl
  · rfl

/-- A list of wide numbers, opened. -/
theorem open_wides {H : Type} {enc : TypeId × Value → H} {w : World} {r : Reach} {b0 : Nat} {v : Value} {d : DataW H} {p : List MemPlace}
    (hv : Value.okWide Tryd.prog w r b0 22 v) (h : DataW.Trod enc Tryd.prog w 0 (fun _ => true) true 22 v d p) :
    ∃ (adr : Option Addr) (len cap b off : Nat) (L : Nat → Int), v = .slice adr len cap ∧ (∀ j, -170141183460469231731687303715884105728 ≤ L j ∧ L j ≤ 170141183460469231731687303715884105727) ∧ (0 < len → adr = some ⟨b, off, none⟩) ∧ len ≤ cap ∧ cap ≤ maxLen ∧ LCells w b off len L := by
  obtain ⟨adr, len, cap, rfl⟩ := okWide_slice Tryd.underlying22 hv
  obtain ⟨fuel, h⟩ := h
  rcases Go.Deep.open_slice_pairs Tryd.underlying22 Tryd.underlying30 cellsW rfl rfl (by kernel_rfl) (by kernel_rfl) h with ⟨hc, hx⟩ | ⟨a, len', cap', m, k, V0, V1, D0, D1, P0, P1, hc, _, hl, hm, hmm, hx, hall⟩
  · simp [Value.cells] at hc
    obtain ⟨rfl, rfl, rfl⟩ := hc
    exact ⟨none, 0, 0, 0, 0, fun _ => 0, rfl, fun _ => by dsimp only; omega, fun h => by omega, Nat.le_refl _, Nat.zero_le _, fun j hj => by omega⟩
  · simp [Value.cells] at hc
    obtain ⟨rfl, rfl, rfl⟩ := hc
    simp only [if_true] at hmm
    subst hmm
    have hint : ∀ i, i < len → ∃ x y : Int, V0 i = .int .i64 x ∧ V1 i = .int .u64 y ∧ (Lit.int .i64 x).wf = true ∧ (Lit.int .u64 y).wf = true := fun i hi => by
      obtain ⟨_, _, t0, t1⟩ := hall i (by omega)
      obtain ⟨x, e0, _, wx⟩ := DataW.trod_int Tryd.underlying2 t0
      obtain ⟨y, e1, _, wy⟩ := DataW.trod_int Tryd.underlying23 t1
      simp only [List.cons.injEq, and_true] at e0 e1
      exact ⟨x, y, e0, e1, wx, wy⟩
    obtain ⟨ab, ao, spot⟩ := a
    refine ⟨some ⟨ab, ao, spot⟩, len, m, ab, ao, fun j => if j < len then nm (intOf (V0 j)) (intOf (V1 j)) else 0, rfl, ?_, ?_, hl, hm, ?_⟩
    · intro j
      by_cases hj : j < len
      · obtain ⟨x, y, e0, e1, wx, wy⟩ := hint j hj
        simp only [if_pos hj, e0, e1]
        exact wide_rng wx wy
      · simp only [if_neg hj]
        omega
    · intro h0
      have hspot : spot = none := by simpa [Addr.add] using World.cell?_spot (hall 0 (by omega)).1
      rw [hspot]
    · intro j hj
      have hspot : spot = none := by simpa [Addr.add] using World.cell?_spot (hall 0 (by omega)).1
      subst hspot
      obtain ⟨c0, c1, _, _⟩ := hall j (by omega)
      obtain ⟨x, y, e0, e1, wx, wy⟩ := hint j hj
      rw [add_none] at c0 c1
      rw [← Nat.add_assoc] at c1
      simp only [if_pos hj, e0, e1, intOf]
      rw [(wide_words wx wy).1, (wide_words wx wy).2, c0, c1, e0, e1]
      exact ⟨rfl, rfl⟩

set_option maxRecDepth 100000 in
theorem wideLongSums_lifted (os : Os) (started : os.Started) (H : Type) (enc : TypeId × Value → H) :
    ReturnsInHanded {} Tryd.checked os 3 .any (fun w args => (Rows.wideLongSumsSpec.pre enc Tryd.prog Tryd.f3 [] false w args ∧ laidMetH Tryd.prog laidTab w) ∧ sizedMet enc Tryd.prog Tryd.f3 (OpenSpec.ofChange Rows.wideLongSumsSpec) false w args) (Rows.wideLongSumsSpec.post enc Tryd.prog Tryd.f3 false true false false) := by
  refine returnsInHanded_of_change_and (C := Tryd.checked) (X := fun w _ => laidMetH Tryd.prog laidTab w) (fun _ _ _ hh h => h.of_heap hh) own started (by kernel_rfl) Tryd.func3
    (ChangeSpec.witness_shaped (enc := enc) (C := Tryd.checked) (os := os) (X := fun w _ => laidMetH Tryd.prog laidTab w) false (World.doorLaid Tryd.prog 400 os) #[.slice none 0 0, .agg #[.int .i64 0, .int .u64 0, .int .u64 0], .int .i64 0] 8 rfl (World.shaped_of_RefB (by kernel_rfl) (by kernel_rfl)) (by kernel_rfl) (by kernel_rfl) (by kernel_rfl) (door_met os _)) ?_
  intro W base args ds gs before hval0 hW hcnd _ hL _
  have hTab := tab_of_laid hL
  have hval : ∀ (j : Nat) t v, Tryd.f3.params[j]? = some t → args[j]? = some v → Value.okWide Tryd.prog W .any base t v := hval0
  have hW' := hW
  obtain ⟨p, q, hA0, hV, rfl, hfz, hnd⟩ := hW
  have hA : DataW.TrodAll enc Tryd.prog W 0 (fun _ => true) true Tryd.f3.params.toList args.toList ds p := hA0
  rw [Tryd.params3] at hA hval
  obtain ⟨v0, vs0, d0, ds0, p0, q0, hargs, rfl, rfl, h0, r0⟩ := trodAll_cons hA
  obtain ⟨v1, vs1, d1, ds1, p1, q1, rfl, rfl, rfl, h1, r1⟩ := trodAll_cons r0
  obtain ⟨v2, vs2, d2, ds2, p2, q2, rfl, rfl, rfl, h2, r2⟩ := trodAll_cons r1
  obtain ⟨rfl, rfl, rfl⟩ := trodAll_nil r2
  obtain rfl : args = #[v0, v1, v2] := by cases args; simp_all
  obtain ⟨rfl, rfl⟩ := trodVars_none hV
  have h0k := h0
  obtain ⟨adr, len, cap, b, off, L, rfl, hLr, hadr, hlc, hcm, hcells⟩ := open_wides (hval 0 22 v0 rfl rfl) h0
  obtain ⟨a1, b1, c1, rfl, rfl, rfl, wa1, wb1, wc1⟩ := open_long (hval 1 25 v1 rfl rfl) h1
  obtain ⟨a2, rfl, rfl, rfl, w2⟩ := open_int Tryd.underlying3 (hval 2 3 v2 rfl rfl) h2
  clear hA0 hval0
  simp only [List.append_nil] at hW'
  have hwalk := wideLongSums_walk adr len cap b off L (nm3 a1 b1 c1) a2 hLr hadr hlc hcm (bounds_i64 w2).1 (bounds_i64 w2).2 W hcells hTab
  rw [(long_words wa1 wb1 wc1).1, (long_words wa1 wb1 wc1).2.1, (long_words wa1 wb1 wc1).2.2] at hwalk
  have hlt : ∀ x ∈ p0, x.block < W.heap.size := fun x hx => hW'.lt x (by simpa using hx)
  refine hwalk.mono fun e W' ⟨he, bel⟩ => ?_
  subst he
  exact ⟨_, rfl, _, _, _, [], p0 ++ ([] ++ ([] ++ [])), [], hW', trodAll_mk1 (shut_bool Tryd.underlying4 _), (trodAll_cons_mk (Below.trod laidOutP (by kernel_rfl) (of_decide_eq_true (by kernel_rfl)) h0k bel hlt) (trodAll_cons_mk (shut_long wa1 wb1 wc1) (trodAll_cons_mk (shut_int Tryd.underlying3 w2) trodAll_mk0))), rfl, bel.frame _, fun h => by cases h⟩

theorem wideLongSums_row : Rows.WideLongSumsSaid :=
  OpenClaim.holds_of_wide 3 Tryd.f3 rfl rfl rfl rfl rfl rfl rfl ⟨rfl, rfl, rfl, rfl, rfl⟩ rfl rfl rfl rfl rfl (by kernel_rfl) Tryd.func3 (by kernel_rfl)
    (of_decide_eq_true (by kernel_rfl)) (by unfold Func.isWrapper; first | (rw [if_pos (by decide +kernel)]; kernel_rfl) | (rw [if_neg (by decide +kernel)]; exact ⟨rfl, rfl⟩))
    (fun os started H enc _ => wideLongSums_lifted os started H enc)

theorem wideLongSums_proved : Rows.WideLongSumsCardSaid :=
  Claim7.holds_tied_plain_at .later [] [.data] true (true, "5d8046882641e98b873af8410f21efe5125b8d3bb86188fd3ef2821b3ac5805f") false
    wideLongSums_row (fun _ h => by cases h) (by kernel_rfl) (fun _ h => by cases h) wideLongSums_row_tie rfl ⟨rfl, rfl⟩ (by kernel_rfl) rfl
    (fun f fn hf hfn => by
      obtain rfl : f = 3 := Option.some.inj ((show Tryd.prog.funcNamed "regatta/regattalaw01.WideLongSums" = some 3 by kernel_rfl).symm.trans hf) |>.symm
      obtain rfl : fn = Tryd.f3 := (Option.some.inj (Tryd.func3.symm.trans hfn)).symm
      exact ⟨by kernel_rfl, fun j t ht => by
        have hall : (Tryd.f3.params.toList.all fun u => !Tryd.prog.wantsStandIn u) = true := by kernel_rfl
        exact (show Tryd.prog.wantsStandIn t = false by simpa using List.all_eq_true.1 hall t (Array.mem_toList_iff.2 (Array.mem_of_getElem? ht)))⟩)
    (by kernel_rfl)

#print axioms wideLongSums_proved
end Go.Proofs.YtpmidldnomleoaaDoor

