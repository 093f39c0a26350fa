/-
  CrcJoin: for any two sums and any length the law regattalaw11.CrcJoin returns true. Its condition: the tables that its row lists read as their initialisers lay them; the card ties that to the program's text.
-/
import Derived.Test.YtghbmokhilfjcaaDoorCFrame
import Derived.Test.YtghbmokhilfjcaaDoorCards
import Derived.SevenTiedAt
import Derived.Test.YtghbmokhilfjcaaDoorCWalk2
import Derived.Test.YtghbmokhilfjcaaDoorLawCB
set_option linter.unusedVariables false
namespace Go.Proofs.YtghbmokhilfjcaaDoor
open Go.ChangeShapes Go.WideShapes Go.ChangeAt Go.RowKit Go.Joins

set_option maxRecDepth 100000 in
theorem crcJoin_lifted (os : Os) (started : os.Started) (H : Type) (enc : TypeId × Value → H) :
    ReturnsInHanded {} Tryd.checked os 5 .any (fun w args => (Rows.crcJoinSpec.pre enc Tryd.prog Tryd.f5 [] false w args ∧ laidMetH Tryd.prog laidB w) ∧ sizedMet enc Tryd.prog Tryd.f5 (OpenSpec.ofChange Rows.crcJoinSpec) false w args) (Rows.crcJoinSpec.post enc Tryd.prog Tryd.f5 false true false false) := by
  refine returnsInHanded_of_change_and (C := Tryd.checked) (X := fun w _ => laidMetH Tryd.prog laidB w) (fun _ _ _ hh h => h.of_heap hh) own started (by kernel_rfl) Tryd.func5
    (ChangeSpec.witness_shaped (enc := enc) (C := Tryd.checked) (os := os) (X := fun w _ => laidMetH Tryd.prog laidB w) false (World.doorLaid Tryd.prog 400 os) #[.int .u32 0, .int .u32 0, .int .i64 0] 8 rfl (World.shaped_of_RefB (by kernel_rfl) (by kernel_rfl)) (by kernel_rfl) (by kernel_rfl) (by kernel_rfl) (door_B os _)) ?_
  intro W base args ds gs before hval0 hW hcnd _ hL _
  have hTab := tabs_of_B hL
  have hval : ∀ (j : Nat) t v, Tryd.f5.params[j]? = some t → args[j]? = some v → Value.okWide Tryd.prog W .any base t v := hval0
  have hW' := hW
  obtain ⟨p, q, hA0, hV, rfl, hfz, hnd⟩ := hW
  have hA : DataW.TrodAll enc Tryd.prog W 0 (fun _ => true) true Tryd.f5.params.toList args.toList ds p := hA0
  rw [Tryd.params5] at hA hval
  obtain ⟨v0, vs0, d0, ds0, p0, q0, hargs, rfl, rfl, h0, r0⟩ := trodAll_cons hA
  obtain ⟨v1, vs1, d1, ds1, p1, q1, rfl, rfl, rfl, h1, r1⟩ := trodAll_cons r0
  obtain ⟨v2, vs2, d2, ds2, p2, q2, rfl, rfl, rfl, h2, r2⟩ := trodAll_cons r1
  obtain ⟨rfl, rfl, rfl⟩ := trodAll_nil r2
  obtain rfl : args = #[v0, v1, v2] := by cases args; simp_all
  obtain ⟨rfl, rfl⟩ := trodVars_none hV
  obtain ⟨a_0, rfl, rfl, rfl, w_0⟩ := open_int Tryd.underlying25 (hval 0 25 v0 rfl rfl) h0
  obtain ⟨s_0, hs_0, rfl⟩ : ∃ s : Nat, s < 4294967296 ∧ a_0 = (s : Int) := by
    have := bounds_u32 w_0
    exact ⟨a_0.toNat, by omega, by omega⟩
  obtain ⟨a_1, rfl, rfl, rfl, w_1⟩ := open_int Tryd.underlying25 (hval 1 25 v1 rfl rfl) h1
  obtain ⟨s_1, hs_1, rfl⟩ : ∃ s : Nat, s < 4294967296 ∧ a_1 = (s : Int) := by
    have := bounds_u32 w_1
    exact ⟨a_1.toNat, by omega, by omega⟩
  obtain ⟨a_2, rfl, rfl, rfl, w_2⟩ := open_int Tryd.underlying3 (hval 2 3 v2 rfl rfl) h2
  clear hA0 hval0
  have hwalk := crcJoin_any crc1 s_0 s_1 hs_0 hs_1 a_2 W hTab.1 hTab.2
  refine hwalk.mono fun e W' ⟨he, bel⟩ => ?_
  subst he
  exact ⟨_, rfl, _, _, _, [], ([] ++ ([] ++ ([] ++ []))), [], hW', trodAll_mk1 (shut_bool Tryd.underlying4 _), (trodAll_cons_mk (shut_int Tryd.underlying25 w_0) (trodAll_cons_mk (shut_int Tryd.underlying25 w_1) (trodAll_cons_mk (shut_int Tryd.underlying3 w_2) trodAll_mk0))), rfl, bel.frame _, fun h => by cases h⟩

theorem crcJoin_row : Rows.CrcJoinSaid :=
  OpenClaim.holds_of_wide 5 Tryd.f5 rfl rfl rfl rfl rfl rfl rfl ⟨rfl, rfl, rfl, rfl, rfl⟩ rfl rfl rfl rfl rfl (by kernel_rfl) Tryd.func5 (by kernel_rfl)
    (of_decide_eq_true (by kernel_rfl)) (by unfold Func.isWrapper; first | (rw [if_pos (by decide +kernel)]; kernel_rfl) | (rw [if_neg (by decide +kernel)]; exact ⟨rfl, rfl⟩))
    (fun os started H enc _ => crcJoin_lifted os started H enc)

theorem crcJoin_proved : Rows.CrcJoinCardSaid :=
  Claim7.holds_tied_plain_at .later [] [.data, .data] true (true, "1d45fcf9bb4d73f46899d4943342c72ff62ef84b68a17b80579acb5b95cd2771") false
    crcJoin_row (fun _ h => by cases h) (by kernel_rfl) (fun _ h => by cases h) crcJoin_row_tie rfl ⟨rfl, rfl⟩ (by kernel_rfl) rfl
    (fun f fn hf hfn => by
      obtain rfl : f = 5 := Option.some.inj ((show Tryd.prog.funcNamed "regatta/regattalaw11.CrcJoin" = some 5 by kernel_rfl).symm.trans hf) |>.symm
      obtain rfl : fn = Tryd.f5 := (Option.some.inj (Tryd.func5.symm.trans hfn)).symm
      exact ⟨by kernel_rfl, fun j t ht => by
        have hall : (Tryd.f5.params.toList.all fun u => !Tryd.prog.wantsStandIn u) = true := by kernel_rfl
        exact (show Tryd.prog.wantsStandIn t = false by simpa using List.all_eq_true.1 hall t (Array.mem_toList_iff.2 (Array.mem_of_getElem? ht)))⟩)
    (by kernel_rfl)

#print axioms crcJoin_proved
end Go.Proofs.YtghbmokhilfjcaaDoor
