/-
  AdamwApart: for every inner, every state, parameters and gradient, and every place the law regattalaw09.AdamwApart returns true: without clipping a parameter alone goes as among others (what the law's own bounds let go is let go by the law itself). Its condition: the table of math/bits.TrailingZeros64 that its row lists reads as its initialiser lays it; the card ties that to the program's text.
-/
import Derived.Test.YtcdehbhdloaieaaDoorAFrame
import Derived.Test.YtcdehbhdloaieaaDoorCards
import Derived.SevenTiedAt
import Derived.Test.YtcdehbhdloaieaaDoorLawAP
set_option linter.unusedVariables false
namespace Go.Proofs.YtcdehbhdloaieaaDoor
open Go.ChangeShapes Go.WideShapes Go.ChangeAt Go.RowKit Go.Joins

set_option maxRecDepth 100000 in
theorem adamwApart_lifted (os : Os) (started : os.Started) (H : Type) (enc : TypeId × Value → H) :
    ReturnsInHanded {} Tryd.checked os 5 .any (fun w args => (Rows.adamwApartSpec.pre enc Tryd.prog Tryd.f5 [] false w args ∧ laidMetH Tryd.prog laidTab w) ∧ sizedMet enc Tryd.prog Tryd.f5 (OpenSpec.ofChange Rows.adamwApartSpec) false w args) (Rows.adamwApartSpec.post enc Tryd.prog Tryd.f5 false true false false) := by
  refine returnsInHanded_of_change_and (C := Tryd.checked) (X := fun w _ => laidMetH Tryd.prog laidTab w) (fun _ _ _ hh h => h.of_heap hh) own started (by kernel_rfl) Tryd.func5
    (ChangeSpec.witness_shaped (enc := enc) (C := Tryd.checked) (os := os) (X := fun w _ => laidMetH Tryd.prog laidTab w) false (World.doorLaid Tryd.prog 400 os) #[.agg #[.int .i64 0, .int .i64 0, .slice none 0 0, .int .i64 0, .int .i64 0, .int .i64 0, .int .i64 0, .int .i64 0], .agg #[.slice none 0 0, .slice none 0 0, .int .i64 0, .slice none 0 0, .slice none 0 0], .int .i64 0] 8 rfl (World.shaped_of_RefB (by kernel_rfl) (by kernel_rfl)) (by kernel_rfl) (by kernel_rfl) (by kernel_rfl) (door_met os _)) ?_
  intro W base args ds gs before hval0 hW hcnd _ hL _
  have hTab : TabAt W := tab_of_laid hL
  have hval : ∀ (j : Nat) t v, Tryd.f5.params[j]? = some t → args[j]? = some v → Value.okWide Tryd.prog W .any base t v := hval0
  have hW' := hW
  obtain ⟨p, q, hA0, hV, rfl, hfz, hnd⟩ := hW
  have hA : DataW.TrodAll enc Tryd.prog W 0 (fun _ => true) true Tryd.f5.params.toList args.toList ds p := hA0
  rw [Tryd.params5] at hA hval
  obtain ⟨v0, vs0, d0, ds0, p0, q0, hargs, rfl, rfl, h0, r0⟩ := trodAll_cons hA
  obtain ⟨v1, vs1, d1, ds1, p1, q1, rfl, rfl, rfl, h1, r1⟩ := trodAll_cons r0
  obtain ⟨v2, vs2, d2, ds2, p2, q2, rfl, rfl, rfl, h2, r2⟩ := trodAll_cons r1
  obtain ⟨rfl, rfl, rfl⟩ := trodAll_nil r2
  obtain rfl : args = #[v0, v1, v2] := by cases args; simp_all
  obtain ⟨rfl, rfl⟩ := trodVars_none hV
  have h0k := h0
  obtain ⟨B_0, W_0, u_0, nD_0, at_0, fa_0, b1_0, b2_0, ep_0, dc_0, cl_0, rfl, D_0, bd_0⟩ := open_inner (hval 0 27 v0 rfl rfl) h0
  have h1k := h1
  obtain ⟨vM_1, vV_1, vP_1, vG_1, T_1, nM_1, nV_1, nP_1, nG_1, M_1, V_1, P_1, G_1, rfl, AM_1, AV_1, AP_1, AG_1, bT_1⟩ := open_now (hval 1 47 v1 rfl rfl) h1
  obtain ⟨a_2, rfl, rfl, rfl, w_2⟩ := open_int Tryd.underlying3 (hval 2 3 v2 rfl rfl) h2
  clear hA0 hval0
  have hlt0 : ∀ x ∈ p0, x.block < W.heap.size := fun x hx => hW'.lt x (by simp [hx])
  have hlt1 : ∀ x ∈ p1, x.block < W.heap.size := fun x hx => hW'.lt x (by simp [hx])
  have hwalk := adamwApart_any B_0 W_0 u_0 nD_0 at_0 fa_0 b1_0 b2_0 ep_0 dc_0 cl_0 T_1 vM_1 vV_1 vP_1 vG_1 nM_1 nV_1 nP_1 nG_1 M_1 V_1 P_1 G_1 a_2 W D_0 AM_1 AV_1 AP_1 AG_1 bd_0 hTab
  refine hwalk.mono fun e W' ⟨he, bel⟩ => ?_
  subst he
  exact ⟨_, rfl, _, _, _, [], (p0 ++ (p1 ++ ([] ++ []))), [], hW', trodAll_mk1 (shut_bool Tryd.underlying4 _), (trodAll_cons_mk (Below.trod laidOutV (by kernel_rfl) (of_decide_eq_true (by kernel_rfl)) h0k bel hlt0) (trodAll_cons_mk (Below.trod laidOutV (by kernel_rfl) (of_decide_eq_true (by kernel_rfl)) h1k bel hlt1) (trodAll_cons_mk (shut_int Tryd.underlying3 w_2) trodAll_mk0))), rfl, bel.frame _, fun h => by cases h⟩

theorem adamwApart_row : Rows.AdamwApartSaid :=
  OpenClaim.holds_of_wide 5 Tryd.f5 rfl rfl rfl rfl rfl rfl rfl ⟨rfl, rfl, rfl, rfl, rfl⟩ rfl rfl rfl rfl rfl (by kernel_rfl) Tryd.func5 (by kernel_rfl)
    (of_decide_eq_true (by kernel_rfl)) (by unfold Func.isWrapper; first | (rw [if_pos (by decide +kernel)]; kernel_rfl) | (rw [if_neg (by decide +kernel)]; exact ⟨rfl, rfl⟩))
    (fun os started H enc _ => adamwApart_lifted os started H enc)

theorem adamwApart_proved : Rows.AdamwApartCardSaid :=
  Claim7.holds_tied_plain_at .later [] [.data] true (true, "8f17b88094ca0e75e821b95ed03c9b668387d9a3e134343909ef4c5c429be0ad") false
    adamwApart_row (fun _ h => by cases h) (by kernel_rfl) (fun _ h => by cases h) adamwApart_row_tie rfl ⟨rfl, rfl⟩ (by kernel_rfl) rfl
    (fun f fn hf hfn => by
      obtain rfl : f = 5 := Option.some.inj ((show Tryd.prog.funcNamed "regatta/regattalaw09.AdamwApart" = some 5 by kernel_rfl).symm.trans hf) |>.symm
      obtain rfl : fn = Tryd.f5 := (Option.some.inj (Tryd.func5.symm.trans hfn)).symm
      exact ⟨by kernel_rfl, fun j t ht => by
        have hall : (Tryd.f5.params.toList.all fun u => !Tryd.prog.wantsStandIn u) = true := by kernel_rfl
        exact (show Tryd.prog.wantsStandIn t = false by simpa using List.all_eq_true.1 hall t (Array.mem_toList_iff.2 (Array.mem_of_getElem? ht)))⟩)
    (by kernel_rfl)

#print axioms adamwApart_proved
end Go.Proofs.YtcdehbhdloaieaaDoor
