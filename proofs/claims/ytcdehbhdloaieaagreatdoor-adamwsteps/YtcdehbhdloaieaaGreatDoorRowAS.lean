/-
  AdamwSteps: for every inner and every state, parameters and gradient adamw.Step answers the document's state and parameters, number by number, counts what was held, and refuses what the document refuses (what the law's own bounds let go is let go by the law itself). Its condition: the table of math/bits.TrailingZeros64 that its row lists reads as its initialiser lays it; the card ties that to the program's text.
-/
import Derived.Test.YtcdehbhdloaieaaGreatDoorAFrame
import Derived.Test.YtcdehbhdloaieaaGreatDoorCards
import Derived.SevenTiedAt
import Derived.Test.YtcdehbhdloaieaaGreatDoorLawAS
import Derived.Test.YtcdehbhdloaieaaGreatDoorABase
import Derived.Test.YtcdehbhdloaieaaGreatDoorAAwake
set_option linter.unusedVariables false
namespace Go.Proofs.YtcdehbhdloaieaaGreatDoor
open Go.ChangeShapes Go.WideShapes Go.ChangeAt Go.RowKit Go.Joins

theorem aw9 : Aw9 := fun W h => awake9_any W h
theorem Ux.un9 {d : Nat} {c : Int} {w w' : World} (h : Ux (some ⟨d, 0, none⟩) c w w') : Un d c w w' := by
  rcases h with ⟨h, -⟩ | ⟨d', h, -, hU⟩
  · cases h
  · cases h
    exact hU
theorem ow_at9 {B g n : Nat} (h : B ≤ g) : Ow B (.slice (some ⟨g, 0, none⟩) n n) := fun a m c e _ => by cases e; exact h
theorem adw1 : Adw1 where
  stepU := fun B W vD nD at' fa b1 b2 ep dc cl T vM vV vp vg n M V P G d c w hI hbd T0 T1 hn c0 c1 hD hM hV hP hG nM nV nP nG hU hT => by
    refine (step9_ok B W vD nD at' fa b1 b2 ep dc cl T vM vV vp vg n M V P G (some ⟨d, 0, none⟩) c w hI hbd T0 T1 hn c0 c1 hD hM hV hP hG (nv_some nM) (nv_some nV) (nv_some nP) (nv_some nG) (Or.inr ⟨d, rfl, hU⟩) hT).mono ?_
    rintro e w' ⟨g1, g2, g3, he, q1, q2, q3, q4, q5⟩
    exact ⟨_, _, _, he, q1, q2, q3, ⟨ow_at9 q4.1, ow_at9 q4.2.1, ow_at9 q4.2.2⟩, q5.un9⟩
  stepE := fun B W vD nD at' fa b1 b2 ep dc cl T vM vV vp vg nM nV nP nG M V P G d c w hg hD hM hV hP hG hU hT => by
    refine (step9_no B W vD nD at' fa b1 b2 ep dc cl T vM vV vp vg nM nV nP nG M V P G (some ⟨d, 0, none⟩) c w hg hD hM hV hP hG (Or.inr ⟨d, rfl, hU⟩)).mono ?_
    rintro e w' ⟨E, he, hE, hb⟩
    exact ⟨_, _, _, E, he, ⟨⟨none, 0, rfl⟩, ⟨none, 0, rfl⟩, ⟨none, 0, rfl⟩⟩, hE, (Un.same hU.1 hU.2).ahead hb⟩
set_option maxRecDepth 100000 in
theorem adamwSteps_lifted (os : Os) (started : os.Started) (H : Type) (enc : TypeId × Value → H) :
    ReturnsInHanded {} Tryz.checked os 3 .any (fun w args => (Rows.adamwStepsSpec.pre enc Tryz.prog Tryz.f3 [] false w args ∧ laidMetH Tryz.prog laidTab w) ∧ sizedMet enc Tryz.prog Tryz.f3 (OpenSpec.ofChange Rows.adamwStepsSpec) false w args) (Rows.adamwStepsSpec.post enc Tryz.prog Tryz.f3 false true false false) := by
  refine returnsInHanded_of_change_and (C := Tryz.checked) (X := fun w _ => laidMetH Tryz.prog laidTab w) (fun _ _ _ hh h => h.of_heap hh) own started (by kernel_rfl) Tryz.func3
    (ChangeSpec.witness_shaped (enc := enc) (C := Tryz.checked) (os := os) (X := fun w _ => laidMetH Tryz.prog laidTab w) false (World.doorLaid Tryz.prog 400 os) #[.agg #[.int .i64 0, .int .i64 0, .slice none 0 0, .int .i64 0, .int .i64 0, .int .i64 0, .int .i64 0, .int .i64 0], .agg #[.slice none 0 0, .slice none 0 0, .int .i64 0, .slice none 0 0, .slice none 0 0]] 8 rfl (World.shaped_of_RefB (by kernel_rfl) (by kernel_rfl)) (by kernel_rfl) (by kernel_rfl) (by kernel_rfl) (door_met os _)) ?_
  intro W base args ds gs before hval0 hW hcnd _ hL _
  have hTab : TabAt W := tab_of_laid hL
  have hval : ∀ (j : Nat) t v, Tryz.f3.params[j]? = some t → args[j]? = some v → Value.okWide Tryz.prog W .any base t v := hval0
  have hW' := hW
  obtain ⟨p, q, hA0, hV, rfl, hfz, hnd⟩ := hW
  have hA : DataW.TrodAll enc Tryz.prog W 0 (fun _ => true) true Tryz.f3.params.toList args.toList ds p := hA0
  rw [Tryz.params3] at hA hval
  obtain ⟨v0, vs0, d0, ds0, p0, q0, hargs, rfl, rfl, h0, r0⟩ := trodAll_cons hA
  obtain ⟨v1, vs1, d1, ds1, p1, q1, rfl, rfl, rfl, h1, r1⟩ := trodAll_cons r0
  obtain ⟨rfl, rfl, rfl⟩ := trodAll_nil r1
  obtain rfl : args = #[v0, v1] := by cases args; simp_all
  obtain ⟨rfl, rfl⟩ := trodVars_none hV
  have h0k := h0
  obtain ⟨B_0, W_0, u_0, nD_0, at_0, fa_0, b1_0, b2_0, ep_0, dc_0, cl_0, rfl, D_0, bd_0⟩ := open_inner (hval 0 27 v0 rfl rfl) h0
  have h1k := h1
  obtain ⟨vM_1, vV_1, vP_1, vG_1, T_1, nM_1, nV_1, nP_1, nG_1, M_1, V_1, P_1, G_1, rfl, AM_1, AV_1, AP_1, AG_1, bT_1⟩ := open_now (hval 1 32 v1 rfl rfl) h1
  clear hA0 hval0
  have hlt0 : ∀ x ∈ p0, x.block < W.heap.size := fun x hx => hW'.lt x (by simp [hx])
  have hlt1 : ∀ x ∈ p1, x.block < W.heap.size := fun x hx => hW'.lt x (by simp [hx])
  have hwalk := adamwSteps_any adw1 aw9 B_0 W_0 u_0 nD_0 at_0 fa_0 b1_0 b2_0 ep_0 dc_0 cl_0 T_1 vM_1 vV_1 vP_1 vG_1 nM_1 nV_1 nP_1 nG_1 M_1 V_1 P_1 G_1 W D_0 AM_1 AV_1 AP_1 AG_1 bd_0 hTab
  refine hwalk.mono fun e W' ⟨he, bel⟩ => ?_
  subst he
  exact ⟨_, rfl, _, _, _, [], (p0 ++ (p1 ++ [])), [], hW', trodAll_mk1 (shut_bool Tryz.underlying4 _), (trodAll_cons_mk (Below.trod laidOutV (by kernel_rfl) (of_decide_eq_true (by kernel_rfl)) h0k bel hlt0) (trodAll_cons_mk (Below.trod laidOutV (by kernel_rfl) (of_decide_eq_true (by kernel_rfl)) h1k bel hlt1) trodAll_mk0)), rfl, bel.frame _, fun h => by cases h⟩

theorem adamwSteps_row : Rows.AdamwStepsSaid :=
  OpenClaim.holds_of_wide 3 Tryz.f3 rfl rfl rfl rfl rfl rfl rfl ⟨rfl, rfl, rfl, rfl, rfl⟩ rfl rfl rfl rfl rfl (by kernel_rfl) Tryz.func3 (by kernel_rfl)
    (of_decide_eq_true (by kernel_rfl)) (by unfold Func.isWrapper; first | (rw [if_pos (by decide +kernel)]; kernel_rfl) | (rw [if_neg (by decide +kernel)]; exact ⟨rfl, rfl⟩))
    (fun os started H enc _ => adamwSteps_lifted os started H enc)

theorem adamwSteps_proved : Rows.AdamwStepsCardSaid :=
  Claim7.holds_tied_plain_at .later [] [.data] true (true, "6d19fa8209e6d6a370f7dc79f6e6eb15384cb70406043c87c331600978d6f2ad") false
    adamwSteps_row (fun _ h => by cases h) (by kernel_rfl) (fun _ h => by cases h) adamwSteps_row_tie rfl ⟨rfl, rfl⟩ (by kernel_rfl) rfl
    (fun f fn hf hfn => by
      obtain rfl : f = 3 := Option.some.inj ((show Tryz.prog.funcNamed "regatta/regattalaw09.AdamwSteps" = some 3 by kernel_rfl).symm.trans hf) |>.symm
      obtain rfl : fn = Tryz.f3 := (Option.some.inj (Tryz.func3.symm.trans hfn)).symm
      exact ⟨by kernel_rfl, fun j t ht => by
        have hall : (Tryz.f3.params.toList.all fun u => !Tryz.prog.wantsStandIn u) = true := by kernel_rfl
        exact (show Tryz.prog.wantsStandIn t = false by simpa using List.all_eq_true.1 hall t (Array.mem_toList_iff.2 (Array.mem_of_getElem? ht)))⟩)
    (by kernel_rfl)

#print axioms adamwSteps_proved
end Go.Proofs.YtcdehbhdloaieaaGreatDoor
