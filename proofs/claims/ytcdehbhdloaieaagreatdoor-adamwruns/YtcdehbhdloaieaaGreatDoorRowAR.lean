/-
  AdamwRuns: for every inner, every parameters and every list of gradients the law regattalaw09.AdamwRuns returns true: many steps, one behind the other, lead where the document's do, and count the same (what the law's own bounds let go is let go by the law itself). Its condition: the table of math/bits.TrailingZeros64 that its row lists reads as its initialiser lays it; the card ties that to the program's text.
-/
import Derived.Test.YtcdehbhdloaieaaGreatDoorAFrame
import Derived.Test.YtcdehbhdloaieaaGreatDoorCards
import Derived.SevenTiedAt
import Derived.Test.YtcdehbhdloaieaaGreatDoorLawAR
set_option linter.unusedVariables false
namespace Go.Proofs.YtcdehbhdloaieaaGreatDoor
open Go.ChangeShapes Go.WideShapes Go.ChangeAt Go.RowKit Go.Joins

theorem cellsFs9r : Tryz.prog.cellsOf 28 = 1 := by kernel_rfl
set_option maxRecDepth 100000 in
theorem open_lists9 {H : Type} {enc : TypeId × Value → H} {w : World} {r : Reach} {b0 : Nat} {v : Value} {d : DataW H} {p : List MemPlace}
    (hv : Value.okWide Tryz.prog w r b0 61 v) (h : DataW.Trod enc Tryz.prog w 0 (fun _ => true) true 61 v d p) : ∃ (K : Nat) (ns : Nat → Nat) (fs : Nat → Nat → Int), Lt9 w v K ns fs := by
  obtain ⟨adr, len, cap, rfl⟩ := okWide_slice Tryz.underlying61 hv
  obtain ⟨fuel, h⟩ := h
  rcases Go.Deep.open_slice Tryz.underlying61 h with h0 | ⟨a, len', cap', m, n, D, Pl, hc, hb, hl, hm, hmm, -, hx⟩
  · have hc := h0.1
    simp [Value.cells] at hc
    obtain ⟨rfl, rfl, rfl⟩ := hc
    exact ⟨0, fun _ => 0, fun _ _ => 0, none, 0, 0, 0, rfl, Nat.le_refl _, Nat.zero_le _, fun h => by omega, fun j hj => by omega⟩
  · simp [Value.cells] at hc
    obtain ⟨rfl, rfl, rfl⟩ := hc
    simp only [if_true] at hmm
    subst hmm
    obtain ⟨ab, ao, spot⟩ := a
    have hint : ∀ i, i < len → ∃ q : Option Addr × Nat × Nat × (Nat → Int), w.cell? ((⟨ab, ao, spot⟩ : Addr).add i) = some (.slice q.1 q.2.1 q.2.2.1) ∧ Ar w (.slice q.1 q.2.1 q.2.2.1) q.2.1 q.2.2.2 := fun i hi => by
      obtain ⟨cs', h1, h2⟩ := hx i (by omega)
      rw [cellsFs9r] at h1
      obtain ⟨_, hlen, hcell⟩ := World.cells?_some h1
      obtain ⟨x, rfl⟩ : ∃ x, cs' = [x] := by
        match cs', hlen with
        | [x], _ => exact ⟨x, rfl⟩
      have e1 := hcell 0 (by omega)
      rw [Go.Deep.add_add] at e1
      obtain ⟨n', f', hA⟩ := fixes_raw9 h2
      obtain ⟨ad, ca, b, o, rfl, -, -, -, -⟩ := id hA
      exact ⟨(ad, n', ca, f'), by simpa using e1, hA⟩
    obtain ⟨q, hq⟩ := Go.Deep.choose_lt hint
    refine ⟨len, fun i => (q i).2.1, fun i => (q i).2.2.2, some ⟨ab, ao, spot⟩, m, ab, ao, rfl, hl, hm, ?_, ?_⟩
    · intro h0
      have hspot : spot = none := by simpa [Addr.add] using World.cell?_spot (hq 0 h0).1
      rw [hspot]
    · intro j hj
      have hspot : spot = none := by simpa [Addr.add] using World.cell?_spot (hq 0 (by omega)).1
      subst hspot
      obtain ⟨d0, d1⟩ := hq j hj
      rw [add_noneV] at d0
      exact ⟨(q j).1, (q j).2.2.1, d0, d1⟩
set_option maxRecDepth 100000 in
theorem adamwRuns_lifted (os : Os) (started : os.Started) (H : Type) (enc : TypeId × Value → H) :
    ReturnsInHanded {} Tryz.checked os 4 .any (fun w args => (Rows.adamwRunsSpec.pre enc Tryz.prog Tryz.f4 [] false w args ∧ laidMetH Tryz.prog laidTab w) ∧ sizedMet enc Tryz.prog Tryz.f4 (OpenSpec.ofChange Rows.adamwRunsSpec) false w args) (Rows.adamwRunsSpec.post enc Tryz.prog Tryz.f4 false true false false) := by
  refine returnsInHanded_of_change_and (C := Tryz.checked) (X := fun w _ => laidMetH Tryz.prog laidTab w) (fun _ _ _ hh h => h.of_heap hh) own started (by kernel_rfl) Tryz.func4
    (ChangeSpec.witness_shaped (enc := enc) (C := Tryz.checked) (os := os) (X := fun w _ => laidMetH Tryz.prog laidTab w) false (World.doorLaid Tryz.prog 400 os) #[.agg #[.int .i64 0, .int .i64 0, .slice none 0 0, .int .i64 0, .int .i64 0, .int .i64 0, .int .i64 0, .int .i64 0], .slice none 0 0, .slice none 0 0] 8 rfl (World.shaped_of_RefB (by kernel_rfl) (by kernel_rfl)) (by kernel_rfl) (by kernel_rfl) (by kernel_rfl) (door_met os _)) ?_
  intro W base args ds gs before hval0 hW hcnd _ hL _
  have hTab : TabAt W := tab_of_laid hL
  have hval : ∀ (j : Nat) t v, Tryz.f4.params[j]? = some t → args[j]? = some v → Value.okWide Tryz.prog W .any base t v := hval0
  have hW' := hW
  obtain ⟨p, q, hA0, hV, rfl, hfz, hnd⟩ := hW
  have hA : DataW.TrodAll enc Tryz.prog W 0 (fun _ => true) true Tryz.f4.params.toList args.toList ds p := hA0
  rw [Tryz.params4] at hA hval
  obtain ⟨v0, vs0, d0, ds0, p0, q0, hargs, rfl, rfl, h0, r0⟩ := trodAll_cons hA
  obtain ⟨v1, vs1, d1, ds1, p1, q1, rfl, rfl, rfl, h1, r1⟩ := trodAll_cons r0
  obtain ⟨v2, vs2, d2, ds2, p2, q2, rfl, rfl, rfl, h2, r2⟩ := trodAll_cons r1
  obtain ⟨rfl, rfl, rfl⟩ := trodAll_nil r2
  obtain rfl : args = #[v0, v1, v2] := by cases args; simp_all
  obtain ⟨rfl, rfl⟩ := trodVars_none hV
  have h0k := h0
  obtain ⟨B_0, W_0, u_0, nD_0, at_0, fa_0, b1_0, b2_0, ep_0, dc_0, cl_0, rfl, D_0, bd_0⟩ := open_inner (hval 0 27 v0 rfl rfl) h0
  have h1k := h1
  obtain ⟨n_1, f_1, A_1⟩ := open_fixes (hval 1 28 v1 rfl rfl) h1
  have h2k := h2
  obtain ⟨n_2, nn_2, ff_2, A_2⟩ := open_lists9 (hval 2 61 v2 rfl rfl) h2
  clear hA0 hval0
  have hlt0 : ∀ x ∈ p0, x.block < W.heap.size := fun x hx => hW'.lt x (by simp [hx])
  have hlt1 : ∀ x ∈ p1, x.block < W.heap.size := fun x hx => hW'.lt x (by simp [hx])
  have hlt2 : ∀ x ∈ p2, x.block < W.heap.size := fun x hx => hW'.lt x (by simp [hx])
  have hwalk := adamwRuns_any B_0 W_0 u_0 nD_0 at_0 fa_0 b1_0 b2_0 ep_0 dc_0 cl_0 v1 v2 n_1 n_2 f_1 nn_2 ff_2 W D_0 bd_0 A_1 A_2 hTab
  refine hwalk.mono fun e W' ⟨he, bel⟩ => ?_
  subst he
  exact ⟨_, rfl, _, _, _, [], (p0 ++ (p1 ++ (p2 ++ []))), [], hW', trodAll_mk1 (shut_bool Tryz.underlying4 _), (trodAll_cons_mk (Below.trod laidOutV (by kernel_rfl) (of_decide_eq_true (by kernel_rfl)) h0k bel hlt0) (trodAll_cons_mk (Below.trod laidOutV (by kernel_rfl) (of_decide_eq_true (by kernel_rfl)) h1k bel hlt1) (trodAll_cons_mk (Below.trod laidOutV (by kernel_rfl) (of_decide_eq_true (by kernel_rfl)) h2k bel hlt2) trodAll_mk0))), rfl, bel.frame _, fun h => by cases h⟩

theorem adamwRuns_row : Rows.AdamwRunsSaid :=
  OpenClaim.holds_of_wide 4 Tryz.f4 rfl rfl rfl rfl rfl rfl rfl ⟨rfl, rfl, rfl, rfl, rfl⟩ rfl rfl rfl rfl rfl (by kernel_rfl) Tryz.func4 (by kernel_rfl)
    (of_decide_eq_true (by kernel_rfl)) (by unfold Func.isWrapper; first | (rw [if_pos (by decide +kernel)]; kernel_rfl) | (rw [if_neg (by decide +kernel)]; exact ⟨rfl, rfl⟩))
    (fun os started H enc _ => adamwRuns_lifted os started H enc)

theorem adamwRuns_proved : Rows.AdamwRunsCardSaid :=
  Claim7.holds_tied_plain_at .later [] [.data] true (true, "6d19fa8209e6d6a370f7dc79f6e6eb15384cb70406043c87c331600978d6f2ad") false
    adamwRuns_row (fun _ h => by cases h) (by kernel_rfl) (fun _ h => by cases h) adamwRuns_row_tie rfl ⟨rfl, rfl⟩ (by kernel_rfl) rfl
    (fun f fn hf hfn => by
      obtain rfl : f = 4 := Option.some.inj ((show Tryz.prog.funcNamed "regatta/regattalaw09.AdamwRuns" = some 4 by kernel_rfl).symm.trans hf) |>.symm
      obtain rfl : fn = Tryz.f4 := (Option.some.inj (Tryz.func4.symm.trans hfn)).symm
      exact ⟨by kernel_rfl, fun j t ht => by
        have hall : (Tryz.f4.params.toList.all fun u => !Tryz.prog.wantsStandIn u) = true := by kernel_rfl
        exact (show Tryz.prog.wantsStandIn t = false by simpa using List.all_eq_true.1 hall t (Array.mem_toList_iff.2 (Array.mem_of_getElem? ht)))⟩)
    (by kernel_rfl)

#print axioms adamwRuns_proved
end Go.Proofs.YtcdehbhdloaieaaGreatDoor
