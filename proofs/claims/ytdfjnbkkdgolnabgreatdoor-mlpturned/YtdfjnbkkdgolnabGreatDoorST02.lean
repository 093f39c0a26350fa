/-
  Texts of this proof, joined: LawMT.
-/
import Derived.Test.YtdfjnbkkdgolnabGreatDoorST01
import Derived.Test.YtdfjnbkkdgolnabGreatDoorSX00
import Derived.Test.YtdfjnbkkdgolnabGreatDoorSX01
import Derived.Test.YtdfjnbkkdgolnabGreatDoorSX02
import Derived.Test.YtdfjnbkkdgolnabGreatDoorSX03
import Derived.Test.YtdfjnbkkdgolnabGreatDoorSX04
import Derived.Test.YtdfjnbkkdgolnabGreatDoorSX05
import Derived.Test.YtdfjnbkkdgolnabGreatDoorSX06
import Derived.Test.YtdfjnbkkdgolnabGreatDoorSX07
import Derived.Test.YtdfjnbkkdgolnabGreatDoorSX08
import Derived.Test.YtdfjnbkkdgolnabGreatDoorSX09
import Derived.Test.YtdfjnbkkdgolnabGreatDoorSX10
import Derived.Test.YtdfjnbkkdgolnabGreatDoorSX11
import Derived.Test.YtdfjnbkkdgolnabGreatDoorSX12
import Derived.Test.YtdfjnbkkdgolnabGreatDoorSX13
set_option linter.unusedVariables false
set_option linter.unusedSimpArgs false
namespace Go.Proofs.YtdfjnbkkdgolnabGreatDoor
open Go.RowKit

set_option maxRecDepth 100000 in
set_option maxHeartbeats 16000000 in
theorem mlpTurned_any (vs vp vE : Value) (m lp Kn : Nat) (f P : Nat → Int) (nx nt : Nat → Nat) (xs ts : Nat → Nat → Int) (q0 : Int) (hq0 : -9223372036854775808 ≤ q0) (hq1 : q0 ≤ 9223372036854775807) (w : World) (hA : Ar w vs m f) (hP : Ar w vp lp P) (hE : Exv w vE Kn nx nt xs ts) (hV : TabAt w) :
    Calls Tryz.prog 4 #[.agg #[vs, vp], vE, .int .i64 q0] w fun e w' => e = .returned (.bool true) ∧ Below w.heap.size w w' := by
  obtain ⟨z, hz⟩ := zs_ex f m
  have HZz : Hid (Zs f m z) := hz
  have HAll : Hid (Ar w vs m f ∧ Ar w vp lp P ∧ TabAt w) := ⟨hA, hP, hV⟩
  obtain ⟨adr, cap, b, o, rfl, k1, k2, -, -⟩ := id hA
  obtain ⟨adp, cpp, bp, op, rfl, j1, j2, -, -⟩ := id hP
  obtain ⟨ade, cae, be, oe, rfl, i1, i2, i3, i4⟩ := hE
  have HI3 : Hid (0 < Kn → ade = some ⟨be, oe, none⟩) := i3
  have HI4 : Hid (∃ cv, Xc w be oe Kn nx nt xs ts cv) := xc_ex i4
  unfold maxLen at k2 j2 i2
  have HAw : Hid (∀ W : World, Below w.heap.size w W → Calls Tryz.prog 7 #[] W fun e w' => e = .returned (.bool true) ∧ Below W.heap.size W w') := fun W hb => awake7_any mlp4 W (TabAt.later hV hb)
  have HFw : Hid (∀ W : World, Below w.heap.size w W → Calls Tryz.prog 8 #[.agg #[.slice adr m cap, .slice adp lp cpp]] W fun e w' => Tells e (fwP f m lp z) ∧ Below W.heap.size W w') := fun W hb => few7_any _ _ m lp f P z hz W (hA.later hb) (hP.later hb)
  obtain ⟨w1, hw1⟩ : ∃ w1, w1 = w.alloc (.cells #[.slice adr m cap, .slice adp lp cpp] 25) := ⟨_, rfl⟩
  have HB1 : Hid (Below w.heap.size w w1) := by rw [hw1]; exact bel1 _ _
  have HX1 : Hid (Bx w.heap.size (.slice adr m cap) (.slice adp lp cpp) w1) := by rw [hw1]; exact Bx.new w _ _ _
  clear hA hP hz hV i3 i4
  go_enter Tryz.func4, Tryz.ntmps4
  go_upto_region 1 with fail
  rw [← hw1]
  clear hw1
  go_wp2_with fail
  refine (HAw.out _ HB1.out).mono ?_
  rintro e w2 ⟨rfl, hb⟩
  have HB2 : Hid (Below w.heap.size w w2) := bchain HB1.out hb
  have HX2 : Hid (Bx w.heap.size (.slice adr m cap) (.slice adp lp cpp) w2) := HX1.out.later hb
  have x0 := HX2.out.c0
  have x1 := HX2.out.c1
  clear hb HB1 HX1 HAw
  go_wp2_with fail
  refine (HFw.out _ HB2.out).mono ?_
  rintro e w3 ⟨hT, hb⟩
  have HB3 : Hid (Below w.heap.size w w3) := bchain HB2.out hb
  have HX3 : Hid (Bx w.heap.size (.slice adr m cap) (.slice adp lp cpp) w3) := HX2.out.later hb
  clear hb HB2 HX2 HFw x0 x1
  by_cases hfw : fwP f m lp z
  case neg =>
    have e0 := hT.no hfw
    subst e0
    go_wp2
    go_ret
    exact ⟨rfl, HB3.out⟩
  have e0 := hT.yes hfw
  subst e0
  clear hT
  have hmb : m ≤ 10 := hfw.1
  have hlb : lp ≤ 400 := hfw.2.1
  clear hfw
  by_cases hK1 : Kn < 1
  case pos =>
    have hKI : (Kn : Int) < 1 := by omega
    go_wp2
    go_ret
    exact ⟨rfl, HB3.out⟩
  have hKI : ¬ (Kn : Int) < 1 := by omega
  by_cases hK2 : 20 < Kn
  case pos =>
    have hKJ : (20 : Int) < (Kn : Int) := by omega
    go_wp2
    go_ret
    exact ⟨rfl, HB3.out⟩
  have hKJ : ¬ (20 : Int) < (Kn : Int) := by omega
  by_cases hq2 : q0 < 0
  case pos =>
    go_wp2
    go_ret
    exact ⟨rfl, HB3.out⟩
  obtain ⟨A, rfl⟩ : ∃ A : Nat, q0 = (A : Int) := ⟨q0.toNat, by omega⟩
  obtain ⟨k, hk⟩ : ∃ k, A % Kn = k := ⟨_, rfl⟩
  have hkK : k < Kn := by rw [← hk]; exact Nat.mod_lt _ (by omega)
  have t1 : ((A : Nat) : Int).tmod (Kn : Int) = (k : Int) := by rw [Int.tmod_eq_emod_of_nonneg (by omega), ← hk]; rfl
  have wk : IntKind.i64.wrap (k : Int) = (k : Int) := by rw [IntKind.wrap_i64]; omega
  have zK : ¬ Kn = 0 := by omega
  clear hk
  have e3 := HI3.out (by omega)
  subst e3
  obtain ⟨cv, hXc⟩ := HI4.out
  have HXc : Hid (Xc w be oe Kn nx nt xs ts cv) := hXc
  clear HI3 HI4 hXc
  have hkc : ¬ cae = k := by omega
  have hkI : (k : Int) ≤ (Kn : Int) := by omega
  have hkJ : (k : Int) ≤ (cae : Int) := by omega
  have hKc : (Kn : Int) ≤ (cae : Int) := by omega
  have hD : Below w3.heap.size w3 w3.drew := (Below.refl _ _).drew
  have HBd : Hid (Below w.heap.size w w3.drew) := bchain HB3.out hD
  have HXd : Hid (Bx w.heap.size (.slice adr m cap) (.slice adp lp cpp) w3.drew) := HX3.out.later hD
  go_upto_region 6 with fail
  refine wp_region_held_drew (S := fun _ => True) (by kernel_rfl) trivial (fun HS => ?_)
  clear HB3 HX3 hD
  generalize w3.drew = wd at *
  obtain ⟨i0, hti, hy0, hy1, hy2⟩ := info_parts dinfo_exa
  refine wpAnyH_take (i := 1) (v := ?v1) rfl (by kernel_rfl) (by kernel_rfl) (by kernel_rfl) (fun _ _ _ h => h) (Or.inl ⟨by kernel_rfl, ?h1⟩) HS ?r1
  case h1 => (rintro w _; go_simp) <;> with_reducible rfl
  try simp only [Act.put, List.getElem_toArray, List.getElem_cons_succ, List.getElem_cons_zero, List.setIfInBounds_toArray, List.set_cons_zero, List.set_cons_succ]
  refine wpAnyH_take (i := 2) (v := ?v2) rfl (by kernel_rfl) (by kernel_rfl) (by kernel_rfl) (fun _ _ _ h => h) (Or.inl ⟨by kernel_rfl, ?h2⟩) HS ?r2
  case h2 => (rintro w _; go_simp) <;> with_reducible rfl
  try simp only [Act.put, List.getElem_toArray, List.getElem_cons_succ, List.getElem_cons_zero, List.setIfInBounds_toArray, List.set_cons_zero, List.set_cons_succ]
  refine wpAnyH_take (i := 3) (v := ?v3) rfl (by kernel_rfl) (by kernel_rfl) (by kernel_rfl) (fun _ _ _ h => h) (Or.inl ⟨by kernel_rfl, ?h3⟩) HS ?r3
  case h3 => (rintro w _; go_simp) <;> with_reducible rfl
  try simp only [Act.put, List.getElem_toArray, List.getElem_cons_succ, List.getElem_cons_zero, List.setIfInBounds_toArray, List.set_cons_zero, List.set_cons_succ]
  refine wpAnyH_take (i := 5) (v := ?v4) rfl (by kernel_rfl) (by kernel_rfl) (by kernel_rfl) (fun _ _ _ h => h) (Or.inl ⟨by kernel_rfl, ?h4⟩) HS ?r4
  case h4 => (rintro w _; go_simp) <;> with_reducible rfl
  try simp only [Act.put, List.getElem_toArray, List.getElem_cons_succ, List.getElem_cons_zero, List.setIfInBounds_toArray, List.set_cons_zero, List.set_cons_succ]
  refine wpAnyH_take (i := 6) (v := ?v5) rfl (by kernel_rfl) (by kernel_rfl) (by kernel_rfl) (fun _ _ _ h => h) (Or.inl ⟨by kernel_rfl, ?h5⟩) HS ?r5
  case h5 => (rintro w _; go_simp) <;> with_reducible rfl
  try simp only [Act.put, List.getElem_toArray, List.getElem_cons_succ, List.getElem_cons_zero, List.setIfInBounds_toArray, List.set_cons_zero, List.set_cons_succ]
  refine wpAnyH_take (i := 7) (v := ?v6) rfl (by kernel_rfl) (by kernel_rfl) (by kernel_rfl) (fun _ _ _ h => h) (Or.inl ⟨by kernel_rfl, ?h6⟩) HS ?r6
  case h6 => (rintro w _; go_simp) <;> with_reducible rfl
  try simp only [Act.put, List.getElem_toArray, List.getElem_cons_succ, List.getElem_cons_zero, List.setIfInBounds_toArray, List.set_cons_zero, List.set_cons_succ]
  refine wpAnyH_ready (rs := [0]) (by kernel_rfl) (by simp) ?_
  refine AllReadyH.cons rfl (fun K hK => ?_) AllReadyH.nil
  go_simp
  refine hK.out _ _ trivial (fun HS => ?_)
  clear hK K
  refine wpAnyH_ready (rs := [4]) (by kernel_rfl) (by simp) ?_
  refine AllReadyH.cons rfl (fun K hK => ?_) AllReadyH.nil
  rw [if_pos (by kernel_rfl)]
  refine wp_append_own _ _ _ 38 rfl wd.heap.size 36 i0 (.agg #[.slice none 0 0, .slice none 0 0]) 2 48 Tryz.underlying38 hti hy0 hy1 hy2 rfl (by decide) (.slice (some ⟨wd.heap.size, 0, none⟩) 0 0) 0 [] rfl (World.ownsRow_made wd #[] 0 (Nat.le_refl _) (Nat.zero_le _) (by simp)) ⟨be, oe + k * 2, none⟩ (Kn - k) (cae - k) (xl cv (k * 2) ((Kn - k) * 2)) rfl (xl_len _ _ _) (fun j u hj => ?_) (fun u hu => ?_) (by unfold maxLen; omega) (by omega) (by rw [World.size_alloc]; omega) (fun v' w5 hown hgrow hnil => ?_)
  · have hjn : j < (Kn - k) * 2 := by have := (List.getElem?_eq_some_iff.1 hj).1; rw [xl_len] at this; exact this
    rw [xl_get _ _ _ _ hjn] at hj
    rw [Addr.add_lit, ← hj, Nat.add_assoc]
    exact cell_later (bel1 wd _) ((HXc.out.later HBd.out).c (k * 2 + j) (by omega))
  · unfold xl at hu
    obtain ⟨q, hq, rfl⟩ := List.mem_map.1 hu
    exact HXc.out.o _ (by have := List.mem_range.1 hq; omega)
  have HW5 : Hid (Below wd.heap.size wd w5) := ((Below.refl _ wd).alloc (Nat.le_refl _) _).grown hgrow (by simp) (by intro k hk; simp [Value.ownBlock] at hk; omega)
  refine hK.out _ _ trivial (fun HS => ?_)
  clear hK K hgrow hnil
  refine wpAnyH_ready (rs := [8]) (by kernel_rfl) (by simp) ?_
  refine AllReadyH.cons rfl (fun K hK => ?_) AllReadyH.nil
  rw [if_pos (by kernel_rfl)]
  refine wp_append_own _ _ _ 38 rfl wd.heap.size 36 i0 (.agg #[.slice none 0 0, .slice none 0 0]) 2 48 Tryz.underlying38 hti hy0 hy1 hy2 rfl (by decide) _ (0 + (Kn - k)) ([] ++ xl cv (k * 2) ((Kn - k) * 2)) rfl hown ⟨be, oe, none⟩ k cae (xl cv 0 (k * 2)) rfl (xl_len _ _ _) (fun j u hj => ?_) (fun u hu => ?_) (by unfold maxLen; omega) (by omega) (by have := HW5.out.size; omega) (fun v6 w6 hown6 hgrow6 hnil6 => ?_)
  · have hjn : j < k * 2 := by have := (List.getElem?_eq_some_iff.1 hj).1; rw [xl_len] at this; exact this
    rw [xl_get _ _ _ _ hjn] at hj
    rw [Addr.add_lit, ← hj, Nat.zero_add]
    exact cell_later HW5.out ((HXc.out.later HBd.out).c j (by omega))
  · unfold xl at hu
    obtain ⟨q, hq, rfl⟩ := List.mem_map.1 hu
    exact HXc.out.o _ (by have := List.mem_range.1 hq; omega)
  have HW6 : Hid (Below wd.heap.size wd w6) := HW5.out.grown hgrow6 HW5.out.size (fun k hk => (hown.lt k hk).1)
  refine hK.out _ _ trivial (fun HS => ?_)
  clear hK K hgrow6 hnil6 hown
  refine wpAnyH_take (i := 9) (v := ?v7) rfl (by kernel_rfl) (by kernel_rfl) (by kernel_rfl) (fun _ _ _ h => h) (Or.inl ⟨by kernel_rfl, ?h7⟩) HS ?r7
  case h7 => (rintro w _; go_simp) <;> with_reducible rfl
  try simp only [Act.put, List.getElem_toArray, List.getElem_cons_succ, List.getElem_cons_zero, List.setIfInBounds_toArray, List.set_cons_zero, List.set_cons_succ]
  refine wpAnyH_done (by kernel_rfl) ?_ _
  clear HS
  have en : 0 + (Kn - k) + k = Kn := by omega
  rw [en] at hown6
  clear en hti hy0 hy1 hy2 hKI hKJ hkI hkJ hKc hkc t1 wk zK
  rcases id hown6.2 with ⟨_, h0⟩ | ⟨g, capq, cur, rfl, hg, hh, hc1, hc2, hsz, htk⟩
  · omega
  have HX6 : Hid (Xc w6 g 0 Kn (fun q => nx (trn Kn k q)) (fun q => nt (trn Kn k q)) (fun q => xs (trn Kn k q)) (fun q => ts (trn Kn k q)) (fun i => cv (trn Kn k (i / 2) * 2 + i % 2))) := Xc.turned hkK (HXc.out.later HBd.out) HW6.out (fun i hi => by have := hown6.cellAt i hi; simpa using this)
  have HB6 : Hid (Below w.heap.size w w6) := bchain HBd.out HW6.out
  have HXb : Hid (Bx w.heap.size (.slice adr m cap) (.slice adp lp cpp) w6) := HXd.out.later HW6.out
  obtain ⟨X, E, n, F, hn, c1, c2⟩ := turned_both (.slice adr m cap) (.slice adp lp cpp) m lp Kn k be oe cae g capq f P nx nt xs ts cv _ z HZz.out hkK (by omega) i1 (by unfold maxLen; omega) hc1 hc2 w w6 HB6.out HAll.out.1 HAll.out.2.1 HAll.out.2.2 hlb HXc.out HX6.out
  have C1 := c1 w6 HB6.out
  have HC2 : Hid (∀ W, Below w6.heap.size w6 W → Calls Tryz.prog 13 #[.pointer none, .int .i64 1, .slice adr m cap, .slice adp lp cpp, .slice (some ⟨g, 0, none⟩) Kn capq] W fun e w' => ∃ ad n' ca, e = .returned (.tuple #[.slice ad n' ca, .int .i64 X, .int .i64 E]) ∧ Ar w' (.slice ad n' ca) n F ∧ Below W.heap.size W w') := c2
  have x0 := HXb.out.c0
  have x1 := HXb.out.c1
  unfold maxLen at hc2
  clear c1 c2 hown6 hh hsz htk HXc HX6 HW5 HW6 HBd HXd HAll HZz
  go_wp2_with fail
  refine C1.mono ?_
  rintro e w7 ⟨ad7, n7, ca7, rfl, hA7, hb7⟩
  have C2 := HC2.out w7 hb7
  replace x0 := cell_later hb7 x0
  replace x1 := cell_later hb7 x1
  have HB7 : Hid (Below w.heap.size w w7) := bchain HB6.out hb7
  clear C1 HC2 HB6 HXb hb7
  go_wp2_with fail
  refine C2.mono ?_
  rintro e w8 ⟨ad8, n8, ca8, rfl, hA8, hb8⟩
  have HB8 : Hid (Below w.heap.size w w8) := bchain HB7.out hb8
  have CS := same7_any _ _ n F F hn w8 (hA7.later hb8) hA8 (fun _ _ => rfl)
  clear C2 HB7 hb8 hA7 hA8 x0 x1
  go_wp2_with fail
  refine CS.mono ?_
  rintro e w9 ⟨rfl, rfl⟩
  clear CS
  go_wp2
  go_ret
  exact ⟨rfl, HB8.out⟩
end Go.Proofs.YtdfjnbkkdgolnabGreatDoor
