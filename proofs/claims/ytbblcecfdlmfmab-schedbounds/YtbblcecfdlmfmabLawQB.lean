/-
  SchedBounds: whatever entries say, the inner steps are from the least to the most; and entry by entry they are the next ones.
-/
import Derived.Test.YtbblcecfdlmfmabQAwake
set_option linter.unusedVariables false
set_option linter.unusedSimpArgs false
namespace Go.Proofs.Ytbblcecfdlmfmab
open Go.RowKit

theorem Ens.pre {w : World} {adr : Option Addr} {n cap : Nat} {mb : Nat → Int} {wh : Nat → Nat} (h : Ens w (.slice adr n cap) n mb wh) (j : Nat) (hj : j ≤ n) : Ens w (.slice adr j cap) j mb wh := by
  obtain ⟨ad, ca, b, o, e, h1, h2, h3, h4⟩ := h
  cases e
  exact ⟨_, _, b, o, rfl, by omega, h2, fun h => h3 (by omega), fun k hk => h4 k (by omega)⟩
theorem ens_none (w : World) (mb : Nat → Int) (wh : Nat → Nat) : Ens w (.slice none 0 0) 0 mb wh := ⟨none, 0, 0, 0, rfl, Nat.le_refl _, Nat.zero_le _, fun h => by omega, fun k hk => by omega⟩
set_option maxRecDepth 100000 in
set_option maxHeartbeats 8000000 in
theorem schedBounds_any (l m f g : Int) (v : Value) (n : Nat) (mb : Nat → Int) (wh : Nat → Nat) (w : World) (hA : Ens w v n mb wh) :
    Calls Try.prog 3 #[.agg #[.int .i64 l, .int .i64 m, .int .i64 f, .int .i64 g], v] w fun e w' => e = .returned (.bool true) ∧ Below w.heap.size w w' := by
  have CA : Hid (∀ W : World, Calls Try.prog 4 #[] W fun e w' => e = .returned (.bool true) ∧ Below W.heap.size W w') := awake8_any
  have HAll : Hid (Ens w v n mb wh) := hA
  obtain ⟨adr, cap, b, o, rfl, k1, k2, k3, k4⟩ := hA
  unfold maxLen at k2
  have HC : Hid (∀ k, k < n → (∃ (r hh sa : Int) (ad : Option Addr) (cp : Nat), w.cell? ⟨b, o + k * 5, none⟩ = some (.int .i64 r) ∧ w.cell? ⟨b, o + k * 5 + 1, none⟩ = some (.int .i64 hh) ∧ w.cell? ⟨b, o + k * 5 + 2, none⟩ = some (.int .i64 (mb k)) ∧ w.cell? ⟨b, o + k * 5 + 3, none⟩ = some (.slice ad (wh k) cp) ∧ w.cell? ⟨b, o + k * 5 + 4, none⟩ = some (.int .i64 sa)) ∧ (-9223372036854775808 ≤ mb k ∧ mb k ≤ 9223372036854775807) ∧ wh k ≤ maxLen) := k4
  have HK : Hid (0 < n → adr = some ⟨b, o, none⟩) := k3
  clear k3 k4
  obtain ⟨w1, hw1⟩ : ∃ w1, w1 = w.alloc (.cells #[.int .i64 l, .int .i64 m, .int .i64 f, .int .i64 g] 23) := ⟨_, rfl⟩
  have HB1 : Hid (Below w.heap.size w w1) := by rw [hw1]; exact bel1 _ _
  have HQ := Q4.new w (.int .i64 l) (.int .i64 m) (.int .i64 f) (.int .i64 g) 23
  rw [← hw1] at HQ
  go_enter Try.func3, Try.ntmps3
  go_upto_region 1 with fail
  rw [← hw1]
  clear hw1
  go_wp2_with fail
  refine (CA.out _).mono ?_
  rintro e w2 ⟨rfl, hb⟩
  have HB2 : Hid (Below w.heap.size w w2) := bchain HB1.out hb
  replace HQ := HQ.later hb
  have y0 := HQ.c0
  have y1 := HQ.c1
  have y2 := HQ.c2
  have y3 := HQ.c3
  clear hb CA HB1
  by_cases hn : 60 < n
  · have hnI : (60 : Int) < (n : Int) := by omega
    go_wp2
    go_ret
    exact ⟨rfl, HB2.out⟩
  have hnI : ¬ (60 : Int) < (n : Int) := by omega
  by_cases hp : PO l m f g
  · have CC : Hid (∀ W : World, Calls Try.prog 5 #[.agg #[.int .i64 l, .int .i64 m, .int .i64 f, .int .i64 g]] W fun e w' => e = .returned (.int .i64 0) ∧ Below W.heap.size W w') := fun W => checkPace_yes l m f g W hp
    have C0 : Hid (∀ W : World, Calls Try.prog 6 #[.agg #[.int .i64 l, .int .i64 m, .int .i64 f, .int .i64 g], .slice none 0 0] W fun e w' => e = .returned (.tuple #[.int .i64 f, .int .i64 0]) ∧ Below W.heap.size W w') := fun W => by
      refine (pSteps_any l m f g _ 0 mb wh W (ens_none W mb wh)).mono ?_
      rintro e w' ⟨X, E, rfl, hs, hb⟩
      obtain ⟨e1, e2⟩ := hs.2.2.2 hp (by omega) (fun k hk => by omega)
      subst e1 e2
      exact ⟨rfl, hb⟩
    have HPO : Hid (PO l m f g) := hp
    clear hp
    go_wp2_with fail
    refine (CC.out _).mono ?_
    rintro e w3 ⟨rfl, hb⟩
    have HB3 : Hid (Below w.heap.size w w3) := bchain HB2.out hb
    replace HQ := HQ.later hb
    replace y0 := HQ.c0
    replace y1 := HQ.c1
    replace y2 := HQ.c2
    replace y3 := HQ.c3
    clear hb HB2 CC
    go_wp2_with fail
    refine (C0.out _).mono ?_
    rintro e w4 ⟨rfl, hb⟩
    have HB4 : Hid (Below w.heap.size w w4) := bchain HB3.out hb
    replace HQ := HQ.later hb
    replace y0 := HQ.c0
    replace y1 := HQ.c1
    replace y2 := HQ.c2
    replace y3 := HQ.c3
    clear hb HB3 C0
    have HQ4 : Hid (Q4 w.heap.size (.int .i64 l) (.int .i64 m) (.int .i64 f) (.int .i64 g) w4) := HQ
    clear HQ
    have HV : Hid (∀ k, l ≤ stV l m f g (msV mb wh) k ∧ stV l m f g (msV mb wh) k ≤ m) := fun k => stV_in HPO.out _ k
    go_upto_region 9 with fail
    clear y0 y1 y2 y3
    go_loopw [5, 38] (fun s5 si wr => ∃ (j : Nat) (x : Int), j ≤ n ∧ si = .int .i64 (j : Int) ∧ s5 = .int .i64 x ∧ Hid (x = stV l m f g (msV mb wh) j) ∧ Hid (∀ k, k < j → (wh k : Int) ≤ mb k) ∧ Hid (Q4 w.heap.size (.int .i64 l) (.int .i64 m) (.int .i64 f) (.int .i64 g) wr) ∧ Hid (Below w.heap.size w wr)) (fun _ si _ => n - (intOf si).toNat)
    case atStart => exact ⟨0, f, by omega, rfl, rfl, rfl, fun k hk => by omega, HQ4, HB4⟩
    case round =>
      obtain ⟨j, x, hj, rfl, rfl, HX, HO, HQr, HW⟩ := hrel
      by_cases hlt : j < n
      · have hjI : (j : Int) < (n : Int) := by omega
        have ea := HK.out (by omega)
        subst ea
        obtain ⟨⟨r, hh, sa, ad, cp, a1, a2, a3, a4, a5⟩, ⟨mb0, mb1⟩, wh1⟩ := HC.out j hlt
        replace a1 := cell_later HW.out a1
        replace a2 := cell_later HW.out a2
        replace a3 := cell_later HW.out a3
        replace a4 := cell_later HW.out a4
        replace a5 := cell_later HW.out a5
        obtain ⟨we, hwe⟩ : ∃ we, we = wr.alloc (.cells #[.int .i64 r, .int .i64 hh, .int .i64 (mb j), .slice ad (wh j) cp, .int .i64 sa] 32) := ⟨_, rfl⟩
        have hbe : Below wr.heap.size wr we := by rw [hwe]; exact bel1 _ _
        have HE5 := Q5.new wr (.int .i64 r) (.int .i64 hh) (.int .i64 (mb j)) (.slice ad (wh j) cp) (.int .i64 sa) 32
        rw [← hwe] at HE5
        have HWe : Hid (Below w.heap.size w we) := bchain HW.out hbe
        have HQe : Q4 w.heap.size (.int .i64 l) (.int .i64 m) (.int .i64 f) (.int .i64 g) we := HQr.out.later hbe
        have hx := HV.out j
        have hx2 := HV.out (j + 1)
        rw [← HX.out] at hx
        have CS : Hid (∀ W : World, Below w.heap.size w W → Calls Try.prog 6 #[.agg #[.int .i64 l, .int .i64 m, .int .i64 f, .int .i64 g], .slice (some ⟨b, o, none⟩) (j + 1) cap] W fun e w' => ∃ X E : Int, e = .returned (.tuple #[.int .i64 X, .int .i64 E]) ∧ sgE l m f g (j + 1) mb wh X E ∧ Below W.heap.size W w') := fun W hb => pSteps_any l m f g _ (j + 1) mb wh W ((HAll.out.pre (j + 1) (by omega)).later hb)
        have HX2 : Hid (nxV l m g x (mb j - ((wh j : Nat) : Int)) = stV l m f g (msV mb wh) (j + 1)) := by show nxV l m g x (mb j - ((wh j : Nat) : Int)) = nxV l m g (stV l m f g (msV mb wh) j) (msV mb wh j); rw [← HX.out]; rfl
        have CN : Hid (((wh j : Nat) : Int) ≤ mb j → ∀ W : World, Calls Try.prog 7 #[.agg #[.int .i64 l, .int .i64 m, .int .i64 f, .int .i64 g], .int .i64 x, .int .i64 (mb j - ((wh j : Nat) : Int))] W fun e w' => e = .returned (.tuple #[.int .i64 (stV l m f g (msV mb wh) (j + 1)), .int .i64 0]) ∧ Below W.heap.size W w') := fun h W => by
          have h' := nextW_ok l m f g x (mb j - ((wh j : Nat) : Int)) W HPO.out hx.1 hx.2 (by omega)
          rw [HX2.out] at h'
          exact h'
        have w1 : IntKind.i64.wrap ((j : Int) + 1) = ((j + 1 : Nat) : Int) := by rw [IntKind.wrap_i64]; omega
        have v1 : ((j + 1 : Nat) : Int) ≤ (cap : Int) := by omega
        have v2 : ((j + 1 : Nat) : Int) ≤ (n : Int) := by omega
        have v3 : (j : Int) + 1 ≤ (cap : Int) := by omega
        have v4 : j + 1 ≤ cap := by omega
        have v5 : (0 : Int) ≤ (j : Int) + 1 := by omega
        clear hbe HQr HW HX HX2 hx
        go_upto_region 11 with fail
        rw [← hwe]
        clear hwe
        have hbD : Below we.heap.size we we.drew := (Below.refl _ _).drew
        have HW2 : Hid (Below w.heap.size w we.drew) := bchain HWe.out hbD
        have HQ2 : Hid (Q4 w.heap.size (.int .i64 l) (.int .i64 m) (.int .i64 f) (.int .i64 g) we.drew) := HQe.later hbD
        have HE2 : Hid (Q5 wr.heap.size (.int .i64 r) (.int .i64 hh) (.int .i64 (mb j)) (.slice ad (wh j) cp) (.int .i64 sa) we.drew) := HE5.later hbD
        refine wp_region_held_drew (S := fun w' => w'.cell? ⟨w.heap.size, 0, none⟩ = some (.int .i64 l) ∧ w'.cell? ⟨w.heap.size, 1, none⟩ = some (.int .i64 m) ∧ w'.cell? ⟨w.heap.size, 2, none⟩ = some (.int .i64 f) ∧ w'.cell? ⟨w.heap.size, 3, none⟩ = some (.int .i64 g)) (by kernel_rfl) ⟨HQ2.out.c0, HQ2.out.c1, HQ2.out.c2, HQ2.out.c3⟩ (fun HS => ?_)
        clear hbD HQe HWe HE5 a1 a2 a3 a4 a5
        generalize we.drew = wd at *
        refine wpAnyH_take (i := 0) (v := ?v1) rfl (by kernel_rfl) (by kernel_rfl) (by kernel_rfl) (fun _ _ _ h => h) (Or.inl ⟨by kernel_rfl, ?h1⟩) HS ?r1
        case h1 => (rintro w ⟨s0, s1, s2, s3⟩; go_simp) <;> with_reducible rfl
        try simp only [Act.put, List.getElem_toArray, List.getElem_cons_succ, List.getElem_cons_zero, List.setIfInBounds_toArray, List.set_cons_zero, List.set_cons_succ]
        refine wpAnyH_take (i := 1) (v := ?v2) rfl (by kernel_rfl) (by kernel_rfl) (by kernel_rfl) (fun _ _ _ h => h) (Or.inl ⟨by kernel_rfl, ?h2⟩) HS ?r2
        case h2 => (rintro w ⟨s0, s1, s2, s3⟩; go_simp) <;> with_reducible rfl
        try simp only [Act.put, List.getElem_toArray, List.getElem_cons_succ, List.getElem_cons_zero, List.setIfInBounds_toArray, List.set_cons_zero, List.set_cons_succ]
        refine wpAnyH_take (i := 2) (v := ?v3) rfl (by kernel_rfl) (by kernel_rfl) (by kernel_rfl) (fun _ _ _ h => h) (Or.inl ⟨by kernel_rfl, ?h3⟩) HS ?r3
        case h3 => (rintro w ⟨s0, s1, s2, s3⟩; go_simp) <;> with_reducible rfl
        try simp only [Act.put, List.getElem_toArray, List.getElem_cons_succ, List.getElem_cons_zero, List.setIfInBounds_toArray, List.set_cons_zero, List.set_cons_succ]
        refine wpAnyH_take (i := 3) (v := ?v4) rfl (by kernel_rfl) (by kernel_rfl) (by kernel_rfl) (fun _ _ _ h => h) (Or.inl ⟨by kernel_rfl, ?h4⟩) HS ?r4
        case h4 => (rintro w ⟨s0, s1, s2, s3⟩; go_simp) <;> with_reducible rfl
        try simp only [Act.put, List.getElem_toArray, List.getElem_cons_succ, List.getElem_cons_zero, List.setIfInBounds_toArray, List.set_cons_zero, List.set_cons_succ]
        refine wpAnyH_take (i := 4) (v := ?v5) rfl (by kernel_rfl) (by kernel_rfl) (by kernel_rfl) (fun _ _ _ h => h) (Or.inl ⟨by kernel_rfl, ?h5⟩) HS ?r5
        case h5 => (rintro w ⟨s0, s1, s2, s3⟩; go_simp) <;> with_reducible rfl
        try simp only [Act.put, List.getElem_toArray, List.getElem_cons_succ, List.getElem_cons_zero, List.setIfInBounds_toArray, List.set_cons_zero, List.set_cons_succ]
        refine wpAnyH_ready (rs := [5]) (by kernel_rfl) (by simp) ?_
        refine AllReadyH.cons rfl (fun K hK => ?_) AllReadyH.nil
        go_simp
        refine (CS.out _ HW2.out).mono ?_
        rintro e w6 ⟨X, E, rfl, hS, hb⟩
        refine hK.out _ _ ⟨cell_later hb HS.1, cell_later hb HS.2.1, cell_later hb HS.2.2.1, cell_later hb HS.2.2.2⟩ (fun HS => ?_)
        clear hK K
        have HW6 : Hid (Below w.heap.size w w6) := bchain HW2.out hb
        have HQ6 : Q4 w.heap.size (.int .i64 l) (.int .i64 m) (.int .i64 f) (.int .i64 g) w6 := HQ2.out.later hb
        have HE6 := HE2.out.later hb
        have HSt : Hid (sgE l m f g (j + 1) mb wh X E) := hS
        clear hb HW2 HQ2 HE2 hS CS
        refine wpAnyH_take (i := 6) (v := ?v6) rfl (by kernel_rfl) (by kernel_rfl) (by kernel_rfl) (fun _ _ _ h => h) (Or.inl ⟨by kernel_rfl, ?h6⟩) HS ?r6
        case h6 => (rintro w ⟨s0, s1, s2, s3⟩; go_simp) <;> with_reducible rfl
        try simp only [Act.put, List.getElem_toArray, List.getElem_cons_succ, List.getElem_cons_zero, List.setIfInBounds_toArray, List.set_cons_zero, List.set_cons_succ]
        refine wpAnyH_take (i := 7) (v := ?v7) rfl (by kernel_rfl) (by kernel_rfl) (by kernel_rfl) (fun _ _ _ h => h) (Or.inl ⟨by kernel_rfl, ?h7⟩) HS ?r7
        case h7 => (rintro w ⟨s0, s1, s2, s3⟩; go_simp) <;> with_reducible rfl
        try simp only [Act.put, List.getElem_toArray, List.getElem_cons_succ, List.getElem_cons_zero, List.setIfInBounds_toArray, List.set_cons_zero, List.set_cons_succ]
        refine wpAnyH_take (i := 8) (v := ?v8) rfl (by kernel_rfl) (by kernel_rfl) (by kernel_rfl) (fun _ _ _ h => h) (Or.inl ⟨by kernel_rfl, ?h8⟩) HS ?r8
        case h8 => (rintro w ⟨s0, s1, s2, s3⟩; go_simp) <;> with_reducible rfl
        try simp only [Act.put, List.getElem_toArray, List.getElem_cons_succ, List.getElem_cons_zero, List.setIfInBounds_toArray, List.set_cons_zero, List.set_cons_succ]
        refine wpAnyH_take (i := 9) (v := ?v9) rfl (by kernel_rfl) (by kernel_rfl) (by kernel_rfl) (fun _ _ _ h => h) (Or.inl ⟨by kernel_rfl, ?h9⟩) HS ?r9
        case h9 => (rintro w ⟨s0, s1, s2, s3⟩; go_simp) <;> with_reducible rfl
        try simp only [Act.put, List.getElem_toArray, List.getElem_cons_succ, List.getElem_cons_zero, List.setIfInBounds_toArray, List.set_cons_zero, List.set_cons_succ]
        refine wpAnyH_take (i := 10) (v := ?v10) rfl (by kernel_rfl) (by kernel_rfl) (by kernel_rfl) (fun _ _ _ h => h) (Or.inl ⟨by kernel_rfl, ?h10⟩) HS ?r10
        case h10 => (rintro w ⟨s0, s1, s2, s3⟩; go_simp) <;> with_reducible rfl
        try simp only [Act.put, List.getElem_toArray, List.getElem_cons_succ, List.getElem_cons_zero, List.setIfInBounds_toArray, List.set_cons_zero, List.set_cons_succ]
        refine wpAnyH_done (by kernel_rfl) ?_ _
        clear HS
        have y0 := HQ6.c0
        have y1 := HQ6.c1
        have y2 := HQ6.c2
        have y3 := HQ6.c3
        have e2 := HE6.c2
        have e3 := HE6.c3
        by_cases hmw : mb j < ((wh j : Nat) : Int)
        · obtain ⟨e4, e5⟩ := HSt.out.2.2.1 HPO.out (by omega) (fun h => by have := h j (by omega); omega)
          subst e4 e5
          generalize mb j = mj at *
          generalize wh j = wj at *
          clear HSt HO CN
          go_wp2
          go_ret
          exact ⟨rfl, HW6.out⟩
        · have HO2 : Hid (∀ k, k < j + 1 → (wh k : Int) ≤ mb k) := fun k hk => by
            rcases Nat.lt_or_ge k j with h | h
            · exact HO.out k h
            · obtain rfl : k = j := by omega
              omega
          obtain ⟨e4, e5⟩ := HSt.out.2.2.2 HPO.out (by omega) HO2.out
          have CN2 := CN.out (by omega)
          have ww : IntKind.i64.wrap (mb j - ((wh j : Nat) : Int)) = mb j - ((wh j : Nat) : Int) := by unfold maxLen at wh1; rw [IntKind.wrap_i64]; omega
          rw [← e4] at CN2 hx2
          have CN3 : Hid (∀ W : World, Calls Try.prog 7 #[.agg #[.int .i64 l, .int .i64 m, .int .i64 f, .int .i64 g], .int .i64 x, .int .i64 (mb j - ((wh j : Nat) : Int))] W fun e w' => e = .returned (.tuple #[.int .i64 X, .int .i64 0]) ∧ Below W.heap.size W w') := CN2
          have HX3 : Hid (X = stV l m f g (msV mb wh) (j + 1)) := e4
          subst e5
          have g1 : ¬ X < l := by omega
          have g2 : ¬ m < X := by omega
          generalize mb j = mj at *
          generalize wh j = wj at *
          clear HSt HO CN CN2 e4 hx2
          go_wp2_with fail
          refine (CN3.out _).mono ?_
          rintro e w7 ⟨rfl, hb⟩
          have HW7 : Hid (Below w.heap.size w w7) := bchain HW6.out hb
          replace HQ6 := HQ6.later hb
          have HQ7 : Hid (Q4 w.heap.size (.int .i64 l) (.int .i64 m) (.int .i64 f) (.int .i64 g) w7) := HQ6
          replace y0 := HQ6.c0
          replace y1 := HQ6.c1
          clear hb HE6 e2 e3 y2 y3 HW6 CN3
          go_wp2
          go_roundw
          case rel => exact ⟨j + 1, X, by omega, by go_num, rfl, HX3, HO2, HQ7, HW7⟩
          case measure => simp [intOf]; omega
      · obtain rfl : j = n := by omega
        have hjI : ¬ (j : Int) < (j : Int) := by omega
        clear HX HO
        go_wp2
        go_ret
        exact ⟨rfl, HW.out⟩
  · have CC : Hid (∀ W : World, Calls Try.prog 5 #[.agg #[.int .i64 l, .int .i64 m, .int .i64 f, .int .i64 g]] W fun e w' => e = .returned (.int .i64 80) ∧ Below W.heap.size W w') := fun W => checkPace_no l m f g W hp
    clear hp
    go_wp2_with fail
    refine (CC.out _).mono ?_
    rintro e w3 ⟨rfl, hb⟩
    have HB3 : Hid (Below w.heap.size w w3) := bchain HB2.out hb
    clear hb CC
    go_wp2
    go_ret
    exact ⟨rfl, HB3.out⟩
end Go.Proofs.Ytbblcecfdlmfmab
