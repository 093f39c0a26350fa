/-
  The laws of layer 11: CrcBursts.
-/
import Derived.Test.YtghbmokhilfjcaaDoorLawCA
import Derived.Test.YtghbmokhilfjcaaDoorCMath4
set_option linter.unusedVariables false
set_option linter.unusedSimpArgs false
namespace Go.Proofs.YtghbmokhilfjcaaDoor
open Go.RowKit

theorem by_set {g n : Nat} {F : Nat → Nat} {w : World} (r : Rw g n (by8 F) w) (j x : Nat) : Rw g n (by8 (fun k => if k = j then x else F k)) (w.setCell ⟨g, j, none⟩ (.int .u8 (x : Int))) := by
  refine (r.set j (.int .u8 (x : Int))).congr (fun k hk => ?_)
  unfold by8
  by_cases e : k = j
  · simp [e]
  · simp [e]
theorem by_congr {g n : Nat} {F G : Nat → Nat} {w : World} (r : Rw g n (by8 F) w) (e : ∀ k, k < n → F k = G k) : Rw g n (by8 G) w := r.congr (fun k hk => by unfold by8; rw [e k hk])
set_option maxRecDepth 100000 in
set_option maxHeartbeats 8000000 in
theorem crcBursts_any (V : Crc1) (va : Value) (n : Nat) (f : Nat → Nat) (hf : ∀ k, f k < 256) (at' : Int) (a0 : -9223372036854775808 ≤ at') (a1 : at' ≤ 9223372036854775807) (x : Nat) (hx : x < 4294967296) (w : World) (hA : Ls w va n (by8 f)) (hT : TbAt w) :
    Calls Tryd.prog 7 #[va, .int .i64 at', .int .u32 (x : Int)] w fun e w' => e = .returned (.bool true) ∧ Below w.heap.size w w' := by
  obtain ⟨i0, hti, hi0, hi1, hi2⟩ := info_parts dinfo_byte
  have HA : Hid (Ls w va n (by8 f)) := hA
  have HT : Hid (TbAt w) := hT
  obtain ⟨ad1, ca1, rfl, l1, l2⟩ := hA.len
  unfold maxLen at l2
  clear hA hT
  go_enter Tryd.func7, Tryd.ntmps7
  go_wp2_with fail
  refine (awake11 V _ HT.out).mono ?_
  rintro e w1 ⟨rfl, hb⟩
  have HB1 : Hid (Below w.heap.size w w1) := hb
  clear hb
  by_cases hn : 2000 < n
  · have hn' : (2000 : Int) < (n : Int) := by omega
    go_wp2
    go_ret
    exact ⟨rfl, HB1.out⟩
  have hn' : ¬ (2000 : Int) < (n : Int) := by omega
  by_cases h1 : at' < 0
  · go_wp2
    go_ret
    exact ⟨rfl, HB1.out⟩
  have hw8 : IntKind.i64.wrap (8 * (n : Int)) = 8 * (n : Int) := by rw [IntKind.wrap_i64]; omega
  by_cases h2 : 8 * (n : Int) ≤ at'
  · go_wp2
    go_ret
    exact ⟨rfl, HB1.out⟩
  by_cases h3 : x = 0
  · subst h3
    go_wp2
    go_ret
    exact ⟨rfl, HB1.out⟩
  have h3' : ¬ (x : Int) = 0 := by omega
  have h3b : ((x : Int) == 0) = false := by simpa using h3'
  obtain ⟨p, rfl⟩ : ∃ p : Nat, at' = (p : Int) := ⟨at'.toNat, by omega⟩
  have hpn : p < 8 * n := by omega
  have ha := (fun h : 0 < n => HA.out.spot 0 h) (by omega)
  obtain ⟨b, o, cp, e1, -⟩ := ha
  cases e1
  go_upto_region 5 with fail
  have HO : Hid ((w1.alloc (.cells #[] 5)).ownsRow w1.heap.size 5 1 (.slice (some ⟨w1.heap.size, 0, none⟩) 0 0) 0 []) := World.ownsRow_made w1 #[] 0 (Nat.le_refl _) (by unfold maxLen; omega) rfl
  have hown := HO.out
  have hnews := ls_news ((HA.out.later HB1.out).later (bel1 w1 (.cells #[] 5)))
  go_upto_region 6 with (at_builtin; refine wpList_append_own _ rfl _ _ 24 rfl w1.heap.size 5 i0 (.int .u8 0) 1 1 Tryd.underlying24 hti hi0 hi1 hi2 rfl (by decide) _ _ _ rfl hown ⟨b, o, none⟩ n ca1 (vl (by8 f) n) rfl (by rw [vl_len, Nat.mul_one]) hnews (vl_one _ _ (fun _ => rfl)) (by unfold maxLen; omega) (by omega) (by rw [World.size_alloc]; omega) ?_; intro v' w3 hown' hgrow hnil; obtain ⟨g, cap2, rfl, hg, hc1, hc2, hrow⟩ := own_row (by rw [Nat.zero_add, List.nil_append] at hown'; exact hown') (by omega); have HW3 : Hid (Below w.heap.size w w3) := (bchain HB1.out (bel1 w1 (.cells #[] 5))).grown hgrow (by have := HB1.out.size; rw [World.size_alloc]; omega) (fun k hk => by have := (HO.out.lt k hk).1; have := HB1.out.size; omega); clear hown' hgrow hnil hown HO hnews)
  have hgw : w.heap.size ≤ g := Nat.le_trans HB1.out.size hg
  have HR0 : Hid (Rw g n (by8 (bF f p x 0)) w3) := hrow
  unfold maxLen at hc2
  clear hrow HB1 hg
  go_upto_region 7 with fail
  go_loopw [32] (fun si wr => ∃ j : Nat, j ≤ 32 ∧ si = .int .i64 (j : Int) ∧ Hid (Rw g n (by8 (bF f p x j)) wr ∧ Below w.heap.size w wr) ∧ Hid (∀ k, k < j → x.testBit k = true → p + k < 8 * n)) (fun si _ => 32 - (intOf si).toNat)
  case atStart => exact ⟨0, by omega, rfl, ⟨HR0.out, HW3.out⟩, fun k hk => by omega⟩
  case round =>
    clear HR0 HW3
    obtain ⟨j, hj, rfl, HR, HI⟩ := hrel
    by_cases hj2 : j < 32
    · have hjI : (j : Int) < 32 := by omega
      obtain ⟨y, hy⟩ : ∃ y : Nat, x / 2 ^ j % 2 = y := ⟨_, rfl⟩
      have hy2 : y < 2 := by rw [← hy]; exact Nat.mod_lt _ (by omega)
      have hbit : bits BinOp.and IntKind.u32 ((x : Int) / 2 ^ j) 1 = (y : Int) := by
        have h1 : ((x : Int) / 2 ^ j) = ((x / 2 ^ j : Nat) : Int) := by rw [Int.natCast_ediv, Int.natCast_pow]; rfl
        rw [h1, show (1 : Int) = ((1 : Nat) : Int) from rfl, and32 _ _ (Nat.lt_of_le_of_lt (Nat.div_le_self _ _) hx) (by omega), Nat.and_one_is_mod, hy]
      have Htb : Hid (x.testBit j = decide (y = 1)) := by show _ = _; rw [Nat.testBit_eq_decide_div_mod_eq, hy]
      by_cases hy0 : y = 0
      · have hnb : ¬ x.testBit j = true := by rw [Htb.out, hy0]; decide
        have HR1 : Hid (Rw g n (by8 (bF f p x (j + 1))) wr ∧ Below w.heap.size w wr) := ⟨by_congr HR.out.1 (fun k _ => (bF_same f p x j k hnb).symm), HR.out.2⟩
        have HI1 : Hid (∀ k, k < j + 1 → x.testBit k = true → p + k < 8 * n) := fun k hk hb => by
          by_cases e : k = j
          · subst e; exact absurd hb hnb
          · exact HI.out k (by omega) hb
        subst hy0
        clear HR HI hy hnb
        go_wp2
        go_roundw
        case rel => exact ⟨j + 1, by omega, by go_num, HR1, HI1⟩
        case measure => simp [intOf]; omega
      · obtain rfl : y = 1 := by omega
        have htb : x.testBit j = true := by rw [Htb.out]; decide
        by_cases hov : 8 * n ≤ p + j
        · have hov' : 8 * (n : Int) ≤ (p : Int) + (j : Int) := by omega
          clear hy
          go_wp2
          go_ret
          exact ⟨rfl, HR.out.2⟩
        have hov' : ¬ 8 * (n : Int) ≤ (p : Int) + (j : Int) := by omega
        have HI1 : Hid (∀ k, k < j + 1 → x.testBit k = true → p + k < 8 * n) := fun k hk hb => by
          by_cases e : k = j
          · subst e; omega
          · exact HI.out k (by omega) hb
        clear hy HI
        obtain ⟨q, hq⟩ : ∃ q, (p + j) / 8 = q := ⟨_, rfl⟩
        obtain ⟨s, hs⟩ : ∃ s, (p + j) % 8 = s := ⟨_, rfl⟩
        have hqn : q < n := by omega
        have hs8 : s < 8 := by omega
        have hcq : wr.cell? ⟨g, q, none⟩ = some (.int .u8 ((bF f p x j q : Nat) : Int)) := HR.out.1.c q hqn
        have hfq := HR.out.1.f q hqn
        have hl8 := bF_lt f p x hf j q
        have hpw : 2 ^ s < 256 := Nat.pow_lt_pow_right (n := 8) (by omega) hs8
        have hxor := xor8 (bF f p x j q) (2 ^ s) hl8 hpw
        have HR1 : Hid (Rw g n (by8 (bF f p x (j + 1))) (wr.setCell ⟨g, q, none⟩ (.int .u8 ((bF f p x j q ^^^ 2 ^ s : Nat) : Int))) ∧ Below w.heap.size w (wr.setCell ⟨g, q, none⟩ (.int .u8 ((bF f p x j q ^^^ 2 ^ s : Nat) : Int)))) := ⟨by_congr (by_set HR.out.1 q _) (fun k _ => by rw [← bF_step f p x j k htb, hq, hs]), HR.out.2.setCell (by dsimp only; omega) _⟩
        obtain ⟨P, hP⟩ : ∃ P, p + j = P := ⟨_, rfl⟩
        have hsum : IntKind.i64.wrap ((p : Int) + (j : Int)) = (P : Int) := by rw [IntKind.wrap_i64]; omega
        rw [hP] at hq hs
        have hquo : (P : Int).tdiv 8 = (q : Int) := by rw [Int.tdiv_eq_ediv_of_nonneg (by omega)]; omega
        have hrem : (P : Int).tmod 8 = (s : Int) := by rw [Int.tmod_eq_emod_of_nonneg (by omega)]; omega
        have hwq : IntKind.i64.wrap (q : Int) = (q : Int) := by rw [IntKind.wrap_i64]; omega
        have hws : IntKind.i64.wrap (s : Int) = (s : Int) := by rw [IntKind.wrap_i64]; omega
        have hqI : (q : Int) < (n : Int) := by omega
        have Hsh : Hid (((2 ^ s : Nat) : Int) = (2 : Int) ^ s % 256) := by
          show _ = _
          have e : ((2 ^ s : Nat) : Int) = (2 : Int) ^ s := by rw [Int.natCast_pow]; rfl
          rw [← e]
          generalize 2 ^ s = m at hpw ⊢
          exact (Int.emod_eq_of_lt (by omega) (by omega)).symm
        go_upto_region 12 with fail
        have hbD : Below wr.heap.size wr wr.drew := (Below.refl _ _).drew
        have hcD : wr.drew.cell? ⟨g, q, none⟩ = some (.int .u8 ((bF f p x j q : Nat) : Int)) := hcq
        have hfD : wr.drew.frozen? ⟨g, q, none⟩ = false := hfq
        have HR2 : Hid (Rw g n (by8 (bF f p x (j + 1))) (wr.drew.setCell ⟨g, q, none⟩ (.int .u8 ((bF f p x j q ^^^ 2 ^ s : Nat) : Int))) ∧ Below w.heap.size w (wr.drew.setCell ⟨g, q, none⟩ (.int .u8 ((bF f p x j q ^^^ 2 ^ s : Nat) : Int)))) := by
          have HRd : Rw g n (by8 (bF f p x j)) wr.drew := HR.out.1.later hbD
          exact ⟨by_congr (by_set HRd q _) (fun k _ => by rw [← bF_step f p x j k htb, hP, hq, hs]), (bchain HR.out.2 hbD).setCell (by dsimp only; omega) _⟩
        clear HR1 HR hcq hfq hbD
        refine wp_region_held_drew (S := fun _ => True) (by kernel_rfl) trivial (fun HS => ?_)
        generalize wr.drew = q0 at *
        generalize bF f p x j q = z at *
        refine wpAnyH_take (i := 0) (v := ?_) rfl (by kernel_rfl) (by kernel_rfl) (by kernel_rfl) (fun _ _ _ h => h) (Or.inl ⟨by kernel_rfl, ?_⟩) HS ?_
        rotate_left
        · (rintro w -; go_simp) <;> with_reducible rfl
        try simp only [Act.put, List.getElem_toArray, List.getElem_cons_succ, List.getElem_cons_zero, List.setIfInBounds_toArray, List.set_cons_zero, List.set_cons_succ]
        refine wpAnyH_take (i := 1) (v := ?_) rfl (by kernel_rfl) (by kernel_rfl) (by kernel_rfl) (fun _ _ _ h => h) (Or.inl ⟨by kernel_rfl, ?_⟩) HS ?_
        rotate_left
        · (rintro w -; go_simp) <;> with_reducible rfl
        try simp only [Act.put, List.getElem_toArray, List.getElem_cons_succ, List.getElem_cons_zero, List.setIfInBounds_toArray, List.set_cons_zero, List.set_cons_succ]
        refine wpAnyH_take (i := 2) (v := ?_) rfl (by kernel_rfl) (by kernel_rfl) (by kernel_rfl) (fun _ _ _ h => h) (Or.inl ⟨by kernel_rfl, ?_⟩) HS ?_
        rotate_left
        · (rintro w -; go_simp) <;> with_reducible rfl
        try simp only [Act.put, List.getElem_toArray, List.getElem_cons_succ, List.getElem_cons_zero, List.setIfInBounds_toArray, List.set_cons_zero, List.set_cons_succ]
        refine wpAnyH_take (i := 3) (v := ?_) rfl (by kernel_rfl) (by kernel_rfl) (by kernel_rfl) (fun _ _ _ h => h) (Or.inl ⟨by kernel_rfl, ?_⟩) HS ?_
        rotate_left
        · (rintro w -; go_simp) <;> with_reducible rfl
        try simp only [Act.put, List.getElem_toArray, List.getElem_cons_succ, List.getElem_cons_zero, List.setIfInBounds_toArray, List.set_cons_zero, List.set_cons_succ]
        refine wpAnyH_take (i := 4) (v := ?_) rfl (by kernel_rfl) (by kernel_rfl) (by kernel_rfl) (fun _ _ _ h => h) (Or.inl ⟨by kernel_rfl, ?_⟩) HS ?_
        rotate_left
        · (rintro w -; go_simp) <;> with_reducible rfl
        try simp only [Act.put, List.getElem_toArray, List.getElem_cons_succ, List.getElem_cons_zero, List.setIfInBounds_toArray, List.set_cons_zero, List.set_cons_succ]
        refine wpAnyH_take (i := 5) (v := ?_) rfl (by kernel_rfl) (by kernel_rfl) (by kernel_rfl) (fun _ _ _ h => h) (Or.inl ⟨by kernel_rfl, ?_⟩) HS ?_
        rotate_left
        · (rintro w -; go_simp) <;> with_reducible rfl
        try simp only [Act.put, List.getElem_toArray, List.getElem_cons_succ, List.getElem_cons_zero, List.setIfInBounds_toArray, List.set_cons_zero, List.set_cons_succ]
        refine wpAnyH_take (i := 7) (v := ?_) rfl (by kernel_rfl) (by kernel_rfl) (by kernel_rfl) (fun _ _ _ h => h) (Or.inl ⟨by kernel_rfl, ?_⟩) HS ?_
        rotate_left
        · (rintro w -; go_simp) <;> with_reducible rfl
        try simp only [Act.put, List.getElem_toArray, List.getElem_cons_succ, List.getElem_cons_zero, List.setIfInBounds_toArray, List.set_cons_zero, List.set_cons_succ]
        refine wpAnyH_take (i := 8) (v := ?_) rfl (by kernel_rfl) (by kernel_rfl) (by kernel_rfl) (fun _ _ _ h => h) (Or.inl ⟨by kernel_rfl, ?_⟩) HS ?_
        rotate_left
        · (rintro w -; go_simp) <;> with_reducible rfl
        try simp only [Act.put, List.getElem_toArray, List.getElem_cons_succ, List.getElem_cons_zero, List.setIfInBounds_toArray, List.set_cons_zero, List.set_cons_succ]
        refine wpAnyH_take (i := 9) (v := ?_) rfl (by kernel_rfl) (by kernel_rfl) (by kernel_rfl) (fun _ _ _ h => h) (Or.inl ⟨by kernel_rfl, ?_⟩) HS ?_
        rotate_left
        · (rintro w -; go_simp) <;> with_reducible rfl
        try simp only [Act.put, List.getElem_toArray, List.getElem_cons_succ, List.getElem_cons_zero, List.setIfInBounds_toArray, List.set_cons_zero, List.set_cons_succ]
        refine wpAnyH_take (i := 10) (v := ?_) rfl (by kernel_rfl) (by kernel_rfl) (by kernel_rfl) (fun _ _ _ h => h) (Or.inl ⟨by kernel_rfl, ?_⟩) HS ?_
        rotate_left
        · (rintro w -; go_simp) <;> with_reducible rfl
        try simp only [Act.put, List.getElem_toArray, List.getElem_cons_succ, List.getElem_cons_zero, List.setIfInBounds_toArray, List.set_cons_zero, List.set_cons_succ]
        refine wpAnyH_take (i := 11) (v := ?_) rfl (by kernel_rfl) (by kernel_rfl) (by kernel_rfl) (fun _ _ _ h => h) (Or.inl ⟨by kernel_rfl, ?_⟩) HS ?_
        rotate_left
        · (rintro w -; go_simp) <;> with_reducible rfl
        try simp only [Act.put, List.getElem_toArray, List.getElem_cons_succ, List.getElem_cons_zero, List.setIfInBounds_toArray, List.set_cons_zero, List.set_cons_succ]
        refine wpAnyH_ready (rs := [6]) (by kernel_rfl) (by simp) ?_
        refine AllReadyH.cons rfl (fun K hK => ?_) AllReadyH.nil
        go_simp
        refine hK.out _ _ trivial (fun HS => ?_)
        clear hK K
        try simp only [Act.put, List.getElem_toArray, List.getElem_cons_succ, List.getElem_cons_zero, List.setIfInBounds_toArray, List.set_cons_zero, List.set_cons_succ]
        refine wpAnyH_take (i := 12) (v := ?_) rfl (by kernel_rfl) (by kernel_rfl) (by kernel_rfl) (fun _ _ _ h => h) (Or.inl ⟨by kernel_rfl, ?_⟩) HS ?_
        rotate_left
        · (rintro w -; go_simp) <;> with_reducible rfl
        try simp only [Act.put, List.getElem_toArray, List.getElem_cons_succ, List.getElem_cons_zero, List.setIfInBounds_toArray, List.set_cons_zero, List.set_cons_succ]
        refine wpAnyH_take (i := 13) (v := ?_) rfl (by kernel_rfl) (by kernel_rfl) (by kernel_rfl) (fun _ _ _ h => h) (Or.inl ⟨by kernel_rfl, ?_⟩) HS ?_
        rotate_left
        · (rintro w -; go_simp) <;> with_reducible rfl
        try simp only [Act.put, List.getElem_toArray, List.getElem_cons_succ, List.getElem_cons_zero, List.setIfInBounds_toArray, List.set_cons_zero, List.set_cons_succ]
        refine wpAnyH_ready (rs := [14]) (by kernel_rfl) (by simp) ?_
        refine AllReadyH.cons rfl (fun K hK => ?_) AllReadyH.nil
        go_simp
        refine hK.out _ _ trivial (fun HS => ?_)
        clear hK K
        refine wpAnyH_done (by kernel_rfl) ?_ _
        clear HS
        go_wp2
        go_roundw
        case rel => exact ⟨j + 1, by omega, by go_num, by rw [← hxor, Hsh.out] at HR2; exact HR2, HI1⟩
        case measure => simp [intOf]; omega
    · obtain rfl : j = 32 := by omega
      have hjI : ¬ ((32 : Nat) : Int) < 32 := by omega
      have HL : Hid (Ls wr (.slice (some ⟨g, 0, none⟩) n cap2) n (by8 (bF f p x 32))) := by
        have h := HR.out.1.ls 0 n cap2 (by omega) hc1 (by unfold maxLen; omega)
        exact h.congr (fun k _ => by rw [Nat.zero_add])
      have HNe : Hid (cS f n ≠ cS (bF f p x 32) n) := burst_text f (bF f p x 32) n p x hx h3 hpn (fun k _ => bF_bits f p x 32 k) HI.out
      have C1 : Hid (∀ W : World, Below w.heap.size w W → Calls Tryd.prog 10 #[.slice (some ⟨W.heap.size, 0, none⟩) 1 1] (W.alloc (.cells #[.slice (some ⟨b, o, none⟩) n ca1] 24)) fun e w' => e = .returned (.int .u32 ((cS f n : Nat) : Int)) ∧ Below W.heap.size W w') := fun W h => V.one W _ n ca1 f _ (by omega) hf (HT.out.later h) (HA.out.later h)
      have C2 : Hid (∀ W : World, Below wr.heap.size wr W → Calls Tryd.prog 10 #[.slice (some ⟨W.heap.size, 0, none⟩) 1 1] (W.alloc (.cells #[.slice (some ⟨g, 0, none⟩) n cap2] 24)) fun e w' => e = .returned (.int .u32 ((cS (bF f p x 32) n : Nat) : Int)) ∧ Below W.heap.size W w') := fun W h => V.one W _ n cap2 (bF f p x 32) _ (by omega) (bF_lt f p x hf 32) (HT.out.later (bchain HR.out.2 h)) (HL.out.later h)
      have hne : ¬ ((cS f n : Nat) : Int) = ((cS (bF f p x 32) n : Nat) : Int) := fun e => HNe.out (by omega)
      have hneb : (((cS f n : Nat) : Int) != ((cS (bF f p x 32) n : Nat) : Int)) = true := by simpa using hne
      clear HNe HL
      generalize cS f n = s1 at *
      generalize cS (bF f p x 32) n = s2 at *
      go_wp2_with fail
      refine (C1.out _ HR.out.2).mono ?_
      rintro e w5 ⟨rfl, hb⟩
      have D2 := C2.out _ hb
      have HB5 : Hid (Below w.heap.size w w5) := bchain HR.out.2 hb
      clear hb C1 C2
      go_wp2_with fail
      refine D2.mono ?_
      rintro e w6 ⟨rfl, hb⟩
      have HB6 : Hid (Below w.heap.size w w6) := bchain HB5.out hb
      clear hb D2
      go_wp2
      go_ret
      exact ⟨by first | rfl | simp [hneb] | simp, HB6.out⟩
end Go.Proofs.YtghbmokhilfjcaaDoor
