/-
  The laws of layer 11: CrcTwo.
-/
import Derived.Test.YtghbmokhilfjcaaDoorLawCA
import Derived.Laws.AppendOwnNone
set_option linter.unusedVariables false
set_option linter.unusedSimpArgs false
namespace Go.Proofs.YtghbmokhilfjcaaDoor
open Go.RowKit

theorem vl_jn (f g : Nat → Nat) (n m : Nat) : vl (by8 (jn f g n)) (n + m) = vl (by8 f) n ++ vl (by8 g) m := by
  rw [vl_add]
  congr 1
  · exact vl_congr _ _ _ (fun k hk => by show Value.int .u8 ((jn f g n k : Nat) : Int) = _; unfold jn; rw [if_pos hk]; rfl)
  · exact vl_congr _ _ _ (fun k hk => by show Value.int .u8 ((jn f g n (n + k) : Nat) : Int) = _; unfold jn; rw [if_neg (by omega), Nat.add_sub_cancel_left]; rfl)
set_option maxRecDepth 100000 in
set_option maxHeartbeats 4000000 in
theorem refJoin (va vb : Value) (n m : Nat) (f g : Nat → Nat) (hn : n ≤ 100000) (hm : m ≤ 100000) (w : World) (hA : Ls w va n (by8 f)) (hB : Ls w vb m (by8 g)) :
    Calls Tryd.prog 16 #[va, vb] w fun e w' => ∃ v', e = .returned v' ∧ Ls w' v' (n + m) (by8 (jn f g n)) ∧ Below w.heap.size w w' := by
  obtain ⟨i0, hti, hi0, hi1, hi2⟩ := info_parts dinfo_byte
  have HA : Hid (Ls w va n (by8 f)) := hA
  have HB : Hid (Ls w vb m (by8 g)) := hB
  obtain ⟨ad1, ca1, rfl, l1, l2⟩ := hA.len
  obtain ⟨ad2, ca2, rfl, l3, l4⟩ := hB.len
  unfold maxLen at l2 l4
  clear hA hB
  have HE : Hid (∀ (W : World) (u : Value), W.ownsRow w.heap.size 5 1 u (n + m) (vl (by8 f) n ++ vl (by8 g) m) → Ls W u (n + m) (by8 (jn f g n))) := fun W u h => (ls_of_own (by rw [vl_jn]; exact h)).1
  go_enter Tryd.func16, Tryd.ntmps16
  go_upto_region 2 with fail
  go_cut [5] (fun s5 wc => Hid (wc.ownsRow w.heap.size 5 1 s5 n (vl (by8 f) n)) ∧ Hid (Below w.heap.size w wc))
  case first =>
    have HO0 : Hid (w.ownsRow w.heap.size 5 1 (.slice none 0 0) 0 []) := World.ownsRow_nil _ _ _ _
    have hown := HO0.out
    cases ad1 with
    | none =>
      obtain ⟨e0, e1⟩ := HA.out.nil
      have HO1 : Hid (w.ownsRow w.heap.size 5 1 (.slice none 0 0) n (vl (by8 f) n)) := by
        show World.ownsRow _ _ _ _ _ _ _
        rw [e0]
        exact HO0.out
      subst e0 e1
      go_wp2_with (at_builtin; refine wpList_append_own_none rfl _ _ 24 rfl w.heap.size 5 i0 1 Tryd.underlying24 hti _ _ _ rfl hown rfl ?_)
      go_meet
      exact ⟨HO1, Below.refl _ _⟩
    | some a =>
      have hnews := ls_news HA.out
      go_wp2_with (at_builtin; refine wpList_append_own _ rfl _ _ 24 rfl w.heap.size 5 i0 (.int .u8 0) 1 1 Tryd.underlying24 hti hi0 hi1 hi2 rfl (by decide) _ _ _ rfl hown a n ca1 (vl (by8 f) n) rfl (by rw [vl_len, Nat.mul_one]) hnews (vl_one _ _ (fun _ => rfl)) (by unfold maxLen; omega) (by omega) (by omega) ?_; intro v' w3 hown' hgrow hnil; have HO1 : Hid (w3.ownsRow w.heap.size 5 1 v' n (vl (by8 f) n)) := (by rw [Nat.zero_add, List.nil_append] at hown'; exact hown'); have HW1 : Hid (Below w.heap.size w w3) := (Below.refl _ _).grown hgrow (Nat.le_refl _) (fun k hk => (HO0.out.lt k hk).1); clear hown' hgrow hnil hown HO0 hnews)
      go_meet
      exact ⟨HO1, HW1⟩
  case rest =>
    obtain ⟨HO, HW⟩ := hcut
    have hown := HO.out
    have HB2 : Hid (Ls wc (.slice ad2 m ca2) m (by8 g)) := HB.out.later HW.out
    have hsz := HW.out.size
    cases ad2 with
    | none =>
      obtain ⟨e0, e1⟩ := HB2.out.nil
      have HO1 : Hid (wc.ownsRow w.heap.size 5 1 u5 (n + m) (vl (by8 f) n ++ vl (by8 g) m)) := by
        show World.ownsRow _ _ _ _ _ _ _
        rw [e0]
        show wc.ownsRow _ _ _ _ _ (_ ++ [])
        rw [List.append_nil]
        exact HO.out
      subst e0 e1
      go_wp2_with (at_builtin; refine wpList_append_own_none rfl _ _ 24 rfl w.heap.size 5 i0 1 Tryd.underlying24 hti _ _ _ rfl hown rfl ?_)
      go_ret
      exact ⟨_, rfl, HE.out _ _ HO1.out, HW.out⟩
    | some a =>
      have hnews := ls_news HB2.out
      go_wp2_with (at_builtin; refine wpList_append_own _ rfl _ _ 24 rfl w.heap.size 5 i0 (.int .u8 0) 1 1 Tryd.underlying24 hti hi0 hi1 hi2 rfl (by decide) _ _ _ rfl hown a m ca2 (vl (by8 g) m) rfl (by rw [vl_len, Nat.mul_one]) hnews (vl_one _ _ (fun _ => rfl)) (by unfold maxLen; omega) (by omega) (by omega) ?_; intro v' w3 hown' hgrow hnil; have HO1 : Hid (w3.ownsRow w.heap.size 5 1 v' (n + m) (vl (by8 f) n ++ vl (by8 g) m)) := hown'; have HW1 : Hid (Below w.heap.size w w3) := HW.out.grown hgrow hsz (fun k hk => (HO.out.lt k hk).1); clear hown' hgrow hnil hown HO hnews HW)
      go_ret
      exact ⟨_, rfl, HE.out _ _ HO1.out, HW1.out⟩
theorem more_join (f g : Nat → Nat) (n m : Nat) : 4294967295 - cR (cBt g) (4294967295 - cS f n) (8 * m) = cS (jn f g n) (n + m) := by
  have h := cR_lt (cBt f) 4294967295 (by omega) (cBt_lt f) (8 * n)
  unfold cS
  rw [not_not32 _ h, cR_jn]
theorem two_of (f g : Nat → Nat) (n m : Nat) : 4294967295 - cF (two n m) (two f g) 4294967295 2 = cS (jn f g n) (n + m) := by
  unfold cS
  rw [cR_jn]
  rfl
set_option maxRecDepth 100000 in
set_option maxHeartbeats 8000000 in
theorem crcTwo_any (V : Crc1) (va vb : Value) (n m : Nat) (f g : Nat → Nat) (hf : ∀ k, f k < 256) (hg : ∀ k, g k < 256) (w : World) (hA : Ls w va n (by8 f)) (hB : Ls w vb m (by8 g)) (hT : TbAt w) :
    Calls Tryd.prog 6 #[va, vb] w fun e w' => e = .returned (.bool true) ∧ Below w.heap.size w w' := by
  have HAB : Hid (Ls w va n (by8 f) ∧ Ls w vb m (by8 g)) := ⟨hA, hB⟩
  have HT : Hid (TbAt w) := hT
  obtain ⟨ad1, ca1, rfl, l1, l2⟩ := hA.len
  obtain ⟨ad2, ca2, rfl, l3, l4⟩ := hB.len
  unfold maxLen at l2 l4
  clear hA hB hT
  go_enter Tryd.func6, Tryd.ntmps6
  go_wp2_with fail
  refine (awake11 V _ HT.out).mono ?_
  rintro e w1 ⟨rfl, hb⟩
  have HB1 : Hid (Below w.heap.size w w1) := hb
  clear hb
  by_cases hn : 2000 < n
  · have hn' : (2000 : Int) < (n : Int) := by omega
    go_wp2
    go_ret
    exact ⟨rfl, HB1.out⟩
  have hn' : ¬ (2000 : Int) < (n : Int) := by omega
  by_cases hm : 2000 < m
  · have hm' : (2000 : Int) < (m : Int) := by omega
    go_wp2
    go_ret
    exact ⟨rfl, HB1.out⟩
  have hm' : ¬ (2000 : Int) < (m : Int) := by omega
  have l5 := cS_lt f n
  have l6 := cS_lt g m
  have CJ : Hid (∀ W : World, Below w.heap.size w W → Calls Tryd.prog 16 #[.slice ad1 n ca1, .slice ad2 m ca2] W fun e w' => ∃ v', e = .returned v' ∧ Ls w' v' (n + m) (by8 (jn f g n)) ∧ Below W.heap.size W w') := fun W h => refJoin _ _ n m f g (by omega) (by omega) W (HAB.out.1.later h) (HAB.out.2.later h)
  have C0 : Hid (∀ (W : World) (ad : Option Addr) (ca : Nat), Below w.heap.size w W → Ls W (.slice ad (n + m) ca) (n + m) (by8 (jn f g n)) → Calls Tryd.prog 10 #[.slice (some ⟨W.heap.size, 0, none⟩) 1 1] (W.alloc (.cells #[.slice ad (n + m) ca] 24)) fun e w' => e = .returned (.int .u32 ((cS (jn f g n) (n + m) : Nat) : Int)) ∧ Below W.heap.size W w') := fun W ad ca h l => V.one W ad (n + m) ca (jn f g n) _ (by omega) (jn_lt f g n hf hg) (HT.out.later h) l
  have C1 : Hid (∀ W : World, Below w.heap.size w W → Calls Tryd.prog 10 #[.slice (some ⟨W.heap.size, 0, none⟩) 1 1] (W.alloc (.cells #[.slice ad1 n ca1] 24)) fun e w' => e = .returned (.int .u32 ((cS f n : Nat) : Int)) ∧ Below W.heap.size W w') := fun W h => V.one W ad1 n ca1 f _ (by omega) hf (HT.out.later h) (HAB.out.1.later h)
  have C2 : Hid (∀ W : World, Below w.heap.size w W → Calls Tryd.prog 10 #[.slice (some ⟨W.heap.size, 0, none⟩) 1 1] (W.alloc (.cells #[.slice ad2 m ca2] 24)) fun e w' => e = .returned (.int .u32 ((cS g m : Nat) : Int)) ∧ Below W.heap.size W w') := fun W h => V.one W ad2 m ca2 g _ (by omega) hg (HT.out.later h) (HAB.out.2.later h)
  have C3 : Hid (∀ W : World, Below w.heap.size w W → Calls Tryd.prog 14 #[.int .u32 ((cS f n : Nat) : Int), .int .u32 ((cS g m : Nat) : Int), .int .i64 (m : Int)] W fun e w' => e = .returned (.tuple #[.int .u32 ((cS (jn f g n) (n + m) : Nat) : Int), .int .i64 0]) ∧ Below W.heap.size W w') := fun W h => by
    have q := V.join _ _ m W l5 l6 (by omega) (HT.out.later h)
    rw [two_join] at q
    exact q
  have C4 : Hid (∀ W : World, Below w.heap.size w W → Calls Tryd.prog 12 #[.int .u32 ((cS f n : Nat) : Int), .slice ad2 m ca2] W fun e w' => e = .returned (.int .u32 ((cS (jn f g n) (n + m) : Nat) : Int)) ∧ Below W.heap.size W w') := fun W h => by
    have q := V.more _ _ m g W l5 (by omega) hg (HT.out.later h) (HAB.out.2.later h)
    rw [more_join] at q
    exact q
  have C5 : Hid (∀ W : World, Below w.heap.size w W → Calls Tryd.prog 10 #[.slice (some ⟨W.heap.size, 0, none⟩) 2 2] (W.alloc (.cells #[.slice ad1 n ca1, .slice ad2 m ca2] 24)) fun e w' => e = .returned (.int .u32 ((cS (jn f g n) (n + m) : Nat) : Int)) ∧ Below W.heap.size W w') := fun W h => by
    have t1 : ∀ j, two n m j ≤ 100000 := fun j => by unfold two; split <;> omega
    have t2 : ∀ j k, two f g j k < 256 := fun j k => by
      unfold two
      split
      · exact hf k
      · exact hg k
    have q := V.of _ 2 (two n m) (two f g) _ (by omega) t1 t2 ((HT.out.later h).later (bel1 _ _)) (lb_two W ad1 ad2 n m ca1 ca2 f g 24 (HAB.out.1.later h) (HAB.out.2.later h))
    rw [two_of] at q
    exact q.mono fun e w' z => ⟨z.1, bchain (bel1 _ _) z.2⟩
  generalize cS (jn f g n) (n + m) = s at *
  generalize cS f n = s1 at *
  generalize cS g m = s2 at *
  go_wp2_with fail
  refine (CJ.out _ HB1.out).mono ?_
  rintro e w2 ⟨v2, rfl, hL, hb⟩
  have HB2 : Hid (Below w.heap.size w w2) := bchain HB1.out hb
  obtain ⟨ad3, ca3, rfl, -, -⟩ := hL.len
  have D0 := C0.out w2 ad3 ca3 HB2.out hL
  clear hb hL CJ HB1 C0
  go_wp2_with fail
  refine D0.mono ?_
  rintro e w3 ⟨rfl, hb⟩
  have HB3 : Hid (Below w.heap.size w w3) := bchain HB2.out hb
  clear hb D0 HB2
  go_wp2_with fail
  refine (C1.out _ HB3.out).mono ?_
  rintro e w4 ⟨rfl, hb⟩
  have HB4 : Hid (Below w.heap.size w w4) := bchain HB3.out hb
  clear hb HB3
  go_wp2_with fail
  refine (C2.out _ HB4.out).mono ?_
  rintro e w5 ⟨rfl, hb⟩
  have HB5 : Hid (Below w.heap.size w w5) := bchain HB4.out hb
  clear hb HB4 C2
  go_wp2_with fail
  refine (C3.out _ HB5.out).mono ?_
  rintro e w6 ⟨rfl, hb⟩
  have HB6 : Hid (Below w.heap.size w w6) := bchain HB5.out hb
  clear hb HB5 C3
  go_wp2_with fail
  refine (C1.out _ HB6.out).mono ?_
  rintro e w7 ⟨rfl, hb⟩
  have HB7 : Hid (Below w.heap.size w w7) := bchain HB6.out hb
  clear hb HB6 C1
  go_wp2_with fail
  refine (C4.out _ HB7.out).mono ?_
  rintro e w8 ⟨rfl, hb⟩
  have HB8 : Hid (Below w.heap.size w w8) := bchain HB7.out hb
  clear hb HB7 C4
  go_wp2_with fail
  refine (C5.out _ HB8.out).mono ?_
  rintro e w9 ⟨rfl, hb⟩
  have HB9 : Hid (Below w.heap.size w w9) := bchain HB8.out hb
  clear hb HB8 C5
  go_wp2
  go_ret
  exact ⟨by first | rfl | simp, HB9.out⟩
end Go.Proofs.YtghbmokhilfjcaaDoor
