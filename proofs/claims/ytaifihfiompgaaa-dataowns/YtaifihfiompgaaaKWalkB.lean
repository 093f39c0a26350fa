/-
  The contracts of data's Own and Owner.
-/
import Derived.Test.YtaifihfiompgaaaKWalkA
import Derived.Test.YtaifihfiompgaaaHWalkI
set_option linter.unusedVariables false
set_option linter.unusedSimpArgs false
namespace Go.Proofs.Ytaifihfiompgaaa
open Go.RowKit

theorem shareable_yes (W n : Int) (h : Rgt W n) (V : World) : Calls Try.prog 17 #[.int .i64 W, .int .i64 n] V fun e w' => e = .returned (.bool true) ∧ Below V.heap.size V w' :=
  (shareable_any W n V).mono fun e w' hh => ⟨hh.1.yes h, hh.2⟩
theorem shareable_no (W n : Int) (h : ¬ Rgt W n) (V : World) : Calls Try.prog 17 #[.int .i64 W, .int .i64 n] V fun e w' => e = .returned (.bool false) ∧ Below V.heap.size V w' :=
  (shareable_any W n V).mono fun e w' hh => ⟨hh.1.no h, hh.2⟩
theorem fit_one_yes (a b c : Int) (h : Wn a b c) (V : World) : Calls Try.prog 18 #[.slice (some ⟨V.heap.size, 0, none⟩) 1 1] (V.alloc (.cells #[.int .i64 a, .int .i64 b, .int .i64 c] 47)) fun e w' => e = .returned (.bool true) ∧ Below V.heap.size V w' :=
  (fit_one a b c V).mono fun e w' hh => ⟨hh.1.yes h, hh.2⟩
theorem fit_one_no (a b c : Int) (h : ¬ Wn a b c) (V : World) : Calls Try.prog 18 #[.slice (some ⟨V.heap.size, 0, none⟩) 1 1] (V.alloc (.cells #[.int .i64 a, .int .i64 b, .int .i64 c] 47)) fun e w' => e = .returned (.bool false) ∧ Below V.heap.size V w' :=
  (fit_one a b c V).mono fun e w' hh => ⟨hh.1.no h, hh.2⟩
set_option maxRecDepth 100000 in
set_option maxHeartbeats 4000000 in
theorem pOwn_any (s W x n : Nat) (C : Nat → Nat) (w : World) (hs : s < 18446744073709551616) (W1 : 1 ≤ W) (W2 : W ≤ 64) (hx : x < W) (hn1 : W ≤ n) (hn2 : n ≤ 4096) (hC : ∀ j, j < n → Comes s 1 0 0 n j (C j)) :
    Calls Try.prog 9 #[.int .u64 (s : Int), .int .i64 (W : Int), .int .i64 (x : Int), .int .i64 (n : Int)] w fun e w' => ∃ v', e = .returned (.tuple #[v', .int .i64 0]) ∧ Ar w' v' (dlo W n (x + 1) - dlo W n x) (fun q => ((C (dlo W n x + q) : Nat) : Int)) ∧ Ow w.heap.size v' ∧ Below w.heap.size w w' := by
  have HSh : Hid (∀ V : World, Calls Try.prog 17 #[.int .i64 (W : Int), .int .i64 (n : Int)] V fun e w' => e = .returned (.bool true) ∧ Below V.heap.size V w') := shareable_yes W n ⟨by omega, by omega, by omega, by omega⟩
  have HFt : Hid (∀ V : World, Calls Try.prog 18 #[.slice (some ⟨V.heap.size, 0, none⟩) 1 1] (V.alloc (.cells #[.int .i64 (x : Int), .int .i64 0, .int .i64 ((W : Int) - 1)] 47)) fun e w' => e = .returned (.bool true) ∧ Below V.heap.size V w') := fit_one_yes _ _ _ (by unfold Wn; omega)
  have HF1 : Hid (∀ V : World, Calls Try.prog 19 #[.int .i64 (W : Int), .int .i64 (x : Int), .int .i64 (n : Int)] V fun e w' => e = .returned (.int .i64 ((dlo W n x : Nat) : Int)) ∧ w' = V) := fun V => firstPlace_any W x n W1 W2 (by omega) hn2 V
  have HF2 : Hid (∀ V : World, Calls Try.prog 19 #[.int .i64 (W : Int), .int .i64 ((x : Int) + 1), .int .i64 (n : Int)] V fun e w' => e = .returned (.int .i64 ((dlo W n (x + 1) : Nat) : Int)) ∧ w' = V) := fun V => firstPlace_any W (x + 1) n W1 W2 (by omega) hn2 V
  have hlo : dlo W n x ≤ n := dlo_le W n x (by omega) (by omega)
  have hhi : dlo W n (x + 1) ≤ n := dlo_le W n (x + 1) (by omega) (by omega)
  have hmo : dlo W n x ≤ dlo W n (x + 1) := dlo_mono W n (by omega)
  obtain ⟨lo, hlo2⟩ : ∃ lo, dlo W n x = lo := ⟨_, rfl⟩
  obtain ⟨hi', hhi2⟩ : ∃ hi', dlo W n (x + 1) = hi' := ⟨_, rfl⟩
  rw [hlo2] at HF1 hlo hmo
  rw [hhi2] at HF2 hhi hmo
  rw [hlo2, hhi2]
  clear hlo2 hhi2
  have hky : Ky s 1 0 0 := ⟨hs, by omega, by omega, by omega, by omega, by omega, by omega⟩
  have HBk : Hid (∀ (p : Nat) (V : World), p < n → Calls Try.prog 20 #[.agg #[.int .u64 (s : Int), .int .i64 1, .int .i64 0, .int .i64 0], .int .i64 (n : Int), .int .i64 (p : Int)] V fun e w' => e = .returned (.tuple #[.int .i64 ((C p : Nat) : Int), .int .i64 0]) ∧ Below V.heap.size V w') := fun p V hp => by
    refine (pBack_any s 1 0 0 n p hky (by omega) (by omega) hp V).mono ?_
    rintro e w' ⟨y, rfl, hG, hb⟩
    rw [hG.one (hC p hp)]
    exact ⟨rfl, hb⟩
  have HKy : Hid (∀ V : World, Calls Try.prog 21 #[.int .u64 (s : Int)] V fun e w' => e = .returned (.agg #[.int .u64 (s : Int), .int .i64 1, .int .i64 0, .int .i64 0]) ∧ Below V.heap.size V w') := shareKey_any s
  have HCl : Hid (∀ j, j < n → C j < n) := fun j hj => (hC j hj).lt
  clear hC hky
  obtain ⟨i0, hti, hz0, hz1, hz2⟩ := info_parts dinfo_int
  have hx1 : IntKind.i64.wrap ((x : Int) + 1) = (x : Int) + 1 := by simp only [IntKind.wrap_i64]; omega
  go_enter Try.func9, Try.ntmps9
  go_wp2_with fail
  refine (HSh.out _).mono ?_
  rintro e w1 ⟨rfl, hb⟩
  have B1 : Hid (Below w.heap.size w w1) := hb
  clear hb HSh
  go_wp2_with fail
  refine (HFt.out _).mono ?_
  rintro e w2 ⟨rfl, hb⟩
  have B2 : Hid (Below w.heap.size w w2) := bchain B1.out hb
  clear hb HFt B1
  go_wp2_with fail
  refine (HF1.out _).mono ?_
  rintro e w3 ⟨rfl, rfl⟩
  clear HF1
  go_upto_region 5 with fail
  go_loopw [10, 11] (fun s10 si wr => ∃ p : Nat, lo ≤ p ∧ p ≤ hi' ∧ si = .int .i64 (p : Int) ∧ Hid (wr.ownsRow w.heap.size 3 1 s10 (p - lo) (il (fun q => ((C (lo + q) : Nat) : Int)) (p - lo))) ∧ Hid (Below w.heap.size w wr)) (fun _ si _ => hi' - (intOf si).toNat)
  case atStart => exact ⟨lo, by omega, by omega, rfl, by rw [Nat.sub_self]; exact World.ownsRow_nil _ _ _ _, B2⟩
  case round =>
    rename World => wr1
    obtain ⟨p, hp1, hp2, rfl, HO, HW⟩ := hrel
    go_wp2_with fail
    refine (HF2.out _).mono ?_
    rintro e w3 ⟨rfl, rfl⟩
    by_cases hlt : p < hi'
    · have hpI : (p : Int) < (hi' : Int) := by omega
      go_wp2_with fail
      refine (HKy.out _).mono ?_
      rintro e w4 ⟨rfl, hb⟩
      have HO4 : Hid (w4.ownsRow w.heap.size 3 1 u10 (p - lo) (il (fun q => ((C (lo + q) : Nat) : Int)) (p - lo))) := own_later HO.out hb
      have HW4 : Hid (Below w.heap.size w w4) := bchain HW.out hb
      clear hb HO HW
      have CM := HBk.out p w4 (by omega)
      go_wp2_with fail
      refine CM.mono ?_
      rintro e w5 ⟨rfl, hb⟩
      have HO5 : Hid (w5.ownsRow w.heap.size 3 1 u10 (p - lo) (il (fun q => ((C (lo + q) : Nat) : Int)) (p - lo))) := own_later HO4.out hb
      have HW5 : Hid (Below w.heap.size w w5) := bchain HW4.out hb
      clear hb HO4 HW4 CM
      have hs5 : w.heap.size ≤ w5.heap.size := HW5.out.size
      obtain ⟨q, hq⟩ : ∃ q, p - lo = q := ⟨_, rfl⟩
      have Hq : Hid (p + 1 - lo = q + 1 ∧ lo + q = p) := ⟨by omega, by omega⟩
      have hq2 : q ≤ 4096 := by omega
      rw [hq] at HO5
      clear hq
      have hown := HO5.out
      go_wp2_with (at_builtin; refine wpList_append_own _ rfl _ _ 26 rfl w.heap.size 3 i0 (.int .i64 0) 1 8 Try.underlying26 hti hz0 hz1 hz2 rfl (by decide) _ _ _ rfl (hown.alloc _) ⟨w5.heap.size, 0, none⟩ 1 1 [.int .i64 ((C p : Nat) : Int)] rfl rfl (cell_one_new _ _ _) (ints_oneCell .i64 [((C p : Nat) : Int)]) (by unfold maxLen; omega) (by omega) (by simp; omega) ?_; intro v' w6 hown' hgrow hnil; have HO6 : Hid (w6.ownsRow w.heap.size 3 1 v' (p + 1 - lo) (il (fun q => ((C (lo + q) : Nat) : Int)) (p + 1 - lo))) := (by rw [Hq.out.1, il_succ, Hq.out.2]; exact hown'); have HW6 : Hid (Below w.heap.size w w6) := (HW5.out.alloc hs5 _).grown hgrow (by rw [World.size_alloc]; omega) (fun k hk => (HO5.out.lt k hk).1); clear hown' hgrow hnil hown HO5 HW5)
      go_roundw
      case rel => exact ⟨p + 1, by omega, by omega, by go_num, HO6, HW6⟩
      case measure => simp [intOf]; omega
    · obtain rfl : p = hi' := by omega
      have hpI : ¬ (p : Int) < (p : Int) := by omega
      obtain ⟨hA, hO⟩ := ar_of_own HO.out (fun q hq => by have h := HCl.out (lo + q) (by omega); omega)
      have HA : Hid (Ar w3 u10 (p - lo) (fun q => ((C (lo + q) : Nat) : Int)) ∧ Ow w.heap.size u10) := ⟨hA, hO⟩
      clear hA hO HO
      go_wp2
      go_ret2
      exact ⟨_, rfl, HA.out.1, HA.out.2, HW.out⟩
set_option maxRecDepth 100000 in
set_option maxHeartbeats 4000000 in
theorem pOwn_bad (s : Nat) (W x n : Int) (w : World) (h : ¬ (Rgt W n ∧ 0 ≤ x ∧ x < W)) :
    Calls Try.prog 9 #[.int .u64 (s : Int), .int .i64 W, .int .i64 x, .int .i64 n] w fun e w' => ∃ (ad : Option Addr) (cap : Nat), e = .returned (.tuple #[.slice ad 0 cap, .int .i64 2]) ∧ Below w.heap.size w w' := by
  by_cases hR : Rgt W n
  · have HSh : Hid (∀ V : World, Calls Try.prog 17 #[.int .i64 W, .int .i64 n] V fun e w' => e = .returned (.bool true) ∧ Below V.heap.size V w') := shareable_yes W n hR
    have HFt : Hid (∀ V : World, Calls Try.prog 18 #[.slice (some ⟨V.heap.size, 0, none⟩) 1 1] (V.alloc (.cells #[.int .i64 x, .int .i64 0, .int .i64 (W - 1)] 47)) fun e w' => e = .returned (.bool false) ∧ Below V.heap.size V w') := fit_one_no _ _ _ (by unfold Wn; unfold Rgt at *; omega)
    obtain ⟨r1, r2, r3, r4⟩ := hR
    clear h
    go_enter Try.func9, Try.ntmps9
    go_wp2_with fail
    refine (HSh.out _).mono ?_
    rintro e w1 ⟨rfl, hb⟩
    have B1 : Hid (Below w.heap.size w w1) := hb
    clear hb HSh
    go_wp2_with fail
    refine (HFt.out _).mono ?_
    rintro e w2 ⟨rfl, hb⟩
    have B2 : Hid (Below w.heap.size w w2) := bchain B1.out hb
    clear hb HFt B1
    go_wp2
    go_ret2
    exact ⟨_, _, rfl, B2.out⟩
  · have HSh : Hid (∀ V : World, Calls Try.prog 17 #[.int .i64 W, .int .i64 n] V fun e w' => e = .returned (.bool false) ∧ Below V.heap.size V w') := shareable_no W n hR
    clear h hR
    go_enter Try.func9, Try.ntmps9
    go_wp2_with fail
    refine (HSh.out _).mono ?_
    rintro e w1 ⟨rfl, hb⟩
    have B1 : Hid (Below w.heap.size w w1) := hb
    clear hb HSh
    go_wp2
    go_ret2
    exact ⟨_, _, rfl, B1.out⟩
theorem data1 : Data1 where
  own := fun s W x n C w hs W1 W2 hx hn1 hn2 hC _ => pOwn_any s W x n C w hs W1 W2 hx hn1 hn2 hC
  ownE := fun s W x n w h _ => pOwn_bad s W x n w h
set_option maxRecDepth 100000 in
set_option maxHeartbeats 4000000 in
theorem pOwner_any (s W n i : Nat) (w : World) (hs : s < 18446744073709551616) (W1 : 1 ≤ W) (W2 : W ≤ 64) (hn1 : W ≤ n) (hn2 : n ≤ 4096) (hi : i < n) :
    Calls Try.prog 16 #[.int .u64 (s : Int), .int .i64 (W : Int), .int .i64 (n : Int), .int .i64 (i : Int)] w fun e w' => ∃ x p : Nat, e = .returned (.tuple #[.int .i64 (x : Int), .int .i64 0]) ∧ x < W ∧ Goes s 1 0 0 n i p ∧ dlo W n x ≤ p ∧ p < dlo W n (x + 1) ∧ Below w.heap.size w w' := by
  have HSh : Hid (∀ V : World, Calls Try.prog 17 #[.int .i64 (W : Int), .int .i64 (n : Int)] V fun e w' => e = .returned (.bool true) ∧ Below V.heap.size V w') := shareable_yes W n ⟨by omega, by omega, by omega, by omega⟩
  have HFt : Hid (∀ V : World, Calls Try.prog 18 #[.slice (some ⟨V.heap.size, 0, none⟩) 1 1] (V.alloc (.cells #[.int .i64 (i : Int), .int .i64 0, .int .i64 ((n : Int) - 1)] 47)) fun e w' => e = .returned (.bool true) ∧ Below V.heap.size V w') := fit_one_yes _ _ _ (by unfold Wn; omega)
  have hky : Ky s 1 0 0 := ⟨hs, by omega, by omega, by omega, by omega, by omega, by omega⟩
  have HPl : Hid (∀ (V : World), Calls Try.prog 25 #[.agg #[.int .u64 (s : Int), .int .i64 1, .int .i64 0, .int .i64 0], .int .i64 (n : Int), .int .i64 (i : Int)] V fun e w' => ∃ p : Nat, e = .returned (.tuple #[.int .i64 (p : Int), .int .i64 0]) ∧ Goes s 1 0 0 n i p ∧ Below V.heap.size V w') := pPlace_any s 1 0 0 n i hky (by omega) (by omega) hi
  have HKy : Hid (∀ V : World, Calls Try.prog 21 #[.int .u64 (s : Int)] V fun e w' => e = .returned (.agg #[.int .u64 (s : Int), .int .i64 1, .int .i64 0, .int .i64 0]) ∧ Below V.heap.size V w') := shareKey_any s
  have HPo : Hid (∀ (p : Nat) (V : World), p < n → Calls Try.prog 26 #[.int .i64 (W : Int), .int .i64 (n : Int), .int .i64 (p : Int)] V fun e w' => ∃ x : Nat, e = .returned (.int .i64 (x : Int)) ∧ (x < W ∧ dlo W n x ≤ p ∧ p < dlo W n (x + 1)) ∧ w' = V) := fun p V hp => by
    refine (placeOwner_any W n p W1 W2 hp hn2 V).mono ?_
    rintro e w' ⟨rfl, rfl⟩
    exact ⟨_, rfl, own_of W n p W1 (by omega) hp, rfl⟩
  clear hky
  go_enter Try.func16, Try.ntmps16
  go_wp2_with fail
  refine (HSh.out _).mono ?_
  rintro e w1 ⟨rfl, hb⟩
  have B1 : Hid (Below w.heap.size w w1) := hb
  clear hb HSh
  go_wp2_with fail
  refine (HFt.out _).mono ?_
  rintro e w2 ⟨rfl, hb⟩
  have B2 : Hid (Below w.heap.size w w2) := bchain B1.out hb
  clear hb HFt B1
  go_wp2_with fail
  refine (HKy.out _).mono ?_
  rintro e w3 ⟨rfl, hb⟩
  have B3 : Hid (Below w.heap.size w w3) := bchain B2.out hb
  clear hb HKy B2
  go_wp2_with fail
  refine (HPl.out _).mono ?_
  rintro e w4 ⟨p, rfl, hG, hb⟩
  have B4 : Hid (Below w.heap.size w w4) := bchain B3.out hb
  have HG : Hid (Goes s 1 0 0 n i p) := hG
  have CM := HPo.out p w4 hG.lt
  clear hb HPl B3 hG
  go_wp2_with fail
  refine CM.mono ?_
  rintro e w5 ⟨x, rfl, hx, rfl⟩
  have HX : Hid (x < W ∧ dlo W n x ≤ p ∧ p < dlo W n (x + 1)) := hx
  clear hx CM HPo
  go_wp2
  go_ret2
  exact ⟨x, p, rfl, HX.out.1, HG.out, HX.out.2.1, HX.out.2.2, B4.out⟩
set_option maxRecDepth 100000 in
set_option maxHeartbeats 4000000 in
theorem pOwner_bad (s : Nat) (W n i : Int) (w : World) (h : ¬ (Rgt W n ∧ 0 ≤ i ∧ i < n)) :
    Calls Try.prog 16 #[.int .u64 (s : Int), .int .i64 W, .int .i64 n, .int .i64 i] w fun e w' => e = .returned (.tuple #[.int .i64 0, .int .i64 2]) ∧ Below w.heap.size w w' := by
  by_cases hR : Rgt W n
  · have HSh : Hid (∀ V : World, Calls Try.prog 17 #[.int .i64 W, .int .i64 n] V fun e w' => e = .returned (.bool true) ∧ Below V.heap.size V w') := shareable_yes W n hR
    have HFt : Hid (∀ V : World, Calls Try.prog 18 #[.slice (some ⟨V.heap.size, 0, none⟩) 1 1] (V.alloc (.cells #[.int .i64 i, .int .i64 0, .int .i64 (n - 1)] 47)) fun e w' => e = .returned (.bool false) ∧ Below V.heap.size V w') := fit_one_no _ _ _ (by unfold Wn; unfold Rgt at *; omega)
    obtain ⟨r1, r2, r3, r4⟩ := hR
    clear h
    go_enter Try.func16, Try.ntmps16
    go_wp2_with fail
    refine (HSh.out _).mono ?_
    rintro e w1 ⟨rfl, hb⟩
    have B1 : Hid (Below w.heap.size w w1) := hb
    clear hb HSh
    go_wp2_with fail
    refine (HFt.out _).mono ?_
    rintro e w2 ⟨rfl, hb⟩
    have B2 : Hid (Below w.heap.size w w2) := bchain B1.out hb
    clear hb HFt B1
    go_wp2
    go_ret2
    exact ⟨rfl, B2.out⟩
  · have HSh : Hid (∀ V : World, Calls Try.prog 17 #[.int .i64 W, .int .i64 n] V fun e w' => e = .returned (.bool false) ∧ Below V.heap.size V w') := shareable_no W n hR
    clear h hR
    go_enter Try.func16, Try.ntmps16
    go_wp2_with fail
    refine (HSh.out _).mono ?_
    rintro e w1 ⟨rfl, hb⟩
    have B1 : Hid (Below w.heap.size w w1) := hb
    clear hb HSh
    go_wp2
    go_ret2
    exact ⟨rfl, B1.out⟩
theorem data3 : Data3 where
  owner := fun s W n i w hs W1 W2 hn1 hn2 hi _ => pOwner_any s W n i w hs W1 W2 hn1 hn2 hi
  ownerE := fun s W n i w h _ => pOwner_bad s W n i w h
end Go.Proofs.Ytaifihfiompgaaa
