/-
  Texts of this proof, joined: PWalkQ MMeans NBatch LFrame2 LawMT0.
-/
import Derived.Test.YtdfjnbkkdgolnabGreatDoorProg
import Derived.Test.YtdfjnbkkdgolnabGreatDoorST00
import Derived.Test.YtdfjnbkkdgolnabGreatDoorSX00
import Derived.Test.YtdfjnbkkdgolnabGreatDoorSX01
import Derived.Test.YtdfjnbkkdgolnabGreatDoorSX02
import Derived.Test.YtdfjnbkkdgolnabGreatDoorSX03
import Derived.Test.YtdfjnbkkdgolnabGreatDoorSX04
import Derived.Test.YtdfjnbkkdgolnabGreatDoorSX05
import Derived.Test.YtdfjnbkkdgolnabGreatDoorSX06
import Derived.Test.YtdfjnbkkdgolnabGreatDoorSX07
import Derived.Test.YtdfjnbkkdgolnabGreatDoorSX08
import Derived.Test.YtdfjnbkkdgolnabGreatDoorSX09
import Derived.Test.YtdfjnbkkdgolnabGreatDoorSX10
import Derived.Test.YtdfjnbkkdgolnabGreatDoorSX11
import Derived.Test.YtdfjnbkkdgolnabGreatDoorSX12
import Derived.Test.YtdfjnbkkdgolnabGreatDoorSX13
import Derived.Laws.MakeOwn
import Derived.OwnWalk
import Derived.Deep.RegionHeld3
import Derived.Laws.CopyOwn
import Derived.Maps.AppendAt
import Derived.Deep.QuietTactic
import Derived.BigQuiet
import Derived.Laws.Bits64
import Derived.Lib.SliceRun
set_option linter.unusedVariables false
set_option linter.unusedSimpArgs false
namespace Go.Proofs.YtdfjnbkkdgolnabGreatDoor
open Go.RowKit

set_option maxHeartbeats 1000000 in
theorem alike1_any (a : Option Addr) (n c n0 : Nat) (hn : n ≤ maxLen) (hn0 : n0 ≤ maxLen) (B g o K cap c0 : Nat) (a0 : Option Addr) (hK : 0 < K) (w : World) (cb : w.cell? ⟨B, 0, none⟩ = some (.slice (some ⟨g, o, none⟩) K cap)) (ce : w.cell? ⟨g, o, none⟩ = some (.slice a0 n0 c0)) :
    Calls Tryz.prog 57 #[.slice a n c, .pointer (some ⟨B, 0, none⟩)] w fun e w' => e = .returned (.bool (decide (n ≠ n0))) ∧ w' = w := by
  unfold maxLen at hn hn0
  have hKI : (0 : Int) < (K : Int) := by omega
  by_cases h : n = n0
  · subst h
    rw [decide_eq_false (fun h => h rfl)]
    go_enter Tryz.func57, Tryz.ntmps57
    go_wp2
    go_ret
    exact ⟨by simp, rfl⟩
  · have h1 : ¬ (n : Int) = (n0 : Int) := by omega
    rw [decide_eq_true h]
    clear h
    go_enter Tryz.func57, Tryz.ntmps57
    go_wp2
    go_ret
    exact ⟨by simp [h1], rfl⟩
/-- Whether one of so many vectors is not as long as the first. -/
def unlB (ns : Nat → Nat) (m : Nat) : Bool := (List.range m).any (fun k => decide (ns k ≠ ns 0))
theorem unlB_yes (ns : Nat → Nat) (m k : Nat) (hk : k < m) (h : ns k ≠ ns 0) : unlB ns m = true :=
  List.any_eq_true.2 ⟨k, List.mem_range.2 hk, decide_eq_true h⟩
theorem unlB_no (ns : Nat → Nat) (m : Nat) (h : ∀ k, k < m → ns k = ns 0) : unlB ns m = false := by
  rw [Bool.eq_false_iff]
  intro e
  obtain ⟨k, hk, h2⟩ := List.any_eq_true.1 e
  exact of_decide_eq_true h2 (h k (List.mem_range.1 hk))
set_option maxRecDepth 100000 in
set_option maxHeartbeats 2000000 in
theorem index2_any (v : Value) (m : Nat) (ns : Nat → Nat) (B : Nat) (w : World) (hH : Hs w v m ns) (cB : w.cell? ⟨B, 0, none⟩ = some v) :
    Calls Tryz.prog 73 #[v, .func (.func 57) #[] #[.pointer (some ⟨B, 0, none⟩)]] w fun e w' => ∃ i : Int, e = .returned (.int .i64 i) ∧ (unlB ns m = true → 0 ≤ i) ∧ (unlB ns m = false → i < 0) ∧ w' = w := by
  obtain ⟨adr, cap, g, o, rfl, k1, k2, k3, k4⟩ := hH
  have HC : Hid (∀ k, k < m → ns k ≤ maxLen ∧ ∃ (ad : Option Addr) (ca : Nat), w.cell? ⟨g, o + k, none⟩ = some (.slice ad (ns k) ca)) := k4
  have HK : Hid (0 < m → adr = some ⟨g, o, none⟩) := k3
  have HB : Hid (w.cell? ⟨B, 0, none⟩ = some (.slice adr m cap)) := cB
  unfold maxLen at k2
  clear k3 k4 cB
  go_enter Tryz.func73, Tryz.ntmps73
  go_wp2
  go_loopw [8] (fun s8 wr => ∃ j : Nat, j ≤ m ∧ s8 = .int .i64 (j : Int) ∧ Hid (∀ k, k < j → ns k = ns 0) ∧ wr = w) (fun s8 _ => m - (intOf s8).toNat)
  case atStart => exact ⟨0, by omega, rfl, fun k hk => by omega, rfl⟩
  case round =>
    obtain ⟨j, hj, rfl, hA, rfl⟩ := hrel
    by_cases hlt : j < m
    · have hjI : (j : Int) < (m : Int) := by omega
      have ea := HK.out (by omega)
      subst ea
      obtain ⟨hl, ad, ca, hcell⟩ := HC.out j hlt
      have CT : Hid (Calls Tryz.prog 57 #[.slice ad (ns j) ca, .pointer (some ⟨B, 0, none⟩)] wr fun e w' => e = .returned (.bool (decide (ns j ≠ ns 0))) ∧ w' = wr) := by
        obtain ⟨hl0, ad0, ca0, hc0⟩ := HC.out 0 (by omega)
        exact alike1_any ad (ns j) ca (ns 0) hl hl0 B g o m cap ca0 ad0 (by omega) wr HB.out (by rw [Nat.add_zero] at hc0; exact hc0)
      clear hl
      by_cases hlong : ns j ≠ ns 0
      · rw [decide_eq_true hlong] at CT
        have HF : Hid (unlB ns m = true) := unlB_yes ns m j hlt hlong
        clear hlong hA
        go_wp2_with (go_at_call 57; refine CT.out.mono ?_; rintro e wz ⟨rfl, hz⟩; subst hz)
        go_ret
        exact ⟨_, rfl, fun _ => by omega, fun h => (by rw [HF.out] at h; cases h), rfl⟩
      · rw [decide_eq_false hlong] at CT
        have HA2 : Hid (∀ k, k < j + 1 → ns k = ns 0) := fun k hk => by
          rcases Nat.lt_or_ge k j with h | h
          · exact hA.out k h
          · obtain rfl : k = j := by omega
            exact Decidable.not_not.1 hlong
        clear hlong hA
        go_wp2_with (go_at_call 57; refine CT.out.mono ?_; rintro e wz ⟨rfl, hz⟩; subst hz)
        go_roundw
        case rel => exact ⟨j + 1, by omega, by go_num, HA2, trivial⟩
        case measure => simp [intOf]; omega
    · have HF : Hid (unlB ns m = false) := unlB_no ns m (fun k hk => hA.out k (by omega))
      have hjI : ¬ (j : Int) < (m : Int) := by omega
      clear hA
      go_wp2
      go_ret
      exact ⟨_, rfl, fun h => (by rw [HF.out] at h; cases h), fun _ => by omega, rfl⟩
set_option maxHeartbeats 1000000 in
theorem contains2_any (v : Value) (m : Nat) (ns : Nat → Nat) (B : Nat) (w : World) (hH : Hs w v m ns) (cB : w.cell? ⟨B, 0, none⟩ = some v) :
    Calls Tryz.prog 55 #[v, .func (.func 57) #[] #[.pointer (some ⟨B, 0, none⟩)]] w fun e w' => e = .returned (.bool (unlB ns m)) ∧ w' = w := by
  have CI : Hid (Calls Tryz.prog 73 #[v, .func (.func 57) #[] #[.pointer (some ⟨B, 0, none⟩)]] w fun e w' => ∃ i : Int, e = .returned (.int .i64 i) ∧ (unlB ns m = true → 0 ≤ i) ∧ (unlB ns m = false → i < 0) ∧ w' = w) := index2_any v m ns B w hH cB
  obtain ⟨adr, cap, g, o, rfl, -, -, -, -⟩ := hH
  clear cB
  generalize unlB ns m = Q at *
  cases Q
  · go_enter Tryz.func55, Tryz.ntmps55
    go_wp2_with fail
    refine CI.out.mono ?_
    rintro e wz ⟨i, rfl, -, h1, hz⟩
    subst hz
    have h2 : ¬ (0 : Int) ≤ i := by have := h1 (by trivial); omega
    clear CI h1
    go_wp2
    go_ret
    exact ⟨by simp [h2], rfl⟩
  · go_enter Tryz.func55, Tryz.ntmps55
    go_wp2_with fail
    refine CI.out.mono ?_
    rintro e wz ⟨i, rfl, h1, -, hz⟩
    subst hz
    have h2 : (0 : Int) ≤ i := h1 (by trivial)
    clear CI h1
    go_wp2
    go_ret
    exact ⟨by simp [h2], rfl⟩
theorem Hs.later {w w' : World} {v : Value} {m : Nat} {ns : Nat → Nat} (h : Hs w v m ns) (hb : Below w.heap.size w w') : Hs w' v m ns := by
  obtain ⟨adr, cap, g, o, e, k1, k2, k3, k4⟩ := h
  exact ⟨adr, cap, g, o, e, k1, k2, k3, fun k hk => by obtain ⟨h1, ad, ca, h2⟩ := k4 k hk; exact ⟨h1, ad, ca, cell_later hb h2⟩⟩
set_option maxHeartbeats 1000000 in
theorem alike_any (v : Value) (m : Nat) (ns : Nat → Nat) (w : World) (hH : Hs w v m ns) :
    Calls Tryz.prog 33 #[v] w fun e w' => e = .returned (.bool (!(unlB ns m))) ∧ Below w.heap.size w w' := by
  have hb0 := bel1 w (.cells #[v] 28)
  have cB : (w.alloc (.cells #[v] 28)).cell? ⟨w.heap.size, 0, none⟩ = some v := by obtain ⟨adr, cap, g, o, rfl, -, -, -, -⟩ := hH; simp [go_sem]
  have CI : Hid (Calls Tryz.prog 55 #[v, .func (.func 57) #[] #[.pointer (some ⟨w.heap.size, 0, none⟩)]] (w.alloc (.cells #[v] 28)) fun e w' => e = .returned (.bool (unlB ns m)) ∧ w' = w.alloc (.cells #[v] 28)) := contains2_any v m ns w.heap.size _ (hH.later hb0) cB
  obtain ⟨adr, cap, g, o, rfl, -, -, -, -⟩ := hH
  clear cB
  generalize unlB ns m = Q at *
  go_enter Tryz.func33, Tryz.ntmps33
  go_wp2_with fail
  refine CI.out.mono ?_
  rintro e wz ⟨rfl, hz⟩
  have hb1 : Below w.heap.size w wz := by rw [hz]; exact hb0
  clear CI hz hb0
  cases Q <;> (go_wp2; go_ret; exact ⟨rfl, hb1⟩)
end Go.Proofs.YtdfjnbkkdgolnabGreatDoor
set_option linter.unusedVariables false
set_option linter.unusedSimpArgs false
namespace Go.Proofs.YtdfjnbkkdgolnabGreatDoor
open Go.RowKit

set_option maxHeartbeats 1000000 in
theorem means2_ux (f : Nat → Int) (K cap : Nat) (adr : Option Addr) (hK : 1 ≤ K) (hK2 : K ≤ 1000) (hf' : ∀ k, k < K → -9223372036854775808 ≤ f k ∧ f k ≤ 9223372036854775807) (bu bx : Nat) (p : Option Addr) (c : Int) (c0 : 0 ≤ c) (c1 : c ≤ 900000000) (w : World) (hp : Up p c w) (cu : w.cell? ⟨bu, 0, none⟩ = some (.pointer p)) (cx : w.cell? ⟨bx, 0, none⟩ = some (.slice adr K cap)) :
    Calls Tryz.prog 39 #[.agg #[.int .i64 (hi (sumV f K)), .int .u64 (lo (sumV f K))], .pointer (some ⟨bu, 0, none⟩), .pointer (some ⟨bx, 0, none⟩)] w fun e w' => e = .returned (.int .i64 (clv (quo (sumV f K) (K : Int)))) ∧ Ux p (c + bi (ovv (quo (sumV f K) (K : Int)))) w w' := by
  obtain ⟨g0, g1⟩ := sumV_bnd f K hf'
  obtain ⟨u0, u1⟩ := quo_in (sumV f K) (K : Int) (by omega) ((K : Int) * 9223372036854775808) (by omega) g0 g1
  have CD : Hid (∀ W : World, Up p c W → Calls Tryz.prog 40 #[.pointer p, .agg #[.int .i64 (hi (sumV f K)), .int .u64 (lo (sumV f K))], .int .i64 (K : Int)] W fun e w' => e = .returned (.int .i64 (clv (quo (sumV f K) (K : Int)))) ∧ Ux p (c + bi (ovv (quo (sumV f K) (K : Int)))) W w') := fun W hq => ux_calls (ags := #[.agg #[.int .i64 (hi (sumV f K)), .int .u64 (lo (sumV f K))], .int .i64 (K : Int)]) hq (fun _ => vmean_nil (sumV f K) (K : Int) (by omega) (by omega) (by omega) (by omega) (by omega) (by omega) W) (fun d _ hc => vmean_un (sumV f K) (K : Int) (by omega) (by omega) (by omega) (by omega) (by omega) (by omega) d c c0 (by omega) W hc.1 hc.2)
  clear g0 g1 u0 u1 hf'
  obtain ⟨z0, z1⟩ := clv_fit (quo (sumV f K) (K : Int))
  generalize clv (quo (sumV f K) (K : Int)) = x at *
  generalize bi (ovv (quo (sumV f K) (K : Int))) = z at *
  generalize hi (sumV f K) = sh at *
  generalize lo (sumV f K) = sl at *
  have hb0 := bel1 w (.cells #[.int .i64 sh, .int .u64 sl] 85)
  have A0 := B2.new w (.int .i64 sh) (.int .u64 sl) 85
  have HpL : Hid (Up p c (w.alloc (.cells #[.int .i64 sh, .int .u64 sl] 85))) := hp.later hb0
  have HpX : Hid (Ux p c w (w.alloc (.cells #[.int .i64 sh, .int .u64 sl] 85))) := hp.ux hb0
  have cuL := cell_later hb0 cu
  have cxL := cell_later hb0 cx
  clear hp cu cx
  go_enter Tryz.func39, Tryz.ntmps39
  go_upto_region 1 with fail
  generalize w.alloc (.cells #[.int .i64 sh, .int .u64 sl] 85) = w1 at *
  have a0 := A0.c0
  have a1 := A0.c1
  clear A0
  go_wp2_with fail
  refine (CD.out _ HpL.out).mono ?_
  rintro e w2 ⟨rfl, hU⟩
  have hX := HpX.out.chain hU
  clear hU CD HpL HpX cuL cxL a0 a1 hb0
  go_wp2
  go_ret
  exact ⟨rfl, hX⟩
theorem Vs.hs {w : World} {g o K cap n : Nat} {fs : Nat → Nat → Int} (h : Vs w g o K n fs) (hn : n ≤ 65536) (h1 : K ≤ cap) (h2 : cap ≤ maxLen) : Hs w (.slice (some ⟨g, o, none⟩) K cap) K (fun _ => n) :=
  ⟨_, _, g, o, rfl, h1, h2, fun _ => rfl, fun k hk => ⟨(by show n ≤ maxLen; unfold maxLen; omega), by obtain ⟨ad, ca, h3, -⟩ := h.c k hk; exact ⟨ad, ca, h3⟩⟩⟩
theorem Vs.rng {w : World} {g o K n : Nat} {fs : Nat → Nat → Int} (h : Vs w g o K n fs) (i : Nat) (hi : i < n) (k : Nat) (hk : k < K) : -9223372036854775808 ≤ fs k i ∧ fs k i ≤ 9223372036854775807 := by
  obtain ⟨ad, ca, -, hA⟩ := h.c k hk
  obtain ⟨_, _, _, _, h3⟩ := hA.at i hi
  exact h3
set_option maxHeartbeats 4000000 in
theorem Means_ux (g o cap K n : Nat) (fs : Nat → Nat → Int) (hK : 1 ≤ K) (hK2 : K ≤ 64) (hn : n ≤ 65536) (hcap : K ≤ cap) (hcap2 : cap ≤ maxLen) (p : Option Addr) (c : Int) (c0 : 0 ≤ c) (c1 : c ≤ 800000000) (w : World) (hL : Vs w g o K n fs) (hp : Up p c w) :
    Calls Tryz.prog 22 #[.pointer p, .slice (some ⟨g, o, none⟩) K cap] w fun e w' => ∃ g', e = .returned (.tuple #[.slice (some ⟨g', 0, none⟩) n n, .int .i64 0]) ∧ Ar w' (.slice (some ⟨g', 0, none⟩) n n) n (msX fs K) ∧ w.heap.size ≤ g' ∧ Ux p (c + cntV (msO fs K) n) w w' := by
  have hb0 := bel2 w (.cells #[.pointer p] 45) (.cells #[.slice (some ⟨g, o, none⟩) K cap] 28)
  have cx : ((w.alloc (.cells #[.pointer p] 45)).alloc (.cells #[.slice (some ⟨g, o, none⟩) K cap] 28)).cell? ⟨w.heap.size + 1, 0, none⟩ = some (.slice (some ⟨g, o, none⟩) K cap) := by have h := cell_new1 (w.alloc (.cells #[.pointer p] 45)) (.slice (some ⟨g, o, none⟩) K cap) 28; rw [World.size_alloc] at h; exact h
  have cu : ((w.alloc (.cells #[.pointer p] 45)).alloc (.cells #[.slice (some ⟨g, o, none⟩) K cap] 28)).cell? ⟨w.heap.size, 0, none⟩ = some (.pointer p) := cell_later (bel1 _ _) (cell_new1 w _ _)
  have hsz : ((w.alloc (.cells #[.pointer p] 45)).alloc (.cells #[.slice (some ⟨g, o, none⟩) K cap] 28)).heap.size = w.heap.size + 2 := by simp
  have HL2 : Hid (Vs ((w.alloc (.cells #[.pointer p] 45)).alloc (.cells #[.slice (some ⟨g, o, none⟩) K cap] 28)) g o K n fs) := hL.later hb0
  have Hp : Hid (Up p c w) := hp
  have HB0 : Hid (Below w.heap.size w ((w.alloc (.cells #[.pointer p] 45)).alloc (.cells #[.slice (some ⟨g, o, none⟩) K cap] 28))) := hb0
  have hH := hL.hs hn hcap hcap2
  have CA : Hid (∀ W : World, Below w.heap.size w W → Calls Tryz.prog 33 #[.slice (some ⟨g, o, none⟩) K cap] W fun e w' => e = .returned (.bool true) ∧ Below W.heap.size W w') := fun W hb => by
    have h := alike_any _ K (fun _ => n) W (hH.later hb)
    rw [unlB_no (fun _ => n) K (fun _ _ => rfl)] at h
    exact h
  have CK : Hid (∀ W : World, Below w.heap.size w W → Calls Tryz.prog 32 #[.bool true, .slice (some ⟨g, o, none⟩) K cap] W fun e w' => e = .returned (.int .i64 0) ∧ w' = W) := fun W hb => by
    have h := check_any true _ K (fun _ => n) W (hH.later hb)
    rw [show ckE true (fun _ => n) K = 0 by unfold ckE; rw [if_neg (by rw [longB_no (fun _ => n) K (fun _ _ => by omega)]; decide), if_pos rfl]] at h
    exact h
  clear hb0 hp hL hH
  unfold maxLen at hcap2
  have hKI : (0 : Int) < (K : Int) := by omega
  have hKJ : ¬ (64 : Int) < (K : Int) := by omega
  go_enter Tryz.func22, Tryz.ntmps22
  go_upto_region 3 with fail
  generalize (w.alloc (.cells #[.pointer p] 45)).alloc (.cells #[.slice (some ⟨g, o, none⟩) K cap] 28) = w2 at *
  have HB0w : Hid (∀ W : World, Below w2.heap.size w2 W → Below w.heap.size w W) := fun W hb => bchain HB0.out hb
  go_cut [6] (fun s6 wc => s6 = .int .i64 0 ∧ Hid (Below w2.heap.size w2 wc))
  case first =>
    have hd1 : Below w2.heap.size w2 w2.drew := (Below.refl _ _).drew
    have A := cell_later hd1 cx
    have CW : Hid (Below w2.heap.size w2 w2.drew) := hd1
    clear hd1 cu cx
    go_region_with
      (first
        | (go_at_call 33; refine (CA.out _ (HB0w.out _ CW.out)).mono ?_; rintro e wz ⟨rfl, hb⟩; replace A := cell_later hb A; replace CW := hidD CW hb; clear hb)
        | (go_at_call 32; refine (CK.out _ (HB0w.out _ CW.out)).mono ?_; rintro e wy ⟨rfl, hz⟩; subst hz))
    all_goals (go_wp2_with fail; go_meet; exact ⟨rfl, CW⟩)
  case rest =>
    obtain ⟨rfl, CW⟩ := hcut
    have cxC := cell_later CW.out cx
    obtain ⟨ad0, ca0, c00, hA0⟩ := (HL2.out.later CW.out).c 0 (by omega)
    rw [Nat.add_zero] at c00
    clear hA0 cx
    have hmk := make_wd n (by omega)
    have hb4 := bel1 wc (.cells (madeCells #[.int .i64 0, .int .u64 0] (n * 2)) 85)
    have HZ : Hid (Wd wc.heap.size n (fun _ => 0) (wc.alloc (.cells (madeCells #[.int .i64 0, .int .u64 0] (n * 2)) 85))) := Wd.made wc n 85
    have HB4 : Hid (Below w2.heap.size w2 (wc.alloc (.cells (madeCells #[.int .i64 0, .int .u64 0] (n * 2)) 85))) := bchain CW.out hb4
    have cx4 := cell_later hb4 cxC
    go_upto_region 7 with fail
    generalize wc.alloc (.cells (madeCells #[.int .i64 0, .int .u64 0] (n * 2)) 85) = w4 at *
    clear hmk hb4 cxC c00
    have CG : Hid (Calls Tryz.prog 34 #[.slice (some ⟨g, o, none⟩) K cap, .slice (some ⟨wc.heap.size, 0, none⟩) n n, .func (.func 35) #[] #[]] w4 fun e w' => ∃ b', e = .returned (.slice (some ⟨b', 0, none⟩) n n) ∧ Wd b' n (fun i => sumV (fun k => fs k i) K) w' ∧ (b' = wc.heap.size ∨ w4.heap.size ≤ b') ∧ Below w4.heap.size w4 w') := gather_wide g o cap K wc.heap.size n fs (by omega) hcap (by unfold maxLen; omega) w4 (HL2.out.later HB4.out) HZ.out
    go_wp2_with fail
    refine CG.out.mono ?_
    rintro e w5 ⟨b', rfl, hD, hb', hb5⟩
    have hsC : w2.heap.size ≤ wc.heap.size := CW.out.size
    have hs4 : w2.heap.size ≤ w4.heap.size := HB4.out.size
    have HB5 : Hid (Below w2.heap.size w2 w5) := bchain HB4.out hb5
    have hs5 : w2.heap.size ≤ w5.heap.size := HB5.out.size
    have CE : Hid (Calls Tryz.prog 38 #[.slice (some ⟨b', 0, none⟩) n n, .func (.func 39) #[] #[.pointer (some ⟨w.heap.size, 0, none⟩), .pointer (some ⟨w.heap.size + 1, 0, none⟩)]] w5 fun e w' => e = .returned (.slice (some ⟨w5.heap.size, 0, none⟩) n n) ∧ Ar w' (.slice (some ⟨w5.heap.size, 0, none⟩) n n) n (msX fs K) ∧ Ux p (c + cntV (msO fs K) n) w w') := by
      have hp5 : Up p c w5 := Hp.out.later (bchain HB0.out HB5.out)
      have cu5 := cell_later HB5.out cu
      have cx5 := cell_later hb5 cx4
      have hne : Nu b' p := Hp.out.lt (by omega)
      have HDk : ∀ (q : Int) (W : World), Ux p q w5 W → Wd b' n (fun i => sumV (fun k => fs k i) K) W := fun q W h => by
        rcases Nat.eq_zero_or_pos n with h0 | h0
        · exact ⟨fun k hk => by omega, fun k hk => by omega, fun k hk => by omega, fun k hk => by omega⟩
        · exact hD.block (h.blk (World.block_lt_of_cell? _ _ (hD.c0 0 h0)) hne)
      have h := each_means (.pointer (some ⟨w.heap.size, 0, none⟩)) (.pointer (some ⟨w.heap.size + 1, 0, none⟩)) (fun j W => Ux p (c + cntV (msO fs K) j) w5 W) b' n (fun i => sumV (fun k => fs k i) K) (msX fs K) w5 (by omega) (by simpa [cntV] using hp5.same) (fun j W W' h hb => h.later hb) (fun j W a x hx h => h.far x hx) (fun j W h => HDk _ W h) (fun j _ => clv_fit _) (fun j W hj hW h => by
        have r' := cnt_rng (msO fs K) j
        refine (means2_ux (fun k => fs k j) K cap (some ⟨g, o, none⟩) hK (by omega) (fun k hk => HL2.out.rng j hj k hk) w.heap.size (w.heap.size + 1) p _ (by omega) (by omega) W h.up (h.cell (Hp.out.lt (Nat.le_refl _)) cu5) (h.cell (Hp.out.lt (Nat.le_succ _)) cx5)).mono ?_
        rintro e w' ⟨rfl, hU⟩
        refine ⟨rfl, ?_, hU.blk hW (Hp.out.lt (by omega)), hU.size⟩
        have e1 : c + cntV (msO fs K) (j + 1) = c + cntV (msO fs K) j + bi (ovv (quo (sumV (fun k => fs k j) K) (K : Int))) := by rw [Int.add_assoc]; rfl
        show Ux p (c + cntV (msO fs K) (j + 1)) _ w'
        rw [e1]
        exact h.chain hU)
      refine h.mono ?_
      rintro e w' ⟨rfl, hS, hX'⟩
      exact ⟨rfl, hX', (Hp.out.ux (bchain HB0.out HB5.out)).chain hS⟩
    clear CG hD hb' hb5 CW cu cx4 Hp HL2 HZ HB4 HB5
    go_wp2_with fail
    refine CE.out.mono ?_
    rintro e w6 ⟨rfl, hX, hU⟩
    have HX : Hid (Ar w6 (.slice (some ⟨w5.heap.size, 0, none⟩) n n) n (msX fs K)) := hX
    have HU : Hid (Ux p (c + cntV (msO fs K) n) w w6) := hU
    clear CE hX hU
    go_wp2
    go_ret2
    exact ⟨_, rfl, HX.out, by omega, HU.out⟩
end Go.Proofs.YtdfjnbkkdgolnabGreatDoor
set_option linter.unusedVariables false
set_option linter.unusedSimpArgs false
namespace Go.Proofs.YtdfjnbkkdgolnabGreatDoor
open Go.RowKit

/-- Examples in memory, beside the unit. -/
def Exq (w : World) (p : Option Addr) (g o K : Nat) (nx nt : Nat → Nat) (xs ts : Nat → Nat → Int) : Prop :=
  Nu g p ∧ ∀ k, k < K → ∃ vx vt : Value, w.cell? ⟨g, o + k * 2, none⟩ = some vx ∧ w.cell? ⟨g, o + k * 2 + 1, none⟩ = some vt ∧ Ar w vx (nx k) (xs k) ∧ Ar w vt (nt k) (ts k) ∧ Nv vx p ∧ Nv vt p
theorem Exq.later {w w' : World} {p : Option Addr} {g o K : Nat} {nx nt : Nat → Nat} {xs ts : Nat → Nat → Int} (h : Exq w p g o K nx nt xs ts) (hb : Below w.heap.size w w') : Exq w' p g o K nx nt xs ts :=
  ⟨h.1, fun k hk => by obtain ⟨vx, vt, h1, h2, h3, h4, h5, h6⟩ := h.2 k hk; exact ⟨vx, vt, cell_later hb h1, cell_later hb h2, h3.later hb, h4.later hb, h5, h6⟩⟩
theorem Exq.ux {w w' : World} {p : Option Addr} {g o K : Nat} {nx nt : Nat → Nat} {xs ts : Nat → Nat → Int} {c : Int} (h : Exq w p g o K nx nt xs ts) (hU : Ux p c w w') : Exq w' p g o K nx nt xs ts :=
  ⟨h.1, fun k hk => by obtain ⟨vx, vt, h1, h2, h3, h4, h5, h6⟩ := h.2 k hk; exact ⟨vx, vt, hU.cell h.1 h1, hU.cell h.1 h2, h3.ux h5 hU, h4.ux h6 hU, h5, h6⟩⟩
theorem Exq.exl {w : World} {p : Option Addr} {g o K cap : Nat} {nx nt : Nat → Nat} {xs ts : Nat → Nat → Int} (h : Exq w p g o K nx nt xs ts) (h1 : K ≤ cap) (h2 : cap ≤ maxLen) : Exl w (.slice (some ⟨g, o, none⟩) K cap) K nx nt :=
  ⟨_, cap, g, o, rfl, h1, h2, fun _ => rfl, fun k hk => by
    obtain ⟨vx, vt, c1, c2, a1, a2, -, -⟩ := h.2 k hk
    obtain ⟨ax, cx, _, _, rfl, -⟩ := a1
    obtain ⟨at', ct, _, _, rfl, -⟩ := a2
    exact ⟨ax, at', cx, ct, c1, c2⟩⟩
theorem gdX_fit (s : Bool) (z : Nat → Nat) (m : Nat) (P x t : Nat → Int) : -9223372036854775808 ≤ gdX s z m P x t ∧ gdX s z m P x t ≤ 9223372036854775807 := by
  unfold gdX lsX
  exact clv_fit _
theorem Ar.farq {w : World} {g n cap : Nat} {f : Nat → Int} {a : Addr} (h : Ar w (.slice (some ⟨g, 0, none⟩) n cap) n f) (u : Value) (ha : a.block ≠ g) : Ar (w.setCell a u) (.slice (some ⟨g, 0, none⟩) n cap) n f := by
  obtain ⟨ad, ca, b, o, e, h1, h2, h3, h4⟩ := h
  cases e
  refine ⟨_, _, b, o, rfl, h1, h2, h3, fun k hk => ⟨?_, (h4 k hk).2⟩⟩
  have e2 := h3 (by omega)
  cases e2
  exact cell_set ha (h4 k hk).1
set_option maxRecDepth 100000 in
set_option maxHeartbeats 16000000 in
theorem pBatch_sq (vs : Value) (m bp op cp capp g o K cap : Nat) (z : Nat → Nat) (P : Nat → Int) (xs ts : Nat → Nat → Int) (p : Option Addr) (c : Int) (c0 : 0 ≤ c) (c1 : c ≤ 100000000) (hK : 1 ≤ K) (hK2 : K ≤ 64) (hcap : K ≤ cap) (hcap2 : cap ≤ maxLen) (w : World) (hS : Ar w vs m (fun i => ((z i : Nat) : Int))) (hP : Ar w (.slice (some ⟨bp, op, none⟩) cp capp) cp P) (hE : Exq w p g o K (fun _ => z 0) (fun _ => z (m - 1)) xs ts) (hz : Szs z m) (hcp : cp = fsN z (m - 1)) (nS : Nv vs p) (nP : Nu bp p) (hp : Up p c w) (hTab : TabAt w) :
    Calls Tryz.prog 13 #[.pointer p, .int .i64 (lsK true), vs, .slice (some ⟨bp, op, none⟩) cp capp, .slice (some ⟨g, o, none⟩) K cap] w fun e w' => ∃ g', e = .returned (.tuple #[.slice (some ⟨g', 0, none⟩) cp cp, .int .i64 (clv (quo (sumV (fun k => gdX true z m P (xs k) (ts k)) K) (K : Int))), .int .i64 0]) ∧ Ar w' (.slice (some ⟨g', 0, none⟩) cp cp) cp (msX (fun k => gdG true z m P (xs k) (ts k)) K) ∧ w.heap.size ≤ g' ∧ Ux p (c + btC true z m cp P xs ts K) w w' := by
  have HG : Hid (∀ (W : World) (vx vt : Value) (k : Nat) (x t : Nat → Int), Ux p (c + bgC true z m P xs ts k) w W → k ≤ 64 → Ar W vx (z 0) x → Ar W vt (z (m - 1)) t → Nv vx p → Nv vt p → Calls Tryz.prog 20 #[.pointer p, .iface 76 (.agg #[]), vs, .slice (some ⟨bp, op, none⟩) cp capp, .agg #[vx, vt]] W fun e w' => ∃ g, e = .returned (.tuple #[.slice (some ⟨g, 0, none⟩) cp cp, .int .i64 (gdX true z m P x t)]) ∧ Ar w' (.slice (some ⟨g, 0, none⟩) cp cp) cp (gdG true z m P x t) ∧ W.heap.size ≤ g ∧ Ux p (c + bgC true z m P xs ts k + gdC true z m P x t) W w') := fun W vx vt k x t hU hk hx ht nx nt => by
    have r := bgC_rng true z m P xs ts hz k
    exact gradient_sq vs vx vt m bp op cp capp z P x t p _ (by omega) (by omega) W (hS.ux nS hU) (hP.ux (nP.nv _ _ _) hU) hx ht hz hcp nS nP nx nt hU.up (hTab.ux hp hU)
  have CK := check_any7 (lsK true) vs (.slice (some ⟨bp, op, none⟩) cp capp) _ m cp K z P _ _ w hS hP (hE.exl hcap hcap2) hz
  have eC : chE (lsK true) K cp (fsN z (m - 1)) (mfX (z 0) (z (m - 1)) (fun _ => z 0) (fun _ => z (m - 1)) K) = 0 := by
    unfold chE
    rw [if_pos (by unfold lsK; simp), if_neg (by omega), if_pos ⟨hcp, mfX_no (fun k _ => by unfold mfB; simp)⟩]
  rw [eC] at CK
  have hLK : lsK true = 1 := rfl
  rw [hLK] at CK ⊢
  have HEq : Hid (Exq w p g o K (fun _ => z 0) (fun _ => z (m - 1)) xs ts) := hE
  have HUp : Hid (Up p c w) := hp
  have HTb : Hid (TabAt w) := hTab
  have HSz : Hid (Szs z m ∧ cp ≤ 30000) := ⟨hz, by obtain ⟨m2, m6, hz6⟩ := hz; have := fsN_le z m (m - 1) hz6 (by omega); omega⟩
  have hS' := hS
  obtain ⟨ads, cas, bs, os, rfl, -, -, -, -⟩ := hS
  unfold maxLen at hcap2
  clear eC hz hcp nS nP hp hTab hS' hP hE
  go_enter Tryz.func13, Tryz.ntmps13
  go_wp2_with fail
  refine CK.mono ?_
  rintro e w1 ⟨rfl, h1⟩
  have HU1 : Hid (Ux p (c + bgC true z m P xs ts 0) w w1) := by show Ux p (c + 0) w w1; rw [Int.add_zero]; exact HUp.out.ux h1
  have hs1 : w.heap.size ≤ w1.heap.size := h1.size
  clear CK h1
  go_upto_region 4 with fail
  go_cut [14, 15] (fun s14 s15 wc => ∃ a b : Nat, s14 = .slice (some ⟨a, 0, none⟩) K K ∧ s15 = .slice (some ⟨b, 0, none⟩) K K ∧ a ≠ b ∧ w1.heap.size ≤ a ∧ w1.heap.size ≤ b ∧ Hid (Rw a K (fun _ => .slice none 0 0) wc ∧ Rw b K (fun _ => .int .i64 0) wc ∧ Below w1.heap.size w1 wc))
  case first =>
    have mk1 := make_fs K (by omega)
    have mk2 := make_fx K (by omega)
    have HA1 : Hid (Rw w1.heap.size K (fun _ => .slice none 0 0) ((w1.alloc (.cells (madeCells #[.slice none 0 0] K) 23)).alloc (.cells (madeCells #[.int .i64 0] K) 32)).drew ∧ Rw (w1.heap.size + 1) K (fun _ => .int .i64 0) ((w1.alloc (.cells (madeCells #[.slice none 0 0] K) 23)).alloc (.cells (madeCells #[.int .i64 0] K) 32)).drew ∧ Below w1.heap.size w1 ((w1.alloc (.cells (madeCells #[.slice none 0 0] K) 23)).alloc (.cells (madeCells #[.int .i64 0] K) 32)).drew) := ⟨((Rw.made w1 (.slice none 0 0) K 23).later (bel1 _ _)).later (Below.refl _ _).drew, by have h := Rw.made (w1.alloc (.cells (madeCells #[.slice none 0 0] K) 23)) (.int .i64 0) K 32; rw [World.size_alloc] at h; exact h.later (Below.refl _ _).drew, (bel2 _ _ _).drew⟩
    have HA2 : Hid (Rw (w1.heap.size + 1) K (fun _ => .slice none 0 0) ((w1.alloc (.cells (madeCells #[.int .i64 0] K) 32)).alloc (.cells (madeCells #[.slice none 0 0] K) 23)).drew ∧ Rw w1.heap.size K (fun _ => .int .i64 0) ((w1.alloc (.cells (madeCells #[.int .i64 0] K) 32)).alloc (.cells (madeCells #[.slice none 0 0] K) 23)).drew ∧ Below w1.heap.size w1 ((w1.alloc (.cells (madeCells #[.int .i64 0] K) 32)).alloc (.cells (madeCells #[.slice none 0 0] K) 23)).drew) := ⟨by have h := Rw.made (w1.alloc (.cells (madeCells #[.int .i64 0] K) 32)) (.slice none 0 0) K 23; rw [World.size_alloc] at h; exact h.later (Below.refl _ _).drew, ((Rw.made w1 (.int .i64 0) K 32).later (bel1 _ _)).later (Below.refl _ _).drew, (bel2 _ _ _).drew⟩
    go_region_with fail
    all_goals (go_wp2_with fail; go_meet; first | exact ⟨_, _, rfl, rfl, by omega, by omega, by omega, HA1⟩ | exact ⟨_, _, rfl, rfl, by omega, by omega, by omega, HA2⟩)
  case rest =>
    obtain ⟨a, b, rfl, rfl, hab, ha, hb, HR⟩ := hcut
    have Hab : Hid (a ≠ b ∧ w1.heap.size ≤ a ∧ w1.heap.size ≤ b ∧ w.heap.size ≤ w1.heap.size ∧ w1.heap.size ≤ wc.heap.size) := ⟨hab, ha, hb, hs1, HR.out.2.2.size⟩
    clear hab ha hb hs1
    go_upto_region 6 with fail
    go_loopw [37] (fun s37 wr => ∃ (k : Nat) (h : Nat → Value), k ≤ K ∧ s37 = .int .i64 (k : Int) ∧ Hid (Rw a K h wr ∧ (∀ q, q < k → ∃ gq, h q = .slice (some ⟨gq, 0, none⟩) cp cp ∧ Ar wr (h q) cp (gdG true z m P (xs q) (ts q)) ∧ w.heap.size ≤ gq ∧ gq ≠ a ∧ gq ≠ b)) ∧ Hid (Rw b K (fun q => .int .i64 (if q < k then gdX true z m P (xs q) (ts q) else 0)) wr) ∧ Hid (Ux p (c + bgC true z m P xs ts k) w wr ∧ a < wr.heap.size ∧ b < wr.heap.size)) (fun s37 _ => K - (intOf s37).toNat)
    case atStart => exact ⟨0, fun _ => .slice none 0 0, by omega, rfl, ⟨HR.out.1, fun q hq => by omega⟩, HR.out.2.1.congr (fun q _ => by rw [if_neg (by omega)]), ⟨HU1.out.later HR.out.2.2, World.block_lt_of_cell? _ _ (HR.out.1.c 0 (by omega)), World.block_lt_of_cell? _ _ (HR.out.2.1.c 0 (by omega))⟩⟩
    case round =>
      clear HU1 HR
      obtain ⟨k, h, hk, rfl, HA, HBr, HU⟩ := hrel
      by_cases hkt : k < K
      · have hkI : (k : Int) < (K : Int) := by omega
        obtain ⟨vx, vt, e0, e1, ax, at', nx, nt⟩ := (HEq.out.ux HU.out.1).2 k hkt
        obtain ⟨adx, cax, _, _, rfl, -, -, -, -⟩ := id ax
        obtain ⟨adt, cat, _, _, rfl, -, -, -, -⟩ := id at'
        obtain ⟨wq, hwq⟩ : ∃ wq, wq = wr.alloc (.cells #[.slice adx (z 0) cax, .slice adt (z (m - 1)) cat] 36) := ⟨_, rfl⟩
        have hbq : Below wr.heap.size wr wq := by rw [hwq]; exact bel1 _ _
        have HXq : Bx wr.heap.size (.slice adx (z 0) cax) (.slice adt (z (m - 1)) cat) wq := by rw [hwq]; exact Bx.new wr _ _ _
        have hdq : Below wq.heap.size wq wq.drew := (Below.refl _ _).drew
        have hbd : Below wr.heap.size wr wq.drew := bchain hbq hdq
        have CG := HG.out wq.drew _ _ k (xs k) (ts k) (HU.out.1.later hbd) (by omega) (ax.later hbd) (at'.later hbd) nx nt
        have HXd := HXq.later hdq
        have HW : Hid (Below wr.heap.size wr wq.drew ∧ wr.heap.size < wq.drew.heap.size) := ⟨hbd, World.block_lt_of_cell? _ _ HXd.c0⟩
        have y0 := HXd.c0
        have y1 := HXd.c1
        have hkn : k < K := hkt
        clear HXq HXd hbq hdq hbd ax at' nx nt
        generalize z 0 = z0 at *
        generalize z (m - 1) = zl at *
        go_upto_region 8 with fail
        rw [← hwq]
        clear hwq e0 e1
        refine wp_region_held_drew (S := fun W' => W'.cell? ⟨wr.heap.size, 0, none⟩ = some (.slice adx z0 cax) ∧ W'.cell? ⟨wr.heap.size, 1, none⟩ = some (.slice adt zl cat)) (by kernel_rfl) ⟨y0, y1⟩ (fun HS => ?_)
        clear y0 y1
        generalize wq.drew = wd at *
        refine wpAnyH_take (i := 0) (v := ?v1) rfl (by kernel_rfl) (by kernel_rfl) (by kernel_rfl) (fun _ _ _ h => h) (Or.inl ⟨by kernel_rfl, ?h1⟩) HS ?r1
        case h1 => (rintro w ⟨e0, e1⟩; go_simp) <;> with_reducible rfl
        try simp only [Act.put, List.getElem_toArray, List.getElem_cons_succ, List.getElem_cons_zero, List.setIfInBounds_toArray, List.set_cons_zero, List.set_cons_succ]
        refine wpAnyH_take (i := 1) (v := ?v2) rfl (by kernel_rfl) (by kernel_rfl) (by kernel_rfl) (fun _ _ _ h => h) (Or.inl ⟨by kernel_rfl, ?h2⟩) HS ?r2
        case h2 => (rintro w ⟨e0, e1⟩; go_simp) <;> with_reducible rfl
        try simp only [Act.put, List.getElem_toArray, List.getElem_cons_succ, List.getElem_cons_zero, List.setIfInBounds_toArray, List.set_cons_zero, List.set_cons_succ]
        refine wpAnyH_take (i := 2) (v := ?v3) rfl (by kernel_rfl) (by kernel_rfl) (by kernel_rfl) (fun _ _ _ h => h) (Or.inl ⟨by kernel_rfl, ?h3⟩) HS ?r3
        case h3 => (rintro w ⟨e0, e1⟩; go_simp) <;> with_reducible rfl
        try simp only [Act.put, List.getElem_toArray, List.getElem_cons_succ, List.getElem_cons_zero, List.setIfInBounds_toArray, List.set_cons_zero, List.set_cons_succ]
        refine wpAnyH_take (i := 3) (v := ?v4) rfl (by kernel_rfl) (by kernel_rfl) (by kernel_rfl) (fun _ _ _ h => h) (Or.inl ⟨by kernel_rfl, ?h4⟩) HS ?r4
        case h4 => (rintro w ⟨e0, e1⟩; go_simp) <;> with_reducible rfl
        try simp only [Act.put, List.getElem_toArray, List.getElem_cons_succ, List.getElem_cons_zero, List.setIfInBounds_toArray, List.set_cons_zero, List.set_cons_succ]
        refine wpAnyH_take (i := 4) (v := ?v5) rfl (by kernel_rfl) (by kernel_rfl) (by kernel_rfl) (fun _ _ _ h => h) (Or.inl ⟨by kernel_rfl, ?h5⟩) HS ?r5
        case h5 => (rintro w ⟨e0, e1⟩; go_simp) <;> with_reducible rfl
        try simp only [Act.put, List.getElem_toArray, List.getElem_cons_succ, List.getElem_cons_zero, List.setIfInBounds_toArray, List.set_cons_zero, List.set_cons_succ]
        refine wpAnyH_take (i := 5) (v := ?v6) rfl (by kernel_rfl) (by kernel_rfl) (by kernel_rfl) (fun _ _ _ h => h) (Or.inl ⟨by kernel_rfl, ?h6⟩) HS ?r6
        case h6 => (rintro w ⟨e0, e1⟩; go_simp) <;> with_reducible rfl
        try simp only [Act.put, List.getElem_toArray, List.getElem_cons_succ, List.getElem_cons_zero, List.setIfInBounds_toArray, List.set_cons_zero, List.set_cons_succ]
        refine wpAnyH_take (i := 7) (v := ?v7) rfl (by kernel_rfl) (by kernel_rfl) (by kernel_rfl) (fun _ _ _ h => h) (Or.inl ⟨by kernel_rfl, ?h7⟩) HS ?r7
        case h7 => (rintro w ⟨e0, e1⟩; go_simp) <;> with_reducible rfl
        try simp only [Act.put, List.getElem_toArray, List.getElem_cons_succ, List.getElem_cons_zero, List.setIfInBounds_toArray, List.set_cons_zero, List.set_cons_succ]
        refine wpAnyH_take (i := 8) (v := ?v8) rfl (by kernel_rfl) (by kernel_rfl) (by kernel_rfl) (fun _ _ _ h => h) (Or.inl ⟨by kernel_rfl, ?h8⟩) HS ?r8
        case h8 => (rintro w ⟨e0, e1⟩; go_simp) <;> with_reducible rfl
        try simp only [Act.put, List.getElem_toArray, List.getElem_cons_succ, List.getElem_cons_zero, List.setIfInBounds_toArray, List.set_cons_zero, List.set_cons_succ]
        refine wpAnyH_take (i := 9) (v := ?v9) rfl (by kernel_rfl) (by kernel_rfl) (by kernel_rfl) (fun _ _ _ h => h) (Or.inl ⟨by kernel_rfl, ?h9⟩) HS ?r9
        case h9 => (rintro w ⟨e0, e1⟩; go_simp) <;> with_reducible rfl
        try simp only [Act.put, List.getElem_toArray, List.getElem_cons_succ, List.getElem_cons_zero, List.setIfInBounds_toArray, List.set_cons_zero, List.set_cons_succ]
        refine wpAnyH_ready (rs := [6]) (by kernel_rfl) (by simp) ?_
        refine AllReadyH.cons rfl (fun K hK => ?_) AllReadyH.nil
        go_simp
        refine (measureOf_sq _).mono ?_
        rintro e wy ⟨rfl, hz⟩
        refine hK.out _ _ (by rw [hz]; exact HS) (fun HS => ?_)
        clear hK K
        subst hz
        refine wpAnyH_ready (rs := [10]) (by kernel_rfl) (by simp) ?_
        refine AllReadyH.cons rfl (fun K hK => ?_) AllReadyH.nil
        go_simp
        refine CG.mono ?_
        rintro e w5 ⟨g5, rfl, hA5, hg5, h5⟩
        obtain ⟨hab, ha, hb, hs1, hsc⟩ := Hab.out
        have hsr := HU.out.1.size
        have hwl := HW.out.1.size
        have hwl2 := HW.out.2
        have nR : Nu wr.heap.size p := HUp.out.lt hsr
        have nA : Nu a p := HUp.out.lt (by omega)
        have nB : Nu b p := HUp.out.lt (by omega)
        have neA : a ≠ wr.heap.size := Nat.ne_of_lt HU.out.2.1
        have neB : b ≠ wr.heap.size := Nat.ne_of_lt HU.out.2.2
        have gA : g5 ≠ a := by have := HU.out.2.1; omega
        have gB : g5 ≠ b := by have := HU.out.2.2; omega
        refine hK.out _ _ ⟨h5.cell nR HS.1, h5.cell nR HS.2⟩ (fun HS => ?_)
        clear hK K
        have hRa5 : Rw a K h w5 := (HA.out.1.later HW.out.1).ux nA h5
        have hRb5 := (HBr.out.later HW.out.1).ux nB h5
        have HAn : Hid (Rw a K (fun q => if q = k then .slice (some ⟨g5, 0, none⟩) cp cp else h q) ((w5.setCell ⟨a, k, none⟩ (.slice (some ⟨g5, 0, none⟩) cp cp)).setCell ⟨b, k, none⟩ (.int .i64 (gdX true z m P (xs k) (ts k)))) ∧ (∀ q, q < k + 1 → ∃ gq, (if q = k then .slice (some ⟨g5, 0, none⟩) cp cp else h q) = .slice (some ⟨gq, 0, none⟩) cp cp ∧ Ar ((w5.setCell ⟨a, k, none⟩ (.slice (some ⟨g5, 0, none⟩) cp cp)).setCell ⟨b, k, none⟩ (.int .i64 (gdX true z m P (xs k) (ts k)))) (if q = k then .slice (some ⟨g5, 0, none⟩) cp cp else h q) cp (gdG true z m P (xs q) (ts q)) ∧ w.heap.size ≤ gq ∧ gq ≠ a ∧ gq ≠ b)) := ⟨(hRa5.set k _).far _ (fun e => hab e.symm), fun q hq => by
          by_cases e : q = k
          · subst e
            rw [if_pos rfl]
            exact ⟨g5, rfl, (hA5.farq _ (fun e => gA e.symm)).farq _ (fun e => gB e.symm), by omega, gA, gB⟩
          · rw [if_neg e]
            obtain ⟨gq, e1, e2, e3, e4, e5⟩ := HA.out.2 q (by omega)
            rw [e1] at e2 ⊢
            exact ⟨gq, rfl, (((e2.later HW.out.1).ux ((HUp.out.lt e3).nv _ _ _) h5).farq _ (fun e => e4 e.symm)).farq _ (fun e => e5 e.symm), e3, e4, e5⟩⟩
        have HBn : Hid (Rw b K (fun q => .int .i64 (if q < k + 1 then gdX true z m P (xs q) (ts q) else 0)) ((w5.setCell ⟨a, k, none⟩ (.slice (some ⟨g5, 0, none⟩) cp cp)).setCell ⟨b, k, none⟩ (.int .i64 (gdX true z m P (xs k) (ts k))))) := ((hRb5.far _ hab).set k _).congr (fun q _ => by
          show (if q = k then Value.int .i64 (gdX true z m P (xs k) (ts k)) else Value.int .i64 (if q < k then gdX true z m P (xs q) (ts q) else 0)) = Value.int .i64 (if q < k + 1 then gdX true z m P (xs q) (ts q) else 0)
          by_cases e : q = k
          · subst e; rw [if_pos rfl, if_pos (by omega)]
          · rw [if_neg e]
            by_cases e2 : q < k
            · rw [if_pos e2, if_pos (by omega)]
            · rw [if_neg e2, if_neg (by omega)])
        have HUn : Hid (Ux p (c + bgC true z m P xs ts (k + 1)) w ((w5.setCell ⟨a, k, none⟩ (.slice (some ⟨g5, 0, none⟩) cp cp)).setCell ⟨b, k, none⟩ (.int .i64 (gdX true z m P (xs k) (ts k)))) ∧ a < ((w5.setCell ⟨a, k, none⟩ (.slice (some ⟨g5, 0, none⟩) cp cp)).setCell ⟨b, k, none⟩ (.int .i64 (gdX true z m P (xs k) (ts k)))).heap.size ∧ b < ((w5.setCell ⟨a, k, none⟩ (.slice (some ⟨g5, 0, none⟩) cp cp)).setCell ⟨b, k, none⟩ (.int .i64 (gdX true z m P (xs k) (ts k)))).heap.size) := ⟨by
          have e1 : c + bgC true z m P xs ts (k + 1) = c + bgC true z m P xs ts k + gdC true z m P (xs k) (ts k) := by rw [Int.add_assoc]; rfl
          rw [e1]
          exact ((((HU.out.1.later HW.out.1).chain h5).far _ (by show w.heap.size ≤ a; omega)).far _ (by show w.heap.size ≤ b; omega)), World.block_lt_of_cell? _ _ (HAn.out.1.c k hkn), World.block_lt_of_cell? _ _ (HBn.out.c k hkn)⟩
        have cA := hRa5.c k hkn
        have fA := hRa5.f k hkn
        have cB := hRb5.c k hkn
        have fB := hRb5.f k hkn
        clear CG hA5 h5 hRa5 hRb5 HA HBr HU HW hsr hwl hwl2 nR nA nB gA gB hg5 ha hb hs1 hsc
        generalize gdX true z m P (xs k) (ts k) = dx at *
        refine wpAnyH_take (i := 11) (v := ?v10) rfl (by kernel_rfl) (by kernel_rfl) (by kernel_rfl) (fun _ _ _ h => h) (Or.inl ⟨by kernel_rfl, ?h10⟩) HS ?r10
        case h10 => (rintro w ⟨e0, e1⟩; go_simp) <;> with_reducible rfl
        try simp only [Act.put, List.getElem_toArray, List.getElem_cons_succ, List.getElem_cons_zero, List.setIfInBounds_toArray, List.set_cons_zero, List.set_cons_succ]
        refine wpAnyH_take (i := 12) (v := ?v11) rfl (by kernel_rfl) (by kernel_rfl) (by kernel_rfl) (fun _ _ _ h => h) (Or.inl ⟨by kernel_rfl, ?h11⟩) HS ?r11
        case h11 => (rintro w ⟨e0, e1⟩; go_simp) <;> with_reducible rfl
        try simp only [Act.put, List.getElem_toArray, List.getElem_cons_succ, List.getElem_cons_zero, List.setIfInBounds_toArray, List.set_cons_zero, List.set_cons_succ]
        refine wpAnyH_take (i := 13) (v := ?v12) rfl (by kernel_rfl) (by kernel_rfl) (by kernel_rfl) (fun _ _ _ h => h) (Or.inl ⟨by kernel_rfl, ?h12⟩) HS ?r12
        case h12 => (rintro w ⟨e0, e1⟩; go_simp) <;> with_reducible rfl
        try simp only [Act.put, List.getElem_toArray, List.getElem_cons_succ, List.getElem_cons_zero, List.setIfInBounds_toArray, List.set_cons_zero, List.set_cons_succ]
        refine wpAnyH_take (i := 14) (v := ?v13) rfl (by kernel_rfl) (by kernel_rfl) (by kernel_rfl) (fun _ _ _ h => h) (Or.inl ⟨by kernel_rfl, ?h13⟩) HS ?r13
        case h13 => (rintro w ⟨e0, e1⟩; go_simp) <;> with_reducible rfl
        try simp only [Act.put, List.getElem_toArray, List.getElem_cons_succ, List.getElem_cons_zero, List.setIfInBounds_toArray, List.set_cons_zero, List.set_cons_succ]
        refine wpAnyH_ready (rs := [15]) (by kernel_rfl) (by simp) ?_
        refine AllReadyH.cons rfl (fun K hK => ?_) AllReadyH.nil
        go_simp
        refine hK.out _ _ ⟨cell_set neA HS.1, cell_set neA HS.2⟩ (fun HS => ?_)
        clear hK K
        refine wpAnyH_take (i := 16) (v := ?v14) rfl (by kernel_rfl) (by kernel_rfl) (by kernel_rfl) (fun _ _ _ h => h) (Or.inl ⟨by kernel_rfl, ?h14⟩) HS ?r14
        case h14 => (rintro w ⟨e0, e1⟩; go_simp) <;> with_reducible rfl
        try simp only [Act.put, List.getElem_toArray, List.getElem_cons_succ, List.getElem_cons_zero, List.setIfInBounds_toArray, List.set_cons_zero, List.set_cons_succ]
        refine wpAnyH_ready (rs := [17]) (by kernel_rfl) (by simp) ?_
        refine AllReadyH.cons rfl (fun K hK => ?_) AllReadyH.nil
        go_simp
        refine hK.out _ _ ⟨cell_set neB HS.1, cell_set neB HS.2⟩ (fun HS => ?_)
        clear hK K
        refine wpAnyH_done (by kernel_rfl) ?_ _
        clear HS cA fA cB fB
        go_wp2
        go_roundw
        case rel => exact ⟨k + 1, _, by omega, by go_num, HAn, HBn, HUn⟩
        case measure => simp [intOf]; omega
      · obtain rfl : k = K := by omega
        have hkI : ¬ (k : Int) < (k : Int) := by omega
        have r := bgC_rng true z m P xs ts HSz.out.1 k
        have hVs : Vs wr a 0 k cp (fun q => gdG true z m P (xs q) (ts q)) := ⟨fun q hq => by
          obtain ⟨gq, e1, e2, -, -, -⟩ := HA.out.2 q hq
          have e3 := HA.out.1.c q hq
          rw [e1] at e2 e3
          exact ⟨_, _, by rw [Nat.zero_add]; exact e3, e2⟩⟩
        have hUr := HU.out.1
        have CM := Means_ux a 0 k k cp (fun q => gdG true z m P (xs q) (ts q)) hK hK2 (by have := HSz.out.2; omega) (Nat.le_refl _) (by unfold maxLen; omega) p (c + bgC true z m P xs ts k) (by omega) (by omega) wr hVs hUr.up
        have HCN : Hid (∀ (W : World) (c' : Int), Ux p c' wr W → 0 ≤ c' → c' ≤ 800000000 → Calls Tryz.prog 23 #[.pointer p, .slice (some ⟨b, 0, none⟩) k k] W fun e w' => e = .returned (.tuple #[.int .i64 (clv (quo (sumV (fun q => gdX true z m P (xs q) (ts q)) k) (k : Int))), .int .i64 0]) ∧ Ux p (c' + bi (ovv (quo (sumV (fun q => gdX true z m P (xs q) (ts q)) k) (k : Int)))) W w') := fun W c' h h0 h1 =>
          mean_ux _ k _ (by omega) hK p c' h0 h1 W ((HTb.out.ux HUp.out hUr).ux hUr.up h) (((Rw.ar (F := fun q => gdX true z m P (xs q) (ts q)) (HBr.out.congr (fun q hq => by rw [if_pos hq])) (by omega) (fun q _ => gdX_fit true z m P (xs q) (ts q))).ux ((HUp.out.lt (by have := Hab.out; omega)).nv _ _ _) h)) ((HUp.out.lt (by have := Hab.out; omega)).nv _ _ _) h.up
        have HUr : Hid (Ux p (c + bgC true z m P xs ts k) w wr) := hUr
        have rc := cnt_rng (msO (fun q => gdG true z m P (xs q) (ts q)) k) cp
        have Hr : Hid ((0 ≤ bgC true z m P xs ts k ∧ bgC true z m P xs ts k ≤ 30000 * (k : Int)) ∧ (0 ≤ cntV (msO (fun q => gdG true z m P (xs q) (ts q)) k) cp ∧ cntV (msO (fun q => gdG true z m P (xs q) (ts q)) k) cp ≤ (cp : Int)) ∧ cp ≤ 30000) := ⟨r, rc, HSz.out.2⟩
        clear hVs hUr HA HBr HU HG HEq r rc
        go_wp2_with fail
        refine CM.mono ?_
        rintro e w8 ⟨g8, rfl, hX8, hg8, h8⟩
        have CN := HCN.out w8 _ h8 (by have := Hr.out; omega) (by have := Hr.out; omega)
        have HX8 : Hid (Ar w8 (.slice (some ⟨g8, 0, none⟩) cp cp) cp (msX (fun q => gdG true z m P (xs q) (ts q)) k) ∧ wr.heap.size ≤ g8 ∧ Ux p (c + bgC true z m P xs ts k + cntV (msO (fun q => gdG true z m P (xs q) (ts q)) k) cp) wr w8) := ⟨hX8, hg8, h8⟩
        clear CM hX8 hg8 h8 HCN
        go_wp2_with fail
        refine CN.mono ?_
        rintro e w9 ⟨rfl, h9⟩
        have HQ : Hid (Ar w9 (.slice (some ⟨g8, 0, none⟩) cp cp) cp (msX (fun q => gdG true z m P (xs q) (ts q)) k) ∧ w.heap.size ≤ g8 ∧ Ux p (c + btC true z m cp P xs ts k) w w9) := by
          obtain ⟨q1, q2, q3⟩ := HX8.out
          have hsr := HUr.out.size
          refine ⟨q1.ux ((HUp.out.lt (by omega)).nv _ _ _) h9, by omega, ?_⟩
          have e1 : c + btC true z m cp P xs ts k = c + bgC true z m P xs ts k + cntV (msO (fun q => gdG true z m P (xs q) (ts q)) k) cp + bi (ovv (quo (sumV (fun q => gdX true z m P (xs q) (ts q)) k) (k : Int))) := by unfold btC; omega
          rw [e1]
          exact (HUr.out.chain q3).chain h9
        clear CN h9 HX8 HUr Hr
        go_wp2
        go_ret3
        exact ⟨g8, rfl, HQ.out.1, HQ.out.2.1, HQ.out.2.2⟩
set_option maxRecDepth 100000 in
set_option maxHeartbeats 16000000 in
theorem pBatch_hg (vs : Value) (m bp op cp capp g o K cap : Nat) (z : Nat → Nat) (P : Nat → Int) (xs ts : Nat → Nat → Int) (p : Option Addr) (c : Int) (c0 : 0 ≤ c) (c1 : c ≤ 100000000) (hK : 1 ≤ K) (hK2 : K ≤ 64) (hcap : K ≤ cap) (hcap2 : cap ≤ maxLen) (w : World) (hS : Ar w vs m (fun i => ((z i : Nat) : Int))) (hP : Ar w (.slice (some ⟨bp, op, none⟩) cp capp) cp P) (hE : Exq w p g o K (fun _ => z 0) (fun _ => z (m - 1)) xs ts) (hz : Szs z m) (hcp : cp = fsN z (m - 1)) (nS : Nv vs p) (nP : Nu bp p) (hp : Up p c w) (hTab : TabAt w) :
    Calls Tryz.prog 13 #[.pointer p, .int .i64 (lsK false), vs, .slice (some ⟨bp, op, none⟩) cp capp, .slice (some ⟨g, o, none⟩) K cap] w fun e w' => ∃ g', e = .returned (.tuple #[.slice (some ⟨g', 0, none⟩) cp cp, .int .i64 (clv (quo (sumV (fun k => gdX false z m P (xs k) (ts k)) K) (K : Int))), .int .i64 0]) ∧ Ar w' (.slice (some ⟨g', 0, none⟩) cp cp) cp (msX (fun k => gdG false z m P (xs k) (ts k)) K) ∧ w.heap.size ≤ g' ∧ Ux p (c + btC false z m cp P xs ts K) w w' := by
  have HG : Hid (∀ (W : World) (vx vt : Value) (k : Nat) (x t : Nat → Int), Ux p (c + bgC false z m P xs ts k) w W → k ≤ 64 → Ar W vx (z 0) x → Ar W vt (z (m - 1)) t → Nv vx p → Nv vt p → Calls Tryz.prog 20 #[.pointer p, .iface 77 (.agg #[]), vs, .slice (some ⟨bp, op, none⟩) cp capp, .agg #[vx, vt]] W fun e w' => ∃ g, e = .returned (.tuple #[.slice (some ⟨g, 0, none⟩) cp cp, .int .i64 (gdX false z m P x t)]) ∧ Ar w' (.slice (some ⟨g, 0, none⟩) cp cp) cp (gdG false z m P x t) ∧ W.heap.size ≤ g ∧ Ux p (c + bgC false z m P xs ts k + gdC false z m P x t) W w') := fun W vx vt k x t hU hk hx ht nx nt => by
    have r := bgC_rng false z m P xs ts hz k
    exact gradient_hg vs vx vt m bp op cp capp z P x t p _ (by omega) (by omega) W (hS.ux nS hU) (hP.ux (nP.nv _ _ _) hU) hx ht hz hcp nS nP nx nt hU.up (hTab.ux hp hU)
  have CK := check_any7 (lsK false) vs (.slice (some ⟨bp, op, none⟩) cp capp) _ m cp K z P _ _ w hS hP (hE.exl hcap hcap2) hz
  have eC : chE (lsK false) K cp (fsN z (m - 1)) (mfX (z 0) (z (m - 1)) (fun _ => z 0) (fun _ => z (m - 1)) K) = 0 := by
    unfold chE
    rw [if_pos (by unfold lsK; simp), if_neg (by omega), if_pos ⟨hcp, mfX_no (fun k _ => by unfold mfB; simp)⟩]
  rw [eC] at CK
  have hLK : lsK false = 2 := rfl
  rw [hLK] at CK ⊢
  have HEq : Hid (Exq w p g o K (fun _ => z 0) (fun _ => z (m - 1)) xs ts) := hE
  have HUp : Hid (Up p c w) := hp
  have HTb : Hid (TabAt w) := hTab
  have HSz : Hid (Szs z m ∧ cp ≤ 30000) := ⟨hz, by obtain ⟨m2, m6, hz6⟩ := hz; have := fsN_le z m (m - 1) hz6 (by omega); omega⟩
  have hS' := hS
  obtain ⟨ads, cas, bs, os, rfl, -, -, -, -⟩ := hS
  unfold maxLen at hcap2
  clear eC hz hcp nS nP hp hTab hS' hP hE
  go_enter Tryz.func13, Tryz.ntmps13
  go_wp2_with fail
  refine CK.mono ?_
  rintro e w1 ⟨rfl, h1⟩
  have HU1 : Hid (Ux p (c + bgC false z m P xs ts 0) w w1) := by show Ux p (c + 0) w w1; rw [Int.add_zero]; exact HUp.out.ux h1
  have hs1 : w.heap.size ≤ w1.heap.size := h1.size
  clear CK h1
  go_upto_region 4 with fail
  go_cut [14, 15] (fun s14 s15 wc => ∃ a b : Nat, s14 = .slice (some ⟨a, 0, none⟩) K K ∧ s15 = .slice (some ⟨b, 0, none⟩) K K ∧ a ≠ b ∧ w1.heap.size ≤ a ∧ w1.heap.size ≤ b ∧ Hid (Rw a K (fun _ => .slice none 0 0) wc ∧ Rw b K (fun _ => .int .i64 0) wc ∧ Below w1.heap.size w1 wc))
  case first =>
    have mk1 := make_fs K (by omega)
    have mk2 := make_fx K (by omega)
    have HA1 : Hid (Rw w1.heap.size K (fun _ => .slice none 0 0) ((w1.alloc (.cells (madeCells #[.slice none 0 0] K) 23)).alloc (.cells (madeCells #[.int .i64 0] K) 32)).drew ∧ Rw (w1.heap.size + 1) K (fun _ => .int .i64 0) ((w1.alloc (.cells (madeCells #[.slice none 0 0] K) 23)).alloc (.cells (madeCells #[.int .i64 0] K) 32)).drew ∧ Below w1.heap.size w1 ((w1.alloc (.cells (madeCells #[.slice none 0 0] K) 23)).alloc (.cells (madeCells #[.int .i64 0] K) 32)).drew) := ⟨((Rw.made w1 (.slice none 0 0) K 23).later (bel1 _ _)).later (Below.refl _ _).drew, by have h := Rw.made (w1.alloc (.cells (madeCells #[.slice none 0 0] K) 23)) (.int .i64 0) K 32; rw [World.size_alloc] at h; exact h.later (Below.refl _ _).drew, (bel2 _ _ _).drew⟩
    have HA2 : Hid (Rw (w1.heap.size + 1) K (fun _ => .slice none 0 0) ((w1.alloc (.cells (madeCells #[.int .i64 0] K) 32)).alloc (.cells (madeCells #[.slice none 0 0] K) 23)).drew ∧ Rw w1.heap.size K (fun _ => .int .i64 0) ((w1.alloc (.cells (madeCells #[.int .i64 0] K) 32)).alloc (.cells (madeCells #[.slice none 0 0] K) 23)).drew ∧ Below w1.heap.size w1 ((w1.alloc (.cells (madeCells #[.int .i64 0] K) 32)).alloc (.cells (madeCells #[.slice none 0 0] K) 23)).drew) := ⟨by have h := Rw.made (w1.alloc (.cells (madeCells #[.int .i64 0] K) 32)) (.slice none 0 0) K 23; rw [World.size_alloc] at h; exact h.later (Below.refl _ _).drew, ((Rw.made w1 (.int .i64 0) K 32).later (bel1 _ _)).later (Below.refl _ _).drew, (bel2 _ _ _).drew⟩
    go_region_with fail
    all_goals (go_wp2_with fail; go_meet; first | exact ⟨_, _, rfl, rfl, by omega, by omega, by omega, HA1⟩ | exact ⟨_, _, rfl, rfl, by omega, by omega, by omega, HA2⟩)
  case rest =>
    obtain ⟨a, b, rfl, rfl, hab, ha, hb, HR⟩ := hcut
    have Hab : Hid (a ≠ b ∧ w1.heap.size ≤ a ∧ w1.heap.size ≤ b ∧ w.heap.size ≤ w1.heap.size ∧ w1.heap.size ≤ wc.heap.size) := ⟨hab, ha, hb, hs1, HR.out.2.2.size⟩
    clear hab ha hb hs1
    go_upto_region 6 with fail
    go_loopw [37] (fun s37 wr => ∃ (k : Nat) (h : Nat → Value), k ≤ K ∧ s37 = .int .i64 (k : Int) ∧ Hid (Rw a K h wr ∧ (∀ q, q < k → ∃ gq, h q = .slice (some ⟨gq, 0, none⟩) cp cp ∧ Ar wr (h q) cp (gdG false z m P (xs q) (ts q)) ∧ w.heap.size ≤ gq ∧ gq ≠ a ∧ gq ≠ b)) ∧ Hid (Rw b K (fun q => .int .i64 (if q < k then gdX false z m P (xs q) (ts q) else 0)) wr) ∧ Hid (Ux p (c + bgC false z m P xs ts k) w wr ∧ a < wr.heap.size ∧ b < wr.heap.size)) (fun s37 _ => K - (intOf s37).toNat)
    case atStart => exact ⟨0, fun _ => .slice none 0 0, by omega, rfl, ⟨HR.out.1, fun q hq => by omega⟩, HR.out.2.1.congr (fun q _ => by rw [if_neg (by omega)]), ⟨HU1.out.later HR.out.2.2, World.block_lt_of_cell? _ _ (HR.out.1.c 0 (by omega)), World.block_lt_of_cell? _ _ (HR.out.2.1.c 0 (by omega))⟩⟩
    case round =>
      clear HU1 HR
      obtain ⟨k, h, hk, rfl, HA, HBr, HU⟩ := hrel
      by_cases hkt : k < K
      · have hkI : (k : Int) < (K : Int) := by omega
        obtain ⟨vx, vt, e0, e1, ax, at', nx, nt⟩ := (HEq.out.ux HU.out.1).2 k hkt
        obtain ⟨adx, cax, _, _, rfl, -, -, -, -⟩ := id ax
        obtain ⟨adt, cat, _, _, rfl, -, -, -, -⟩ := id at'
        obtain ⟨wq, hwq⟩ : ∃ wq, wq = wr.alloc (.cells #[.slice adx (z 0) cax, .slice adt (z (m - 1)) cat] 36) := ⟨_, rfl⟩
        have hbq : Below wr.heap.size wr wq := by rw [hwq]; exact bel1 _ _
        have HXq : Bx wr.heap.size (.slice adx (z 0) cax) (.slice adt (z (m - 1)) cat) wq := by rw [hwq]; exact Bx.new wr _ _ _
        have hdq : Below wq.heap.size wq wq.drew := (Below.refl _ _).drew
        have hbd : Below wr.heap.size wr wq.drew := bchain hbq hdq
        have CG := HG.out wq.drew _ _ k (xs k) (ts k) (HU.out.1.later hbd) (by omega) (ax.later hbd) (at'.later hbd) nx nt
        have HXd := HXq.later hdq
        have HW : Hid (Below wr.heap.size wr wq.drew ∧ wr.heap.size < wq.drew.heap.size) := ⟨hbd, World.block_lt_of_cell? _ _ HXd.c0⟩
        have y0 := HXd.c0
        have y1 := HXd.c1
        have hkn : k < K := hkt
        clear HXq HXd hbq hdq hbd ax at' nx nt
        generalize z 0 = z0 at *
        generalize z (m - 1) = zl at *
        go_upto_region 8 with fail
        rw [← hwq]
        clear hwq e0 e1
        refine wp_region_held_drew (S := fun W' => W'.cell? ⟨wr.heap.size, 0, none⟩ = some (.slice adx z0 cax) ∧ W'.cell? ⟨wr.heap.size, 1, none⟩ = some (.slice adt zl cat)) (by kernel_rfl) ⟨y0, y1⟩ (fun HS => ?_)
        clear y0 y1
        generalize wq.drew = wd at *
        refine wpAnyH_take (i := 0) (v := ?v15) rfl (by kernel_rfl) (by kernel_rfl) (by kernel_rfl) (fun _ _ _ h => h) (Or.inl ⟨by kernel_rfl, ?h15⟩) HS ?r15
        case h15 => (rintro w ⟨e0, e1⟩; go_simp) <;> with_reducible rfl
        try simp only [Act.put, List.getElem_toArray, List.getElem_cons_succ, List.getElem_cons_zero, List.setIfInBounds_toArray, List.set_cons_zero, List.set_cons_succ]
        refine wpAnyH_take (i := 1) (v := ?v16) rfl (by kernel_rfl) (by kernel_rfl) (by kernel_rfl) (fun _ _ _ h => h) (Or.inl ⟨by kernel_rfl, ?h16⟩) HS ?r16
        case h16 => (rintro w ⟨e0, e1⟩; go_simp) <;> with_reducible rfl
        try simp only [Act.put, List.getElem_toArray, List.getElem_cons_succ, List.getElem_cons_zero, List.setIfInBounds_toArray, List.set_cons_zero, List.set_cons_succ]
        refine wpAnyH_take (i := 2) (v := ?v17) rfl (by kernel_rfl) (by kernel_rfl) (by kernel_rfl) (fun _ _ _ h => h) (Or.inl ⟨by kernel_rfl, ?h17⟩) HS ?r17
        case h17 => (rintro w ⟨e0, e1⟩; go_simp) <;> with_reducible rfl
        try simp only [Act.put, List.getElem_toArray, List.getElem_cons_succ, List.getElem_cons_zero, List.setIfInBounds_toArray, List.set_cons_zero, List.set_cons_succ]
        refine wpAnyH_take (i := 3) (v := ?v18) rfl (by kernel_rfl) (by kernel_rfl) (by kernel_rfl) (fun _ _ _ h => h) (Or.inl ⟨by kernel_rfl, ?h18⟩) HS ?r18
        case h18 => (rintro w ⟨e0, e1⟩; go_simp) <;> with_reducible rfl
        try simp only [Act.put, List.getElem_toArray, List.getElem_cons_succ, List.getElem_cons_zero, List.setIfInBounds_toArray, List.set_cons_zero, List.set_cons_succ]
        refine wpAnyH_take (i := 4) (v := ?v19) rfl (by kernel_rfl) (by kernel_rfl) (by kernel_rfl) (fun _ _ _ h => h) (Or.inl ⟨by kernel_rfl, ?h19⟩) HS ?r19
        case h19 => (rintro w ⟨e0, e1⟩; go_simp) <;> with_reducible rfl
        try simp only [Act.put, List.getElem_toArray, List.getElem_cons_succ, List.getElem_cons_zero, List.setIfInBounds_toArray, List.set_cons_zero, List.set_cons_succ]
        refine wpAnyH_take (i := 5) (v := ?v20) rfl (by kernel_rfl) (by kernel_rfl) (by kernel_rfl) (fun _ _ _ h => h) (Or.inl ⟨by kernel_rfl, ?h20⟩) HS ?r20
        case h20 => (rintro w ⟨e0, e1⟩; go_simp) <;> with_reducible rfl
        try simp only [Act.put, List.getElem_toArray, List.getElem_cons_succ, List.getElem_cons_zero, List.setIfInBounds_toArray, List.set_cons_zero, List.set_cons_succ]
        refine wpAnyH_take (i := 7) (v := ?v21) rfl (by kernel_rfl) (by kernel_rfl) (by kernel_rfl) (fun _ _ _ h => h) (Or.inl ⟨by kernel_rfl, ?h21⟩) HS ?r21
        case h21 => (rintro w ⟨e0, e1⟩; go_simp) <;> with_reducible rfl
        try simp only [Act.put, List.getElem_toArray, List.getElem_cons_succ, List.getElem_cons_zero, List.setIfInBounds_toArray, List.set_cons_zero, List.set_cons_succ]
        refine wpAnyH_take (i := 8) (v := ?v22) rfl (by kernel_rfl) (by kernel_rfl) (by kernel_rfl) (fun _ _ _ h => h) (Or.inl ⟨by kernel_rfl, ?h22⟩) HS ?r22
        case h22 => (rintro w ⟨e0, e1⟩; go_simp) <;> with_reducible rfl
        try simp only [Act.put, List.getElem_toArray, List.getElem_cons_succ, List.getElem_cons_zero, List.setIfInBounds_toArray, List.set_cons_zero, List.set_cons_succ]
        refine wpAnyH_take (i := 9) (v := ?v23) rfl (by kernel_rfl) (by kernel_rfl) (by kernel_rfl) (fun _ _ _ h => h) (Or.inl ⟨by kernel_rfl, ?h23⟩) HS ?r23
        case h23 => (rintro w ⟨e0, e1⟩; go_simp) <;> with_reducible rfl
        try simp only [Act.put, List.getElem_toArray, List.getElem_cons_succ, List.getElem_cons_zero, List.setIfInBounds_toArray, List.set_cons_zero, List.set_cons_succ]
        refine wpAnyH_ready (rs := [6]) (by kernel_rfl) (by simp) ?_
        refine AllReadyH.cons rfl (fun K hK => ?_) AllReadyH.nil
        go_simp
        refine (measureOf_hg _).mono ?_
        rintro e wy ⟨rfl, hz⟩
        refine hK.out _ _ (by rw [hz]; exact HS) (fun HS => ?_)
        clear hK K
        subst hz
        refine wpAnyH_ready (rs := [10]) (by kernel_rfl) (by simp) ?_
        refine AllReadyH.cons rfl (fun K hK => ?_) AllReadyH.nil
        go_simp
        refine CG.mono ?_
        rintro e w5 ⟨g5, rfl, hA5, hg5, h5⟩
        obtain ⟨hab, ha, hb, hs1, hsc⟩ := Hab.out
        have hsr := HU.out.1.size
        have hwl := HW.out.1.size
        have hwl2 := HW.out.2
        have nR : Nu wr.heap.size p := HUp.out.lt hsr
        have nA : Nu a p := HUp.out.lt (by omega)
        have nB : Nu b p := HUp.out.lt (by omega)
        have neA : a ≠ wr.heap.size := Nat.ne_of_lt HU.out.2.1
        have neB : b ≠ wr.heap.size := Nat.ne_of_lt HU.out.2.2
        have gA : g5 ≠ a := by have := HU.out.2.1; omega
        have gB : g5 ≠ b := by have := HU.out.2.2; omega
        refine hK.out _ _ ⟨h5.cell nR HS.1, h5.cell nR HS.2⟩ (fun HS => ?_)
        clear hK K
        have hRa5 : Rw a K h w5 := (HA.out.1.later HW.out.1).ux nA h5
        have hRb5 := (HBr.out.later HW.out.1).ux nB h5
        have HAn : Hid (Rw a K (fun q => if q = k then .slice (some ⟨g5, 0, none⟩) cp cp else h q) ((w5.setCell ⟨a, k, none⟩ (.slice (some ⟨g5, 0, none⟩) cp cp)).setCell ⟨b, k, none⟩ (.int .i64 (gdX false z m P (xs k) (ts k)))) ∧ (∀ q, q < k + 1 → ∃ gq, (if q = k then .slice (some ⟨g5, 0, none⟩) cp cp else h q) = .slice (some ⟨gq, 0, none⟩) cp cp ∧ Ar ((w5.setCell ⟨a, k, none⟩ (.slice (some ⟨g5, 0, none⟩) cp cp)).setCell ⟨b, k, none⟩ (.int .i64 (gdX false z m P (xs k) (ts k)))) (if q = k then .slice (some ⟨g5, 0, none⟩) cp cp else h q) cp (gdG false z m P (xs q) (ts q)) ∧ w.heap.size ≤ gq ∧ gq ≠ a ∧ gq ≠ b)) := ⟨(hRa5.set k _).far _ (fun e => hab e.symm), fun q hq => by
          by_cases e : q = k
          · subst e
            rw [if_pos rfl]
            exact ⟨g5, rfl, (hA5.farq _ (fun e => gA e.symm)).farq _ (fun e => gB e.symm), by omega, gA, gB⟩
          · rw [if_neg e]
            obtain ⟨gq, e1, e2, e3, e4, e5⟩ := HA.out.2 q (by omega)
            rw [e1] at e2 ⊢
            exact ⟨gq, rfl, (((e2.later HW.out.1).ux ((HUp.out.lt e3).nv _ _ _) h5).farq _ (fun e => e4 e.symm)).farq _ (fun e => e5 e.symm), e3, e4, e5⟩⟩
        have HBn : Hid (Rw b K (fun q => .int .i64 (if q < k + 1 then gdX false z m P (xs q) (ts q) else 0)) ((w5.setCell ⟨a, k, none⟩ (.slice (some ⟨g5, 0, none⟩) cp cp)).setCell ⟨b, k, none⟩ (.int .i64 (gdX false z m P (xs k) (ts k))))) := ((hRb5.far _ hab).set k _).congr (fun q _ => by
          show (if q = k then Value.int .i64 (gdX false z m P (xs k) (ts k)) else Value.int .i64 (if q < k then gdX false z m P (xs q) (ts q) else 0)) = Value.int .i64 (if q < k + 1 then gdX false z m P (xs q) (ts q) else 0)
          by_cases e : q = k
          · subst e; rw [if_pos rfl, if_pos (by omega)]
          · rw [if_neg e]
            by_cases e2 : q < k
            · rw [if_pos e2, if_pos (by omega)]
            · rw [if_neg e2, if_neg (by omega)])
        have HUn : Hid (Ux p (c + bgC false z m P xs ts (k + 1)) w ((w5.setCell ⟨a, k, none⟩ (.slice (some ⟨g5, 0, none⟩) cp cp)).setCell ⟨b, k, none⟩ (.int .i64 (gdX false z m P (xs k) (ts k)))) ∧ a < ((w5.setCell ⟨a, k, none⟩ (.slice (some ⟨g5, 0, none⟩) cp cp)).setCell ⟨b, k, none⟩ (.int .i64 (gdX false z m P (xs k) (ts k)))).heap.size ∧ b < ((w5.setCell ⟨a, k, none⟩ (.slice (some ⟨g5, 0, none⟩) cp cp)).setCell ⟨b, k, none⟩ (.int .i64 (gdX false z m P (xs k) (ts k)))).heap.size) := ⟨by
          have e1 : c + bgC false z m P xs ts (k + 1) = c + bgC false z m P xs ts k + gdC false z m P (xs k) (ts k) := by rw [Int.add_assoc]; rfl
          rw [e1]
          exact ((((HU.out.1.later HW.out.1).chain h5).far _ (by show w.heap.size ≤ a; omega)).far _ (by show w.heap.size ≤ b; omega)), World.block_lt_of_cell? _ _ (HAn.out.1.c k hkn), World.block_lt_of_cell? _ _ (HBn.out.c k hkn)⟩
        have cA := hRa5.c k hkn
        have fA := hRa5.f k hkn
        have cB := hRb5.c k hkn
        have fB := hRb5.f k hkn
        clear CG hA5 h5 hRa5 hRb5 HA HBr HU HW hsr hwl hwl2 nR nA nB gA gB hg5 ha hb hs1 hsc
        generalize gdX false z m P (xs k) (ts k) = dx at *
        refine wpAnyH_take (i := 11) (v := ?v24) rfl (by kernel_rfl) (by kernel_rfl) (by kernel_rfl) (fun _ _ _ h => h) (Or.inl ⟨by kernel_rfl, ?h24⟩) HS ?r24
        case h24 => (rintro w ⟨e0, e1⟩; go_simp) <;> with_reducible rfl
        try simp only [Act.put, List.getElem_toArray, List.getElem_cons_succ, List.getElem_cons_zero, List.setIfInBounds_toArray, List.set_cons_zero, List.set_cons_succ]
        refine wpAnyH_take (i := 12) (v := ?v25) rfl (by kernel_rfl) (by kernel_rfl) (by kernel_rfl) (fun _ _ _ h => h) (Or.inl ⟨by kernel_rfl, ?h25⟩) HS ?r25
        case h25 => (rintro w ⟨e0, e1⟩; go_simp) <;> with_reducible rfl
        try simp only [Act.put, List.getElem_toArray, List.getElem_cons_succ, List.getElem_cons_zero, List.setIfInBounds_toArray, List.set_cons_zero, List.set_cons_succ]
        refine wpAnyH_take (i := 13) (v := ?v26) rfl (by kernel_rfl) (by kernel_rfl) (by kernel_rfl) (fun _ _ _ h => h) (Or.inl ⟨by kernel_rfl, ?h26⟩) HS ?r26
        case h26 => (rintro w ⟨e0, e1⟩; go_simp) <;> with_reducible rfl
        try simp only [Act.put, List.getElem_toArray, List.getElem_cons_succ, List.getElem_cons_zero, List.setIfInBounds_toArray, List.set_cons_zero, List.set_cons_succ]
        refine wpAnyH_take (i := 14) (v := ?v27) rfl (by kernel_rfl) (by kernel_rfl) (by kernel_rfl) (fun _ _ _ h => h) (Or.inl ⟨by kernel_rfl, ?h27⟩) HS ?r27
        case h27 => (rintro w ⟨e0, e1⟩; go_simp) <;> with_reducible rfl
        try simp only [Act.put, List.getElem_toArray, List.getElem_cons_succ, List.getElem_cons_zero, List.setIfInBounds_toArray, List.set_cons_zero, List.set_cons_succ]
        refine wpAnyH_ready (rs := [15]) (by kernel_rfl) (by simp) ?_
        refine AllReadyH.cons rfl (fun K hK => ?_) AllReadyH.nil
        go_simp
        refine hK.out _ _ ⟨cell_set neA HS.1, cell_set neA HS.2⟩ (fun HS => ?_)
        clear hK K
        refine wpAnyH_take (i := 16) (v := ?v28) rfl (by kernel_rfl) (by kernel_rfl) (by kernel_rfl) (fun _ _ _ h => h) (Or.inl ⟨by kernel_rfl, ?h28⟩) HS ?r28
        case h28 => (rintro w ⟨e0, e1⟩; go_simp) <;> with_reducible rfl
        try simp only [Act.put, List.getElem_toArray, List.getElem_cons_succ, List.getElem_cons_zero, List.setIfInBounds_toArray, List.set_cons_zero, List.set_cons_succ]
        refine wpAnyH_ready (rs := [17]) (by kernel_rfl) (by simp) ?_
        refine AllReadyH.cons rfl (fun K hK => ?_) AllReadyH.nil
        go_simp
        refine hK.out _ _ ⟨cell_set neB HS.1, cell_set neB HS.2⟩ (fun HS => ?_)
        clear hK K
        refine wpAnyH_done (by kernel_rfl) ?_ _
        clear HS cA fA cB fB
        go_wp2
        go_roundw
        case rel => exact ⟨k + 1, _, by omega, by go_num, HAn, HBn, HUn⟩
        case measure => simp [intOf]; omega
      · obtain rfl : k = K := by omega
        have hkI : ¬ (k : Int) < (k : Int) := by omega
        have r := bgC_rng false z m P xs ts HSz.out.1 k
        have hVs : Vs wr a 0 k cp (fun q => gdG false z m P (xs q) (ts q)) := ⟨fun q hq => by
          obtain ⟨gq, e1, e2, -, -, -⟩ := HA.out.2 q hq
          have e3 := HA.out.1.c q hq
          rw [e1] at e2 e3
          exact ⟨_, _, by rw [Nat.zero_add]; exact e3, e2⟩⟩
        have hUr := HU.out.1
        have CM := Means_ux a 0 k k cp (fun q => gdG false z m P (xs q) (ts q)) hK hK2 (by have := HSz.out.2; omega) (Nat.le_refl _) (by unfold maxLen; omega) p (c + bgC false z m P xs ts k) (by omega) (by omega) wr hVs hUr.up
        have HCN : Hid (∀ (W : World) (c' : Int), Ux p c' wr W → 0 ≤ c' → c' ≤ 800000000 → Calls Tryz.prog 23 #[.pointer p, .slice (some ⟨b, 0, none⟩) k k] W fun e w' => e = .returned (.tuple #[.int .i64 (clv (quo (sumV (fun q => gdX false z m P (xs q) (ts q)) k) (k : Int))), .int .i64 0]) ∧ Ux p (c' + bi (ovv (quo (sumV (fun q => gdX false z m P (xs q) (ts q)) k) (k : Int)))) W w') := fun W c' h h0 h1 =>
          mean_ux _ k _ (by omega) hK p c' h0 h1 W ((HTb.out.ux HUp.out hUr).ux hUr.up h) (((Rw.ar (F := fun q => gdX false z m P (xs q) (ts q)) (HBr.out.congr (fun q hq => by rw [if_pos hq])) (by omega) (fun q _ => gdX_fit false z m P (xs q) (ts q))).ux ((HUp.out.lt (by have := Hab.out; omega)).nv _ _ _) h)) ((HUp.out.lt (by have := Hab.out; omega)).nv _ _ _) h.up
        have HUr : Hid (Ux p (c + bgC false z m P xs ts k) w wr) := hUr
        have rc := cnt_rng (msO (fun q => gdG false z m P (xs q) (ts q)) k) cp
        have Hr : Hid ((0 ≤ bgC false z m P xs ts k ∧ bgC false z m P xs ts k ≤ 30000 * (k : Int)) ∧ (0 ≤ cntV (msO (fun q => gdG false z m P (xs q) (ts q)) k) cp ∧ cntV (msO (fun q => gdG false z m P (xs q) (ts q)) k) cp ≤ (cp : Int)) ∧ cp ≤ 30000) := ⟨r, rc, HSz.out.2⟩
        clear hVs hUr HA HBr HU HG HEq r rc
        go_wp2_with fail
        refine CM.mono ?_
        rintro e w8 ⟨g8, rfl, hX8, hg8, h8⟩
        have CN := HCN.out w8 _ h8 (by have := Hr.out; omega) (by have := Hr.out; omega)
        have HX8 : Hid (Ar w8 (.slice (some ⟨g8, 0, none⟩) cp cp) cp (msX (fun q => gdG false z m P (xs q) (ts q)) k) ∧ wr.heap.size ≤ g8 ∧ Ux p (c + bgC false z m P xs ts k + cntV (msO (fun q => gdG false z m P (xs q) (ts q)) k) cp) wr w8) := ⟨hX8, hg8, h8⟩
        clear CM hX8 hg8 h8 HCN
        go_wp2_with fail
        refine CN.mono ?_
        rintro e w9 ⟨rfl, h9⟩
        have HQ : Hid (Ar w9 (.slice (some ⟨g8, 0, none⟩) cp cp) cp (msX (fun q => gdG false z m P (xs q) (ts q)) k) ∧ w.heap.size ≤ g8 ∧ Ux p (c + btC false z m cp P xs ts k) w w9) := by
          obtain ⟨q1, q2, q3⟩ := HX8.out
          have hsr := HUr.out.size
          refine ⟨q1.ux ((HUp.out.lt (by omega)).nv _ _ _) h9, by omega, ?_⟩
          have e1 : c + btC false z m cp P xs ts k = c + bgC false z m P xs ts k + cntV (msO (fun q => gdG false z m P (xs q) (ts q)) k) cp + bi (ovv (quo (sumV (fun q => gdX false z m P (xs q) (ts q)) k) (k : Int))) := by unfold btC; omega
          rw [e1]
          exact (HUr.out.chain q3).chain h9
        clear CN h9 HX8 HUr Hr
        go_wp2
        go_ret3
        exact ⟨g8, rfl, HQ.out.1, HQ.out.2.1, HQ.out.2.2⟩
set_option maxRecDepth 100000 in
set_option maxHeartbeats 4000000 in
theorem pBatch_bad (L E : Int) (vs vp vE : Value) (p : Option Addr) (w : World) (hS : ∃ (ad : Option Addr) (n ca : Nat), vs = .slice ad n ca) (hP : ∃ (ad : Option Addr) (n ca : Nat), vp = .slice ad n ca) (hX : ∃ (ad : Option Addr) (n ca : Nat), vE = .slice ad n ca) (hE0 : ¬ E = 0)
    (CK : Calls Tryz.prog 19 #[.int .i64 L, vs, vp, vE] w fun e w' => e = .returned (.int .i64 E) ∧ Below w.heap.size w w') :
    Calls Tryz.prog 13 #[.pointer p, .int .i64 L, vs, vp, vE] w fun e w' => e = .returned (.tuple #[.slice none 0 0, .int .i64 0, .int .i64 E]) ∧ Below w.heap.size w w' := by
  obtain ⟨ads, ms, cas, rfl⟩ := hS
  obtain ⟨adp, mp, cap, rfl⟩ := hP
  obtain ⟨adx, mx, cax, rfl⟩ := hX
  go_enter Tryz.func13, Tryz.ntmps13
  go_wp2_with fail
  refine CK.mono ?_
  rintro e w3 ⟨rfl, h3⟩
  have HB3 : Hid (Below w.heap.size w w3) := h3
  clear CK h3
  go_wp2
  go_ret3
  exact ⟨rfl, HB3.out⟩
theorem pBatch_ok (s : Bool) (vs vp : Value) (m cp g o K cap : Nat) (z : Nat → Nat) (P : Nat → Int) (xs ts : Nat → Nat → Int) (p : Option Addr) (c : Int) (c0 : 0 ≤ c) (c1 : c ≤ 100000000) (hK : 1 ≤ K) (hK2 : K ≤ 64) (hcap : K ≤ cap) (hcap2 : cap ≤ maxLen) (w : World) (hS : Ar w vs m (fun i => ((z i : Nat) : Int))) (hP : Ar w vp cp P) (hE : Exq w p g o K (fun _ => z 0) (fun _ => z (m - 1)) xs ts) (hz : Szs z m) (hcp : cp = fsN z (m - 1)) (nS : Nv vs p) (nP : Nv vp p) (hp : Up p c w) (hTab : TabAt w) :
    Calls Tryz.prog 13 #[.pointer p, .int .i64 (lsK s), vs, vp, .slice (some ⟨g, o, none⟩) K cap] w fun e w' => ∃ g', e = .returned (.tuple #[.slice (some ⟨g', 0, none⟩) cp cp, .int .i64 (clv (quo (sumV (fun k => gdX s z m P (xs k) (ts k)) K) (K : Int))), .int .i64 0]) ∧ Ar w' (.slice (some ⟨g', 0, none⟩) cp cp) cp (msX (fun k => gdG s z m P (xs k) (ts k)) K) ∧ w.heap.size ≤ g' ∧ Ux p (c + btC s z m cp P xs ts K) w w' := by
  have hcp2 : 0 < cp := by have h1 := fsN_mono z (show 1 ≤ m - 1 by have := hz.1; omega); have h2 := (lyN_le z m 0 hz.2.2 (by have := hz.1; omega)).2; have h3 : fsN z 1 = 0 + lyN z 0 := rfl; omega
  obtain ⟨bp, op, capp, rfl⟩ := hP.lit hcp2
  cases s
  · exact pBatch_hg vs m bp op cp capp g o K cap z P xs ts p c c0 c1 hK hK2 hcap hcap2 w hS hP hE hz hcp nS (nP.nu hcp2) hp hTab
  · exact pBatch_sq vs m bp op cp capp g o K cap z P xs ts p c c0 c1 hK hK2 hcap hcap2 w hS hP hE hz hcp nS (nP.nu hcp2) hp hTab
theorem Exl.sl {w : World} {v : Value} {K : Nat} {nx nt : Nat → Nat} (h : Exl w v K nx nt) : ∃ (ad : Option Addr) (n ca : Nat), v = .slice ad n ca := by
  obtain ⟨ad, ca, _, _, e, -⟩ := h
  exact ⟨ad, K, ca, e⟩
theorem pBatch_sz (L : Int) (vs vp vE : Value) (m lp K : Nat) (f P : Nat → Int) (nx nt : Nat → Nat) (p : Option Addr) (w : World) (hA : Ar w vs m f) (hP : Ar w vp lp P) (hE : Exl w vE K nx nt) (hz : ¬ Rt f m) :
    Calls Tryz.prog 13 #[.pointer p, .int .i64 L, vs, vp, vE] w fun e w' => e = .returned (.tuple #[.slice none 0 0, .int .i64 0, .int .i64 70]) ∧ Below w.heap.size w w' :=
  pBatch_bad L 70 vs vp vE p w hA.sl hP.sl hE.sl (by omega) ((check_sz L vs vp vE m lp K f P nx nt w hA hP hE hz).mono fun e w' h => ⟨h.1, by rw [h.2]; exact Below.refl _ _⟩)
theorem pBatch_no (L : Int) (vs vp vE : Value) (m lp K : Nat) (z : Nat → Nat) (P : Nat → Int) (nx nt : Nat → Nat) (p : Option Addr) (w : World) (hA : Ar w vs m (fun i => ((z i : Nat) : Int))) (hP : Ar w vp lp P) (hE : Exl w vE K nx nt) (hz : Szs z m) (h0 : ¬ chE L K lp (fsN z (m - 1)) (mfX (z 0) (z (m - 1)) nx nt K) = 0) :
    Calls Tryz.prog 13 #[.pointer p, .int .i64 L, vs, vp, vE] w fun e w' => e = .returned (.tuple #[.slice none 0 0, .int .i64 0, .int .i64 (chE L K lp (fsN z (m - 1)) (mfX (z 0) (z (m - 1)) nx nt K))]) ∧ Below w.heap.size w w' :=
  pBatch_bad L _ vs vp vE p w hA.sl hP.sl hE.sl h0 (check_any7 L vs vp vE m lp K z P nx nt w hA hP hE hz)
end Go.Proofs.YtdfjnbkkdgolnabGreatDoor
set_option linter.unusedVariables false
namespace Go.Proofs.YtdfjnbkkdgolnabGreatDoor
open Go.ChangeShapes Go.WideShapes Go.ChangeAt Go.RowKit Go.Joins

theorem cellsFs7 : Tryz.prog.cellsOf 23 = 1 := by kernel_rfl
/-- A list of examples. -/
def Exv (w : World) (v : Value) (K : Nat) (nx nt : Nat → Nat) (xs ts : Nat → Nat → Int) : Prop :=
  ∃ (adr : Option Addr) (cap be oe : Nat), v = .slice adr K cap ∧ K ≤ cap ∧ cap ≤ maxLen ∧ (0 < K → adr = some ⟨be, oe, none⟩) ∧ ∀ k, k < K → ∃ vx vt : Value, w.cell? ⟨be, oe + k * 2, none⟩ = some vx ∧ w.cell? ⟨be, oe + k * 2 + 1, none⟩ = some vt ∧ Ar w vx (nx k) (xs k) ∧ Ar w vt (nt k) (ts k)
set_option maxRecDepth 100000 in
theorem open_exs {H : Type} {enc : TypeId × Value → H} {w : World} {r : Reach} {b0 : Nat} {v : Value} {d : DataW H} {p : List MemPlace}
    (hv : Value.okWide Tryz.prog w r b0 38 v) (h : DataW.Trod enc Tryz.prog w 0 (fun _ => true) true 38 v d p) : ∃ (K : Nat) (nx nt : Nat → Nat) (xs ts : Nat → Nat → Int), Exv w v K nx nt xs ts := by
  obtain ⟨adr, len, cap, rfl⟩ := okWide_slice Tryz.underlying38 hv
  obtain ⟨fuel, h⟩ := h
  rcases Go.Deep.open_slice Tryz.underlying38 h with h0 | ⟨a, len', cap', m, n, D, Pl, hc, hb, hl, hm, hmm, -, hx⟩
  · have hc := h0.1
    simp [Value.cells] at hc
    obtain ⟨rfl, rfl, rfl⟩ := hc
    exact ⟨0, fun _ => 0, fun _ => 0, fun _ _ => 0, fun _ _ => 0, none, 0, 0, 0, rfl, Nat.le_refl _, Nat.zero_le _, fun h => by omega, fun j hj => by omega⟩
  · simp [Value.cells] at hc
    obtain ⟨rfl, rfl, rfl⟩ := hc
    simp only [if_true] at hmm
    subst hmm
    obtain ⟨ab, ao, spot⟩ := a
    have hint : ∀ i, i < len → ∃ q : (Value × Value) × (Nat × Nat) × ((Nat → Int) × (Nat → Int)), w.cell? ((⟨ab, ao, spot⟩ : Addr).add (i * 2)) = some q.1.1 ∧ w.cell? ((⟨ab, ao, spot⟩ : Addr).add (i * 2 + 1)) = some q.1.2 ∧ Ar w q.1.1 q.2.1.1 q.2.2.1 ∧ Ar w q.1.2 q.2.1.2 q.2.2.2 := fun i hi => by
      obtain ⟨cs', h1, h2⟩ := hx i (by omega)
      rw [cellsExa] at h1
      obtain ⟨_, hlen, hcell⟩ := World.cells?_some h1
      obtain ⟨x, y, rfl⟩ : ∃ x y, cs' = [x, y] := by
        match cs', hlen with
        | [x, y], _ => exact ⟨x, y, rfl⟩
      obtain ⟨y0, y1, n', hxx, _, t0, t1⟩ := trod_struct2 Tryz.underlying36 h2
      have e1 := hcell 0 (by omega)
      have e2 := hcell 1 (by omega)
      rw [Go.Deep.add_add] at e1 e2
      obtain ⟨n1, f1, hA1⟩ := fixes_raw (v := x) (by simpa [cellsFs7] using t0)
      obtain ⟨n2, f2, hA2⟩ := fixes_raw (v := y) (by simpa [cellsFs7] using t1)
      exact ⟨((x, y), (n1, n2), (f1, f2)), by simpa using e1, by simpa using e2, hA1, hA2⟩
    obtain ⟨q, hq⟩ := Go.Deep.choose_lt hint
    refine ⟨len, fun i => (q i).2.1.1, fun i => (q i).2.1.2, fun i => (q i).2.2.1, fun i => (q i).2.2.2, some ⟨ab, ao, spot⟩, m, ab, ao, rfl, hl, hm, ?_, ?_⟩
    · intro h0
      have hspot : spot = none := by simpa [Addr.add] using World.cell?_spot (hq 0 h0).1
      rw [hspot]
    · intro j hj
      have hspot : spot = none := by simpa [Addr.add] using World.cell?_spot (hq 0 (by omega)).1
      subst hspot
      obtain ⟨d0, d1, d2, d3⟩ := hq j hj
      rw [add_noneV] at d0 d1
      exact ⟨(q j).1.1, (q j).1.2, d0, by rw [Nat.add_assoc]; exact d1, d2, d3⟩
end Go.Proofs.YtdfjnbkkdgolnabGreatDoor
set_option linter.unusedVariables false
set_option linter.unusedSimpArgs false
namespace Go.Proofs.YtdfjnbkkdgolnabGreatDoor
open Go.RowKit

theorem dinfo_exa : (Tryz.prog.info? 36).map (fun i => (i.zero, i.size, i.bytes)) = some (some (.agg #[.slice none 0 0, .slice none 0 0]), 2, 48) := by kernel_rfl
/-- The cells of a list of examples. -/
def xl (cv : Nat → Value) (a n : Nat) : List Value := (List.range n).map (fun i => cv (a + i))
theorem xl_len (cv : Nat → Value) (a n : Nat) : (xl cv a n).length = n := by unfold xl; simp
theorem xl_get (cv : Nat → Value) (a n j : Nat) (hj : j < n) : (xl cv a n)[j]? = some (cv (a + j)) := by unfold xl; simp [hj]
/-- A list of examples, by its cells. -/
structure Xc (w : World) (be oe K : Nat) (nx nt : Nat → Nat) (xs ts : Nat → Nat → Int) (cv : Nat → Value) : Prop where
  c : ∀ i, i < K * 2 → w.cell? ⟨be, oe + i, none⟩ = some (cv i)
  x : ∀ k, k < K → Ar w (cv (k * 2)) (nx k) (xs k) ∧ Ar w (cv (k * 2 + 1)) (nt k) (ts k)
  o : ∀ i, i < K * 2 → (cv i).oneCell' = true
theorem xc_ex {w : World} {be oe K : Nat} {nx nt : Nat → Nat} {xs ts : Nat → Nat → Int} (h : ∀ k, k < K → ∃ vx vt : Value, w.cell? ⟨be, oe + k * 2, none⟩ = some vx ∧ w.cell? ⟨be, oe + k * 2 + 1, none⟩ = some vt ∧ Ar w vx (nx k) (xs k) ∧ Ar w vt (nt k) (ts k)) : ∃ cv, Xc w be oe K nx nt xs ts cv := by
  have h' : ∀ k, k < K → ∃ q : Value × Value, w.cell? ⟨be, oe + k * 2, none⟩ = some q.1 ∧ w.cell? ⟨be, oe + k * 2 + 1, none⟩ = some q.2 ∧ Ar w q.1 (nx k) (xs k) ∧ Ar w q.2 (nt k) (ts k) := fun k hk => by
    obtain ⟨vx, vt, a⟩ := h k hk
    exact ⟨(vx, vt), a⟩
  obtain ⟨q, hq⟩ := Go.Deep.choose_lt h'
  obtain ⟨cv, e0, e1⟩ : ∃ cv : Nat → Value, (∀ k, cv (k * 2) = (q k).1) ∧ (∀ k, cv (k * 2 + 1) = (q k).2) := ⟨fun i => if i % 2 = 0 then (q (i / 2)).1 else (q (i / 2)).2, fun k => by
    show (if k * 2 % 2 = 0 then (q (k * 2 / 2)).1 else (q (k * 2 / 2)).2) = _
    rw [if_pos (by omega), show k * 2 / 2 = k by omega], fun k => by
    show (if (k * 2 + 1) % 2 = 0 then (q ((k * 2 + 1) / 2)).1 else (q ((k * 2 + 1) / 2)).2) = _
    rw [if_neg (by omega), show (k * 2 + 1) / 2 = k by omega]⟩
  have one : ∀ {v : Value} {n : Nat} {f : Nat → Int}, Ar w v n f → v.oneCell' = true := fun h => by obtain ⟨_, _, _, _, rfl, -⟩ := h; rfl
  have sp : ∀ i, i < K * 2 → ∃ k, k < K ∧ (i = k * 2 ∨ i = k * 2 + 1) := fun i hi => ⟨i / 2, by omega, by omega⟩
  refine ⟨cv, ⟨fun i hi => ?_, fun k hk => ?_, fun i hi => ?_⟩⟩
  · obtain ⟨k, hk, rfl | rfl⟩ := sp i hi
    · rw [e0]; exact (hq k hk).1
    · rw [e1]; exact (hq k hk).2.1
  · rw [e0, e1]; exact ⟨(hq k hk).2.2.1, (hq k hk).2.2.2⟩
  · obtain ⟨k, hk, rfl | rfl⟩ := sp i hi
    · rw [e0]; exact one (hq k hk).2.2.1
    · rw [e1]; exact one (hq k hk).2.2.2
theorem Xc.later {w w' : World} {be oe K : Nat} {nx nt : Nat → Nat} {xs ts : Nat → Nat → Int} {cv : Nat → Value} (h : Xc w be oe K nx nt xs ts cv) (hb : Below w.heap.size w w') : Xc w' be oe K nx nt xs ts cv :=
  ⟨fun i hi => cell_later hb (h.c i hi), fun k hk => ⟨(h.x k hk).1.later hb, (h.x k hk).2.later hb⟩, h.o⟩
theorem Xc.exq {w : World} {be oe K : Nat} {nx nt : Nat → Nat} {xs ts : Nat → Nat → Int} {cv : Nat → Value} (h : Xc w be oe K nx nt xs ts cv) : Exq w none be oe K nx nt xs ts :=
  ⟨(fun d e => (by cases e)), fun k hk => ⟨_, _, h.c (k * 2) (by omega), by rw [Nat.add_assoc]; exact h.c (k * 2 + 1) (by omega), (h.x k hk).1, (h.x k hk).2, nv_none _, nv_none _⟩⟩
/-- The turned row. -/
theorem Xc.turned {w w' : World} {be oe K k g : Nat} {nx nt : Nat → Nat} {xs ts : Nat → Nat → Int} {cv : Nat → Value} (hk : k < K) (h : Xc w be oe K nx nt xs ts cv) (hb : Below w.heap.size w w')
    (hc : ∀ i, i < K * 2 → w'.cell? ⟨g, i, none⟩ = (xl cv (k * 2) ((K - k) * 2) ++ xl cv 0 (k * 2))[i]?) :
    Xc w' g 0 K (fun q => nx (trn K k q)) (fun q => nt (trn K k q)) (fun q => xs (trn K k q)) (fun q => ts (trn K k q)) (fun i => cv (trn K k (i / 2) * 2 + i % 2)) := by
  refine ⟨fun i hi => ?_, fun q hq => ?_, fun i hi => ?_⟩
  · rw [Nat.zero_add, hc i hi]
    by_cases h1 : i < (K - k) * 2
    · rw [List.getElem?_append_left (by rw [xl_len]; exact h1), xl_get _ _ _ _ h1]
      unfold trn
      rw [if_pos (by omega)]
      congr 2
      omega
    · rw [List.getElem?_append_right (by rw [xl_len]; omega), xl_len, xl_get _ _ _ _ (by omega)]
      unfold trn
      rw [if_neg (by omega)]
      congr 2
      omega
  · have ht := trn_lt (K := K) (k := k) (by omega) hq
    have := h.x _ ht
    have e0 : cv (trn K k (q * 2 / 2) * 2 + q * 2 % 2) = cv (trn K k q * 2) := by rw [show q * 2 / 2 = q by omega, show q * 2 % 2 = 0 by omega, Nat.add_zero]
    have e1 : cv (trn K k ((q * 2 + 1) / 2) * 2 + (q * 2 + 1) % 2) = cv (trn K k q * 2 + 1) := by rw [show (q * 2 + 1) / 2 = q by omega, show (q * 2 + 1) % 2 = 1 by omega]
    show Ar w' (cv (trn K k (q * 2 / 2) * 2 + q * 2 % 2)) _ _ ∧ Ar w' (cv (trn K k ((q * 2 + 1) / 2) * 2 + (q * 2 + 1) % 2)) _ _
    rw [e0, e1]
    exact ⟨this.1.later hb, this.2.later hb⟩
  · have ht := trn_lt (K := K) (k := k) (i := i / 2) (by omega) (by omega)
    exact h.o _ (by omega)
theorem mfX_trn (z0 zl : Nat) (nx nt : Nat → Nat) (K k : Nat) (hk : k < K) : mfX z0 zl (fun q => nx (trn K k q)) (fun q => nt (trn K k q)) K = mfX z0 zl nx nt K := by
  by_cases h : ∃ q, q < K ∧ mfB z0 zl (nx q) (nt q) = true
  · obtain ⟨q, hq, hm⟩ := h
    have hi : ∃ i, i < K ∧ trn K k i = q := by
      by_cases e : k ≤ q
      · exact ⟨q - k, by omega, by unfold trn; rw [if_pos (by omega)]; omega⟩
      · exact ⟨q + K - k, by omega, by unfold trn; rw [if_neg (by omega)]; omega⟩
    obtain ⟨i, hi1, hi2⟩ := hi
    rw [mfX_yes hq hm]
    exact mfX_yes (nx := fun q => nx (trn K k q)) (nt := fun q => nt (trn K k q)) hi1 (by show mfB z0 zl (nx (trn K k i)) (nt (trn K k i)) = true; rw [hi2]; exact hm)
  · have h' : ∀ q, q < K → mfB z0 zl (nx q) (nt q) = false := fun q hq => by
      cases e : mfB z0 zl (nx q) (nt q) with
      | false => rfl
      | true => exact absurd ⟨q, hq, e⟩ h
    rw [mfX_no h']
    exact mfX_no (fun q hq => h' _ (trn_lt (by omega) hq))
theorem Xc.fit {w : World} {be oe K : Nat} {nx nt : Nat → Nat} {xs ts : Nat → Nat → Int} {cv : Nat → Value} {a b : Nat} (h : Xc w be oe K nx nt xs ts cv) (hm : mfX a b nx nt K = false) : Exq w none be oe K (fun _ => a) (fun _ => b) xs ts :=
  ⟨(fun d e => (by cases e)), fun k hk => by
    have hf : mfB a b (nx k) (nt k) = false := by
      cases e : mfB a b (nx k) (nt k) with
      | false => rfl
      | true => rw [mfX_yes hk e] at hm; cases hm
    unfold mfB at hf
    simp at hf
    obtain ⟨x1, x2⟩ := h.x k hk
    rw [hf.1] at x1
    rw [hf.2] at x2
    exact ⟨_, _, h.c (k * 2) (by omega), by rw [Nat.add_assoc]; exact h.c (k * 2 + 1) (by omega), x1, x2, nv_none _, nv_none _⟩⟩
theorem ar_nil (w : World) (F : Nat → Int) : Ar w (.slice none 0 0) 0 F := ⟨none, 0, 0, 0, rfl, Nat.le_refl _, by unfold maxLen; omega, fun h => by omega, fun k hk => by omega⟩
theorem turned_both (vs vp : Value) (m lp K k be oe cae g capq : Nat) (f P : Nat → Int) (nx nt : Nat → Nat) (xs ts : Nat → Nat → Int) (cv cv' : Nat → Value) (z : Nat → Nat) (hz : Zs f m z) (hk : k < K) (hK2 : K ≤ 20) (hc : K ≤ cae) (hc2 : cae ≤ maxLen) (hq : K ≤ capq) (hq2 : capq ≤ maxLen) (w w6 : World) (hb6 : Below w.heap.size w w6) (hA : Ar w vs m f) (hP : Ar w vp lp P) (hV : TabAt w) (hlp : lp ≤ 400)
    (hX : Xc w be oe K nx nt xs ts cv) (hX6 : Xc w6 g 0 K (fun q => nx (trn K k q)) (fun q => nt (trn K k q)) (fun q => xs (trn K k q)) (fun q => ts (trn K k q)) cv') :
    ∃ (X E : Int) (n : Nat) (F : Nat → Int), n ≤ 70000 ∧
      (∀ W, Below w.heap.size w W → Calls Tryz.prog 13 #[.pointer none, .int .i64 1, vs, vp, .slice (some ⟨be, oe, none⟩) K cae] W fun e w' => ∃ ad n' ca, e = .returned (.tuple #[.slice ad n' ca, .int .i64 X, .int .i64 E]) ∧ Ar w' (.slice ad n' ca) n F ∧ Below W.heap.size W w') ∧
      (∀ W, Below w6.heap.size w6 W → Calls Tryz.prog 13 #[.pointer none, .int .i64 1, vs, vp, .slice (some ⟨g, 0, none⟩) K capq] W fun e w' => ∃ ad n' ca, e = .returned (.tuple #[.slice ad n' ca, .int .i64 X, .int .i64 E]) ∧ Ar w' (.slice ad n' ca) n F ∧ Below W.heap.size W w') := by
  have b6 : ∀ W, Below w6.heap.size w6 W → Below w.heap.size w W := fun W h => bchain hb6 h
  by_cases hr : Rt f m
  · obtain ⟨hs, hfz⟩ := hz hr
    have hA' : ∀ W, Below w.heap.size w W → Ar W vs m (fun i => ((z i : Nat) : Int)) := fun W h => (hA.later h).congr hfz
    by_cases h0 : chE 1 K lp (fsN z (m - 1)) (mfX (z 0) (z (m - 1)) nx nt K) = 0
    · have hfit : lp = fsN z (m - 1) ∧ mfX (z 0) (z (m - 1)) nx nt K = false := by
        unfold chE at h0
        rw [if_pos (Or.inl rfl), if_neg (by omega)] at h0
        by_cases hh : lp = fsN z (m - 1) ∧ mfX (z 0) (z (m - 1)) nx nt K = false
        · exact hh
        · rw [if_neg hh] at h0; omega
      have hm2 : mfX (z 0) (z (m - 1)) (fun q => nx (trn K k q)) (fun q => nt (trn K k q)) K = false := by rw [mfX_trn _ _ _ _ _ _ hk]; exact hfit.2
      refine ⟨clv (quo (sumV (fun q => gdX true z m P (xs q) (ts q)) K) (K : Int)), 0, lp, msX (fun q => gdG true z m P (xs q) (ts q)) K, by omega, fun W h => ?_, fun W h => ?_⟩
      · exact (pBatch_ok true vs vp m lp be oe K cae z P xs ts none 0 (by omega) (by omega) (by omega) (by omega) hc hc2 W (hA' W h) (hP.later h) ((hX.later h).fit hfit.2) hs hfit.1 (nv_none _) (nv_none _) (Or.inl rfl) (hV.later h)).mono fun e w' ⟨g', h1, h2, h3, h4⟩ => ⟨_, _, _, h1, h2, ux_nil h4⟩
      · have hB := pBatch_ok true vs vp m lp g 0 K capq z P (fun q => xs (trn K k q)) (fun q => ts (trn K k q)) none 0 (by omega) (by omega) (by omega) (by omega) hq hq2 W (hA' W (b6 W h)) (hP.later (b6 W h)) ((hX6.later h).fit hm2) hs hfit.1 (nv_none _) (nv_none _) (Or.inl rfl) (hV.later (b6 W h))
        rw [sum_trn (fun q => gdX true z m P (xs q) (ts q)) K k (by omega)] at hB
        exact hB.mono fun e w' ⟨g', h1, h2, h3, h4⟩ => ⟨_, _, _, h1, h2.congr (fun i _ => ms_trn (fun q => gdG true z m P (xs q) (ts q)) K k (by omega) i), ux_nil h4⟩
    · refine ⟨0, chE 1 K lp (fsN z (m - 1)) (mfX (z 0) (z (m - 1)) nx nt K), 0, fun _ => 0, by omega, fun W h => ?_, fun W h => ?_⟩
      · exact (pBatch_no 1 vs vp _ m lp K z P nx nt none W (hA' W h) (hP.later h) ((hX.later h).exq.exl hc hc2) hs h0).mono fun e w' ⟨h1, h2⟩ => ⟨_, _, _, h1, ar_nil _ _, h2⟩
      · have h0' : ¬ chE 1 K lp (fsN z (m - 1)) (mfX (z 0) (z (m - 1)) (fun q => nx (trn K k q)) (fun q => nt (trn K k q)) K) = 0 := by rw [mfX_trn _ _ _ _ _ _ hk]; exact h0
        have hB := pBatch_no 1 vs vp _ m lp K z P _ _ none W (hA' W (b6 W h)) (hP.later (b6 W h)) ((hX6.later h).exq.exl hq hq2) hs h0'
        rw [mfX_trn _ _ _ _ _ _ hk] at hB
        exact hB.mono fun e w' ⟨h1, h2⟩ => ⟨_, _, _, h1, ar_nil _ _, h2⟩
  · refine ⟨0, 70, 0, fun _ => 0, by omega, fun W h => ?_, fun W h => ?_⟩
    · exact (pBatch_sz 1 vs vp _ m lp K f P nx nt none W (hA.later h) (hP.later h) ((hX.later h).exq.exl hc hc2) hr).mono fun e w' ⟨h1, h2⟩ => ⟨_, _, _, h1, ar_nil _ _, h2⟩
    · exact (pBatch_sz 1 vs vp _ m lp K f P _ _ none W (hA.later (b6 W h)) (hP.later (b6 W h)) ((hX6.later h).exq.exl hq hq2) hr).mono fun e w' ⟨h1, h2⟩ => ⟨_, _, _, h1, ar_nil _ _, h2⟩
end Go.Proofs.YtdfjnbkkdgolnabGreatDoor
