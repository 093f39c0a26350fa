/-
  The contracts of vec's Means.
-/
import Derived.Test.YtldnnjcfihjkdaaDoorPWalkS
import Derived.Test.YtldnnjcfihjkdaaDoorPWalkQ
import Derived.Test.YtldnnjcfihjkdaaDoorPWalkN
set_option linter.unusedVariables false
set_option linter.unusedSimpArgs false
namespace Go.Proofs.YtldnnjcfihjkdaaDoor
open Go.RowKit

theorem Vs.hs {w : World} {g o K cap n : Nat} {fs : Nat → Nat → Int} (h : Vs w g o K n fs) (hn : n ≤ 65536) (h1 : K ≤ cap) (h2 : cap ≤ maxLen) : Hs w (.slice (some ⟨g, o, none⟩) K cap) K (fun _ => n) :=
  ⟨_, _, g, o, rfl, h1, h2, fun _ => rfl, fun k hk => ⟨(by show n ≤ maxLen; unfold maxLen; omega), by obtain ⟨ad, ca, h3, -⟩ := h.c k hk; exact ⟨ad, ca, h3⟩⟩⟩
theorem Vs.rng {w : World} {g o K n : Nat} {fs : Nat → Nat → Int} (h : Vs w g o K n fs) (i : Nat) (hi : i < n) (k : Nat) (hk : k < K) : -9223372036854775808 ≤ fs k i ∧ fs k i ≤ 9223372036854775807 := by
  obtain ⟨ad, ca, -, hA⟩ := h.c k hk
  obtain ⟨_, _, _, _, h3⟩ := hA.at i hi
  exact h3
set_option maxHeartbeats 4000000 in
theorem Means_un (g o cap K n : Nat) (fs : Nat → Nat → Int) (hK : 1 ≤ K) (hK2 : K ≤ 64) (hn : n ≤ 65536) (hcap : K ≤ cap) (hcap2 : cap ≤ maxLen) (d : Nat) (c : Int) (c0 : 0 ≤ c) (c1 : c ≤ 900000000) (w : World) (hL : Vs w g o K n fs) (hc : w.cell? ⟨d, 0, none⟩ = some (.int .i64 c)) (hf : w.frozen? ⟨d, 0, none⟩ = false) :
    Calls Tryd.prog 44 #[.pointer (some ⟨d, 0, none⟩), .slice (some ⟨g, o, none⟩) K cap] w fun e w' => ∃ g', e = .returned (.tuple #[.slice (some ⟨g', 0, none⟩) n n, .int .i64 0]) ∧ Ar w' (.slice (some ⟨g', 0, none⟩) n n) n (msX fs K) ∧ w.heap.size ≤ g' ∧ Un d (c + cntV (msO fs K) n) w w' := by
  have hb0 := bel2 w (.cells #[.pointer (some ⟨d, 0, none⟩)] 25) (.cells #[.slice (some ⟨g, o, none⟩) K cap] 74)
  have cx : ((w.alloc (.cells #[.pointer (some ⟨d, 0, none⟩)] 25)).alloc (.cells #[.slice (some ⟨g, o, none⟩) K cap] 74)).cell? ⟨w.heap.size + 1, 0, none⟩ = some (.slice (some ⟨g, o, none⟩) K cap) := by have h := cell_new1 (w.alloc (.cells #[.pointer (some ⟨d, 0, none⟩)] 25)) (.slice (some ⟨g, o, none⟩) K cap) 74; rw [World.size_alloc] at h; exact h
  have cu : ((w.alloc (.cells #[.pointer (some ⟨d, 0, none⟩)] 25)).alloc (.cells #[.slice (some ⟨g, o, none⟩) K cap] 74)).cell? ⟨w.heap.size, 0, none⟩ = some (.pointer (some ⟨d, 0, none⟩)) := cell_later (bel1 _ _) (cell_new1 w _ _)
  have hsz : ((w.alloc (.cells #[.pointer (some ⟨d, 0, none⟩)] 25)).alloc (.cells #[.slice (some ⟨g, o, none⟩) K cap] 74)).heap.size = w.heap.size + 2 := by simp
  have HL2 : Hid (Vs ((w.alloc (.cells #[.pointer (some ⟨d, 0, none⟩)] 25)).alloc (.cells #[.slice (some ⟨g, o, none⟩) K cap] 74)) g o K n fs) := hL.later hb0
  have HUc : Hid (((w.alloc (.cells #[.pointer (some ⟨d, 0, none⟩)] 25)).alloc (.cells #[.slice (some ⟨g, o, none⟩) K cap] 74)).cell? ⟨d, 0, none⟩ = some (.int .i64 c) ∧ ((w.alloc (.cells #[.pointer (some ⟨d, 0, none⟩)] 25)).alloc (.cells #[.slice (some ⟨g, o, none⟩) K cap] 74)).frozen? ⟨d, 0, none⟩ = false) := ⟨cell_later hb0 hc, frozen_later hb0 hc hf⟩
  have HB0 : Hid (Below w.heap.size w ((w.alloc (.cells #[.pointer (some ⟨d, 0, none⟩)] 25)).alloc (.cells #[.slice (some ⟨g, o, none⟩) K cap] 74))) := hb0
  have hd : d < w.heap.size := World.block_lt_of_cell? _ _ hc
  have hH := hL.hs hn hcap hcap2
  have CA : Hid (∀ W : World, Below w.heap.size w W → Calls Tryd.prog 83 #[.slice (some ⟨g, o, none⟩) K cap] W fun e w' => e = .returned (.bool true) ∧ Below W.heap.size W w') := fun W hb => by
    have h := alike_any _ K (fun _ => n) W (hH.later hb)
    rw [unlB_no (fun _ => n) K (fun _ _ => rfl)] at h
    exact h
  have CK : Hid (∀ W : World, Below w.heap.size w W → Calls Tryd.prog 46 #[.bool true, .slice (some ⟨g, o, none⟩) K cap] W fun e w' => e = .returned (.int .i64 0) ∧ w' = W) := fun W hb => by
    have h := check_any true _ K (fun _ => n) W (hH.later hb)
    rw [show ckE true (fun _ => n) K = 0 by unfold ckE; rw [if_neg (by rw [longB_no (fun _ => n) K (fun _ _ => by omega)]; decide), if_pos rfl]] at h
    exact h
  clear hb0 hc hf hL hH
  unfold maxLen at hcap2
  have hKI : (0 : Int) < (K : Int) := by omega
  have hKJ : ¬ (64 : Int) < (K : Int) := by omega
  go_enter Tryd.func44, Tryd.ntmps44
  go_upto_region 3 with fail
  generalize (w.alloc (.cells #[.pointer (some ⟨d, 0, none⟩)] 25)).alloc (.cells #[.slice (some ⟨g, o, none⟩) K cap] 74) = w2 at *
  have HB0w : Hid (∀ W : World, Below w2.heap.size w2 W → Below w.heap.size w W) := fun W hb => bchain HB0.out hb
  go_cut [6] (fun s6 wc => s6 = .int .i64 0 ∧ Hid (Below w2.heap.size w2 wc))
  case first =>
    have hd1 : Below w2.heap.size w2 w2.drew := (Below.refl _ _).drew
    have A := cell_later hd1 cx
    have CW : Hid (Below w2.heap.size w2 w2.drew) := hd1
    clear hd1 cu cx
    go_region_with
      (first
        | (go_at_call 83; refine (CA.out _ (HB0w.out _ CW.out)).mono ?_; rintro e wz ⟨rfl, hb⟩; replace A := cell_later hb A; replace CW := hidD CW hb; clear hb)
        | (go_at_call 46; refine (CK.out _ (HB0w.out _ CW.out)).mono ?_; rintro e wy ⟨rfl, hz⟩; subst hz))
    all_goals (go_wp2_with fail; go_meet; exact ⟨rfl, CW⟩)
  case rest =>
    obtain ⟨rfl, CW⟩ := hcut
    have cxC := cell_later CW.out cx
    obtain ⟨ad0, ca0, c00, hA0⟩ := (HL2.out.later CW.out).c 0 (by omega)
    rw [Nat.add_zero] at c00
    clear hA0 cx
    have hmk := make_wd n (by omega)
    have hb4 := bel1 wc (.cells (madeCells #[.int .i64 0, .int .u64 0] (n * 2)) 92)
    have HZ : Hid (Wd wc.heap.size n (fun _ => 0) (wc.alloc (.cells (madeCells #[.int .i64 0, .int .u64 0] (n * 2)) 92))) := Wd.made wc n 92
    have HB4 : Hid (Below w2.heap.size w2 (wc.alloc (.cells (madeCells #[.int .i64 0, .int .u64 0] (n * 2)) 92))) := bchain CW.out hb4
    have cx4 := cell_later hb4 cxC
    go_upto_region 7 with fail
    generalize wc.alloc (.cells (madeCells #[.int .i64 0, .int .u64 0] (n * 2)) 92) = w4 at *
    clear hmk hb4 cxC c00
    have CG : Hid (Calls Tryd.prog 84 #[.slice (some ⟨g, o, none⟩) K cap, .slice (some ⟨wc.heap.size, 0, none⟩) n n, .func (.func 85) #[] #[]] w4 fun e w' => ∃ b', e = .returned (.slice (some ⟨b', 0, none⟩) n n) ∧ Wd b' n (fun i => sumV (fun k => fs k i) K) w' ∧ (b' = wc.heap.size ∨ w4.heap.size ≤ b') ∧ Below w4.heap.size w4 w') := gather_wide g o cap K wc.heap.size n fs (by omega) hcap (by unfold maxLen; omega) w4 (HL2.out.later HB4.out) HZ.out
    go_wp2_with fail
    refine CG.out.mono ?_
    rintro e w5 ⟨b', rfl, hD, hb', hb5⟩
    have hsC : w2.heap.size ≤ wc.heap.size := CW.out.size
    have hs4 : w2.heap.size ≤ w4.heap.size := HB4.out.size
    have HB5 : Hid (Below w2.heap.size w2 w5) := bchain HB4.out hb5
    have hs5 : w2.heap.size ≤ w5.heap.size := HB5.out.size
    have CE : Hid (Calls Tryd.prog 88 #[.slice (some ⟨b', 0, none⟩) n n, .func (.func 89) #[] #[.pointer (some ⟨w.heap.size, 0, none⟩), .pointer (some ⟨w.heap.size + 1, 0, none⟩)]] w5 fun e w' => e = .returned (.slice (some ⟨w5.heap.size, 0, none⟩) n n) ∧ Ar w' (.slice (some ⟨w5.heap.size, 0, none⟩) n n) n (msX fs K) ∧ Un d (c + cntV (msO fs K) n) w w') := by
      have hc5 := cell_later HB5.out HUc.out.1
      have hf5 := frozen_later HB5.out HUc.out.1 HUc.out.2
      have cu5 := cell_later HB5.out cu
      have cx5 := cell_later hb5 cx4
      have hne : b' ≠ d := by omega
      have HDk : ∀ (q : Int) (W : World), Un d q w5 W → Wd b' n (fun i => sumV (fun k => fs k i) K) W := fun q W h => by
        rcases Nat.eq_zero_or_pos n with h0 | h0
        · exact ⟨fun k hk => by omega, fun k hk => by omega, fun k hk => by omega, fun k hk => by omega⟩
        · exact hD.block (h.k b' (World.block_lt_of_cell? _ _ (hD.c0 0 h0)) hne)
      have h := each_means (.pointer (some ⟨w.heap.size, 0, none⟩)) (.pointer (some ⟨w.heap.size + 1, 0, none⟩)) (fun j W => Un d (c + cntV (msO fs K) j) w5 W) b' n (fun i => sumV (fun k => fs k i) K) (msX fs K) w5 (by omega) (by simpa [cntV] using Un.same hc5 hf5) (fun j W W' h hb => h.ahead hb) (fun j W a x hx h => h.setnew a x (by omega) hx) (fun j W h => HDk _ W h) (fun j _ => clv_fit _) (fun j W hj hW h => by
        have r' := cnt_rng (msO fs K) j
        refine (means2_un (fun k => fs k j) K cap (some ⟨g, o, none⟩) hK (by omega) (fun k hk => HL2.out.rng j hj k hk) w.heap.size (w.heap.size + 1) d _ (by omega) (by omega) W h.c h.f (h.o _ _ (by dsimp only; omega) cu5) (h.o _ _ (by dsimp only; omega) cx5)).mono ?_
        rintro e w' ⟨rfl, hU⟩
        refine ⟨rfl, ?_, hU.k _ hW (by omega), hU.s⟩
        have e1 : c + cntV (msO fs K) (j + 1) = c + cntV (msO fs K) j + bi (ovv (quo (sumV (fun k => fs k j) K) (K : Int))) := by rw [Int.add_assoc]; rfl
        show Un d (c + cntV (msO fs K) (j + 1)) _ w'
        rw [e1]
        exact h.chain hU)
      refine h.mono ?_
      rintro e w' ⟨rfl, hS, hX'⟩
      exact ⟨rfl, hX', Un.after (bchain HB0.out HB5.out) hS⟩
    clear CG hD hb' hb5 CW cu cx4 HUc HL2 HZ HB4 HB5
    go_wp2_with fail
    refine CE.out.mono ?_
    rintro e w6 ⟨rfl, hX, hU⟩
    have HX : Hid (Ar w6 (.slice (some ⟨w5.heap.size, 0, none⟩) n n) n (msX fs K)) := hX
    have HU : Hid (Un d (c + cntV (msO fs K) n) w w6) := hU
    clear CE hX hU
    go_wp2
    go_ret2
    exact ⟨_, rfl, HX.out, by omega, HU.out⟩
set_option maxHeartbeats 2000000 in
theorem Means_big (adr : Option Addr) (K cap d : Nat) (hK : 64 < K) (hK2 : K ≤ 1000000) (w : World) :
    Calls Tryd.prog 44 #[.pointer (some ⟨d, 0, none⟩), .slice adr K cap] w fun e w' => e = .returned (.tuple #[.slice none 0 0, .int .i64 3]) ∧ Below w.heap.size w w' := by
  have hb0 := bel2 w (.cells #[.pointer (some ⟨d, 0, none⟩)] 25) (.cells #[.slice adr K cap] 74)
  have hKJ : (64 : Int) < (K : Int) := by omega
  go_enter Tryd.func44, Tryd.ntmps44
  go_wp2
  go_ret2
  exact ⟨rfl, hb0⟩
set_option maxHeartbeats 4000000 in
theorem Means_bad (adr : Option Addr) (K cap d : Nat) (ns : Nat → Nat) (hK2 : K ≤ 64) (hns : ∀ k, k < K → ns k ≤ 65536) (w : World) (hH : Hs w (.slice adr K cap) K ns) (hbad : K = 0 ∨ unlB ns K = true) :
    Calls Tryd.prog 44 #[.pointer (some ⟨d, 0, none⟩), .slice adr K cap] w fun e w' => e = .returned (.tuple #[.slice none 0 0, .int .i64 40]) ∧ Below w.heap.size w w' := by
  have hb0 := bel2 w (.cells #[.pointer (some ⟨d, 0, none⟩)] 25) (.cells #[.slice adr K cap] 74)
  have cx : ((w.alloc (.cells #[.pointer (some ⟨d, 0, none⟩)] 25)).alloc (.cells #[.slice adr K cap] 74)).cell? ⟨w.heap.size + 1, 0, none⟩ = some (.slice adr K cap) := by have h := cell_new1 (w.alloc (.cells #[.pointer (some ⟨d, 0, none⟩)] 25)) (.slice adr K cap) 74; rw [World.size_alloc] at h; exact h
  have HB0 : Hid (Below w.heap.size w ((w.alloc (.cells #[.pointer (some ⟨d, 0, none⟩)] 25)).alloc (.cells #[.slice adr K cap] 74))) := hb0
  have CK : Hid (∀ W : World, Below w.heap.size w W → Calls Tryd.prog 46 #[.bool false, .slice adr K cap] W fun e w' => e = .returned (.int .i64 40) ∧ w' = W) := fun W hb => by
    have h := check_any false _ K ns W (hH.later hb)
    rw [show ckE false ns K = 40 by unfold ckE; rw [if_neg (by rw [longB_no ns K (fun k hk => by have := hns k hk; omega)]; decide), if_neg (by decide)]] at h
    exact h
  have hKJ : ¬ (64 : Int) < (K : Int) := by omega
  have CA : Hid (0 < K → ∀ W : World, Below w.heap.size w W → Calls Tryd.prog 83 #[.slice adr K cap] W fun e w' => e = .returned (.bool false) ∧ Below W.heap.size W w') := fun h0 W hb => by
    have h := alike_any _ K ns W (hH.later hb)
    rcases hbad with h1 | h1
    · omega
    · rw [h1] at h
      exact h
  clear hb0 hH hns
  by_cases h0 : 0 < K
  · have hKI : (0 : Int) < (K : Int) := by omega
    clear hbad
    go_enter Tryd.func44, Tryd.ntmps44
    go_upto_region 3 with fail
    generalize (w.alloc (.cells #[.pointer (some ⟨d, 0, none⟩)] 25)).alloc (.cells #[.slice adr K cap] 74) = w2 at *
    have HB0w : Hid (∀ W : World, Below w2.heap.size w2 W → Below w.heap.size w W) := fun W hb => bchain HB0.out hb
    go_cut [6] (fun s6 wc => s6 = .int .i64 40 ∧ Hid (Below w2.heap.size w2 wc))
    case first =>
      have hd1 : Below w2.heap.size w2 w2.drew := (Below.refl _ _).drew
      have A := cell_later hd1 cx
      have CW : Hid (Below w2.heap.size w2 w2.drew) := hd1
      clear hd1 cx
      go_region_with
        (first
          | (go_at_call 83; refine (CA.out (by omega) _ (HB0w.out _ CW.out)).mono ?_; rintro e wz ⟨rfl, hb⟩; replace A := cell_later hb A; replace CW := hidD CW hb; clear hb)
          | (go_at_call 46; refine (CK.out _ (HB0w.out _ CW.out)).mono ?_; rintro e wy ⟨rfl, hz⟩; subst hz))
      all_goals (go_wp2_with fail; go_meet; exact ⟨rfl, CW⟩)
    case rest =>
      obtain ⟨rfl, CW⟩ := hcut
      have hX := HB0w.out _ CW.out
      go_wp2
      go_ret2
      exact ⟨rfl, hX⟩
  · have hKI : ¬ (0 : Int) < (K : Int) := by omega
    obtain rfl : K = 0 := by omega
    clear hbad CA
    go_enter Tryd.func44, Tryd.ntmps44
    go_upto_region 3 with fail
    generalize (w.alloc (.cells #[.pointer (some ⟨d, 0, none⟩)] 25)).alloc (.cells #[.slice adr 0 cap] 74) = w2 at *
    have HB0w : Hid (∀ W : World, Below w2.heap.size w2 W → Below w.heap.size w W) := fun W hb => bchain HB0.out hb
    go_cut [6] (fun s6 wc => s6 = .int .i64 40 ∧ Hid (Below w2.heap.size w2 wc))
    case first =>
      have hd1 : Below w2.heap.size w2 w2.drew := (Below.refl _ _).drew
      have A := cell_later hd1 cx
      have CW : Hid (Below w2.heap.size w2 w2.drew) := hd1
      clear hd1 cx
      go_region_with
        (first
          | (go_at_call 46; refine (CK.out _ (HB0w.out _ CW.out)).mono ?_; rintro e wy ⟨rfl, hz⟩; subst hz))
      all_goals (go_wp2_with fail; go_meet; exact ⟨rfl, CW⟩)
    case rest =>
      obtain ⟨rfl, CW⟩ := hcut
      have hX := HB0w.out _ CW.out
      go_wp2
      go_ret2
      exact ⟨rfl, hX⟩
end Go.Proofs.YtldnnjcfihjkdaaDoor
