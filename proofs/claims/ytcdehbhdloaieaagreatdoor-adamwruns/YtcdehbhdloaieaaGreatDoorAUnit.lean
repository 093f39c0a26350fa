/-
  The contract of vec's Clip with a unit and with none; sums, quotients and roots with a unit that may be none.
-/
import Derived.Test.YtcdehbhdloaieaaGreatDoorPWalkG0
import Derived.Test.YtcdehbhdloaieaaGreatDoorMUnit
import Derived.Test.YtcdehbhdloaieaaGreatDoorBI
import Derived.Test.YtcdehbhdloaieaaGreatDoorBK
set_option linter.unusedVariables false
set_option linter.unusedSimpArgs false
namespace Go.Proofs.YtcdehbhdloaieaaGreatDoor
open Go.RowKit

set_option maxHeartbeats 4000000 in
theorem Clip_un (most : Int) (va : Value) (n : Nat) (f : Nat → Int) (d : Nat) (c : Int) (w : World) (m0 : -9223372036854775808 ≤ most) (m1 : most ≤ 9223372036854775807) (hn : n ≤ 70000) (c0 : 0 ≤ c) (c1 : c ≤ 800000000) (hA : Ar w va n f) (ha : Nb va d) (hU : Uc w d c) :
    Calls Tryz.prog 20 #[.pointer (some ⟨d, 0, none⟩), va, .int .i64 most] w fun e w' => ∃ v', e = .returned (.tuple #[v', .bool (cpB most n f && decide (sE n = 0)), .int .i64 (sE n)]) ∧ LL w w' v' n (cpF most n f) (sE n) ∧ Un d (c + cE (sE n) (cpN most n f)) w w' := by
  obtain ⟨ada, ca, ba, oa, rfl, x1, x2, -, -⟩ := id hA
  have hb0 := bel1 w (.cells #[.slice ada n ca] 28)
  obtain ⟨hc, hf⟩ := hU
  have hd := World.block_lt_of_cell? _ _ hc
  dsimp only at hd
  have hc' := cell_later hb0 hc
  have hf' := frozen_later hb0 hc hf
  unfold maxLen at *
  by_cases hl : n ≤ 65536
  · have hE : sE n = 0 := by unfold sE; rw [if_neg (by omega)]
    have CK : Hid (Calls Tryz.prog 39 #[.bool true, .slice (some ⟨w.heap.size, 0, none⟩) 1 1] (w.alloc (.cells #[.slice ada n ca] 28)) fun e w' => e = .returned (.int .i64 0) ∧ w' = (w.alloc (.cells #[.slice ada n ca] 28))) := by
      have h := check1_any true w ada n ca (by unfold maxLen; omega)
      rw [if_neg (by omega), if_pos rfl] at h
      exact h
    have HA1 : Hid (Ar (w.alloc (.cells #[.slice ada n ca] 28)) (.slice ada n ca) n f) := hA.later hb0
    have HU1 : Hid (Un d c w (w.alloc (.cells #[.slice ada n ca] 28))) := Un.after hb0 (Un.same hc' hf')
    have HNb : Hid (Nb (.slice ada n ca) d) := ha
    rw [hE, show (cpB most n f && decide ((0 : Int) = 0)) = cpB most n f by simp]
    rw [show c + cE 0 (cpN most n f) = c + cpN most n f by unfold cE; rw [if_pos rfl]]
    have hsT : (w.alloc (.cells #[.slice ada n ca] 28)).heap.size = w.heap.size + 1 := by simp
    clear hA ha hc hf hc' hf' hE hb0
    by_cases h0 : 0 < most
    · have h0' : ¬ most ≤ 0 := by omega
      have CN : Hid (∀ W : World, Ar W (.slice ada n ca) n f → W.cell? ⟨d, 0, none⟩ = some (.int .i64 c) → W.frozen? ⟨d, 0, none⟩ = false → Calls Tryz.prog 41 #[.pointer (some ⟨d, 0, none⟩), .slice ada n ca] W fun e w' => e = .returned (.int .i64 (rtX (dotV f f n))) ∧ Un d (c + bi (rtO (dotV f f n))) W w') := fun W h a b => vnorm_un _ n f hn d c c0 (by omega) W h a b
      obtain ⟨N0, N1⟩ := rtX_rng (dotV f f n)
      have rb := bi_rng (rtO (dotV f f n))
      have HB : Hid (cpB most n f = decide (most < rtX (dotV f f n))) := by show _ = _; unfold cpB; simp [h0]
      have HK : Hid (cpK most n f = qv (most * 4294967296) (rtX (dotV f f n)) ∧ cpO most n f = qo (most * 4294967296) (rtX (dotV f f n))) := ⟨rfl, rfl⟩
      have HM : Hid (cpN most n f = (if cpB most n f = true then bi (rtO (dotV f f n)) + bi (cpO most n f) + cntV (fun i => ovv (rnd (cpK most n f * f i) 32)) n else bi (rtO (dotV f f n)))) := by show _ = _; unfold cpN; rw [if_pos h0]
      generalize rtX (dotV f f n) = N at *
      generalize bi (rtO (dotV f f n)) = z at *
      by_cases h1 : most < N
      · have h1' : ¬ N ≤ most := by omega
        have HB2 : Hid (cpB most n f = true) := by show _ = _; rw [HB.out, decide_eq_true h1]
        have CD : Hid (∀ W : World, W.cell? ⟨d, 0, none⟩ = some (.int .i64 (c + z)) → W.frozen? ⟨d, 0, none⟩ = false → Calls Tryz.prog 43 #[.pointer (some ⟨d, 0, none⟩), .int .i64 most, .int .i64 N] W fun e w' => e = .returned (.int .i64 (cpK most n f)) ∧ Un d (c + z + bi (cpO most n f)) W w') := by
          rw [HK.out.1, HK.out.2]
          exact fun W a b => uDiv_un most N m0 m1 (by omega) (by omega) d (c + z) (by omega) (by omega) W a b
        obtain ⟨K0, K1⟩ := qv_rng (most * 4294967296) N
        rw [← HK.out.1] at K0 K1
        have ro := bi_rng (cpO most n f)
        have CS : Hid (∀ W : World, Ar W (.slice ada n ca) n f → W.cell? ⟨d, 0, none⟩ = some (.int .i64 (c + z + bi (cpO most n f))) → W.frozen? ⟨d, 0, none⟩ = false → Calls Tryz.prog 42 #[.pointer (some ⟨d, 0, none⟩), .int .i64 (cpK most n f), .slice ada n ca] W fun e w' => e = .returned (.slice (some ⟨W.heap.size + 2, 0, none⟩) n n) ∧ Ar w' (.slice (some ⟨W.heap.size + 2, 0, none⟩) n n) n (fun i => clv (rnd (cpK most n f * f i) 32)) ∧ Un d (c + z + bi (cpO most n f) + cntV (fun i => ovv (rnd (cpK most n f * f i) 32)) n) W w') := fun W h a b => scaled_un (cpK most n f) K0 K1 _ n f hn d _ (by omega) (by omega) W h HNb.out a b
        have HF : Hid (cpF most n f = fun i => clv (rnd (cpK most n f * f i) 32)) := by show _ = _; funext i; unfold cpF; rw [if_pos HB2.out]
        have HM2 : Hid (cpN most n f = z + bi (cpO most n f) + cntV (fun i => ovv (rnd (cpK most n f * f i) 32)) n) := by show _ = _; rw [HM.out, if_pos HB2.out]
        clear HB HK HM
        rw [HB2.out, HF.out, HM2.out]
        rw [show c + (z + bi (cpO most n f) + cntV (fun i => ovv (rnd (cpK most n f * f i) 32)) n) = c + z + bi (cpO most n f) + cntV (fun i => ovv (rnd (cpK most n f * f i) 32)) n by omega]
        clear HB2 HF HM2 ro
        generalize cntV (fun i => ovv (rnd (cpK most n f * f i) 32)) n = zz at *
        generalize bi (cpO most n f) = zy at *
        generalize cpK most n f = K at *
        go_enter Tryz.func20, Tryz.ntmps20
        go_wp2_with fail
        refine CK.out.mono ?_
        rintro e w1 ⟨rfl, hz⟩
        subst hz
        clear CK
        go_wp2_with fail
        refine (CN.out _ HA1.out HU1.out.c HU1.out.f).mono ?_
        rintro e w2 ⟨rfl, h2⟩
        have HA2 : Hid (Ar w2 (.slice ada n ca) n f) := HA1.out.un HNb.out h2
        have HU2 : Hid (Un d (c + z) w w2) := HU1.out.chain h2
        clear h2 CN HA1 HU1
        go_wp2_with fail
        refine (CD.out _ HU2.out.c HU2.out.f).mono ?_
        rintro e w3 ⟨rfl, h3⟩
        have HA3 : Hid (Ar w3 (.slice ada n ca) n f) := HA2.out.un HNb.out h3
        have HU3 : Hid (Un d (c + z + zy) w w3) := HU2.out.chain h3
        clear h3 CD HA2 HU2
        go_wp2_with fail
        refine (CS.out _ HA3.out HU3.out.c HU3.out.f).mono ?_
        rintro e w4 ⟨rfl, hX, h4⟩
        have HX : Hid (Ar w4 (.slice (some ⟨w3.heap.size + 2, 0, none⟩) n n) n (fun i => clv (rnd (K * f i) 32))) := hX
        have HU4 : Hid (Un d (c + z + zy + zz) w w4) := HU3.out.chain h4
        have hs3 : w.heap.size ≤ w3.heap.size := HU3.out.s
        clear h4 CS HA3 HU3 hX
        go_wp2
        go_ret3
        exact ⟨_, rfl, ⟨fun _ => HX.out, fun h => absurd rfl h, fun a n' cap' e _ => (by cases e; show w.heap.size ≤ w3.heap.size + 2; omega)⟩, HU4.out⟩
      · have h1' : N ≤ most := by omega
        have HB2 : Hid (cpB most n f = false) := by show _ = _; rw [HB.out, decide_eq_false h1]
        have CC : Hid (∀ W : World, Ar W (.slice ada n ca) n f → Calls Tryz.prog 40 #[.slice ada n ca] W fun e w' => ∃ (ad : Option Addr) (cap : Nat), e = .returned (.slice ad n cap) ∧ Ar w' (.slice ad n cap) n f ∧ Ow W.heap.size (.slice ad n cap) ∧ Below W.heap.size W w') := fun W h => clone_any _ n f hn W h
        have HF : Hid (cpF most n f = f) := by show _ = _; funext i; unfold cpF; rw [if_neg (by rw [HB2.out]; decide)]
        have HM2 : Hid (cpN most n f = z) := by show _ = _; rw [HM.out, if_neg (by rw [HB2.out]; decide)]
        clear HB HK HM
        rw [HB2.out, HF.out, HM2.out]
        clear HB2 HF HM2
        go_enter Tryz.func20, Tryz.ntmps20
        go_wp2_with fail
        refine CK.out.mono ?_
        rintro e w1 ⟨rfl, hz⟩
        subst hz
        clear CK
        go_wp2_with fail
        refine (CN.out _ HA1.out HU1.out.c HU1.out.f).mono ?_
        rintro e w2 ⟨rfl, h2⟩
        have HA2 : Hid (Ar w2 (.slice ada n ca) n f) := HA1.out.un HNb.out h2
        have HU2 : Hid (Un d (c + z) w w2) := HU1.out.chain h2
        clear h2 CN HA1 HU1
        go_wp2_with fail
        refine (CC.out _ HA2.out).mono ?_
        rintro e w4 ⟨ad, cap, rfl, hX, hO, h4⟩
        have HX : Hid (Ar w4 (.slice ad n cap) n f ∧ Ow w.heap.size (.slice ad n cap)) := ⟨hX, hO.mono HU2.out.s⟩
        have HU4 : Hid (Un d (c + z) w w4) := HU2.out.ahead h4
        clear h4 CC HA2 HU2 hX hO
        go_wp2
        go_ret3
        exact ⟨_, rfl, ⟨fun _ => HX.out.1, fun h => absurd rfl h, HX.out.2⟩, HU4.out⟩
    · have h0' : most ≤ 0 := by omega
      have HB2 : Hid (cpB most n f = false) := by show _ = _; unfold cpB; simp [h0]
      have CC : Hid (∀ W : World, Ar W (.slice ada n ca) n f → Calls Tryz.prog 40 #[.slice ada n ca] W fun e w' => ∃ (ad : Option Addr) (cap : Nat), e = .returned (.slice ad n cap) ∧ Ar w' (.slice ad n cap) n f ∧ Ow W.heap.size (.slice ad n cap) ∧ Below W.heap.size W w') := fun W h => clone_any _ n f hn W h
      have HF : Hid (cpF most n f = f) := by show _ = _; funext i; unfold cpF; rw [if_neg (by rw [HB2.out]; decide)]
      have HM2 : Hid (cpN most n f = 0) := by show _ = _; unfold cpN; rw [if_neg h0]
      rw [HB2.out, HF.out, HM2.out, Int.add_zero]
      clear HB2 HF HM2
      go_enter Tryz.func20, Tryz.ntmps20
      go_wp2_with fail
      refine CK.out.mono ?_
      rintro e w1 ⟨rfl, hz⟩
      subst hz
      clear CK
      go_wp2_with fail
      refine (CC.out _ HA1.out).mono ?_
      rintro e w4 ⟨ad, cap, rfl, hX, hO, h4⟩
      have HX : Hid (Ar w4 (.slice ad n cap) n f ∧ Ow w.heap.size (.slice ad n cap)) := ⟨hX, hO.mono (by simp)⟩
      have HU4 : Hid (Un d (c) w w4) := HU1.out.ahead h4
      clear h4 CC HA1 HU1 hX hO
      go_wp2
      go_ret3
      exact ⟨_, rfl, ⟨fun _ => HX.out.1, fun h => absurd rfl h, HX.out.2⟩, HU4.out⟩
  · have hE : sE n = 3 := by unfold sE; rw [if_pos (by omega)]
    have CK : Hid (Calls Tryz.prog 39 #[.bool true, .slice (some ⟨w.heap.size, 0, none⟩) 1 1] (w.alloc (.cells #[.slice ada n ca] 28)) fun e w' => e = .returned (.int .i64 3) ∧ w' = (w.alloc (.cells #[.slice ada n ca] 28))) := by
      have h := check1_any true w ada n ca (by unfold maxLen; omega)
      rw [if_pos (by omega)] at h
      exact h
    rw [hE, show (cpB most n f && decide ((3 : Int) = 0)) = false by simp]
    have HU : Hid (Un d c w (w.alloc (.cells #[.slice ada n ca] 28))) := Un.after hb0 (Un.same hc' hf')
    clear hA ha hc hf hc' hf' hE hb0
    go_enter Tryz.func20, Tryz.ntmps20
    go_wp2_with fail
    refine CK.out.mono ?_
    rintro e w1 ⟨rfl, hz⟩
    subst hz
    clear CK
    go_wp2
    go_ret3
    exact ⟨_, rfl, ⟨fun h => (by cases h), fun _ => ⟨none, 0, rfl⟩, fun a n' cap' e => (by cases e)⟩, (by unfold cE; rw [if_neg (by decide), Int.add_zero]; exact HU.out)⟩

set_option maxHeartbeats 4000000 in
theorem Clip_nil (most : Int) (va : Value) (n : Nat) (f : Nat → Int) (w : World) (m0 : -9223372036854775808 ≤ most) (m1 : most ≤ 9223372036854775807) (hn : n ≤ 70000) (hA : Ar w va n f) :
    Calls Tryz.prog 20 #[.pointer none, va, .int .i64 most] w fun e w' => ∃ v', e = .returned (.tuple #[v', .bool (cpB most n f && decide (sE n = 0)), .int .i64 (sE n)]) ∧ LL w w' v' n (cpF most n f) (sE n) ∧ Below w.heap.size w w' := by
  obtain ⟨ada, ca, ba, oa, rfl, x1, x2, -, -⟩ := id hA
  have hb0 := bel1 w (.cells #[.slice ada n ca] 28)
  unfold maxLen at *
  by_cases hl : n ≤ 65536
  · have hE : sE n = 0 := by unfold sE; rw [if_neg (by omega)]
    have CK : Hid (Calls Tryz.prog 39 #[.bool true, .slice (some ⟨w.heap.size, 0, none⟩) 1 1] (w.alloc (.cells #[.slice ada n ca] 28)) fun e w' => e = .returned (.int .i64 0) ∧ w' = (w.alloc (.cells #[.slice ada n ca] 28))) := by
      have h := check1_any true w ada n ca (by unfold maxLen; omega)
      rw [if_neg (by omega), if_pos rfl] at h
      exact h
    have HA1 : Hid (Ar (w.alloc (.cells #[.slice ada n ca] 28)) (.slice ada n ca) n f) := hA.later hb0
    have HU1 : Hid (Below w.heap.size w (w.alloc (.cells #[.slice ada n ca] 28))) := hb0
    skip
    rw [hE, show (cpB most n f && decide ((0 : Int) = 0)) = cpB most n f by simp]
    skip
    have hsT : (w.alloc (.cells #[.slice ada n ca] 28)).heap.size = w.heap.size + 1 := by simp
    clear hA hE hb0
    by_cases h0 : 0 < most
    · have h0' : ¬ most ≤ 0 := by omega
      have CN : Hid (∀ W : World, Ar W (.slice ada n ca) n f → Calls Tryz.prog 41 #[.pointer none, .slice ada n ca] W fun e w' => e = .returned (.int .i64 (rtX (dotV f f n))) ∧ Below W.heap.size W w') := fun W h => vnorm_nil _ n f hn W h
      obtain ⟨N0, N1⟩ := rtX_rng (dotV f f n)
      have rb := bi_rng (rtO (dotV f f n))
      have HB : Hid (cpB most n f = decide (most < rtX (dotV f f n))) := by show _ = _; unfold cpB; simp [h0]
      have HK : Hid (cpK most n f = qv (most * 4294967296) (rtX (dotV f f n)) ∧ cpO most n f = qo (most * 4294967296) (rtX (dotV f f n))) := ⟨rfl, rfl⟩
      have HM : Hid (cpN most n f = (if cpB most n f = true then bi (rtO (dotV f f n)) + bi (cpO most n f) + cntV (fun i => ovv (rnd (cpK most n f * f i) 32)) n else bi (rtO (dotV f f n)))) := by show _ = _; unfold cpN; rw [if_pos h0]
      generalize rtX (dotV f f n) = N at *
      generalize bi (rtO (dotV f f n)) = z at *
      by_cases h1 : most < N
      · have h1' : ¬ N ≤ most := by omega
        have HB2 : Hid (cpB most n f = true) := by show _ = _; rw [HB.out, decide_eq_true h1]
        have CD : Hid (∀ W : World, Calls Tryz.prog 43 #[.pointer none, .int .i64 most, .int .i64 N] W fun e w' => e = .returned (.int .i64 (cpK most n f)) ∧ Below W.heap.size W w') := by
          rw [HK.out.1]
          exact fun W => uDiv_nil most N m0 m1 (by omega) (by omega) W
        obtain ⟨K0, K1⟩ := qv_rng (most * 4294967296) N
        rw [← HK.out.1] at K0 K1
        have ro := bi_rng (cpO most n f)
        have CS : Hid (∀ W : World, Ar W (.slice ada n ca) n f → Calls Tryz.prog 42 #[.pointer none, .int .i64 (cpK most n f), .slice ada n ca] W fun e w' => e = .returned (.slice (some ⟨W.heap.size + 2, 0, none⟩) n n) ∧ Ar w' (.slice (some ⟨W.heap.size + 2, 0, none⟩) n n) n (fun i => clv (rnd (cpK most n f * f i) 32)) ∧ Below W.heap.size W w') := fun W h => scaled_nil (cpK most n f) K0 K1 _ n f hn W h
        have HF : Hid (cpF most n f = fun i => clv (rnd (cpK most n f * f i) 32)) := by show _ = _; funext i; unfold cpF; rw [if_pos HB2.out]
        have HM2 : Hid (cpN most n f = z + bi (cpO most n f) + cntV (fun i => ovv (rnd (cpK most n f * f i) 32)) n) := by show _ = _; rw [HM.out, if_pos HB2.out]
        clear HB HK HM
        rw [HB2.out, HF.out]
        skip
        clear HB2 HF HM2 ro
        generalize cntV (fun i => ovv (rnd (cpK most n f * f i) 32)) n = zz at *
        generalize bi (cpO most n f) = zy at *
        generalize cpK most n f = K at *
        go_enter Tryz.func20, Tryz.ntmps20
        go_wp2_with fail
        refine CK.out.mono ?_
        rintro e w1 ⟨rfl, hz⟩
        subst hz
        clear CK
        go_wp2_with fail
        refine (CN.out _ HA1.out).mono ?_
        rintro e w2 ⟨rfl, h2⟩
        have HA2 : Hid (Ar w2 (.slice ada n ca) n f) := HA1.out.later h2
        have HU2 : Hid (Below w.heap.size w w2) := bchain HU1.out h2
        clear h2 CN HA1 HU1
        go_wp2_with fail
        refine (CD.out _).mono ?_
        rintro e w3 ⟨rfl, h3⟩
        have HA3 : Hid (Ar w3 (.slice ada n ca) n f) := HA2.out.later h3
        have HU3 : Hid (Below w.heap.size w w3) := bchain HU2.out h3
        clear h3 CD HA2 HU2
        go_wp2_with fail
        refine (CS.out _ HA3.out).mono ?_
        rintro e w4 ⟨rfl, hX, h4⟩
        have HX : Hid (Ar w4 (.slice (some ⟨w3.heap.size + 2, 0, none⟩) n n) n (fun i => clv (rnd (K * f i) 32))) := hX
        have HU4 : Hid (Below w.heap.size w w4) := bchain HU3.out h4
        have hs3 : w.heap.size ≤ w3.heap.size := HU3.out.size
        clear h4 CS HA3 HU3 hX
        go_wp2
        go_ret3
        exact ⟨_, rfl, ⟨fun _ => HX.out, fun h => absurd rfl h, fun a n' cap' e _ => (by cases e; show w.heap.size ≤ w3.heap.size + 2; omega)⟩, HU4.out⟩
      · have h1' : N ≤ most := by omega
        have HB2 : Hid (cpB most n f = false) := by show _ = _; rw [HB.out, decide_eq_false h1]
        have CC : Hid (∀ W : World, Ar W (.slice ada n ca) n f → Calls Tryz.prog 40 #[.slice ada n ca] W fun e w' => ∃ (ad : Option Addr) (cap : Nat), e = .returned (.slice ad n cap) ∧ Ar w' (.slice ad n cap) n f ∧ Ow W.heap.size (.slice ad n cap) ∧ Below W.heap.size W w') := fun W h => clone_any _ n f hn W h
        have HF : Hid (cpF most n f = f) := by show _ = _; funext i; unfold cpF; rw [if_neg (by rw [HB2.out]; decide)]
        have HM2 : Hid (cpN most n f = z) := by show _ = _; rw [HM.out, if_neg (by rw [HB2.out]; decide)]
        clear HB HK HM
        rw [HB2.out, HF.out]
        clear HB2 HF HM2
        go_enter Tryz.func20, Tryz.ntmps20
        go_wp2_with fail
        refine CK.out.mono ?_
        rintro e w1 ⟨rfl, hz⟩
        subst hz
        clear CK
        go_wp2_with fail
        refine (CN.out _ HA1.out).mono ?_
        rintro e w2 ⟨rfl, h2⟩
        have HA2 : Hid (Ar w2 (.slice ada n ca) n f) := HA1.out.later h2
        have HU2 : Hid (Below w.heap.size w w2) := bchain HU1.out h2
        clear h2 CN HA1 HU1
        go_wp2_with fail
        refine (CC.out _ HA2.out).mono ?_
        rintro e w4 ⟨ad, cap, rfl, hX, hO, h4⟩
        have HX : Hid (Ar w4 (.slice ad n cap) n f ∧ Ow w.heap.size (.slice ad n cap)) := ⟨hX, hO.mono HU2.out.size⟩
        have HU4 : Hid (Below w.heap.size w w4) := bchain HU2.out h4
        clear h4 CC HA2 HU2 hX hO
        go_wp2
        go_ret3
        exact ⟨_, rfl, ⟨fun _ => HX.out.1, fun h => absurd rfl h, HX.out.2⟩, HU4.out⟩
    · have h0' : most ≤ 0 := by omega
      have HB2 : Hid (cpB most n f = false) := by show _ = _; unfold cpB; simp [h0]
      have CC : Hid (∀ W : World, Ar W (.slice ada n ca) n f → Calls Tryz.prog 40 #[.slice ada n ca] W fun e w' => ∃ (ad : Option Addr) (cap : Nat), e = .returned (.slice ad n cap) ∧ Ar w' (.slice ad n cap) n f ∧ Ow W.heap.size (.slice ad n cap) ∧ Below W.heap.size W w') := fun W h => clone_any _ n f hn W h
      have HF : Hid (cpF most n f = f) := by show _ = _; funext i; unfold cpF; rw [if_neg (by rw [HB2.out]; decide)]
      have HM2 : Hid (cpN most n f = 0) := by show _ = _; unfold cpN; rw [if_neg h0]
      rw [HB2.out, HF.out]
      clear HB2 HF HM2
      go_enter Tryz.func20, Tryz.ntmps20
      go_wp2_with fail
      refine CK.out.mono ?_
      rintro e w1 ⟨rfl, hz⟩
      subst hz
      clear CK
      go_wp2_with fail
      refine (CC.out _ HA1.out).mono ?_
      rintro e w4 ⟨ad, cap, rfl, hX, hO, h4⟩
      have HX : Hid (Ar w4 (.slice ad n cap) n f ∧ Ow w.heap.size (.slice ad n cap)) := ⟨hX, hO.mono (by simp)⟩
      have HU4 : Hid (Below w.heap.size w w4) := bchain HU1.out h4
      clear h4 CC HA1 HU1 hX hO
      go_wp2
      go_ret3
      exact ⟨_, rfl, ⟨fun _ => HX.out.1, fun h => absurd rfl h, HX.out.2⟩, HU4.out⟩
  · have hE : sE n = 3 := by unfold sE; rw [if_pos (by omega)]
    have CK : Hid (Calls Tryz.prog 39 #[.bool true, .slice (some ⟨w.heap.size, 0, none⟩) 1 1] (w.alloc (.cells #[.slice ada n ca] 28)) fun e w' => e = .returned (.int .i64 3) ∧ w' = (w.alloc (.cells #[.slice ada n ca] 28))) := by
      have h := check1_any true w ada n ca (by unfold maxLen; omega)
      rw [if_pos (by omega)] at h
      exact h
    rw [hE, show (cpB most n f && decide ((3 : Int) = 0)) = false by simp]
    have HU : Hid (Below w.heap.size w (w.alloc (.cells #[.slice ada n ca] 28))) := hb0
    clear hA hE hb0
    go_enter Tryz.func20, Tryz.ntmps20
    go_wp2_with fail
    refine CK.out.mono ?_
    rintro e w1 ⟨rfl, hz⟩
    subst hz
    clear CK
    go_wp2
    go_ret3
    exact ⟨_, rfl, ⟨fun h => (by cases h), fun _ => ⟨none, 0, rfl⟩, fun a n' cap' e => (by cases e)⟩, HU.out⟩

theorem Clip_ux (most : Int) (va : Value) (n : Nat) (f : Nat → Int) (m0 : -9223372036854775808 ≤ most) (m1 : most ≤ 9223372036854775807) (hn : n ≤ 65536) (p : Option Addr) (c : Int) (c0 : 0 ≤ c) (c1 : c ≤ 800000000) (w : World) (hA : Ar w va n f) (ha : Nv va p) (hp : Up p c w) :
    Calls Tryz.prog 20 #[.pointer p, va, .int .i64 most] w fun e w' => (∃ v', e = .returned (.tuple #[v', .bool (cpB most n f), .int .i64 0]) ∧ Ar w' v' n (cpF most n f) ∧ Ow w.heap.size v') ∧ Ux p (c + cpN most n f) w w' := by
  have e0 : sE n = 0 := by unfold sE; rw [if_neg (by omega)]
  have e1 : cE (sE n) (cpN most n f) = cpN most n f := by rw [e0]; rfl
  have e2 : (cpB most n f && decide (sE n = 0)) = cpB most n f := by rw [e0]; simp
  refine ux_calls (ags := #[va, .int .i64 most]) hp (fun _ => (Clip_nil most va n f w m0 m1 (by omega) hA).mono ?_) (fun d e hc => (Clip_un most va n f d c w m0 m1 (by omega) c0 c1 hA (ha d e) hc).mono ?_)
  · rintro e w' ⟨v', h1, h2, h3⟩
    rw [e2, e0] at h1
    rw [e0] at h2
    exact ⟨⟨v', h1, h2.1 rfl, h2.2.2⟩, h3⟩
  · rintro e w' ⟨v', h1, h2, h3⟩
    rw [e2, e0] at h1
    rw [e1] at h3
    rw [e0] at h2
    exact ⟨⟨v', h1, h2.1 rfl, h2.2.2⟩, h3⟩
theorem add_ux (a b : Int) (a0 : -9223372036854775808 ≤ a) (a1 : a ≤ 9223372036854775807) (b0 : -9223372036854775808 ≤ b) (b1 : b ≤ 9223372036854775807) (p : Option Addr) (c : Int) (c0 : 0 ≤ c) (c1 : c ≤ 900000000) (w : World) (hp : Up p c w) :
    Calls Tryz.prog 47 #[.pointer p, .int .i64 a, .int .i64 b] w fun e w' => e = .returned (.int .i64 (clv (a + b))) ∧ Ux p (c + bi (ovv (a + b))) w w' :=
  ux_calls (ags := #[.int .i64 a, .int .i64 b]) hp (fun _ => uAdd_nil a b a0 a1 b0 b1 w) (fun d _ hc => uAdd_un a b a0 a1 b0 b1 d c c0 (by omega) w hc.1 hc.2)
theorem div_ux (a b : Int) (a0 : -9223372036854775808 ≤ a) (a1 : a ≤ 9223372036854775807) (b0 : -9223372036854775808 ≤ b) (b1 : b ≤ 9223372036854775807) (p : Option Addr) (c : Int) (c0 : 0 ≤ c) (c1 : c ≤ 900000000) (w : World) (hp : Up p c w) :
    Calls Tryz.prog 43 #[.pointer p, .int .i64 a, .int .i64 b] w fun e w' => e = .returned (.int .i64 (qv (a * 4294967296) b)) ∧ Ux p (c + bi (qo (a * 4294967296) b)) w w' :=
  ux_calls (ags := #[.int .i64 a, .int .i64 b]) hp (fun _ => uDiv_nil a b a0 a1 b0 b1 w) (fun d _ hc => uDiv_un a b a0 a1 b0 b1 d c c0 (by omega) w hc.1 hc.2)
theorem sqrt_ux (a : Int) (a0 : -9223372036854775808 ≤ a) (a1 : a ≤ 9223372036854775807) (p : Option Addr) (c : Int) (c0 : 0 ≤ c) (c1 : c ≤ 900000000) (w : World) (hp : Up p c w) :
    Calls Tryz.prog 46 #[.pointer p, .int .i64 a] w fun e w' => e = .returned (.int .i64 (sv a)) ∧ Ux p (c + bi (decide (a < 0))) w w' :=
  ux_calls (ags := #[.int .i64 a]) hp (fun _ => uSqrt_nil a a0 a1 w) (fun d _ hc => uSqrt_un a a0 a1 d c c0 (by omega) w hc.1 hc.2)
end Go.Proofs.YtcdehbhdloaieaaGreatDoor
