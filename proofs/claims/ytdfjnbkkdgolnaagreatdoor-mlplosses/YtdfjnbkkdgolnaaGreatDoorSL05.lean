/-
  Texts of this proof, joined: LWalkF2 LMath3 LWalkI LMath4 BK BJ LWalkJ EMathB EWalkA LBase LBase2 LAwake LLaw0.
-/
import Derived.Test.YtdfjnbkkdgolnaaGreatDoorSL00
import Derived.Test.YtdfjnbkkdgolnaaGreatDoorSL02
import Derived.Test.YtdfjnbkkdgolnaaGreatDoorSL03
import Derived.Test.YtdfjnbkkdgolnaaGreatDoorSL04
import Derived.Deep.DrawnRows
import Derived.Deep.Cut
import Derived.Deep.DeepCutAuto
import Derived.Deep.RegionHeld3
import Derived.Laws.Bits64
set_option linter.unusedVariables false
set_option linter.unusedSimpArgs false
namespace Go.Proofs.YtdfjnbkkdgolnaaGreatDoor
open Go.RowKit

/-- How many are held of the first j of a hinge's loss. -/
def hlC (f g : Nat → Int) (j : Nat) : Int := cntV (mpO f g) j + cntV (hgO f g) j
theorem hlC_succ (f g : Nat → Int) (j : Nat) : hlC f g (j + 1) = hlC f g j + bi (mpO f g j) + bi (hgO f g j) := by
  show cntV (mpO f g) j + bi (mpO f g j) + (cntV (hgO f g) j + bi (hgO f g j)) = cntV (mpO f g) j + cntV (hgO f g) j + _ + _
  omega
theorem hlC_rng (f g : Nat → Int) (j : Nat) : 0 ≤ hlC f g j ∧ hlC f g j ≤ 2 * (j : Int) := by
  have h1 := cnt_rng (mpO f g) j
  have h2 := cnt_rng (hgO f g) j
  unfold hlC
  omega
theorem posV_pos (f : Nat → Int) (j : Nat) (h : 0 < f j) : sumV (posV f) (j + 1) = sumV (posV f) j + f j := by
  show sumV (posV f) j + posV f j = _
  unfold posV
  rw [if_pos h]
theorem posV_neg (f : Nat → Int) (j : Nat) (h : ¬ 0 < f j) : sumV (posV f) (j + 1) = sumV (posV f) j := by
  show sumV (posV f) j + posV f j = _
  have e : posV f j = 0 := by unfold posV; rw [if_neg h]
  rw [e, Int.add_zero]
set_option maxRecDepth 100000 in
set_option maxHeartbeats 8000000 in
theorem loss_hg (va vb : Value) (n : Nat) (f g : Nat → Int) (d : Nat) (c : Int) (hn : n ≤ 70000) (c0 : 0 ≤ c) (c1 : c ≤ 900000000) (w : World) (hA : Ar w va n f) (hB : Ar w vb n g) (nA : Nb va d) (nB : Nb vb d) (hc : w.cell? ⟨d, 0, none⟩ = some (.int .i64 c)) (hf : w.frozen? ⟨d, 0, none⟩ = false) :
    Calls Tryz.prog 28 #[.pointer (some ⟨d, 0, none⟩), .int .i64 2, va, vb] w fun e w' => e = .returned (.int .i64 (lsX false f g n)) ∧ Un d (c + lsC false f g n) w w' := by
  have hd := World.block_lt_of_cell? _ _ hc
  obtain ⟨adr, cap, b, o, rfl, x1, x2, x3, x4⟩ := hA
  obtain ⟨adq, caq, bq, oq, rfl, y1, y2, y3, y4⟩ := hB
  unfold maxLen at *
  have HA : Hid (∀ j, j < n → adr = some ⟨b, o, none⟩ ∧ b ≠ d ∧ w.cell? ⟨b, o + j, none⟩ = some (.int .i64 (f j)) ∧ -9223372036854775808 ≤ f j ∧ f j ≤ 9223372036854775807) := fun j hj => by
    have e := x3 (by omega)
    refine ⟨e, ?_, x4 j hj⟩
    subst e
    exact nA _ _ _ rfl (by omega)
  have HB : Hid (∀ j, j < n → adq = some ⟨bq, oq, none⟩ ∧ bq ≠ d ∧ w.cell? ⟨bq, oq + j, none⟩ = some (.int .i64 (g j)) ∧ -9223372036854775808 ≤ g j ∧ g j ≤ 9223372036854775807) := fun j hj => by
    have e := y3 (by omega)
    refine ⟨e, ?_, y4 j hj⟩
    subst e
    exact nB _ _ _ rfl (by omega)
  have U0 : Hid (Un d c w w) := Un.same hc hf
  clear x3 x4 nA hc hf y3 y4 nB
  obtain ⟨LP, hLP0⟩ : ∃ x : Int, lsP false f g n = x := ⟨_, rfl⟩
  have hLP : Hid (hlC f g n = LP) := by show _ = _; rw [← hLP0, lsP_hg]; rfl
  obtain ⟨RX, hRX⟩ : ∃ x : Int, lsX false f g n = x := ⟨_, rfl⟩
  obtain ⟨RO, hRO⟩ : ∃ x : Bool, ovv (lsS false f g n) = x := ⟨_, rfl⟩
  have HR : Hid (clv (rr (sumV (posV (hgX f g)) n) 0) = RX ∧ ovv (rr (sumV (posV (hgX f g)) n) 0) = RO) := by
    show _ ∧ _
    have e : rr (sumV (posV (hgX f g)) n) 0 = sumV (posV (hgX f g)) n := by unfold rr; rw [if_pos rfl]
    rw [e, ← lsS_hg]
    exact ⟨hRX, hRO⟩
  have hCC : lsC false f g n = LP + bi RO := by unfold lsC; rw [hLP0, hRO]
  rw [hCC, hRX]
  clear hRX hRO hLP0 hCC
  have HLk : Hid (∀ (j : Nat) (W : World), j < n → 0 ≤ c + hlC f g j → c + hlC f g j ≤ 999999000 → W.cell? ⟨d, 0, none⟩ = some (.int .i64 (c + hlC f g j)) → W.frozen? ⟨d, 0, none⟩ = false → Calls Tryz.prog 53 #[.pointer (some ⟨d, 0, none⟩), .int .i64 (f j), .int .i64 (g j)] W fun e w' => e = .returned (.int .i64 (hgX f g j)) ∧ Un d (c + hlC f g j + bi (mpO f g j) + bi (hgO f g j)) W w') := fun j W hj h0 h1 hc hf => lack_any (f j) (g j) (HA.out j hj).2.2.2.1 (HA.out j hj).2.2.2.2 (HB.out j hj).2.2.2.1 (HB.out j hj).2.2.2.2 d _ h0 h1 W hc hf
  have HHr : Hid (∀ i, -9223372036854775808 ≤ hgX f g i ∧ hgX f g i ≤ 9223372036854775807) := fun i => clv_rng _
  go_enter Tryz.func28, Tryz.ntmps28
  go_wp2
  go_loopw [10] (fun si wr => ∃ (j : Nat) (p q : Int), j ≤ n ∧ si = .int .i64 (j : Int) ∧ B12 w.heap.size (dg p) (dg q) wr ∧ Hid (Sm p q (sumV (posV (hgX f g)) j) ((j : Int) * 9223372036854775808)) ∧ Hid (Un d (c + hlC f g j) w wr)) (fun si _ => n - (intOf si).toNat)
  case atStart =>
    refine ⟨0, 0, 0, by omega, rfl, ?_, ⟨by omega, by omega, by omega, by omega, rfl⟩, by show Un d (c + 0) w _; rw [Int.add_zero]; exact U0.out.ahead (bel1 _ _)⟩
    have h := B12.new w (dg 0) (dg 0) 108
    simp only [dg_zero] at h
    exact B12.noughts h
  case round =>
    obtain ⟨j, p, q, hj, rfl, hS, hSm, hU⟩ := hrel
    by_cases hlt : j < n
    · have hjI : (j : Int) < (n : Int) := by omega
      obtain ⟨ea, na, ca, a0, a1⟩ := HA.out j hlt
      subst ea
      have cA : wr.cell? ⟨b, o + j, none⟩ = some (.int .i64 (f j)) := hU.out.o _ _ na ca
      obtain ⟨eb, nb, cb, b0, b1⟩ := HB.out j hlt
      subst eb
      have cB : wr.cell? ⟨bq, oq + j, none⟩ = some (.int .i64 (g j)) := hU.out.o _ _ nb cb
      have hcr := hlC_rng f g j
      have CL : Hid (∀ (W : World), W.cell? ⟨d, 0, none⟩ = some (.int .i64 (c + hlC f g j)) → W.frozen? ⟨d, 0, none⟩ = false → Calls Tryz.prog 53 #[.pointer (some ⟨d, 0, none⟩), .int .i64 (f j), .int .i64 (g j)] W fun e w' => e = .returned (.int .i64 (hgX f g j)) ∧ Un d (c + hlC f g (j + 1)) W w') := fun W hc hf => by
        have h := HLk.out j W hlt (by omega) (by omega) hc hf
        have e : c + hlC f g (j + 1) = c + hlC f g j + bi (mpO f g j) + bi (hgO f g j) := by rw [hlC_succ]; omega
        rw [e]
        exact h
      obtain ⟨r0, r1⟩ := HHr.out j
      have HC : Hid (Un d (c + hlC f g j) w wr ∧ B12 w.heap.size (dg p) (dg q) wr) := ⟨hU.out, hS⟩
      have HSm : Hid (Sm p q (sumV (posV (hgX f g)) j) ((j : Int) * 9223372036854775808)) := hSm
      clear ca cb hU hS hSm
      go_upto_region 9 with fail
      have CC : wr.drew.cell? ⟨b, o + j, none⟩ = some (.int .i64 (f j)) ∧ wr.drew.cell? ⟨bq, oq + j, none⟩ = some (.int .i64 (g j)) := ⟨cA, cB⟩
      have HD : Hid (Un d (c + hlC f g j) w wr.drew ∧ B12 w.heap.size (dg p) (dg q) wr.drew) := ⟨HC.out.1.ahead ((Below.refl _ _).drew), HC.out.2.later ((Below.refl _ _).drew)⟩
      clear HC cA cB
      go_region_held3 (fun w' => w'.cell? ⟨b, o + j, none⟩ = some (.int .i64 (f j)) ∧ w'.cell? ⟨bq, oq + j, none⟩ = some (.int .i64 (g j))) (exact CC) (first
        | (go_at_call 53; refine (CL.out _ HD.out.1.c HD.out.1.f).mono ?_; rintro e wz ⟨rfl, hu⟩; replace CC := And.intro (hu.o _ _ na CC.1) (hu.o _ _ nb CC.2); have HF : Hid (Un d (c + hlC f g (j + 1)) w wz ∧ B12 w.heap.size (dg p) (dg q) wz) := ⟨HD.out.1.chain hu, HD.out.2.un hu (by omega)⟩; clear hu HD CL))
      clear CC
      by_cases hp : 0 < hgX f g j
      · have CM : Hid (∀ W : World, Calls Tryz.prog 46 #[.agg #[.int .u64 (dg (p) 0), .int .u64 (dg (p) 1), .int .u64 (dg (p) 2), .int .u64 (dg (p) 3), .int .u64 (dg (p) 4), .int .u64 (dg (p) 5), .int .u64 (dg (q) 0), .int .u64 (dg (q) 1), .int .u64 (dg (q) 2), .int .u64 (dg (q) 3), .int .u64 (dg (q) 4), .int .u64 (dg (q) 5)], .int .i64 (hgX f g j), .int .i64 0] W fun e w' => ∃ p' q', e = .returned (.agg #[.int .u64 (dg (p') 0), .int .u64 (dg (p') 1), .int .u64 (dg (p') 2), .int .u64 (dg (p') 3), .int .u64 (dg (p') 4), .int .u64 (dg (p') 5), .int .u64 (dg (q') 0), .int .u64 (dg (q') 1), .int .u64 (dg (q') 2), .int .u64 (dg (q') 3), .int .u64 (dg (q') 4), .int .u64 (dg (q') 5)]) ∧ Sm p' q' (sumV (posV (hgX f g)) (j + 1)) (((j + 1 : Nat) : Int) * 9223372036854775808) ∧ Below W.heap.size W w') := by
          intro W
          refine (sadd_any p q _ _ (hgX f g j) 0 (by omega) HSm.out r0 r1 W).mono ?_
          rintro e w' ⟨p', q', rfl, h, hb⟩
          refine ⟨p', q', rfl, ?_, hb⟩
          have e1 : hgX f g j * 2 ^ (32 * 0) = hgX f g j := by simp
          have e2 : (9223372036854775808 : Int) * 2 ^ (32 * 0) = 9223372036854775808 := by simp
          rw [e1, e2] at h
          rw [posV_pos _ _ hp]
          exact sm_mono h (by omega)
        have hS2 := HF.out.2
        have HU2 : Hid (Un d (c + hlC f g (j + 1)) w wz) := HF.out.1
        clear HF HSm r0 r1
        generalize hgX f g j = hv at *
        have x0 : wz.cell? ⟨w.heap.size, 0, none⟩ = some (.int .u64 (dg p 0)) := hS2.c 0 (by omega); have x1 : wz.cell? ⟨w.heap.size, 1, none⟩ = some (.int .u64 (dg p 1)) := hS2.c 1 (by omega); have x2 : wz.cell? ⟨w.heap.size, 2, none⟩ = some (.int .u64 (dg p 2)) := hS2.c 2 (by omega); have x3 : wz.cell? ⟨w.heap.size, 3, none⟩ = some (.int .u64 (dg p 3)) := hS2.c 3 (by omega); have x4 : wz.cell? ⟨w.heap.size, 4, none⟩ = some (.int .u64 (dg p 4)) := hS2.c 4 (by omega); have x5 : wz.cell? ⟨w.heap.size, 5, none⟩ = some (.int .u64 (dg p 5)) := hS2.c 5 (by omega); have x6 : wz.cell? ⟨w.heap.size, 6, none⟩ = some (.int .u64 (dg q 0)) := hS2.d 0 (by omega); have x7 : wz.cell? ⟨w.heap.size, 7, none⟩ = some (.int .u64 (dg q 1)) := hS2.d 1 (by omega); have x8 : wz.cell? ⟨w.heap.size, 8, none⟩ = some (.int .u64 (dg q 2)) := hS2.d 2 (by omega); have x9 : wz.cell? ⟨w.heap.size, 9, none⟩ = some (.int .u64 (dg q 3)) := hS2.d 3 (by omega); have x10 : wz.cell? ⟨w.heap.size, 10, none⟩ = some (.int .u64 (dg q 4)) := hS2.d 4 (by omega); have x11 : wz.cell? ⟨w.heap.size, 11, none⟩ = some (.int .u64 (dg q 5)) := hS2.d 5 (by omega); have xf0 : wz.frozen? ⟨w.heap.size, 0, none⟩ = false := hS2.f 0 (by omega); have xf1 : wz.frozen? ⟨w.heap.size, 1, none⟩ = false := hS2.f 1 (by omega); have xf2 : wz.frozen? ⟨w.heap.size, 2, none⟩ = false := hS2.f 2 (by omega); have xf3 : wz.frozen? ⟨w.heap.size, 3, none⟩ = false := hS2.f 3 (by omega); have xf4 : wz.frozen? ⟨w.heap.size, 4, none⟩ = false := hS2.f 4 (by omega); have xf5 : wz.frozen? ⟨w.heap.size, 5, none⟩ = false := hS2.f 5 (by omega); have xf6 : wz.frozen? ⟨w.heap.size, 6, none⟩ = false := hS2.g 0 (by omega); have xf7 : wz.frozen? ⟨w.heap.size, 7, none⟩ = false := hS2.g 1 (by omega); have xf8 : wz.frozen? ⟨w.heap.size, 8, none⟩ = false := hS2.g 2 (by omega); have xf9 : wz.frozen? ⟨w.heap.size, 9, none⟩ = false := hS2.g 3 (by omega); have xf10 : wz.frozen? ⟨w.heap.size, 10, none⟩ = false := hS2.g 4 (by omega); have xf11 : wz.frozen? ⟨w.heap.size, 11, none⟩ = false := hS2.g 5 (by omega)
        go_wp2_with fail
        refine (CM.out _).mono ?_
        rintro e w3 ⟨p', q', rfl, hSm, hb⟩
        clear x0 x1 x2 x3 x4 x5 x6 x7 x8 x9 x10 x11 xf0 xf1 xf2 xf3 xf4 xf5 xf6 xf7 xf8 xf9 xf10 xf11
        have hS3 := hS2.later hb
        have HU3 : Hid (Un d (c + hlC f g (j + 1)) w w3) := HU2.out.ahead hb
        have HSm2 : Hid (Sm p' q' (sumV (posV (hgX f g)) (j + 1)) (((j + 1 : Nat) : Int) * 9223372036854775808)) := hSm
        clear hb hS2 HU2 hSm CM
        have D5 := (hS3.allP (dg p')).allN (dg q')
        have HU5 : Hid (Un d (c + hlC f g (j + 1)) w _) := un6N (un6 HU3.out hd (Nat.le_refl _) (dg p')) hd (Nat.le_refl _) (dg q')
        have x0 : w3.cell? ⟨w.heap.size, 0, none⟩ = some (.int .u64 (dg p 0)) := hS3.c 0 (by omega); have x1 : w3.cell? ⟨w.heap.size, 1, none⟩ = some (.int .u64 (dg p 1)) := hS3.c 1 (by omega); have x2 : w3.cell? ⟨w.heap.size, 2, none⟩ = some (.int .u64 (dg p 2)) := hS3.c 2 (by omega); have x3 : w3.cell? ⟨w.heap.size, 3, none⟩ = some (.int .u64 (dg p 3)) := hS3.c 3 (by omega); have x4 : w3.cell? ⟨w.heap.size, 4, none⟩ = some (.int .u64 (dg p 4)) := hS3.c 4 (by omega); have x5 : w3.cell? ⟨w.heap.size, 5, none⟩ = some (.int .u64 (dg p 5)) := hS3.c 5 (by omega); have x6 : w3.cell? ⟨w.heap.size, 6, none⟩ = some (.int .u64 (dg q 0)) := hS3.d 0 (by omega); have x7 : w3.cell? ⟨w.heap.size, 7, none⟩ = some (.int .u64 (dg q 1)) := hS3.d 1 (by omega); have x8 : w3.cell? ⟨w.heap.size, 8, none⟩ = some (.int .u64 (dg q 2)) := hS3.d 2 (by omega); have x9 : w3.cell? ⟨w.heap.size, 9, none⟩ = some (.int .u64 (dg q 3)) := hS3.d 3 (by omega); have x10 : w3.cell? ⟨w.heap.size, 10, none⟩ = some (.int .u64 (dg q 4)) := hS3.d 4 (by omega); have x11 : w3.cell? ⟨w.heap.size, 11, none⟩ = some (.int .u64 (dg q 5)) := hS3.d 5 (by omega); have xf0 : w3.frozen? ⟨w.heap.size, 0, none⟩ = false := hS3.f 0 (by omega); have xf1 : w3.frozen? ⟨w.heap.size, 1, none⟩ = false := hS3.f 1 (by omega); have xf2 : w3.frozen? ⟨w.heap.size, 2, none⟩ = false := hS3.f 2 (by omega); have xf3 : w3.frozen? ⟨w.heap.size, 3, none⟩ = false := hS3.f 3 (by omega); have xf4 : w3.frozen? ⟨w.heap.size, 4, none⟩ = false := hS3.f 4 (by omega); have xf5 : w3.frozen? ⟨w.heap.size, 5, none⟩ = false := hS3.f 5 (by omega); have xf6 : w3.frozen? ⟨w.heap.size, 6, none⟩ = false := hS3.g 0 (by omega); have xf7 : w3.frozen? ⟨w.heap.size, 7, none⟩ = false := hS3.g 1 (by omega); have xf8 : w3.frozen? ⟨w.heap.size, 8, none⟩ = false := hS3.g 2 (by omega); have xf9 : w3.frozen? ⟨w.heap.size, 9, none⟩ = false := hS3.g 3 (by omega); have xf10 : w3.frozen? ⟨w.heap.size, 10, none⟩ = false := hS3.g 4 (by omega); have xf11 : w3.frozen? ⟨w.heap.size, 11, none⟩ = false := hS3.g 5 (by omega)
        clear hS3 HU3
        go_wp2
        go_roundw
        case rel => exact ⟨j + 1, p', q', by omega, by go_num, D5, HSm2, HU5⟩
        case measure => simp [intOf]; omega
      · have HSm2 : Hid (Sm p q (sumV (posV (hgX f g)) (j + 1)) (((j + 1 : Nat) : Int) * 9223372036854775808)) := by
          show Sm _ _ _ _
          rw [posV_neg _ _ hp]
          exact sm_mono HSm.out (by omega)
        have hS2 := HF.out.2
        have HU2 : Hid (Un d (c + hlC f g (j + 1)) w wz) := HF.out.1
        clear HF HSm
        go_wp2
        go_roundw
        case rel => exact ⟨j + 1, p, q, by omega, by go_num, hS2, HSm2, HU2⟩
        case measure => simp [intOf]; omega
    · obtain rfl : j = n := by omega
      have hjI : ¬ (j : Int) < (j : Int) := by omega
      have CE : Hid (∀ W : World, Calls Tryz.prog 48 #[.agg #[.int .u64 (dg (p) 0), .int .u64 (dg (p) 1), .int .u64 (dg (p) 2), .int .u64 (dg (p) 3), .int .u64 (dg (p) 4), .int .u64 (dg (p) 5), .int .u64 (dg (q) 0), .int .u64 (dg (q) 1), .int .u64 (dg (q) 2), .int .u64 (dg (q) 3), .int .u64 (dg (q) 4), .int .u64 (dg (q) 5)], .int .i64 0] W fun e w' => e = .returned (.tuple #[.int .i64 RX, .bool RO]) ∧ Below W.heap.size W w') := by
        intro W
        rw [← HR.out.1, ← HR.out.2]
        exact sround_of p q _ _ 0 (by omega) hSm.out (by omega) W
      have hcr := hlC_rng f g j
      have cR := hU.out.c
      have fR := hU.out.f
      clear hSm HR
      have x0 : wr.cell? ⟨w.heap.size, 0, none⟩ = some (.int .u64 (dg p 0)) := hS.c 0 (by omega); have x1 : wr.cell? ⟨w.heap.size, 1, none⟩ = some (.int .u64 (dg p 1)) := hS.c 1 (by omega); have x2 : wr.cell? ⟨w.heap.size, 2, none⟩ = some (.int .u64 (dg p 2)) := hS.c 2 (by omega); have x3 : wr.cell? ⟨w.heap.size, 3, none⟩ = some (.int .u64 (dg p 3)) := hS.c 3 (by omega); have x4 : wr.cell? ⟨w.heap.size, 4, none⟩ = some (.int .u64 (dg p 4)) := hS.c 4 (by omega); have x5 : wr.cell? ⟨w.heap.size, 5, none⟩ = some (.int .u64 (dg p 5)) := hS.c 5 (by omega); have x6 : wr.cell? ⟨w.heap.size, 6, none⟩ = some (.int .u64 (dg q 0)) := hS.d 0 (by omega); have x7 : wr.cell? ⟨w.heap.size, 7, none⟩ = some (.int .u64 (dg q 1)) := hS.d 1 (by omega); have x8 : wr.cell? ⟨w.heap.size, 8, none⟩ = some (.int .u64 (dg q 2)) := hS.d 2 (by omega); have x9 : wr.cell? ⟨w.heap.size, 9, none⟩ = some (.int .u64 (dg q 3)) := hS.d 3 (by omega); have x10 : wr.cell? ⟨w.heap.size, 10, none⟩ = some (.int .u64 (dg q 4)) := hS.d 4 (by omega); have x11 : wr.cell? ⟨w.heap.size, 11, none⟩ = some (.int .u64 (dg q 5)) := hS.d 5 (by omega); have xf0 : wr.frozen? ⟨w.heap.size, 0, none⟩ = false := hS.f 0 (by omega); have xf1 : wr.frozen? ⟨w.heap.size, 1, none⟩ = false := hS.f 1 (by omega); have xf2 : wr.frozen? ⟨w.heap.size, 2, none⟩ = false := hS.f 2 (by omega); have xf3 : wr.frozen? ⟨w.heap.size, 3, none⟩ = false := hS.f 3 (by omega); have xf4 : wr.frozen? ⟨w.heap.size, 4, none⟩ = false := hS.f 4 (by omega); have xf5 : wr.frozen? ⟨w.heap.size, 5, none⟩ = false := hS.f 5 (by omega); have xf6 : wr.frozen? ⟨w.heap.size, 6, none⟩ = false := hS.g 0 (by omega); have xf7 : wr.frozen? ⟨w.heap.size, 7, none⟩ = false := hS.g 1 (by omega); have xf8 : wr.frozen? ⟨w.heap.size, 8, none⟩ = false := hS.g 2 (by omega); have xf9 : wr.frozen? ⟨w.heap.size, 9, none⟩ = false := hS.g 3 (by omega); have xf10 : wr.frozen? ⟨w.heap.size, 10, none⟩ = false := hS.g 4 (by omega); have xf11 : wr.frozen? ⟨w.heap.size, 11, none⟩ = false := hS.g 5 (by omega)
      clear hS
      go_wp2_with fail
      refine (CE.out _).mono ?_
      rintro e w2 ⟨rfl, hb⟩
      clear x0 x1 x2 x3 x4 x5 x6 x7 x8 x9 x10 x11 xf0 xf1 xf2 xf3 xf4 xf5 xf6 xf7 xf8 xf9 xf10 xf11
      have HU2 := hU.out.ahead hb
      have HU3 : Hid (Un d (c + LP) w w2) := by have h := HU2; rw [hLP.out] at h; exact h
      clear HU2 hb cR fR CE hU
      have c2 := HU3.out.c
      have f2 := HU3.out.f
      have hLr : 0 ≤ LP ∧ LP ≤ 200000 := by rw [← hLP.out]; omega
      clear hcr hLP
      go_wp2_with fail
      refine (utake_any d (c + LP) RX RO (by omega) (by omega) _ c2 f2).mono ?_
      rintro e w3 ⟨rfl, hU3⟩
      have U4 : Hid (Un d (c + (LP + bi RO)) w w3) := by show Un _ _ _ _; rw [← Int.add_assoc]; exact HU3.out.chain hU3
      clear hU3 c2 f2 HU3
      go_wp2
      go_ret
      exact ⟨rfl, U4.out⟩
end Go.Proofs.YtdfjnbkkdgolnaaGreatDoor
set_option linter.unusedVariables false
set_option linter.unusedSimpArgs false
namespace Go.Proofs.YtdfjnbkkdgolnaaGreatDoor
open Go.RowKit

theorem wt_rng (z : Nat → Nat) (l u i : Nat) (hu : u < z (l + 1)) (hi : i < z l) : fsN z l ≤ wtN z l u i ∧ wtN z l u i < fsN z l + z l * z (l + 1) := by
  have h : (u + 1) * z l ≤ z (l + 1) * z l := Nat.mul_le_mul_right _ hu
  rw [Nat.succ_mul, Nat.mul_comm (z (l + 1))] at h
  unfold wtN
  omega
theorem of_rng (z : Nat → Nat) (l u : Nat) (hu : u < z (l + 1)) : fsN z l + z l * z (l + 1) ≤ ofN z l u ∧ ofN z l u < fsN z (l + 1) := ⟨by unfold ofN; omega, ofN_lt z l u hu⟩
/-- The layers from l on are filled in. -/
def GrL (z : Nat → Nat) (m : Nat) (V S : Nat → Nat → Int) (l : Nat) (F : Nat → Int) : Prop := ∀ l', l ≤ l' → l' + 1 < m → ∀ u, u < z (l' + 1) → (∀ i, i < z l' → F (wtN z l' u i) = gwX (S l') (V l') u i) ∧ F (ofN z l' u) = S l' u
theorem grL_all {z : Nat → Nat} {m : Nat} {V S : Nat → Nat → Int} {F : Nat → Int} (h : GrL z m V S 0 F) : Grd z m V S F := fun l hl u hu => h l (Nat.zero_le _) hl u hu
theorem grL_none (z : Nat → Nat) (m : Nat) (V S : Nat → Nat → Int) (F : Nat → Int) (l : Nat) (hl : m ≤ l + 1) : GrL z m V S l F := fun l' h1 h2 => by omega
theorem grC_rng (s v : Nat → Int) (n u : Nat) (hn : n ≤ 64) : 0 ≤ grC s v n u ∧ grC s v n u ≤ 64 * (u : Int) := by
  induction u with
  | zero => exact ⟨Int.le_refl _, Int.le_refl _⟩
  | succ u ih =>
    have h := cnt_rng (gwO s v u) n
    show 0 ≤ grC s v n u + cntV (gwO s v u) n ∧ grC s v n u + cntV (gwO s v u) n ≤ _
    omega
theorem bkC_rng (z : Nat → Nat) (m : Nat) (p : Nat → Int) (V S : Nat → Nat → Int) (k : Nat) (hz : ∀ i, i < m → z i ≤ 64) (hk : k + 1 ≤ m) : 0 ≤ bkC z m p V S k ∧ bkC z m p V S k ≤ 4160 * (k : Int) := by
  induction k with
  | zero => exact ⟨Int.le_refl _, Int.le_refl _⟩
  | succ k ih =>
    have h0 := ih (by omega)
    have hz1 := hz (m - 2 - k) (by omega)
    have hz2 := hz (m - 1 - k) (by omega)
    have h1 := grC_rng (S (m - 2 - k)) (V (m - 2 - k)) (z (m - 2 - k)) (z (m - 1 - k)) hz1
    have h2 := cnt_rng (ahO z p (S (m - 2 - k)) (V (m - 2 - k)) (m - 2 - k)) (z (m - 2 - k))
    show 0 ≤ bkC z m p V S k + grC (S (m - 2 - k)) (V (m - 2 - k)) (z (m - 2 - k)) (z (m - 1 - k)) + (if m - 2 - k = 0 then 0 else cntV (ahO z p (S (m - 2 - k)) (V (m - 2 - k)) (m - 2 - k)) (z (m - 2 - k))) ∧ _ + _ + _ ≤ _
    split <;> omega
theorem lsC_rng (s : Bool) (y t : Nat → Int) (n : Nat) : 0 ≤ lsC s y t n ∧ lsC s y t n ≤ 2 * (n : Int) + 1 := by
  have h1 := cnt_rng (dsO y t) n
  have h2 := cnt_rng (mpO y t) n
  have h3 := cnt_rng (hgO y t) n
  have h4 := bi_rng (ovv (lsS s y t n))
  unfold lsC lsP
  split <;> omega
theorem slC_rng (s : Bool) (y t : Nat → Int) (n : Nat) : 0 ≤ slC s y t n ∧ slC s y t n ≤ 3 * (n : Int) := by
  have h1 := cnt_rng (dsO y t) n
  have h2 := cnt_rng (mpO y t) n
  have h3 := cnt_rng (hgO y t) n
  have h4 := cnt_rng (slO y t) n
  unfold slC
  split <;> omega
/-- The kind of a loss, by its number. -/
def lsK (s : Bool) : Int := if s = true then 1 else 2
theorem loss_any (s : Bool) (va vb : Value) (n : Nat) (f g : Nat → Int) (d : Nat) (c : Int) (hn : n ≤ 70000) (c0 : 0 ≤ c) (c1 : c ≤ 900000000) (w : World) (hA : Ar w va n f) (hB : Ar w vb n g) (nA : Nb va d) (nB : Nb vb d) (hc : w.cell? ⟨d, 0, none⟩ = some (.int .i64 c)) (hf : w.frozen? ⟨d, 0, none⟩ = false) :
    Calls Tryz.prog 28 #[.pointer (some ⟨d, 0, none⟩), .int .i64 (lsK s), va, vb] w fun e w' => e = .returned (.int .i64 (lsX s f g n)) ∧ Un d (c + lsC s f g n) w w' := by
  cases s
  · exact loss_hg va vb n f g d c hn c0 c1 w hA hB nA nB hc hf
  · exact loss_sq va vb n f g d c hn c0 c1 w hA hB nA nB hc hf
theorem slope_any (s : Bool) (va vb : Value) (n : Nat) (f g : Nat → Int) (d : Nat) (c : Int) (hn : n ≤ 70000) (c0 : 0 ≤ c) (c1 : c ≤ 900000000) (w : World) (hA : Ar w va n f) (hB : Ar w vb n g) (nA : Nb va d) (nB : Nb vb d) (hc : w.cell? ⟨d, 0, none⟩ = some (.int .i64 c)) (hf : w.frozen? ⟨d, 0, none⟩ = false) :
    Calls Tryz.prog 29 #[.pointer (some ⟨d, 0, none⟩), .int .i64 (lsK s), va, vb] w fun e w' => ∃ v', e = .returned v' ∧ Ar w' v' n (slX s f g) ∧ Ow w.heap.size v' ∧ Un d (c + slC s f g n) w w' := by
  cases s
  · exact slope_hg va vb n f g d c hn c0 c1 w hA hB nA nB hc hf
  · exact slope_sq va vb n f g d c hn c0 c1 w hA hB nA nB hc hf
theorem Ar.put {w : World} {v : Value} {n : Nat} {f : Nat → Int} (h : Ar w v n f) {p : Addr} (hN : Nb v p.block) (u : Value) : Ar (w.setCell p u) v n f := by
  refine h.stay (fun a n' cap e hn => Below.heap_setCell _ _ _ _ ?_)
  exact hN a n' cap e hn
end Go.Proofs.YtdfjnbkkdgolnaaGreatDoor
set_option linter.unusedVariables false
set_option linter.unusedSimpArgs false
namespace Go.Proofs.YtdfjnbkkdgolnaaGreatDoor
open Go.RowKit

/-- How many are held of a gradient. -/
def gdC (s : Bool) (z : Nat → Nat) (m : Nat) (P x t : Nat → Int) : Int :=
  vC z m P x (m - 1) + lsC s (vN z m P x (m - 1)) t (z (m - 1)) + slC s (vN z m P x (m - 1)) t (z (m - 1)) + bkC z m P (vN z m P x) (sL z m P (vN z m P x) (slX s (vN z m P x (m - 1)) t)) (m - 1)
/-- The slopes of a net, layer by layer. -/
def gdS (s : Bool) (z : Nat → Nat) (m : Nat) (P x t : Nat → Int) : Nat → Nat → Int := sL z m P (vN z m P x) (slX s (vN z m P x (m - 1)) t)
theorem sL_rng (z : Nat → Nat) (m : Nat) (p : Nat → Int) (V : Nat → Nat → Int) (s0 : Nat → Int) (h0 : ∀ i, -9223372036854775808 ≤ s0 i ∧ s0 i ≤ 9223372036854775807) (l i : Nat) : -9223372036854775808 ≤ sL z m p V s0 l i ∧ sL z m p V s0 l i ≤ 9223372036854775807 := by
  unfold sL
  generalize m - 2 - l = k
  cases k with
  | zero => exact h0 i
  | succ k => exact ahX_rng _ _ _ _ _ _
end Go.Proofs.YtdfjnbkkdgolnaaGreatDoor
set_option linter.unusedVariables false
set_option linter.unusedSimpArgs false
namespace Go.Proofs.YtdfjnbkkdgolnaaGreatDoor
open Go.RowKit

/-- The part of the gradient at a place of layer l. -/
def gLay (z : Nat → Nat) (V S : Nat → Nat → Int) (l j : Nat) : Int :=
  if j < fsN z l + z l * z (l + 1) then gwX (S l) (V l) ((j - fsN z l) / z l) ((j - fsN z l) % z l) else S l (j - (fsN z l + z l * z (l + 1)))
/-- The gradient of the first n layers. -/
def gAll (z : Nat → Nat) (V S : Nat → Nat → Int) : Nat → Nat → Int
  | 0, _ => 0
  | n + 1, j => if j < fsN z n then gAll z V S n j else gLay z V S n j
theorem gAll_at (z : Nat → Nat) (V S : Nat → Nat → Int) (n l j : Nat) (hl : l < n) (h1 : fsN z l ≤ j) (h2 : j < fsN z (l + 1)) : gAll z V S n j = gLay z V S l j := by
  induction n with
  | zero => omega
  | succ n ih =>
    show (if j < fsN z n then gAll z V S n j else gLay z V S n j) = _
    rcases Nat.lt_or_ge l n with h | h
    · have hm := fsN_mono z (show l + 1 ≤ n from h)
      rw [if_pos (by omega)]
      exact ih h
    · obtain rfl : l = n := by omega
      rw [if_neg (by omega)]
theorem grd_all (z : Nat → Nat) (m : Nat) (V S : Nat → Nat → Int) : Grd z m V S (gAll z V S (m - 1)) := fun l hl u hu => by
  refine ⟨fun i hi => ?_, ?_⟩
  · have h := wt_rng z l u i hu hi
    have h3 := wtN_lt z l u i hu hi
    rw [gAll_at z V S (m - 1) l _ (by omega) h.1 h3]
    unfold gLay
    rw [if_pos h.2]
    have e : wtN z l u i - fsN z l = z l * u + i := by unfold wtN; rw [Nat.mul_comm]; omega
    rw [e, Nat.mul_add_div (by omega), Nat.div_eq_of_lt hi, Nat.add_zero, Nat.mul_add_mod, Nat.mod_eq_of_lt hi]
  · have h := of_rng z l u hu
    have h4 : fsN z l ≤ ofN z l u := by omega
    rw [gAll_at z V S (m - 1) l _ (by omega) h4 h.2]
    unfold gLay
    rw [if_neg (by omega)]
    have e : ofN z l u - (fsN z l + z l * z (l + 1)) = u := by unfold ofN; omega
    rw [e]
/-- The gradient of a net at an example. -/
def gdG (s : Bool) (z : Nat → Nat) (m : Nat) (P x t : Nat → Int) : Nat → Int := gAll z (vN z m P x) (gdS s z m P x t) (m - 1)
/-- The loss of a net at an example. -/
def gdX (s : Bool) (z : Nat → Nat) (m : Nat) (P x t : Nat → Int) : Int := lsX s (vN z m P x (m - 1)) t (z (m - 1))
theorem Ar.congr {w : World} {v : Value} {n : Nat} {f g : Nat → Int} (h : Ar w v n f) (e : ∀ k, k < n → f k = g k) : Ar w v n g := by
  obtain ⟨adr, cap, b, o, h1, h2, h3, h4, h5⟩ := h
  exact ⟨adr, cap, b, o, h1, h2, h3, h4, fun k hk => by rw [← e k hk]; exact h5 k hk⟩
/-- Examples: an input and targets each, apart from a unit. -/
def Exs (w : World) (d b o K : Nat) (nx nt : Nat → Nat) (xs ts : Nat → Nat → Int) : Prop :=
  b ≠ d ∧ ∀ k, k < K → ∃ vx vt : Value, w.cell? ⟨b, o + k * 2, none⟩ = some vx ∧ w.cell? ⟨b, o + k * 2 + 1, none⟩ = some vt ∧ Ar w vx (nx k) (xs k) ∧ Ar w vt (nt k) (ts k) ∧ Nb vx d ∧ Nb vt d
theorem Exs.later {w w' : World} {d b o K : Nat} {nx nt : Nat → Nat} {xs ts : Nat → Nat → Int} (h : Exs w d b o K nx nt xs ts) (hb : Below w.heap.size w w') : Exs w' d b o K nx nt xs ts :=
  ⟨h.1, fun k hk => by obtain ⟨vx, vt, h1, h2, h3, h4, h5, h6⟩ := h.2 k hk; exact ⟨vx, vt, cell_later hb h1, cell_later hb h2, h3.later hb, h4.later hb, h5, h6⟩⟩
theorem Exs.un {w w' : World} {d b o K : Nat} {nx nt : Nat → Nat} {xs ts : Nat → Nat → Int} {c : Int} (h : Exs w d b o K nx nt xs ts) (hU : Un d c w w') : Exs w' d b o K nx nt xs ts :=
  ⟨h.1, fun k hk => by obtain ⟨vx, vt, h1, h2, h3, h4, h5, h6⟩ := h.2 k hk; exact ⟨vx, vt, hU.o _ _ h.1 h1, hU.o _ _ h.1 h2, h3.un h5 hU, h4.un h6 hU, h5, h6⟩⟩
end Go.Proofs.YtdfjnbkkdgolnaaGreatDoor
set_option linter.unusedVariables false
set_option linter.unusedSimpArgs false
namespace Go.Proofs.YtdfjnbkkdgolnaaGreatDoor
open Go.RowKit

/-- What the program's functions ask of the world (a table that they read). -/
def VT (w : World) : Prop := TabAt w
theorem VT.later {w w' : World} (h : VT w) (hb : Below w.heap.size w w') : VT w' := TabAt.later h hb
/-- A unit's cell. -/
def Uc (w : World) (d : Nat) (c : Int) : Prop := w.cell? ⟨d, 0, none⟩ = some (.int .i64 c) ∧ w.frozen? ⟨d, 0, none⟩ = false
def dE (n m : Nat) : Int := if 65536 < n ∨ 65536 < m then 3 else if n = m then 0 else 40
def dX (n m : Nat) (f g : Nat → Int) : Int := if dE n m = 0 then clv (rr (dotV f g n) 32) else 0
def dO (n m : Nat) (f g : Nat → Int) : Bool := if dE n m = 0 then ovv (rr (dotV f g n) 32) else false
def sE (n : Nat) : Int := if 65536 < n then 3 else 0
def sX (n : Nat) (f : Nat → Int) : Int := if sE n = 0 then clv (sumV f n) else 0
def sO (n : Nat) (f : Nat → Int) : Bool := if sE n = 0 then ovv (sumV f n) else false
def nX (n : Nat) (f : Nat → Int) : Int := if sE n = 0 then rtX (dotV f f n) else 0
/-- The state of a law: two units, and whatever was there is there. -/
structure L2 (w : World) (du dv : Nat) (cu cv : Int) (wz : World) : Prop where
  B : Below w.heap.size w wz
  u : Uc wz du cu
  v : Uc wz dv cv
theorem Uc.later {w w' : World} {d : Nat} {c : Int} (h : Uc w d c) (hb : Below w.heap.size w w') : Uc w' d c := ⟨cell_later hb h.1, frozen_later hb h.1 h.2⟩
theorem Uc.un {w w' : World} {d d' : Nat} {c c' : Int} (h : Uc w d c) (hU : Un d' c' w w') (hd : d ≠ d') : Uc w' d c := by
  have hb := World.block_lt_of_cell? _ _ h.1
  have e := hU.k d hb hd
  exact ⟨(World.cell?_of_block (w := w) e).trans h.1, (World.frozen?_of_block (w := w) e).trans h.2⟩
theorem L2.later {w : World} {du dv : Nat} {cu cv : Int} {wz wy : World} (h : L2 w du dv cu cv wz) (hb : Below wz.heap.size wz wy) : L2 w du dv cu cv wy := ⟨bchain h.B hb, h.u.later hb, h.v.later hb⟩
theorem L2.unu {w : World} {du dv : Nat} {cu cv c : Int} {wz wy : World} (h : L2 w du dv cu cv wz) (hU : Un du c wz wy) (hu : w.heap.size ≤ du) (hne : du ≠ dv) : L2 w du dv c cv wy :=
  ⟨hU.b _ _ hu h.B.size h.B, ⟨hU.c, hU.f⟩, h.v.un hU (fun e => hne e.symm)⟩
theorem L2.unv {w : World} {du dv : Nat} {cu cv c : Int} {wz wy : World} (h : L2 w du dv cu cv wz) (hU : Un dv c wz wy) (hv : w.heap.size ≤ dv) (hne : du ≠ dv) : L2 w du dv cu c wy :=
  ⟨hU.b _ _ hv h.B.size h.B, h.u.un hU hne, ⟨hU.c, hU.f⟩⟩
theorem Ar.nb {w : World} {v : Value} {n : Nat} {f : Nat → Int} (h : Ar w v n f) {d : Nat} (hd : w.heap.size ≤ d) : Nb v d := by
  obtain ⟨adr, cap, b, o, rfl, h2, h3, h4, h5⟩ := h
  intro a n' cap' e hn
  have e2 := h4 (by cases e; exact hn)
  subst e2
  cases e
  have h6 : b < w.heap.size := World.block_lt_of_cell? _ _ (h5 0 hn).1
  show b ≠ d
  omega
end Go.Proofs.YtdfjnbkkdgolnaaGreatDoor
set_option linter.unusedVariables false
set_option linter.unusedSimpArgs false
namespace Go.Proofs.YtdfjnbkkdgolnaaGreatDoor
open Go.RowKit
attribute [local go_sem ↓] Go.wp_at_zero Go.wp_at_succ

def two (a b : Int) (k : Nat) : Int := if k = 0 then a else b
end Go.Proofs.YtdfjnbkkdgolnaaGreatDoor
set_option linter.unusedVariables false
set_option linter.unusedSimpArgs false
namespace Go.Proofs.YtdfjnbkkdgolnaaGreatDoor
open Go.RowKit

def cE (E c : Int) : Int := if E = 0 then c else 0
/-- A list that is answered: so many numbers in memory of its own, or none beside an error. -/
def LL (w w' : World) (v' : Value) (n : Nat) (F : Nat → Int) (E : Int) : Prop :=
  (E = 0 → Ar w' v' n F) ∧ (E ≠ 0 → ∃ ad cap, v' = .slice ad 0 cap) ∧ Ow w.heap.size v'
/-- A list that lies apart from both units. -/
structure An (du dv : Nat) (v : Value) (n : Nat) (f : Nat → Int) (wz : World) : Prop where
  a : Ar wz v n f
  u : Nb v du
  v : Nb v dv
theorem An.later {du dv : Nat} {v : Value} {n : Nat} {f : Nat → Int} {wz wy : World} (h : An du dv v n f wz) (hb : Below wz.heap.size wz wy) : An du dv v n f wy := ⟨h.a.later hb, h.u, h.v⟩
theorem An.unu {du dv : Nat} {v : Value} {n : Nat} {f : Nat → Int} {c : Int} {wz wy : World} (h : An du dv v n f wz) (hU : Un du c wz wy) : An du dv v n f wy := ⟨h.a.un h.u hU, h.u, h.v⟩
theorem An.unv {du dv : Nat} {v : Value} {n : Nat} {f : Nat → Int} {c : Int} {wz wy : World} (h : An du dv v n f wz) (hU : Un dv c wz wy) : An du dv v n f wy := ⟨h.a.un h.v hU, h.u, h.v⟩
theorem An.new {w : World} {du dv : Nat} {cu cv : Int} {wz wy : World} {v : Value} {n : Nat} {f : Nat → Int} (L : L2 w du dv cu cv wz) (hA : Ar wy v n f) (hO : Ow wz.heap.size v) : An du dv v n f wy :=
  ⟨hA, hO.nb (World.block_lt_of_cell? _ _ L.u.1), hO.nb (World.block_lt_of_cell? _ _ L.v.1)⟩
end Go.Proofs.YtdfjnbkkdgolnaaGreatDoor
set_option linter.unusedVariables false
set_option linter.unusedSimpArgs false
namespace Go.Proofs.YtdfjnbkkdgolnaaGreatDoor
open Go.RowKit
theorem Un.from {d : Nat} {n : Int} {w w1 w2 : World} (hb : Below w.heap.size w w1) (h : Un d n w1 w2) : Un d n w w2 := Un.after hb h
end Go.Proofs.YtdfjnbkkdgolnaaGreatDoor
set_option linter.unusedVariables false
set_option linter.unusedSimpArgs false
namespace Go.Proofs.YtdfjnbkkdgolnaaGreatDoor
open Go.RowKit
theorem below_own {B : Nat} {w wr w1 : World} {e : TypeId} {s : Nat} {v : Value} {n : Nat} {xs : List Value} {o : Obj} (hW : Below B w wr) (hB : B ≤ wr.heap.size) (hown : wr.ownsRow B e s v n xs) (hg : (wr.alloc o).grownBy w1 v.ownBlock) : Below B w w1 :=
  (hW.alloc hB o).grown hg (by rw [World.size_alloc]; omega) (fun k hk => (hown.lt k hk).1)
end Go.Proofs.YtdfjnbkkdgolnaaGreatDoor
set_option linter.unusedVariables false
set_option linter.unusedSimpArgs false
namespace Go.Proofs.YtdfjnbkkdgolnaaGreatDoor
open Go.RowKit

/-- A list of lists, apart from a block. -/
structure As (w : World) (d b o K n : Nat) (fs : Nat → Nat → Int) : Prop where
  c : ∀ k, k < K → ∃ va : Value, w.cell? ⟨b, o + k, none⟩ = some va ∧ Ar w va n (fs k) ∧ Nb va d
  a : b ≠ d
theorem As.un {w w' : World} {d b o K n : Nat} {fs : Nat → Nat → Int} {c : Int} (h : As w d b o K n fs) (hU : Un d c w w') : As w' d b o K n fs :=
  ⟨fun k hk => by obtain ⟨va, h1, h2, h3⟩ := h.c k hk; exact ⟨va, hU.o _ _ h.a h1, h2.un h3 hU, h3⟩, h.a⟩
theorem As.later {w w' : World} {d b o K n : Nat} {fs : Nat → Nat → Int} (h : As w d b o K n fs) (hb : Below w.heap.size w w') : As w' d b o K n fs :=
  ⟨fun k hk => by obtain ⟨va, h1, h2, h3⟩ := h.c k hk; exact ⟨va, cell_later hb h1, h2.later hb, h3⟩, h.a⟩
end Go.Proofs.YtdfjnbkkdgolnaaGreatDoor
set_option linter.unusedVariables false
set_option linter.unusedSimpArgs false
namespace Go.Proofs.YtdfjnbkkdgolnaaGreatDoor
open Go.RowKit

/-- A matrix's block: three cells. -/
structure M3 (b : Nat) (x y z : Value) (w : World) : Prop where
  c0 : w.cell? ⟨b, 0, none⟩ = some x
  c1 : w.cell? ⟨b, 1, none⟩ = some y
  c2 : w.cell? ⟨b, 2, none⟩ = some z
  f0 : w.frozen? ⟨b, 0, none⟩ = false
  f1 : w.frozen? ⟨b, 1, none⟩ = false
  f2 : w.frozen? ⟨b, 2, none⟩ = false
theorem M3.later {b : Nat} {x y z : Value} {w w' : World} (h : M3 b x y z w) (hb : Below w.heap.size w w') : M3 b x y z w' :=
  ⟨cell_later hb h.c0, cell_later hb h.c1, cell_later hb h.c2, frozen_later hb h.c0 h.f0, frozen_later hb h.c1 h.f1, frozen_later hb h.c2 h.f2⟩
theorem M3.lt {b : Nat} {x y z : Value} {w : World} (h : M3 b x y z w) : b < w.heap.size := World.block_lt_of_cell? _ _ h.c0
theorem M3.new (w : World) (x y z : Value) (t : TypeId) : M3 w.heap.size x y z (w.alloc (.cells #[x, y, z] t)) :=
  ⟨by simp [go_sem], by simp [go_sem], by simp [go_sem], by simp [go_sem], by simp [go_sem], by simp [go_sem]⟩
theorem M3.far {b : Nat} {x y z : Value} {w : World} {p : Addr} (h : M3 b x y z w) (u : Value) (hp : p.block ≠ b) : M3 b x y z (w.setCell p u) :=
  ⟨cell_set hp h.c0, cell_set hp h.c1, cell_set hp h.c2, by rw [World.frozen?_setCell]; exact h.f0, by rw [World.frozen?_setCell]; exact h.f1, by rw [World.frozen?_setCell]; exact h.f2⟩
theorem M3.all {b : Nat} {x y z : Value} {w : World} (h : M3 b x y z w) (x' y' z' : Value) : M3 b x' y' z' (((w.setCell ⟨b, 0, none⟩ x').setCell ⟨b, 1, none⟩ y').setCell ⟨b, 2, none⟩ z') := by
  have c0 := h.c0
  have c1 := h.c1
  have c2 := h.c2
  have f0 := h.f0
  have f1 := h.f1
  have f2 := h.f2
  refine ⟨?_, ?_, ?_, ?_, ?_, ?_⟩ <;> simp [go_sem, c0, c1, c2, f0, f1, f2]
theorem Ar.set {w : World} {v : Value} {n : Nat} {f : Nat → Int} {p : Addr} (h : Ar w v n f) (hd : Nb v p.block) (u : Value) : Ar (w.setCell p u) v n f := by
  obtain ⟨adr, cap, b, o, h1, h2, h3, h4, h5⟩ := h
  refine ⟨adr, cap, b, o, h1, h2, h3, h4, fun k hk => ⟨?_, (h5 k hk).2⟩⟩
  have e := h4 (by omega)
  subst e
  subst h1
  exact cell_set (fun e => hd _ _ _ rfl (by omega) e.symm) (h5 k hk).1
end Go.Proofs.YtdfjnbkkdgolnaaGreatDoor
set_option linter.unusedVariables false
set_option linter.unusedSimpArgs false
namespace Go.Proofs.YtdfjnbkkdgolnaaGreatDoor
open Go.RowKit

def otX (f g : Nat → Int) (m : Nat) (k : Nat) : Int := clv (rnd (f (k / m) * g (k % m)) 32)
def otN (f g : Nat → Int) (m : Nat) : Nat → Int
  | 0 => 0
  | i + 1 => otN f g m i + cntV (fun k => ovv (rnd (f i * g k) 32)) m
theorem ot_rng (f g : Nat → Int) (m : Nat) (i : Nat) : 0 ≤ otN f g m i ∧ otN f g m i ≤ ((i * m : Nat) : Int) := by
  induction i with
  | zero => simp [otN]
  | succ i ih =>
    have h := cnt_rng (fun k => ovv (rnd (f i * g k) 32)) m
    rw [Nat.add_mul, Nat.one_mul]
    show 0 ≤ otN f g m i + cntV _ m ∧ otN f g m i + cntV _ m ≤ _
    rw [Int.natCast_add]
    omega
theorem il_one (f : Nat → Int) (n : Nat) : ∀ u ∈ il f n, u.oneCell' = true := by
  intro u hu
  unfold il at hu
  obtain ⟨k, _, rfl⟩ := List.mem_map.1 hu
  rfl
theorem M3.block {b : Nat} {x y z : Value} {w w' : World} (h : M3 b x y z w) (e : w'.heap[b]? = w.heap[b]?) : M3 b x y z w' :=
  ⟨(World.cell?_of_block (w := w) e).trans h.c0, (World.cell?_of_block (w := w) e).trans h.c1, (World.cell?_of_block (w := w) e).trans h.c2, (World.frozen?_of_block (w := w) e).trans h.f0, (World.frozen?_of_block (w := w) e).trans h.f1, (World.frozen?_of_block (w := w) e).trans h.f2⟩
theorem M3.un {b : Nat} {x y z : Value} {w w' : World} {d : Nat} {c : Int} (h : M3 b x y z w) (hU : Un d c w w') (hb : b ≠ d) : M3 b x y z w' := h.block (hU.k b h.lt hb)
end Go.Proofs.YtdfjnbkkdgolnaaGreatDoor
set_option linter.unusedVariables false
set_option linter.unusedSimpArgs false
namespace Go.Proofs.YtdfjnbkkdgolnaaGreatDoor
open Go.RowKit
attribute [local go_sem ↓] Go.wp_at_zero Go.wp_at_succ

end Go.Proofs.YtdfjnbkkdgolnaaGreatDoor
set_option linter.unusedVariables false
set_option linter.unusedSimpArgs false
namespace Go.Proofs.YtdfjnbkkdgolnaaGreatDoor
open Go.RowKit
/-- A list of lists and a list, both growing; the parts lie apart from the unit and from both. -/
def Alf (w : World) (B d : Nat) (v u : Value) (j n : Nat) (fs : Nat → Nat → Int) (f : Nat → Int) : Prop :=
  ∃ xs : List Value, w.ownsRow B 35 1 v j xs ∧ w.ownsRow B 2 1 u j (il f j) ∧ ∀ k, k < j → ∃ va : Value, xs[k]? = some va ∧ Ar w va n (fs k) ∧ Nb va d ∧ (∀ g, v.ownBlock = some g → Nb va g) ∧ ∀ g, u.ownBlock = some g → Nb va g
theorem Alf.later {w w' : World} {B d : Nat} {v u : Value} {j n : Nat} {fs : Nat → Nat → Int} {f : Nat → Int} (h : Alf w B d v u j n fs f) (hb : Below w.heap.size w w') : Alf w' B d v u j n fs f := by
  obtain ⟨xs, h1, h0, h2⟩ := h
  exact ⟨xs, own_later h1 hb, own_later h0 hb, fun k hk => by obtain ⟨va, e, a, r⟩ := h2 k hk; exact ⟨va, e, a.later hb, r⟩⟩
theorem Alf.un {w w' : World} {B d : Nat} {v u : Value} {j n : Nat} {fs : Nat → Nat → Int} {f : Nat → Int} {c : Int} (h : Alf w B d v u j n fs f) (hU : Un d c w w') (hd : d < B) : Alf w' B d v u j n fs f := by
  obtain ⟨xs, h1, h0, h2⟩ := h
  exact ⟨xs, own_un h1 hU hd, own_un h0 hU hd, fun k hk => by obtain ⟨va, e, a, x, r⟩ := h2 k hk; exact ⟨va, e, a.un x hU, x, r⟩⟩
end Go.Proofs.YtdfjnbkkdgolnaaGreatDoor
set_option linter.unusedVariables false
set_option linter.unusedSimpArgs false
namespace Go.Proofs.YtdfjnbkkdgolnaaGreatDoor

/-- The stir. -/
def stY (x : Nat) : Nat := (x ^^^ x / 4294967296) * 11400714819323198549 % 18446744073709551616
def stZ (y : Nat) : Nat := (y ^^^ y / 536870912) * 15241094284759029579 % 18446744073709551616
def stN (x : Nat) : Nat := stZ (stY x) ^^^ stZ (stY x) / 4294967296
/-- A number as 64 bits without a sign. -/
def u6 (n : Int) : Nat := (n % 18446744073709551616).toNat
/-- One number more stirred in. -/
def mxN (w : Nat) (n : Int) : Nat := stN (((w ^^^ u6 n) + 14029467366897019727) % 18446744073709551616)
/-- A key's root. -/
def rtN (s : Nat) (a b c : Int) : Nat := mxN (mxN (mxN (stN ((s + 7046029254386353131) % 18446744073709551616)) a) b) c
/-- A word. -/
def wdN (s : Nat) (a b c i : Int) : Nat := stN (rtN s a b c ^^^ (u6 i * 11400714819323198485 % 18446744073709551616))
/-- What a round of a trip stirs in: the lowest bits of a word. -/
def rfN (s : Nat) (a b c : Int) (S t r : Nat) : Nat := wdN s a b c (1024 * (t : Int) + (r : Int)) % S
theorem rfN_lt (s : Nat) (a b c : Int) (S t r : Nat) (hS : 0 < S) : rfN s a b c S t r < S := Nat.mod_lt _ hS
/-- How wide a half is: the least power of two, 2 at least, whose square isn't below n. -/
def Hf (n b : Nat) : Prop := 1 ≤ b ∧ n ≤ 2 ^ b * 2 ^ b ∧ (b = 1 ∨ 2 ^ (b - 1) * 2 ^ (b - 1) < n)
theorem Hf.one {n b c : Nat} (h : Hf n b) (h' : Hf n c) : b = c := by
  have key : ∀ p q : Nat, Hf n p → Hf n q → ¬ p < q := fun p q hp hq hlt => by
    rcases hq.2.2 with h1 | h1
    · have := hp.1; omega
    · have h2 : 2 ^ p ≤ 2 ^ (q - 1) := Nat.pow_le_pow_right (by omega) (by omega)
      have h3 := Nat.mul_le_mul h2 h2
      have h4 := hp.2.1
      omega
  rcases Nat.lt_trichotomy b c with h1 | h1 | h1
  · exact absurd h1 (key b c h h')
  · exact h1
  · exact absurd h1 (key c b h' h)
/-- Where i goes. -/
def Goes (s : Nat) (a b c : Int) (n i x : Nat) : Prop := ∃ k, Hf n k ∧ Gets (trp (rfN s a b c (2 ^ k)) (2 ^ k)) n i x
def Comes (s : Nat) (a b c : Int) (n j x : Nat) : Prop := ∃ k, Hf n k ∧ Gets (prt (rfN s a b c (2 ^ k)) (2 ^ k)) n j x
theorem Goes.one {s : Nat} {a b c : Int} {n i x y : Nat} (h : Goes s a b c n i x) (h' : Goes s a b c n i y) : x = y := by
  obtain ⟨k, h1, h2⟩ := h
  obtain ⟨q, h3, h4⟩ := h'
  obtain rfl := h1.one h3
  exact h2.one h4
theorem Comes.one {s : Nat} {a b c : Int} {n i x y : Nat} (h : Comes s a b c n i x) (h' : Comes s a b c n i y) : x = y := by
  obtain ⟨k, h1, h2⟩ := h
  obtain ⟨q, h3, h4⟩ := h'
  obtain rfl := h1.one h3
  exact h2.one h4
theorem Goes.comes {s : Nat} {a b c : Int} {n i x : Nat} (hi : i < n) (h : Goes s a b c n i x) : Comes s a b c n x i := by
  obtain ⟨k, h1, h2⟩ := h
  have hf : ∀ t r, rfN s a b c (2 ^ k) t r < 2 ^ k := fun t r => rfN_lt _ _ _ _ _ _ _ (Nat.two_pow_pos k)
  exact ⟨k, h1, h2.back (fun y hy => trp_lt _ k hf y hy) (fun y hy => prt_trp _ k hf y hy) h1.2.1 hi⟩
theorem Comes.goes {s : Nat} {a b c : Int} {n i x : Nat} (hi : i < n) (h : Comes s a b c n i x) : Goes s a b c n x i := by
  obtain ⟨k, h1, h2⟩ := h
  have hf : ∀ t r, rfN s a b c (2 ^ k) t r < 2 ^ k := fun t r => rfN_lt _ _ _ _ _ _ _ (Nat.two_pow_pos k)
  exact ⟨k, h1, h2.back (fun y hy => prt_lt _ k hf y hy) (fun y hy => trp_prt _ k hf y hy) h1.2.1 hi⟩
theorem Goes.lt {s : Nat} {a b c : Int} {n i x : Nat} (h : Goes s a b c n i x) : x < n := by
  obtain ⟨k, -, m, -, -, h3, -⟩ := h
  exact h3
theorem Comes.lt {s : Nat} {a b c : Int} {n i x : Nat} (h : Comes s a b c n i x) : x < n := by
  obtain ⟨k, -, m, -, -, h3, -⟩ := h
  exact h3
end Go.Proofs.YtdfjnbkkdgolnaaGreatDoor
set_option linter.unusedVariables false
set_option linter.unusedSimpArgs false
namespace Go.Proofs.YtdfjnbkkdgolnaaGreatDoor
open Go.RowKit

/-- A block of four cells. -/
structure K4 (b : Nat) (x y z u : Value) (w : World) : Prop where
  c0 : w.cell? ⟨b, 0, none⟩ = some x
  c1 : w.cell? ⟨b, 1, none⟩ = some y
  c2 : w.cell? ⟨b, 2, none⟩ = some z
  c3 : w.cell? ⟨b, 3, none⟩ = some u
theorem K4.later {b : Nat} {x y z u : Value} {w w' : World} (h : K4 b x y z u w) (hb : Below w.heap.size w w') : K4 b x y z u w' :=
  ⟨(hb.cell (World.block_lt_of_cell? _ _ h.c0)).trans h.c0, (hb.cell (World.block_lt_of_cell? _ _ h.c1)).trans h.c1, (hb.cell (World.block_lt_of_cell? _ _ h.c2)).trans h.c2, (hb.cell (World.block_lt_of_cell? _ _ h.c3)).trans h.c3⟩
end Go.Proofs.YtdfjnbkkdgolnaaGreatDoor
set_option linter.unusedVariables false
set_option linter.unusedSimpArgs false
namespace Go.Proofs.YtdfjnbkkdgolnaaGreatDoor
open Go.RowKit

/-- What mlp asks of the world. -/
def MT (w : World) : Prop := TabAt w
theorem MT.later {w w' : World} (h : MT w) (hb : Below w.heap.size w w') : MT w' := TabAt.later h hb
/-- Are sizes right? -/
def Rt (f : Nat → Int) (m : Nat) : Prop := 2 ≤ m ∧ m ≤ 6 ∧ szB f m
/-- An empty answer. -/
def Emp (v : Value) : Prop := ∃ (ad : Option Addr) (cap : Nat), v = .slice ad 0 cap
structure Mlp3 : Prop where
  lossU : ∀ (s : Bool) (va vb : Value) (n : Nat) (f g : Nat → Int) (d : Nat) (c : Int) (w : World), n ≤ 65536 → 0 ≤ c → c ≤ 100000 → Ar w va n f → Ar w vb n g → Nb va d → Nb vb d → Uc w d c → MT w →
    Calls Tryz.prog 26 #[.pointer (some ⟨d, 0, none⟩), .int .i64 (lsK s), va, vb] w fun e w' => e = .returned (.tuple #[.int .i64 (lsX s f g n), .int .i64 0]) ∧ Un d (c + lsC s f g n) w w'
  slopeU : ∀ (s : Bool) (va vb : Value) (n : Nat) (f g : Nat → Int) (d : Nat) (c : Int) (w : World), n ≤ 65536 → 0 ≤ c → c ≤ 1000000 → Ar w va n f → Ar w vb n g → Nb va d → Nb vb d → Uc w d c → MT w →
    Calls Tryz.prog 27 #[.pointer (some ⟨d, 0, none⟩), .int .i64 (lsK s), va, vb] w fun e w' => ∃ v', e = .returned (.tuple #[v', .int .i64 0]) ∧ Ar w' v' n (slX s f g) ∧ Ow w.heap.size v' ∧ Un d (c + slC s f g n) w w'
  lossE : ∀ (L : Int) (va vb : Value) (n k : Nat) (f g : Nat → Int) (d : Nat) (c : Int) (w : World), n ≤ 65536 → k ≤ 65536 → Ar w va n f → Ar w vb k g → ¬ ((L = 1 ∨ L = 2) ∧ n = k) → Uc w d c → MT w →
    Calls Tryz.prog 26 #[.pointer (some ⟨d, 0, none⟩), .int .i64 L, va, vb] w fun e w' => e = .returned (.tuple #[.int .i64 0, .int .i64 (if L = 1 ∨ L = 2 then 40 else 71)]) ∧ Un d c w w'
  slopeE : ∀ (L : Int) (va vb : Value) (n k : Nat) (f g : Nat → Int) (d : Nat) (c : Int) (w : World), n ≤ 65536 → k ≤ 65536 → Ar w va n f → Ar w vb k g → ¬ ((L = 1 ∨ L = 2) ∧ n = k) → Uc w d c → MT w →
    Calls Tryz.prog 27 #[.pointer (some ⟨d, 0, none⟩), .int .i64 L, va, vb] w fun e w' => ∃ v', e = .returned (.tuple #[v', .int .i64 (if L = 1 ∨ L = 2 then 40 else 71)]) ∧ Emp v' ∧ Un d c w w'
/-- The first error of a net, a loss and an example; 0: none. -/
def rfE (f : Nat → Int) (m lp lx lt : Nat) (L : Int) (cp z0 zl : Nat) (E : Int) : Prop := (¬ Rt f m → E = 70) ∧ (Rt f m → ¬ (L = 1 ∨ L = 2) → E = 71) ∧ (Rt f m → (L = 1 ∨ L = 2) → ¬ (lp = cp ∧ lx = z0 ∧ lt = zl) → E = 40) ∧ (Rt f m → (L = 1 ∨ L = 2) → (lp = cp ∧ lx = z0 ∧ lt = zl) → E = 0)
structure Mlp4 : Prop where
  gradU : ∀ (s : Bool) (vs vp vx vt : Value) (m cp : Nat) (z : Nat → Nat) (P x t : Nat → Int) (d : Nat) (c : Int) (w : World), 0 ≤ c → c ≤ 100000 → Ar w vs m (fun i => ((z i : Nat) : Int)) → Ar w vp cp P → Ar w vx (z 0) x → Ar w vt (z (m - 1)) t → Szs z m → cp = fsN z (m - 1) → Nb vs d → Nb vp d → Nb vx d → Nb vt d → Uc w d c → MT w →
    Calls Tryz.prog 30 #[.pointer (some ⟨d, 0, none⟩), .int .i64 (lsK s), vs, vp, .agg #[vx, vt]] w fun e w' => ∃ v', e = .returned (.tuple #[v', .int .i64 (gdX s z m P x t), .int .i64 0]) ∧ Ar w' v' cp (gdG s z m P x t) ∧ Ow w.heap.size v' ∧ Un d (c + gdC s z m P x t) w w'
  gradN : ∀ (s : Bool) (vs vp vx vt : Value) (m cp : Nat) (z : Nat → Nat) (P x t : Nat → Int) (w : World), Ar w vs m (fun i => ((z i : Nat) : Int)) → Ar w vp cp P → Ar w vx (z 0) x → Ar w vt (z (m - 1)) t → Szs z m → cp = fsN z (m - 1) → MT w →
    Calls Tryz.prog 30 #[.pointer none, .int .i64 (lsK s), vs, vp, .agg #[vx, vt]] w fun e w' => ∃ v', e = .returned (.tuple #[v', .int .i64 (gdX s z m P x t), .int .i64 0]) ∧ Ar w' v' cp (gdG s z m P x t) ∧ Ow w.heap.size v' ∧ Below w.heap.size w w'
  gradE : ∀ (L : Int) (vs vp vx vt : Value) (m lp lx lt : Nat) (f P x t : Nat → Int) (z : Nat → Nat) (E : Int) (d : Nat) (c : Int) (w : World), m ≤ 100000 → Ar w vs m f → Ar w vp lp P → Ar w vx lx x → Ar w vt lt t → (∀ i, i < m → Rt f m → f i = ((z i : Nat) : Int)) → rfE f m lp lx lt L (fsN z (m - 1)) (z 0) (z (m - 1)) E → E ≠ 0 → Uc w d c → MT w →
    Calls Tryz.prog 30 #[.pointer (some ⟨d, 0, none⟩), .int .i64 L, vs, vp, .agg #[vx, vt]] w fun e w' => ∃ v', e = .returned (.tuple #[v', .int .i64 0, .int .i64 E]) ∧ Emp v' ∧ Un d c w w'
set_option maxRecDepth 100000 in
set_option maxHeartbeats 4000000 in
theorem plain7_any (va : Value) (n : Nat) (f : Nat → Int) (hn : n ≤ 70000) (w : World) (hA : Ar w va n f) :
    Calls Tryz.prog 19 #[va] w fun e w' => ∃ v', e = .returned v' ∧ Ar w' v' n f ∧ Ow w.heap.size v' ∧ Below w.heap.size w w' := by
  obtain ⟨i0, hi, hz0, hz1, hz2⟩ := info_parts dinfo_i64
  obtain ⟨adr, cap, b, o, rfl, k1, k2, k3, k4⟩ := hA
  unfold maxLen at k2
  have HA : Hid (∀ k, k < n → w.cell? ⟨b, o + k, none⟩ = some (.int .i64 (f k)) ∧ -9223372036854775808 ≤ f k ∧ f k ≤ 9223372036854775807) := k4
  have HK : Hid (0 < n → adr = some ⟨b, o, none⟩) := k3
  clear k3 k4
  go_enter Tryz.func19, Tryz.ntmps19
  go_wp2_with (at_make; refine wpList_make_own _ rfl _ _ 35 rfl w.heap.size 2 i0 (.int .i64 0) 1 Tryz.underlying35 hi hz0 hz1 .i64 .i64 (n : Int) n rfl rfl rfl (by rw [hz2]; omega) (by unfold maxLen; omega) (Nat.le_refl _) ?_; intro w1 hown hgrow)
  have hW1 : Below w.heap.size w w1 := (Below.refl _ w).grown hgrow (Nat.le_refl _) (fun k hk => by cases hk)
  clear hgrow
  go_wp2
  go_loopw [3, 11] (fun s3 s11 wr => ∃ j : Nat, j ≤ n ∧ s3 = .slice (some ⟨w.heap.size, 0, none⟩) j n ∧ s11 = .int .i64 (j : Int) ∧ wr.ownsRow w.heap.size 2 1 (.slice (some ⟨w.heap.size, 0, none⟩) j n) j (il f j) ∧ Below w.heap.size w wr) (fun _ s11 _ => n - (intOf s11).toNat)
  case atStart => exact ⟨0, by omega, rfl, rfl, hown, hW1⟩
  case round =>
    clear hown hW1
    obtain ⟨j, hj, rfl, rfl, hown, hW⟩ := hrel
    by_cases hlt : j < n
    · have hjI : (j : Int) < (n : Int) := by omega
      have ea := HK.out (by omega)
      subst ea
      obtain ⟨ca, a0, a1⟩ := HA.out j hlt
      have cA : wr.cell? ⟨b, o + j, none⟩ = some (.int .i64 (f j)) := (hW.cell (World.block_lt_of_cell? _ _ ca)).trans ca
      have bA := World.block_lt_of_cell? _ _ ca
      clear ca
      go_wp2_with (at_builtin; refine wpList_append_fits _ rfl _ _ 35 rfl w.heap.size 2 i0 1 Tryz.underlying35 hi hz1 w.heap.size j n _ rfl (hown.alloc _) ⟨wr.heap.size, 0, none⟩ 1 1 [.int .i64 (f j)] rfl rfl (cell_one_new _ _ _) (ints_oneCell .i64 [f j]) (by omega) ?_; intro w2 hown' hgrow)
      have hown3 : w2.ownsRow w.heap.size 2 1 (.slice (some ⟨w.heap.size, 0, none⟩) (j + 1) n) (j + 1) (il f (j + 1)) := by rw [il_succ]; exact hown'
      have hW3 : Below w.heap.size w w2 := dbelow_grown' hown hW hgrow rfl
      clear hown' hgrow hown hW
      go_wp2
      go_roundw
      case rel => exact ⟨j + 1, by omega, rfl, by go_num, hown3, hW3⟩
      case measure => simp [intOf]; omega
    · obtain rfl : j = n := by omega
      have HR : Hid (Ar wr (.slice (some ⟨w.heap.size, 0, none⟩) j j) j f ∧ Ow w.heap.size (.slice (some ⟨w.heap.size, 0, none⟩) j j)) := ar_of_own hown (fun k hk => (HA.out k hk).2)
      have HW : Hid (Below w.heap.size w wr) := hW
      clear hown hW
      go_wp2
      go_ret
      exact ⟨_, rfl, HR.out.1, HR.out.2, HW.out⟩
/-- Are lists short? -/
def shB (ns : Nat → Nat) (m : Nat) : Bool := (List.range m).all (fun k => decide (ns k ≤ 100))
theorem shB_no (ns : Nat → Nat) (m k : Nat) (hk : k < m) (h : 100 < ns k) : shB ns m = false := by
  cases hb : shB ns m with
  | false => rfl
  | true =>
    have := of_decide_eq_true (List.all_eq_true.1 hb k (List.mem_range.2 hk))
    omega
theorem shB_yes (ns : Nat → Nat) (m : Nat) (h : ∀ k, k < m → ns k ≤ 100) : shB ns m = true := List.all_eq_true.2 fun k hk => decide_eq_true (h k (List.mem_range.1 hk))
set_option maxHeartbeats 1000000 in
theorem short_any (g m cap : Nat) (ns : Nat → Nat) (hm : m ≤ 5) (h1 : m ≤ cap) (h2 : cap ≤ 100) (w : World) (hc : ∀ k, k < m → ns k ≤ maxLen ∧ ∃ (ad : Option Addr) (ca : Nat), w.cell? ⟨g, k, none⟩ = some (.slice ad (ns k) ca)) :
    Calls Tryz.prog 21 #[.slice (some ⟨g, 0, none⟩) m cap] w fun e w' => e = .returned (.bool (shB ns m)) ∧ w' = w := by
  have HC : Hid (∀ k, k < m → ns k ≤ maxLen ∧ ∃ (ad : Option Addr) (ca : Nat), w.cell? ⟨g, k, none⟩ = some (.slice ad (ns k) ca)) := hc
  clear hc
  obtain ⟨R, hR⟩ : ∃ R, shB ns m = R := ⟨_, rfl⟩
  have HR : Hid (shB ns m = R) := hR
  rw [hR]
  clear hR
  go_enter Tryz.func21, Tryz.ntmps21
  go_wp2
  go_loopw [7] (fun s7 wr => ∃ j : Nat, j ≤ m ∧ s7 = .int .i64 (j : Int) ∧ Hid (∀ k, k < j → ns k ≤ 100) ∧ wr = w) (fun s7 _ => m - (intOf s7).toNat)
  case atStart => exact ⟨0, by omega, rfl, fun k hk => by omega, rfl⟩
  case round =>
    obtain ⟨j, hj, rfl, hA, rfl⟩ := hrel
    by_cases hlt : j < m
    · have hjI : (j : Int) < (m : Int) := by omega
      obtain ⟨hl, ad, ca, hcell⟩ := HC.out j hlt
      unfold maxLen at hl
      by_cases h100 : ns j ≤ 100
      · have h2 : ¬ (100 : Int) < ((ns j : Nat) : Int) := by omega
        have HA2 : Hid (∀ k, k < j + 1 → ns k ≤ 100) := fun k hk => by
          rcases Nat.lt_or_ge k j with h | h
          · exact hA.out k h
          · obtain rfl : k = j := by omega
            exact h100
        clear hA h100
        go_wp2
        go_roundw
        case rel => exact ⟨j + 1, by omega, by go_num, HA2, trivial⟩
        case measure => simp [intOf]; omega
      · have h2 : (100 : Int) < ((ns j : Nat) : Int) := by omega
        have HF : Hid (R = false) := by show _ = _; rw [← HR.out]; exact shB_no ns m j hlt (by omega)
        clear hA h100 HR
        go_wp2
        go_ret
        exact ⟨by rw [HF.out]; rfl, rfl⟩
    · have HF : Hid (R = true) := by show _ = _; rw [← HR.out]; exact shB_yes ns m (fun k hk => hA.out k (by omega))
      have hjI : ¬ (j : Int) < (m : Int) := by omega
      clear hA HR
      go_wp2
      go_ret
      exact ⟨by rw [HF.out]; rfl, rfl⟩
end Go.Proofs.YtdfjnbkkdgolnaaGreatDoor
set_option linter.unusedVariables false
set_option linter.unusedSimpArgs false
namespace Go.Proofs.YtdfjnbkkdgolnaaGreatDoor
open Go.RowKit

/-- A yes or no. -/
def Tells (e : Ending) (p : Prop) : Prop := ∃ B : Bool, e = .returned (.bool B) ∧ (B = true ↔ p)
theorem Tells.yes {e : Ending} {p : Prop} (h : Tells e p) (hp : p) : e = .returned (.bool true) := by
  obtain ⟨B, rfl, hB⟩ := h
  rw [hB.2 hp]
theorem Tells.no {e : Ending} {p : Prop} (h : Tells e p) (hp : ¬ p) : e = .returned (.bool false) := by
  obtain ⟨B, rfl, hB⟩ := h
  cases B
  · rfl
  · exact absurd (hB.1 rfl) hp
end Go.Proofs.YtdfjnbkkdgolnaaGreatDoor
set_option linter.unusedVariables false
set_option linter.unusedSimpArgs false
namespace Go.Proofs.YtdfjnbkkdgolnaaGreatDoor
open Go.RowKit

def zA (i : Nat) : Nat := if i = 0 then 2 else 1
def pA (_ : Nat) : Int := 4294967296
def xA (i : Nat) : Int := if i = 0 then 8589934592 else 12884901888
def tA (_ : Nat) : Int := 17179869184
theorem aw7 : gdX true zA 2 pA xA tA = 8589934592 ∧ gdG true zA 2 pA xA tA 0 = 17179869184 ∧ gdG true zA 2 pA xA tA 1 = 25769803776 ∧ gdG true zA 2 pA xA tA 2 = 8589934592 := by decide +kernel
theorem awz : Szs zA 2 := ⟨by omega, by omega, fun i hi => by unfold zA; split <;> omega⟩
theorem ar_c3 (w : World) (x : Int) (h0 : -9223372036854775808 ≤ x) (h1 : x ≤ 9223372036854775807) (t : TypeId) : Ar (w.alloc (.cells #[.int .i64 x, .int .i64 x, .int .i64 x] t)) (.slice (some ⟨w.heap.size, 0, none⟩) 3 3) 3 (fun _ => x) :=
  ⟨_, 3, w.heap.size, 0, rfl, Nat.le_refl _, by unfold maxLen; omega, fun _ => rfl, fun k hk => ⟨by
    match k, hk with
    | 0, _ => simp [go_sem]
    | 1, _ => simp [go_sem]
    | 2, _ => simp [go_sem], h0, h1⟩⟩
theorem ar_c1 (w : World) (x : Int) (h0 : -9223372036854775808 ≤ x) (h1 : x ≤ 9223372036854775807) (t : TypeId) : Ar (w.alloc (.cells #[.int .i64 x] t)) (.slice (some ⟨w.heap.size, 0, none⟩) 1 1) 1 (fun _ => x) :=
  ⟨_, 1, w.heap.size, 0, rfl, Nat.le_refl _, by unfold maxLen; omega, fun _ => rfl, fun k hk => ⟨by
    match k, hk with
    | 0, _ => simp [go_sem], h0, h1⟩⟩
theorem ar_c2 (w : World) (x y : Int) (hx : -9223372036854775808 ≤ x ∧ x ≤ 9223372036854775807) (hy : -9223372036854775808 ≤ y ∧ y ≤ 9223372036854775807) (t : TypeId) : Ar (w.alloc (.cells #[.int .i64 x, .int .i64 y] t)) (.slice (some ⟨w.heap.size, 0, none⟩) 2 2) 2 (fun i => if i = 0 then x else y) :=
  ⟨_, 2, w.heap.size, 0, rfl, Nat.le_refl _, by unfold maxLen; omega, fun _ => rfl, fun k hk => by
    match k, hk with
    | 0, _ => exact ⟨by simp [go_sem], by simpa using hx⟩
    | 1, _ => exact ⟨by simp [go_sem], by simpa using hy⟩⟩
set_option maxRecDepth 100000 in
set_option maxHeartbeats 4000000 in
theorem awake7_any (V4 : Mlp4) (w : World) (hV : MT w) : Calls Tryz.prog 9 #[] w fun e w' => e = .returned (.bool true) ∧ Below w.heap.size w w' := by
  obtain ⟨w1, hw1⟩ : ∃ w1, w1 = w.alloc (.cells #[.int .i64 4294967296, .int .i64 4294967296, .int .i64 4294967296] 41) := ⟨_, rfl⟩
  obtain ⟨w2, hw2⟩ : ∃ w2, w2 = w1.alloc (.cells #[.int .i64 2, .int .i64 1] 3) := ⟨_, rfl⟩
  obtain ⟨w3, hw3⟩ : ∃ w3, w3 = w2.alloc (.cells #[.int .i64 8589934592, .int .i64 12884901888] 41) := ⟨_, rfl⟩
  obtain ⟨w4, hw4⟩ : ∃ w4, w4 = w3.alloc (.cells #[.int .i64 17179869184] 41) := ⟨_, rfl⟩
  have b1 : Below w.heap.size w w1 := by rw [hw1]; exact bel1 _ _
  have b2 : Below w1.heap.size w1 w2 := by rw [hw2]; exact bel1 _ _
  have b3 : Below w2.heap.size w2 w3 := by rw [hw3]; exact bel1 _ _
  have b4 : Below w3.heap.size w3 w4 := by rw [hw4]; exact bel1 _ _
  have s1 : w1.heap.size = w.heap.size + 1 := by rw [hw1, World.size_alloc]
  have s2 : w2.heap.size = w.heap.size + 1 + 1 := by rw [hw2, World.size_alloc, s1]
  have s3 : w3.heap.size = w.heap.size + 1 + 1 + 1 := by rw [hw3, World.size_alloc, s2]
  have a1 : Ar w4 (.slice (some ⟨w.heap.size, 0, none⟩) 3 3) 3 pA := by
    have h := ar_c3 w 4294967296 (by omega) (by omega) 41
    rw [← hw1] at h
    exact ((h.later b2).later b3).later b4
  have a2 : Ar w4 (.slice (some ⟨w.heap.size + 1, 0, none⟩) 2 2) 2 (fun i => ((zA i : Nat) : Int)) := by
    have h := ar_c2 w1 2 1 (by omega) (by omega) 3
    rw [← hw2, s1] at h
    exact ((h.later b3).later b4).congr (fun k hk => by unfold zA; split <;> rfl)
  have a3 : Ar w4 (.slice (some ⟨w.heap.size + 1 + 1, 0, none⟩) 2 2) 2 xA := by
    have h := ar_c2 w2 8589934592 12884901888 (by omega) (by omega) 41
    rw [← hw3, s2] at h
    exact h.later b4
  have a4 : Ar w4 (.slice (some ⟨w.heap.size + 1 + 1 + 1, 0, none⟩) 1 1) 1 tA := by
    have h := ar_c1 w3 17179869184 (by omega) (by omega) 41
    rw [← hw4, s3] at h
    exact h
  have HB : Hid (Below w.heap.size w w4) := bchain (bchain (bchain b1 b2) b3) b4
  have CG : Hid (Calls Tryz.prog 30 #[.pointer none, .int .i64 1, .slice (some ⟨w.heap.size + 1, 0, none⟩) 2 2, .slice (some ⟨w.heap.size, 0, none⟩) 3 3, .agg #[.slice (some ⟨w.heap.size + 1 + 1, 0, none⟩) 2 2, .slice (some ⟨w.heap.size + 1 + 1 + 1, 0, none⟩) 1 1]] w4 fun e w' => ∃ v', e = .returned (.tuple #[v', .int .i64 8589934592, .int .i64 0]) ∧ Ar w' v' 3 (gdG true zA 2 pA xA tA) ∧ Below w4.heap.size w4 w') := by
    refine (V4.gradN true _ _ _ _ 2 3 zA pA xA tA w4 a2 a1 a3 a4 awz rfl (hV.later HB.out)).mono ?_
    rintro e w' ⟨v', rfl, hA, -, hb⟩
    rw [aw7.1]
    exact ⟨v', rfl, hA, hb⟩
  have Hw : Hid (w4 = (((w.alloc (.cells #[.int .i64 4294967296, .int .i64 4294967296, .int .i64 4294967296] 41)).alloc (.cells #[.int .i64 2, .int .i64 1] 3)).alloc (.cells #[.int .i64 8589934592, .int .i64 12884901888] 41)).alloc (.cells #[.int .i64 17179869184] 41)) := by show _ = _; rw [hw4, hw3, hw2, hw1]
  clear hw1 hw2 hw3 hw4 b1 b2 b3 b4 s1 s2 s3 a1 a2 a3 a4
  go_enter Tryz.func9, Tryz.ntmps9
  go_wp2_with fail
  rw [← Hw.out]
  refine CG.out.mono ?_
  rintro e w5 ⟨v', rfl, hA, hb⟩
  obtain ⟨b, o, cap, rfl, k1, k2, k3, k4⟩ := hA.spot 0 (by omega)
  unfold maxLen at k1
  have c0 := k3 0 (by omega)
  have c1 := k3 1 (by omega)
  have c2 := k3 2 (by omega)
  rw [aw7.2.1] at c0
  rw [aw7.2.2.1] at c1
  rw [aw7.2.2.2] at c2
  rw [Nat.add_zero] at c0
  have HB5 : Hid (Below w.heap.size w w5) := bchain HB.out hb
  clear CG Hw hA k3 k4 hb HB
  go_wp2
  go_ret
  exact ⟨by first | rfl | simp, HB5.out⟩
end Go.Proofs.YtdfjnbkkdgolnaaGreatDoor
set_option linter.unusedVariables false
set_option linter.unusedSimpArgs false
namespace Go.Proofs.YtdfjnbkkdgolnaaGreatDoor
open Go.RowKit

theorem cell_fresh (w : World) (v : Value) (t : TypeId) : (w.alloc (.cells #[v] t)).cell? ⟨w.heap.size, 0, none⟩ = some v := by simp [go_sem]
theorem units_new {w w' : World} (hW : Below w.heap.size w w') (t t' : TypeId) : L2 w w'.heap.size (w'.heap.size + 1) 0 0 ((w'.alloc (.cells #[.int .i64 0] t)).alloc (.cells #[.int .i64 0] t')) := by
  refine ⟨bchain hW (bel2 _ _ _), ⟨?_, ?_⟩, ⟨?_, ?_⟩⟩
  · exact cell_later (bel1 _ _) (cell_fresh w' _ _)
  · exact frozen_later (bel1 _ _) (cell_fresh w' _ _) (by simp [go_sem])
  · have h := cell_fresh (w'.alloc (.cells #[.int .i64 0] t)) (.int .i64 0) t'
    rw [World.size_alloc] at h
    exact h
  · simp [go_sem]
theorem Ls.spot {w : World} {d : Nat} {v : Value} {m : Nat} {ns : Nat → Nat} {fs : Nat → Nat → Int} (h : Ls w d v m ns fs) : ∃ (g cap : Nat), v = .slice (some ⟨g, 0, none⟩) m cap ∧ m ≤ cap ∧ cap ≤ maxLen ∧ ∀ k, k < m → ∃ (ad : Option Addr) (ca : Nat), w.cell? ⟨g, k, none⟩ = some (.slice ad (ns k) ca) ∧ Ar w (.slice ad (ns k) ca) (ns k) (fs k) := by
  obtain ⟨g, cap, e, h1, h2, -, h4⟩ := h
  refine ⟨g, cap, e, h1, h2, fun k hk => ?_⟩
  obtain ⟨va, c, a, -⟩ := h4 k hk
  obtain ⟨adr, ca, b, o, rfl, r⟩ := id a
  exact ⟨adr, ca, c, a⟩
end Go.Proofs.YtdfjnbkkdgolnaaGreatDoor
