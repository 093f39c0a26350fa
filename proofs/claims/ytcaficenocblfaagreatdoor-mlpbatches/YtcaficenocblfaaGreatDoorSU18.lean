/-
  Texts of this proof, joined: LBase2 LAwake LLaw0 LRef.
-/
import Derived.Test.YtcaficenocblfaaGreatDoorSU08
import Derived.Test.YtcaficenocblfaaGreatDoorSU16
import Derived.Deep.RegionHeld3
set_option linter.unusedVariables false
set_option linter.unusedSimpArgs false
namespace Go.Proofs.YtcaficenocblfaaGreatDoor
open Go.RowKit

def Tells (e : Ending) (p : Prop) : Prop := ∃ B : Bool, e = .returned (.bool B) ∧ (B = true ↔ p)
theorem tells_yes {p : Prop} (h : p) : Tells (.returned (.bool true)) p := ⟨true, rfl, by simp [h]⟩
theorem tells_no {p : Prop} (h : ¬ p) : Tells (.returned (.bool false)) p := ⟨false, rfl, by simp [h]⟩
theorem Tells.yes {e : Ending} {p : Prop} (h : Tells e p) (hp : p) : e = .returned (.bool true) := by
  obtain ⟨B, rfl, hB⟩ := h
  rw [hB.2 hp]
theorem Tells.no {e : Ending} {p : Prop} (h : Tells e p) (hp : ¬ p) : e = .returned (.bool false) := by
  obtain ⟨B, rfl, hB⟩ := h
  cases B
  · rfl
  · exact absurd (hB.1 rfl) hp
def Zs (f : Nat → Int) (m : Nat) (z : Nat → Nat) : Prop := Rt f m → Szs z m ∧ ∀ i, i < m → f i = ((z i : Nat) : Int)
theorem zs_ex (f : Nat → Int) (m : Nat) : ∃ z, Zs f m z := by
  by_cases h : Rt f m
  · obtain ⟨z, h1, h2⟩ := h.szs
    exact ⟨z, fun _ => ⟨h1, h2⟩⟩
  · exact ⟨fun _ => 0, fun h' => absurd h' h⟩
def ctN (f : Nat → Int) (m : Nat) (z : Nat → Nat) (C : Int) : Prop := (Rt f m → C = ((fsN z (m - 1) : Nat) : Int)) ∧ (¬ Rt f m → C = -1)
theorem count7_any (vs : Value) (m : Nat) (f : Nat → Int) (z : Nat → Nat) (hz : Zs f m z) (w : World) (hA : Ar w vs m f) : Calls Tryz.prog 10 #[vs] w fun e w' => ∃ C : Int, e = .returned (.int .i64 C) ∧ ctN f m z C ∧ Below w.heap.size w w' := by
  by_cases h : Rt f m
  · obtain ⟨h1, h2⟩ := hz h
    refine (count_yes vs m z w (hA.congr h2) h1).mono ?_
    rintro e w' ⟨rfl, hb⟩
    exact ⟨_, rfl, ⟨fun _ => rfl, fun h' => absurd h h'⟩, hb⟩
  · refine (count_no vs m f w hA h).mono ?_
    rintro e w' ⟨rfl, hb⟩
    exact ⟨_, rfl, ⟨fun h' => absurd h' h, fun _ => rfl⟩, hb⟩
def fwP (f : Nat → Int) (m lp : Nat) (z : Nat → Nat) : Prop := m ≤ 10 ∧ lp ≤ 400 ∧ (Rt f m → fsN z (m - 1) ≤ 400)
set_option maxHeartbeats 2000000 in
theorem few7_any (vs vp : Value) (m lp : Nat) (f P : Nat → Int) (z : Nat → Nat) (hz : Zs f m z) (w : World) (hA : Ar w vs m f) (hP : Ar w vp lp P) : Calls Tryz.prog 5 #[.agg #[vs, vp]] w fun e w' => Tells e (fwP f m lp z) ∧ Below w.heap.size w w' := by
  have HC : Hid (∀ W : World, Below w.heap.size w W → Calls Tryz.prog 10 #[vs] W fun e w' => ∃ C : Int, e = .returned (.int .i64 C) ∧ ctN f m z C ∧ Below W.heap.size W w') := fun W hb => count7_any vs m f z hz W (hA.later hb)
  obtain ⟨adr, cap, b, o, rfl, k1, k2, -, -⟩ := hA
  obtain ⟨adp, cpp, bp, op, rfl, j1, j2, -, -⟩ := hP
  unfold maxLen at k2 j2
  have B0 : Hid (Below w.heap.size w (w.alloc (.cells #[.slice adr m cap, .slice adp lp cpp] 25))) := bel1 _ _
  have B1 : Hid (Bx w.heap.size (.slice adr m cap) (.slice adp lp cpp) (w.alloc (.cells #[.slice adr m cap, .slice adp lp cpp] 25))) := Bx.new w _ _ _
  by_cases hm : m ≤ 10
  · have hmI : ¬ (10 : Int) < (m : Int) := by omega
    by_cases hl : lp ≤ 400
    · have hlI : ¬ (400 : Int) < (lp : Int) := by omega
      have x0 := B1.out.c0
      have x1 := B1.out.c1
      go_enter Tryz.func5, Tryz.ntmps5
      go_upto_region 1 with fail
      generalize w.alloc (.cells #[.slice adr m cap, .slice adp lp cpp] 25) = w1 at *
      go_wp2_with fail
      refine (HC.out _ B0.out).mono ?_
      rintro e w2 ⟨C, rfl, hC, hb⟩
      have HW : Hid (Below w.heap.size w w2 ∧ ctN f m z C) := ⟨bchain B0.out hb, hC⟩
      clear hb hC HC x0 x1
      by_cases hq : C ≤ 400
      · have HT : Hid (fwP f m lp z) := ⟨hm, hl, fun hr => by have := HW.out.2.1 hr; omega⟩
        go_wp2
        go_ret
        exact ⟨tells_yes HT.out, HW.out.1⟩
      · have hqd : decide (C ≤ 400) = false := decide_eq_false hq
        have HT : Hid (¬ fwP f m lp z) := fun h => by
          by_cases hr : Rt f m
          · have h1 := HW.out.2.1 hr
            have h2 := h.2.2 hr
            omega
          · have := HW.out.2.2 hr
            omega
        go_wp2
        go_ret
        exact ⟨tells_no HT.out, HW.out.1⟩
    · have hlI : (400 : Int) < (lp : Int) := by omega
      have HT : Hid (¬ fwP f m lp z) := fun h => hl h.2.1
      have x0 := B1.out.c0
      have x1 := B1.out.c1
      go_enter Tryz.func5, Tryz.ntmps5
      go_upto_region 1 with fail
      generalize w.alloc (.cells #[.slice adr m cap, .slice adp lp cpp] 25) = w1 at *
      go_wp2
      go_ret
      exact ⟨tells_no HT.out, B0.out⟩
  · have hmI : (10 : Int) < (m : Int) := by omega
    have HT : Hid (¬ fwP f m lp z) := fun h => hm h.1
    have x0 := B1.out.c0
    go_enter Tryz.func5, Tryz.ntmps5
    go_upto_region 1 with fail
    generalize w.alloc (.cells #[.slice adr m cap, .slice adp lp cpp] 25) = w1 at *
    go_wp2
    go_ret
    exact ⟨tells_no HT.out, B0.out⟩
def rtP (f : Nat → Int) (m lp : Nat) (z : Nat → Nat) : Prop := Rt f m ∧ lp = fsN z (m - 1)
set_option maxHeartbeats 2000000 in
theorem right7_any (vs vp : Value) (m lp : Nat) (f P : Nat → Int) (z : Nat → Nat) (hz : Zs f m z) (hlp : lp ≤ 1000000) (w : World) (hA : Ar w vs m f) (hP : Ar w vp lp P) : Calls Tryz.prog 21 #[.agg #[vs, vp]] w fun e w' => Tells e (rtP f m lp z) ∧ Below w.heap.size w w' := by
  have HC : Hid (∀ W : World, Below w.heap.size w W → Calls Tryz.prog 10 #[vs] W fun e w' => ∃ C : Int, e = .returned (.int .i64 C) ∧ ctN f m z C ∧ Below W.heap.size W w') := fun W hb => count7_any vs m f z hz W (hA.later hb)
  obtain ⟨adr, cap, b, o, rfl, k1, k2, -, -⟩ := hA
  obtain ⟨adp, cpp, bp, op, rfl, j1, j2, -, -⟩ := hP
  unfold maxLen at k2 j2
  have B0 : Hid (Below w.heap.size w (w.alloc (.cells #[.slice adr m cap, .slice adp lp cpp] 25))) := bel1 _ _
  have B1 : Hid (Bx w.heap.size (.slice adr m cap) (.slice adp lp cpp) (w.alloc (.cells #[.slice adr m cap, .slice adp lp cpp] 25))) := Bx.new w _ _ _
  have x0 := B1.out.c0
  go_enter Tryz.func21, Tryz.ntmps21
  go_upto_region 1 with fail
  generalize w.alloc (.cells #[.slice adr m cap, .slice adp lp cpp] 25) = w1 at *
  go_wp2_with fail
  refine (HC.out _ B0.out).mono ?_
  rintro e w2 ⟨C, rfl, hC, hb⟩
  have HW : Hid (Below w.heap.size w w2 ∧ ctN f m z C) := ⟨bchain B0.out hb, hC⟩
  have x1 := cell_later hb B1.out.c1
  clear hb hC HC x0
  by_cases hr : Rt f m
  · have eC := HW.out.2.1 hr
    have hC0 : (0 : Int) ≤ C := by omega
    by_cases hq : lp = fsN z (m - 1)
    · have hcq : C = (lp : Int) := by omega
      have HT : Hid (rtP f m lp z) := ⟨hr, hq⟩
      clear eC hq
      subst hcq
      go_wp2
      go_ret
      exact ⟨tells_yes HT.out, HW.out.1⟩
    · have HT : Hid (¬ rtP f m lp z) := fun h => hq h.2
      have hcq : ¬ C = (lp : Int) := by omega
      have hcq1 : decide (C = (lp : Int)) = false := decide_eq_false hcq
      have hcq2 : (C == (lp : Int)) = false := by simp [hcq]
      clear eC hq
      go_wp2
      go_ret
      exact ⟨tells_no HT.out, HW.out.1⟩
  · have eC := HW.out.2.2 hr
    subst eC
    have HT : Hid (¬ rtP f m lp z) := fun h => hr h.1
    go_wp2
    go_ret
    exact ⟨tells_no HT.out, HW.out.1⟩
end Go.Proofs.YtcaficenocblfaaGreatDoor
set_option linter.unusedVariables false
set_option linter.unusedSimpArgs false
namespace Go.Proofs.YtcaficenocblfaaGreatDoor
open Go.RowKit

def zA (i : Nat) : Nat := if i = 0 then 2 else 1
def pA (_ : Nat) : Int := 4294967296
def xA (i : Nat) : Int := if i = 0 then 8589934592 else 12884901888
def tA (_ : Nat) : Int := 17179869184
theorem aw7 : gdX true zA 2 pA xA tA = 8589934592 ∧ gdG true zA 2 pA xA tA 0 = 17179869184 ∧ gdG true zA 2 pA xA tA 1 = 25769803776 ∧ gdG true zA 2 pA xA tA 2 = 8589934592 := by decide +kernel
theorem awz : Szs zA 2 := ⟨by omega, by omega, fun i hi => by unfold zA; split <;> omega⟩
theorem ar_c3 (w : World) (x : Int) (h0 : -9223372036854775808 ≤ x) (h1 : x ≤ 9223372036854775807) (t : TypeId) : Ar (w.alloc (.cells #[.int .i64 x, .int .i64 x, .int .i64 x] t)) (.slice (some ⟨w.heap.size, 0, none⟩) 3 3) 3 (fun _ => x) :=
  ⟨_, 3, w.heap.size, 0, rfl, Nat.le_refl _, by unfold maxLen; omega, fun _ => rfl, fun k hk => ⟨by
    match k, hk with
    | 0, _ => simp [go_sem]
    | 1, _ => simp [go_sem]
    | 2, _ => simp [go_sem], h0, h1⟩⟩
theorem ar_c1 (w : World) (x : Int) (h0 : -9223372036854775808 ≤ x) (h1 : x ≤ 9223372036854775807) (t : TypeId) : Ar (w.alloc (.cells #[.int .i64 x] t)) (.slice (some ⟨w.heap.size, 0, none⟩) 1 1) 1 (fun _ => x) :=
  ⟨_, 1, w.heap.size, 0, rfl, Nat.le_refl _, by unfold maxLen; omega, fun _ => rfl, fun k hk => ⟨by
    match k, hk with
    | 0, _ => simp [go_sem], h0, h1⟩⟩
theorem ar_c2 (w : World) (x y : Int) (hx : -9223372036854775808 ≤ x ∧ x ≤ 9223372036854775807) (hy : -9223372036854775808 ≤ y ∧ y ≤ 9223372036854775807) (t : TypeId) : Ar (w.alloc (.cells #[.int .i64 x, .int .i64 y] t)) (.slice (some ⟨w.heap.size, 0, none⟩) 2 2) 2 (fun i => if i = 0 then x else y) :=
  ⟨_, 2, w.heap.size, 0, rfl, Nat.le_refl _, by unfold maxLen; omega, fun _ => rfl, fun k hk => by
    match k, hk with
    | 0, _ => exact ⟨by simp [go_sem], by simpa using hx⟩
    | 1, _ => exact ⟨by simp [go_sem], by simpa using hy⟩⟩
set_option maxRecDepth 100000 in
set_option maxHeartbeats 4000000 in
theorem awake7_any (V4 : Mlp4) (w : World) (hV : MT w) : Calls Tryz.prog 4 #[] w fun e w' => e = .returned (.bool true) ∧ Below w.heap.size w w' := by
  obtain ⟨w1, hw1⟩ : ∃ w1, w1 = w.alloc (.cells #[.int .i64 4294967296, .int .i64 4294967296, .int .i64 4294967296] 36) := ⟨_, rfl⟩
  obtain ⟨w2, hw2⟩ : ∃ w2, w2 = w1.alloc (.cells #[.int .i64 2, .int .i64 1] 3) := ⟨_, rfl⟩
  obtain ⟨w3, hw3⟩ : ∃ w3, w3 = w2.alloc (.cells #[.int .i64 8589934592, .int .i64 12884901888] 36) := ⟨_, rfl⟩
  obtain ⟨w4, hw4⟩ : ∃ w4, w4 = w3.alloc (.cells #[.int .i64 17179869184] 36) := ⟨_, rfl⟩
  have b1 : Below w.heap.size w w1 := by rw [hw1]; exact bel1 _ _
  have b2 : Below w1.heap.size w1 w2 := by rw [hw2]; exact bel1 _ _
  have b3 : Below w2.heap.size w2 w3 := by rw [hw3]; exact bel1 _ _
  have b4 : Below w3.heap.size w3 w4 := by rw [hw4]; exact bel1 _ _
  have s1 : w1.heap.size = w.heap.size + 1 := by rw [hw1, World.size_alloc]
  have s2 : w2.heap.size = w.heap.size + 1 + 1 := by rw [hw2, World.size_alloc, s1]
  have s3 : w3.heap.size = w.heap.size + 1 + 1 + 1 := by rw [hw3, World.size_alloc, s2]
  have a1 : Ar w4 (.slice (some ⟨w.heap.size, 0, none⟩) 3 3) 3 pA := by
    have h := ar_c3 w 4294967296 (by omega) (by omega) 36
    rw [← hw1] at h
    exact ((h.later b2).later b3).later b4
  have a2 : Ar w4 (.slice (some ⟨w.heap.size + 1, 0, none⟩) 2 2) 2 (fun i => ((zA i : Nat) : Int)) := by
    have h := ar_c2 w1 2 1 (by omega) (by omega) 3
    rw [← hw2, s1] at h
    exact ((h.later b3).later b4).congr (fun k hk => by unfold zA; split <;> rfl)
  have a3 : Ar w4 (.slice (some ⟨w.heap.size + 1 + 1, 0, none⟩) 2 2) 2 xA := by
    have h := ar_c2 w2 8589934592 12884901888 (by omega) (by omega) 36
    rw [← hw3, s2] at h
    exact h.later b4
  have a4 : Ar w4 (.slice (some ⟨w.heap.size + 1 + 1 + 1, 0, none⟩) 1 1) 1 tA := by
    have h := ar_c1 w3 17179869184 (by omega) (by omega) 36
    rw [← hw4, s3] at h
    exact h
  have HB : Hid (Below w.heap.size w w4) := bchain (bchain (bchain b1 b2) b3) b4
  have CG : Hid (Calls Tryz.prog 15 #[.pointer none, .int .i64 1, .slice (some ⟨w.heap.size + 1, 0, none⟩) 2 2, .slice (some ⟨w.heap.size, 0, none⟩) 3 3, .agg #[.slice (some ⟨w.heap.size + 1 + 1, 0, none⟩) 2 2, .slice (some ⟨w.heap.size + 1 + 1 + 1, 0, none⟩) 1 1]] w4 fun e w' => ∃ v', e = .returned (.tuple #[v', .int .i64 8589934592, .int .i64 0]) ∧ Ar w' v' 3 (gdG true zA 2 pA xA tA) ∧ Below w4.heap.size w4 w') := by
    refine (V4.gradN true _ _ _ _ 2 3 zA pA xA tA w4 a2 a1 a3 a4 awz rfl (hV.later HB.out)).mono ?_
    rintro e w' ⟨v', rfl, hA, -, hb⟩
    rw [aw7.1]
    exact ⟨v', rfl, hA, hb⟩
  have Hw : Hid (w4 = (((w.alloc (.cells #[.int .i64 4294967296, .int .i64 4294967296, .int .i64 4294967296] 36)).alloc (.cells #[.int .i64 2, .int .i64 1] 3)).alloc (.cells #[.int .i64 8589934592, .int .i64 12884901888] 36)).alloc (.cells #[.int .i64 17179869184] 36)) := by show _ = _; rw [hw4, hw3, hw2, hw1]
  clear hw1 hw2 hw3 hw4 b1 b2 b3 b4 s1 s2 s3 a1 a2 a3 a4
  go_enter Tryz.func4, Tryz.ntmps4
  go_wp2_with fail
  rw [← Hw.out]
  refine CG.out.mono ?_
  rintro e w5 ⟨v', rfl, hA, hb⟩
  obtain ⟨b, o, cap, rfl, k1, k2, k3, k4⟩ := hA.spot 0 (by omega)
  unfold maxLen at k1
  have c0 := k3 0 (by omega)
  have c1 := k3 1 (by omega)
  have c2 := k3 2 (by omega)
  rw [aw7.2.1] at c0
  rw [aw7.2.2.1] at c1
  rw [aw7.2.2.2] at c2
  rw [Nat.add_zero] at c0
  have HB5 : Hid (Below w.heap.size w w5) := bchain HB.out hb
  clear CG Hw hA k3 k4 hb HB
  go_wp2
  go_ret
  exact ⟨by first | rfl | simp, HB5.out⟩
set_option maxRecDepth 100000 in
set_option maxHeartbeats 4000000 in
theorem netplain_any (vs vp : Value) (m lp : Nat) (f P : Nat → Int) (hl : lp ≤ 70000) (w : World) (hA : Ar w vs m f) (hP : Ar w vp lp P) : Calls Tryz.prog 12 #[.agg #[vs, vp]] w fun e w' => ∃ v', e = .returned (.agg #[vs, v']) ∧ Ar w' v' lp P ∧ Ow w.heap.size v' ∧ Below w.heap.size w w' := by
  have HC : Hid (∀ W : World, Below w.heap.size w W → Calls Tryz.prog 9 #[vp] W fun e w' => ∃ v', e = .returned v' ∧ Ar w' v' lp P ∧ Ow W.heap.size v' ∧ Below W.heap.size W w') := fun W hb => plain7_any vp lp P hl W (hP.later hb)
  obtain ⟨adr, cap, b, o, rfl, k1, k2, -, -⟩ := hA
  obtain ⟨adp, cpp, bp, op, rfl, j1, j2, -, -⟩ := hP
  obtain ⟨w1, hw1⟩ : ∃ w1, w1 = (w.alloc (.cells #[.slice adr m cap, .slice adp lp cpp] 25)).alloc (.cells #[.slice none 0 0, .slice none 0 0] 53) := ⟨_, rfl⟩
  have HB1 : Hid (Below w.heap.size w w1) := by rw [hw1]; exact bel2 _ _ _
  have HX : Hid (Bx w.heap.size (.slice adr m cap) (.slice adp lp cpp) w1) := by rw [hw1]; exact (Bx.new w _ _ _).later (bel1 _ _)
  have HY : Hid (Bx (w.heap.size + 1) (.slice none 0 0) (.slice none 0 0) w1) := by
    have h := Bx.new (w.alloc (.cells #[.slice adr m cap, .slice adp lp cpp] 25)) (.slice none 0 0) (.slice none 0 0) 53
    rw [World.size_alloc] at h
    rw [hw1]
    exact h
  go_enter Tryz.func12, Tryz.ntmps12
  go_upto_region 1 with fail
  rw [← hw1]
  clear hw1
  obtain ⟨g, hg⟩ : ∃ g, w.heap.size + 1 = g := ⟨_, rfl⟩
  rw [hg] at HY
  try simp only [hg]
  have hgw : w.heap.size < g := by omega
  clear hg
  have hbD : Below w1.heap.size w1 w1.drew := (Below.refl _ _).drew
  have A := HX.out.later hbD
  have Y := HY.out.later hbD
  have CW : Hid (Below w.heap.size w w1.drew) := bchain HB1.out hbD
  have y0 := Y.c0
  have y1 := Y.c1
  have y2 := Y.f0
  have y3 := Y.f1
  clear hbD HX HY HB1
  go_region_held3 (fun w' => w'.cell? ⟨w.heap.size, 0, none⟩ = some (.slice adr m cap) ∧ w'.cell? ⟨w.heap.size, 1, none⟩ = some (.slice adp lp cpp)) (first | exact ⟨A.c0, A.c1⟩ | exact ⟨cell_set (by dsimp only; omega) (cell_set (by dsimp only; omega) A.c0), cell_set (by dsimp only; omega) (cell_set (by dsimp only; omega) A.c1)⟩)
    (first | (go_at_call 9; refine (HC.out _ CW.out).mono ?_; rintro e wz ⟨v', rfl, hAz, hOz, hb⟩; obtain ⟨adz, caz, bz, oz, rfl, -, -, -, -⟩ := id hAz; have hNz : Nb (.slice adz lp caz) g := hOz.nb (World.block_lt_of_cell? _ _ y0); replace hOz := hOz.mono CW.out.size; replace A := A.later hb; replace Y := Y.later hb; replace y0 := Y.c0; replace y1 := Y.c1; replace y2 := Y.f0; replace y3 := Y.f1; replace CW := hidD CW hb; clear hb))
  have S := Y.set (.slice adr m cap) (.slice adz lp caz)
  have z0 := S.c0
  have z1 := S.c1
  have HZ : Hid (Ar ((wz.setCell ⟨g, 0, none⟩ (.slice adr m cap)).setCell ⟨g, 1, none⟩ (.slice adz lp caz)) (.slice adz lp caz) lp P ∧ Ow w.heap.size (.slice adz lp caz) ∧ Below w.heap.size w ((wz.setCell ⟨g, 0, none⟩ (.slice adr m cap)).setCell ⟨g, 1, none⟩ (.slice adz lp caz))) := ⟨(hAz.put (by exact hNz) _).put (by exact hNz) _, hOz, (CW.out.setCell (by dsimp only; omega) _).setCell (by dsimp only; omega) _⟩
  clear A Y y0 y1 y2 y3 CW S hAz hOz hNz
  go_wp2
  generalize ((wz.setCell ⟨g, 0, none⟩ (.slice adr m cap)).setCell ⟨g, 1, none⟩ (.slice adz lp caz)) = wq at *
  exact bodyPost_ret (v := .agg #[.slice adr m cap, .slice adz lp caz]) (by simp [results, Tryz.results12, go_sem, z0, z1]) rfl ⟨_, rfl, HZ.out.1, HZ.out.2.1, HZ.out.2.2⟩
end Go.Proofs.YtcaficenocblfaaGreatDoor
set_option linter.unusedVariables false
set_option linter.unusedSimpArgs false
namespace Go.Proofs.YtcaficenocblfaaGreatDoor
open Go.RowKit

theorem cell_fresh (w : World) (v : Value) (t : TypeId) : (w.alloc (.cells #[v] t)).cell? ⟨w.heap.size, 0, none⟩ = some v := by simp [go_sem]
theorem units_new {w w' : World} (hW : Below w.heap.size w w') (t t' : TypeId) : L2 w w'.heap.size (w'.heap.size + 1) 0 0 ((w'.alloc (.cells #[.int .i64 0] t)).alloc (.cells #[.int .i64 0] t')) := by
  refine ⟨bchain hW (bel2 _ _ _), ⟨?_, ?_⟩, ⟨?_, ?_⟩⟩
  · exact cell_later (bel1 _ _) (cell_fresh w' _ _)
  · exact frozen_later (bel1 _ _) (cell_fresh w' _ _) (by simp [go_sem])
  · have h := cell_fresh (w'.alloc (.cells #[.int .i64 0] t)) (.int .i64 0) t'
    rw [World.size_alloc] at h
    exact h
  · simp [go_sem]
end Go.Proofs.YtcaficenocblfaaGreatDoor
set_option linter.unusedVariables false
set_option linter.unusedSimpArgs false
namespace Go.Proofs.YtcaficenocblfaaGreatDoor
open Go.RowKit

set_option maxRecDepth 100000 in
set_option maxHeartbeats 16000000 in
theorem refusal_any (L : Int) (vs vp vx vt : Value) (m lp lx lt : Nat) (f P x t : Nat → Int) (z : Nat → Nat) (hz : Zs f m z) (hlp : lp ≤ 1000000) (hlx : lx ≤ 1000000) (hlt : lt ≤ 1000000) (w : World) (hA : Ar w vs m f) (hP : Ar w vp lp P) (hX : Ar w vx lx x) (hT : Ar w vt lt t) :
    Calls Tryz.prog 8 #[.agg #[vs, vp], .int .i64 L, .agg #[vx, vt]] w fun e w' => ∃ E : Int, e = .returned (.int .i64 E) ∧ rfE f m lp lx lt L (fsN z (m - 1)) (z 0) (z (m - 1)) E ∧ Below w.heap.size w w' := by
  have HZz : Hid (Zs f m z) := hz
  have HAll : Hid (Ar w vs m f ∧ Ar w vp lp P) := ⟨hA, hP⟩
  obtain ⟨adr, cap, b, o, rfl, k1, k2, -, -⟩ := id hA
  obtain ⟨adp, cpp, bp, op, rfl, j1, j2, -, -⟩ := id hP
  obtain ⟨adx, cax, bx, ox, rfl, i1, i2, -, -⟩ := id hX
  obtain ⟨adt, cat, bt, ot, rfl, l1, l2, -, -⟩ := id hT
  unfold maxLen at k2 j2 i2 l2
  have HCt : Hid (∀ W : World, Below w.heap.size w W → Calls Tryz.prog 10 #[.slice adr m cap] W fun e w' => ∃ C : Int, e = .returned (.int .i64 C) ∧ ctN f m z C ∧ Below W.heap.size W w') := fun W hb => count7_any _ m f z hz W (hA.later hb)
  have HRi : Hid (∀ W : World, Below w.heap.size w W → Calls Tryz.prog 21 #[.agg #[.slice adr m cap, .slice adp lp cpp]] W fun e w' => Tells e (rtP f m lp z) ∧ Below W.heap.size W w') := fun W hb => right7_any _ _ m lp f P z HZz.out (by omega) W (HAll.out.1.later hb) (HAll.out.2.later hb)
  obtain ⟨w1, hw1⟩ : ∃ w1, w1 = (w.alloc (.cells #[.slice adr m cap, .slice adp lp cpp] 25)).alloc (.cells #[.slice adx lx cax, .slice adt lt cat] 42) := ⟨_, rfl⟩
  have HB1 : Hid (Below w.heap.size w w1) := by rw [hw1]; exact bel2 _ _ _
  have HX1 : Hid (Bx w.heap.size (.slice adr m cap) (.slice adp lp cpp) w1) := by rw [hw1]; exact (Bx.new w _ _ _).later (bel1 _ _)
  have HY1 : Hid (Bx (w.heap.size + 1) (.slice adx lx cax) (.slice adt lt cat) w1) := by
    have h := Bx.new (w.alloc (.cells #[.slice adr m cap, .slice adp lp cpp] 25)) (.slice adx lx cax) (.slice adt lt cat) 42
    rw [World.size_alloc] at h
    rw [hw1]; exact h
  clear hP hX hT hz
  go_enter Tryz.func8, Tryz.ntmps8
  go_upto_region 1 with fail
  rw [← hw1]
  clear hw1
  have x0 := HX1.out.c0
  go_wp2_with fail
  refine (HCt.out _ HB1.out).mono ?_
  rintro e w2 ⟨C, rfl, hC, hb⟩
  have HB2 : Hid (Below w.heap.size w w2) := bchain HB1.out hb
  have HX2 : Hid (Bx w.heap.size (.slice adr m cap) (.slice adp lp cpp) w2) := HX1.out.later hb
  have HY2 : Hid (Bx (w.heap.size + 1) (.slice adx lx cax) (.slice adt lt cat) w2) := HY1.out.later hb
  clear hb HB1 HX1 HY1 HCt x0
  by_cases hr : Rt f m
  · have hC0 : ¬ C < 0 := by have := hC.1 hr; omega
    have Hr : Hid (Rt f m) := hr
    clear hC
    by_cases hL : L = 1 ∨ L = 2
    · obtain ⟨hs, hfz⟩ := HZz.out hr
      have hm2 : 2 ≤ m := hr.1
      have hm6 : m ≤ 6 := hr.2.1
      have hlq : IntKind.i64.wrap ((m : Int) - 1) = ((m - 1 : Nat) : Int) := by rw [IntKind.wrap_i64]; omega
      have hlq1 : ((m - 1 : Nat) : Int) < (m : Int) := by omega
      have hm0 : 0 < m := by omega
      have hlq4 : m - 1 < m := by omega
      obtain ⟨bs, os, caps, es, -, -, cellS, -⟩ := hA.spot 0 (by omega)
      cases es
      have c0 : w.cell? ⟨bs, os, none⟩ = some (.int .i64 ((z 0 : Nat) : Int)) := by
        have h := cellS 0 (by omega)
        rw [hfz 0 (by omega), Nat.add_zero] at h
        exact h
      have c1 : w.cell? ⟨bs, os + (m - 1), none⟩ = some (.int .i64 ((z (m - 1) : Nat) : Int)) := by
        have h := cellS (m - 1) (by omega)
        rw [hfz (m - 1) (by omega)] at h
        exact h
      have HcS : Hid (w2.cell? ⟨bs, os, none⟩ = some (.int .i64 ((z 0 : Nat) : Int)) ∧ w2.cell? ⟨bs, os + (m - 1), none⟩ = some (.int .i64 ((z (m - 1) : Nat) : Int))) := ⟨cell_later HB2.out c0, cell_later HB2.out c1⟩
      have hz0 := (hs.2.2 0 (by omega)).2
      have hz1 := (hs.2.2 (m - 1) (by omega)).2
      have HL : Hid (L = 1 ∨ L = 2) := hL
      clear cellS c0 c1 hs hfz hr hA HAll
      generalize hza : z 0 = za at *
      generalize hzb : z (m - 1) = zb at *
      by_cases hri : rtP f m lp z
      · by_cases hxz : lx = za
        · by_cases htz : lt = zb
          · subst hxz htz
            have HE : Hid (rfE f m lp lx lt L (fsN z (m - 1)) (z 0) (z (m - 1)) 0) := by rw [hza, hzb]; exact ⟨fun h => absurd Hr.out h, fun _ h => absurd HL.out h, fun _ _ h => absurd ⟨hri.2, rfl, rfl⟩ h, fun _ _ _ => rfl⟩
            clear hza hzb HL
            rcases hL with rfl | rfl
            all_goals
              go_upto_region 5 with fail
              have HB3 : Hid (Below w.heap.size w w2.drew) := bchain HB2.out (Below.refl _ _).drew
              have HS3 : w2.drew.cell? ⟨w.heap.size, 0, none⟩ = some (.slice (some ⟨bs, os, none⟩) m cap) ∧ w2.drew.cell? ⟨w.heap.size, 1, none⟩ = some (.slice adp lp cpp) ∧ w2.drew.cell? ⟨w.heap.size + 1, 0, none⟩ = some (.slice adx lx cax) ∧ w2.drew.cell? ⟨w.heap.size + 1, 1, none⟩ = some (.slice adt lt cat) ∧ w2.drew.cell? ⟨bs, os, none⟩ = some (.int .i64 (lx : Int)) ∧ w2.drew.cell? ⟨bs, os + (m - 1), none⟩ = some (.int .i64 (lt : Int)) := ⟨cell_drew HX2.out.c0, cell_drew HX2.out.c1, cell_drew HY2.out.c0, cell_drew HY2.out.c1, cell_drew HcS.out.1, cell_drew HcS.out.2⟩
              refine wp_region_held_drew (S := fun W' => W'.cell? ⟨w.heap.size, 0, none⟩ = some (.slice (some ⟨bs, os, none⟩) m cap) ∧ W'.cell? ⟨w.heap.size, 1, none⟩ = some (.slice adp lp cpp) ∧ W'.cell? ⟨w.heap.size + 1, 0, none⟩ = some (.slice adx lx cax) ∧ W'.cell? ⟨w.heap.size + 1, 1, none⟩ = some (.slice adt lt cat) ∧ W'.cell? ⟨bs, os, none⟩ = some (.int .i64 (lx : Int)) ∧ W'.cell? ⟨bs, os + (m - 1), none⟩ = some (.int .i64 (lt : Int))) (by kernel_rfl) HS3 (fun HS => ?_)
              clear HS3 HX2 HY2 HcS HB2
              generalize w2.drew = wD at *
              refine wpAnyH_take (i := 0) (v := ?_) rfl (by kernel_rfl) (by kernel_rfl) (by kernel_rfl) (fun _ _ _ h => h) (Or.inl ⟨by kernel_rfl, ?_⟩) HS ?_
              rotate_left
              · (rintro w ⟨s0, s1, s2, s3, s4, s5⟩; go_simp) <;> with_reducible rfl
              try simp only [Act.put, List.getElem_toArray, List.getElem_cons_succ, List.getElem_cons_zero, List.setIfInBounds_toArray, List.set_cons_zero, List.set_cons_succ]
              refine wpAnyH_ready (rs := [1]) (by kernel_rfl) (by simp) ?_
              refine AllReadyH.cons rfl (fun K hK => ?_) AllReadyH.nil
              go_simp
              refine (HRi.out _ HB3.out).mono ?_
              rintro e w3 ⟨hT3, hb3⟩
              have e3 := hT3.yes hri
              subst e3
              refine hK.out _ _ ⟨cell_later hb3 HS.1, cell_later hb3 HS.2.1, cell_later hb3 HS.2.2.1, cell_later hb3 HS.2.2.2.1, cell_later hb3 HS.2.2.2.2.1, cell_later hb3 HS.2.2.2.2.2⟩ (fun HS => ?_)
              clear hK K
              have HB4 : Hid (Below w.heap.size w w3) := bchain HB3.out hb3
              clear hb3 HB3 HRi hT3
              refine wpAnyH_take (i := 2) (v := ?_) rfl (by kernel_rfl) (by kernel_rfl) (by kernel_rfl) (fun _ _ _ h => h) (Or.inl ⟨by kernel_rfl, ?_⟩) HS ?_
              rotate_left
              · (rintro w ⟨s0, s1, s2, s3, s4, s5⟩; go_simp) <;> with_reducible rfl
              try simp only [Act.put, List.getElem_toArray, List.getElem_cons_succ, List.getElem_cons_zero, List.setIfInBounds_toArray, List.set_cons_zero, List.set_cons_succ]
              refine wpAnyH_take (i := 3) (v := ?_) rfl (by kernel_rfl) (by kernel_rfl) (by kernel_rfl) (fun _ _ _ h => h) (Or.inl ⟨by kernel_rfl, ?_⟩) HS ?_
              rotate_left
              · (rintro w ⟨s0, s1, s2, s3, s4, s5⟩; go_simp) <;> with_reducible rfl
              try simp only [Act.put, List.getElem_toArray, List.getElem_cons_succ, List.getElem_cons_zero, List.setIfInBounds_toArray, List.set_cons_zero, List.set_cons_succ]
              refine wpAnyH_take (i := 4) (v := ?_) rfl (by kernel_rfl) (by kernel_rfl) (by kernel_rfl) (fun _ _ _ h => h) (Or.inl ⟨by kernel_rfl, ?_⟩) HS ?_
              rotate_left
              · (rintro w ⟨s0, s1, s2, s3, s4, s5⟩; go_simp) <;> with_reducible rfl
              try simp only [Act.put, List.getElem_toArray, List.getElem_cons_succ, List.getElem_cons_zero, List.setIfInBounds_toArray, List.set_cons_zero, List.set_cons_succ]
              refine wpAnyH_take (i := 5) (v := ?_) rfl (by kernel_rfl) (by kernel_rfl) (by kernel_rfl) (fun _ _ _ h => h) (Or.inl ⟨by kernel_rfl, ?_⟩) HS ?_
              rotate_left
              · (rintro w ⟨s0, s1, s2, s3, s4, s5⟩; go_simp) <;> with_reducible rfl
              try simp only [Act.put, List.getElem_toArray, List.getElem_cons_succ, List.getElem_cons_zero, List.setIfInBounds_toArray, List.set_cons_zero, List.set_cons_succ]
              refine wpAnyH_take (i := 6) (v := ?_) rfl (by kernel_rfl) (by kernel_rfl) (by kernel_rfl) (fun _ _ _ h => h) (Or.inl ⟨by kernel_rfl, ?_⟩) HS ?_
              rotate_left
              · (rintro w ⟨s0, s1, s2, s3, s4, s5⟩; go_simp) <;> with_reducible rfl
              try simp only [Act.put, List.getElem_toArray, List.getElem_cons_succ, List.getElem_cons_zero, List.setIfInBounds_toArray, List.set_cons_zero, List.set_cons_succ]
              refine wpAnyH_take (i := 7) (v := ?_) rfl (by kernel_rfl) (by kernel_rfl) (by kernel_rfl) (fun _ _ _ h => h) (Or.inl ⟨by kernel_rfl, ?_⟩) HS ?_
              rotate_left
              · (rintro w ⟨s0, s1, s2, s3, s4, s5⟩; go_simp) <;> with_reducible rfl
              try simp only [Act.put, List.getElem_toArray, List.getElem_cons_succ, List.getElem_cons_zero, List.setIfInBounds_toArray, List.set_cons_zero, List.set_cons_succ]
              refine wpAnyH_take (i := 8) (v := ?_) rfl (by kernel_rfl) (by kernel_rfl) (by kernel_rfl) (fun _ _ _ h => h) (Or.inl ⟨by kernel_rfl, ?_⟩) HS ?_
              rotate_left
              · (rintro w ⟨s0, s1, s2, s3, s4, s5⟩; go_simp) <;> with_reducible rfl
              try simp only [Act.put, List.getElem_toArray, List.getElem_cons_succ, List.getElem_cons_zero, List.setIfInBounds_toArray, List.set_cons_zero, List.set_cons_succ]
              refine wpAnyH_take (i := 9) (v := ?_) rfl (by kernel_rfl) (by kernel_rfl) (by kernel_rfl) (fun _ _ _ h => h) (Or.inl ⟨by kernel_rfl, ?_⟩) HS ?_
              rotate_left
              · (rintro w ⟨s0, s1, s2, s3, s4, s5⟩; go_simp) <;> with_reducible rfl
              try simp only [Act.put, List.getElem_toArray, List.getElem_cons_succ, List.getElem_cons_zero, List.setIfInBounds_toArray, List.set_cons_zero, List.set_cons_succ]
              refine wpAnyH_take (i := 10) (v := ?_) rfl (by kernel_rfl) (by kernel_rfl) (by kernel_rfl) (fun _ _ _ h => h) (Or.inl ⟨by kernel_rfl, ?_⟩) HS ?_
              rotate_left
              · (rintro w ⟨s0, s1, s2, s3, s4, s5⟩; go_simp) <;> with_reducible rfl
              try simp only [Act.put, List.getElem_toArray, List.getElem_cons_succ, List.getElem_cons_zero, List.setIfInBounds_toArray, List.set_cons_zero, List.set_cons_succ]
              refine wpAnyH_take (i := 11) (v := ?_) rfl (by kernel_rfl) (by kernel_rfl) (by kernel_rfl) (fun _ _ _ h => h) (Or.inl ⟨by kernel_rfl, ?_⟩) HS ?_
              rotate_left
              · (rintro w ⟨s0, s1, s2, s3, s4, s5⟩; go_simp) <;> with_reducible rfl
              try simp only [Act.put, List.getElem_toArray, List.getElem_cons_succ, List.getElem_cons_zero, List.setIfInBounds_toArray, List.set_cons_zero, List.set_cons_succ]
              refine wpAnyH_take (i := 12) (v := ?_) rfl (by kernel_rfl) (by kernel_rfl) (by kernel_rfl) (fun _ _ _ h => h) (Or.inl ⟨by kernel_rfl, ?_⟩) HS ?_
              rotate_left
              · (rintro w ⟨s0, s1, s2, s3, s4, s5⟩; go_simp) <;> with_reducible rfl
              try simp only [Act.put, List.getElem_toArray, List.getElem_cons_succ, List.getElem_cons_zero, List.setIfInBounds_toArray, List.set_cons_zero, List.set_cons_succ]
              refine wpAnyH_take (i := 13) (v := ?_) rfl (by kernel_rfl) (by kernel_rfl) (by kernel_rfl) (fun _ _ _ h => h) (Or.inl ⟨by kernel_rfl, ?_⟩) HS ?_
              rotate_left
              · (rintro w ⟨s0, s1, s2, s3, s4, s5⟩; go_simp) <;> with_reducible rfl
              try simp only [Act.put, List.getElem_toArray, List.getElem_cons_succ, List.getElem_cons_zero, List.setIfInBounds_toArray, List.set_cons_zero, List.set_cons_succ]
              refine wpAnyH_take (i := 14) (v := ?_) rfl (by kernel_rfl) (by kernel_rfl) (by kernel_rfl) (fun _ _ _ h => h) (Or.inl ⟨by kernel_rfl, ?_⟩) HS ?_
              rotate_left
              · (rintro w ⟨s0, s1, s2, s3, s4, s5⟩; go_simp) <;> with_reducible rfl
              try simp only [Act.put, List.getElem_toArray, List.getElem_cons_succ, List.getElem_cons_zero, List.setIfInBounds_toArray, List.set_cons_zero, List.set_cons_succ]
              refine wpAnyH_take (i := 15) (v := ?_) rfl (by kernel_rfl) (by kernel_rfl) (by kernel_rfl) (fun _ _ _ h => h) (Or.inl ⟨by kernel_rfl, ?_⟩) HS ?_
              rotate_left
              · (rintro w ⟨s0, s1, s2, s3, s4, s5⟩; go_simp) <;> with_reducible rfl
              try simp only [Act.put, List.getElem_toArray, List.getElem_cons_succ, List.getElem_cons_zero, List.setIfInBounds_toArray, List.set_cons_zero, List.set_cons_succ]
              refine wpAnyH_take (i := 16) (v := ?_) rfl (by kernel_rfl) (by kernel_rfl) (by kernel_rfl) (fun _ _ _ h => h) (Or.inl ⟨by kernel_rfl, ?_⟩) HS ?_
              rotate_left
              · (rintro w ⟨s0, s1, s2, s3, s4, s5⟩; go_simp) <;> with_reducible rfl
              try simp only [Act.put, List.getElem_toArray, List.getElem_cons_succ, List.getElem_cons_zero, List.setIfInBounds_toArray, List.set_cons_zero, List.set_cons_succ]
              refine wpAnyH_take (i := 17) (v := ?_) rfl (by kernel_rfl) (by kernel_rfl) (by kernel_rfl) (fun _ _ _ h => h) (Or.inl ⟨by kernel_rfl, ?_⟩) HS ?_
              rotate_left
              · (rintro w ⟨s0, s1, s2, s3, s4, s5⟩; go_simp) <;> with_reducible rfl
              try simp only [Act.put, List.getElem_toArray, List.getElem_cons_succ, List.getElem_cons_zero, List.setIfInBounds_toArray, List.set_cons_zero, List.set_cons_succ]
              refine wpAnyH_take (i := 18) (v := ?_) rfl (by kernel_rfl) (by kernel_rfl) (by kernel_rfl) (fun _ _ _ h => h) (Or.inl ⟨by kernel_rfl, ?_⟩) HS ?_
              rotate_left
              · (rintro w ⟨s0, s1, s2, s3, s4, s5⟩; go_simp) <;> with_reducible rfl
              try simp only [Act.put, List.getElem_toArray, List.getElem_cons_succ, List.getElem_cons_zero, List.setIfInBounds_toArray, List.set_cons_zero, List.set_cons_succ]
              refine wpAnyH_take (i := 19) (v := ?_) rfl (by kernel_rfl) (by kernel_rfl) (by kernel_rfl) (fun _ _ _ h => h) (Or.inl ⟨by kernel_rfl, ?_⟩) HS ?_
              rotate_left
              · (rintro w ⟨s0, s1, s2, s3, s4, s5⟩; go_simp) <;> with_reducible rfl
              try simp only [Act.put, List.getElem_toArray, List.getElem_cons_succ, List.getElem_cons_zero, List.setIfInBounds_toArray, List.set_cons_zero, List.set_cons_succ]
              refine wpAnyH_take (i := 20) (v := ?_) rfl (by kernel_rfl) (by kernel_rfl) (by kernel_rfl) (fun _ _ _ h => h) (Or.inl ⟨by kernel_rfl, ?_⟩) HS ?_
              rotate_left
              · (rintro w ⟨s0, s1, s2, s3, s4, s5⟩; go_simp) <;> with_reducible rfl
              try simp only [Act.put, List.getElem_toArray, List.getElem_cons_succ, List.getElem_cons_zero, List.setIfInBounds_toArray, List.set_cons_zero, List.set_cons_succ]
              refine wpAnyH_take (i := 21) (v := ?_) rfl (by kernel_rfl) (by kernel_rfl) (by kernel_rfl) (fun _ _ _ h => h) (Or.inl ⟨by kernel_rfl, ?_⟩) HS ?_
              rotate_left
              · (rintro w ⟨s0, s1, s2, s3, s4, s5⟩; go_simp) <;> with_reducible rfl
              try simp only [Act.put, List.getElem_toArray, List.getElem_cons_succ, List.getElem_cons_zero, List.setIfInBounds_toArray, List.set_cons_zero, List.set_cons_succ]
              refine wpAnyH_take (i := 22) (v := ?_) rfl (by kernel_rfl) (by kernel_rfl) (by kernel_rfl) (fun _ _ _ h => h) (Or.inl ⟨by kernel_rfl, ?_⟩) HS ?_
              rotate_left
              · (rintro w ⟨s0, s1, s2, s3, s4, s5⟩; go_simp) <;> with_reducible rfl
              try simp only [Act.put, List.getElem_toArray, List.getElem_cons_succ, List.getElem_cons_zero, List.setIfInBounds_toArray, List.set_cons_zero, List.set_cons_succ]
              refine wpAnyH_take (i := 23) (v := ?_) rfl (by kernel_rfl) (by kernel_rfl) (by kernel_rfl) (fun _ _ _ h => h) (Or.inl ⟨by kernel_rfl, ?_⟩) HS ?_
              rotate_left
              · (rintro w ⟨s0, s1, s2, s3, s4, s5⟩; go_simp) <;> with_reducible rfl
              try simp only [Act.put, List.getElem_toArray, List.getElem_cons_succ, List.getElem_cons_zero, List.setIfInBounds_toArray, List.set_cons_zero, List.set_cons_succ]
              refine wpAnyH_take (i := 24) (v := ?_) rfl (by kernel_rfl) (by kernel_rfl) (by kernel_rfl) (fun _ _ _ h => h) (Or.inl ⟨by kernel_rfl, ?_⟩) HS ?_
              rotate_left
              · (rintro w ⟨s0, s1, s2, s3, s4, s5⟩; go_simp) <;> with_reducible rfl
              try simp only [Act.put, List.getElem_toArray, List.getElem_cons_succ, List.getElem_cons_zero, List.setIfInBounds_toArray, List.set_cons_zero, List.set_cons_succ]
              refine wpAnyH_take (i := 25) (v := ?_) rfl (by kernel_rfl) (by kernel_rfl) (by kernel_rfl) (fun _ _ _ h => h) (Or.inl ⟨by kernel_rfl, ?_⟩) HS ?_
              rotate_left
              · (rintro w ⟨s0, s1, s2, s3, s4, s5⟩; go_simp) <;> with_reducible rfl
              try simp only [Act.put, List.getElem_toArray, List.getElem_cons_succ, List.getElem_cons_zero, List.setIfInBounds_toArray, List.set_cons_zero, List.set_cons_succ]
              refine wpAnyH_take (i := 26) (v := ?_) rfl (by kernel_rfl) (by kernel_rfl) (by kernel_rfl) (fun _ _ _ h => h) (Or.inl ⟨by kernel_rfl, ?_⟩) HS ?_
              rotate_left
              · (rintro w ⟨s0, s1, s2, s3, s4, s5⟩; go_simp) <;> with_reducible rfl
              try simp only [Act.put, List.getElem_toArray, List.getElem_cons_succ, List.getElem_cons_zero, List.setIfInBounds_toArray, List.set_cons_zero, List.set_cons_succ]
              refine wpAnyH_take (i := 27) (v := ?_) rfl (by kernel_rfl) (by kernel_rfl) (by kernel_rfl) (fun _ _ _ h => h) (Or.inl ⟨by kernel_rfl, ?_⟩) HS ?_
              rotate_left
              · (rintro w ⟨s0, s1, s2, s3, s4, s5⟩; go_simp) <;> with_reducible rfl
              try simp only [Act.put, List.getElem_toArray, List.getElem_cons_succ, List.getElem_cons_zero, List.setIfInBounds_toArray, List.set_cons_zero, List.set_cons_succ]
              refine wpAnyH_done (by kernel_rfl) ?_ _
              clear HS
              go_wp2
              go_ret
              exact ⟨_, rfl, HE.out, HB4.out⟩
          · subst hxz
            have HE : Hid (rfE f m lp lx lt L (fsN z (m - 1)) (z 0) (z (m - 1)) 40) := by rw [hza, hzb]; exact ⟨fun h => absurd Hr.out h, fun _ h => absurd HL.out h, fun _ _ _ => rfl, fun _ _ h => absurd h.2.2 htz⟩
            have htz1 : ¬ (lt : Int) = (zb : Int) := by omega
            have htz2 : ((lt : Int) != (zb : Int)) = true := by simp [htz1]
            clear hza hzb HL
            rcases hL with rfl | rfl
            all_goals
              go_upto_region 5 with fail
              have HB3 : Hid (Below w.heap.size w w2.drew) := bchain HB2.out (Below.refl _ _).drew
              have HS3 : w2.drew.cell? ⟨w.heap.size, 0, none⟩ = some (.slice (some ⟨bs, os, none⟩) m cap) ∧ w2.drew.cell? ⟨w.heap.size, 1, none⟩ = some (.slice adp lp cpp) ∧ w2.drew.cell? ⟨w.heap.size + 1, 0, none⟩ = some (.slice adx lx cax) ∧ w2.drew.cell? ⟨w.heap.size + 1, 1, none⟩ = some (.slice adt lt cat) ∧ w2.drew.cell? ⟨bs, os, none⟩ = some (.int .i64 (lx : Int)) ∧ w2.drew.cell? ⟨bs, os + (m - 1), none⟩ = some (.int .i64 (zb : Int)) := ⟨cell_drew HX2.out.c0, cell_drew HX2.out.c1, cell_drew HY2.out.c0, cell_drew HY2.out.c1, cell_drew HcS.out.1, cell_drew HcS.out.2⟩
              refine wp_region_held_drew (S := fun W' => W'.cell? ⟨w.heap.size, 0, none⟩ = some (.slice (some ⟨bs, os, none⟩) m cap) ∧ W'.cell? ⟨w.heap.size, 1, none⟩ = some (.slice adp lp cpp) ∧ W'.cell? ⟨w.heap.size + 1, 0, none⟩ = some (.slice adx lx cax) ∧ W'.cell? ⟨w.heap.size + 1, 1, none⟩ = some (.slice adt lt cat) ∧ W'.cell? ⟨bs, os, none⟩ = some (.int .i64 (lx : Int)) ∧ W'.cell? ⟨bs, os + (m - 1), none⟩ = some (.int .i64 (zb : Int))) (by kernel_rfl) HS3 (fun HS => ?_)
              clear HS3 HX2 HY2 HcS HB2
              generalize w2.drew = wD at *
              refine wpAnyH_take (i := 0) (v := ?_) rfl (by kernel_rfl) (by kernel_rfl) (by kernel_rfl) (fun _ _ _ h => h) (Or.inl ⟨by kernel_rfl, ?_⟩) HS ?_
              rotate_left
              · (rintro w ⟨s0, s1, s2, s3, s4, s5⟩; go_simp) <;> with_reducible rfl
              try simp only [Act.put, List.getElem_toArray, List.getElem_cons_succ, List.getElem_cons_zero, List.setIfInBounds_toArray, List.set_cons_zero, List.set_cons_succ]
              refine wpAnyH_ready (rs := [1]) (by kernel_rfl) (by simp) ?_
              refine AllReadyH.cons rfl (fun K hK => ?_) AllReadyH.nil
              go_simp
              refine (HRi.out _ HB3.out).mono ?_
              rintro e w3 ⟨hT3, hb3⟩
              have e3 := hT3.yes hri
              subst e3
              refine hK.out _ _ ⟨cell_later hb3 HS.1, cell_later hb3 HS.2.1, cell_later hb3 HS.2.2.1, cell_later hb3 HS.2.2.2.1, cell_later hb3 HS.2.2.2.2.1, cell_later hb3 HS.2.2.2.2.2⟩ (fun HS => ?_)
              clear hK K
              have HB4 : Hid (Below w.heap.size w w3) := bchain HB3.out hb3
              clear hb3 HB3 HRi hT3
              refine wpAnyH_take (i := 2) (v := ?_) rfl (by kernel_rfl) (by kernel_rfl) (by kernel_rfl) (fun _ _ _ h => h) (Or.inl ⟨by kernel_rfl, ?_⟩) HS ?_
              rotate_left
              · (rintro w ⟨s0, s1, s2, s3, s4, s5⟩; go_simp) <;> with_reducible rfl
              try simp only [Act.put, List.getElem_toArray, List.getElem_cons_succ, List.getElem_cons_zero, List.setIfInBounds_toArray, List.set_cons_zero, List.set_cons_succ]
              refine wpAnyH_take (i := 3) (v := ?_) rfl (by kernel_rfl) (by kernel_rfl) (by kernel_rfl) (fun _ _ _ h => h) (Or.inl ⟨by kernel_rfl, ?_⟩) HS ?_
              rotate_left
              · (rintro w ⟨s0, s1, s2, s3, s4, s5⟩; go_simp) <;> with_reducible rfl
              try simp only [Act.put, List.getElem_toArray, List.getElem_cons_succ, List.getElem_cons_zero, List.setIfInBounds_toArray, List.set_cons_zero, List.set_cons_succ]
              refine wpAnyH_take (i := 4) (v := ?_) rfl (by kernel_rfl) (by kernel_rfl) (by kernel_rfl) (fun _ _ _ h => h) (Or.inl ⟨by kernel_rfl, ?_⟩) HS ?_
              rotate_left
              · (rintro w ⟨s0, s1, s2, s3, s4, s5⟩; go_simp) <;> with_reducible rfl
              try simp only [Act.put, List.getElem_toArray, List.getElem_cons_succ, List.getElem_cons_zero, List.setIfInBounds_toArray, List.set_cons_zero, List.set_cons_succ]
              refine wpAnyH_take (i := 5) (v := ?_) rfl (by kernel_rfl) (by kernel_rfl) (by kernel_rfl) (fun _ _ _ h => h) (Or.inl ⟨by kernel_rfl, ?_⟩) HS ?_
              rotate_left
              · (rintro w ⟨s0, s1, s2, s3, s4, s5⟩; go_simp) <;> with_reducible rfl
              try simp only [Act.put, List.getElem_toArray, List.getElem_cons_succ, List.getElem_cons_zero, List.setIfInBounds_toArray, List.set_cons_zero, List.set_cons_succ]
              refine wpAnyH_take (i := 6) (v := ?_) rfl (by kernel_rfl) (by kernel_rfl) (by kernel_rfl) (fun _ _ _ h => h) (Or.inl ⟨by kernel_rfl, ?_⟩) HS ?_
              rotate_left
              · (rintro w ⟨s0, s1, s2, s3, s4, s5⟩; go_simp) <;> with_reducible rfl
              try simp only [Act.put, List.getElem_toArray, List.getElem_cons_succ, List.getElem_cons_zero, List.setIfInBounds_toArray, List.set_cons_zero, List.set_cons_succ]
              refine wpAnyH_take (i := 7) (v := ?_) rfl (by kernel_rfl) (by kernel_rfl) (by kernel_rfl) (fun _ _ _ h => h) (Or.inl ⟨by kernel_rfl, ?_⟩) HS ?_
              rotate_left
              · (rintro w ⟨s0, s1, s2, s3, s4, s5⟩; go_simp) <;> with_reducible rfl
              try simp only [Act.put, List.getElem_toArray, List.getElem_cons_succ, List.getElem_cons_zero, List.setIfInBounds_toArray, List.set_cons_zero, List.set_cons_succ]
              refine wpAnyH_take (i := 8) (v := ?_) rfl (by kernel_rfl) (by kernel_rfl) (by kernel_rfl) (fun _ _ _ h => h) (Or.inl ⟨by kernel_rfl, ?_⟩) HS ?_
              rotate_left
              · (rintro w ⟨s0, s1, s2, s3, s4, s5⟩; go_simp) <;> with_reducible rfl
              try simp only [Act.put, List.getElem_toArray, List.getElem_cons_succ, List.getElem_cons_zero, List.setIfInBounds_toArray, List.set_cons_zero, List.set_cons_succ]
              refine wpAnyH_take (i := 9) (v := ?_) rfl (by kernel_rfl) (by kernel_rfl) (by kernel_rfl) (fun _ _ _ h => h) (Or.inl ⟨by kernel_rfl, ?_⟩) HS ?_
              rotate_left
              · (rintro w ⟨s0, s1, s2, s3, s4, s5⟩; go_simp) <;> with_reducible rfl
              try simp only [Act.put, List.getElem_toArray, List.getElem_cons_succ, List.getElem_cons_zero, List.setIfInBounds_toArray, List.set_cons_zero, List.set_cons_succ]
              refine wpAnyH_take (i := 10) (v := ?_) rfl (by kernel_rfl) (by kernel_rfl) (by kernel_rfl) (fun _ _ _ h => h) (Or.inl ⟨by kernel_rfl, ?_⟩) HS ?_
              rotate_left
              · (rintro w ⟨s0, s1, s2, s3, s4, s5⟩; go_simp) <;> with_reducible rfl
              try simp only [Act.put, List.getElem_toArray, List.getElem_cons_succ, List.getElem_cons_zero, List.setIfInBounds_toArray, List.set_cons_zero, List.set_cons_succ]
              refine wpAnyH_take (i := 11) (v := ?_) rfl (by kernel_rfl) (by kernel_rfl) (by kernel_rfl) (fun _ _ _ h => h) (Or.inl ⟨by kernel_rfl, ?_⟩) HS ?_
              rotate_left
              · (rintro w ⟨s0, s1, s2, s3, s4, s5⟩; go_simp) <;> with_reducible rfl
              try simp only [Act.put, List.getElem_toArray, List.getElem_cons_succ, List.getElem_cons_zero, List.setIfInBounds_toArray, List.set_cons_zero, List.set_cons_succ]
              refine wpAnyH_take (i := 12) (v := ?_) rfl (by kernel_rfl) (by kernel_rfl) (by kernel_rfl) (fun _ _ _ h => h) (Or.inl ⟨by kernel_rfl, ?_⟩) HS ?_
              rotate_left
              · (rintro w ⟨s0, s1, s2, s3, s4, s5⟩; go_simp) <;> with_reducible rfl
              try simp only [Act.put, List.getElem_toArray, List.getElem_cons_succ, List.getElem_cons_zero, List.setIfInBounds_toArray, List.set_cons_zero, List.set_cons_succ]
              refine wpAnyH_take (i := 13) (v := ?_) rfl (by kernel_rfl) (by kernel_rfl) (by kernel_rfl) (fun _ _ _ h => h) (Or.inl ⟨by kernel_rfl, ?_⟩) HS ?_
              rotate_left
              · (rintro w ⟨s0, s1, s2, s3, s4, s5⟩; go_simp) <;> with_reducible rfl
              try simp only [Act.put, List.getElem_toArray, List.getElem_cons_succ, List.getElem_cons_zero, List.setIfInBounds_toArray, List.set_cons_zero, List.set_cons_succ]
              refine wpAnyH_take (i := 14) (v := ?_) rfl (by kernel_rfl) (by kernel_rfl) (by kernel_rfl) (fun _ _ _ h => h) (Or.inl ⟨by kernel_rfl, ?_⟩) HS ?_
              rotate_left
              · (rintro w ⟨s0, s1, s2, s3, s4, s5⟩; go_simp) <;> with_reducible rfl
              try simp only [Act.put, List.getElem_toArray, List.getElem_cons_succ, List.getElem_cons_zero, List.setIfInBounds_toArray, List.set_cons_zero, List.set_cons_succ]
              refine wpAnyH_take (i := 15) (v := ?_) rfl (by kernel_rfl) (by kernel_rfl) (by kernel_rfl) (fun _ _ _ h => h) (Or.inl ⟨by kernel_rfl, ?_⟩) HS ?_
              rotate_left
              · (rintro w ⟨s0, s1, s2, s3, s4, s5⟩; go_simp) <;> with_reducible rfl
              try simp only [Act.put, List.getElem_toArray, List.getElem_cons_succ, List.getElem_cons_zero, List.setIfInBounds_toArray, List.set_cons_zero, List.set_cons_succ]
              refine wpAnyH_take (i := 16) (v := ?_) rfl (by kernel_rfl) (by kernel_rfl) (by kernel_rfl) (fun _ _ _ h => h) (Or.inl ⟨by kernel_rfl, ?_⟩) HS ?_
              rotate_left
              · (rintro w ⟨s0, s1, s2, s3, s4, s5⟩; go_simp) <;> with_reducible rfl
              try simp only [Act.put, List.getElem_toArray, List.getElem_cons_succ, List.getElem_cons_zero, List.setIfInBounds_toArray, List.set_cons_zero, List.set_cons_succ]
              refine wpAnyH_take (i := 17) (v := ?_) rfl (by kernel_rfl) (by kernel_rfl) (by kernel_rfl) (fun _ _ _ h => h) (Or.inl ⟨by kernel_rfl, ?_⟩) HS ?_
              rotate_left
              · (rintro w ⟨s0, s1, s2, s3, s4, s5⟩; go_simp) <;> with_reducible rfl
              try simp only [Act.put, List.getElem_toArray, List.getElem_cons_succ, List.getElem_cons_zero, List.setIfInBounds_toArray, List.set_cons_zero, List.set_cons_succ]
              refine wpAnyH_take (i := 18) (v := ?_) rfl (by kernel_rfl) (by kernel_rfl) (by kernel_rfl) (fun _ _ _ h => h) (Or.inl ⟨by kernel_rfl, ?_⟩) HS ?_
              rotate_left
              · (rintro w ⟨s0, s1, s2, s3, s4, s5⟩; go_simp) <;> with_reducible rfl
              try simp only [Act.put, List.getElem_toArray, List.getElem_cons_succ, List.getElem_cons_zero, List.setIfInBounds_toArray, List.set_cons_zero, List.set_cons_succ]
              refine wpAnyH_take (i := 19) (v := ?_) rfl (by kernel_rfl) (by kernel_rfl) (by kernel_rfl) (fun _ _ _ h => h) (Or.inl ⟨by kernel_rfl, ?_⟩) HS ?_
              rotate_left
              · (rintro w ⟨s0, s1, s2, s3, s4, s5⟩; go_simp) <;> with_reducible rfl
              try simp only [Act.put, List.getElem_toArray, List.getElem_cons_succ, List.getElem_cons_zero, List.setIfInBounds_toArray, List.set_cons_zero, List.set_cons_succ]
              refine wpAnyH_take (i := 20) (v := ?_) rfl (by kernel_rfl) (by kernel_rfl) (by kernel_rfl) (fun _ _ _ h => h) (Or.inl ⟨by kernel_rfl, ?_⟩) HS ?_
              rotate_left
              · (rintro w ⟨s0, s1, s2, s3, s4, s5⟩; go_simp) <;> with_reducible rfl
              try simp only [Act.put, List.getElem_toArray, List.getElem_cons_succ, List.getElem_cons_zero, List.setIfInBounds_toArray, List.set_cons_zero, List.set_cons_succ]
              refine wpAnyH_take (i := 21) (v := ?_) rfl (by kernel_rfl) (by kernel_rfl) (by kernel_rfl) (fun _ _ _ h => h) (Or.inl ⟨by kernel_rfl, ?_⟩) HS ?_
              rotate_left
              · (rintro w ⟨s0, s1, s2, s3, s4, s5⟩; go_simp) <;> with_reducible rfl
              try simp only [Act.put, List.getElem_toArray, List.getElem_cons_succ, List.getElem_cons_zero, List.setIfInBounds_toArray, List.set_cons_zero, List.set_cons_succ]
              refine wpAnyH_take (i := 22) (v := ?_) rfl (by kernel_rfl) (by kernel_rfl) (by kernel_rfl) (fun _ _ _ h => h) (Or.inl ⟨by kernel_rfl, ?_⟩) HS ?_
              rotate_left
              · (rintro w ⟨s0, s1, s2, s3, s4, s5⟩; go_simp) <;> with_reducible rfl
              try simp only [Act.put, List.getElem_toArray, List.getElem_cons_succ, List.getElem_cons_zero, List.setIfInBounds_toArray, List.set_cons_zero, List.set_cons_succ]
              refine wpAnyH_take (i := 23) (v := ?_) rfl (by kernel_rfl) (by kernel_rfl) (by kernel_rfl) (fun _ _ _ h => h) (Or.inl ⟨by kernel_rfl, ?_⟩) HS ?_
              rotate_left
              · (rintro w ⟨s0, s1, s2, s3, s4, s5⟩; go_simp) <;> with_reducible rfl
              try simp only [Act.put, List.getElem_toArray, List.getElem_cons_succ, List.getElem_cons_zero, List.setIfInBounds_toArray, List.set_cons_zero, List.set_cons_succ]
              refine wpAnyH_take (i := 24) (v := ?_) rfl (by kernel_rfl) (by kernel_rfl) (by kernel_rfl) (fun _ _ _ h => h) (Or.inl ⟨by kernel_rfl, ?_⟩) HS ?_
              rotate_left
              · (rintro w ⟨s0, s1, s2, s3, s4, s5⟩; go_simp) <;> with_reducible rfl
              try simp only [Act.put, List.getElem_toArray, List.getElem_cons_succ, List.getElem_cons_zero, List.setIfInBounds_toArray, List.set_cons_zero, List.set_cons_succ]
              refine wpAnyH_take (i := 25) (v := ?_) rfl (by kernel_rfl) (by kernel_rfl) (by kernel_rfl) (fun _ _ _ h => h) (Or.inl ⟨by kernel_rfl, ?_⟩) HS ?_
              rotate_left
              · (rintro w ⟨s0, s1, s2, s3, s4, s5⟩; go_simp) <;> with_reducible rfl
              try simp only [Act.put, List.getElem_toArray, List.getElem_cons_succ, List.getElem_cons_zero, List.setIfInBounds_toArray, List.set_cons_zero, List.set_cons_succ]
              refine wpAnyH_take (i := 26) (v := ?_) rfl (by kernel_rfl) (by kernel_rfl) (by kernel_rfl) (fun _ _ _ h => h) (Or.inl ⟨by kernel_rfl, ?_⟩) HS ?_
              rotate_left
              · (rintro w ⟨s0, s1, s2, s3, s4, s5⟩; go_simp) <;> with_reducible rfl
              try simp only [Act.put, List.getElem_toArray, List.getElem_cons_succ, List.getElem_cons_zero, List.setIfInBounds_toArray, List.set_cons_zero, List.set_cons_succ]
              refine wpAnyH_take (i := 27) (v := ?_) rfl (by kernel_rfl) (by kernel_rfl) (by kernel_rfl) (fun _ _ _ h => h) (Or.inl ⟨by kernel_rfl, ?_⟩) HS ?_
              rotate_left
              · (rintro w ⟨s0, s1, s2, s3, s4, s5⟩; go_simp) <;> with_reducible rfl
              try simp only [Act.put, List.getElem_toArray, List.getElem_cons_succ, List.getElem_cons_zero, List.setIfInBounds_toArray, List.set_cons_zero, List.set_cons_succ]
              refine wpAnyH_done (by kernel_rfl) ?_ _
              clear HS
              go_wp2
              go_ret
              exact ⟨_, rfl, HE.out, HB4.out⟩
        · have HE : Hid (rfE f m lp lx lt L (fsN z (m - 1)) (z 0) (z (m - 1)) 40) := by rw [hza, hzb]; exact ⟨fun h => absurd Hr.out h, fun _ h => absurd HL.out h, fun _ _ _ => rfl, fun _ _ h => absurd h.2.1 hxz⟩
          have hxz1 : ¬ (lx : Int) = (za : Int) := by omega
          have hxz2 : ((lx : Int) != (za : Int)) = true := by simp [hxz1]
          clear hza hzb HL
          rcases hL with rfl | rfl
          all_goals
            go_upto_region 5 with fail
            have HB3 : Hid (Below w.heap.size w w2.drew) := bchain HB2.out (Below.refl _ _).drew
            have HS3 : w2.drew.cell? ⟨w.heap.size, 0, none⟩ = some (.slice (some ⟨bs, os, none⟩) m cap) ∧ w2.drew.cell? ⟨w.heap.size, 1, none⟩ = some (.slice adp lp cpp) ∧ w2.drew.cell? ⟨w.heap.size + 1, 0, none⟩ = some (.slice adx lx cax) ∧ w2.drew.cell? ⟨w.heap.size + 1, 1, none⟩ = some (.slice adt lt cat) ∧ w2.drew.cell? ⟨bs, os, none⟩ = some (.int .i64 (za : Int)) ∧ w2.drew.cell? ⟨bs, os + (m - 1), none⟩ = some (.int .i64 (zb : Int)) := ⟨cell_drew HX2.out.c0, cell_drew HX2.out.c1, cell_drew HY2.out.c0, cell_drew HY2.out.c1, cell_drew HcS.out.1, cell_drew HcS.out.2⟩
            refine wp_region_held_drew (S := fun W' => W'.cell? ⟨w.heap.size, 0, none⟩ = some (.slice (some ⟨bs, os, none⟩) m cap) ∧ W'.cell? ⟨w.heap.size, 1, none⟩ = some (.slice adp lp cpp) ∧ W'.cell? ⟨w.heap.size + 1, 0, none⟩ = some (.slice adx lx cax) ∧ W'.cell? ⟨w.heap.size + 1, 1, none⟩ = some (.slice adt lt cat) ∧ W'.cell? ⟨bs, os, none⟩ = some (.int .i64 (za : Int)) ∧ W'.cell? ⟨bs, os + (m - 1), none⟩ = some (.int .i64 (zb : Int))) (by kernel_rfl) HS3 (fun HS => ?_)
            clear HS3 HX2 HY2 HcS HB2
            generalize w2.drew = wD at *
            refine wpAnyH_take (i := 0) (v := ?_) rfl (by kernel_rfl) (by kernel_rfl) (by kernel_rfl) (fun _ _ _ h => h) (Or.inl ⟨by kernel_rfl, ?_⟩) HS ?_
            rotate_left
            · (rintro w ⟨s0, s1, s2, s3, s4, s5⟩; go_simp) <;> with_reducible rfl
            try simp only [Act.put, List.getElem_toArray, List.getElem_cons_succ, List.getElem_cons_zero, List.setIfInBounds_toArray, List.set_cons_zero, List.set_cons_succ]
            refine wpAnyH_ready (rs := [1]) (by kernel_rfl) (by simp) ?_
            refine AllReadyH.cons rfl (fun K hK => ?_) AllReadyH.nil
            go_simp
            refine (HRi.out _ HB3.out).mono ?_
            rintro e w3 ⟨hT3, hb3⟩
            have e3 := hT3.yes hri
            subst e3
            refine hK.out _ _ ⟨cell_later hb3 HS.1, cell_later hb3 HS.2.1, cell_later hb3 HS.2.2.1, cell_later hb3 HS.2.2.2.1, cell_later hb3 HS.2.2.2.2.1, cell_later hb3 HS.2.2.2.2.2⟩ (fun HS => ?_)
            clear hK K
            have HB4 : Hid (Below w.heap.size w w3) := bchain HB3.out hb3
            clear hb3 HB3 HRi hT3
            refine wpAnyH_take (i := 2) (v := ?_) rfl (by kernel_rfl) (by kernel_rfl) (by kernel_rfl) (fun _ _ _ h => h) (Or.inl ⟨by kernel_rfl, ?_⟩) HS ?_
            rotate_left
            · (rintro w ⟨s0, s1, s2, s3, s4, s5⟩; go_simp) <;> with_reducible rfl
            try simp only [Act.put, List.getElem_toArray, List.getElem_cons_succ, List.getElem_cons_zero, List.setIfInBounds_toArray, List.set_cons_zero, List.set_cons_succ]
            refine wpAnyH_take (i := 3) (v := ?_) rfl (by kernel_rfl) (by kernel_rfl) (by kernel_rfl) (fun _ _ _ h => h) (Or.inl ⟨by kernel_rfl, ?_⟩) HS ?_
            rotate_left
            · (rintro w ⟨s0, s1, s2, s3, s4, s5⟩; go_simp) <;> with_reducible rfl
            try simp only [Act.put, List.getElem_toArray, List.getElem_cons_succ, List.getElem_cons_zero, List.setIfInBounds_toArray, List.set_cons_zero, List.set_cons_succ]
            refine wpAnyH_take (i := 4) (v := ?_) rfl (by kernel_rfl) (by kernel_rfl) (by kernel_rfl) (fun _ _ _ h => h) (Or.inl ⟨by kernel_rfl, ?_⟩) HS ?_
            rotate_left
            · (rintro w ⟨s0, s1, s2, s3, s4, s5⟩; go_simp) <;> with_reducible rfl
            try simp only [Act.put, List.getElem_toArray, List.getElem_cons_succ, List.getElem_cons_zero, List.setIfInBounds_toArray, List.set_cons_zero, List.set_cons_succ]
            refine wpAnyH_take (i := 5) (v := ?_) rfl (by kernel_rfl) (by kernel_rfl) (by kernel_rfl) (fun _ _ _ h => h) (Or.inl ⟨by kernel_rfl, ?_⟩) HS ?_
            rotate_left
            · (rintro w ⟨s0, s1, s2, s3, s4, s5⟩; go_simp) <;> with_reducible rfl
            try simp only [Act.put, List.getElem_toArray, List.getElem_cons_succ, List.getElem_cons_zero, List.setIfInBounds_toArray, List.set_cons_zero, List.set_cons_succ]
            refine wpAnyH_take (i := 6) (v := ?_) rfl (by kernel_rfl) (by kernel_rfl) (by kernel_rfl) (fun _ _ _ h => h) (Or.inl ⟨by kernel_rfl, ?_⟩) HS ?_
            rotate_left
            · (rintro w ⟨s0, s1, s2, s3, s4, s5⟩; go_simp) <;> with_reducible rfl
            try simp only [Act.put, List.getElem_toArray, List.getElem_cons_succ, List.getElem_cons_zero, List.setIfInBounds_toArray, List.set_cons_zero, List.set_cons_succ]
            refine wpAnyH_take (i := 7) (v := ?_) rfl (by kernel_rfl) (by kernel_rfl) (by kernel_rfl) (fun _ _ _ h => h) (Or.inl ⟨by kernel_rfl, ?_⟩) HS ?_
            rotate_left
            · (rintro w ⟨s0, s1, s2, s3, s4, s5⟩; go_simp) <;> with_reducible rfl
            try simp only [Act.put, List.getElem_toArray, List.getElem_cons_succ, List.getElem_cons_zero, List.setIfInBounds_toArray, List.set_cons_zero, List.set_cons_succ]
            refine wpAnyH_take (i := 8) (v := ?_) rfl (by kernel_rfl) (by kernel_rfl) (by kernel_rfl) (fun _ _ _ h => h) (Or.inl ⟨by kernel_rfl, ?_⟩) HS ?_
            rotate_left
            · (rintro w ⟨s0, s1, s2, s3, s4, s5⟩; go_simp) <;> with_reducible rfl
            try simp only [Act.put, List.getElem_toArray, List.getElem_cons_succ, List.getElem_cons_zero, List.setIfInBounds_toArray, List.set_cons_zero, List.set_cons_succ]
            refine wpAnyH_take (i := 9) (v := ?_) rfl (by kernel_rfl) (by kernel_rfl) (by kernel_rfl) (fun _ _ _ h => h) (Or.inl ⟨by kernel_rfl, ?_⟩) HS ?_
            rotate_left
            · (rintro w ⟨s0, s1, s2, s3, s4, s5⟩; go_simp) <;> with_reducible rfl
            try simp only [Act.put, List.getElem_toArray, List.getElem_cons_succ, List.getElem_cons_zero, List.setIfInBounds_toArray, List.set_cons_zero, List.set_cons_succ]
            refine wpAnyH_take (i := 10) (v := ?_) rfl (by kernel_rfl) (by kernel_rfl) (by kernel_rfl) (fun _ _ _ h => h) (Or.inl ⟨by kernel_rfl, ?_⟩) HS ?_
            rotate_left
            · (rintro w ⟨s0, s1, s2, s3, s4, s5⟩; go_simp) <;> with_reducible rfl
            try simp only [Act.put, List.getElem_toArray, List.getElem_cons_succ, List.getElem_cons_zero, List.setIfInBounds_toArray, List.set_cons_zero, List.set_cons_succ]
            refine wpAnyH_take (i := 11) (v := ?_) rfl (by kernel_rfl) (by kernel_rfl) (by kernel_rfl) (fun _ _ _ h => h) (Or.inl ⟨by kernel_rfl, ?_⟩) HS ?_
            rotate_left
            · (rintro w ⟨s0, s1, s2, s3, s4, s5⟩; go_simp) <;> with_reducible rfl
            try simp only [Act.put, List.getElem_toArray, List.getElem_cons_succ, List.getElem_cons_zero, List.setIfInBounds_toArray, List.set_cons_zero, List.set_cons_succ]
            refine wpAnyH_take (i := 12) (v := ?_) rfl (by kernel_rfl) (by kernel_rfl) (by kernel_rfl) (fun _ _ _ h => h) (Or.inl ⟨by kernel_rfl, ?_⟩) HS ?_
            rotate_left
            · (rintro w ⟨s0, s1, s2, s3, s4, s5⟩; go_simp) <;> with_reducible rfl
            try simp only [Act.put, List.getElem_toArray, List.getElem_cons_succ, List.getElem_cons_zero, List.setIfInBounds_toArray, List.set_cons_zero, List.set_cons_succ]
            refine wpAnyH_take (i := 13) (v := ?_) rfl (by kernel_rfl) (by kernel_rfl) (by kernel_rfl) (fun _ _ _ h => h) (Or.inl ⟨by kernel_rfl, ?_⟩) HS ?_
            rotate_left
            · (rintro w ⟨s0, s1, s2, s3, s4, s5⟩; go_simp) <;> with_reducible rfl
            try simp only [Act.put, List.getElem_toArray, List.getElem_cons_succ, List.getElem_cons_zero, List.setIfInBounds_toArray, List.set_cons_zero, List.set_cons_succ]
            refine wpAnyH_take (i := 14) (v := undef) rfl (by kernel_rfl) (by kernel_rfl) (by kernel_rfl) (fun _ _ _ h => h) (Or.inr ⟨by kernel_rfl, rfl⟩) HS ?_
            try simp only [Act.put, List.getElem_toArray, List.getElem_cons_succ, List.getElem_cons_zero, List.setIfInBounds_toArray, List.set_cons_zero, List.set_cons_succ]
            refine wpAnyH_take (i := 15) (v := undef) rfl (by kernel_rfl) (by kernel_rfl) (by kernel_rfl) (fun _ _ _ h => h) (Or.inr ⟨by kernel_rfl, rfl⟩) HS ?_
            try simp only [Act.put, List.getElem_toArray, List.getElem_cons_succ, List.getElem_cons_zero, List.setIfInBounds_toArray, List.set_cons_zero, List.set_cons_succ]
            refine wpAnyH_take (i := 16) (v := undef) rfl (by kernel_rfl) (by kernel_rfl) (by kernel_rfl) (fun _ _ _ h => h) (Or.inr ⟨by kernel_rfl, rfl⟩) HS ?_
            try simp only [Act.put, List.getElem_toArray, List.getElem_cons_succ, List.getElem_cons_zero, List.setIfInBounds_toArray, List.set_cons_zero, List.set_cons_succ]
            refine wpAnyH_take (i := 17) (v := undef) rfl (by kernel_rfl) (by kernel_rfl) (by kernel_rfl) (fun _ _ _ h => h) (Or.inr ⟨by kernel_rfl, rfl⟩) HS ?_
            try simp only [Act.put, List.getElem_toArray, List.getElem_cons_succ, List.getElem_cons_zero, List.setIfInBounds_toArray, List.set_cons_zero, List.set_cons_succ]
            refine wpAnyH_take (i := 18) (v := undef) rfl (by kernel_rfl) (by kernel_rfl) (by kernel_rfl) (fun _ _ _ h => h) (Or.inr ⟨by kernel_rfl, rfl⟩) HS ?_
            try simp only [Act.put, List.getElem_toArray, List.getElem_cons_succ, List.getElem_cons_zero, List.setIfInBounds_toArray, List.set_cons_zero, List.set_cons_succ]
            refine wpAnyH_take (i := 19) (v := undef) rfl (by kernel_rfl) (by kernel_rfl) (by kernel_rfl) (fun _ _ _ h => h) (Or.inr ⟨by kernel_rfl, rfl⟩) HS ?_
            try simp only [Act.put, List.getElem_toArray, List.getElem_cons_succ, List.getElem_cons_zero, List.setIfInBounds_toArray, List.set_cons_zero, List.set_cons_succ]
            refine wpAnyH_take (i := 20) (v := undef) rfl (by kernel_rfl) (by kernel_rfl) (by kernel_rfl) (fun _ _ _ h => h) (Or.inr ⟨by kernel_rfl, rfl⟩) HS ?_
            try simp only [Act.put, List.getElem_toArray, List.getElem_cons_succ, List.getElem_cons_zero, List.setIfInBounds_toArray, List.set_cons_zero, List.set_cons_succ]
            refine wpAnyH_take (i := 21) (v := undef) rfl (by kernel_rfl) (by kernel_rfl) (by kernel_rfl) (fun _ _ _ h => h) (Or.inr ⟨by kernel_rfl, rfl⟩) HS ?_
            try simp only [Act.put, List.getElem_toArray, List.getElem_cons_succ, List.getElem_cons_zero, List.setIfInBounds_toArray, List.set_cons_zero, List.set_cons_succ]
            refine wpAnyH_take (i := 22) (v := undef) rfl (by kernel_rfl) (by kernel_rfl) (by kernel_rfl) (fun _ _ _ h => h) (Or.inr ⟨by kernel_rfl, rfl⟩) HS ?_
            try simp only [Act.put, List.getElem_toArray, List.getElem_cons_succ, List.getElem_cons_zero, List.setIfInBounds_toArray, List.set_cons_zero, List.set_cons_succ]
            refine wpAnyH_take (i := 23) (v := undef) rfl (by kernel_rfl) (by kernel_rfl) (by kernel_rfl) (fun _ _ _ h => h) (Or.inr ⟨by kernel_rfl, rfl⟩) HS ?_
            try simp only [Act.put, List.getElem_toArray, List.getElem_cons_succ, List.getElem_cons_zero, List.setIfInBounds_toArray, List.set_cons_zero, List.set_cons_succ]
            refine wpAnyH_take (i := 24) (v := undef) rfl (by kernel_rfl) (by kernel_rfl) (by kernel_rfl) (fun _ _ _ h => h) (Or.inr ⟨by kernel_rfl, rfl⟩) HS ?_
            try simp only [Act.put, List.getElem_toArray, List.getElem_cons_succ, List.getElem_cons_zero, List.setIfInBounds_toArray, List.set_cons_zero, List.set_cons_succ]
            refine wpAnyH_take (i := 25) (v := undef) rfl (by kernel_rfl) (by kernel_rfl) (by kernel_rfl) (fun _ _ _ h => h) (Or.inr ⟨by kernel_rfl, rfl⟩) HS ?_
            try simp only [Act.put, List.getElem_toArray, List.getElem_cons_succ, List.getElem_cons_zero, List.setIfInBounds_toArray, List.set_cons_zero, List.set_cons_succ]
            refine wpAnyH_take (i := 26) (v := ?_) rfl (by kernel_rfl) (by kernel_rfl) (by kernel_rfl) (fun _ _ _ h => h) (Or.inl ⟨by kernel_rfl, ?_⟩) HS ?_
            rotate_left
            · (rintro w ⟨s0, s1, s2, s3, s4, s5⟩; go_simp) <;> with_reducible rfl
            try simp only [Act.put, List.getElem_toArray, List.getElem_cons_succ, List.getElem_cons_zero, List.setIfInBounds_toArray, List.set_cons_zero, List.set_cons_succ]
            refine wpAnyH_take (i := 27) (v := ?_) rfl (by kernel_rfl) (by kernel_rfl) (by kernel_rfl) (fun _ _ _ h => h) (Or.inl ⟨by kernel_rfl, ?_⟩) HS ?_
            rotate_left
            · (rintro w ⟨s0, s1, s2, s3, s4, s5⟩; go_simp) <;> with_reducible rfl
            try simp only [Act.put, List.getElem_toArray, List.getElem_cons_succ, List.getElem_cons_zero, List.setIfInBounds_toArray, List.set_cons_zero, List.set_cons_succ]
            refine wpAnyH_done (by kernel_rfl) ?_ _
            clear HS
            go_wp2
            go_ret
            exact ⟨_, rfl, HE.out, HB4.out⟩
      · have HE : Hid (rfE f m lp lx lt L (fsN z (m - 1)) (z 0) (z (m - 1)) 40) := by rw [hza, hzb]; exact ⟨fun h => absurd Hr.out h, fun _ h => absurd HL.out h, fun _ _ _ => rfl, fun _ _ h => absurd ⟨Hr.out, h.1⟩ hri⟩
        clear hza hzb HL
        rcases hL with rfl | rfl
        all_goals
          go_upto_region 5 with fail
          have HB3 : Hid (Below w.heap.size w w2.drew) := bchain HB2.out (Below.refl _ _).drew
          have HS3 : w2.drew.cell? ⟨w.heap.size, 0, none⟩ = some (.slice (some ⟨bs, os, none⟩) m cap) ∧ w2.drew.cell? ⟨w.heap.size, 1, none⟩ = some (.slice adp lp cpp) ∧ w2.drew.cell? ⟨w.heap.size + 1, 0, none⟩ = some (.slice adx lx cax) ∧ w2.drew.cell? ⟨w.heap.size + 1, 1, none⟩ = some (.slice adt lt cat) ∧ w2.drew.cell? ⟨bs, os, none⟩ = some (.int .i64 (za : Int)) ∧ w2.drew.cell? ⟨bs, os + (m - 1), none⟩ = some (.int .i64 (zb : Int)) := ⟨cell_drew HX2.out.c0, cell_drew HX2.out.c1, cell_drew HY2.out.c0, cell_drew HY2.out.c1, cell_drew HcS.out.1, cell_drew HcS.out.2⟩
          refine wp_region_held_drew (S := fun W' => W'.cell? ⟨w.heap.size, 0, none⟩ = some (.slice (some ⟨bs, os, none⟩) m cap) ∧ W'.cell? ⟨w.heap.size, 1, none⟩ = some (.slice adp lp cpp) ∧ W'.cell? ⟨w.heap.size + 1, 0, none⟩ = some (.slice adx lx cax) ∧ W'.cell? ⟨w.heap.size + 1, 1, none⟩ = some (.slice adt lt cat) ∧ W'.cell? ⟨bs, os, none⟩ = some (.int .i64 (za : Int)) ∧ W'.cell? ⟨bs, os + (m - 1), none⟩ = some (.int .i64 (zb : Int))) (by kernel_rfl) HS3 (fun HS => ?_)
          clear HS3 HX2 HY2 HcS HB2
          generalize w2.drew = wD at *
          refine wpAnyH_take (i := 0) (v := ?_) rfl (by kernel_rfl) (by kernel_rfl) (by kernel_rfl) (fun _ _ _ h => h) (Or.inl ⟨by kernel_rfl, ?_⟩) HS ?_
          rotate_left
          · (rintro w ⟨s0, s1, s2, s3, s4, s5⟩; go_simp) <;> with_reducible rfl
          try simp only [Act.put, List.getElem_toArray, List.getElem_cons_succ, List.getElem_cons_zero, List.setIfInBounds_toArray, List.set_cons_zero, List.set_cons_succ]
          refine wpAnyH_ready (rs := [1]) (by kernel_rfl) (by simp) ?_
          refine AllReadyH.cons rfl (fun K hK => ?_) AllReadyH.nil
          go_simp
          refine (HRi.out _ HB3.out).mono ?_
          rintro e w3 ⟨hT3, hb3⟩
          have e3 := hT3.no hri
          subst e3
          refine hK.out _ _ ⟨cell_later hb3 HS.1, cell_later hb3 HS.2.1, cell_later hb3 HS.2.2.1, cell_later hb3 HS.2.2.2.1, cell_later hb3 HS.2.2.2.2.1, cell_later hb3 HS.2.2.2.2.2⟩ (fun HS => ?_)
          clear hK K
          have HB4 : Hid (Below w.heap.size w w3) := bchain HB3.out hb3
          clear hb3 HB3 HRi hT3
          refine wpAnyH_take (i := 2) (v := ?_) rfl (by kernel_rfl) (by kernel_rfl) (by kernel_rfl) (fun _ _ _ h => h) (Or.inl ⟨by kernel_rfl, ?_⟩) HS ?_
          rotate_left
          · (rintro w ⟨s0, s1, s2, s3, s4, s5⟩; go_simp) <;> with_reducible rfl
          try simp only [Act.put, List.getElem_toArray, List.getElem_cons_succ, List.getElem_cons_zero, List.setIfInBounds_toArray, List.set_cons_zero, List.set_cons_succ]
          refine wpAnyH_take (i := 3) (v := ?_) rfl (by kernel_rfl) (by kernel_rfl) (by kernel_rfl) (fun _ _ _ h => h) (Or.inl ⟨by kernel_rfl, ?_⟩) HS ?_
          rotate_left
          · (rintro w ⟨s0, s1, s2, s3, s4, s5⟩; go_simp) <;> with_reducible rfl
          try simp only [Act.put, List.getElem_toArray, List.getElem_cons_succ, List.getElem_cons_zero, List.setIfInBounds_toArray, List.set_cons_zero, List.set_cons_succ]
          refine wpAnyH_take (i := 4) (v := undef) rfl (by kernel_rfl) (by kernel_rfl) (by kernel_rfl) (fun _ _ _ h => h) (Or.inr ⟨by kernel_rfl, rfl⟩) HS ?_
          try simp only [Act.put, List.getElem_toArray, List.getElem_cons_succ, List.getElem_cons_zero, List.setIfInBounds_toArray, List.set_cons_zero, List.set_cons_succ]
          refine wpAnyH_take (i := 5) (v := undef) rfl (by kernel_rfl) (by kernel_rfl) (by kernel_rfl) (fun _ _ _ h => h) (Or.inr ⟨by kernel_rfl, rfl⟩) HS ?_
          try simp only [Act.put, List.getElem_toArray, List.getElem_cons_succ, List.getElem_cons_zero, List.setIfInBounds_toArray, List.set_cons_zero, List.set_cons_succ]
          refine wpAnyH_take (i := 6) (v := undef) rfl (by kernel_rfl) (by kernel_rfl) (by kernel_rfl) (fun _ _ _ h => h) (Or.inr ⟨by kernel_rfl, rfl⟩) HS ?_
          try simp only [Act.put, List.getElem_toArray, List.getElem_cons_succ, List.getElem_cons_zero, List.setIfInBounds_toArray, List.set_cons_zero, List.set_cons_succ]
          refine wpAnyH_take (i := 7) (v := undef) rfl (by kernel_rfl) (by kernel_rfl) (by kernel_rfl) (fun _ _ _ h => h) (Or.inr ⟨by kernel_rfl, rfl⟩) HS ?_
          try simp only [Act.put, List.getElem_toArray, List.getElem_cons_succ, List.getElem_cons_zero, List.setIfInBounds_toArray, List.set_cons_zero, List.set_cons_succ]
          refine wpAnyH_take (i := 8) (v := undef) rfl (by kernel_rfl) (by kernel_rfl) (by kernel_rfl) (fun _ _ _ h => h) (Or.inr ⟨by kernel_rfl, rfl⟩) HS ?_
          try simp only [Act.put, List.getElem_toArray, List.getElem_cons_succ, List.getElem_cons_zero, List.setIfInBounds_toArray, List.set_cons_zero, List.set_cons_succ]
          refine wpAnyH_take (i := 9) (v := undef) rfl (by kernel_rfl) (by kernel_rfl) (by kernel_rfl) (fun _ _ _ h => h) (Or.inr ⟨by kernel_rfl, rfl⟩) HS ?_
          try simp only [Act.put, List.getElem_toArray, List.getElem_cons_succ, List.getElem_cons_zero, List.setIfInBounds_toArray, List.set_cons_zero, List.set_cons_succ]
          refine wpAnyH_take (i := 10) (v := undef) rfl (by kernel_rfl) (by kernel_rfl) (by kernel_rfl) (fun _ _ _ h => h) (Or.inr ⟨by kernel_rfl, rfl⟩) HS ?_
          try simp only [Act.put, List.getElem_toArray, List.getElem_cons_succ, List.getElem_cons_zero, List.setIfInBounds_toArray, List.set_cons_zero, List.set_cons_succ]
          refine wpAnyH_take (i := 11) (v := undef) rfl (by kernel_rfl) (by kernel_rfl) (by kernel_rfl) (fun _ _ _ h => h) (Or.inr ⟨by kernel_rfl, rfl⟩) HS ?_
          try simp only [Act.put, List.getElem_toArray, List.getElem_cons_succ, List.getElem_cons_zero, List.setIfInBounds_toArray, List.set_cons_zero, List.set_cons_succ]
          refine wpAnyH_take (i := 12) (v := ?_) rfl (by kernel_rfl) (by kernel_rfl) (by kernel_rfl) (fun _ _ _ h => h) (Or.inl ⟨by kernel_rfl, ?_⟩) HS ?_
          rotate_left
          · (rintro w ⟨s0, s1, s2, s3, s4, s5⟩; go_simp) <;> with_reducible rfl
          try simp only [Act.put, List.getElem_toArray, List.getElem_cons_succ, List.getElem_cons_zero, List.setIfInBounds_toArray, List.set_cons_zero, List.set_cons_succ]
          refine wpAnyH_take (i := 13) (v := ?_) rfl (by kernel_rfl) (by kernel_rfl) (by kernel_rfl) (fun _ _ _ h => h) (Or.inl ⟨by kernel_rfl, ?_⟩) HS ?_
          rotate_left
          · (rintro w ⟨s0, s1, s2, s3, s4, s5⟩; go_simp) <;> with_reducible rfl
          try simp only [Act.put, List.getElem_toArray, List.getElem_cons_succ, List.getElem_cons_zero, List.setIfInBounds_toArray, List.set_cons_zero, List.set_cons_succ]
          refine wpAnyH_take (i := 14) (v := undef) rfl (by kernel_rfl) (by kernel_rfl) (by kernel_rfl) (fun _ _ _ h => h) (Or.inr ⟨by kernel_rfl, rfl⟩) HS ?_
          try simp only [Act.put, List.getElem_toArray, List.getElem_cons_succ, List.getElem_cons_zero, List.setIfInBounds_toArray, List.set_cons_zero, List.set_cons_succ]
          refine wpAnyH_take (i := 15) (v := undef) rfl (by kernel_rfl) (by kernel_rfl) (by kernel_rfl) (fun _ _ _ h => h) (Or.inr ⟨by kernel_rfl, rfl⟩) HS ?_
          try simp only [Act.put, List.getElem_toArray, List.getElem_cons_succ, List.getElem_cons_zero, List.setIfInBounds_toArray, List.set_cons_zero, List.set_cons_succ]
          refine wpAnyH_take (i := 16) (v := undef) rfl (by kernel_rfl) (by kernel_rfl) (by kernel_rfl) (fun _ _ _ h => h) (Or.inr ⟨by kernel_rfl, rfl⟩) HS ?_
          try simp only [Act.put, List.getElem_toArray, List.getElem_cons_succ, List.getElem_cons_zero, List.setIfInBounds_toArray, List.set_cons_zero, List.set_cons_succ]
          refine wpAnyH_take (i := 17) (v := undef) rfl (by kernel_rfl) (by kernel_rfl) (by kernel_rfl) (fun _ _ _ h => h) (Or.inr ⟨by kernel_rfl, rfl⟩) HS ?_
          try simp only [Act.put, List.getElem_toArray, List.getElem_cons_succ, List.getElem_cons_zero, List.setIfInBounds_toArray, List.set_cons_zero, List.set_cons_succ]
          refine wpAnyH_take (i := 18) (v := undef) rfl (by kernel_rfl) (by kernel_rfl) (by kernel_rfl) (fun _ _ _ h => h) (Or.inr ⟨by kernel_rfl, rfl⟩) HS ?_
          try simp only [Act.put, List.getElem_toArray, List.getElem_cons_succ, List.getElem_cons_zero, List.setIfInBounds_toArray, List.set_cons_zero, List.set_cons_succ]
          refine wpAnyH_take (i := 19) (v := undef) rfl (by kernel_rfl) (by kernel_rfl) (by kernel_rfl) (fun _ _ _ h => h) (Or.inr ⟨by kernel_rfl, rfl⟩) HS ?_
          try simp only [Act.put, List.getElem_toArray, List.getElem_cons_succ, List.getElem_cons_zero, List.setIfInBounds_toArray, List.set_cons_zero, List.set_cons_succ]
          refine wpAnyH_take (i := 20) (v := undef) rfl (by kernel_rfl) (by kernel_rfl) (by kernel_rfl) (fun _ _ _ h => h) (Or.inr ⟨by kernel_rfl, rfl⟩) HS ?_
          try simp only [Act.put, List.getElem_toArray, List.getElem_cons_succ, List.getElem_cons_zero, List.setIfInBounds_toArray, List.set_cons_zero, List.set_cons_succ]
          refine wpAnyH_take (i := 21) (v := undef) rfl (by kernel_rfl) (by kernel_rfl) (by kernel_rfl) (fun _ _ _ h => h) (Or.inr ⟨by kernel_rfl, rfl⟩) HS ?_
          try simp only [Act.put, List.getElem_toArray, List.getElem_cons_succ, List.getElem_cons_zero, List.setIfInBounds_toArray, List.set_cons_zero, List.set_cons_succ]
          refine wpAnyH_take (i := 22) (v := undef) rfl (by kernel_rfl) (by kernel_rfl) (by kernel_rfl) (fun _ _ _ h => h) (Or.inr ⟨by kernel_rfl, rfl⟩) HS ?_
          try simp only [Act.put, List.getElem_toArray, List.getElem_cons_succ, List.getElem_cons_zero, List.setIfInBounds_toArray, List.set_cons_zero, List.set_cons_succ]
          refine wpAnyH_take (i := 23) (v := undef) rfl (by kernel_rfl) (by kernel_rfl) (by kernel_rfl) (fun _ _ _ h => h) (Or.inr ⟨by kernel_rfl, rfl⟩) HS ?_
          try simp only [Act.put, List.getElem_toArray, List.getElem_cons_succ, List.getElem_cons_zero, List.setIfInBounds_toArray, List.set_cons_zero, List.set_cons_succ]
          refine wpAnyH_take (i := 24) (v := undef) rfl (by kernel_rfl) (by kernel_rfl) (by kernel_rfl) (fun _ _ _ h => h) (Or.inr ⟨by kernel_rfl, rfl⟩) HS ?_
          try simp only [Act.put, List.getElem_toArray, List.getElem_cons_succ, List.getElem_cons_zero, List.setIfInBounds_toArray, List.set_cons_zero, List.set_cons_succ]
          refine wpAnyH_take (i := 25) (v := undef) rfl (by kernel_rfl) (by kernel_rfl) (by kernel_rfl) (fun _ _ _ h => h) (Or.inr ⟨by kernel_rfl, rfl⟩) HS ?_
          try simp only [Act.put, List.getElem_toArray, List.getElem_cons_succ, List.getElem_cons_zero, List.setIfInBounds_toArray, List.set_cons_zero, List.set_cons_succ]
          refine wpAnyH_take (i := 26) (v := ?_) rfl (by kernel_rfl) (by kernel_rfl) (by kernel_rfl) (fun _ _ _ h => h) (Or.inl ⟨by kernel_rfl, ?_⟩) HS ?_
          rotate_left
          · (rintro w ⟨s0, s1, s2, s3, s4, s5⟩; go_simp) <;> with_reducible rfl
          try simp only [Act.put, List.getElem_toArray, List.getElem_cons_succ, List.getElem_cons_zero, List.setIfInBounds_toArray, List.set_cons_zero, List.set_cons_succ]
          refine wpAnyH_take (i := 27) (v := ?_) rfl (by kernel_rfl) (by kernel_rfl) (by kernel_rfl) (fun _ _ _ h => h) (Or.inl ⟨by kernel_rfl, ?_⟩) HS ?_
          rotate_left
          · (rintro w ⟨s0, s1, s2, s3, s4, s5⟩; go_simp) <;> with_reducible rfl
          try simp only [Act.put, List.getElem_toArray, List.getElem_cons_succ, List.getElem_cons_zero, List.setIfInBounds_toArray, List.set_cons_zero, List.set_cons_succ]
          refine wpAnyH_done (by kernel_rfl) ?_ _
          clear HS
          go_wp2
          go_ret
          exact ⟨_, rfl, HE.out, HB4.out⟩
    · have hL1 : ¬ L = 1 := fun h => hL (Or.inl h)
      have hL2 : ¬ L = 2 := fun h => hL (Or.inr h)
      have hL3 : (L != 1) = true := by simp [hL1]
      have hL4 : (L != 2) = true := by simp [hL2]
      have HE : Hid (rfE f m lp lx lt L (fsN z (m - 1)) (z 0) (z (m - 1)) 71) := ⟨fun h => absurd hr h, fun _ _ => rfl, fun _ h => absurd h hL, fun _ h => absurd h hL⟩
      clear hr hL hA
      go_wp2
      go_ret
      exact ⟨_, rfl, HE.out, HB2.out⟩
  · have hC0 := hC.2 hr
    subst hC0
    have HE : Hid (rfE f m lp lx lt L (fsN z (m - 1)) (z 0) (z (m - 1)) 70) := ⟨fun _ => rfl, fun h => absurd h hr, fun h => absurd h hr, fun h => absurd h hr⟩
    clear hC hr hA
    go_wp2
    go_ret
    exact ⟨_, rfl, HE.out, HB2.out⟩
end Go.Proofs.YtcaficenocblfaaGreatDoor
