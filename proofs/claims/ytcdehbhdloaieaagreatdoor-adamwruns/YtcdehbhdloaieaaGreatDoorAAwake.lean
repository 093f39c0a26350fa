/-
  The chapter's example goes through (regattalaw09's simple and awake).
-/
import Derived.Test.YtcdehbhdloaieaaGreatDoorAWalkF
import Derived.Test.YtcdehbhdloaieaaGreatDoorAMath2
import Derived.Deep.RegionHeld3
set_option linter.unusedVariables false
set_option linter.unusedSimpArgs false
namespace Go.Proofs.YtcdehbhdloaieaaGreatDoor
open Go.RowKit

theorem cpF_none9 (n : Nat) (f : Nat → Int) : cpF 0 n f = f := by
  funext i
  unfold cpF
  rw [if_neg (by unfold cpB; simp)]
/-- The settings of the first step, where nothing but the rate is set. -/
theorem stp_first9 (rate : Int) (at' fa : Nat → Int) : stpV rate 0 0 at' fa 0 0 1 0 (0 + 1) = stp1 rate := by
  have e1 : rtV rate 0 0 at' fa (0 + 1) = rate := by
    show bsV rate 0 (0 + 1) = rate
    unfold bsV
    rw [if_neg (by omega)]
  have e2 : pwN 0 ((0 : Int) + 1).toNat = 0 := by
    show fmV 4294967296 0 = 0
    unfold fmV
    rw [Int.mul_zero, show rnd 0 32 = 0 from rfl, clv_nought9]
  unfold stpV stp1
  rw [e1, e2]
  rfl
theorem simple_right9 (rate : Int) (r0 : 0 ≤ rate) (at' fa : Nat → Int) : InR9 rate 0 0 at' fa 0 0 1 0 0 := ⟨⟨r0, by omega, by omega, by omega, fun k hk => by omega⟩, ⟨by omega, by omega⟩, ⟨by omega, by omega⟩, by omega, by omega, by omega⟩
theorem drp_none9 (w : World) (at' fa : Nat → Int) : Drp w (.slice none 0 0) 0 at' fa := ⟨none, 0, 0, 0, rfl, Nat.le_refl _, Nat.zero_le _, fun h => by omega, fun k hk => by omega⟩
theorem aw_vals9 : aM (stp1 429496729) 0 17179869184 = 17179869184 ∧ aV (stp1 429496729) 0 17179869184 = 68719476736 ∧ aY (stp1 429496729) 0 0 4294967296 17179869184 = 3865470567 := by decide +kernel
set_option maxRecDepth 100000 in
theorem simple9_any (w : World) : Calls Tryz.prog 17 #[] w fun e w' => e = .returned (.agg #[.int .i64 429496729, .int .i64 0, .slice none 0 0, .int .i64 0, .int .i64 0, .int .i64 1, .int .i64 0, .int .i64 0]) ∧ Below w.heap.size w w' := by
  have HB : Hid (Below w.heap.size w (w.alloc (.cells #[.int .i64 429496729, .int .i64 0, .slice none 0 0, .int .i64 0, .int .i64 0, .int .i64 1, .int .i64 0, .int .i64 0] 27))) := bel1 _ _
  have HQ := Q8.new w (.int .i64 429496729) (.int .i64 0) (.slice none 0 0) (.int .i64 0) (.int .i64 0) (.int .i64 1) (.int .i64 0) (.int .i64 0) 27
  go_enter Tryz.func17, Tryz.ntmps17
  go_wp2
  exact bodyPost_ret (v := .agg #[.int .i64 429496729, .int .i64 0, .slice none 0 0, .int .i64 0, .int .i64 0, .int .i64 1, .int .i64 0, .int .i64 0]) (by simp [results, Tryz.results17, go_sem, HQ.c0, HQ.c1, HQ.c2, HQ.c3, HQ.c4, HQ.c5, HQ.c6, HQ.c7]) rfl ⟨rfl, HB.out⟩
/-- What lies ready for a call of Step: two rows of noughts, and what has been made so far. -/
structure J9 (w : World) (bs : Nat) (vM vV : Value) (n : Nat) (x y : Int) (bp bg bt : Option Nat) (W : World) : Prop where
  B : Below w.heap.size w W
  T : TabAt W
  M : Ar W vM n (fun _ => 0)
  V : Ar W vV n (fun _ => 0)
  P : ∀ b, bp = some b → Ar W (.slice (some ⟨b, 0, none⟩) 1 1) 1 (fun _ => x)
  G : ∀ b, bg = some b → Ar W (.slice (some ⟨b, 0, none⟩) 1 1) 1 (fun _ => y)
  A : ∀ b, bt = some b → Y3 b (.slice none 0 0) (.slice none 0 0) (.int .i64 0) W
  L : ∀ b, bt = some b → w.heap.size ≤ b ∧ b ≠ bs
theorem J9.later {w : World} {bs : Nat} {vM vV : Value} {n : Nat} {x y : Int} {bp bg bt : Option Nat} {W W' : World} (h : J9 w bs vM vV n x y bp bg bt W) (hb : Below W.heap.size W W') : J9 w bs vM vV n x y bp bg bt W' := ⟨bchain h.B hb, h.T.later hb, h.M.later hb, h.V.later hb, fun b e => (h.P b e).later hb, fun b e => (h.G b e).later hb, fun b e => (h.A b e).later hb, h.L⟩
theorem one_ar9 (w : World) (x : Int) (x0 : -9223372036854775808 ≤ x) (x1 : x ≤ 9223372036854775807) (t : TypeId) : Ar (w.alloc (.cells #[.int .i64 x] t)) (.slice (some ⟨w.heap.size, 0, none⟩) 1 1) 1 (fun _ => x) :=
  ⟨_, 1, w.heap.size, 0, rfl, Nat.le_refl _, by unfold maxLen; omega, fun _ => rfl, fun k hk => ⟨by obtain rfl : k = 0 := (by omega); simp [go_sem], x0, x1⟩⟩
theorem J9.mkP {w : World} {bs : Nat} {vM vV : Value} {n : Nat} {x y : Int} {bp bg bt : Option Nat} {W : World} (h : J9 w bs vM vV n x y bp bg bt W) (t : TypeId) (x0 : -9223372036854775808 ≤ x) (x1 : x ≤ 9223372036854775807) : J9 w bs vM vV n x y (some W.heap.size) bg bt (W.alloc (.cells #[.int .i64 x] t)) := by
  have k := h.later (bel1 W (.cells #[.int .i64 x] t))
  exact ⟨k.B, k.T, k.M, k.V, fun b e => by cases e; exact one_ar9 W x x0 x1 t, k.G, k.A, k.L⟩
theorem J9.mkG {w : World} {bs : Nat} {vM vV : Value} {n : Nat} {x y : Int} {bp bg bt : Option Nat} {W : World} (h : J9 w bs vM vV n x y bp bg bt W) (t : TypeId) (y0 : -9223372036854775808 ≤ y) (y1 : y ≤ 9223372036854775807) : J9 w bs vM vV n x y bp (some W.heap.size) bt (W.alloc (.cells #[.int .i64 y] t)) := by
  have k := h.later (bel1 W (.cells #[.int .i64 y] t))
  exact ⟨k.B, k.T, k.M, k.V, k.P, fun b e => by cases e; exact one_ar9 W y y0 y1 t, k.A, k.L⟩
theorem J9.mkA {w : World} {bs : Nat} {vM vV : Value} {n : Nat} {x y : Int} {bp bg bt : Option Nat} {W : World} (h : J9 w bs vM vV n x y bp bg bt W) (t : TypeId) (hs : bs < W.heap.size) : J9 w bs vM vV n x y bp bg (some W.heap.size) (W.alloc (.cells #[.slice none 0 0, .slice none 0 0, .int .i64 0] t)) := by
  have k := h.later (bel1 W (.cells #[.slice none 0 0, .slice none 0 0, .int .i64 0] t))
  exact ⟨k.B, k.T, k.M, k.V, k.P, k.G, fun b e => by cases e; exact Y3.new _ _ _ _ _, fun b e => by cases e; exact ⟨h.B.size, by omega⟩⟩
/-- What a step has answered. -/
structure V9 (n g1 g2 g3 : Nat) (FM FV FY : Nat → Int) (W : World) : Prop where
  a1 : Ar W (.slice (some ⟨g1, 0, none⟩) n n) n FM
  a2 : Ar W (.slice (some ⟨g2, 0, none⟩) n n) n FV
  a3 : Ar W (.slice (some ⟨g3, 0, none⟩) n n) n FY
theorem V9.later {n g1 g2 g3 : Nat} {FM FV FY : Nat → Int} {W W' : World} (h : V9 n g1 g2 g3 FM FV FY W) (hb : Below W.heap.size W W') : V9 n g1 g2 g3 FM FV FY W' := ⟨h.a1.later hb, h.a2.later hb, h.a3.later hb⟩
theorem V9.far {n g1 g2 g3 : Nat} {FM FV FY : Nat → Int} {W : World} (h : V9 n g1 g2 g3 FM FV FY W) (a : Addr) (u : Value) (ha : g1 ≠ a.block ∧ g2 ≠ a.block ∧ g3 ≠ a.block) : V9 n g1 g2 g3 FM FV FY (W.setCell a u) :=
  ⟨h.a1.set9e _ _ (fun b m c e _ => by cases e; exact ha.1), h.a2.set9e _ _ (fun b m c e _ => by cases e; exact ha.2.1), h.a3.set9e _ _ (fun b m c e _ => by cases e; exact ha.2.2)⟩
theorem V9.fresh {n g1 g2 g3 : Nat} {FM FV FY : Nat → Int} {W : World} (h : V9 n g1 g2 g3 FM FV FY W) (hn : 0 < n) : g1 ≠ W.heap.size ∧ g2 ≠ W.heap.size ∧ g3 ≠ W.heap.size :=
  ⟨h.a1.nb (Nat.le_refl _) _ n n rfl hn, h.a2.nb (Nat.le_refl _) _ n n rfl hn, h.a3.nb (Nat.le_refl _) _ n n rfl hn⟩
theorem no9_ar {w W : World} {n g1 g2 : Nat} (h : No9 w n g1 g2 W) (hn : n ≤ 65536) : Ar W (.slice (some ⟨g1, 0, none⟩) n n) n (fun _ => 0) ∧ Ar W (.slice (some ⟨g2, 0, none⟩) n n) n (fun _ => 0) := ⟨Rw.ar h.r1 (by omega) (fun _ _ => by omega), Rw.ar h.r2 (by omega) (fun _ _ => by omega)⟩
set_option maxRecDepth 100000 in
set_option maxHeartbeats 16000000 in
theorem awake9_any (w : World) (hT : TabAt w) : Calls Tryz.prog 5 #[] w fun e w' => e = .returned (.bool true) ∧ Below w.heap.size w w' := by
  have HT : Hid (TabAt w) := hT
  have CB : Hid (∀ W : World, Calls Tryz.prog 15 #[.int .i64 1] W fun e w' => ∃ g1 g2 : Nat, e = .returned (.tuple #[.agg #[.slice (some ⟨g1, 0, none⟩) 1 1, .slice (some ⟨g2, 0, none⟩) 1 1, .int .i64 0], .int .i64 0]) ∧ No9 W 1 g1 g2 w') := fun W => begin9_ok 1 (by omega) W
  have CS : Hid (∀ (W : World) (m1 m2 bp bg : Nat), TabAt W → Ar W (.slice (some ⟨m1, 0, none⟩) 1 1) 1 (fun _ => 0) → Ar W (.slice (some ⟨m2, 0, none⟩) 1 1) 1 (fun _ => 0) → Ar W (.slice (some ⟨bp, 0, none⟩) 1 1) 1 (fun _ => 4294967296) → Ar W (.slice (some ⟨bg, 0, none⟩) 1 1) 1 (fun _ => 17179869184) → Calls Tryz.prog 7 #[.pointer none, .agg #[.int .i64 429496729, .int .i64 0, .slice none 0 0, .int .i64 0, .int .i64 0, .int .i64 1, .int .i64 0, .int .i64 0], .agg #[.slice (some ⟨m1, 0, none⟩) 1 1, .slice (some ⟨m2, 0, none⟩) 1 1, .int .i64 0], .slice (some ⟨bp, 0, none⟩) 1 1, .slice (some ⟨bg, 0, none⟩) 1 1] W fun e w' => ∃ g1 g2 g3 : Nat, e = .returned (.tuple #[.agg #[.slice (some ⟨g1, 0, none⟩) 1 1, .slice (some ⟨g2, 0, none⟩) 1 1, .int .i64 1], .slice (some ⟨g3, 0, none⟩) 1 1, .int .i64 0]) ∧ V9 1 g1 g2 g3 (fun _ => 17179869184) (fun _ => 68719476736) (fun _ => 3865470567) w' ∧ (W.heap.size ≤ g1 ∧ W.heap.size ≤ g2 ∧ W.heap.size ≤ g3) ∧ Below W.heap.size W w') := by
    intro W m1 m2 bp bg ht h1 h2 h3 h4
    refine (step9_ok 429496729 0 (.slice none 0 0) 0 (fun _ => 0) (fun _ => 0) 0 0 1 0 0 0 _ _ _ _ 1 _ _ _ _ none 0 W (simple_right9 _ (by omega) _ _) ⟨by omega, by omega, by omega, by omega⟩ (by omega) (by omega) (by omega) (by omega) (by omega) (drp_none9 W _ _) h1 h2 h3 h4 (nv_none _) (nv_none _) (nv_none _) (nv_none _) (Or.inl rfl) ht).mono ?_
    rintro e w' ⟨g1, g2, g3, he, q1, q2, q3, q4, q5⟩
    rw [cpF_none9, stp_first9] at q1 q2 q3
    rw [aw_vals9.1] at q1
    rw [aw_vals9.2.1] at q2
    rw [aw_vals9.2.2] at q3
    refine ⟨g1, g2, g3, he, ⟨q1, q2, q3⟩, q4, ?_⟩
    rcases q5 with ⟨-, q5⟩ | ⟨d, q5, -⟩
    · exact q5
    · cases q5
  clear hT
  go_enter Tryz.func5, Tryz.ntmps5
  go_wp2_with fail
  refine (CB.out _).mono ?_
  rintro e w1 ⟨m1, m2, rfl, hN⟩
  obtain ⟨w2, hw2⟩ : ∃ w2, w2 = w1.alloc (.cells #[.slice (some ⟨m1, 0, none⟩) 1 1, .slice (some ⟨m2, 0, none⟩) 1 1, .int .i64 0] 30) := ⟨_, rfl⟩
  have hJ1 : J9 w w1.heap.size (.slice (some ⟨m1, 0, none⟩) 1 1) (.slice (some ⟨m2, 0, none⟩) 1 1) 1 4294967296 17179869184 none none none w1 := ⟨hN.b, HT.out.later hN.b, (no9_ar hN (by omega)).1, (no9_ar hN (by omega)).2, fun b e => (by cases e), fun b e => (by cases e), fun b e => (by cases e), fun b e => (by cases e)⟩
  have HJ : Hid (J9 w w1.heap.size (.slice (some ⟨m1, 0, none⟩) 1 1) (.slice (some ⟨m2, 0, none⟩) 1 1) 1 4294967296 17179869184 none none none w2) := by rw [hw2]; exact hJ1.later (bel1 _ _)
  have HSc : Hid (Y3 w1.heap.size (.slice (some ⟨m1, 0, none⟩) 1 1) (.slice (some ⟨m2, 0, none⟩) 1 1) (.int .i64 0) w2) := by rw [hw2]; exact Y3.new _ _ _ _ _
  have hle : w.heap.size ≤ w1.heap.size := hN.b.size
  clear hN hJ1 CB HT
  go_upto_region 2 with fail
  rw [← hw2]
  clear hw2
  generalize w1.heap.size = bs at *
  go_cut [3, 4, 5] (fun s3 s4 s5 wc => ∃ bt g1 g2 g3 : Nat, s3 = .pointer (some ⟨bt, 0, none⟩) ∧ s4 = .slice (some ⟨g3, 0, none⟩) 1 1 ∧ s5 = .int .i64 0 ∧ Hid (Y3 bt (.slice (some ⟨g1, 0, none⟩) 1 1) (.slice (some ⟨g2, 0, none⟩) 1 1) (.int .i64 1) wc ∧ V9 1 g1 g2 g3 (fun _ => 17179869184) (fun _ => 68719476736) (fun _ => 3865470567) wc) ∧ Hid (Below w.heap.size w wc))
  case first =>
    have hbD : Below w2.heap.size w2 w2.drew := (Below.refl _ _).drew
    replace HJ : Hid (J9 w bs (.slice (some ⟨m1, 0, none⟩) 1 1) (.slice (some ⟨m2, 0, none⟩) 1 1) 1 4294967296 17179869184 none none none w2.drew) := HJ.out.later hbD
    refine wp_region_held_drew (S := fun W' => Y3 bs (.slice (some ⟨m1, 0, none⟩) 1 1) (.slice (some ⟨m2, 0, none⟩) 1 1) (.int .i64 0) W') (by kernel_rfl) (HSc.out.later hbD) (fun HS => ?_)
    clear hbD HSc
    generalize w2.drew = q0 at *
    refine wpAnyH_take (i := 1) (v := ?_) rfl (by kernel_rfl) (by kernel_rfl) (by kernel_rfl) (fun _ _ _ h => h) (Or.inl ⟨by kernel_rfl, ?_⟩) HS ?_
    rotate_left
    · (rintro w ⟨y0, y1, y2, z0, z1, z2⟩; go_simp) <;> with_reducible rfl
    try simp only [Act.put, List.getElem_toArray, List.getElem_cons_succ, List.getElem_cons_zero, List.setIfInBounds_toArray, List.set_cons_zero, List.set_cons_succ]
    refine wpAnyH_ready (rs := [0, 2, 3, 9]) (by kernel_rfl) (by simp) ?_
    refine AllReadyH.cons rfl (fun K hK => ?o1) (AllReadyH.cons rfl (fun K hK => ?o2) (AllReadyH.cons rfl (fun K hK => ?o3) (AllReadyH.cons rfl (fun K hK => ?o4) AllReadyH.nil)))
    case' o1 =>
      go_simp
      refine (simple9_any _).mono ?_
      rintro e q1 ⟨rfl, hb⟩
      refine hK.out _ _ (HS.later hb) (fun HS => ?_)
      clear hK K
      replace HJ : Hid (J9 w bs (.slice (some ⟨m1, 0, none⟩) 1 1) (.slice (some ⟨m2, 0, none⟩) 1 1) 1 4294967296 17179869184 none none none q1) := HJ.out.later hb
      clear hb
      refine wpAnyH_ready (rs := [2, 3, 9]) (by kernel_rfl) (by simp) ?_
      refine AllReadyH.cons rfl (fun K hK => ?o5) (AllReadyH.cons rfl (fun K hK => ?o6) (AllReadyH.cons rfl (fun K hK => ?o7) AllReadyH.nil))
      case' o5 =>
        go_simp
        refine hK.out _ _ (HS.later (bel1 _ _)) (fun HS => ?_)
        clear hK K
        replace HJ : Hid (J9 w bs (.slice (some ⟨m1, 0, none⟩) 1 1) (.slice (some ⟨m2, 0, none⟩) 1 1) 1 4294967296 17179869184 (some q1.heap.size) none none (q1.alloc (.cells #[.int .i64 4294967296] 22))) := HJ.out.mkP 22 (by omega) (by omega)
        generalize (q1.alloc (.cells #[.int .i64 4294967296] 22)) = q2 at *
        generalize q1.heap.size = bp at *
        refine wpAnyH_ready (rs := [3, 9]) (by kernel_rfl) (by simp) ?_
        refine AllReadyH.cons rfl (fun K hK => ?o8) (AllReadyH.cons rfl (fun K hK => ?o9) AllReadyH.nil)
        case' o8 =>
          go_simp
          refine hK.out _ _ (HS.later (bel1 _ _)) (fun HS => ?_)
          clear hK K
          replace HJ : Hid (J9 w bs (.slice (some ⟨m1, 0, none⟩) 1 1) (.slice (some ⟨m2, 0, none⟩) 1 1) 1 4294967296 17179869184 (some bp) (some q2.heap.size) none (q2.alloc (.cells #[.int .i64 17179869184] 22))) := HJ.out.mkG 22 (by omega) (by omega)
          generalize (q2.alloc (.cells #[.int .i64 17179869184] 22)) = q3 at *
          generalize q2.heap.size = bg at *
          refine wpAnyH_ready (rs := [4, 9]) (by kernel_rfl) (by simp) ?_
          refine AllReadyH.cons rfl (fun K hK => ?o10) (AllReadyH.cons rfl (fun K hK => ?o11) AllReadyH.nil)
          case' o10 => skip
          case' o11 =>
            go_simp
            have hlt := HS.lt
            refine hK.out _ _ (HS.later (bel1 _ _)) (fun HS => ?_)
            clear hK K
            replace HJ : Hid (J9 w bs (.slice (some ⟨m1, 0, none⟩) 1 1) (.slice (some ⟨m2, 0, none⟩) 1 1) 1 4294967296 17179869184 (some bp) (some bg) (some q3.heap.size) (q3.alloc (.cells #[.slice none 0 0, .slice none 0 0, .int .i64 0] 30))) := HJ.out.mkA 30 hlt
            clear hlt
            generalize (q3.alloc (.cells #[.slice none 0 0, .slice none 0 0, .int .i64 0] 30)) = q4 at *
            generalize q3.heap.size = bt at *
            have MA : True := trivial
        case' o9 =>
          go_simp
          have hlt := HS.lt
          refine hK.out _ _ (HS.later (bel1 _ _)) (fun HS => ?_)
          clear hK K
          replace HJ : Hid (J9 w bs (.slice (some ⟨m1, 0, none⟩) 1 1) (.slice (some ⟨m2, 0, none⟩) 1 1) 1 4294967296 17179869184 (some bp) none (some q2.heap.size) (q2.alloc (.cells #[.slice none 0 0, .slice none 0 0, .int .i64 0] 30))) := HJ.out.mkA 30 hlt
          clear hlt
          generalize (q2.alloc (.cells #[.slice none 0 0, .slice none 0 0, .int .i64 0] 30)) = q3 at *
          generalize q2.heap.size = bt at *
          refine wpAnyH_ready (rs := [3]) (by kernel_rfl) (by simp) ?_
          refine AllReadyH.cons rfl (fun K hK => ?o12) AllReadyH.nil
          case' o12 =>
            go_simp
            refine hK.out _ _ (HS.later (bel1 _ _)) (fun HS => ?_)
            clear hK K
            replace HJ : Hid (J9 w bs (.slice (some ⟨m1, 0, none⟩) 1 1) (.slice (some ⟨m2, 0, none⟩) 1 1) 1 4294967296 17179869184 (some bp) (some q3.heap.size) (some bt) (q3.alloc (.cells #[.int .i64 17179869184] 22))) := HJ.out.mkG 22 (by omega) (by omega)
            generalize (q3.alloc (.cells #[.int .i64 17179869184] 22)) = q4 at *
            generalize q3.heap.size = bg at *
            have MA : True := trivial
      case' o6 =>
        go_simp
        refine hK.out _ _ (HS.later (bel1 _ _)) (fun HS => ?_)
        clear hK K
        replace HJ : Hid (J9 w bs (.slice (some ⟨m1, 0, none⟩) 1 1) (.slice (some ⟨m2, 0, none⟩) 1 1) 1 4294967296 17179869184 none (some q1.heap.size) none (q1.alloc (.cells #[.int .i64 17179869184] 22))) := HJ.out.mkG 22 (by omega) (by omega)
        generalize (q1.alloc (.cells #[.int .i64 17179869184] 22)) = q2 at *
        generalize q1.heap.size = bg at *
        refine wpAnyH_ready (rs := [2, 9]) (by kernel_rfl) (by simp) ?_
        refine AllReadyH.cons rfl (fun K hK => ?o13) (AllReadyH.cons rfl (fun K hK => ?o14) AllReadyH.nil)
        case' o13 =>
          go_simp
          refine hK.out _ _ (HS.later (bel1 _ _)) (fun HS => ?_)
          clear hK K
          replace HJ : Hid (J9 w bs (.slice (some ⟨m1, 0, none⟩) 1 1) (.slice (some ⟨m2, 0, none⟩) 1 1) 1 4294967296 17179869184 (some q2.heap.size) (some bg) none (q2.alloc (.cells #[.int .i64 4294967296] 22))) := HJ.out.mkP 22 (by omega) (by omega)
          generalize (q2.alloc (.cells #[.int .i64 4294967296] 22)) = q3 at *
          generalize q2.heap.size = bp at *
          refine wpAnyH_ready (rs := [4, 9]) (by kernel_rfl) (by simp) ?_
          refine AllReadyH.cons rfl (fun K hK => ?o15) (AllReadyH.cons rfl (fun K hK => ?o16) AllReadyH.nil)
          case' o15 => skip
          case' o16 =>
            go_simp
            have hlt := HS.lt
            refine hK.out _ _ (HS.later (bel1 _ _)) (fun HS => ?_)
            clear hK K
            replace HJ : Hid (J9 w bs (.slice (some ⟨m1, 0, none⟩) 1 1) (.slice (some ⟨m2, 0, none⟩) 1 1) 1 4294967296 17179869184 (some bp) (some bg) (some q3.heap.size) (q3.alloc (.cells #[.slice none 0 0, .slice none 0 0, .int .i64 0] 30))) := HJ.out.mkA 30 hlt
            clear hlt
            generalize (q3.alloc (.cells #[.slice none 0 0, .slice none 0 0, .int .i64 0] 30)) = q4 at *
            generalize q3.heap.size = bt at *
            have MA : True := trivial
        case' o14 =>
          go_simp
          have hlt := HS.lt
          refine hK.out _ _ (HS.later (bel1 _ _)) (fun HS => ?_)
          clear hK K
          replace HJ : Hid (J9 w bs (.slice (some ⟨m1, 0, none⟩) 1 1) (.slice (some ⟨m2, 0, none⟩) 1 1) 1 4294967296 17179869184 none (some bg) (some q2.heap.size) (q2.alloc (.cells #[.slice none 0 0, .slice none 0 0, .int .i64 0] 30))) := HJ.out.mkA 30 hlt
          clear hlt
          generalize (q2.alloc (.cells #[.slice none 0 0, .slice none 0 0, .int .i64 0] 30)) = q3 at *
          generalize q2.heap.size = bt at *
          refine wpAnyH_ready (rs := [2]) (by kernel_rfl) (by simp) ?_
          refine AllReadyH.cons rfl (fun K hK => ?o17) AllReadyH.nil
          case' o17 =>
            go_simp
            refine hK.out _ _ (HS.later (bel1 _ _)) (fun HS => ?_)
            clear hK K
            replace HJ : Hid (J9 w bs (.slice (some ⟨m1, 0, none⟩) 1 1) (.slice (some ⟨m2, 0, none⟩) 1 1) 1 4294967296 17179869184 (some q3.heap.size) (some bg) (some bt) (q3.alloc (.cells #[.int .i64 4294967296] 22))) := HJ.out.mkP 22 (by omega) (by omega)
            generalize (q3.alloc (.cells #[.int .i64 4294967296] 22)) = q4 at *
            generalize q3.heap.size = bp at *
            have MA : True := trivial
      case' o7 =>
        go_simp
        have hlt := HS.lt
        refine hK.out _ _ (HS.later (bel1 _ _)) (fun HS => ?_)
        clear hK K
        replace HJ : Hid (J9 w bs (.slice (some ⟨m1, 0, none⟩) 1 1) (.slice (some ⟨m2, 0, none⟩) 1 1) 1 4294967296 17179869184 none none (some q1.heap.size) (q1.alloc (.cells #[.slice none 0 0, .slice none 0 0, .int .i64 0] 30))) := HJ.out.mkA 30 hlt
        clear hlt
        generalize (q1.alloc (.cells #[.slice none 0 0, .slice none 0 0, .int .i64 0] 30)) = q2 at *
        generalize q1.heap.size = bt at *
        refine wpAnyH_ready (rs := [2, 3]) (by kernel_rfl) (by simp) ?_
        refine AllReadyH.cons rfl (fun K hK => ?o18) (AllReadyH.cons rfl (fun K hK => ?o19) AllReadyH.nil)
        case' o18 =>
          go_simp
          refine hK.out _ _ (HS.later (bel1 _ _)) (fun HS => ?_)
          clear hK K
          replace HJ : Hid (J9 w bs (.slice (some ⟨m1, 0, none⟩) 1 1) (.slice (some ⟨m2, 0, none⟩) 1 1) 1 4294967296 17179869184 (some q2.heap.size) none (some bt) (q2.alloc (.cells #[.int .i64 4294967296] 22))) := HJ.out.mkP 22 (by omega) (by omega)
          generalize (q2.alloc (.cells #[.int .i64 4294967296] 22)) = q3 at *
          generalize q2.heap.size = bp at *
          refine wpAnyH_ready (rs := [3]) (by kernel_rfl) (by simp) ?_
          refine AllReadyH.cons rfl (fun K hK => ?o20) AllReadyH.nil
          case' o20 =>
            go_simp
            refine hK.out _ _ (HS.later (bel1 _ _)) (fun HS => ?_)
            clear hK K
            replace HJ : Hid (J9 w bs (.slice (some ⟨m1, 0, none⟩) 1 1) (.slice (some ⟨m2, 0, none⟩) 1 1) 1 4294967296 17179869184 (some bp) (some q3.heap.size) (some bt) (q3.alloc (.cells #[.int .i64 17179869184] 22))) := HJ.out.mkG 22 (by omega) (by omega)
            generalize (q3.alloc (.cells #[.int .i64 17179869184] 22)) = q4 at *
            generalize q3.heap.size = bg at *
            have MA : True := trivial
        case' o19 =>
          go_simp
          refine hK.out _ _ (HS.later (bel1 _ _)) (fun HS => ?_)
          clear hK K
          replace HJ : Hid (J9 w bs (.slice (some ⟨m1, 0, none⟩) 1 1) (.slice (some ⟨m2, 0, none⟩) 1 1) 1 4294967296 17179869184 none (some q2.heap.size) (some bt) (q2.alloc (.cells #[.int .i64 17179869184] 22))) := HJ.out.mkG 22 (by omega) (by omega)
          generalize (q2.alloc (.cells #[.int .i64 17179869184] 22)) = q3 at *
          generalize q2.heap.size = bg at *
          refine wpAnyH_ready (rs := [2]) (by kernel_rfl) (by simp) ?_
          refine AllReadyH.cons rfl (fun K hK => ?o21) AllReadyH.nil
          case' o21 =>
            go_simp
            refine hK.out _ _ (HS.later (bel1 _ _)) (fun HS => ?_)
            clear hK K
            replace HJ : Hid (J9 w bs (.slice (some ⟨m1, 0, none⟩) 1 1) (.slice (some ⟨m2, 0, none⟩) 1 1) 1 4294967296 17179869184 (some q3.heap.size) (some bg) (some bt) (q3.alloc (.cells #[.int .i64 4294967296] 22))) := HJ.out.mkP 22 (by omega) (by omega)
            generalize (q3.alloc (.cells #[.int .i64 4294967296] 22)) = q4 at *
            generalize q3.heap.size = bp at *
            have MA : True := trivial
    case' o2 =>
      go_simp
      refine hK.out _ _ (HS.later (bel1 _ _)) (fun HS => ?_)
      clear hK K
      replace HJ : Hid (J9 w bs (.slice (some ⟨m1, 0, none⟩) 1 1) (.slice (some ⟨m2, 0, none⟩) 1 1) 1 4294967296 17179869184 (some q0.heap.size) none none (q0.alloc (.cells #[.int .i64 4294967296] 22))) := HJ.out.mkP 22 (by omega) (by omega)
      generalize (q0.alloc (.cells #[.int .i64 4294967296] 22)) = q1 at *
      generalize q0.heap.size = bp at *
      refine wpAnyH_ready (rs := [0, 3, 9]) (by kernel_rfl) (by simp) ?_
      refine AllReadyH.cons rfl (fun K hK => ?o22) (AllReadyH.cons rfl (fun K hK => ?o23) (AllReadyH.cons rfl (fun K hK => ?o24) AllReadyH.nil))
      case' o22 =>
        go_simp
        refine (simple9_any _).mono ?_
        rintro e q2 ⟨rfl, hb⟩
        refine hK.out _ _ (HS.later hb) (fun HS => ?_)
        clear hK K
        replace HJ : Hid (J9 w bs (.slice (some ⟨m1, 0, none⟩) 1 1) (.slice (some ⟨m2, 0, none⟩) 1 1) 1 4294967296 17179869184 (some bp) none none q2) := HJ.out.later hb
        clear hb
        refine wpAnyH_ready (rs := [3, 9]) (by kernel_rfl) (by simp) ?_
        refine AllReadyH.cons rfl (fun K hK => ?o25) (AllReadyH.cons rfl (fun K hK => ?o26) AllReadyH.nil)
        case' o25 =>
          go_simp
          refine hK.out _ _ (HS.later (bel1 _ _)) (fun HS => ?_)
          clear hK K
          replace HJ : Hid (J9 w bs (.slice (some ⟨m1, 0, none⟩) 1 1) (.slice (some ⟨m2, 0, none⟩) 1 1) 1 4294967296 17179869184 (some bp) (some q2.heap.size) none (q2.alloc (.cells #[.int .i64 17179869184] 22))) := HJ.out.mkG 22 (by omega) (by omega)
          generalize (q2.alloc (.cells #[.int .i64 17179869184] 22)) = q3 at *
          generalize q2.heap.size = bg at *
          refine wpAnyH_ready (rs := [4, 9]) (by kernel_rfl) (by simp) ?_
          refine AllReadyH.cons rfl (fun K hK => ?o27) (AllReadyH.cons rfl (fun K hK => ?o28) AllReadyH.nil)
          case' o27 => skip
          case' o28 =>
            go_simp
            have hlt := HS.lt
            refine hK.out _ _ (HS.later (bel1 _ _)) (fun HS => ?_)
            clear hK K
            replace HJ : Hid (J9 w bs (.slice (some ⟨m1, 0, none⟩) 1 1) (.slice (some ⟨m2, 0, none⟩) 1 1) 1 4294967296 17179869184 (some bp) (some bg) (some q3.heap.size) (q3.alloc (.cells #[.slice none 0 0, .slice none 0 0, .int .i64 0] 30))) := HJ.out.mkA 30 hlt
            clear hlt
            generalize (q3.alloc (.cells #[.slice none 0 0, .slice none 0 0, .int .i64 0] 30)) = q4 at *
            generalize q3.heap.size = bt at *
            have MA : True := trivial
        case' o26 =>
          go_simp
          have hlt := HS.lt
          refine hK.out _ _ (HS.later (bel1 _ _)) (fun HS => ?_)
          clear hK K
          replace HJ : Hid (J9 w bs (.slice (some ⟨m1, 0, none⟩) 1 1) (.slice (some ⟨m2, 0, none⟩) 1 1) 1 4294967296 17179869184 (some bp) none (some q2.heap.size) (q2.alloc (.cells #[.slice none 0 0, .slice none 0 0, .int .i64 0] 30))) := HJ.out.mkA 30 hlt
          clear hlt
          generalize (q2.alloc (.cells #[.slice none 0 0, .slice none 0 0, .int .i64 0] 30)) = q3 at *
          generalize q2.heap.size = bt at *
          refine wpAnyH_ready (rs := [3]) (by kernel_rfl) (by simp) ?_
          refine AllReadyH.cons rfl (fun K hK => ?o29) AllReadyH.nil
          case' o29 =>
            go_simp
            refine hK.out _ _ (HS.later (bel1 _ _)) (fun HS => ?_)
            clear hK K
            replace HJ : Hid (J9 w bs (.slice (some ⟨m1, 0, none⟩) 1 1) (.slice (some ⟨m2, 0, none⟩) 1 1) 1 4294967296 17179869184 (some bp) (some q3.heap.size) (some bt) (q3.alloc (.cells #[.int .i64 17179869184] 22))) := HJ.out.mkG 22 (by omega) (by omega)
            generalize (q3.alloc (.cells #[.int .i64 17179869184] 22)) = q4 at *
            generalize q3.heap.size = bg at *
            have MA : True := trivial
      case' o23 =>
        go_simp
        refine hK.out _ _ (HS.later (bel1 _ _)) (fun HS => ?_)
        clear hK K
        replace HJ : Hid (J9 w bs (.slice (some ⟨m1, 0, none⟩) 1 1) (.slice (some ⟨m2, 0, none⟩) 1 1) 1 4294967296 17179869184 (some bp) (some q1.heap.size) none (q1.alloc (.cells #[.int .i64 17179869184] 22))) := HJ.out.mkG 22 (by omega) (by omega)
        generalize (q1.alloc (.cells #[.int .i64 17179869184] 22)) = q2 at *
        generalize q1.heap.size = bg at *
        refine wpAnyH_ready (rs := [0, 9]) (by kernel_rfl) (by simp) ?_
        refine AllReadyH.cons rfl (fun K hK => ?o30) (AllReadyH.cons rfl (fun K hK => ?o31) AllReadyH.nil)
        case' o30 =>
          go_simp
          refine (simple9_any _).mono ?_
          rintro e q3 ⟨rfl, hb⟩
          refine hK.out _ _ (HS.later hb) (fun HS => ?_)
          clear hK K
          replace HJ : Hid (J9 w bs (.slice (some ⟨m1, 0, none⟩) 1 1) (.slice (some ⟨m2, 0, none⟩) 1 1) 1 4294967296 17179869184 (some bp) (some bg) none q3) := HJ.out.later hb
          clear hb
          refine wpAnyH_ready (rs := [4, 9]) (by kernel_rfl) (by simp) ?_
          refine AllReadyH.cons rfl (fun K hK => ?o32) (AllReadyH.cons rfl (fun K hK => ?o33) AllReadyH.nil)
          case' o32 => skip
          case' o33 =>
            go_simp
            have hlt := HS.lt
            refine hK.out _ _ (HS.later (bel1 _ _)) (fun HS => ?_)
            clear hK K
            replace HJ : Hid (J9 w bs (.slice (some ⟨m1, 0, none⟩) 1 1) (.slice (some ⟨m2, 0, none⟩) 1 1) 1 4294967296 17179869184 (some bp) (some bg) (some q3.heap.size) (q3.alloc (.cells #[.slice none 0 0, .slice none 0 0, .int .i64 0] 30))) := HJ.out.mkA 30 hlt
            clear hlt
            generalize (q3.alloc (.cells #[.slice none 0 0, .slice none 0 0, .int .i64 0] 30)) = q4 at *
            generalize q3.heap.size = bt at *
            have MA : True := trivial
        case' o31 =>
          go_simp
          have hlt := HS.lt
          refine hK.out _ _ (HS.later (bel1 _ _)) (fun HS => ?_)
          clear hK K
          replace HJ : Hid (J9 w bs (.slice (some ⟨m1, 0, none⟩) 1 1) (.slice (some ⟨m2, 0, none⟩) 1 1) 1 4294967296 17179869184 (some bp) (some bg) (some q2.heap.size) (q2.alloc (.cells #[.slice none 0 0, .slice none 0 0, .int .i64 0] 30))) := HJ.out.mkA 30 hlt
          clear hlt
          generalize (q2.alloc (.cells #[.slice none 0 0, .slice none 0 0, .int .i64 0] 30)) = q3 at *
          generalize q2.heap.size = bt at *
          refine wpAnyH_ready (rs := [0]) (by kernel_rfl) (by simp) ?_
          refine AllReadyH.cons rfl (fun K hK => ?o34) AllReadyH.nil
          case' o34 =>
            go_simp
            refine (simple9_any _).mono ?_
            rintro e q4 ⟨rfl, hb⟩
            refine hK.out _ _ (HS.later hb) (fun HS => ?_)
            clear hK K
            replace HJ : Hid (J9 w bs (.slice (some ⟨m1, 0, none⟩) 1 1) (.slice (some ⟨m2, 0, none⟩) 1 1) 1 4294967296 17179869184 (some bp) (some bg) (some bt) q4) := HJ.out.later hb
            clear hb
            have MA : True := trivial
      case' o24 =>
        go_simp
        have hlt := HS.lt
        refine hK.out _ _ (HS.later (bel1 _ _)) (fun HS => ?_)
        clear hK K
        replace HJ : Hid (J9 w bs (.slice (some ⟨m1, 0, none⟩) 1 1) (.slice (some ⟨m2, 0, none⟩) 1 1) 1 4294967296 17179869184 (some bp) none (some q1.heap.size) (q1.alloc (.cells #[.slice none 0 0, .slice none 0 0, .int .i64 0] 30))) := HJ.out.mkA 30 hlt
        clear hlt
        generalize (q1.alloc (.cells #[.slice none 0 0, .slice none 0 0, .int .i64 0] 30)) = q2 at *
        generalize q1.heap.size = bt at *
        refine wpAnyH_ready (rs := [0, 3]) (by kernel_rfl) (by simp) ?_
        refine AllReadyH.cons rfl (fun K hK => ?o35) (AllReadyH.cons rfl (fun K hK => ?o36) AllReadyH.nil)
        case' o35 =>
          go_simp
          refine (simple9_any _).mono ?_
          rintro e q3 ⟨rfl, hb⟩
          refine hK.out _ _ (HS.later hb) (fun HS => ?_)
          clear hK K
          replace HJ : Hid (J9 w bs (.slice (some ⟨m1, 0, none⟩) 1 1) (.slice (some ⟨m2, 0, none⟩) 1 1) 1 4294967296 17179869184 (some bp) none (some bt) q3) := HJ.out.later hb
          clear hb
          refine wpAnyH_ready (rs := [3]) (by kernel_rfl) (by simp) ?_
          refine AllReadyH.cons rfl (fun K hK => ?o37) AllReadyH.nil
          case' o37 =>
            go_simp
            refine hK.out _ _ (HS.later (bel1 _ _)) (fun HS => ?_)
            clear hK K
            replace HJ : Hid (J9 w bs (.slice (some ⟨m1, 0, none⟩) 1 1) (.slice (some ⟨m2, 0, none⟩) 1 1) 1 4294967296 17179869184 (some bp) (some q3.heap.size) (some bt) (q3.alloc (.cells #[.int .i64 17179869184] 22))) := HJ.out.mkG 22 (by omega) (by omega)
            generalize (q3.alloc (.cells #[.int .i64 17179869184] 22)) = q4 at *
            generalize q3.heap.size = bg at *
            have MA : True := trivial
        case' o36 =>
          go_simp
          refine hK.out _ _ (HS.later (bel1 _ _)) (fun HS => ?_)
          clear hK K
          replace HJ : Hid (J9 w bs (.slice (some ⟨m1, 0, none⟩) 1 1) (.slice (some ⟨m2, 0, none⟩) 1 1) 1 4294967296 17179869184 (some bp) (some q2.heap.size) (some bt) (q2.alloc (.cells #[.int .i64 17179869184] 22))) := HJ.out.mkG 22 (by omega) (by omega)
          generalize (q2.alloc (.cells #[.int .i64 17179869184] 22)) = q3 at *
          generalize q2.heap.size = bg at *
          refine wpAnyH_ready (rs := [0]) (by kernel_rfl) (by simp) ?_
          refine AllReadyH.cons rfl (fun K hK => ?o38) AllReadyH.nil
          case' o38 =>
            go_simp
            refine (simple9_any _).mono ?_
            rintro e q4 ⟨rfl, hb⟩
            refine hK.out _ _ (HS.later hb) (fun HS => ?_)
            clear hK K
            replace HJ : Hid (J9 w bs (.slice (some ⟨m1, 0, none⟩) 1 1) (.slice (some ⟨m2, 0, none⟩) 1 1) 1 4294967296 17179869184 (some bp) (some bg) (some bt) q4) := HJ.out.later hb
            clear hb
            have MA : True := trivial
    case' o3 =>
      go_simp
      refine hK.out _ _ (HS.later (bel1 _ _)) (fun HS => ?_)
      clear hK K
      replace HJ : Hid (J9 w bs (.slice (some ⟨m1, 0, none⟩) 1 1) (.slice (some ⟨m2, 0, none⟩) 1 1) 1 4294967296 17179869184 none (some q0.heap.size) none (q0.alloc (.cells #[.int .i64 17179869184] 22))) := HJ.out.mkG 22 (by omega) (by omega)
      generalize (q0.alloc (.cells #[.int .i64 17179869184] 22)) = q1 at *
      generalize q0.heap.size = bg at *
      refine wpAnyH_ready (rs := [0, 2, 9]) (by kernel_rfl) (by simp) ?_
      refine AllReadyH.cons rfl (fun K hK => ?o39) (AllReadyH.cons rfl (fun K hK => ?o40) (AllReadyH.cons rfl (fun K hK => ?o41) AllReadyH.nil))
      case' o39 =>
        go_simp
        refine (simple9_any _).mono ?_
        rintro e q2 ⟨rfl, hb⟩
        refine hK.out _ _ (HS.later hb) (fun HS => ?_)
        clear hK K
        replace HJ : Hid (J9 w bs (.slice (some ⟨m1, 0, none⟩) 1 1) (.slice (some ⟨m2, 0, none⟩) 1 1) 1 4294967296 17179869184 none (some bg) none q2) := HJ.out.later hb
        clear hb
        refine wpAnyH_ready (rs := [2, 9]) (by kernel_rfl) (by simp) ?_
        refine AllReadyH.cons rfl (fun K hK => ?o42) (AllReadyH.cons rfl (fun K hK => ?o43) AllReadyH.nil)
        case' o42 =>
          go_simp
          refine hK.out _ _ (HS.later (bel1 _ _)) (fun HS => ?_)
          clear hK K
          replace HJ : Hid (J9 w bs (.slice (some ⟨m1, 0, none⟩) 1 1) (.slice (some ⟨m2, 0, none⟩) 1 1) 1 4294967296 17179869184 (some q2.heap.size) (some bg) none (q2.alloc (.cells #[.int .i64 4294967296] 22))) := HJ.out.mkP 22 (by omega) (by omega)
          generalize (q2.alloc (.cells #[.int .i64 4294967296] 22)) = q3 at *
          generalize q2.heap.size = bp at *
          refine wpAnyH_ready (rs := [4, 9]) (by kernel_rfl) (by simp) ?_
          refine AllReadyH.cons rfl (fun K hK => ?o44) (AllReadyH.cons rfl (fun K hK => ?o45) AllReadyH.nil)
          case' o44 => skip
          case' o45 =>
            go_simp
            have hlt := HS.lt
            refine hK.out _ _ (HS.later (bel1 _ _)) (fun HS => ?_)
            clear hK K
            replace HJ : Hid (J9 w bs (.slice (some ⟨m1, 0, none⟩) 1 1) (.slice (some ⟨m2, 0, none⟩) 1 1) 1 4294967296 17179869184 (some bp) (some bg) (some q3.heap.size) (q3.alloc (.cells #[.slice none 0 0, .slice none 0 0, .int .i64 0] 30))) := HJ.out.mkA 30 hlt
            clear hlt
            generalize (q3.alloc (.cells #[.slice none 0 0, .slice none 0 0, .int .i64 0] 30)) = q4 at *
            generalize q3.heap.size = bt at *
            have MA : True := trivial
        case' o43 =>
          go_simp
          have hlt := HS.lt
          refine hK.out _ _ (HS.later (bel1 _ _)) (fun HS => ?_)
          clear hK K
          replace HJ : Hid (J9 w bs (.slice (some ⟨m1, 0, none⟩) 1 1) (.slice (some ⟨m2, 0, none⟩) 1 1) 1 4294967296 17179869184 none (some bg) (some q2.heap.size) (q2.alloc (.cells #[.slice none 0 0, .slice none 0 0, .int .i64 0] 30))) := HJ.out.mkA 30 hlt
          clear hlt
          generalize (q2.alloc (.cells #[.slice none 0 0, .slice none 0 0, .int .i64 0] 30)) = q3 at *
          generalize q2.heap.size = bt at *
          refine wpAnyH_ready (rs := [2]) (by kernel_rfl) (by simp) ?_
          refine AllReadyH.cons rfl (fun K hK => ?o46) AllReadyH.nil
          case' o46 =>
            go_simp
            refine hK.out _ _ (HS.later (bel1 _ _)) (fun HS => ?_)
            clear hK K
            replace HJ : Hid (J9 w bs (.slice (some ⟨m1, 0, none⟩) 1 1) (.slice (some ⟨m2, 0, none⟩) 1 1) 1 4294967296 17179869184 (some q3.heap.size) (some bg) (some bt) (q3.alloc (.cells #[.int .i64 4294967296] 22))) := HJ.out.mkP 22 (by omega) (by omega)
            generalize (q3.alloc (.cells #[.int .i64 4294967296] 22)) = q4 at *
            generalize q3.heap.size = bp at *
            have MA : True := trivial
      case' o40 =>
        go_simp
        refine hK.out _ _ (HS.later (bel1 _ _)) (fun HS => ?_)
        clear hK K
        replace HJ : Hid (J9 w bs (.slice (some ⟨m1, 0, none⟩) 1 1) (.slice (some ⟨m2, 0, none⟩) 1 1) 1 4294967296 17179869184 (some q1.heap.size) (some bg) none (q1.alloc (.cells #[.int .i64 4294967296] 22))) := HJ.out.mkP 22 (by omega) (by omega)
        generalize (q1.alloc (.cells #[.int .i64 4294967296] 22)) = q2 at *
        generalize q1.heap.size = bp at *
        refine wpAnyH_ready (rs := [0, 9]) (by kernel_rfl) (by simp) ?_
        refine AllReadyH.cons rfl (fun K hK => ?o47) (AllReadyH.cons rfl (fun K hK => ?o48) AllReadyH.nil)
        case' o47 =>
          go_simp
          refine (simple9_any _).mono ?_
          rintro e q3 ⟨rfl, hb⟩
          refine hK.out _ _ (HS.later hb) (fun HS => ?_)
          clear hK K
          replace HJ : Hid (J9 w bs (.slice (some ⟨m1, 0, none⟩) 1 1) (.slice (some ⟨m2, 0, none⟩) 1 1) 1 4294967296 17179869184 (some bp) (some bg) none q3) := HJ.out.later hb
          clear hb
          refine wpAnyH_ready (rs := [4, 9]) (by kernel_rfl) (by simp) ?_
          refine AllReadyH.cons rfl (fun K hK => ?o49) (AllReadyH.cons rfl (fun K hK => ?o50) AllReadyH.nil)
          case' o49 => skip
          case' o50 =>
            go_simp
            have hlt := HS.lt
            refine hK.out _ _ (HS.later (bel1 _ _)) (fun HS => ?_)
            clear hK K
            replace HJ : Hid (J9 w bs (.slice (some ⟨m1, 0, none⟩) 1 1) (.slice (some ⟨m2, 0, none⟩) 1 1) 1 4294967296 17179869184 (some bp) (some bg) (some q3.heap.size) (q3.alloc (.cells #[.slice none 0 0, .slice none 0 0, .int .i64 0] 30))) := HJ.out.mkA 30 hlt
            clear hlt
            generalize (q3.alloc (.cells #[.slice none 0 0, .slice none 0 0, .int .i64 0] 30)) = q4 at *
            generalize q3.heap.size = bt at *
            have MA : True := trivial
        case' o48 =>
          go_simp
          have hlt := HS.lt
          refine hK.out _ _ (HS.later (bel1 _ _)) (fun HS => ?_)
          clear hK K
          replace HJ : Hid (J9 w bs (.slice (some ⟨m1, 0, none⟩) 1 1) (.slice (some ⟨m2, 0, none⟩) 1 1) 1 4294967296 17179869184 (some bp) (some bg) (some q2.heap.size) (q2.alloc (.cells #[.slice none 0 0, .slice none 0 0, .int .i64 0] 30))) := HJ.out.mkA 30 hlt
          clear hlt
          generalize (q2.alloc (.cells #[.slice none 0 0, .slice none 0 0, .int .i64 0] 30)) = q3 at *
          generalize q2.heap.size = bt at *
          refine wpAnyH_ready (rs := [0]) (by kernel_rfl) (by simp) ?_
          refine AllReadyH.cons rfl (fun K hK => ?o51) AllReadyH.nil
          case' o51 =>
            go_simp
            refine (simple9_any _).mono ?_
            rintro e q4 ⟨rfl, hb⟩
            refine hK.out _ _ (HS.later hb) (fun HS => ?_)
            clear hK K
            replace HJ : Hid (J9 w bs (.slice (some ⟨m1, 0, none⟩) 1 1) (.slice (some ⟨m2, 0, none⟩) 1 1) 1 4294967296 17179869184 (some bp) (some bg) (some bt) q4) := HJ.out.later hb
            clear hb
            have MA : True := trivial
      case' o41 =>
        go_simp
        have hlt := HS.lt
        refine hK.out _ _ (HS.later (bel1 _ _)) (fun HS => ?_)
        clear hK K
        replace HJ : Hid (J9 w bs (.slice (some ⟨m1, 0, none⟩) 1 1) (.slice (some ⟨m2, 0, none⟩) 1 1) 1 4294967296 17179869184 none (some bg) (some q1.heap.size) (q1.alloc (.cells #[.slice none 0 0, .slice none 0 0, .int .i64 0] 30))) := HJ.out.mkA 30 hlt
        clear hlt
        generalize (q1.alloc (.cells #[.slice none 0 0, .slice none 0 0, .int .i64 0] 30)) = q2 at *
        generalize q1.heap.size = bt at *
        refine wpAnyH_ready (rs := [0, 2]) (by kernel_rfl) (by simp) ?_
        refine AllReadyH.cons rfl (fun K hK => ?o52) (AllReadyH.cons rfl (fun K hK => ?o53) AllReadyH.nil)
        case' o52 =>
          go_simp
          refine (simple9_any _).mono ?_
          rintro e q3 ⟨rfl, hb⟩
          refine hK.out _ _ (HS.later hb) (fun HS => ?_)
          clear hK K
          replace HJ : Hid (J9 w bs (.slice (some ⟨m1, 0, none⟩) 1 1) (.slice (some ⟨m2, 0, none⟩) 1 1) 1 4294967296 17179869184 none (some bg) (some bt) q3) := HJ.out.later hb
          clear hb
          refine wpAnyH_ready (rs := [2]) (by kernel_rfl) (by simp) ?_
          refine AllReadyH.cons rfl (fun K hK => ?o54) AllReadyH.nil
          case' o54 =>
            go_simp
            refine hK.out _ _ (HS.later (bel1 _ _)) (fun HS => ?_)
            clear hK K
            replace HJ : Hid (J9 w bs (.slice (some ⟨m1, 0, none⟩) 1 1) (.slice (some ⟨m2, 0, none⟩) 1 1) 1 4294967296 17179869184 (some q3.heap.size) (some bg) (some bt) (q3.alloc (.cells #[.int .i64 4294967296] 22))) := HJ.out.mkP 22 (by omega) (by omega)
            generalize (q3.alloc (.cells #[.int .i64 4294967296] 22)) = q4 at *
            generalize q3.heap.size = bp at *
            have MA : True := trivial
        case' o53 =>
          go_simp
          refine hK.out _ _ (HS.later (bel1 _ _)) (fun HS => ?_)
          clear hK K
          replace HJ : Hid (J9 w bs (.slice (some ⟨m1, 0, none⟩) 1 1) (.slice (some ⟨m2, 0, none⟩) 1 1) 1 4294967296 17179869184 (some q2.heap.size) (some bg) (some bt) (q2.alloc (.cells #[.int .i64 4294967296] 22))) := HJ.out.mkP 22 (by omega) (by omega)
          generalize (q2.alloc (.cells #[.int .i64 4294967296] 22)) = q3 at *
          generalize q2.heap.size = bp at *
          refine wpAnyH_ready (rs := [0]) (by kernel_rfl) (by simp) ?_
          refine AllReadyH.cons rfl (fun K hK => ?o55) AllReadyH.nil
          case' o55 =>
            go_simp
            refine (simple9_any _).mono ?_
            rintro e q4 ⟨rfl, hb⟩
            refine hK.out _ _ (HS.later hb) (fun HS => ?_)
            clear hK K
            replace HJ : Hid (J9 w bs (.slice (some ⟨m1, 0, none⟩) 1 1) (.slice (some ⟨m2, 0, none⟩) 1 1) 1 4294967296 17179869184 (some bp) (some bg) (some bt) q4) := HJ.out.later hb
            clear hb
            have MA : True := trivial
    case' o4 =>
      go_simp
      have hlt := HS.lt
      refine hK.out _ _ (HS.later (bel1 _ _)) (fun HS => ?_)
      clear hK K
      replace HJ : Hid (J9 w bs (.slice (some ⟨m1, 0, none⟩) 1 1) (.slice (some ⟨m2, 0, none⟩) 1 1) 1 4294967296 17179869184 none none (some q0.heap.size) (q0.alloc (.cells #[.slice none 0 0, .slice none 0 0, .int .i64 0] 30))) := HJ.out.mkA 30 hlt
      clear hlt
      generalize (q0.alloc (.cells #[.slice none 0 0, .slice none 0 0, .int .i64 0] 30)) = q1 at *
      generalize q0.heap.size = bt at *
      refine wpAnyH_ready (rs := [0, 2, 3]) (by kernel_rfl) (by simp) ?_
      refine AllReadyH.cons rfl (fun K hK => ?o56) (AllReadyH.cons rfl (fun K hK => ?o57) (AllReadyH.cons rfl (fun K hK => ?o58) AllReadyH.nil))
      case' o56 =>
        go_simp
        refine (simple9_any _).mono ?_
        rintro e q2 ⟨rfl, hb⟩
        refine hK.out _ _ (HS.later hb) (fun HS => ?_)
        clear hK K
        replace HJ : Hid (J9 w bs (.slice (some ⟨m1, 0, none⟩) 1 1) (.slice (some ⟨m2, 0, none⟩) 1 1) 1 4294967296 17179869184 none none (some bt) q2) := HJ.out.later hb
        clear hb
        refine wpAnyH_ready (rs := [2, 3]) (by kernel_rfl) (by simp) ?_
        refine AllReadyH.cons rfl (fun K hK => ?o59) (AllReadyH.cons rfl (fun K hK => ?o60) AllReadyH.nil)
        case' o59 =>
          go_simp
          refine hK.out _ _ (HS.later (bel1 _ _)) (fun HS => ?_)
          clear hK K
          replace HJ : Hid (J9 w bs (.slice (some ⟨m1, 0, none⟩) 1 1) (.slice (some ⟨m2, 0, none⟩) 1 1) 1 4294967296 17179869184 (some q2.heap.size) none (some bt) (q2.alloc (.cells #[.int .i64 4294967296] 22))) := HJ.out.mkP 22 (by omega) (by omega)
          generalize (q2.alloc (.cells #[.int .i64 4294967296] 22)) = q3 at *
          generalize q2.heap.size = bp at *
          refine wpAnyH_ready (rs := [3]) (by kernel_rfl) (by simp) ?_
          refine AllReadyH.cons rfl (fun K hK => ?o61) AllReadyH.nil
          case' o61 =>
            go_simp
            refine hK.out _ _ (HS.later (bel1 _ _)) (fun HS => ?_)
            clear hK K
            replace HJ : Hid (J9 w bs (.slice (some ⟨m1, 0, none⟩) 1 1) (.slice (some ⟨m2, 0, none⟩) 1 1) 1 4294967296 17179869184 (some bp) (some q3.heap.size) (some bt) (q3.alloc (.cells #[.int .i64 17179869184] 22))) := HJ.out.mkG 22 (by omega) (by omega)
            generalize (q3.alloc (.cells #[.int .i64 17179869184] 22)) = q4 at *
            generalize q3.heap.size = bg at *
            have MA : True := trivial
        case' o60 =>
          go_simp
          refine hK.out _ _ (HS.later (bel1 _ _)) (fun HS => ?_)
          clear hK K
          replace HJ : Hid (J9 w bs (.slice (some ⟨m1, 0, none⟩) 1 1) (.slice (some ⟨m2, 0, none⟩) 1 1) 1 4294967296 17179869184 none (some q2.heap.size) (some bt) (q2.alloc (.cells #[.int .i64 17179869184] 22))) := HJ.out.mkG 22 (by omega) (by omega)
          generalize (q2.alloc (.cells #[.int .i64 17179869184] 22)) = q3 at *
          generalize q2.heap.size = bg at *
          refine wpAnyH_ready (rs := [2]) (by kernel_rfl) (by simp) ?_
          refine AllReadyH.cons rfl (fun K hK => ?o62) AllReadyH.nil
          case' o62 =>
            go_simp
            refine hK.out _ _ (HS.later (bel1 _ _)) (fun HS => ?_)
            clear hK K
            replace HJ : Hid (J9 w bs (.slice (some ⟨m1, 0, none⟩) 1 1) (.slice (some ⟨m2, 0, none⟩) 1 1) 1 4294967296 17179869184 (some q3.heap.size) (some bg) (some bt) (q3.alloc (.cells #[.int .i64 4294967296] 22))) := HJ.out.mkP 22 (by omega) (by omega)
            generalize (q3.alloc (.cells #[.int .i64 4294967296] 22)) = q4 at *
            generalize q3.heap.size = bp at *
            have MA : True := trivial
      case' o57 =>
        go_simp
        refine hK.out _ _ (HS.later (bel1 _ _)) (fun HS => ?_)
        clear hK K
        replace HJ : Hid (J9 w bs (.slice (some ⟨m1, 0, none⟩) 1 1) (.slice (some ⟨m2, 0, none⟩) 1 1) 1 4294967296 17179869184 (some q1.heap.size) none (some bt) (q1.alloc (.cells #[.int .i64 4294967296] 22))) := HJ.out.mkP 22 (by omega) (by omega)
        generalize (q1.alloc (.cells #[.int .i64 4294967296] 22)) = q2 at *
        generalize q1.heap.size = bp at *
        refine wpAnyH_ready (rs := [0, 3]) (by kernel_rfl) (by simp) ?_
        refine AllReadyH.cons rfl (fun K hK => ?o63) (AllReadyH.cons rfl (fun K hK => ?o64) AllReadyH.nil)
        case' o63 =>
          go_simp
          refine (simple9_any _).mono ?_
          rintro e q3 ⟨rfl, hb⟩
          refine hK.out _ _ (HS.later hb) (fun HS => ?_)
          clear hK K
          replace HJ : Hid (J9 w bs (.slice (some ⟨m1, 0, none⟩) 1 1) (.slice (some ⟨m2, 0, none⟩) 1 1) 1 4294967296 17179869184 (some bp) none (some bt) q3) := HJ.out.later hb
          clear hb
          refine wpAnyH_ready (rs := [3]) (by kernel_rfl) (by simp) ?_
          refine AllReadyH.cons rfl (fun K hK => ?o65) AllReadyH.nil
          case' o65 =>
            go_simp
            refine hK.out _ _ (HS.later (bel1 _ _)) (fun HS => ?_)
            clear hK K
            replace HJ : Hid (J9 w bs (.slice (some ⟨m1, 0, none⟩) 1 1) (.slice (some ⟨m2, 0, none⟩) 1 1) 1 4294967296 17179869184 (some bp) (some q3.heap.size) (some bt) (q3.alloc (.cells #[.int .i64 17179869184] 22))) := HJ.out.mkG 22 (by omega) (by omega)
            generalize (q3.alloc (.cells #[.int .i64 17179869184] 22)) = q4 at *
            generalize q3.heap.size = bg at *
            have MA : True := trivial
        case' o64 =>
          go_simp
          refine hK.out _ _ (HS.later (bel1 _ _)) (fun HS => ?_)
          clear hK K
          replace HJ : Hid (J9 w bs (.slice (some ⟨m1, 0, none⟩) 1 1) (.slice (some ⟨m2, 0, none⟩) 1 1) 1 4294967296 17179869184 (some bp) (some q2.heap.size) (some bt) (q2.alloc (.cells #[.int .i64 17179869184] 22))) := HJ.out.mkG 22 (by omega) (by omega)
          generalize (q2.alloc (.cells #[.int .i64 17179869184] 22)) = q3 at *
          generalize q2.heap.size = bg at *
          refine wpAnyH_ready (rs := [0]) (by kernel_rfl) (by simp) ?_
          refine AllReadyH.cons rfl (fun K hK => ?o66) AllReadyH.nil
          case' o66 =>
            go_simp
            refine (simple9_any _).mono ?_
            rintro e q4 ⟨rfl, hb⟩
            refine hK.out _ _ (HS.later hb) (fun HS => ?_)
            clear hK K
            replace HJ : Hid (J9 w bs (.slice (some ⟨m1, 0, none⟩) 1 1) (.slice (some ⟨m2, 0, none⟩) 1 1) 1 4294967296 17179869184 (some bp) (some bg) (some bt) q4) := HJ.out.later hb
            clear hb
            have MA : True := trivial
      case' o58 =>
        go_simp
        refine hK.out _ _ (HS.later (bel1 _ _)) (fun HS => ?_)
        clear hK K
        replace HJ : Hid (J9 w bs (.slice (some ⟨m1, 0, none⟩) 1 1) (.slice (some ⟨m2, 0, none⟩) 1 1) 1 4294967296 17179869184 none (some q1.heap.size) (some bt) (q1.alloc (.cells #[.int .i64 17179869184] 22))) := HJ.out.mkG 22 (by omega) (by omega)
        generalize (q1.alloc (.cells #[.int .i64 17179869184] 22)) = q2 at *
        generalize q1.heap.size = bg at *
        refine wpAnyH_ready (rs := [0, 2]) (by kernel_rfl) (by simp) ?_
        refine AllReadyH.cons rfl (fun K hK => ?o67) (AllReadyH.cons rfl (fun K hK => ?o68) AllReadyH.nil)
        case' o67 =>
          go_simp
          refine (simple9_any _).mono ?_
          rintro e q3 ⟨rfl, hb⟩
          refine hK.out _ _ (HS.later hb) (fun HS => ?_)
          clear hK K
          replace HJ : Hid (J9 w bs (.slice (some ⟨m1, 0, none⟩) 1 1) (.slice (some ⟨m2, 0, none⟩) 1 1) 1 4294967296 17179869184 none (some bg) (some bt) q3) := HJ.out.later hb
          clear hb
          refine wpAnyH_ready (rs := [2]) (by kernel_rfl) (by simp) ?_
          refine AllReadyH.cons rfl (fun K hK => ?o69) AllReadyH.nil
          case' o69 =>
            go_simp
            refine hK.out _ _ (HS.later (bel1 _ _)) (fun HS => ?_)
            clear hK K
            replace HJ : Hid (J9 w bs (.slice (some ⟨m1, 0, none⟩) 1 1) (.slice (some ⟨m2, 0, none⟩) 1 1) 1 4294967296 17179869184 (some q3.heap.size) (some bg) (some bt) (q3.alloc (.cells #[.int .i64 4294967296] 22))) := HJ.out.mkP 22 (by omega) (by omega)
            generalize (q3.alloc (.cells #[.int .i64 4294967296] 22)) = q4 at *
            generalize q3.heap.size = bp at *
            have MA : True := trivial
        case' o68 =>
          go_simp
          refine hK.out _ _ (HS.later (bel1 _ _)) (fun HS => ?_)
          clear hK K
          replace HJ : Hid (J9 w bs (.slice (some ⟨m1, 0, none⟩) 1 1) (.slice (some ⟨m2, 0, none⟩) 1 1) 1 4294967296 17179869184 (some q2.heap.size) (some bg) (some bt) (q2.alloc (.cells #[.int .i64 4294967296] 22))) := HJ.out.mkP 22 (by omega) (by omega)
          generalize (q2.alloc (.cells #[.int .i64 4294967296] 22)) = q3 at *
          generalize q2.heap.size = bp at *
          refine wpAnyH_ready (rs := [0]) (by kernel_rfl) (by simp) ?_
          refine AllReadyH.cons rfl (fun K hK => ?o70) AllReadyH.nil
          case' o70 =>
            go_simp
            refine (simple9_any _).mono ?_
            rintro e q4 ⟨rfl, hb⟩
            refine hK.out _ _ (HS.later hb) (fun HS => ?_)
            clear hK K
            replace HJ : Hid (J9 w bs (.slice (some ⟨m1, 0, none⟩) 1 1) (.slice (some ⟨m2, 0, none⟩) 1 1) 1 4294967296 17179869184 (some bp) (some bg) (some bt) q4) := HJ.out.later hb
            clear hb
            have MA : True := trivial
    all_goals first
      | (clear MA
         refine wpAnyH_ready (rs := [4]) (by kernel_rfl) (by simp) ?_
         refine AllReadyH.cons rfl (fun K hK => ?_) AllReadyH.nil
         go_simp
         refine (CS.out _ _ _ _ _ HJ.out.T HJ.out.M HJ.out.V (HJ.out.P _ rfl) (HJ.out.G _ rfl)).mono ?_
         rintro e q5 ⟨g1, g2, g3, rfl, hV, hle2, hb⟩
         have HTn : Hid (g1 ≠ bt ∧ g2 ≠ bt ∧ g3 ≠ bt) := by have := (HJ.out.A _ rfl).lt; exact ⟨by omega, by omega, by omega⟩
         refine hK.out _ _ (HS.later hb) (fun HS => ?_)
         clear hK K
         replace HJ : Hid (J9 w bs (.slice (some ⟨m1, 0, none⟩) 1 1) (.slice (some ⟨m2, 0, none⟩) 1 1) 1 4294967296 17179869184 (some bp) (some bg) (some bt) q5) := HJ.out.later hb
         have HV : Hid (V9 1 g1 g2 g3 (fun _ => 17179869184) (fun _ => 68719476736) (fun _ => 3865470567) q5) := hV
         clear hb hV hle2
         refine wpAnyH_take (i := 5) (v := ?_) rfl (by kernel_rfl) (by kernel_rfl) (by kernel_rfl) (fun _ _ _ h => h) (Or.inl ⟨by kernel_rfl, ?_⟩) HS ?_
         rotate_left
         · (rintro w ⟨y0, y1, y2, z0, z1, z2⟩; go_simp) <;> with_reducible rfl
         try simp only [Act.put, List.getElem_toArray, List.getElem_cons_succ, List.getElem_cons_zero, List.setIfInBounds_toArray, List.set_cons_zero, List.set_cons_succ]
         refine wpAnyH_take (i := 6) (v := ?_) rfl (by kernel_rfl) (by kernel_rfl) (by kernel_rfl) (fun _ _ _ h => h) (Or.inl ⟨by kernel_rfl, ?_⟩) HS ?_
         rotate_left
         · (rintro w ⟨y0, y1, y2, z0, z1, z2⟩; go_simp) <;> with_reducible rfl
         try simp only [Act.put, List.getElem_toArray, List.getElem_cons_succ, List.getElem_cons_zero, List.setIfInBounds_toArray, List.set_cons_zero, List.set_cons_succ]
         refine wpAnyH_take (i := 7) (v := ?_) rfl (by kernel_rfl) (by kernel_rfl) (by kernel_rfl) (fun _ _ _ h => h) (Or.inl ⟨by kernel_rfl, ?_⟩) HS ?_
         rotate_left
         · (rintro w ⟨y0, y1, y2, z0, z1, z2⟩; go_simp) <;> with_reducible rfl
         try simp only [Act.put, List.getElem_toArray, List.getElem_cons_succ, List.getElem_cons_zero, List.setIfInBounds_toArray, List.set_cons_zero, List.set_cons_succ]
         refine wpAnyH_take (i := 8) (v := ?_) rfl (by kernel_rfl) (by kernel_rfl) (by kernel_rfl) (fun _ _ _ h => h) (Or.inl ⟨by kernel_rfl, ?_⟩) HS ?_
         rotate_left
         · (rintro w ⟨y0, y1, y2, z0, z1, z2⟩; go_simp) <;> with_reducible rfl
         try simp only [Act.put, List.getElem_toArray, List.getElem_cons_succ, List.getElem_cons_zero, List.setIfInBounds_toArray, List.set_cons_zero, List.set_cons_succ]
         have HA : Hid (Y3 bt (.slice none 0 0) (.slice none 0 0) (.int .i64 0) q5) := HJ.out.A _ rfl
         have HL := HJ.out.L _ rfl
         obtain ⟨y0, y1, y2, f0, f1, f2⟩ := HA.out
         refine wpAnyH_ready (rs := [10]) (by kernel_rfl) (by simp) ?_
         refine AllReadyH.cons rfl (fun K hK => ?_) AllReadyH.nil
         go_simp
         refine hK.out _ _ (((HS.far ⟨bt, 0, none⟩ _ HL.2).far ⟨bt, 1, none⟩ _ HL.2).far ⟨bt, 2, none⟩ _ HL.2) (fun HS => ?_)
         clear hK K y0 y1 y2 f0 f1 f2
         refine wpAnyH_take (i := 11) (v := ?_) rfl (by kernel_rfl) (by kernel_rfl) (by kernel_rfl) (fun _ _ _ h => h) (Or.inl ⟨by kernel_rfl, ?_⟩) HS ?_
         rotate_left
         · (rintro w ⟨y0, y1, y2, z0, z1, z2⟩; go_simp) <;> with_reducible rfl
         try simp only [Act.put, List.getElem_toArray, List.getElem_cons_succ, List.getElem_cons_zero, List.setIfInBounds_toArray, List.set_cons_zero, List.set_cons_succ]
         refine wpAnyH_take (i := 12) (v := ?_) rfl (by kernel_rfl) (by kernel_rfl) (by kernel_rfl) (fun _ _ _ h => h) (Or.inl ⟨by kernel_rfl, ?_⟩) HS ?_
         rotate_left
         · (rintro w ⟨y0, y1, y2, z0, z1, z2⟩; go_simp) <;> with_reducible rfl
         try simp only [Act.put, List.getElem_toArray, List.getElem_cons_succ, List.getElem_cons_zero, List.setIfInBounds_toArray, List.set_cons_zero, List.set_cons_succ]
         refine wpAnyH_done (by kernel_rfl) ?_ _
         clear HS
         have K1 : Hid (Y3 bt (.slice (some ⟨g1, 0, none⟩) 1 1) (.slice (some ⟨g2, 0, none⟩) 1 1) (.int .i64 1) (((q5.setCell ⟨bt, 0, none⟩ (.slice (some ⟨g1, 0, none⟩) 1 1)).setCell ⟨bt, 1, none⟩ (.slice (some ⟨g2, 0, none⟩) 1 1)).setCell ⟨bt, 2, none⟩ (.int .i64 1)) ∧ V9 1 g1 g2 g3 (fun _ => 17179869184) (fun _ => 68719476736) (fun _ => 3865470567) (((q5.setCell ⟨bt, 0, none⟩ (.slice (some ⟨g1, 0, none⟩) 1 1)).setCell ⟨bt, 1, none⟩ (.slice (some ⟨g2, 0, none⟩) 1 1)).setCell ⟨bt, 2, none⟩ (.int .i64 1))) := ⟨((HA.out.set0 _).set1 _).set2 _, ((HV.out.far ⟨bt, 0, none⟩ _ HTn.out).far ⟨bt, 1, none⟩ _ HTn.out).far ⟨bt, 2, none⟩ _ HTn.out⟩
         have K2 : Hid (Below w.heap.size w (((q5.setCell ⟨bt, 0, none⟩ (.slice (some ⟨g1, 0, none⟩) 1 1)).setCell ⟨bt, 1, none⟩ (.slice (some ⟨g2, 0, none⟩) 1 1)).setCell ⟨bt, 2, none⟩ (.int .i64 1))) := ((HJ.out.B.setCell HL.1 _).setCell HL.1 _).setCell HL.1 _
         clear HA HV HJ HL HTn
         generalize (((q5.setCell ⟨bt, 0, none⟩ (.slice (some ⟨g1, 0, none⟩) 1 1)).setCell ⟨bt, 1, none⟩ (.slice (some ⟨g2, 0, none⟩) 1 1)).setCell ⟨bt, 2, none⟩ (.int .i64 1)) = wE at *
         go_wp2
         go_meet
         case rel => exact ⟨bt, g1, g2, g3, rfl, rfl, rfl, K1, K2⟩)
      | (go_simp
         refine (CS.out _ _ _ _ _ HJ.out.T HJ.out.M HJ.out.V (HJ.out.P _ rfl) (HJ.out.G _ rfl)).mono ?_
         rintro e q4 ⟨g1, g2, g3, rfl, hV, hle2, hb⟩
         refine hK.out _ _ (HS.later hb) (fun HS => ?_)
         clear hK K
         replace HJ : Hid (J9 w bs (.slice (some ⟨m1, 0, none⟩) 1 1) (.slice (some ⟨m2, 0, none⟩) 1 1) 1 4294967296 17179869184 (some bp) (some bg) none q4) := HJ.out.later hb
         have HV : Hid (V9 1 g1 g2 g3 (fun _ => 17179869184) (fun _ => 68719476736) (fun _ => 3865470567) q4) := hV
         clear hb hV hle2
         refine wpAnyH_take (i := 5) (v := ?_) rfl (by kernel_rfl) (by kernel_rfl) (by kernel_rfl) (fun _ _ _ h => h) (Or.inl ⟨by kernel_rfl, ?_⟩) HS ?_
         rotate_left
         · (rintro w ⟨y0, y1, y2, z0, z1, z2⟩; go_simp) <;> with_reducible rfl
         try simp only [Act.put, List.getElem_toArray, List.getElem_cons_succ, List.getElem_cons_zero, List.setIfInBounds_toArray, List.set_cons_zero, List.set_cons_succ]
         refine wpAnyH_take (i := 6) (v := ?_) rfl (by kernel_rfl) (by kernel_rfl) (by kernel_rfl) (fun _ _ _ h => h) (Or.inl ⟨by kernel_rfl, ?_⟩) HS ?_
         rotate_left
         · (rintro w ⟨y0, y1, y2, z0, z1, z2⟩; go_simp) <;> with_reducible rfl
         try simp only [Act.put, List.getElem_toArray, List.getElem_cons_succ, List.getElem_cons_zero, List.setIfInBounds_toArray, List.set_cons_zero, List.set_cons_succ]
         refine wpAnyH_take (i := 7) (v := ?_) rfl (by kernel_rfl) (by kernel_rfl) (by kernel_rfl) (fun _ _ _ h => h) (Or.inl ⟨by kernel_rfl, ?_⟩) HS ?_
         rotate_left
         · (rintro w ⟨y0, y1, y2, z0, z1, z2⟩; go_simp) <;> with_reducible rfl
         try simp only [Act.put, List.getElem_toArray, List.getElem_cons_succ, List.getElem_cons_zero, List.setIfInBounds_toArray, List.set_cons_zero, List.set_cons_succ]
         refine wpAnyH_take (i := 8) (v := ?_) rfl (by kernel_rfl) (by kernel_rfl) (by kernel_rfl) (fun _ _ _ h => h) (Or.inl ⟨by kernel_rfl, ?_⟩) HS ?_
         rotate_left
         · (rintro w ⟨y0, y1, y2, z0, z1, z2⟩; go_simp) <;> with_reducible rfl
         try simp only [Act.put, List.getElem_toArray, List.getElem_cons_succ, List.getElem_cons_zero, List.setIfInBounds_toArray, List.set_cons_zero, List.set_cons_succ]
         refine wpAnyH_ready (rs := [9]) (by kernel_rfl) (by simp) ?_
         refine AllReadyH.cons rfl (fun K hK => ?_) AllReadyH.nil
         go_simp
         have hlt := HS.lt
         refine hK.out _ _ (HS.later (bel1 _ _)) (fun HS => ?_)
         clear hK K
         replace HJ : Hid (J9 w bs (.slice (some ⟨m1, 0, none⟩) 1 1) (.slice (some ⟨m2, 0, none⟩) 1 1) 1 4294967296 17179869184 (some bp) (some bg) (some q4.heap.size) (q4.alloc (.cells #[.slice none 0 0, .slice none 0 0, .int .i64 0] 30))) := HJ.out.mkA 30 hlt
         have HTn : Hid (g1 ≠ q4.heap.size ∧ g2 ≠ q4.heap.size ∧ g3 ≠ q4.heap.size) := HV.out.fresh (by omega)
         replace HV : Hid (V9 1 g1 g2 g3 (fun _ => 17179869184) (fun _ => 68719476736) (fun _ => 3865470567) (q4.alloc (.cells #[.slice none 0 0, .slice none 0 0, .int .i64 0] 30))) := HV.out.later (bel1 _ _)
         clear hlt
         generalize (q4.alloc (.cells #[.slice none 0 0, .slice none 0 0, .int .i64 0] 30)) = q5 at *
         generalize q4.heap.size = bt at *
         have HA : Hid (Y3 bt (.slice none 0 0) (.slice none 0 0) (.int .i64 0) q5) := HJ.out.A _ rfl
         have HL := HJ.out.L _ rfl
         obtain ⟨y0, y1, y2, f0, f1, f2⟩ := HA.out
         refine wpAnyH_ready (rs := [10]) (by kernel_rfl) (by simp) ?_
         refine AllReadyH.cons rfl (fun K hK => ?_) AllReadyH.nil
         go_simp
         refine hK.out _ _ (((HS.far ⟨bt, 0, none⟩ _ HL.2).far ⟨bt, 1, none⟩ _ HL.2).far ⟨bt, 2, none⟩ _ HL.2) (fun HS => ?_)
         clear hK K y0 y1 y2 f0 f1 f2
         refine wpAnyH_take (i := 11) (v := ?_) rfl (by kernel_rfl) (by kernel_rfl) (by kernel_rfl) (fun _ _ _ h => h) (Or.inl ⟨by kernel_rfl, ?_⟩) HS ?_
         rotate_left
         · (rintro w ⟨y0, y1, y2, z0, z1, z2⟩; go_simp) <;> with_reducible rfl
         try simp only [Act.put, List.getElem_toArray, List.getElem_cons_succ, List.getElem_cons_zero, List.setIfInBounds_toArray, List.set_cons_zero, List.set_cons_succ]
         refine wpAnyH_take (i := 12) (v := ?_) rfl (by kernel_rfl) (by kernel_rfl) (by kernel_rfl) (fun _ _ _ h => h) (Or.inl ⟨by kernel_rfl, ?_⟩) HS ?_
         rotate_left
         · (rintro w ⟨y0, y1, y2, z0, z1, z2⟩; go_simp) <;> with_reducible rfl
         try simp only [Act.put, List.getElem_toArray, List.getElem_cons_succ, List.getElem_cons_zero, List.setIfInBounds_toArray, List.set_cons_zero, List.set_cons_succ]
         refine wpAnyH_done (by kernel_rfl) ?_ _
         clear HS
         have K1 : Hid (Y3 bt (.slice (some ⟨g1, 0, none⟩) 1 1) (.slice (some ⟨g2, 0, none⟩) 1 1) (.int .i64 1) (((q5.setCell ⟨bt, 0, none⟩ (.slice (some ⟨g1, 0, none⟩) 1 1)).setCell ⟨bt, 1, none⟩ (.slice (some ⟨g2, 0, none⟩) 1 1)).setCell ⟨bt, 2, none⟩ (.int .i64 1)) ∧ V9 1 g1 g2 g3 (fun _ => 17179869184) (fun _ => 68719476736) (fun _ => 3865470567) (((q5.setCell ⟨bt, 0, none⟩ (.slice (some ⟨g1, 0, none⟩) 1 1)).setCell ⟨bt, 1, none⟩ (.slice (some ⟨g2, 0, none⟩) 1 1)).setCell ⟨bt, 2, none⟩ (.int .i64 1))) := ⟨((HA.out.set0 _).set1 _).set2 _, ((HV.out.far ⟨bt, 0, none⟩ _ HTn.out).far ⟨bt, 1, none⟩ _ HTn.out).far ⟨bt, 2, none⟩ _ HTn.out⟩
         have K2 : Hid (Below w.heap.size w (((q5.setCell ⟨bt, 0, none⟩ (.slice (some ⟨g1, 0, none⟩) 1 1)).setCell ⟨bt, 1, none⟩ (.slice (some ⟨g2, 0, none⟩) 1 1)).setCell ⟨bt, 2, none⟩ (.int .i64 1))) := ((HJ.out.B.setCell HL.1 _).setCell HL.1 _).setCell HL.1 _
         clear HA HV HJ HL HTn
         generalize (((q5.setCell ⟨bt, 0, none⟩ (.slice (some ⟨g1, 0, none⟩) 1 1)).setCell ⟨bt, 1, none⟩ (.slice (some ⟨g2, 0, none⟩) 1 1)).setCell ⟨bt, 2, none⟩ (.int .i64 1)) = wE at *
         go_wp2
         go_meet
         case rel => exact ⟨bt, g1, g2, g3, rfl, rfl, rfl, K1, K2⟩)
  case rest =>
    obtain ⟨bt, g1, g2, g3, rfl, rfl, rfl, HV, HB⟩ := hcut
    clear HJ HSc
    have y0 := HV.out.1.c0
    have y1 := HV.out.1.c1
    have y2 := HV.out.1.c2
    have k : ∀ (g : Nat) (x : Int), Ar wc (.slice (some ⟨g, 0, none⟩) 1 1) 1 (fun _ => x) → wc.cell? ⟨g, 0, none⟩ = some (.int .i64 x) := fun g x h => by
      obtain ⟨b, o, e, h', -, -⟩ := h.at 0 (by omega)
      cases e
      exact h'
    have c1 := k _ _ HV.out.2.a1
    have c2 := k _ _ HV.out.2.a2
    have c3 := k _ _ HV.out.2.a3
    clear k
    go_wp2
    go_ret
    exact ⟨rfl, HB.out⟩
end Go.Proofs.YtcdehbhdloaieaaGreatDoor
