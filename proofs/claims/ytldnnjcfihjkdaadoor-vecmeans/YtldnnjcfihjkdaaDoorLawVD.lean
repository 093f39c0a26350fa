/-
  VecDots: sums of products, of parts, and means are exact until their end.
-/
import Derived.Test.YtldnnjcfihjkdaaDoorBK
import Derived.Deep.Cut
import Derived.Deep.DeepCutAuto
import Derived.Deep.DrawnRows
import Derived.Deep.QuietTactic
import Derived.BigQuiet
set_option linter.unusedVariables false
set_option linter.unusedSimpArgs false
namespace Go.Proofs.YtldnnjcfihjkdaaDoor
open Go.RowKit
attribute [local go_sem ↓] Go.wp_at_zero Go.wp_at_succ

def tn (n m : Nat) (k : Nat) : Nat := if k = 0 then n else m
theorem few_tn (n m : Nat) : fewB (tn n m) 2 = (decide (n ≤ 200) && decide (m ≤ 200)) := by simp [fewB, tn, List.range_succ]
theorem l2_new {w w' : World} (hW : Below w.heap.size w w') (t t' : TypeId) : L2 w w'.heap.size (w'.heap.size + 1) 0 0 ((w'.alloc (.cells #[.int .i64 0] t)).alloc (.cells #[.int .i64 0] t')) :=
  ⟨bchain hW (bchain (bel1' w' _) (bel1' _ _)), ⟨by simp [go_sem], by simp [go_sem]⟩, ⟨by simp [go_sem], by simp [go_sem]⟩⟩
theorem dot_few {n m : Nat} (f g : Nat → Int) (hn : n ≤ 200) (hm : m ≤ 200) : dE n m = (if n = m then 0 else 40) ∧ (n = m → dX n m f g = clv (rr (dotV f g n) 32) ∧ dO n m f g = ovv (rr (dotV f g n) 32)) ∧ (n ≠ m → dX n m f g = 0 ∧ dO n m f g = false) := by
  have e : dE n m = (if n = m then 0 else 40) := by unfold dE; rw [if_neg (by omega)]
  refine ⟨e, fun h => ?_, fun h => ?_⟩
  · rw [if_pos h] at e; exact ⟨by unfold dX; rw [if_pos e], by unfold dO; rw [if_pos e]⟩
  · rw [if_neg h] at e; exact ⟨by unfold dX; rw [if_neg (by omega)], by unfold dO; rw [if_neg (by omega)]⟩
theorem l2_new' {w w' : World} {d : Nat} (hW : Below w.heap.size w w') (hd : w'.heap.size = d) (t t' : TypeId) : L2 w d (d + 1) 0 0 ((w'.alloc (.cells #[.int .i64 0] t)).alloc (.cells #[.int .i64 0] t')) := hd ▸ l2_new hW t t'
set_option maxRecDepth 100000 in
set_option maxHeartbeats 4000000 in
theorem vecDots_any (V : Vec1) (va vb : Value) (n m : Nat) (f g : Nat → Int) (w : World) (hV : VT w) (hA : Ar w va n f) (hB : Ar w vb m g) :
    Calls Tryd.prog 3 #[va, vb] w fun e w' => e = .returned (.bool true) ∧ Below w.heap.size w w' := by
  have HAB : Hid (Ar w va n f ∧ Ar w vb m g) := ⟨hA, hB⟩
  have HV : Hid (VT w) := hV
  obtain ⟨ada, ca, ba, oa, rfl, k1, k2, -, -⟩ := hA
  obtain ⟨adb, cb, bb, ob, rfl, q1, q2, -, -⟩ := hB
  go_enter Tryd.func3, Tryd.ntmps3
  go_wp2_with fail
  refine (vawake_any V _ hV).mono ?_
  rintro e w1 ⟨rfl, W1⟩
  have HW1 : Hid (Below w.heap.size w w1) := W1
  have HF : Hid (Calls Tryd.prog 10 #[.slice (some ⟨w1.heap.size, 0, none⟩) 2 2] (w1.alloc (.cells #[.slice ada n ca, .slice adb m cb] 22)) fun e w' => e = .returned (.bool (decide (n ≤ 200) && decide (m ≤ 200))) ∧ w' = (w1.alloc (.cells #[.slice ada n ca, .slice adb m cb] 22))) := by
    rw [← few_tn]
    refine few_any w1.heap.size 2 2 (tn n m) (by omega) (by omega) _ (fun k hk => ?_)
    have : k = 0 ∨ k = 1 := by omega
    rcases this with rfl | rfl
    · exact ⟨by simp [tn]; omega, ada, ca, by simp [go_sem, tn]⟩
    · exact ⟨by simp [tn]; omega, adb, cb, by simp [go_sem, tn]⟩
  clear W1 hV k1 k2 q1 q2
  go_wp2_with fail
  refine HF.out.mono ?_
  rintro e w2 ⟨rfl, rfl⟩
  clear HF
  obtain ⟨R, hR⟩ : ∃ R, (decide (n ≤ 200) && decide (m ≤ 200)) = R := ⟨_, rfl⟩
  rw [hR]
  cases R
  · clear hR
    go_wp2
    go_ret
    exact ⟨rfl, bchain HW1.out (bel1' _ _)⟩
  have hnm : n ≤ 200 ∧ m ≤ 200 := by simpa using hR
  obtain ⟨hn, hm⟩ := hnm
  clear hR
  go_upto_region 6 with fail
  have L : Hid (L2 w (w1.heap.size + 1) (w1.heap.size + 1 + 1) 0 0 (((w1.alloc (.cells #[.slice ada n ca, .slice adb m cb] 22)).alloc (.cells #[.int .i64 0] 29)).alloc (.cells #[.int .i64 0] 32))) := l2_new' (bchain HW1.out (bel1' w1 _)) (alloc_size_eq w1 _) _ _
  have hs := HW1.out.size
  obtain ⟨du, hdu⟩ : ∃ du, w1.heap.size + 1 = du := ⟨_, rfl⟩
  have hd0 : w.heap.size ≤ du := by omega
  rw [hdu] at L ⊢
  generalize (((w1.alloc (.cells #[.slice ada n ca, .slice adb m cb] 22)).alloc (.cells #[.int .i64 0] 29)).alloc (.cells #[.int .i64 0] 32)) = w3 at *
  clear hs hdu HW1
  have HX : Hid (dE n m = (if n = m then 0 else 40) ∧ (n = m → dX n m f g = clv (rr (dotV f g n) 32) ∧ dO n m f g = ovv (rr (dotV f g n) 32)) ∧ (n ≠ m → dX n m f g = 0 ∧ dO n m f g = false)) := dot_few f g hn hm
  obtain ⟨E, hE⟩ : ∃ E, dE n m = E := ⟨_, rfl⟩
  obtain ⟨X, hX⟩ : ∃ X, dX n m f g = X := ⟨_, rfl⟩
  obtain ⟨O, hO⟩ : ∃ O, dO n m f g = O := ⟨_, rfl⟩
  have HD : Hid (∀ (c : Int) (W : World), 0 ≤ c → c ≤ 900000000 → Below w.heap.size w W → Uc W du c → Calls Tryd.prog 11 #[.pointer (some ⟨du, 0, none⟩), .slice ada n ca, .slice adb m cb] W fun e w' => e = .returned (.tuple #[.int .i64 X, .int .i64 E]) ∧ Un du (c + bi O) W w') := by
    intro c W c0 c1 hb hu
    rw [← hE, ← hX, ← hO]
    exact V.dotU _ _ n m f g du c W (by omega) (by omega) c0 c1 (HV.out.later hb) (HAB.out.1.later hb) (HAB.out.2.later hb) (HAB.out.1.nb hd0) (HAB.out.2.nb hd0) hu
  have HP : Hid (∀ (W : World) (va vb : Value), Ar W va n f → Ar W vb m g → Calls Tryd.prog 12 #[va, vb] W fun e w' => e = .returned (.int .i64 E) ∧ w' = W) := by
    intro W va vb h1 h2
    rw [← hE]
    exact pair_any va vb n m f g W h1 h2
  rw [hE, hX, hO] at HX
  clear hE hX hO
  go_wp2_with fail
  refine (HD.out 0 _ (by omega) (by omega) L.out.B L.out.u).mono ?_
  rintro e w4 ⟨rfl, hU⟩
  have L4 : Hid (L2 w du (du + 1) (0 + bi O) 0 w4) := L.out.unu hU hd0 (by omega)
  clear hU L HD
  go_wp2_with fail
  refine (plain_any _ n f (by omega) _ (HAB.out.1.later L4.out.B)).mono ?_
  rintro e w5 ⟨v5, rfl, A5, -, hb⟩
  have L5 : Hid (L2 w du (du + 1) (0 + bi O) 0 w5) := L4.out.later hb
  have HA5 : Hid (Ar w5 v5 n f) := A5
  clear hb L4 A5
  go_wp2_with fail
  refine (plain_any _ m g (by omega) _ (HAB.out.2.later L5.out.B)).mono ?_
  rintro e w6 ⟨v6, rfl, A6, -, hb⟩
  have L6 : Hid (L2 w du (du + 1) (0 + bi O) 0 w6) := L5.out.later hb
  have HA6 : Hid (Ar w6 v5 n f ∧ Ar w6 v6 m g) := ⟨HA5.out.later hb, A6⟩
  clear hb L5 A6 HA5
  go_wp2_with fail
  refine (HP.out _ _ _ HA6.out.1 HA6.out.2).mono ?_
  rintro e w7 ⟨rfl, rfl⟩
  clear HA6 HP
  go_upto_if 36 with fail
  go_cut [] (fun wc => ∃ c : Int, 0 ≤ c ∧ c ≤ 1 ∧ L2 w du (du + 1) c c wc)
  case first =>
    clear V
    have hO1 : 0 ≤ (0 : Int) + bi O ∧ (0 : Int) + bi O ≤ 1 := by unfold bi; split <;> omega
    by_cases h : n = m
    · subst h
      have hx := HX.out
      rw [if_pos rfl] at hx
      obtain ⟨hE, hx2, _⟩ := hx
      obtain ⟨hX, hO⟩ := hx2 rfl
      subst hE
      have HR : Hid (∀ (c : Int) (W : World) (va vb : Value), 0 ≤ c → c ≤ 900000000 → Ar W va n f → Ar W vb n g → Uc W (du + 1) c → Calls Tryd.prog 15 #[.pointer (some ⟨du + 1, 0, none⟩), va, vb] W fun e w' => e = .returned (.int .i64 X) ∧ Un (du + 1) (c + bi O) W w') := by
        intro c W va vb c0 c1 h1 h2 h3
        rw [hX, hO]
        exact udot_any va vb n f g (du + 1) c (by omega) c0 (by omega) W h1 h2 h3.1 h3.2
      clear hX hO HX hx2
      go_upto_region 11 with fail
      have hdr : Below w7.heap.size w7 w7.drew := (Below.refl _ _).drew
      have LD : Hid (L2 w du (du + 1) (0 + bi O) 0 w7.drew) := L6.out.later hdr
      have xV := LD.out.v.1
      have xU := LD.out.u.1
      clear hdr L6
      refine wp_region_any (by kernel_rfl) ?_
      change wpAny _ _ _ _ _ _ _ (World.drew _)
      refine wpAny_take (i := 0) (v := ?v1) rfl (by kernel_rfl) (by kernel_rfl) (by kernel_rfl) (fun _ _ _ h => h) (Or.inl ⟨by kernel_rfl, ?h1⟩) ?r1
      case h1 => (intro w; go_simp) <;> with_reducible rfl
      refine wpAny_take (i := 1) (v := ?v2) rfl (by kernel_rfl) (by kernel_rfl) (by kernel_rfl) (fun _ _ _ h => h) (Or.inl ⟨by kernel_rfl, ?h2⟩) ?r2
      case h2 => (intro w; go_simp) <;> with_reducible rfl
      refine wpAny_take (i := 2) (v := ?v3) rfl (by kernel_rfl) (by kernel_rfl) (by kernel_rfl) (fun _ _ _ h => h) (Or.inl ⟨by kernel_rfl, ?h3⟩) ?r3
      case h3 => (intro w; go_simp) <;> with_reducible rfl
      refine wpAny_take (i := 3) (v := ?v4) rfl (by kernel_rfl) (by kernel_rfl) (by kernel_rfl) (fun _ _ _ h => h) (Or.inl ⟨by kernel_rfl, ?h4⟩) ?r4
      case h4 => (intro w; go_simp) <;> with_reducible rfl
      refine wpAny_take (i := 4) (v := ?v5) rfl (by kernel_rfl) (by kernel_rfl) (by kernel_rfl) (fun _ _ _ h => h) (Or.inl ⟨by kernel_rfl, ?h5⟩) ?r5
      case h5 => (intro w; go_simp) <;> with_reducible rfl
      refine wpAny_take (i := 5) (v := ?v6) rfl (by kernel_rfl) (by kernel_rfl) (by kernel_rfl) (fun _ _ _ h => h) (Or.inl ⟨by kernel_rfl, ?h6⟩) ?r6
      case h6 => (intro w; go_simp) <;> with_reducible rfl
      refine wpAny_take (i := 7) (v := ?v7) rfl (by kernel_rfl) (by kernel_rfl) (by kernel_rfl) (fun _ _ _ h => h) (Or.inl ⟨by kernel_rfl, ?h7⟩) ?r7
      case h7 => (intro w; go_simp) <;> with_reducible rfl
      refine wpAny_ready (rs := [6]) (by kernel_rfl) (by simp) ?_
      refine AllReady.cons rfl (fun K hK => ?_) AllReady.nil
      go_simp
      go_wp2_with (go_at_call 13; refine (plain_any (.slice ada n ca) n f (by omega) _ (HAB.out.1.later LD.out.B)).mono ?_; rintro e wz ⟨vz, rfl, AZ, -, hb⟩; have HAZ : Hid (Ar wz vz n f) := AZ; have LZ : Hid (L2 w du (du + 1) (0 + bi O) 0 wz) := LD.out.later hb; clear xU xV; have xV := LZ.out.v.1; have xU := LZ.out.u.1; clear hb AZ LD)
      refine wpAny_ready (rs := [8]) (by kernel_rfl) (by simp) ?_
      refine AllReady.cons rfl (fun K hK => ?_) AllReady.nil
      go_simp
      go_wp2_with (go_at_call 13; refine (plain_any (.slice adb n cb) n g (by omega) _ (HAB.out.2.later LZ.out.B)).mono ?_; rintro e wy ⟨vy, rfl, AY, -, hb⟩; have HAY : Hid (Ar wy vz n f ∧ Ar wy vy n g) := ⟨HAZ.out.later hb, AY⟩; have LY : Hid (L2 w du (du + 1) (0 + bi O) 0 wy) := LZ.out.later hb; clear xU xV; have xV := LY.out.v.1; have xU := LY.out.u.1; clear hb AY LZ HAZ)
      refine wpAny_ready (rs := [9]) (by kernel_rfl) (by simp) ?_
      refine AllReady.cons rfl (fun K hK => ?_) AllReady.nil
      go_simp
      go_wp2_with (go_at_call 15; refine (HR.out 0 _ _ _ (by omega) (by omega) HAY.out.1 HAY.out.2 LY.out.v).mono ?_; rintro e wx ⟨rfl, hU⟩; have LX : Hid (L2 w du (du + 1) (0 + bi O) (0 + bi O) wx) := LY.out.unv hU (by omega) (by omega); clear xU xV; have xV := LX.out.v.1; have xU := LX.out.u.1; clear hU HAY LY)
      refine wpAny_take (i := 10) (v := ?v8) rfl (by kernel_rfl) (by kernel_rfl) (by kernel_rfl) (fun _ _ _ h => h) (Or.inl ⟨by kernel_rfl, ?h8⟩) ?r8
      case h8 => (intro w; go_simp) <;> with_reducible rfl
      refine wpAny_take (i := 11) (v := ?v9) rfl (by kernel_rfl) (by kernel_rfl) (by kernel_rfl) (fun _ _ _ h => h) (Or.inl ⟨by kernel_rfl, ?h9⟩) ?r9
      case h9 => (intro w; go_simp) <;> with_reducible rfl
      refine wpAny_take (i := 12) (v := ?v10) rfl (by kernel_rfl) (by kernel_rfl) (by kernel_rfl) (fun _ _ _ h => h) (Or.inl ⟨by kernel_rfl, ?h10⟩) ?r10
      case h10 => (intro w; go_simp) <;> with_reducible rfl
      refine wpAny_take (i := 13) (v := ?v11) rfl (by kernel_rfl) (by kernel_rfl) (by kernel_rfl) (fun _ _ _ h => h) (Or.inl ⟨by kernel_rfl, ?h11⟩) ?r11
      case h11 => (intro w; go_simp) <;> with_reducible rfl
      refine wpAny_take (i := 15) (v := ?v12) rfl (by kernel_rfl) (by kernel_rfl) (by kernel_rfl) (fun _ _ _ h => h) (Or.inl ⟨by kernel_rfl, ?h12⟩) ?r12
      case h12 => (intro w; go_simp) <;> with_reducible rfl
      refine wpAny_take (i := 16) (v := ?v13) rfl (by kernel_rfl) (by kernel_rfl) (by kernel_rfl) (fun _ _ _ h => h) (Or.inl ⟨by kernel_rfl, ?h13⟩) ?r13
      case h13 => (intro w; go_simp) <;> with_reducible rfl
      refine wpAny_take (i := 17) (v := ?v14) rfl (by kernel_rfl) (by kernel_rfl) (by kernel_rfl) (fun _ _ _ h => h) (Or.inl ⟨by kernel_rfl, ?h14⟩) ?r14
      case h14 => (intro w; go_simp) <;> with_reducible rfl
      refine wpAny_ready (rs := [14, 18]) (by kernel_rfl) (by simp) ?_
      refine AllReady.cons rfl (fun K hK => ?_) (AllReady.cons rfl (fun K hK => ?_) AllReady.nil)
      · go_simp
        go_wp2_with (go_at_call 14; refine (count_any du _ _ xU).mono ?_; rintro e wv ⟨rfl, rfl⟩)
        refine wpAny_ready (rs := [18]) (by kernel_rfl) (by simp) ?_
        refine AllReady.cons rfl (fun K hK => ?_) AllReady.nil
        go_simp
        refine hK _ _ ?_
        clear hK K
        refine wpAny_take (i := 19) (v := ?v15) rfl (by kernel_rfl) (by kernel_rfl) (by kernel_rfl) (fun _ _ _ h => h) (Or.inl ⟨by kernel_rfl, ?h15⟩) ?r15
        case h15 => (intro w; go_simp) <;> with_reducible rfl
        refine wpAny_take (i := 20) (v := ?v16) rfl (by kernel_rfl) (by kernel_rfl) (by kernel_rfl) (fun _ _ _ h => h) (Or.inl ⟨by kernel_rfl, ?h16⟩) ?r16
        case h16 => (intro w; go_simp) <;> with_reducible rfl
        refine wpAny_done (by kernel_rfl) ?_ _
        clear xU xV HR
        go_wp2_with fail
        go_meet
        exact ⟨_, hO1.1, hO1.2, LX.out⟩
      · go_simp
        refine hK _ _ ?_
        clear hK K
        refine wpAny_ready (rs := [14]) (by kernel_rfl) (by simp) ?_
        refine AllReady.cons rfl (fun K hK => ?_) AllReady.nil
        go_simp
        go_wp2_with (go_at_call 14; refine (count_any du _ _ xU).mono ?_; rintro e wv ⟨rfl, rfl⟩)
        refine wpAny_take (i := 19) (v := ?v17) rfl (by kernel_rfl) (by kernel_rfl) (by kernel_rfl) (fun _ _ _ h => h) (Or.inl ⟨by kernel_rfl, ?h17⟩) ?r17
        case h17 => (intro w; go_simp) <;> with_reducible rfl
        refine wpAny_take (i := 20) (v := ?v18) rfl (by kernel_rfl) (by kernel_rfl) (by kernel_rfl) (fun _ _ _ h => h) (Or.inl ⟨by kernel_rfl, ?h18⟩) ?r18
        case h18 => (intro w; go_simp) <;> with_reducible rfl
        refine wpAny_done (by kernel_rfl) ?_ _
        clear xU xV HR
        go_wp2_with fail
        go_meet
        exact ⟨_, hO1.1, hO1.2, LX.out⟩
    · have hx := HX.out
      rw [if_neg h] at hx
      obtain ⟨hE, _, hx2⟩ := hx
      obtain ⟨hX, hO⟩ := hx2 h
      subst hE hX hO
      have e0 : (0 : Int) + bi false = 0 := rfl
      rw [e0] at L6
      have xU := L6.out.u.1
      clear HX hx2 h
      go_wp2_with (go_at_call 14; refine (count_any du _ _ xU).mono ?_; rintro e wv ⟨rfl, rfl⟩)
      go_meet
      exact ⟨0, by omega, by omega, L6.out⟩
  case rest =>
    obtain ⟨c, c0, c1, hL⟩ := hcut
    have L8 : Hid (L2 w du (du + 1) c c wc) := hL
    clear hL HX
    obtain ⟨sx, hsx⟩ : ∃ x, sX n f = x := ⟨_, rfl⟩
    obtain ⟨so, hso⟩ : ∃ x, sO n f = x := ⟨_, rfl⟩
    obtain ⟨mx, hmx⟩ : ∃ x, mX n f = x := ⟨_, rfl⟩
    obtain ⟨mo, hmo⟩ : ∃ x, mO n f = x := ⟨_, rfl⟩
    have hsE : sE n = 0 := by unfold sE; rw [if_neg (by omega)]
    have S1 : Hid (Calls Tryd.prog 16 #[.pointer (some ⟨du, 0, none⟩), .slice ada n ca] wc fun e w' => e = .returned (.tuple #[.int .i64 sx, .int .i64 0]) ∧ Un du (c + bi so) wc w') := by
      rw [← hsx, ← hso, ← hsE]
      exact V.sumU _ n f du c wc (by omega) c0 (by omega) (HV.out.later L8.out.B) (HAB.out.1.later L8.out.B) (HAB.out.1.nb hd0) L8.out.u
    have S2 : Hid (∀ (W : World) (va : Value), Ar W va n f → Uc W (du + 1) c → Calls Tryd.prog 17 #[.pointer (some ⟨du + 1, 0, none⟩), va] W fun e w' => e = .returned (.int .i64 sx) ∧ Un (du + 1) (c + bi so) W w') := by
      intro W va h1 h3
      rw [← hsx, ← hso, sX, sO, if_pos hsE, if_pos hsE]
      exact usum_any va n f (du + 1) c (by omega) c0 (by omega) W h1 h3.1 h3.2
    have hso1 : 0 ≤ bi so ∧ bi so ≤ 1 := by unfold bi; split <;> omega
    have S3 : Hid (∀ W : World, Below w.heap.size w W → Uc W du (c + bi so) → Calls Tryd.prog 18 #[.pointer (some ⟨du, 0, none⟩), .slice ada n ca] W fun e w' => e = .returned (.tuple #[.int .i64 mx, .int .i64 (if n = 0 then 40 else 0)]) ∧ Un du (c + bi so + bi mo) W w') := by
      intro W hb hu
      have h := V.meanU _ n f du (c + bi so) W (by omega) (by omega) (by omega) (HV.out.later hb) (HAB.out.1.later hb) (HAB.out.1.nb hd0) hu
      rw [hmx, hmo, show mE n = (if n = 0 then 40 else 0) by unfold mE; rw [if_neg (by omega)]] at h
      exact h
    have S4 : Hid (n = 0 → mx = 0 ∧ mo = false) := fun h => by
      have : mE n = 40 := by unfold mE; rw [if_neg (by omega), if_pos h]
      rw [← hmx, ← hmo]
      unfold mX mO
      rw [if_neg (by omega), if_neg (by omega)]
      exact ⟨rfl, rfl⟩
    have S5 : Hid (0 < n → ∀ (W : World) (va : Value), Ar W va n f → Uc W (du + 1) (c + bi so) → Calls Tryd.prog 19 #[.pointer (some ⟨du + 1, 0, none⟩), va] W fun e w' => e = .returned (.int .i64 mx) ∧ Un (du + 1) (c + bi so + bi mo) W w') := by
      intro h0 W va h1 h3
      have : mE n = 0 := by unfold mE; rw [if_neg (by omega), if_neg (by omega)]
      rw [← hmx, ← hmo]
      unfold mX mO
      rw [if_pos this, if_pos this]
      exact umean_any va n f (du + 1) (c + bi so) (by omega) h0 (by omega) (by omega) W h1 h3.1 h3.2
    clear hsx hso hmx hmo hsE V HV c1
    go_wp2_with fail
    refine S1.out.mono ?_
    rintro e w9 ⟨rfl, hU⟩
    have L9 : Hid (L2 w du (du + 1) (c + bi so) c w9) := L8.out.unu hU hd0 (by omega)
    clear hU L8 S1
    go_upto_region 14 with fail
    go_cut [94] (fun s94 wd => s94 = .bool false ∧ L2 w du (du + 1) (c + bi so) (c + bi so) wd)
    case first =>
      clear S3 S4 S5
      have hdr : Below w9.heap.size w9 w9.drew := (Below.refl _ _).drew
      have LD : Hid (L2 w du (du + 1) (c + bi so) c w9.drew) := L9.out.later hdr
      have xV := LD.out.v.1
      have xU := LD.out.u.1
      clear hdr L9
      refine wp_region_any (by kernel_rfl) ?_
      change wpAny _ _ _ _ _ _ _ (World.drew _)
      refine wpAny_take (i := 0) (v := ?v19) rfl (by kernel_rfl) (by kernel_rfl) (by kernel_rfl) (fun _ _ _ h => h) (Or.inl ⟨by kernel_rfl, ?h19⟩) ?r19
      case h19 => (intro w; go_simp) <;> with_reducible rfl
      refine wpAny_take (i := 1) (v := ?v20) rfl (by kernel_rfl) (by kernel_rfl) (by kernel_rfl) (fun _ _ _ h => h) (Or.inl ⟨by kernel_rfl, ?h20⟩) ?r20
      case h20 => (intro w; go_simp) <;> with_reducible rfl
      refine wpAny_take (i := 2) (v := ?v21) rfl (by kernel_rfl) (by kernel_rfl) (by kernel_rfl) (fun _ _ _ h => h) (Or.inl ⟨by kernel_rfl, ?h21⟩) ?r21
      case h21 => (intro w; go_simp) <;> with_reducible rfl
      refine wpAny_take (i := 3) (v := ?v22) rfl (by kernel_rfl) (by kernel_rfl) (by kernel_rfl) (fun _ _ _ h => h) (Or.inl ⟨by kernel_rfl, ?h22⟩) ?r22
      case h22 => (intro w; go_simp) <;> with_reducible rfl
      refine wpAny_take (i := 4) (v := ?v23) rfl (by kernel_rfl) (by kernel_rfl) (by kernel_rfl) (fun _ _ _ h => h) (Or.inl ⟨by kernel_rfl, ?h23⟩) ?r23
      case h23 => (intro w; go_simp) <;> with_reducible rfl
      refine wpAny_take (i := 5) (v := ?v24) rfl (by kernel_rfl) (by kernel_rfl) (by kernel_rfl) (fun _ _ _ h => h) (Or.inl ⟨by kernel_rfl, ?h24⟩) ?r24
      case h24 => (intro w; go_simp) <;> with_reducible rfl
      refine wpAny_ready (rs := [6]) (by kernel_rfl) (by simp) ?_
      refine AllReady.cons rfl (fun K hK => ?_) AllReady.nil
      go_simp
      go_wp2_with (go_at_call 13; refine (plain_any (.slice ada n ca) n f (by omega) _ (HAB.out.1.later LD.out.B)).mono ?_; rintro e wz ⟨vz, rfl, AZ, -, hb⟩; have HAZ : Hid (Ar wz vz n f) := AZ; have LZ : Hid (L2 w du (du + 1) (c + bi so) c wz) := LD.out.later hb; clear xU xV; have xV := LZ.out.v.1; have xU := LZ.out.u.1; clear hb AZ LD)
      refine wpAny_ready (rs := [7]) (by kernel_rfl) (by simp) ?_
      refine AllReady.cons rfl (fun K hK => ?_) AllReady.nil
      go_simp
      go_wp2_with (go_at_call 17; refine (S2.out _ _ HAZ.out LZ.out.v).mono ?_; rintro e wx ⟨rfl, hU⟩; have LX : Hid (L2 w du (du + 1) (c + bi so) (c + bi so) wx) := LZ.out.unv hU (by omega) (by omega); clear xU xV; have xV := LX.out.v.1; have xU := LX.out.u.1; clear hU HAZ LZ)
      refine wpAny_take (i := 8) (v := ?v25) rfl (by kernel_rfl) (by kernel_rfl) (by kernel_rfl) (fun _ _ _ h => h) (Or.inl ⟨by kernel_rfl, ?h25⟩) ?r25
      case h25 => (intro w; go_simp) <;> with_reducible rfl
      refine wpAny_take (i := 9) (v := ?v26) rfl (by kernel_rfl) (by kernel_rfl) (by kernel_rfl) (fun _ _ _ h => h) (Or.inl ⟨by kernel_rfl, ?h26⟩) ?r26
      case h26 => (intro w; go_simp) <;> with_reducible rfl
      refine wpAny_take (i := 10) (v := ?v27) rfl (by kernel_rfl) (by kernel_rfl) (by kernel_rfl) (fun _ _ _ h => h) (Or.inl ⟨by kernel_rfl, ?h27⟩) ?r27
      case h27 => (intro w; go_simp) <;> with_reducible rfl
      refine wpAny_take (i := 11) (v := ?v28) rfl (by kernel_rfl) (by kernel_rfl) (by kernel_rfl) (fun _ _ _ h => h) (Or.inl ⟨by kernel_rfl, ?h28⟩) ?r28
      case h28 => (intro w; go_simp) <;> with_reducible rfl
      refine wpAny_take (i := 13) (v := ?v29) rfl (by kernel_rfl) (by kernel_rfl) (by kernel_rfl) (fun _ _ _ h => h) (Or.inl ⟨by kernel_rfl, ?h29⟩) ?r29
      case h29 => (intro w; go_simp) <;> with_reducible rfl
      refine wpAny_take (i := 14) (v := ?v30) rfl (by kernel_rfl) (by kernel_rfl) (by kernel_rfl) (fun _ _ _ h => h) (Or.inl ⟨by kernel_rfl, ?h30⟩) ?r30
      case h30 => (intro w; go_simp) <;> with_reducible rfl
      refine wpAny_take (i := 15) (v := ?v31) rfl (by kernel_rfl) (by kernel_rfl) (by kernel_rfl) (fun _ _ _ h => h) (Or.inl ⟨by kernel_rfl, ?h31⟩) ?r31
      case h31 => (intro w; go_simp) <;> with_reducible rfl
      refine wpAny_ready (rs := [12, 16]) (by kernel_rfl) (by simp) ?_
      refine AllReady.cons rfl (fun K hK => ?_) (AllReady.cons rfl (fun K hK => ?_) AllReady.nil)
      · go_simp
        go_wp2_with (go_at_call 14; refine (count_any du _ _ xU).mono ?_; rintro e wv ⟨rfl, rfl⟩)
        refine wpAny_ready (rs := [16]) (by kernel_rfl) (by simp) ?_
        refine AllReady.cons rfl (fun K hK => ?_) AllReady.nil
        go_simp
        refine hK _ _ ?_
        clear hK K
        refine wpAny_take (i := 17) (v := ?v32) rfl (by kernel_rfl) (by kernel_rfl) (by kernel_rfl) (fun _ _ _ h => h) (Or.inl ⟨by kernel_rfl, ?h32⟩) ?r32
        case h32 => (intro w; go_simp) <;> with_reducible rfl
        refine wpAny_take (i := 18) (v := ?v33) rfl (by kernel_rfl) (by kernel_rfl) (by kernel_rfl) (fun _ _ _ h => h) (Or.inl ⟨by kernel_rfl, ?h33⟩) ?r33
        case h33 => (intro w; go_simp) <;> with_reducible rfl
        refine wpAny_done (by kernel_rfl) ?_ _
        clear xU xV S2
        go_wp2_with fail
        go_meet
        exact ⟨by first | (simp; done) | (simp; rfl), LX.out⟩
      · go_simp
        refine hK _ _ ?_
        clear hK K
        refine wpAny_ready (rs := [12]) (by kernel_rfl) (by simp) ?_
        refine AllReady.cons rfl (fun K hK => ?_) AllReady.nil
        go_simp
        go_wp2_with (go_at_call 14; refine (count_any du _ _ xU).mono ?_; rintro e wv ⟨rfl, rfl⟩)
        refine wpAny_take (i := 17) (v := ?v34) rfl (by kernel_rfl) (by kernel_rfl) (by kernel_rfl) (fun _ _ _ h => h) (Or.inl ⟨by kernel_rfl, ?h34⟩) ?r34
        case h34 => (intro w; go_simp) <;> with_reducible rfl
        refine wpAny_take (i := 18) (v := ?v35) rfl (by kernel_rfl) (by kernel_rfl) (by kernel_rfl) (fun _ _ _ h => h) (Or.inl ⟨by kernel_rfl, ?h35⟩) ?r35
        case h35 => (intro w; go_simp) <;> with_reducible rfl
        refine wpAny_done (by kernel_rfl) ?_ _
        clear xU xV S2
        go_wp2_with fail
        go_meet
        exact ⟨by first | (simp; done) | (simp; rfl), LX.out⟩
    case rest =>
      obtain ⟨rfl, hL⟩ := hcut
      have L10 : Hid (L2 w du (du + 1) (c + bi so) (c + bi so) wc) := hL
      clear hL S2
      go_wp2_with fail
      refine (S3.out _ L10.out.B L10.out.u).mono ?_
      rintro e w11 ⟨rfl, hU⟩
      have L11 : Hid (L2 w du (du + 1) (c + bi so + bi mo) (c + bi so) w11) := L10.out.unu hU hd0 (by omega)
      clear hU L10 S3
      by_cases h0 : n = 0
      · subst h0
        obtain ⟨rfl, rfl⟩ := S4.out rfl
        have e0 : c + bi so + bi false = c + bi so := by unfold bi; simp
        rw [e0] at L11
        have xV := L11.out.v.1
        have xU := L11.out.u.1
        rw [if_pos rfl]
        clear S4 S5 e0
        go_upto_region 18 with fail
        go_quiet ((go_at_call 14; exact Calls.quiet_of_same (count_any du _ _ xU)))
        go_wp2
        go_ret
        exact ⟨by first | (simp; done) | (simp; rfl), below_drewN L11.out.B _⟩
      · rw [if_neg h0]
        have S6 := S5.out (by omega)
        have HS6 : Hid (∀ (W : World) (va : Value), Ar W va n f → Uc W (du + 1) (c + bi so) → Calls Tryd.prog 19 #[.pointer (some ⟨du + 1, 0, none⟩), va] W fun e w' => e = .returned (.int .i64 mx) ∧ Un (du + 1) (c + bi so + bi mo) W w') := S6
        clear S4 S5 S6
        have hnI : ¬ ((n : Nat) : Int) = 0 := by omega
        have hnB : (((n : Nat) : Int) == 0) = false := by simpa using hnI
        have hdr : Below w11.heap.size w11 w11.drew := (Below.refl _ _).drew
        have LD : Hid (L2 w du (du + 1) (c + bi so + bi mo) (c + bi so) w11.drew) := L11.out.later hdr
        clear hdr L11
        have xV := LD.out.v.1
        have xU := LD.out.u.1
        go_upto_region 19 with fail
        refine wp_region_any (by kernel_rfl) ?_
        change wpAny _ _ _ _ _ _ _ (World.drew _)
        refine wpAny_take (i := 0) (v := ?v36) rfl (by kernel_rfl) (by kernel_rfl) (by kernel_rfl) (fun _ _ _ h => h) (Or.inl ⟨by kernel_rfl, ?h36⟩) ?r36
        case h36 => (intro w; go_simp) <;> with_reducible rfl
        refine wpAny_take (i := 1) (v := ?v37) rfl (by kernel_rfl) (by kernel_rfl) (by kernel_rfl) (fun _ _ _ h => h) (Or.inl ⟨by kernel_rfl, ?h37⟩) ?r37
        case h37 => (intro w; go_simp) <;> with_reducible rfl
        refine wpAny_take (i := 2) (v := ?v38) rfl (by kernel_rfl) (by kernel_rfl) (by kernel_rfl) (fun _ _ _ h => h) (Or.inl ⟨by kernel_rfl, ?h38⟩) ?r38
        case h38 => (intro w; go_simp) <;> with_reducible rfl
        refine wpAny_take (i := 3) (v := ?v39) rfl (by kernel_rfl) (by kernel_rfl) (by kernel_rfl) (fun _ _ _ h => h) (Or.inl ⟨by kernel_rfl, ?h39⟩) ?r39
        case h39 => (intro w; go_simp) <;> with_reducible rfl
        refine wpAny_take (i := 4) (v := ?v40) rfl (by kernel_rfl) (by kernel_rfl) (by kernel_rfl) (fun _ _ _ h => h) (Or.inl ⟨by kernel_rfl, ?h40⟩) ?r40
        case h40 => (intro w; go_simp) <;> with_reducible rfl
        refine wpAny_take (i := 5) (v := ?v41) rfl (by kernel_rfl) (by kernel_rfl) (by kernel_rfl) (fun _ _ _ h => h) (Or.inl ⟨by kernel_rfl, ?h41⟩) ?r41
        case h41 => (intro w; go_simp) <;> with_reducible rfl
        refine wpAny_ready (rs := [6]) (by kernel_rfl) (by simp) ?_
        refine AllReady.cons rfl (fun K hK => ?_) AllReady.nil
        go_simp
        go_wp2_with (go_at_call 13; refine (plain_any (.slice ada n ca) n f (by omega) _ (HAB.out.1.later LD.out.B)).mono ?_; rintro e wz ⟨vz, rfl, AZ, -, hb⟩; have HAZ : Hid (Ar wz vz n f) := AZ; have LZ : Hid (L2 w du (du + 1) (c + bi so + bi mo) (c + bi so) wz) := LD.out.later hb; clear xU xV; have xV := LZ.out.v.1; have xU := LZ.out.u.1; clear hb AZ LD)
        refine wpAny_ready (rs := [7]) (by kernel_rfl) (by simp) ?_
        refine AllReady.cons rfl (fun K hK => ?_) AllReady.nil
        go_simp
        go_wp2_with (go_at_call 19; refine (HS6.out _ _ HAZ.out LZ.out.v).mono ?_; rintro e wx ⟨rfl, hU⟩; have LX : Hid (L2 w du (du + 1) (c + bi so + bi mo) (c + bi so + bi mo) wx) := LZ.out.unv hU (by omega) (by omega); clear xU xV; have xV := LX.out.v.1; have xU := LX.out.u.1; clear hU HAZ LZ)
        refine wpAny_take (i := 8) (v := ?v42) rfl (by kernel_rfl) (by kernel_rfl) (by kernel_rfl) (fun _ _ _ h => h) (Or.inl ⟨by kernel_rfl, ?h42⟩) ?r42
        case h42 => (intro w; go_simp) <;> with_reducible rfl
        refine wpAny_take (i := 9) (v := ?v43) rfl (by kernel_rfl) (by kernel_rfl) (by kernel_rfl) (fun _ _ _ h => h) (Or.inl ⟨by kernel_rfl, ?h43⟩) ?r43
        case h43 => (intro w; go_simp) <;> with_reducible rfl
        refine wpAny_take (i := 10) (v := ?v44) rfl (by kernel_rfl) (by kernel_rfl) (by kernel_rfl) (fun _ _ _ h => h) (Or.inl ⟨by kernel_rfl, ?h44⟩) ?r44
        case h44 => (intro w; go_simp) <;> with_reducible rfl
        refine wpAny_take (i := 11) (v := ?v45) rfl (by kernel_rfl) (by kernel_rfl) (by kernel_rfl) (fun _ _ _ h => h) (Or.inl ⟨by kernel_rfl, ?h45⟩) ?r45
        case h45 => (intro w; go_simp) <;> with_reducible rfl
        refine wpAny_take (i := 13) (v := ?v46) rfl (by kernel_rfl) (by kernel_rfl) (by kernel_rfl) (fun _ _ _ h => h) (Or.inl ⟨by kernel_rfl, ?h46⟩) ?r46
        case h46 => (intro w; go_simp) <;> with_reducible rfl
        refine wpAny_take (i := 14) (v := ?v47) rfl (by kernel_rfl) (by kernel_rfl) (by kernel_rfl) (fun _ _ _ h => h) (Or.inl ⟨by kernel_rfl, ?h47⟩) ?r47
        case h47 => (intro w; go_simp) <;> with_reducible rfl
        refine wpAny_take (i := 15) (v := ?v48) rfl (by kernel_rfl) (by kernel_rfl) (by kernel_rfl) (fun _ _ _ h => h) (Or.inl ⟨by kernel_rfl, ?h48⟩) ?r48
        case h48 => (intro w; go_simp) <;> with_reducible rfl
        refine wpAny_ready (rs := [12, 16]) (by kernel_rfl) (by simp) ?_
        refine AllReady.cons rfl (fun K hK => ?_) (AllReady.cons rfl (fun K hK => ?_) AllReady.nil)
        · go_simp
          go_wp2_with (go_at_call 14; refine (count_any du _ _ xU).mono ?_; rintro e wv ⟨rfl, rfl⟩)
          refine wpAny_ready (rs := [16]) (by kernel_rfl) (by simp) ?_
          refine AllReady.cons rfl (fun K hK => ?_) AllReady.nil
          go_simp
          refine hK _ _ ?_
          clear hK K
          refine wpAny_take (i := 17) (v := ?v49) rfl (by kernel_rfl) (by kernel_rfl) (by kernel_rfl) (fun _ _ _ h => h) (Or.inl ⟨by kernel_rfl, ?h49⟩) ?r49
          case h49 => (intro w; go_simp) <;> with_reducible rfl
          refine wpAny_take (i := 18) (v := ?v50) rfl (by kernel_rfl) (by kernel_rfl) (by kernel_rfl) (fun _ _ _ h => h) (Or.inl ⟨by kernel_rfl, ?h50⟩) ?r50
          case h50 => (intro w; go_simp) <;> with_reducible rfl
          refine wpAny_take (i := 19) (v := ?v51) rfl (by kernel_rfl) (by kernel_rfl) (by kernel_rfl) (fun _ _ _ h => h) (Or.inl ⟨by kernel_rfl, ?h51⟩) ?r51
          case h51 => (intro w; go_simp) <;> with_reducible rfl
          refine wpAny_done (by kernel_rfl) ?_ _
          clear xU xV HS6
          go_wp2
          go_ret
          exact ⟨by first | (simp; done) | (simp; rfl), LX.out.B⟩
        · go_simp
          refine hK _ _ ?_
          clear hK K
          refine wpAny_ready (rs := [12]) (by kernel_rfl) (by simp) ?_
          refine AllReady.cons rfl (fun K hK => ?_) AllReady.nil
          go_simp
          go_wp2_with (go_at_call 14; refine (count_any du _ _ xU).mono ?_; rintro e wv ⟨rfl, rfl⟩)
          refine wpAny_take (i := 17) (v := ?v52) rfl (by kernel_rfl) (by kernel_rfl) (by kernel_rfl) (fun _ _ _ h => h) (Or.inl ⟨by kernel_rfl, ?h52⟩) ?r52
          case h52 => (intro w; go_simp) <;> with_reducible rfl
          refine wpAny_take (i := 18) (v := ?v53) rfl (by kernel_rfl) (by kernel_rfl) (by kernel_rfl) (fun _ _ _ h => h) (Or.inl ⟨by kernel_rfl, ?h53⟩) ?r53
          case h53 => (intro w; go_simp) <;> with_reducible rfl
          refine wpAny_take (i := 19) (v := ?v54) rfl (by kernel_rfl) (by kernel_rfl) (by kernel_rfl) (fun _ _ _ h => h) (Or.inl ⟨by kernel_rfl, ?h54⟩) ?r54
          case h54 => (intro w; go_simp) <;> with_reducible rfl
          refine wpAny_done (by kernel_rfl) ?_ _
          clear xU xV HS6
          go_wp2
          go_ret
          exact ⟨by first | (simp; done) | (simp; rfl), LX.out.B⟩
end Go.Proofs.YtldnnjcfihjkdaaDoor
