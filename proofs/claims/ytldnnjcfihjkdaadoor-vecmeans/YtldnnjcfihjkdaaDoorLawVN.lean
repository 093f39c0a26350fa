/-
  VecNorms: a vector's length is the root of the exact sum of its squares; clipped it is scaled by one number.
-/
import Derived.Test.YtldnnjcfihjkdaaDoorLawVS
import Derived.Test.YtldnnjcfihjkdaaDoorBI
import Derived.Deep.DrawnRows
import Derived.Deep.QuietTactic
import Derived.BigQuiet
set_option linter.unusedVariables false
set_option linter.unusedSimpArgs false
namespace Go.Proofs.YtldnnjcfihjkdaaDoor
open Go.RowKit
attribute [local go_sem ↓] Go.wp_at_zero Go.wp_at_succ

theorem few1_any (w1 : World) (ada : Option Addr) (n ca : Nat) (k : n ≤ maxLen) :
    Calls Tryd.prog 10 #[.slice (some ⟨w1.heap.size, 0, none⟩) 1 1] (w1.alloc (.cells #[.slice ada n ca] 22)) fun e w' => e = .returned (.bool (decide (n ≤ 200))) ∧ w' = (w1.alloc (.cells #[.slice ada n ca] 22)) := by
  rw [show decide (n ≤ 200) = fewB (fun _ => n) 1 by simp [fewB, List.range_succ]]
  refine few_any w1.heap.size 1 1 (fun _ => n) (by omega) (by omega) _ (fun k hk => ?_)
  obtain rfl : k = 0 := by omega
  exact ⟨k, ada, ca, by simp [go_sem]⟩
/-- The contract of vec.Clip. -/
structure Vec3 : Prop where
  clipU : ∀ (most : Int) (va : Value) (n : Nat) (f : Nat → Int) (d : Nat) (c : Int) (w : World), -9223372036854775808 ≤ most → most ≤ 9223372036854775807 → n ≤ 70000 → 0 ≤ c → c ≤ 800000000 → VT w → Ar w va n f → Nb va d → Uc w d c →
    Calls Tryd.prog 42 #[.pointer (some ⟨d, 0, none⟩), va, .int .i64 most] w fun e w' => ∃ v', e = .returned (.tuple #[v', .bool (cpB most n f && decide (sE n = 0)), .int .i64 (sE n)]) ∧ LL w w' v' n (cpF most n f) (sE n) ∧ Un d (c + cE (sE n) (cpN most n f)) w w'
set_option maxRecDepth 100000 in
set_option maxHeartbeats 8000000 in
theorem vecNorms_any (V : Vec1) (V3 : Vec3) (va : Value) (n : Nat) (f : Nat → Int) (most : Int) (m0 : -9223372036854775808 ≤ most) (m1 : most ≤ 9223372036854775807) (w : World) (hV : VT w) (hA : Ar w va n f) :
    Calls Tryd.prog 7 #[va, .int .i64 most] w fun e w' => e = .returned (.bool true) ∧ Below w.heap.size w w' := by
  have HA : Hid (Ar w va n f) := hA
  have HV : Hid (VT w) := hV
  obtain ⟨ada, ca, ba, oa, rfl, k1, k2, -, -⟩ := hA
  go_enter Tryd.func7, Tryd.ntmps7
  go_wp2_with fail
  refine (vawake_any V _ hV).mono ?_
  rintro e w1 ⟨rfl, W1⟩
  have HW1 : Hid (Below w.heap.size w w1) := W1
  have HF : Hid (Calls Tryd.prog 10 #[.slice (some ⟨w1.heap.size, 0, none⟩) 1 1] (w1.alloc (.cells #[.slice ada n ca] 22)) fun e w' => e = .returned (.bool (decide (n ≤ 200))) ∧ w' = (w1.alloc (.cells #[.slice ada n ca] 22))) := few1_any w1 ada n ca (by omega)
  clear W1 hV k1 k2
  go_wp2_with fail
  refine HF.out.mono ?_
  rintro e w2 ⟨rfl, rfl⟩
  clear HF
  obtain ⟨R, hR⟩ : ∃ R, decide (n ≤ 200) = R := ⟨_, rfl⟩
  rw [hR]
  cases R
  · clear hR
    go_wp2
    go_ret
    exact ⟨rfl, bchain HW1.out (bel1' _ _)⟩
  have hn : n ≤ 200 := by simpa using hR
  clear hR
  go_upto_region 6 with fail
  have L : Hid (L2 w (w1.heap.size + 1) (w1.heap.size + 1 + 1) 0 0 (((w1.alloc (.cells #[.slice ada n ca] 22)).alloc (.cells #[.int .i64 0] 29)).alloc (.cells #[.int .i64 0] 32))) := l2_new' (bchain HW1.out (bel1' w1 _)) (alloc_size_eq w1 _) _ _
  have hs := HW1.out.size
  obtain ⟨du, hdu⟩ : ∃ du, w1.heap.size + 1 = du := ⟨_, rfl⟩
  have hd0 : w.heap.size ≤ du := by omega
  have hd1 : w.heap.size ≤ du + 1 := by omega
  rw [hdu] at L ⊢
  generalize (((w1.alloc (.cells #[.slice ada n ca] 22)).alloc (.cells #[.int .i64 0] 29)).alloc (.cells #[.int .i64 0] 32)) = w3 at *
  clear hs hdu HW1
  have hsE : sE n = 0 := sE_few n hn
  obtain ⟨X, hX⟩ : ∃ X, nX n f = X := ⟨_, rfl⟩
  obtain ⟨O, hO⟩ : ∃ O, nO n f = O := ⟨_, rfl⟩
  obtain ⟨C, hC⟩ : ∃ C, cpB most n f = C := ⟨_, rfl⟩
  obtain ⟨M, hM⟩ : ∃ M, cpN most n f = M := ⟨_, rfl⟩
  have rO := bi_rng O
  have PN : Hid (Calls Tryd.prog 40 #[.pointer (some ⟨du, 0, none⟩), .slice ada n ca] w3 fun e w' => e = .returned (.tuple #[.int .i64 X, .int .i64 0]) ∧ Un du (0 + bi O) w3 w') := by
    have h := V.normU _ n f du 0 w3 (by omega) (by omega) (by omega) (HV.out.later L.out.B) (HA.out.later L.out.B) (HA.out.nb hd0) L.out.u
    rw [hX, hO, hsE] at h
    exact h
  have RN : Hid (∀ (W : World) (va : Value), Ar W va n f → Uc W (du + 1) 0 → Calls Tryd.prog 41 #[.pointer (some ⟨du + 1, 0, none⟩), va] W fun e w' => e = .returned (.int .i64 X) ∧ Un (du + 1) (0 + bi O) W w') := by
    intro W va h1 h3
    rw [← hX, ← hO, nX, nO, if_pos hsE, if_pos hsE]
    exact unorm_any va n f (du + 1) 0 (by omega) (by omega) (by omega) W h1 h3.1 h3.2
  have PC : Hid (∀ (W : World), L2 w du (du + 1) (0 + bi O) (0 + bi O) W → Calls Tryd.prog 42 #[.pointer (some ⟨du, 0, none⟩), .slice ada n ca, .int .i64 most] W fun e w' => ∃ v', e = .returned (.tuple #[v', .bool C, .int .i64 0]) ∧ LL W w' v' n (cpF most n f) 0 ∧ Un du (0 + bi O + M) W w') := by
    intro W hL
    have h := V3.clipU most _ n f du (0 + bi O) W m0 m1 (by omega) (by omega) (by omega) (HV.out.later hL.B) (HA.out.later hL.B) (HA.out.nb hd0) hL.u
    rw [hC, hM, hsE, show (C && decide ((0 : Int) = 0)) = C by simp] at h
    exact h
  have RC : Hid (∀ (W : World) (va : Value) (cu : Int), L2 w du (du + 1) cu (0 + bi O) W → An du (du + 1) va n f W → Calls Tryd.prog 43 #[.pointer (some ⟨du + 1, 0, none⟩), va, .int .i64 most] W fun e w' => ∃ v', e = .returned (.tuple #[v', .bool C]) ∧ Ar w' v' n (cpF most n f) ∧ Un (du + 1) (0 + bi O + M) W w') := by
    intro W va cu hL hA
    rw [← hC, ← hM]
    exact uclip_any most m0 m1 va n f (du + 1) (0 + bi O) (by omega) (by omega) (by omega) W hA.a hA.v hL.v.1 hL.v.2
  clear hX hO hC hM hsE V V3 HV
  go_wp2_with fail
  refine (PN.out).mono ?_
  rintro e w4 ⟨rfl, hU⟩
  have L4 : Hid (L2 w du (du + 1) (0 + bi O) 0 w4) := L.out.unu hU hd0 (by omega)
  clear hU L PN
  go_upto_region 7 with fail
  go_cut [48] (fun s48 wd => s48 = .bool false ∧ L2 w du (du + 1) (0 + bi O) (0 + bi O) wd)
  case first =>
    clear PC RC
    have hdr : Below w4.heap.size w4 w4.drew := (Below.refl _ _).drew
    have LD : Hid (L2 w du (du + 1) (0 + bi O) 0 w4.drew) := L4.out.later hdr
    have xV := LD.out.v.1
    have xU := LD.out.u.1
    clear hdr L4
    refine wp_region_any (by kernel_rfl) ?_
    change wpAny _ _ _ _ _ _ _ (World.drew _)
    refine wpAny_take (i := 0) (v := ?v1) rfl (by kernel_rfl) (by kernel_rfl) (by kernel_rfl) (fun _ _ _ h => h) (Or.inl ⟨by kernel_rfl, ?h1⟩) ?r1
    case h1 => (intro w; go_simp) <;> with_reducible rfl
    refine wpAny_take (i := 1) (v := ?v2) rfl (by kernel_rfl) (by kernel_rfl) (by kernel_rfl) (fun _ _ _ h => h) (Or.inl ⟨by kernel_rfl, ?h2⟩) ?r2
    case h2 => (intro w; go_simp) <;> with_reducible rfl
    refine wpAny_take (i := 2) (v := ?v3) rfl (by kernel_rfl) (by kernel_rfl) (by kernel_rfl) (fun _ _ _ h => h) (Or.inl ⟨by kernel_rfl, ?h3⟩) ?r3
    case h3 => (intro w; go_simp) <;> with_reducible rfl
    refine wpAny_take (i := 3) (v := ?v4) rfl (by kernel_rfl) (by kernel_rfl) (by kernel_rfl) (fun _ _ _ h => h) (Or.inl ⟨by kernel_rfl, ?h4⟩) ?r4
    case h4 => (intro w; go_simp) <;> with_reducible rfl
    refine wpAny_take (i := 4) (v := ?v5) rfl (by kernel_rfl) (by kernel_rfl) (by kernel_rfl) (fun _ _ _ h => h) (Or.inl ⟨by kernel_rfl, ?h5⟩) ?r5
    case h5 => (intro w; go_simp) <;> with_reducible rfl
    refine wpAny_take (i := 5) (v := ?v6) rfl (by kernel_rfl) (by kernel_rfl) (by kernel_rfl) (fun _ _ _ h => h) (Or.inl ⟨by kernel_rfl, ?h6⟩) ?r6
    case h6 => (intro w; go_simp) <;> with_reducible rfl
    refine wpAny_ready (rs := [6]) (by kernel_rfl) (by simp) ?_
    refine AllReady.cons rfl (fun K hK => ?_) AllReady.nil
    go_simp
    go_wp2_with (go_at_call 13; refine (plain_any (.slice ada n ca) n f (by omega) _ (HA.out.later LD.out.B)).mono ?_; rintro e wz ⟨vz, rfl, AZ, -, hb⟩; have HAZ : Hid (Ar wz vz n f) := AZ; have LZ : Hid (L2 w du (du + 1) (0 + bi O) 0 wz) := LD.out.later hb; clear xU xV; have xV := LZ.out.v.1; have xU := LZ.out.u.1; clear hb AZ LD)
    refine wpAny_ready (rs := [7]) (by kernel_rfl) (by simp) ?_
    refine AllReady.cons rfl (fun K hK => ?_) AllReady.nil
    go_simp
    go_wp2_with (go_at_call 41; refine (RN.out _ _ HAZ.out LZ.out.v).mono ?_; rintro e wx ⟨rfl, hU⟩; have LX : Hid (L2 w du (du + 1) (0 + bi O) (0 + bi O) wx) := LZ.out.unv hU (by omega) (by omega); clear xU xV; have xV := LX.out.v.1; have xU := LX.out.u.1; clear hU HAZ LZ)
    refine wpAny_take (i := 8) (v := ?v7) rfl (by kernel_rfl) (by kernel_rfl) (by kernel_rfl) (fun _ _ _ h => h) (Or.inl ⟨by kernel_rfl, ?h7⟩) ?r7
    case h7 => (intro w; go_simp) <;> with_reducible rfl
    refine wpAny_take (i := 9) (v := ?v8) rfl (by kernel_rfl) (by kernel_rfl) (by kernel_rfl) (fun _ _ _ h => h) (Or.inl ⟨by kernel_rfl, ?h8⟩) ?r8
    case h8 => (intro w; go_simp) <;> with_reducible rfl
    refine wpAny_take (i := 10) (v := ?v9) rfl (by kernel_rfl) (by kernel_rfl) (by kernel_rfl) (fun _ _ _ h => h) (Or.inl ⟨by kernel_rfl, ?h9⟩) ?r9
    case h9 => (intro w; go_simp) <;> with_reducible rfl
    refine wpAny_take (i := 11) (v := ?v10) rfl (by kernel_rfl) (by kernel_rfl) (by kernel_rfl) (fun _ _ _ h => h) (Or.inl ⟨by kernel_rfl, ?h10⟩) ?r10
    case h10 => (intro w; go_simp) <;> with_reducible rfl
    refine wpAny_take (i := 13) (v := ?v11) rfl (by kernel_rfl) (by kernel_rfl) (by kernel_rfl) (fun _ _ _ h => h) (Or.inl ⟨by kernel_rfl, ?h11⟩) ?r11
    case h11 => (intro w; go_simp) <;> with_reducible rfl
    refine wpAny_take (i := 14) (v := ?v12) rfl (by kernel_rfl) (by kernel_rfl) (by kernel_rfl) (fun _ _ _ h => h) (Or.inl ⟨by kernel_rfl, ?h12⟩) ?r12
    case h12 => (intro w; go_simp) <;> with_reducible rfl
    refine wpAny_take (i := 15) (v := ?v13) rfl (by kernel_rfl) (by kernel_rfl) (by kernel_rfl) (fun _ _ _ h => h) (Or.inl ⟨by kernel_rfl, ?h13⟩) ?r13
    case h13 => (intro w; go_simp) <;> with_reducible rfl
    refine wpAny_ready (rs := [12, 16]) (by kernel_rfl) (by simp) ?_
    refine AllReady.cons rfl (fun K hK => ?_) (AllReady.cons rfl (fun K hK => ?_) AllReady.nil)
    · go_simp
      go_wp2_with (go_at_call 14; refine (count_any du _ _ xU).mono ?_; rintro e wv ⟨rfl, rfl⟩)
      refine wpAny_ready (rs := [16]) (by kernel_rfl) (by simp) ?_
      refine AllReady.cons rfl (fun K hK => ?_) AllReady.nil
      go_simp
      refine hK _ _ ?_
      clear hK K
      refine wpAny_take (i := 17) (v := ?v14) rfl (by kernel_rfl) (by kernel_rfl) (by kernel_rfl) (fun _ _ _ h => h) (Or.inl ⟨by kernel_rfl, ?h14⟩) ?r14
      case h14 => (intro w; go_simp) <;> with_reducible rfl
      refine wpAny_take (i := 18) (v := ?v15) rfl (by kernel_rfl) (by kernel_rfl) (by kernel_rfl) (fun _ _ _ h => h) (Or.inl ⟨by kernel_rfl, ?h15⟩) ?r15
      case h15 => (intro w; go_simp) <;> with_reducible rfl
      refine wpAny_done (by kernel_rfl) ?_ _
      clear xU xV RN
      go_wp2_with fail
      go_meet
      exact ⟨by first | (simp; done) | (simp; rfl), LX.out⟩
    · go_simp
      refine hK _ _ ?_
      clear hK K
      refine wpAny_ready (rs := [12]) (by kernel_rfl) (by simp) ?_
      refine AllReady.cons rfl (fun K hK => ?_) AllReady.nil
      go_simp
      go_wp2_with (go_at_call 14; refine (count_any du _ _ xU).mono ?_; rintro e wv ⟨rfl, rfl⟩)
      refine wpAny_take (i := 17) (v := ?v16) rfl (by kernel_rfl) (by kernel_rfl) (by kernel_rfl) (fun _ _ _ h => h) (Or.inl ⟨by kernel_rfl, ?h16⟩) ?r16
      case h16 => (intro w; go_simp) <;> with_reducible rfl
      refine wpAny_take (i := 18) (v := ?v17) rfl (by kernel_rfl) (by kernel_rfl) (by kernel_rfl) (fun _ _ _ h => h) (Or.inl ⟨by kernel_rfl, ?h17⟩) ?r17
      case h17 => (intro w; go_simp) <;> with_reducible rfl
      refine wpAny_done (by kernel_rfl) ?_ _
      clear xU xV RN
      go_wp2_with fail
      go_meet
      exact ⟨by first | (simp; done) | (simp; rfl), LX.out⟩
  case rest =>
    obtain ⟨rfl, hL⟩ := hcut
    have L5 : Hid (L2 w du (du + 1) (0 + bi O) (0 + bi O) wc) := hL
    clear hL RN
    go_wp2_with fail
    refine (PC.out _ L5.out).mono ?_
    rintro e w6 ⟨v6, rfl, hL, hU⟩
    have L6 : Hid (L2 w du (du + 1) (0 + bi O + M) (0 + bi O) w6) := L5.out.unu hU hd0 (by omega)
    have Y6 : Hid (An du (du + 1) v6 n (cpF most n f) w6) := An.new L5.out (hL.1 rfl) hL.2.2
    clear hL hU L5 PC
    go_wp2_with fail
    refine (plain_any _ n f (by omega) _ (HA.out.later L6.out.B)).mono ?_
    rintro e w7 ⟨v7, rfl, A7, O7, hb⟩
    have L7 : Hid (L2 w du (du + 1) (0 + bi O + M) (0 + bi O) w7) := L6.out.later hb
    have X7 : Hid (An du (du + 1) v7 n f w7) := An.new L6.out A7 O7
    have Y7 : Hid (An du (du + 1) v6 n (cpF most n f) w7) := Y6.out.later hb
    clear hb A7 O7 L6 Y6
    go_wp2_with fail
    refine (RC.out _ _ _ L7.out X7.out).mono ?_
    rintro e w8 ⟨v8, rfl, hA, hU⟩
    have L8 : Hid (L2 w du (du + 1) (0 + bi O + M) (0 + bi O + M) w8) := L7.out.unv hU hd1 (by omega)
    have Y8 : Hid (Ar w8 v6 n (cpF most n f) ∧ Ar w8 v8 n (cpF most n f)) := ⟨(Y7.out.unv hU).a, hA⟩
    clear hU hA L7 X7 Y7 RC
    have LK : Hid (Calls Tryd.prog 21 #[v6, .int .i64 0, v8, .pointer (some ⟨du, 0, none⟩), .pointer (some ⟨du + 1, 0, none⟩)] w8 fun e w' => e = .returned (.bool true) ∧ Below w8.heap.size w8 w') := like_yes _ _ n _ (by omega) du (du + 1) _ _ Y8.out.1 Y8.out.2 L8.out.u L8.out.v
    clear Y8
    have hCC : (C == C) = true := by simp
    go_wp2_with (go_at_call 21; refine LK.out.mono ?_; rintro e w9 ⟨rfl, hb⟩; have L9 : Hid (Below w.heap.size w w9) := bchain L8.out.B hb; clear hb L8)
    go_wp2
    go_ret
    exact ⟨by first | rfl | simp, L9.out⟩
end Go.Proofs.YtldnnjcfihjkdaaDoor
