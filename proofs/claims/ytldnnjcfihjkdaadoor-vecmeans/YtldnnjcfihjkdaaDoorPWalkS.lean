/-
  The contracts of vec's gather over lists, of each over wide numbers, and of what Means hands them.
-/
import Derived.Test.YtldnnjcfihjkdaaDoorPWalkR
import Derived.Test.YtldnnjcfihjkdaaDoorPWalkE
import Derived.Test.YtldnnjcfihjkdaaDoorBJ
set_option linter.unusedVariables false
set_option linter.unusedSimpArgs false
namespace Go.Proofs.YtldnnjcfihjkdaaDoor
open Go.RowKit

set_option maxHeartbeats 1000000 in
theorem means1_any (ba : Nat) (vb : Value) (n : Nat) (F g : Nat → Int) (w : World) (hn : n ≤ 70000) (hA : Wd ba n F w) (hB : Ar w vb n g) :
    Calls Tryd.prog 85 #[.slice (some ⟨ba, 0, none⟩) n n, vb] w fun e w' => e = .returned (.slice (some ⟨w.heap.size, 0, none⟩) n n) ∧ Wd w.heap.size n (fun k => F k + g k) w' ∧ Below w.heap.size w w' := by
  have CP : Hid (Calls Tryd.prog 86 #[.slice (some ⟨ba, 0, none⟩) n n, vb, .func (.func 87) #[] #[]] w fun e w' => e = .returned (.slice (some ⟨w.heap.size, 0, none⟩) n n) ∧ Wd w.heap.size n (fun k => F k + g k) w' ∧ Below w.heap.size w w') := pairs_plus ba vb n F g w hn hA hB
  obtain ⟨adq, caq, bq, oq, rfl, q1, q2, -, -⟩ := hB
  clear hA
  go_enter Tryd.func85, Tryd.ntmps85
  go_wp2_with fail
  refine CP.out.mono ?_
  rintro e w1 ⟨rfl, hD, hb⟩
  have HD : Hid (Wd w.heap.size n (fun k => F k + g k) w1) := hD
  clear CP hD
  go_wp2
  go_ret
  exact ⟨rfl, HD.out, hb⟩
/-- A list of lists that are as long. -/
structure Vs (w : World) (g o K n : Nat) (fs : Nat → Nat → Int) : Prop where
  c : ∀ k, k < K → ∃ (ad : Option Addr) (ca : Nat), w.cell? ⟨g, o + k, none⟩ = some (.slice ad n ca) ∧ Ar w (.slice ad n ca) n (fs k)
theorem Vs.later {w w' : World} {g o K n : Nat} {fs : Nat → Nat → Int} (h : Vs w g o K n fs) (hb : Below w.heap.size w w') : Vs w' g o K n fs :=
  ⟨fun k hk => by obtain ⟨ad, ca, h1, h2⟩ := h.c k hk; exact ⟨ad, ca, cell_later hb h1, h2.later hb⟩⟩
set_option maxRecDepth 100000 in
set_option maxHeartbeats 4000000 in
theorem gather_wide (g o cap K bs n : Nat) (fs : Nat → Nat → Int) (hn : n ≤ 70000) (hcap : K ≤ cap) (hcap2 : cap ≤ maxLen) (w : World) (hL : Vs w g o K n fs) (hZ : Wd bs n (fun _ => 0) w) :
    Calls Tryd.prog 84 #[.slice (some ⟨g, o, none⟩) K cap, .slice (some ⟨bs, 0, none⟩) n n, .func (.func 85) #[] #[]] w fun e w' => ∃ b', e = .returned (.slice (some ⟨b', 0, none⟩) n n) ∧ Wd b' n (fun i => sumV (fun k => fs k i) K) w' ∧ (b' = bs ∨ w.heap.size ≤ b') ∧ Below w.heap.size w w' := by
  unfold maxLen at hcap2
  have HL : Hid (Vs w g o K n fs) := hL
  clear hL
  go_enter Tryd.func84, Tryd.ntmps84
  go_wp2
  go_loopw [1, 11] (fun s1 si wr => ∃ (j b' : Nat), j ≤ K ∧ s1 = .slice (some ⟨b', 0, none⟩) n n ∧ si = .int .i64 (j : Int) ∧ Hid (Wd b' n (fun i => sumV (fun k => fs k i) j) wr) ∧ Hid (b' = bs ∨ w.heap.size ≤ b') ∧ Hid (Below w.heap.size w wr)) (fun _ si _ => K - (intOf si).toNat)
  case atStart =>
    exact ⟨0, bs, by omega, rfl, rfl, hZ.congr (fun k hk => rfl), Or.inl rfl, Below.refl _ _⟩
  case round =>
    obtain ⟨j, b', hj, rfl, rfl, hD, hB, hS⟩ := hrel
    by_cases hlt : j < K
    · have hjI : (j : Int) < (K : Int) := by omega
      obtain ⟨ad, ca, c1, hA⟩ := (HL.out.later hS.out).c j hlt
      have CM : Hid (Calls Tryd.prog 85 #[.slice (some ⟨b', 0, none⟩) n n, .slice ad n ca] wr fun e w' => e = .returned (.slice (some ⟨wr.heap.size, 0, none⟩) n n) ∧ Wd wr.heap.size n (fun i => sumV (fun k => fs k i) (j + 1)) w' ∧ Below wr.heap.size wr w') := means1_any b' _ n _ (fs j) wr hn hD.out hA
      have HB : Hid (wr.heap.size = bs ∨ w.heap.size ≤ wr.heap.size) := Or.inr hS.out.size
      clear hA hD hB
      go_wp2_with (go_at_call 85; refine CM.out.mono ?_; rintro e wz ⟨rfl, hDz, hbz⟩; have HDz : Hid (Wd wr.heap.size n (fun i => sumV (fun k => fs k i) (j + 1)) wz) := hDz; have HSz : Hid (Below w.heap.size w wz) := bchain hS.out hbz; clear hDz hbz c1)
      go_roundw
      case rel => exact ⟨j + 1, _, by omega, rfl, by go_num, HDz, HB, HSz⟩
      case measure => simp [intOf]; omega
    · obtain rfl : j = K := by omega
      have hjI : ¬ (j : Int) < (j : Int) := by omega
      go_wp2
      go_ret
      exact ⟨_, rfl, hD.out, hB.out, hS.out⟩

set_option maxRecDepth 100000 in
set_option maxHeartbeats 4000000 in
theorem each_means (p q : Value) (S : Nat → World → Prop) (ba n : Nat) (G F : Nat → Int) (w : World) (hn : n ≤ 70000)
    (S0 : S 0 w) (SL : ∀ j W W', S j W → Below W.heap.size W W' → S j W') (SS : ∀ j W (a : Addr) u, w.heap.size ≤ a.block → S j W → S j (W.setCell a u)) (SA : ∀ j W, S j W → Wd ba n G W) (hF : ∀ k, k < n → -9223372036854775808 ≤ F k ∧ F k ≤ 9223372036854775807)
    (HS : ∀ j W, j < n → w.heap.size < W.heap.size → S j W → Calls Tryd.prog 89 #[.agg #[.int .i64 (hi (G j)), .int .u64 (lo (G j))], p, q] W fun e w' => e = .returned (.int .i64 (F j)) ∧ S (j + 1) w' ∧ w'.heap[w.heap.size]? = W.heap[w.heap.size]? ∧ W.heap.size ≤ w'.heap.size) :
    Calls Tryd.prog 88 #[.slice (some ⟨ba, 0, none⟩) n n, .func (.func 89) #[] #[p, q]] w fun e w' => e = .returned (.slice (some ⟨w.heap.size, 0, none⟩) n n) ∧ S n w' ∧ Ar w' (.slice (some ⟨w.heap.size, 0, none⟩) n n) n F := by
  have hmk := make_fx n (by omega)
  have hR0 := Rw.made w (.int .i64 0) n 33
  have hS0 : Hid (S 0 (w.alloc (.cells (madeCells #[.int .i64 0] n) 33))) := SL 0 _ _ S0 (bel1 _ _)
  have hz0 : w.heap.size < (w.alloc (.cells (madeCells #[.int .i64 0] n) 33)).heap.size := by rw [World.size_alloc]; omega
  have HSA : Hid (∀ j W, S j W → Wd ba n G W) := SA
  have HSL : Hid (∀ j W W', S j W → Below W.heap.size W W' → S j W') := SL
  have HHS : Hid (∀ j W, j < n → w.heap.size < W.heap.size → S j W → Calls Tryd.prog 89 #[.agg #[.int .i64 (hi (G j)), .int .u64 (lo (G j))], p, q] W fun e w' => e = .returned (.int .i64 (F j)) ∧ S (j + 1) w' ∧ w'.heap[w.heap.size]? = W.heap[w.heap.size]? ∧ W.heap.size ≤ w'.heap.size) := HS
  have HSS : Hid (∀ j W (a : Addr) u, w.heap.size ≤ a.block → S j W → S j (W.setCell a u)) := SS
  have HF : Hid (∀ k, k < n → -9223372036854775808 ≤ F k ∧ F k ≤ 9223372036854775807) := hF
  clear SA HS SS SL S0 hF
  go_enter Tryd.func88, Tryd.ntmps88
  go_upto_region 3 with fail
  generalize w.alloc (.cells (madeCells #[.int .i64 0] n) 33) = w0 at *
  clear hmk
  go_loopw [13] (fun si wr => ∃ j : Nat, j ≤ n ∧ si = .int .i64 (j : Int) ∧ Hid (S j wr) ∧ Hid (Rw w.heap.size n (fun k => if k < j then .int .i64 (F k) else .int .i64 0) wr) ∧ w.heap.size < wr.heap.size) (fun si _ => n - (intOf si).toNat)
  case atStart =>
    exact ⟨0, by omega, rfl, hS0, hR0.congr (fun k hk => by simp), hz0⟩
  case round =>
    obtain ⟨j, hj, rfl, hS, hR, hz⟩ := hrel
    by_cases hlt : j < n
    · have hjI : (j : Int) < (n : Int) := by omega
      have cA0 := (HSA.out j wr hS.out).c0 j hlt
      have cA1 := (HSA.out j wr hS.out).c1 j hlt
      have HC : Hid (∀ W, Below wr.heap.size wr W → Calls Tryd.prog 89 #[.agg #[.int .i64 (hi (G j)), .int .u64 (lo (G j))], p, q] W fun e w' => e = .returned (.int .i64 (F j)) ∧ S (j + 1) w' ∧ w'.heap[w.heap.size]? = W.heap[w.heap.size]? ∧ W.heap.size ≤ w'.heap.size) := fun W hb => HHS.out j W hlt (Nat.lt_of_lt_of_le hz hb.size) (HSL.out j _ _ hS.out hb)
      generalize hi (G j) = th at *
      generalize lo (G j) = tl at *
      have A0 := B2.new wr (.int .i64 th) (.int .u64 tl) 92
      have hb1 := bel1 wr (.cells #[.int .i64 th, .int .u64 tl] 92)
      have CM : Hid (Calls Tryd.prog 89 #[.agg #[.int .i64 th, .int .u64 tl], p, q] (wr.alloc (.cells #[.int .i64 th, .int .u64 tl] 92)) fun e w' => e = .returned (.int .i64 (F j)) ∧ S (j + 1) w' ∧ w'.heap[w.heap.size]? = (wr.alloc (.cells #[.int .i64 th, .int .u64 tl] 92)).heap[w.heap.size]? ∧ (wr.alloc (.cells #[.int .i64 th, .int .u64 tl] 92)).heap.size ≤ w'.heap.size) := HC.out _ hb1
      have R1 : Hid (Rw w.heap.size n (fun k => if k < j then .int .i64 (F k) else .int .i64 0) (wr.alloc (.cells #[.int .i64 th, .int .u64 tl] 92))) := hR.out.later hb1
      have hz1 : w.heap.size < (wr.alloc (.cells #[.int .i64 th, .int .u64 tl] 92)).heap.size := by rw [World.size_alloc]; omega
      clear hb1 hR hS HC
      go_upto_region 5 with fail
      clear cA0 cA1
      generalize wr.alloc (.cells #[.int .i64 th, .int .u64 tl] 92) = w1 at *
      have a0 := A0.c0
      have a1 := A0.c1
      clear A0
      go_wp2_with (go_at_call 89; refine CM.out.mono ?_; rintro e wz ⟨rfl, hSz, hbz, hsz⟩; have HSz : Hid (S (j + 1) wz) := hSz; have HRz := R1.out.block hbz; have cz : wz.cell? ⟨w.heap.size, j, none⟩ = some (.int .i64 0) := (by have := HRz.c j hlt; rw [if_neg (by omega)] at this; exact this); have fz := HRz.f j hlt; replace HRz : Hid (Rw _ _ _ _) := HRz; clear hSz hbz R1 a0 a1)
      have hS2 : Hid (S (j + 1) (wz.setCell ⟨w.heap.size, j, none⟩ (.int .i64 (F j)))) := HSS.out _ _ _ _ (Nat.le_refl _) HSz.out
      have hR2 : Hid (Rw w.heap.size n (fun k => if k < j + 1 then .int .i64 (F k) else .int .i64 0) (wz.setCell ⟨w.heap.size, j, none⟩ (.int .i64 (F j)))) := (HRz.out.set j (.int .i64 (F j))).congr (fun k hk => by
        by_cases e : k = j
        · subst e; simp
        · rw [if_neg e]
          by_cases e2 : k < j
          · rw [if_pos e2, if_pos (by omega)]
          · rw [if_neg e2, if_neg (by omega)])
      have hz2 : w.heap.size < (wz.setCell ⟨w.heap.size, j, none⟩ (.int .i64 (F j))).heap.size := by rw [World.size_setCell]; omega
      go_roundw
      case rel => exact ⟨j + 1, by omega, by go_num, hS2, hR2, hz2⟩
      case measure => simp [intOf]; omega
    · obtain rfl : j = n := by omega
      have hjI : ¬ (j : Int) < (j : Int) := by omega
      have hAr : Hid (Ar wr (.slice (some ⟨w.heap.size, 0, none⟩) j j) j F) := (hR.out.congr (fun k hk => by rw [if_pos hk])).ar (by omega) HF.out
      clear hR
      go_wp2
      go_ret
      exact ⟨rfl, hS.out, hAr.out⟩
theorem sumV_bnd (f : Nat → Int) (n : Nat) (h : ∀ k, k < n → -9223372036854775808 ≤ f k ∧ f k ≤ 9223372036854775807) : -((n : Int) * 9223372036854775808) ≤ sumV f n ∧ sumV f n ≤ (n : Int) * 9223372036854775808 := by
  induction n with
  | zero => exact ⟨by simp [sumV], by simp [sumV]⟩
  | succ m ih =>
    obtain ⟨h1, h2⟩ := ih (fun k hk => h k (by omega))
    obtain ⟨h3, h4⟩ := h m (by omega)
    show _ ≤ sumV f m + f m ∧ sumV f m + f m ≤ _
    omega
set_option maxHeartbeats 1000000 in
theorem means2_un (f : Nat → Int) (K cap : Nat) (adr : Option Addr) (hK : 1 ≤ K) (hK2 : K ≤ 1000) (hf' : ∀ k, k < K → -9223372036854775808 ≤ f k ∧ f k ≤ 9223372036854775807) (bu bx : Nat) (d : Nat) (c : Int) (c0 : 0 ≤ c) (c1 : c ≤ 1000000000) (w : World) (hc : w.cell? ⟨d, 0, none⟩ = some (.int .i64 c)) (hf : w.frozen? ⟨d, 0, none⟩ = false) (cu : w.cell? ⟨bu, 0, none⟩ = some (.pointer (some ⟨d, 0, none⟩))) (cx : w.cell? ⟨bx, 0, none⟩ = some (.slice adr K cap)) :
    Calls Tryd.prog 89 #[.agg #[.int .i64 (hi (sumV f K)), .int .u64 (lo (sumV f K))], .pointer (some ⟨bu, 0, none⟩), .pointer (some ⟨bx, 0, none⟩)] w fun e w' => e = .returned (.int .i64 (clv (quo (sumV f K) (K : Int)))) ∧ Un d (c + bi (ovv (quo (sumV f K) (K : Int)))) w w' := by
  obtain ⟨g0, g1⟩ := sumV_bnd f K hf'
  obtain ⟨u0, u1⟩ := quo_in (sumV f K) (K : Int) (by omega) ((K : Int) * 9223372036854775808) (by omega) g0 g1
  have CD : Hid (∀ W : World, W.cell? ⟨d, 0, none⟩ = some (.int .i64 c) → W.frozen? ⟨d, 0, none⟩ = false → Calls Tryd.prog 54 #[.pointer (some ⟨d, 0, none⟩), .agg #[.int .i64 (hi (sumV f K)), .int .u64 (lo (sumV f K))], .int .i64 (K : Int)] W fun e w' => e = .returned (.int .i64 (clv (quo (sumV f K) (K : Int)))) ∧ Un d (c + bi (ovv (quo (sumV f K) (K : Int)))) W w') := fun W x y => vmean_un (sumV f K) (K : Int) (by omega) (by omega) (by omega) (by omega) (by omega) (by omega) d c c0 (by omega) W x y
  clear g0 g1 u0 u1 hf'
  obtain ⟨z0, z1⟩ := clv_fit (quo (sumV f K) (K : Int))
  generalize clv (quo (sumV f K) (K : Int)) = x at *
  generalize bi (ovv (quo (sumV f K) (K : Int))) = z at *
  generalize hi (sumV f K) = sh at *
  generalize lo (sumV f K) = sl at *
  have hb0 := bel1 w (.cells #[.int .i64 sh, .int .u64 sl] 92)
  have A0 := B2.new w (.int .i64 sh) (.int .u64 sl) 92
  have hcL := cell_later hb0 hc
  have hfL := frozen_later hb0 hc hf
  have cuL := cell_later hb0 cu
  have cxL := cell_later hb0 cx
  clear hc hf cu cx
  go_enter Tryd.func89, Tryd.ntmps89
  go_upto_region 1 with fail
  generalize w.alloc (.cells #[.int .i64 sh, .int .u64 sl] 92) = w1 at *
  have a0 := A0.c0
  have a1 := A0.c1
  clear A0
  go_wp2_with fail
  refine (CD.out _ hcL hfL).mono ?_
  rintro e w2 ⟨rfl, hU⟩
  have hX := Un.after hb0 hU
  clear hU CD hcL hfL cuL cxL a0 a1 hb0
  go_wp2
  go_ret
  exact ⟨rfl, hX⟩
end Go.Proofs.YtldnnjcfihjkdaaDoor
