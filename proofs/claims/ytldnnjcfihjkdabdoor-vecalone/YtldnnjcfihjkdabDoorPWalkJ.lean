/-
  The contracts of vec's scaled, Scale and Clip, and of slices.Clone, without a unit: what is answered is memory of its own, to which may be written.
-/
import Derived.Test.YtldnnjcfihjkdabDoorPWalkG
set_option linter.unusedVariables false
set_option linter.unusedSimpArgs false
namespace Go.Proofs.YtldnnjcfihjkdabDoor
open Go.RowKit

/-- A list of numbers in a block of its own, to which may be written. -/
def Aw (w : World) (b n cap : Nat) (f : Nat → Int) : Prop := Ar w (.slice (some ⟨b, 0, none⟩) n cap) n f ∧ ∀ k, k < n → w.frozen? ⟨b, k, none⟩ = false
theorem Aw.later {w w' : World} {b n cap : Nat} {f : Nat → Int} (h : Aw w b n cap f) (hb : Below w.heap.size w w') : Aw w' b n cap f := by
  refine ⟨h.1.later hb, fun k hk => ?_⟩
  obtain ⟨b', o', e, c, -, -⟩ := h.1.at k hk
  cases e
  rw [Nat.zero_add] at c
  exact frozen_later hb c (h.2 k hk)
theorem Aw.rw {w : World} {b n cap : Nat} {f : Nat → Int} (h : Aw w b n cap f) : Rw b n (fun k => .int .i64 (f k)) w := by
  refine ⟨fun k hk => ?_, h.2⟩
  obtain ⟨b', o', e, c, -, -⟩ := h.1.at k hk
  cases e
  rw [Nat.zero_add] at c
  exact c

set_option maxRecDepth 100000 in
set_option maxHeartbeats 4000000 in
theorem each_scaledF (p q : Value) (S : Nat → World → Prop) (va : Value) (n : Nat) (f F : Nat → Int) (w : World) (hn : n ≤ 70000) (hA : Ar w va n f)
    (S0 : S 0 w) (SL : ∀ j W W', S j W → Below W.heap.size W W' → S j W') (SS : ∀ j W (a : Addr) u, w.heap.size ≤ a.block → S j W → S j (W.setCell a u)) (SA : ∀ j W, S j W → Ar W va n f) (hF : ∀ k, k < n → -9223372036854775808 ≤ F k ∧ F k ≤ 9223372036854775807)
    (HS : ∀ j W, j < n → w.heap.size < W.heap.size → S j W → Calls Tryd.prog 46 #[.int .i64 (f j), p, q] W fun e w' => e = .returned (.int .i64 (F j)) ∧ S (j + 1) w' ∧ w'.heap[w.heap.size]? = W.heap[w.heap.size]? ∧ W.heap.size ≤ w'.heap.size) :
    Calls Tryd.prog 45 #[va, .func (.func 46) #[] #[p, q]] w fun e w' => e = .returned (.slice (some ⟨w.heap.size, 0, none⟩) n n) ∧ S n w' ∧ Aw w' w.heap.size n n F := by
  obtain ⟨adr, cap, b, o, rfl, k1, k2, -, -⟩ := id hA
  unfold maxLen at *
  have hmk := make_fx n (by omega)
  have hR0 := Rw.made w (.int .i64 0) n 25
  have hS0 : Hid (S 0 (w.alloc (.cells (madeCells #[.int .i64 0] n) 25))) := SL 0 _ _ S0 (bel1 _ _)
  have hz0 : w.heap.size < (w.alloc (.cells (madeCells #[.int .i64 0] n) 25)).heap.size := by rw [World.size_alloc]; omega
  have HSA : Hid (∀ j W, S j W → Ar W (.slice adr n cap) n f) := SA
  have HHS : Hid (∀ j W, j < n → w.heap.size < W.heap.size → S j W → Calls Tryd.prog 46 #[.int .i64 (f j), p, q] W fun e w' => e = .returned (.int .i64 (F j)) ∧ S (j + 1) w' ∧ w'.heap[w.heap.size]? = W.heap[w.heap.size]? ∧ W.heap.size ≤ w'.heap.size) := HS
  have HSS : Hid (∀ j W (a : Addr) u, w.heap.size ≤ a.block → S j W → S j (W.setCell a u)) := SS
  have HF : Hid (∀ k, k < n → -9223372036854775808 ≤ F k ∧ F k ≤ 9223372036854775807) := hF
  clear SA HS SS SL S0 hF hA
  go_enter Tryd.func45, Tryd.ntmps45
  go_upto_region 3 with fail
  generalize w.alloc (.cells (madeCells #[.int .i64 0] n) 25) = w0 at *
  clear hmk
  go_loopw [13] (fun si wr => ∃ j : Nat, j ≤ n ∧ si = .int .i64 (j : Int) ∧ Hid (S j wr) ∧ Hid (Rw w.heap.size n (fun k => if k < j then .int .i64 (F k) else .int .i64 0) wr) ∧ w.heap.size < wr.heap.size) (fun si _ => n - (intOf si).toNat)
  case atStart =>
    exact ⟨0, by omega, rfl, hS0, hR0.congr (fun k hk => by simp), hz0⟩
  case round =>
    obtain ⟨j, hj, rfl, hS, hR, hz⟩ := hrel
    by_cases hlt : j < n
    · have hjI : (j : Int) < (n : Int) := by omega
      obtain ⟨b, o, rfl, cA, -, -⟩ := (HSA.out j wr hS.out).at j hlt
      have CM : Hid (Calls Tryd.prog 46 #[.int .i64 (f j), p, q] wr fun e w' => e = .returned (.int .i64 (F j)) ∧ S (j + 1) w' ∧ w'.heap[w.heap.size]? = wr.heap[w.heap.size]? ∧ wr.heap.size ≤ w'.heap.size) := HHS.out j wr hlt hz hS.out
      clear hS
      go_wp2_with (go_at_call 46; refine CM.out.mono ?_; rintro e wz ⟨rfl, hSz, hbz, hsz⟩; have HSz : Hid (S (j + 1) wz) := hSz; have HRz := hR.out.block hbz; have cz : wz.cell? ⟨w.heap.size, j, none⟩ = some (.int .i64 0) := (by have := HRz.c j hlt; rw [if_neg (by omega)] at this; exact this); have fz := HRz.f j hlt; replace HRz : Hid _ := HRz; clear hSz hbz hR cA)
      have hS2 : Hid (S (j + 1) (wz.setCell ⟨w.heap.size, j, none⟩ (.int .i64 (F j)))) := HSS.out _ _ _ _ (Nat.le_refl _) HSz.out
      have hR2 : Hid (Rw w.heap.size n (fun k => if k < j + 1 then .int .i64 (F k) else .int .i64 0) (wz.setCell ⟨w.heap.size, j, none⟩ (.int .i64 (F j)))) := (HRz.out.set j (.int .i64 (F j))).congr (fun k hk => by
        by_cases e : k = j
        · subst e; simp
        · rw [if_neg e]
          by_cases e2 : k < j
          · rw [if_pos e2, if_pos (by omega)]
          · rw [if_neg e2, if_neg (by omega)])
      have hz2 : w.heap.size < (wz.setCell ⟨w.heap.size, j, none⟩ (.int .i64 (F j))).heap.size := by rw [World.size_setCell]; omega
      go_roundw
      case rel => exact ⟨j + 1, by omega, by go_num, hS2, hR2, hz2⟩
      case measure => simp [intOf]; omega
    · obtain rfl : j = n := by omega
      have hjI : ¬ (j : Int) < (j : Int) := by omega
      have hAr : Hid (Aw wr w.heap.size j j F) := ⟨(hR.out.congr (fun k hk => by rw [if_pos hk])).ar (by omega) HF.out, hR.out.f⟩
      clear hR
      go_wp2
      go_ret
      exact ⟨rfl, hS.out, hAr.out⟩


set_option maxHeartbeats 2000000 in
theorem scaledF_nil (k : Int) (k0 : -9223372036854775808 ≤ k) (k1 : k ≤ 9223372036854775807) (va : Value) (n : Nat) (f : Nat → Int) (hn : n ≤ 70000) (w : World) (hA : Ar w va n f) :
    Calls Tryd.prog 25 #[.pointer none, .int .i64 k, va] w fun e w' => e = .returned (.slice (some ⟨w.heap.size + 2, 0, none⟩) n n) ∧ Aw w' (w.heap.size + 2) n n (fun i => clv (rnd (k * f i) 32)) ∧ Below w.heap.size w w' := by
  have hmf := hmf_any
  have hb0 := bel2 w (.cells #[.pointer none] 44) (.cells #[.int .i64 k] 25)
  have cu : ((w.alloc (.cells #[.pointer none] 44)).alloc (.cells #[.int .i64 k] 25)).cell? ⟨w.heap.size, 0, none⟩ = some (.pointer none) := cell_later (bel1 _ _) (cell_new1 w _ _)
  have ck : ((w.alloc (.cells #[.pointer none] 44)).alloc (.cells #[.int .i64 k] 25)).cell? ⟨w.heap.size + 1, 0, none⟩ = some (.int .i64 k) := by have h := cell_new1 (w.alloc (.cells #[.pointer none] 44)) (.int .i64 k) 25; rw [World.size_alloc] at h; exact h
  have hsz : ((w.alloc (.cells #[.pointer none] 44)).alloc (.cells #[.int .i64 k] 25)).heap.size = w.heap.size + 2 := by simp
  have CE : Hid (Calls Tryd.prog 45 #[va, .func (.func 46) #[] #[.pointer (some ⟨w.heap.size, 0, none⟩), .pointer (some ⟨w.heap.size + 1, 0, none⟩)]] ((w.alloc (.cells #[.pointer none] 44)).alloc (.cells #[.int .i64 k] 25)) fun e w' => e = .returned (.slice (some ⟨w.heap.size + 2, 0, none⟩) n n) ∧ Aw w' (w.heap.size + 2) n n (fun i => clv (rnd (k * f i) 32)) ∧ Below w.heap.size w w') := by
    have h := each_scaledF (.pointer (some ⟨w.heap.size, 0, none⟩)) (.pointer (some ⟨w.heap.size + 1, 0, none⟩)) (fun _ W => Below ((w.alloc (.cells #[.pointer none] 44)).alloc (.cells #[.int .i64 k] 25)).heap.size ((w.alloc (.cells #[.pointer none] 44)).alloc (.cells #[.int .i64 k] 25)) W) va n f (fun i => clv (rnd (k * f i) 32)) ((w.alloc (.cells #[.pointer none] 44)).alloc (.cells #[.int .i64 k] 25)) hn (hA.later hb0) (Below.refl _ _) (fun j W W' h hb => bchain h hb) (fun j W a x hx h => h.setCell hx _) (fun j W h => (hA.later hb0).later h) (fun j _ => clv_fit _) (fun j W hj hW h => by
      obtain ⟨_, _, _, _, _, _, _, _, hx⟩ := hA
      have hx := (hx j hj).2
      refine (sc1_nil k (f j) k0 k1 hx.1 hx.2 w.heap.size (w.heap.size + 1) W (cell_later h cu) (cell_later h ck)).mono ?_
      rintro e w' ⟨rfl, hb⟩
      exact ⟨rfl, bchain h hb, hb.block _ hW, hb.size⟩)
    refine h.mono ?_
    rintro e w' ⟨rfl, hS, hX⟩
    rw [hsz] at hX ⊢
    exact ⟨rfl, hX, bchain hb0 hS⟩
  obtain ⟨adr, cap, b, o, rfl, -, -, -, -⟩ := hA
  clear cu ck hb0 hsz
  go_enter Tryd.func25, Tryd.ntmps25
  go_wp2_with fail
  refine CE.out.mono ?_
  rintro e w' ⟨rfl, hX, hU⟩
  have HX : Hid (Aw w' (w.heap.size + 2) n n (fun i => clv (rnd (k * f i) 32))) := hX
  clear CE hX
  go_wp2
  go_ret
  exact ⟨rfl, HX.out, hU⟩


set_option maxRecDepth 100000 in
set_option maxHeartbeats 2000000 in
theorem cloneF_any (b o cap n : Nat) (f : Nat → Int) (hn : n ≤ 70000) (w : World) (hA : Ar w (.slice (some ⟨b, o, none⟩) n cap) n f) :
    Calls Tryd.prog 26 #[.slice (some ⟨b, o, none⟩) n cap] w fun e w' => ∃ (g cap : Nat), e = .returned (.slice (some ⟨g, 0, none⟩) n cap) ∧ Aw w' g n cap f ∧ w.heap.size ≤ g ∧ Below w.heap.size w w' := by
  obtain ⟨i0, hi, hz0, hz1, hz2⟩ := info_parts dinfo_fx
  have qT : ∀ (w : World) (a : Option Addr) (n c n' c' : Nat), (binOp .eql 23 (.slice a n c) (.slice none n' c')).run Tryd.prog w = .ok (.bool a.isNone) w := fun w a n c n' c' => Lib.run_eql_slice_nil w _ _ a n c n' c' Tryd.underlying23
  obtain ⟨adr, cap', b', o', e0, k1, k2, k3, k4⟩ := hA
  cases e0
  unfold maxLen at k2
  have HB : Hid (∀ k, k < n → -9223372036854775808 ≤ f k ∧ f k ≤ 9223372036854775807) := fun k hk => (k4 k hk).2
  obtain ⟨a, ha⟩ : ∃ a, (⟨b, o, none⟩ : Addr) = a := ⟨_, rfl⟩
  rw [ha] at k3 ⊢
  clear ha
  have HC : Hid (∀ (j : Nat) (u : Value), (il f n)[j]? = some u → w.cell? (a.add j) = some u) := fun j u hj => by
    have hjn : j < n := by
      have := (List.getElem?_eq_some_iff.1 hj).1
      rw [il_len] at this
      exact this
    have e := Option.some.inj (k3 (by omega))
    subst e
    rw [il_get f n j hjn] at hj
    rw [Addr.add_lit, ← hj]
    exact (k4 j hjn).1
  clear k3 k4
  go_enter Tryd.func26, Tryd.ntmps26
  go_wp2_with (at_builtin; refine wpList_append_own _ rfl _ _ 23 rfl w.heap.size 25 i0 (.int .i64 0) 1 8 Tryd.underlying23 hi hz0 hz1 hz2 rfl (by decide) _ _ _ rfl (World.ownsRow_made w #[] 0 (Nat.le_refl _) (Nat.zero_le _) (by simp)) a n cap (il f n) rfl ?qc1 ?qc2 ?qc3 ?qc4 ?qc5 ?qc6 ?_)
  case qc1 => rw [il_len, Nat.mul_one]
  case qc2 =>
    intro j u hj
    exact cell_later (bel1 w _) (HC.out j u hj)
  case qc3 =>
    intro u hu
    unfold il at hu
    obtain ⟨k, _, rfl⟩ := List.mem_map.1 hu
    rfl
  case qc4 => unfold maxLen; omega
  case qc5 => omega
  case qc6 => simp
  intro v' w1 hown hgrow hnil
  have HW : Hid (Below w.heap.size w w1) := ((Below.refl _ w).alloc (Nat.le_refl _) _).grown hgrow (by simp) (by intro k hk; simp [Value.ownBlock] at hk; omega)
  obtain ⟨g, cap', rfl⟩ : ∃ g cap', v' = .slice (some ⟨g, 0, none⟩) n cap' := by
    rcases hown.2 with ⟨h0, h1⟩ | ⟨g', cap', cur, hv, -⟩
    · exact absurd h0 hnil
    · exact ⟨g', cap', by simpa using hv⟩
  have hown2 : w1.ownsRow w.heap.size 25 1 (.slice (some ⟨g, 0, none⟩) n cap') n (il f n) := by simpa using hown
  have HO : Hid (Aw w1 g n cap' f ∧ w.heap.size ≤ g) := ⟨⟨(ar_of_own hown2 HB.out).1, fun k hk => hown2.frozenAt k⟩, by
    rcases hown2.2 with ⟨h0, h1⟩ | ⟨g', cap'', cur, hv, hbs, -⟩
    · cases h0
    · cases hv; exact hbs⟩
  clear hown hgrow hnil HC hown2
  go_wp2
  go_ret
  exact ⟨g, cap', rfl, HO.out.1, HO.out.2, HW.out⟩

set_option maxHeartbeats 2000000 in
theorem ScaleF_nil (k : Int) (b o ca n : Nat) (f : Nat → Int) (w : World) (k0 : -9223372036854775808 ≤ k) (k1 : k ≤ 9223372036854775807) (hn : n ≤ 65536) (hA : Ar w (.slice (some ⟨b, o, none⟩) n ca) n f) :
    Calls Tryd.prog 11 #[.pointer none, .int .i64 k, .slice (some ⟨b, o, none⟩) n ca] w fun e w' => ∃ g, e = .returned (.tuple #[.slice (some ⟨g, 0, none⟩) n n, .int .i64 0]) ∧ Aw w' g n n (fun i => clv (rnd (k * f i) 32)) ∧ w.heap.size ≤ g ∧ Below w.heap.size w w' := by
  have hb0 := bel1 w (.cells #[.slice (some ⟨b, o, none⟩) n ca] 23)
  have CK : Hid (Calls Tryd.prog 21 #[.bool true, .slice (some ⟨w.heap.size, 0, none⟩) 1 1] (w.alloc (.cells #[.slice (some ⟨b, o, none⟩) n ca] 23)) fun e w' => e = .returned (.int .i64 0) ∧ w' = (w.alloc (.cells #[.slice (some ⟨b, o, none⟩) n ca] 23))) := by
    have h := check1_any true w (some ⟨b, o, none⟩) n ca (by unfold maxLen; omega)
    rw [if_neg (by omega), if_pos rfl] at h
    exact h
  have CD : Hid (Calls Tryd.prog 25 #[.pointer none, .int .i64 k, .slice (some ⟨b, o, none⟩) n ca] (w.alloc (.cells #[.slice (some ⟨b, o, none⟩) n ca] 23)) fun e w' => e = .returned (.slice (some ⟨(w.alloc (.cells #[.slice (some ⟨b, o, none⟩) n ca] 23)).heap.size + 2, 0, none⟩) n n) ∧ Aw w' ((w.alloc (.cells #[.slice (some ⟨b, o, none⟩) n ca] 23)).heap.size + 2) n n (fun i => clv (rnd (k * f i) 32)) ∧ Below (w.alloc (.cells #[.slice (some ⟨b, o, none⟩) n ca] 23)).heap.size (w.alloc (.cells #[.slice (some ⟨b, o, none⟩) n ca] 23)) w') := scaledF_nil k k0 k1 _ n f (by omega) _ (hA.later hb0)
  rw [World.size_alloc] at CD
  clear hA
  go_enter Tryd.func11, Tryd.ntmps11
  go_wp2_with fail
  refine CK.out.mono ?_
  rintro e w1 ⟨rfl, hz⟩
  subst hz
  clear CK
  go_wp2_with fail
  refine CD.out.mono ?_
  rintro e w3 ⟨rfl, hX, hU⟩
  rw [← World.size_alloc] at hU
  have HX : Hid (Aw w3 (w.heap.size + 1 + 2) n n (fun i => clv (rnd (k * f i) 32))) := hX
  have HU : Hid (Below w.heap.size w w3) := bchain hb0 hU
  clear hU hX CD hb0
  go_wp2
  go_ret2
  exact ⟨_, rfl, HX.out, by omega, HU.out⟩

set_option maxHeartbeats 4000000 in
theorem ClipF_nil (most : Int) (b o ca n : Nat) (f : Nat → Int) (w : World) (m0 : -9223372036854775808 ≤ most) (m1 : most ≤ 9223372036854775807) (hn : n ≤ 65536) (hA : Ar w (.slice (some ⟨b, o, none⟩) n ca) n f) :
    Calls Tryd.prog 12 #[.pointer none, .slice (some ⟨b, o, none⟩) n ca, .int .i64 most] w fun e w' => ∃ (g cap : Nat) (B : Bool), e = .returned (.tuple #[.slice (some ⟨g, 0, none⟩) n cap, .bool B, .int .i64 0]) ∧ (∃ F, Aw w' g n cap F) ∧ w.heap.size ≤ g ∧ Below w.heap.size w w' := by
  have hb0 := bel1 w (.cells #[.slice (some ⟨b, o, none⟩) n ca] 23)
  have CK : Hid (Calls Tryd.prog 21 #[.bool true, .slice (some ⟨w.heap.size, 0, none⟩) 1 1] (w.alloc (.cells #[.slice (some ⟨b, o, none⟩) n ca] 23)) fun e w' => e = .returned (.int .i64 0) ∧ w' = (w.alloc (.cells #[.slice (some ⟨b, o, none⟩) n ca] 23))) := by
    have h := check1_any true w (some ⟨b, o, none⟩) n ca (by unfold maxLen; omega)
    rw [if_neg (by omega), if_pos rfl] at h
    exact h
  have HA1 : Hid (Ar (w.alloc (.cells #[.slice (some ⟨b, o, none⟩) n ca] 23)) (.slice (some ⟨b, o, none⟩) n ca) n f) := hA.later hb0
  have HU1 : Hid (Below w.heap.size w (w.alloc (.cells #[.slice (some ⟨b, o, none⟩) n ca] 23))) := hb0
  have CC : Hid (∀ W : World, Ar W (.slice (some ⟨b, o, none⟩) n ca) n f → Calls Tryd.prog 26 #[.slice (some ⟨b, o, none⟩) n ca] W fun e w' => ∃ (g cap : Nat), e = .returned (.slice (some ⟨g, 0, none⟩) n cap) ∧ Aw w' g n cap f ∧ W.heap.size ≤ g ∧ Below W.heap.size W w') := fun W h => cloneF_any b o ca n f (by omega) W h
  clear hA hb0
  by_cases h0 : 0 < most
  · have h0' : ¬ most ≤ 0 := by omega
    have CN : Hid (∀ W : World, Ar W (.slice (some ⟨b, o, none⟩) n ca) n f → Calls Tryd.prog 24 #[.pointer none, .slice (some ⟨b, o, none⟩) n ca] W fun e w' => e = .returned (.int .i64 (rtX (dotV f f n))) ∧ Below W.heap.size W w') := fun W h => vnorm_nil _ n f (by omega) W h
    obtain ⟨N0, N1⟩ := rtX_rng (dotV f f n)
    generalize rtX (dotV f f n) = N at *
    go_enter Tryd.func12, Tryd.ntmps12
    go_wp2_with fail
    refine CK.out.mono ?_
    rintro e w1 ⟨rfl, hz⟩
    subst hz
    clear CK
    go_wp2_with fail
    refine (CN.out _ HA1.out).mono ?_
    rintro e w2 ⟨rfl, h2⟩
    have HA2 : Hid (Ar w2 (.slice (some ⟨b, o, none⟩) n ca) n f) := HA1.out.later h2
    have HU2 : Hid (Below w.heap.size w w2) := bchain HU1.out h2
    clear h2 CN HA1 HU1
    by_cases h1 : most < N
    · have h1' : ¬ N ≤ most := by omega
      have CD : Hid (∀ W : World, Calls Tryd.prog 27 #[.pointer none, .int .i64 most, .int .i64 N] W fun e w' => e = .returned (.int .i64 (qv (most * 4294967296) N)) ∧ Below W.heap.size W w') := fun W => uDiv_nil most N m0 m1 (by omega) (by omega) W
      obtain ⟨K0, K1⟩ := qv_rng (most * 4294967296) N
      have CS : Hid (∀ W : World, Ar W (.slice (some ⟨b, o, none⟩) n ca) n f → Calls Tryd.prog 25 #[.pointer none, .int .i64 (qv (most * 4294967296) N), .slice (some ⟨b, o, none⟩) n ca] W fun e w' => e = .returned (.slice (some ⟨W.heap.size + 2, 0, none⟩) n n) ∧ Aw w' (W.heap.size + 2) n n (fun i => clv (rnd (qv (most * 4294967296) N * f i) 32)) ∧ Below W.heap.size W w') := fun W h => scaledF_nil _ K0 K1 _ n f (by omega) W h
      generalize qv (most * 4294967296) N = K at *
      go_wp2_with fail
      refine (CD.out _).mono ?_
      rintro e w3 ⟨rfl, h3⟩
      have HA3 : Hid (Ar w3 (.slice (some ⟨b, o, none⟩) n ca) n f) := HA2.out.later h3
      have HU3 : Hid (Below w.heap.size w w3) := bchain HU2.out h3
      clear h3 CD HA2 HU2 CC
      go_wp2_with fail
      refine (CS.out _ HA3.out).mono ?_
      rintro e w4 ⟨rfl, hX, h4⟩
      have HX : Hid (Aw w4 (w3.heap.size + 2) n n (fun i => clv (rnd (K * f i) 32))) := hX
      have HU4 : Hid (Below w.heap.size w w4) := bchain HU3.out h4
      have hs3 : w.heap.size ≤ w3.heap.size := HU3.out.size
      clear h4 CS HA3 HU3 hX
      go_wp2
      go_ret3
      exact ⟨_, _, _, rfl, ⟨_, HX.out⟩, by omega, HU4.out⟩
    · have h1' : N ≤ most := by omega
      go_wp2_with fail
      refine (CC.out _ HA2.out).mono ?_
      rintro e w4 ⟨g, cap, rfl, hX, hg, h4⟩
      have HX : Hid (Aw w4 g n cap f ∧ w.heap.size ≤ g) := ⟨hX, Nat.le_trans HU2.out.size hg⟩
      have HU4 : Hid (Below w.heap.size w w4) := bchain HU2.out h4
      clear h4 CC HA2 HU2 hX hg
      go_wp2
      go_ret3
      exact ⟨g, cap, _, rfl, ⟨_, HX.out.1⟩, HX.out.2, HU4.out⟩
  · have h0' : most ≤ 0 := by omega
    go_enter Tryd.func12, Tryd.ntmps12
    go_wp2_with fail
    refine CK.out.mono ?_
    rintro e w1 ⟨rfl, hz⟩
    subst hz
    clear CK
    have HA2 := HA1
    have HU2 := HU1
    clear HA1 HU1
    go_wp2_with fail
    refine (CC.out _ HA2.out).mono ?_
    rintro e w4 ⟨g, cap, rfl, hX, hg, h4⟩
    have HX : Hid (Aw w4 g n cap f ∧ w.heap.size ≤ g) := ⟨hX, Nat.le_trans HU2.out.size hg⟩
    have HU4 : Hid (Below w.heap.size w w4) := bchain HU2.out h4
    clear h4 CC HA2 HU2 hX hg
    go_wp2
    go_ret3
    exact ⟨g, cap, _, rfl, ⟨_, HX.out.1⟩, HX.out.2, HU4.out⟩

end Go.Proofs.YtldnnjcfihjkdabDoor
