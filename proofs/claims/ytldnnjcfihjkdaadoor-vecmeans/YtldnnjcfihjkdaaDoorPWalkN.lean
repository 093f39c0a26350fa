/-
  The contracts of vec's each over a matrix's rows, of dots, and of MatVec.
-/
import Derived.Test.YtldnnjcfihjkdaaDoorPWalkM
import Derived.Test.YtldnnjcfihjkdaaDoorPWalkK
set_option linter.unusedVariables false
set_option linter.unusedSimpArgs false
namespace Go.Proofs.YtldnnjcfihjkdaaDoor
open Go.RowKit


set_option maxRecDepth 100000 in
set_option maxHeartbeats 4000000 in
theorem each_dots (p q : Value) (S : Nat → World → Prop) (g cap b o c n : Nat) (F : Nat → Int) (w : World) (hn : n ≤ 70000) (hnc : n ≤ cap) (hcap : cap ≤ maxLen)
    (S0 : S 0 w) (SL : ∀ j W W', S j W → Below W.heap.size W W' → S j W') (SS : ∀ j W (a : Addr) u, w.heap.size ≤ a.block → S j W → S j (W.setCell a u)) (SA : ∀ j W, S j W → Rw g n (fun k => .slice (some ⟨b, o + k * c, none⟩) c c) W) (hF : ∀ k, k < n → -9223372036854775808 ≤ F k ∧ F k ≤ 9223372036854775807)
    (HS : ∀ j W, j < n → w.heap.size < W.heap.size → S j W → Calls Tryd.prog 119 #[.slice (some ⟨b, o + j * c, none⟩) c c, p, q] W fun e w' => e = .returned (.int .i64 (F j)) ∧ S (j + 1) w' ∧ w'.heap[w.heap.size]? = W.heap[w.heap.size]? ∧ W.heap.size ≤ w'.heap.size) :
    Calls Tryd.prog 118 #[.slice (some ⟨g, 0, none⟩) n cap, .func (.func 119) #[] #[p, q]] w fun e w' => e = .returned (.slice (some ⟨w.heap.size, 0, none⟩) n n) ∧ S n w' ∧ Ar w' (.slice (some ⟨w.heap.size, 0, none⟩) n n) n F := by
  unfold maxLen at *
  have hmk := make_fx n (by omega)
  have hR0 := Rw.made w (.int .i64 0) n 33
  have hS0 : Hid (S 0 (w.alloc (.cells (madeCells #[.int .i64 0] n) 33))) := SL 0 _ _ S0 (bel1 _ _)
  have hz0 : w.heap.size < (w.alloc (.cells (madeCells #[.int .i64 0] n) 33)).heap.size := by rw [World.size_alloc]; omega
  have HSA : Hid (∀ j W, S j W → Rw g n (fun k => .slice (some ⟨b, o + k * c, none⟩) c c) W) := SA
  have HHS : Hid (∀ j W, j < n → w.heap.size < W.heap.size → S j W → Calls Tryd.prog 119 #[.slice (some ⟨b, o + j * c, none⟩) c c, p, q] W fun e w' => e = .returned (.int .i64 (F j)) ∧ S (j + 1) w' ∧ w'.heap[w.heap.size]? = W.heap[w.heap.size]? ∧ W.heap.size ≤ w'.heap.size) := HS
  have HSS : Hid (∀ j W (a : Addr) u, w.heap.size ≤ a.block → S j W → S j (W.setCell a u)) := SS
  have HF : Hid (∀ k, k < n → -9223372036854775808 ≤ F k ∧ F k ≤ 9223372036854775807) := hF
  clear SA HS SS SL S0 hF
  go_enter Tryd.func118, Tryd.ntmps118
  go_upto_region 3 with fail
  generalize w.alloc (.cells (madeCells #[.int .i64 0] n) 33) = w0 at *
  clear hmk
  go_loopw [13] (fun si wr => ∃ j : Nat, j ≤ n ∧ si = .int .i64 (j : Int) ∧ Hid (S j wr) ∧ Hid (Rw w.heap.size n (fun k => if k < j then .int .i64 (F k) else .int .i64 0) wr) ∧ w.heap.size < wr.heap.size) (fun si _ => n - (intOf si).toNat)
  case atStart =>
    exact ⟨0, by omega, rfl, hS0, hR0.congr (fun k hk => by simp), hz0⟩
  case round =>
    obtain ⟨j, hj, rfl, hS, hR, hz⟩ := hrel
    by_cases hlt : j < n
    · have hjI : (j : Int) < (n : Int) := by omega
      have cA := (HSA.out j wr hS.out).c j hlt
      have CM : Hid (Calls Tryd.prog 119 #[.slice (some ⟨b, o + j * c, none⟩) c c, p, q] wr fun e w' => e = .returned (.int .i64 (F j)) ∧ S (j + 1) w' ∧ w'.heap[w.heap.size]? = wr.heap[w.heap.size]? ∧ wr.heap.size ≤ w'.heap.size) := HHS.out j wr hlt hz hS.out
      generalize o + j * c = oj at *
      clear hS
      go_wp2_with (go_at_call 119; refine CM.out.mono ?_; rintro e wz ⟨rfl, hSz, hbz, hsz⟩; have HSz : Hid (S (j + 1) wz) := hSz; have HRz := hR.out.block hbz; have cz : wz.cell? ⟨w.heap.size, j, none⟩ = some (.int .i64 0) := (by have := HRz.c j hlt; rw [if_neg (by omega)] at this; exact this); have fz := HRz.f j hlt; replace HRz : Hid (Rw _ _ _ _) := HRz; clear hSz hbz hR cA)
      have hS2 : Hid (S (j + 1) (wz.setCell ⟨w.heap.size, j, none⟩ (.int .i64 (F j)))) := HSS.out _ _ _ _ (Nat.le_refl _) HSz.out
      have hR2 : Hid (Rw w.heap.size n (fun k => if k < j + 1 then .int .i64 (F k) else .int .i64 0) (wz.setCell ⟨w.heap.size, j, none⟩ (.int .i64 (F j)))) := (HRz.out.set j (.int .i64 (F j))).congr (fun k hk => by
        by_cases e : k = j
        · subst e; simp
        · rw [if_neg e]
          by_cases e2 : k < j
          · rw [if_pos e2, if_pos (by omega)]
          · rw [if_neg e2, if_neg (by omega)])
      have hz2 : w.heap.size < (wz.setCell ⟨w.heap.size, j, none⟩ (.int .i64 (F j))).heap.size := by rw [World.size_setCell]; omega
      go_roundw
      case rel => exact ⟨j + 1, by omega, by go_num, hS2, hR2, hz2⟩
      case measure => simp [intOf]; omega
    · obtain rfl : j = n := by omega
      have hjI : ¬ (j : Int) < (j : Int) := by omega
      have hAr : Hid (Ar wr (.slice (some ⟨w.heap.size, 0, none⟩) j j) j F) := (hR.out.congr (fun k hk => by rw [if_pos hk])).ar (by omega) HF.out
      clear hR
      go_wp2
      go_ret
      exact ⟨rfl, hS.out, hAr.out⟩
theorem ar_row {w : World} {b o n cap : Nat} {f : Nat → Int} (h : Ar w (.slice (some ⟨b, o, none⟩) n cap) n f) (p c : Nat) (hp : p + c ≤ n) : Ar w (.slice (some ⟨b, o + p, none⟩) c c) c (fun k => f (p + k)) := by
  obtain ⟨ad, ca, b', o', e, h1, h2, h3, h4⟩ := h
  cases e
  refine ⟨_, _, b, o + p, rfl, Nat.le_refl _, by omega, fun _ => rfl, fun k hk => ?_⟩
  have e3 := h3 (by omega)
  cases e3
  have := h4 (p + k) (by omega)
  rw [Nat.add_assoc]
  exact this
theorem nb_row {b o n cap d p c : Nat} (h : Nb (.slice (some ⟨b, o, none⟩) n cap) d) (hn : 0 < n) : Nb (.slice (some ⟨b, o + p, none⟩) c c) d := fun a n' c' e hn' => by cases e; show b ≠ d; exact h ⟨b, o, none⟩ n cap rfl hn
theorem TabAt.un {w w' : World} {d : Nat} {c n : Int} (h : TabAt w) (hc : w.cell? ⟨d, 0, none⟩ = some (.int .i64 c)) (hU : Un d n w w') : TabAt w' := fun j hj => hU.o _ _ (fun e => by
    dsimp only at e
    have h0 := h 0 (by omega)
    rw [e, hc] at h0
    cases h0) (h j hj)

set_option maxHeartbeats 1000000 in
theorem dots1_un (va vb : Value) (n : Nat) (f g : Nat → Int) (hn : n ≤ 70000) (bu bx : Nat) (d : Nat) (c : Int) (c0 : 0 ≤ c) (c1 : c ≤ 1000000000) (w : World) (hT : TabAt w) (hA : Ar w va n f) (hB : Ar w vb n g) (hc : w.cell? ⟨d, 0, none⟩ = some (.int .i64 c)) (hf : w.frozen? ⟨d, 0, none⟩ = false) (cu : w.cell? ⟨bu, 0, none⟩ = some (.pointer (some ⟨d, 0, none⟩))) (cx : w.cell? ⟨bx, 0, none⟩ = some vb) :
    Calls Tryd.prog 119 #[va, .pointer (some ⟨bu, 0, none⟩), .pointer (some ⟨bx, 0, none⟩)] w fun e w' => e = .returned (.int .i64 (clv (rr (dotV f g n) 32))) ∧ Un d (c + bi (ovv (rr (dotV f g n) 32))) w w' := by
  have CD : Hid (Calls Tryd.prog 47 #[.pointer (some ⟨d, 0, none⟩), va, vb] w fun e w' => e = .returned (.int .i64 (clv (rr (dotV f g n) 32))) ∧ Un d (c + bi (ovv (rr (dotV f g n) 32))) w w') := vdot_un va vb n f g hn d c c0 c1 w hT hA hB hc hf
  obtain ⟨z0, z1⟩ := clv_fit (rr (dotV f g n) 32)
  generalize clv (rr (dotV f g n) 32) = X at *
  obtain ⟨ad, ca, b, o, rfl, -, -, -, -⟩ := hA
  obtain ⟨adq, caq, bq, oq, rfl, -, -, -, -⟩ := hB
  clear hT hc hf
  go_enter Tryd.func119, Tryd.ntmps119
  go_wp2_with fail
  refine CD.out.mono ?_
  rintro e w1 ⟨rfl, hU⟩
  clear CD cu cx
  go_wp2
  go_ret
  exact ⟨rfl, hU⟩

set_option maxHeartbeats 1000000 in
theorem dots1_nil (va vb : Value) (n : Nat) (f g : Nat → Int) (hn : n ≤ 70000) (bu bx : Nat) (w : World) (hT : TabAt w) (hA : Ar w va n f) (hB : Ar w vb n g) (cu : w.cell? ⟨bu, 0, none⟩ = some (.pointer none)) (cx : w.cell? ⟨bx, 0, none⟩ = some vb) :
    Calls Tryd.prog 119 #[va, .pointer (some ⟨bu, 0, none⟩), .pointer (some ⟨bx, 0, none⟩)] w fun e w' => e = .returned (.int .i64 (clv (rr (dotV f g n) 32))) ∧ Below w.heap.size w w' := by
  have CD : Hid (Calls Tryd.prog 47 #[.pointer none, va, vb] w fun e w' => e = .returned (.int .i64 (clv (rr (dotV f g n) 32))) ∧ Below w.heap.size w w') := vdot_nil va vb n f g hn w hT hA hB
  obtain ⟨z0, z1⟩ := clv_fit (rr (dotV f g n) 32)
  generalize clv (rr (dotV f g n) 32) = X at *
  obtain ⟨ad, ca, b, o, rfl, -, -, -, -⟩ := hA
  obtain ⟨adq, caq, bq, oq, rfl, -, -, -, -⟩ := hB
  clear hT
  go_enter Tryd.func119, Tryd.ntmps119
  go_wp2_with fail
  refine CD.out.mono ?_
  rintro e w1 ⟨rfl, hU⟩
  clear CD cu cx
  go_wp2
  go_ret
  exact ⟨rfl, hU⟩

set_option maxHeartbeats 4000000 in
theorem dots_un (g cap b o ca r c : Nat) (f gx : Nat → Int) (vx : Value) (hr1 : 1 ≤ r) (hc1 : 1 ≤ c) (hrc : r * c ≤ 65536) (hrc' : r ≤ cap) (hcap : cap ≤ maxLen) (d : Nat) (kc : Int) (c0 : 0 ≤ kc) (c1 : kc ≤ 900000000) (w : World) (hT : TabAt w) (hRw : Rw g r (fun k => .slice (some ⟨b, o + k * c, none⟩) c c) w) (hA : Ar w (.slice (some ⟨b, o, none⟩) (r * c) ca) (r * c) f) (hX : Ar w vx c gx) (ha : Nb (.slice (some ⟨b, o, none⟩) (r * c) ca) d) (hx : Nb vx d) (hR : g ≠ d) (hc : w.cell? ⟨d, 0, none⟩ = some (.int .i64 kc)) (hf : w.frozen? ⟨d, 0, none⟩ = false) :
    Calls Tryd.prog 71 #[.pointer (some ⟨d, 0, none⟩), .slice (some ⟨g, 0, none⟩) r cap, vx] w fun e w' => e = .returned (.slice (some ⟨w.heap.size + 2, 0, none⟩) r r) ∧ Ar w' (.slice (some ⟨w.heap.size + 2, 0, none⟩) r r) r (mvX f gx c) ∧ Un d (kc + cntV (mvO f gx c) r) w w' := by
  have hmf := hmf_any
  have hr2 : r ≤ 65536 := Nat.le_trans (Nat.le_mul_of_pos_right r hc1) hrc
  have hc2 : c ≤ 65536 := Nat.le_trans (Nat.le_mul_of_pos_left c hr1) hrc
  obtain ⟨adx, cx, bx, ox, rfl, -, -, -, -⟩ := id hX
  have hb0 := bel2 w (.cells #[.pointer (some ⟨d, 0, none⟩)] 25) (.cells #[.slice adx c cx] 22)
  have cu : ((w.alloc (.cells #[.pointer (some ⟨d, 0, none⟩)] 25)).alloc (.cells #[.slice adx c cx] 22)).cell? ⟨w.heap.size, 0, none⟩ = some (.pointer (some ⟨d, 0, none⟩)) := cell_later (bel1 _ _) (cell_new1 w _ _)
  have ck : ((w.alloc (.cells #[.pointer (some ⟨d, 0, none⟩)] 25)).alloc (.cells #[.slice adx c cx] 22)).cell? ⟨w.heap.size + 1, 0, none⟩ = some (.slice adx c cx) := by have h := cell_new1 (w.alloc (.cells #[.pointer (some ⟨d, 0, none⟩)] 25)) (.slice adx c cx) 22; rw [World.size_alloc] at h; exact h
  have hsz : ((w.alloc (.cells #[.pointer (some ⟨d, 0, none⟩)] 25)).alloc (.cells #[.slice adx c cx] 22)).heap.size = w.heap.size + 2 := by simp
  have hmul : ∀ j, j < r → j * c + c ≤ r * c := fun j hj => mv_step j r c hj
  have CE : Hid (Calls Tryd.prog 118 #[.slice (some ⟨g, 0, none⟩) r cap, .func (.func 119) #[] #[.pointer (some ⟨w.heap.size, 0, none⟩), .pointer (some ⟨w.heap.size + 1, 0, none⟩)]] ((w.alloc (.cells #[.pointer (some ⟨d, 0, none⟩)] 25)).alloc (.cells #[.slice adx c cx] 22)) fun e w' => e = .returned (.slice (some ⟨w.heap.size + 2, 0, none⟩) r r) ∧ Ar w' (.slice (some ⟨w.heap.size + 2, 0, none⟩) r r) r (mvX f gx c) ∧ Un d (kc + cntV (mvO f gx c) r) w w') := by
    have hd := World.block_lt_of_cell? _ _ hc
    dsimp only at hd
    have hc2' := cell_later hb0 hc
    have hf2 := frozen_later hb0 hc hf
    have hg : g < w.heap.size := World.block_lt_of_cell? _ _ (hRw.c 0 (by omega))
    have h := each_dots (.pointer (some ⟨w.heap.size, 0, none⟩)) (.pointer (some ⟨w.heap.size + 1, 0, none⟩)) (fun j W => Un d (kc + cntV (mvO f gx c) j) ((w.alloc (.cells #[.pointer (some ⟨d, 0, none⟩)] 25)).alloc (.cells #[.slice adx c cx] 22)) W) g cap b o c r (mvX f gx c) ((w.alloc (.cells #[.pointer (some ⟨d, 0, none⟩)] 25)).alloc (.cells #[.slice adx c cx] 22)) (by omega) hrc' hcap (by simpa [cntV] using Un.same hc2' hf2) (fun j W W' h hb => h.ahead hb) (fun j W a x hx h => h.setnew a x (by rw [hsz]; omega) hx) (fun j W h => (hRw.later hb0).block (h.k g (by rw [hsz]; omega) hR)) (fun j _ => clv_fit _) (fun j W hj hW h => by
      have r' := cnt_rng (mvO f gx c) j
      have hm := hmul j hj
      refine (dots1_un _ (.slice adx c cx) c (fun k => f (j * c + k)) gx (by omega) w.heap.size (w.heap.size + 1) d _ (by omega) (by omega) W ((hT.later hb0).un hc2' h) ((ar_row (hA.later hb0) (j * c) c hm).un (nb_row ha (by omega)) h) ((hX.later hb0).un hx h) h.c h.f (h.o _ _ (by dsimp only; omega) cu) (h.o _ _ (by dsimp only; omega) ck)).mono ?_
      rintro e w' ⟨rfl, hU⟩
      refine ⟨rfl, ?_, hU.k _ (by omega) (by rw [hsz]; omega), hU.s⟩
      have e1 : kc + cntV (mvO f gx c) (j + 1) = kc + cntV (mvO f gx c) j + bi (ovv (rr (dotV (fun k => f (j * c + k)) gx c) 32)) := by rw [Int.add_assoc]; rfl
      show Un d (kc + cntV (mvO f gx c) (j + 1)) _ w'
      rw [e1]
      exact h.chain hU)
    refine h.mono ?_
    rintro e w' ⟨rfl, hS, hX'⟩
    rw [hsz] at hX' ⊢
    exact ⟨rfl, hX', Un.after hb0 hS⟩
  clear cu ck hb0 hsz hT hRw hA hX hmul ha hx hc hf hR
  unfold maxLen at hcap
  go_enter Tryd.func71, Tryd.ntmps71
  go_wp2_with fail
  refine CE.out.mono ?_
  rintro e w' ⟨rfl, hX, hU⟩
  have HX : Hid (Ar w' (.slice (some ⟨w.heap.size + 2, 0, none⟩) r r) r (mvX f gx c)) := hX
  clear CE hX
  go_wp2
  go_ret
  exact ⟨rfl, HX.out, hU⟩

set_option maxHeartbeats 4000000 in
theorem dots_nil (g cap b o ca r c : Nat) (f gx : Nat → Int) (vx : Value) (hr1 : 1 ≤ r) (hc1 : 1 ≤ c) (hrc : r * c ≤ 65536) (hrc' : r ≤ cap) (hcap : cap ≤ maxLen) (w : World) (hT : TabAt w) (hRw : Rw g r (fun k => .slice (some ⟨b, o + k * c, none⟩) c c) w) (hA : Ar w (.slice (some ⟨b, o, none⟩) (r * c) ca) (r * c) f) (hX : Ar w vx c gx) :
    Calls Tryd.prog 71 #[.pointer none, .slice (some ⟨g, 0, none⟩) r cap, vx] w fun e w' => e = .returned (.slice (some ⟨w.heap.size + 2, 0, none⟩) r r) ∧ Ar w' (.slice (some ⟨w.heap.size + 2, 0, none⟩) r r) r (mvX f gx c) ∧ Below w.heap.size w w' := by
  have hmf := hmf_any
  have hr2 : r ≤ 65536 := Nat.le_trans (Nat.le_mul_of_pos_right r hc1) hrc
  have hc2 : c ≤ 65536 := Nat.le_trans (Nat.le_mul_of_pos_left c hr1) hrc
  obtain ⟨adx, cx, bx, ox, rfl, -, -, -, -⟩ := id hX
  have hb0 := bel2 w (.cells #[.pointer none] 25) (.cells #[.slice adx c cx] 22)
  have cu : ((w.alloc (.cells #[.pointer none] 25)).alloc (.cells #[.slice adx c cx] 22)).cell? ⟨w.heap.size, 0, none⟩ = some (.pointer none) := cell_later (bel1 _ _) (cell_new1 w _ _)
  have ck : ((w.alloc (.cells #[.pointer none] 25)).alloc (.cells #[.slice adx c cx] 22)).cell? ⟨w.heap.size + 1, 0, none⟩ = some (.slice adx c cx) := by have h := cell_new1 (w.alloc (.cells #[.pointer none] 25)) (.slice adx c cx) 22; rw [World.size_alloc] at h; exact h
  have hsz : ((w.alloc (.cells #[.pointer none] 25)).alloc (.cells #[.slice adx c cx] 22)).heap.size = w.heap.size + 2 := by simp
  have hmul : ∀ j, j < r → j * c + c ≤ r * c := fun j hj => mv_step j r c hj
  have CE : Hid (Calls Tryd.prog 118 #[.slice (some ⟨g, 0, none⟩) r cap, .func (.func 119) #[] #[.pointer (some ⟨w.heap.size, 0, none⟩), .pointer (some ⟨w.heap.size + 1, 0, none⟩)]] ((w.alloc (.cells #[.pointer none] 25)).alloc (.cells #[.slice adx c cx] 22)) fun e w' => e = .returned (.slice (some ⟨w.heap.size + 2, 0, none⟩) r r) ∧ Ar w' (.slice (some ⟨w.heap.size + 2, 0, none⟩) r r) r (mvX f gx c) ∧ Below w.heap.size w w') := by
    have h := each_dots (.pointer (some ⟨w.heap.size, 0, none⟩)) (.pointer (some ⟨w.heap.size + 1, 0, none⟩)) (fun j W => Below ((w.alloc (.cells #[.pointer none] 25)).alloc (.cells #[.slice adx c cx] 22)).heap.size ((w.alloc (.cells #[.pointer none] 25)).alloc (.cells #[.slice adx c cx] 22)) W) g cap b o c r (mvX f gx c) ((w.alloc (.cells #[.pointer none] 25)).alloc (.cells #[.slice adx c cx] 22)) (by omega) hrc' hcap (Below.refl _ _) (fun j W W' h hb => bchain h hb) (fun j W a x hx h => h.setCell hx _) (fun j W h => (hRw.later hb0).later h) (fun j _ => clv_fit _) (fun j W hj hW h => by
      have hm := hmul j hj
      refine (dots1_nil _ (.slice adx c cx) c (fun k => f (j * c + k)) gx (by omega) w.heap.size (w.heap.size + 1) W ((hT.later hb0).later h) ((ar_row (hA.later hb0) (j * c) c hm).later h) ((hX.later hb0).later h) (cell_later h cu) (cell_later h ck)).mono ?_
      rintro e w' ⟨rfl, hb⟩
      exact ⟨rfl, bchain h hb, hb.block _ hW, hb.size⟩)
    refine h.mono ?_
    rintro e w' ⟨rfl, hS, hX'⟩
    rw [hsz] at hX' ⊢
    exact ⟨rfl, hX', bchain hb0 hS⟩
  clear cu ck hb0 hsz hT hRw hA hX hmul
  unfold maxLen at hcap
  go_enter Tryd.func71, Tryd.ntmps71
  go_wp2_with fail
  refine CE.out.mono ?_
  rintro e w' ⟨rfl, hX, hU⟩
  have HX : Hid (Ar w' (.slice (some ⟨w.heap.size + 2, 0, none⟩) r r) r (mvX f gx c)) := hX
  clear CE hX
  go_wp2
  go_ret
  exact ⟨rfl, HX.out, hU⟩

set_option maxHeartbeats 4000000 in
theorem MatVec_un (b o ca r c : Nat) (f gx : Nat → Int) (vx : Value) (hr1 : 1 ≤ r) (hc1 : 1 ≤ c) (hrc : r * c ≤ 65536) (d : Nat) (kc : Int) (c0 : 0 ≤ kc) (c1 : kc ≤ 800000000) (w : World) (hT : TabAt w) (hA : Ar w (.slice (some ⟨b, o, none⟩) (r * c) ca) (r * c) f) (hX : Ar w vx c gx) (ha : Nb (.slice (some ⟨b, o, none⟩) (r * c) ca) d) (hx : Nb vx d) (hc : w.cell? ⟨d, 0, none⟩ = some (.int .i64 kc)) (hf : w.frozen? ⟨d, 0, none⟩ = false) :
    Calls Tryd.prog 34 #[.pointer (some ⟨d, 0, none⟩), .agg #[.int .i64 (r : Int), .int .i64 (c : Int), .slice (some ⟨b, o, none⟩) (r * c) ca], vx] w fun e w' => ∃ g, e = .returned (.tuple #[.slice (some ⟨g, 0, none⟩) r r, .int .i64 0]) ∧ Ar w' (.slice (some ⟨g, 0, none⟩) r r) r (mvX f gx c) ∧ w.heap.size ≤ g ∧ Un d (kc + cntV (mvO f gx c) r) w w' := by
  have hr2 : r ≤ 65536 := Nat.le_trans (Nat.le_mul_of_pos_right r hc1) hrc
  have hc2 : c ≤ 65536 := Nat.le_trans (Nat.le_mul_of_pos_left c hr1) hrc
  obtain ⟨adx, cx, bx, ox, rfl, x1, x2, -, -⟩ := id hX
  obtain ⟨_, _, _, _, e0, y1, y2, -, -⟩ := id hA
  cases e0
  have hmt : mtB (r : Int) (c : Int) (r * c) = true := mt_of (by omega) (by omega) (by rw [← Int.natCast_mul]; omega) (by rw [Int.natCast_mul])
  have CR : Hid (∀ W : World, Calls Tryd.prog 32 #[.agg #[.int .i64 (r : Int), .int .i64 (c : Int), .slice (some ⟨b, o, none⟩) (r * c) ca]] W fun e w' => e = .returned (.bool true) ∧ Below W.heap.size W w') := fun W => by
    have h := Right_any (r : Int) (c : Int) (by omega) (by omega) (by omega) (by omega) (some ⟨b, o, none⟩) (r * c) ca (by omega) W
    rw [hmt] at h
    exact h
  have CRo : Hid (∀ W : World, Calls Tryd.prog 72 #[.agg #[.int .i64 (r : Int), .int .i64 (c : Int), .slice (some ⟨b, o, none⟩) (r * c) ca]] W fun e w' => ∃ g cap', e = .returned (.slice (some ⟨g, 0, none⟩) r cap') ∧ cap' ≤ maxLen ∧ r ≤ cap' ∧ Rw g r (fun k => .slice (some ⟨b, o + k * c, none⟩) c c) w' ∧ W.heap.size ≤ g ∧ Below W.heap.size W w') := fun W => rows_any (r : Int) b o ca r c hc1 hr1 hrc y1 (by unfold maxLen at y2; omega) W
  have D1 := B3.new w (.int .i64 (r : Int)) (.int .i64 (c : Int)) (.slice (some ⟨b, o, none⟩) (r * c) ca) 56
  have HB1 : Hid (Below w.heap.size w (w.alloc (.cells #[.int .i64 (r : Int), .int .i64 (c : Int), .slice (some ⟨b, o, none⟩) (r * c) ca] 56))) := bel1 w _
  have HAX : Hid (Ar w (.slice (some ⟨b, o, none⟩) (r * c) ca) (r * c) f ∧ Ar w (.slice adx c cx) c gx ∧ TabAt w) := ⟨hA, hX, hT⟩
  have HU0 : Hid (Un d kc w w ∧ Nb (.slice (some ⟨b, o, none⟩) (r * c) ca) d ∧ Nb (.slice adx c cx) d) := ⟨Un.same hc hf, ha, hx⟩
  have hd := World.block_lt_of_cell? _ _ hc
  dsimp only at hd
  clear hmt hA hX hT ha hx hc hf
  unfold maxLen at x2 y2
  have hP0 : 1 ≤ r * c := Nat.mul_pos hr1 hc1
  obtain ⟨P, hP⟩ : ∃ P, r * c = P := ⟨_, rfl⟩
  rw [hP] at CR CRo D1 HB1 y1 hrc hP0 ⊢
  have HP : Hid (r * c = P) := hP
  clear hP
  go_enter Tryd.func34, Tryd.ntmps34
  go_wp2_with fail
  refine (CR.out _).mono ?_
  rintro e w2 ⟨rfl, hb2⟩
  have HB2 : Hid (Below w.heap.size w w2) := bchain HB1.out hb2
  have D2 := D1.later hb2
  have y0 := D2.c0
  have y1' := D2.c1
  have y2' := D2.c2
  have CK : Hid (Calls Tryd.prog 46 #[.bool true, .slice (some ⟨w2.heap.size, 0, none⟩) 1 1] (w2.alloc (.cells #[.slice adx c cx] 22)) fun e w' => e = .returned (.int .i64 0) ∧ w' = w2.alloc (.cells #[.slice adx c cx] 22)) := by
    have h := check1_any true w2 adx c cx (by unfold maxLen; omega)
    rw [if_neg (by omega), if_pos rfl] at h
    exact h
  clear hb2 CR D1 HB1
  go_wp2_with fail
  refine CK.out.mono ?_
  rintro e w3 ⟨rfl, hz⟩
  have D3 : B3 w.heap.size (.int .i64 (r : Int)) (.int .i64 (c : Int)) (.slice (some ⟨b, o, none⟩) P ca) w3 := by rw [hz]; exact D2.later (bel1 _ _)
  have HB3 : Hid (Below w.heap.size w w3) := by show Below _ _ _; rw [hz]; exact bchain HB2.out (bel1 _ _)
  clear hz CK HB2 D2 y0 y1' y2'
  have y0 := D3.c0
  have y1' := D3.c1
  have y2' := D3.c2
  go_wp2_with fail
  refine (CRo.out _).mono ?_
  rintro e w4 ⟨g, cap', rfl, h2, h1, hRw, hg, hb4⟩
  have HB4 : Hid (Below w.heap.size w w4) := bchain HB3.out hb4
  have hs3 : w.heap.size ≤ w3.heap.size := HB3.out.size
  have CD : Hid (Calls Tryd.prog 71 #[.pointer (some ⟨d, 0, none⟩), .slice (some ⟨g, 0, none⟩) r cap', .slice adx c cx] w4 fun e w' => e = .returned (.slice (some ⟨w4.heap.size + 2, 0, none⟩) r r) ∧ Ar w' (.slice (some ⟨w4.heap.size + 2, 0, none⟩) r r) r (mvX f gx c) ∧ Un d (kc + cntV (mvO f gx c) r) w4 w') := dots_un g cap' b o ca r c f gx _ hr1 hc1 (by rw [HP.out]; exact hrc) h1 h2 d kc c0 (by omega) w4 (HAX.out.2.2.later HB4.out) hRw (HAX.out.1.later HB4.out) (HAX.out.2.1.later HB4.out) HU0.out.2.1 HU0.out.2.2 (by omega) (HU0.out.1.ahead HB4.out).c (HU0.out.1.ahead HB4.out).f
  unfold maxLen at h2
  clear hb4 hRw hg HB3 D3 y0 y1' y2' CRo
  go_wp2_with fail
  refine CD.out.mono ?_
  rintro e w5 ⟨rfl, hX, hU⟩
  have HX : Hid (Ar w5 (.slice (some ⟨w4.heap.size + 2, 0, none⟩) r r) r (mvX f gx c)) := hX
  have HU : Hid (Un d (kc + cntV (mvO f gx c) r) w w5) := Un.after HB4.out hU
  have hs4 : w.heap.size ≤ w4.heap.size := HB4.out.size
  clear hX hU CD HB4 HAX
  go_wp2
  go_ret2
  exact ⟨_, rfl, HX.out, by omega, HU.out⟩

set_option maxHeartbeats 4000000 in
theorem MatVec_nil (b o ca r c : Nat) (f gx : Nat → Int) (vx : Value) (hr1 : 1 ≤ r) (hc1 : 1 ≤ c) (hrc : r * c ≤ 65536) (w : World) (hT : TabAt w) (hA : Ar w (.slice (some ⟨b, o, none⟩) (r * c) ca) (r * c) f) (hX : Ar w vx c gx) :
    Calls Tryd.prog 34 #[.pointer none, .agg #[.int .i64 (r : Int), .int .i64 (c : Int), .slice (some ⟨b, o, none⟩) (r * c) ca], vx] w fun e w' => ∃ g, e = .returned (.tuple #[.slice (some ⟨g, 0, none⟩) r r, .int .i64 0]) ∧ Ar w' (.slice (some ⟨g, 0, none⟩) r r) r (mvX f gx c) ∧ w.heap.size ≤ g ∧ Below w.heap.size w w' := by
  have hr2 : r ≤ 65536 := Nat.le_trans (Nat.le_mul_of_pos_right r hc1) hrc
  have hc2 : c ≤ 65536 := Nat.le_trans (Nat.le_mul_of_pos_left c hr1) hrc
  obtain ⟨adx, cx, bx, ox, rfl, x1, x2, -, -⟩ := id hX
  obtain ⟨_, _, _, _, e0, y1, y2, -, -⟩ := id hA
  cases e0
  have hmt : mtB (r : Int) (c : Int) (r * c) = true := mt_of (by omega) (by omega) (by rw [← Int.natCast_mul]; omega) (by rw [Int.natCast_mul])
  have CR : Hid (∀ W : World, Calls Tryd.prog 32 #[.agg #[.int .i64 (r : Int), .int .i64 (c : Int), .slice (some ⟨b, o, none⟩) (r * c) ca]] W fun e w' => e = .returned (.bool true) ∧ Below W.heap.size W w') := fun W => by
    have h := Right_any (r : Int) (c : Int) (by omega) (by omega) (by omega) (by omega) (some ⟨b, o, none⟩) (r * c) ca (by omega) W
    rw [hmt] at h
    exact h
  have CRo : Hid (∀ W : World, Calls Tryd.prog 72 #[.agg #[.int .i64 (r : Int), .int .i64 (c : Int), .slice (some ⟨b, o, none⟩) (r * c) ca]] W fun e w' => ∃ g cap', e = .returned (.slice (some ⟨g, 0, none⟩) r cap') ∧ cap' ≤ maxLen ∧ r ≤ cap' ∧ Rw g r (fun k => .slice (some ⟨b, o + k * c, none⟩) c c) w' ∧ W.heap.size ≤ g ∧ Below W.heap.size W w') := fun W => rows_any (r : Int) b o ca r c hc1 hr1 hrc y1 (by unfold maxLen at y2; omega) W
  have D1 := B3.new w (.int .i64 (r : Int)) (.int .i64 (c : Int)) (.slice (some ⟨b, o, none⟩) (r * c) ca) 56
  have HB1 : Hid (Below w.heap.size w (w.alloc (.cells #[.int .i64 (r : Int), .int .i64 (c : Int), .slice (some ⟨b, o, none⟩) (r * c) ca] 56))) := bel1 w _
  have HAX : Hid (Ar w (.slice (some ⟨b, o, none⟩) (r * c) ca) (r * c) f ∧ Ar w (.slice adx c cx) c gx ∧ TabAt w) := ⟨hA, hX, hT⟩
  skip
  skip
  skip
  clear hmt hA hX hT
  unfold maxLen at x2 y2
  have hP0 : 1 ≤ r * c := Nat.mul_pos hr1 hc1
  obtain ⟨P, hP⟩ : ∃ P, r * c = P := ⟨_, rfl⟩
  rw [hP] at CR CRo D1 HB1 y1 hrc hP0 ⊢
  have HP : Hid (r * c = P) := hP
  clear hP
  go_enter Tryd.func34, Tryd.ntmps34
  go_wp2_with fail
  refine (CR.out _).mono ?_
  rintro e w2 ⟨rfl, hb2⟩
  have HB2 : Hid (Below w.heap.size w w2) := bchain HB1.out hb2
  have D2 := D1.later hb2
  have y0 := D2.c0
  have y1' := D2.c1
  have y2' := D2.c2
  have CK : Hid (Calls Tryd.prog 46 #[.bool true, .slice (some ⟨w2.heap.size, 0, none⟩) 1 1] (w2.alloc (.cells #[.slice adx c cx] 22)) fun e w' => e = .returned (.int .i64 0) ∧ w' = w2.alloc (.cells #[.slice adx c cx] 22)) := by
    have h := check1_any true w2 adx c cx (by unfold maxLen; omega)
    rw [if_neg (by omega), if_pos rfl] at h
    exact h
  clear hb2 CR D1 HB1
  go_wp2_with fail
  refine CK.out.mono ?_
  rintro e w3 ⟨rfl, hz⟩
  have D3 : B3 w.heap.size (.int .i64 (r : Int)) (.int .i64 (c : Int)) (.slice (some ⟨b, o, none⟩) P ca) w3 := by rw [hz]; exact D2.later (bel1 _ _)
  have HB3 : Hid (Below w.heap.size w w3) := by show Below _ _ _; rw [hz]; exact bchain HB2.out (bel1 _ _)
  clear hz CK HB2 D2 y0 y1' y2'
  have y0 := D3.c0
  have y1' := D3.c1
  have y2' := D3.c2
  go_wp2_with fail
  refine (CRo.out _).mono ?_
  rintro e w4 ⟨g, cap', rfl, h2, h1, hRw, hg, hb4⟩
  have HB4 : Hid (Below w.heap.size w w4) := bchain HB3.out hb4
  have hs3 : w.heap.size ≤ w3.heap.size := HB3.out.size
  have CD : Hid (Calls Tryd.prog 71 #[.pointer none, .slice (some ⟨g, 0, none⟩) r cap', .slice adx c cx] w4 fun e w' => e = .returned (.slice (some ⟨w4.heap.size + 2, 0, none⟩) r r) ∧ Ar w' (.slice (some ⟨w4.heap.size + 2, 0, none⟩) r r) r (mvX f gx c) ∧ Below w4.heap.size w4 w') := dots_nil g cap' b o ca r c f gx _ hr1 hc1 (by rw [HP.out]; exact hrc) h1 h2 w4 (HAX.out.2.2.later HB4.out) hRw (HAX.out.1.later HB4.out) (HAX.out.2.1.later HB4.out)
  unfold maxLen at h2
  clear hb4 hRw hg HB3 D3 y0 y1' y2' CRo
  go_wp2_with fail
  refine CD.out.mono ?_
  rintro e w5 ⟨rfl, hX, hU⟩
  have HX : Hid (Ar w5 (.slice (some ⟨w4.heap.size + 2, 0, none⟩) r r) r (mvX f gx c)) := hX
  have HU : Hid (Below w.heap.size w w5) := bchain HB4.out hU
  have hs4 : w.heap.size ≤ w4.heap.size := HB4.out.size
  clear hX hU CD HB4 HAX
  go_wp2
  go_ret2
  exact ⟨_, rfl, HX.out, by omega, HU.out⟩

end Go.Proofs.YtldnnjcfihjkdaaDoor
