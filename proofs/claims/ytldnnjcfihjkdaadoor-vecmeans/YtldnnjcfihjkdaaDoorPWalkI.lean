/-
  The contract of vec's Outer.
-/
import Derived.Test.YtldnnjcfihjkdaaDoorPWalkH
import Derived.Test.YtldnnjcfihjkdaaDoorLawVO
set_option linter.unusedVariables false
set_option linter.unusedSimpArgs false
namespace Go.Proofs.YtldnnjcfihjkdaaDoor
open Go.RowKit

/-- One more of a row's places. -/
def upd (h : Nat → Nat) (j b : Nat) : Nat → Nat := fun k => if k = j then b else h k
theorem upd_at (h : Nat → Nat) (j b : Nat) : upd h j b j = b := by unfold upd; simp
theorem upd_lt (h : Nat → Nat) (j b k : Nat) (hk : k < j) : upd h j b k = h k := by unfold upd; rw [if_neg (by omega)]
theorem dinfo_fs : (Tryd.prog.info? 22).map (fun i => (i.zero, i.size, i.bytes)) = some (some (.slice none 0 0), 1, 24) := by kernel_rfl
theorem make_fs (n : Nat) (hn : n ≤ 1000000) (w : World) : (Instr.makeSlice 74 (.int .i64 (n : Int)) (.int .i64 (n : Int))).run Tryd.prog w = .ok (.slice (some ⟨w.heap.size, 0, none⟩) n n) (w.alloc (.cells (madeCells #[.slice none 0 0] n) 22)) := by
  obtain ⟨i0, hi, hz0, hz1, hz2⟩ := info_parts dinfo_fs
  have h := run_make (P := Tryd.prog) w 74 22 i0 (.slice none 0 0) Tryd.underlying74 hi hz0 .i64 .i64 (n : Int) (n : Int) (by omega) (by omega) (by rw [hz2]; omega) (by omega)
  rw [hz1, Nat.mul_one] at h
  exact h

set_option maxRecDepth 100000 in
set_option maxHeartbeats 4000000 in
theorem each_outer (p q : Value) (S : Nat → (Nat → Nat) → World → Prop) (va : Value) (n m : Nat) (f : Nat → Int) (w : World) (hn : n ≤ 70000) (hA : Ar w va n f)
    (S0 : ∀ h, S 0 h w) (SL : ∀ j h W W', S j h W → Below W.heap.size W W' → S j h W') (SS : ∀ j h W (a : Addr) u, w.heap.size = a.block → S j h W → S j h (W.setCell a u)) (SA : ∀ j h W, S j h W → Ar W va n f)
    (HS : ∀ j h W, j < n → w.heap.size < W.heap.size → S j h W → Calls Tryd.prog 76 #[.int .i64 (f j), p, q] W fun e w' => ∃ b, e = .returned (.slice (some ⟨b, 0, none⟩) m m) ∧ S (j + 1) (upd h j b) w' ∧ w'.heap[w.heap.size]? = W.heap[w.heap.size]? ∧ W.heap.size ≤ w'.heap.size) :
    Calls Tryd.prog 75 #[va, .func (.func 76) #[] #[p, q]] w fun e w' => e = .returned (.slice (some ⟨w.heap.size, 0, none⟩) n n) ∧ ∃ h, S n h w' ∧ Rw w.heap.size n (fun k => .slice (some ⟨h k, 0, none⟩) m m) w' := by
  obtain ⟨adr, cap, b, o, rfl, k1, k2, -, -⟩ := id hA
  unfold maxLen at *
  have hmk := make_fs n (by omega)
  have hR0 := Rw.made w (.slice none 0 0) n 22
  have hS0 : Hid (∀ h, S 0 h (w.alloc (.cells (madeCells #[.slice none 0 0] n) 22))) := fun h => SL 0 h _ _ (S0 h) (bel1 _ _)
  have hz0 : w.heap.size < (w.alloc (.cells (madeCells #[.slice none 0 0] n) 22)).heap.size := by rw [World.size_alloc]; omega
  have HSA : Hid (∀ j h W, S j h W → Ar W (.slice adr n cap) n f) := SA
  have HHS : Hid (∀ j h W, j < n → w.heap.size < W.heap.size → S j h W → Calls Tryd.prog 76 #[.int .i64 (f j), p, q] W fun e w' => ∃ b, e = .returned (.slice (some ⟨b, 0, none⟩) m m) ∧ S (j + 1) (upd h j b) w' ∧ w'.heap[w.heap.size]? = W.heap[w.heap.size]? ∧ W.heap.size ≤ w'.heap.size) := HS
  have HSS : Hid (∀ j h W (a : Addr) u, w.heap.size = a.block → S j h W → S j h (W.setCell a u)) := SS
  clear SA HS SS SL S0 hA
  go_enter Tryd.func75, Tryd.ntmps75
  go_upto_region 3 with fail
  generalize w.alloc (.cells (madeCells #[.slice none 0 0] n) 22) = w0 at *
  clear hmk
  go_loopw [13] (fun si wr => ∃ (j : Nat) (h : Nat → Nat), j ≤ n ∧ si = .int .i64 (j : Int) ∧ Hid (S j h wr) ∧ Hid (Rw w.heap.size n (fun k => if k < j then .slice (some ⟨h k, 0, none⟩) m m else .slice none 0 0) wr) ∧ w.heap.size < wr.heap.size) (fun si _ => n - (intOf si).toNat)
  case atStart =>
    exact ⟨0, fun _ => 0, by omega, rfl, hS0.out _, hR0.congr (fun k hk => by simp), hz0⟩
  case round =>
    obtain ⟨j, h, hj, rfl, hS, hR, hz⟩ := hrel
    by_cases hlt : j < n
    · have hjI : (j : Int) < (n : Int) := by omega
      obtain ⟨b, o, rfl, cA, -, -⟩ := (HSA.out j h wr hS.out).at j hlt
      have CM : Hid (Calls Tryd.prog 76 #[.int .i64 (f j), p, q] wr fun e w' => ∃ b, e = .returned (.slice (some ⟨b, 0, none⟩) m m) ∧ S (j + 1) (upd h j b) w' ∧ w'.heap[w.heap.size]? = wr.heap[w.heap.size]? ∧ wr.heap.size ≤ w'.heap.size) := HHS.out j h wr hlt hz hS.out
      clear hS
      go_wp2_with (go_at_call 76; refine CM.out.mono ?_; rintro e wz ⟨bz, rfl, hSz, hbz, hsz⟩; have HSz : Hid (S (j + 1) (upd h j bz) wz) := hSz; have HRz := hR.out.block hbz; have cz : wz.cell? ⟨w.heap.size, j, none⟩ = some (.slice none 0 0) := (by have := HRz.c j hlt; rw [if_neg (by omega)] at this; exact this); have fz := HRz.f j hlt; replace HRz : Hid _ := HRz; clear hSz hbz hR cA)
      have hS2 : Hid (S (j + 1) (upd h j bz) (wz.setCell ⟨w.heap.size, j, none⟩ (.slice (some ⟨bz, 0, none⟩) m m))) := HSS.out _ _ _ _ _ rfl HSz.out
      have hR2 : Hid (Rw w.heap.size n (fun k => if k < j + 1 then .slice (some ⟨upd h j bz k, 0, none⟩) m m else .slice none 0 0) (wz.setCell ⟨w.heap.size, j, none⟩ (.slice (some ⟨bz, 0, none⟩) m m))) := (HRz.out.set j (.slice (some ⟨bz, 0, none⟩) m m)).congr (fun k hk => by
        by_cases e : k = j
        · subst e; rw [if_pos rfl, if_pos (by omega), upd_at]
        · rw [if_neg e]
          by_cases e2 : k < j
          · rw [if_pos e2, if_pos (by omega), upd_lt h j bz k e2]
          · rw [if_neg e2, if_neg (by omega)])
      have hz2 : w.heap.size < (wz.setCell ⟨w.heap.size, j, none⟩ (.slice (some ⟨bz, 0, none⟩) m m)).heap.size := by rw [World.size_setCell]; omega
      go_roundw
      case rel => exact ⟨j + 1, upd h j bz, by omega, by go_num, hS2, hR2, hz2⟩
      case measure => simp [intOf]; omega
    · obtain rfl : j = n := by omega
      have hjI : ¬ (j : Int) < (j : Int) := by omega
      have hAr : Hid (Rw w.heap.size j (fun k => .slice (some ⟨h k, 0, none⟩) m m) wr) := hR.out.congr (fun k hk => by rw [if_pos hk])
      clear hR
      go_wp2
      go_ret
      exact ⟨rfl, h, hS.out, hAr.out⟩

set_option maxHeartbeats 1000000 in
theorem out1_un (k : Int) (k0 : -9223372036854775808 ≤ k) (k1 : k ≤ 9223372036854775807) (va : Value) (n : Nat) (f : Nat → Int) (hn : n ≤ 70000) (bu bl : Nat) (d : Nat) (c : Int) (c0 : 0 ≤ c) (c1 : c ≤ 900000000) (w : World) (hA : Ar w va n f) (ha : Nb va d) (hc : w.cell? ⟨d, 0, none⟩ = some (.int .i64 c)) (hf : w.frozen? ⟨d, 0, none⟩ = false) (cu : w.cell? ⟨bu, 0, none⟩ = some (.pointer (some ⟨d, 0, none⟩))) (cl : w.cell? ⟨bl, 0, none⟩ = some va) :
    Calls Tryd.prog 76 #[.int .i64 k, .pointer (some ⟨bu, 0, none⟩), .pointer (some ⟨bl, 0, none⟩)] w fun e w' => e = .returned (.slice (some ⟨w.heap.size + 2, 0, none⟩) n n) ∧ Ar w' (.slice (some ⟨w.heap.size + 2, 0, none⟩) n n) n (fun i => clv (rnd (k * f i) 32)) ∧ Un d (c + cntV (fun i => ovv (rnd (k * f i) 32)) n) w w' := by
  have CS : Hid (Calls Tryd.prog 56 #[.pointer (some ⟨d, 0, none⟩), .int .i64 k, va] w fun e w' => e = .returned (.slice (some ⟨w.heap.size + 2, 0, none⟩) n n) ∧ Ar w' (.slice (some ⟨w.heap.size + 2, 0, none⟩) n n) n (fun i => clv (rnd (k * f i) 32)) ∧ Un d (c + cntV (fun i => ovv (rnd (k * f i) 32)) n) w w') := scaled_un k k0 k1 va n f hn d c c0 c1 w hA ha hc hf
  obtain ⟨adr, cap, b, o, rfl, -, -, -, -⟩ := hA
  clear ha hc hf
  go_enter Tryd.func76, Tryd.ntmps76
  go_wp2_with fail
  refine CS.out.mono ?_
  rintro e w1 ⟨rfl, hX, hU⟩
  have HX : Hid (Ar w1 (.slice (some ⟨w.heap.size + 2, 0, none⟩) n n) n (fun i => clv (rnd (k * f i) 32))) := hX
  clear CS cu cl hX
  go_wp2
  go_ret
  exact ⟨rfl, HX.out, hU⟩

set_option maxHeartbeats 1000000 in
theorem out1_nil (k : Int) (k0 : -9223372036854775808 ≤ k) (k1 : k ≤ 9223372036854775807) (va : Value) (n : Nat) (f : Nat → Int) (hn : n ≤ 70000) (bu bl : Nat) (w : World) (hA : Ar w va n f) (cu : w.cell? ⟨bu, 0, none⟩ = some (.pointer none)) (cl : w.cell? ⟨bl, 0, none⟩ = some va) :
    Calls Tryd.prog 76 #[.int .i64 k, .pointer (some ⟨bu, 0, none⟩), .pointer (some ⟨bl, 0, none⟩)] w fun e w' => e = .returned (.slice (some ⟨w.heap.size + 2, 0, none⟩) n n) ∧ Ar w' (.slice (some ⟨w.heap.size + 2, 0, none⟩) n n) n (fun i => clv (rnd (k * f i) 32)) ∧ Below w.heap.size w w' := by
  have CS : Hid (Calls Tryd.prog 56 #[.pointer none, .int .i64 k, va] w fun e w' => e = .returned (.slice (some ⟨w.heap.size + 2, 0, none⟩) n n) ∧ Ar w' (.slice (some ⟨w.heap.size + 2, 0, none⟩) n n) n (fun i => clv (rnd (k * f i) 32)) ∧ Below w.heap.size w w') := scaled_nil k k0 k1 va n f hn w hA
  obtain ⟨adr, cap, b, o, rfl, -, -, -, -⟩ := hA
  skip
  go_enter Tryd.func76, Tryd.ntmps76
  go_wp2_with fail
  refine CS.out.mono ?_
  rintro e w1 ⟨rfl, hX, hU⟩
  have HX : Hid (Ar w1 (.slice (some ⟨w.heap.size + 2, 0, none⟩) n n) n (fun i => clv (rnd (k * f i) 32))) := hX
  clear CS cu cl hX
  go_wp2
  go_ret
  exact ⟨rfl, HX.out, hU⟩

set_option maxRecDepth 100000 in
set_option maxHeartbeats 8000000 in
theorem Outer_un (va vb : Value) (n m : Nat) (f g : Nat → Int) (d : Nat) (c : Int) (w : World) (hn : n ≤ 70000) (hm : m ≤ 70000) (c0 : 0 ≤ c) (c1 : c ≤ 800000000) (hA : Ar w va n f) (hB : Ar w vb m g) (ha : Nb va d) (hb : Nb vb d) (hU : Uc w d c) :
    Calls Tryd.prog 38 #[.pointer (some ⟨d, 0, none⟩), va, vb] w fun e w' => ∃ (r k : Int) (v' : Value), e = .returned (.tuple #[.agg #[.int .i64 r, .int .i64 k, v'], .int .i64 (oE n m)]) ∧ r = cE (oE n m) (n : Int) ∧ k = cE (oE n m) (m : Int) ∧ LL w w' v' (n * m) (otX f g m) (oE n m) ∧ Un d (c + cE (oE n m) (otN f g m n)) w w' := by
  obtain ⟨ada, ca, ba, oa, rfl, x1, x2, -, -⟩ := id hA
  obtain ⟨adb, cb, bb, ob, rfl, y1, y2, -, -⟩ := id hB
  have hmf := hmf_any
  have hb3 := bel3 w (.cells #[.pointer (some ⟨d, 0, none⟩)] 25) (.cells #[.slice adb m cb] 22) (.cells #[.int .i64 0, .int .i64 0, .slice none 0 0] 56)
  have hb4 := bchain hb3 (bel1 _ (.cells #[.slice ada n ca, .slice adb m cb] 22))
  have hs4 : ((((w.alloc (.cells #[.pointer (some ⟨d, 0, none⟩)] 25)).alloc (.cells #[.slice adb m cb] 22)).alloc (.cells #[.int .i64 0, .int .i64 0, .slice none 0 0] 56)).alloc (.cells #[.slice ada n ca, .slice adb m cb] 22)).heap.size = w.heap.size + 4 := by simp
  have cu : ((((w.alloc (.cells #[.pointer (some ⟨d, 0, none⟩)] 25)).alloc (.cells #[.slice adb m cb] 22)).alloc (.cells #[.int .i64 0, .int .i64 0, .slice none 0 0] 56)).alloc (.cells #[.slice ada n ca, .slice adb m cb] 22)).cell? ⟨w.heap.size, 0, none⟩ = some (.pointer (some ⟨d, 0, none⟩)) := cell_later (bel1 _ _) (cell_later (bel1 _ _) (cell_later (bel1 _ _) (cell_new1 w _ _)))
  have cl : ((((w.alloc (.cells #[.pointer (some ⟨d, 0, none⟩)] 25)).alloc (.cells #[.slice adb m cb] 22)).alloc (.cells #[.int .i64 0, .int .i64 0, .slice none 0 0] 56)).alloc (.cells #[.slice ada n ca, .slice adb m cb] 22)).cell? ⟨w.heap.size + 1, 0, none⟩ = some (.slice adb m cb) := by have h := cell_new1 (w.alloc (.cells #[.pointer (some ⟨d, 0, none⟩)] 25)) (.slice adb m cb) 22; rw [World.size_alloc] at h; exact cell_later (bel1 _ _) (cell_later (bel1 _ _) h)
  have cl3 : (((w.alloc (.cells #[.pointer (some ⟨d, 0, none⟩)] 25)).alloc (.cells #[.slice adb m cb] 22)).alloc (.cells #[.int .i64 0, .int .i64 0, .slice none 0 0] 56)).cell? ⟨w.heap.size + 1, 0, none⟩ = some (.slice adb m cb) := by have h := cell_new1 (w.alloc (.cells #[.pointer (some ⟨d, 0, none⟩)] 25)) (.slice adb m cb) 22; rw [World.size_alloc] at h; exact cell_later (bel1 _ _) h
  have R4 : B3 (w.heap.size + 2) (.int .i64 0) (.int .i64 0) (.slice none 0 0) ((((w.alloc (.cells #[.pointer (some ⟨d, 0, none⟩)] 25)).alloc (.cells #[.slice adb m cb] 22)).alloc (.cells #[.int .i64 0, .int .i64 0, .slice none 0 0] 56)).alloc (.cells #[.slice ada n ca, .slice adb m cb] 22)) := by
    have h := (B3.new ((w.alloc (.cells #[.pointer (some ⟨d, 0, none⟩)] 25)).alloc (.cells #[.slice adb m cb] 22)) (.int .i64 0) (.int .i64 0) (.slice none 0 0) 56).later (bel1 _ (.cells #[.slice ada n ca, .slice adb m cb] 22))
    simp only [World.size_alloc] at h
    exact h
  obtain ⟨hc, hf⟩ := hU
  have hd := World.block_lt_of_cell? _ _ hc
  dsimp only at hd
  have hc' := cell_later hb4 hc
  have hf' := frozen_later hb4 hc hf
  unfold maxLen at *
  have HU4 : Hid (Un d (c) w ((((w.alloc (.cells #[.pointer (some ⟨d, 0, none⟩)] 25)).alloc (.cells #[.slice adb m cb] 22)).alloc (.cells #[.int .i64 0, .int .i64 0, .slice none 0 0] 56)).alloc (.cells #[.slice ada n ca, .slice adb m cb] 22))) := Un.after hb4 (Un.same hc' hf')
  generalize hW4 : ((((w.alloc (.cells #[.pointer (some ⟨d, 0, none⟩)] 25)).alloc (.cells #[.slice adb m cb] 22)).alloc (.cells #[.int .i64 0, .int .i64 0, .slice none 0 0] 56)).alloc (.cells #[.slice ada n ca, .slice adb m cb] 22)) = W4 at *
  have HW4 : Hid (((((w.alloc (.cells #[.pointer (some ⟨d, 0, none⟩)] 25)).alloc (.cells #[.slice adb m cb] 22)).alloc (.cells #[.int .i64 0, .int .i64 0, .slice none 0 0] 56)).alloc (.cells #[.slice ada n ca, .slice adb m cb] 22)) = W4) := hW4
  clear hW4
  have ERR : ∀ E : Int, oE n m = E → E ≠ 0 → Hid (∀ W : World, W = ((W4.setCell ⟨w.heap.size + 2, 0, none⟩ (.int .i64 0)).setCell ⟨w.heap.size + 2, 1, none⟩ (.int .i64 0)).setCell ⟨w.heap.size + 2, 2, none⟩ (.slice none 0 0) → ∃ (r k : Int) (v' : Value), Ending.returned (.tuple #[.agg #[.int .i64 0, .int .i64 0, .slice none 0 0], .int .i64 E]) = .returned (.tuple #[.agg #[.int .i64 r, .int .i64 k, v'], .int .i64 (oE n m)]) ∧ r = cE (oE n m) (n : Int) ∧ k = cE (oE n m) (m : Int) ∧ LL w W v' (n * m) (otX f g m) (oE n m) ∧ Un d (c + cE (oE n m) (otN f g m n)) w W) := by
    intro E hE hne W hW
    subst hW
    rw [hE]
    refine ⟨0, 0, .slice none 0 0, rfl, by unfold cE; rw [if_neg hne], by unfold cE; rw [if_neg hne], ⟨fun h => absurd h hne, fun _ => ⟨none, 0, rfl⟩, fun a n' cap' e => by cases e⟩, ?_⟩
    unfold cE; rw [if_neg hne, Int.add_zero]; exact ((HU4.out.setnew _ _ hd (by dsimp only; omega)).setnew _ _ hd (by dsimp only; omega)).setnew _ _ hd (by dsimp only; omega)
  rcases (show n = 0 ∨ (0 < n ∧ m = 0) ∨ (0 < n ∧ 0 < m ∧ (65536 < n ∨ 65536 < m)) ∨ (0 < n ∧ 0 < m ∧ n ≤ 65536 ∧ m ≤ 65536) by omega) with h0 | ⟨h1, h0⟩ | ⟨h1, h2, h3⟩ | ⟨h1, h2, h3, h4⟩
  · have hp1 : ¬ 0 < n := by omega
    have hp2 : ¬ (0 : Int) < (n : Int) := by omega
    obtain ⟨E, hE⟩ : ∃ E, oE n m = E := ⟨_, rfl⟩
    have hne : ¬ E = 0 := by rw [← hE]; unfold oE; split; decide; rw [if_pos (Or.inl h0)]; decide
    have hck : (if 65536 < n ∨ 65536 < m then (3 : Int) else if false = true then 0 else 40) = E := by rw [← hE]; unfold oE; rw [if_neg (show ¬ false = true by decide), if_pos (Or.inl h0)]
    clear h0
    have CK : Hid (Calls Tryd.prog 46 #[.bool false, .slice (some ⟨(((w.alloc (.cells #[.pointer (some ⟨d, 0, none⟩)] 25)).alloc (.cells #[.slice adb m cb] 22)).alloc (.cells #[.int .i64 0, .int .i64 0, .slice none 0 0] 56)).heap.size, 0, none⟩) 2 2] W4 fun e w' => e = .returned (.int .i64 E) ∧ w' = W4) := by
      have h := check2_any false (((w.alloc (.cells #[.pointer (some ⟨d, 0, none⟩)] 25)).alloc (.cells #[.slice adb m cb] 22)).alloc (.cells #[.int .i64 0, .int .i64 0, .slice none 0 0] 56)) ada adb n ca m cb (by unfold maxLen; omega) (by unfold maxLen; omega)
      rw [hck] at h
      rw [HW4.out] at h
      exact h
    simp only [World.size_alloc] at CK
    have HERR := ERR E hE hne
    have z0 := R4.c0
    have z1 := R4.c1
    have z2 := R4.c2
    have q0 := R4.f0
    have q1 := R4.f1
    have q2 := R4.f2
    have S0 := ((R4.set0 (.int .i64 0)).set1 (.int .i64 0)).set2 (.slice none 0 0)
    have s0 := S0.c0
    have s1 := S0.c1
    have s2 := S0.c2
    clear hA hB ha hb hc hf hc' hf' R4 S0 hb3 hb4 hs4 ERR cu HU4
    go_enter Tryd.func38, Tryd.ntmps38
    go_wp2_with fail
    rw [HW4.out]
    refine CK.out.mono ?_
    rintro e w1 ⟨rfl, hz⟩
    subst hz
    clear CK
    go_wp2
    exact bodyPost_ret (v := .tuple #[.agg #[.int .i64 0, .int .i64 0, .slice none 0 0], .int .i64 E]) (by simp [results, Tryd.results38, go_sem, s0, s1, s2] <;> rfl) rfl (HERR.out _ rfl)
  · have hp2 : (0 : Int) < (n : Int) := by omega
    have hp3 : ¬ 0 < m := by omega
    have hp4 : ¬ (0 : Int) < (m : Int) := by omega
    obtain ⟨E, hE⟩ : ∃ E, oE n m = E := ⟨_, rfl⟩
    have hne : ¬ E = 0 := by rw [← hE]; unfold oE; split; decide; rw [if_pos (Or.inr h0)]; decide
    have hck : (if 65536 < n ∨ 65536 < m then (3 : Int) else if false = true then 0 else 40) = E := by rw [← hE]; unfold oE; rw [if_neg (show ¬ false = true by decide), if_pos (Or.inr h0)]
    clear h0
    have CK : Hid (Calls Tryd.prog 46 #[.bool false, .slice (some ⟨(((w.alloc (.cells #[.pointer (some ⟨d, 0, none⟩)] 25)).alloc (.cells #[.slice adb m cb] 22)).alloc (.cells #[.int .i64 0, .int .i64 0, .slice none 0 0] 56)).heap.size, 0, none⟩) 2 2] W4 fun e w' => e = .returned (.int .i64 E) ∧ w' = W4) := by
      have h := check2_any false (((w.alloc (.cells #[.pointer (some ⟨d, 0, none⟩)] 25)).alloc (.cells #[.slice adb m cb] 22)).alloc (.cells #[.int .i64 0, .int .i64 0, .slice none 0 0] 56)) ada adb n ca m cb (by unfold maxLen; omega) (by unfold maxLen; omega)
      rw [hck] at h
      rw [HW4.out] at h
      exact h
    simp only [World.size_alloc] at CK
    have HERR := ERR E hE hne
    have z0 := R4.c0
    have z1 := R4.c1
    have z2 := R4.c2
    have q0 := R4.f0
    have q1 := R4.f1
    have q2 := R4.f2
    have S0 := ((R4.set0 (.int .i64 0)).set1 (.int .i64 0)).set2 (.slice none 0 0)
    have s0 := S0.c0
    have s1 := S0.c1
    have s2 := S0.c2
    clear hA hB ha hb hc hf hc' hf' R4 S0 hb3 hb4 hs4 ERR cu HU4
    go_enter Tryd.func38, Tryd.ntmps38
    go_wp2_with fail
    rw [HW4.out]
    refine CK.out.mono ?_
    rintro e w1 ⟨rfl, hz⟩
    subst hz
    clear CK
    go_wp2
    exact bodyPost_ret (v := .tuple #[.agg #[.int .i64 0, .int .i64 0, .slice none 0 0], .int .i64 E]) (by simp [results, Tryd.results38, go_sem, s0, s1, s2] <;> rfl) rfl (HERR.out _ rfl)
  · have hp2 : (0 : Int) < (n : Int) := by omega
    have hp4 : (0 : Int) < (m : Int) := by omega
    have CK : Hid (Calls Tryd.prog 46 #[.bool true, .slice (some ⟨(((w.alloc (.cells #[.pointer (some ⟨d, 0, none⟩)] 25)).alloc (.cells #[.slice adb m cb] 22)).alloc (.cells #[.int .i64 0, .int .i64 0, .slice none 0 0] 56)).heap.size, 0, none⟩) 2 2] W4 fun e w' => e = .returned (.int .i64 3) ∧ w' = W4) := by
      have h := check2_any true (((w.alloc (.cells #[.pointer (some ⟨d, 0, none⟩)] 25)).alloc (.cells #[.slice adb m cb] 22)).alloc (.cells #[.int .i64 0, .int .i64 0, .slice none 0 0] 56)) ada adb n ca m cb (by unfold maxLen; omega) (by unfold maxLen; omega)
      rw [if_pos h3] at h
      rw [HW4.out] at h
      exact h
    simp only [World.size_alloc] at CK
    have HERR := ERR 3 (by unfold oE; rw [if_pos h3]) (by decide)
    have z0 := R4.c0
    have z1 := R4.c1
    have z2 := R4.c2
    have q0 := R4.f0
    have q1 := R4.f1
    have q2 := R4.f2
    have S0 := ((R4.set0 (.int .i64 0)).set1 (.int .i64 0)).set2 (.slice none 0 0)
    have s0 := S0.c0
    have s1 := S0.c1
    have s2 := S0.c2
    clear hA hB ha hb hc hf hc' hf' R4 S0 hb3 hb4 hs4 ERR cu HU4
    go_enter Tryd.func38, Tryd.ntmps38
    go_wp2_with fail
    rw [HW4.out]
    refine CK.out.mono ?_
    rintro e w1 ⟨rfl, hz⟩
    subst hz
    clear CK
    go_wp2
    exact bodyPost_ret (v := .tuple #[.agg #[.int .i64 0, .int .i64 0, .slice none 0 0], .int .i64 3]) (by simp [results, Tryd.results38, go_sem, s0, s1, s2] <;> rfl) rfl (HERR.out _ rfl)
  · have hp2 : (0 : Int) < (n : Int) := by omega
    have hp4 : (0 : Int) < (m : Int) := by omega
    have CK : Hid (Calls Tryd.prog 46 #[.bool true, .slice (some ⟨(((w.alloc (.cells #[.pointer (some ⟨d, 0, none⟩)] 25)).alloc (.cells #[.slice adb m cb] 22)).alloc (.cells #[.int .i64 0, .int .i64 0, .slice none 0 0] 56)).heap.size, 0, none⟩) 2 2] W4 fun e w' => e = .returned (.int .i64 0) ∧ w' = W4) := by
      have h := check2_any true (((w.alloc (.cells #[.pointer (some ⟨d, 0, none⟩)] 25)).alloc (.cells #[.slice adb m cb] 22)).alloc (.cells #[.int .i64 0, .int .i64 0, .slice none 0 0] 56)) ada adb n ca m cb (by unfold maxLen; omega) (by unfold maxLen; omega)
      rw [if_neg (by omega), if_pos rfl, HW4.out] at h
      exact h
    simp only [World.size_alloc] at CK
    have CF : Hid (∀ W : World, Calls Tryd.prog 70 #[.int .i64 (n : Int), .int .i64 (m : Int)] W fun e w' => e = .returned (.bool (decide (n * m ≤ 65536))) ∧ w' = W) := fun W => by
      have h := fits_any (n : Int) (m : Int) (by omega) (by omega) (by omega) (by omega) W
      rw [show decide ((n : Int) * (m : Int) ≤ 65536) = decide (n * m ≤ 65536) by rw [← Int.natCast_mul]; exact decide_eq_decide.2 (by omega)] at h
      exact h
    have z0 := R4.c0
    have z1 := R4.c1
    have z2 := R4.c2
    have q0 := R4.f0
    have q1 := R4.f1
    have q2 := R4.f2
    by_cases hnm : n * m ≤ 65536
    · rw [decide_eq_true hnm] at CF
      have hE : oE n m = 0 := by unfold oE; rw [if_neg (by omega), if_neg (by omega), if_neg (by omega)]
      have CE : Hid (Calls Tryd.prog 75 #[.slice ada n ca, .func (.func 76) #[] #[.pointer (some ⟨w.heap.size, 0, none⟩), .pointer (some ⟨w.heap.size + 1, 0, none⟩)]] W4 fun e w' => e = .returned (.slice (some ⟨W4.heap.size, 0, none⟩) n n) ∧ ∃ h : Nat → Nat, (Un d (c + otN f g m n) W4 w' ∧ ∀ k, k < n → W4.heap.size < h k ∧ Ar w' (.slice (some ⟨h k, 0, none⟩) m m) m (fun i => clv (rnd (f k * g i) 32))) ∧ Rw W4.heap.size n (fun k => .slice (some ⟨h k, 0, none⟩) m m) w') := by
        refine each_outer (.pointer (some ⟨w.heap.size, 0, none⟩)) (.pointer (some ⟨w.heap.size + 1, 0, none⟩)) (fun (j : Nat) (h : Nat → Nat) (W : World) => Un d (c + otN f g m j) W4 W ∧ ∀ k, k < j → W4.heap.size < h k ∧ Ar W (.slice (some ⟨h k, 0, none⟩) m m) m (fun i => clv (rnd (f k * g i) 32))) _ n m f W4 hn (hA.later hb4) ?_ ?_ ?_ ?_ ?_
        · intro h
          exact ⟨by simpa [otN] using Un.same hc' hf', fun k hk => absurd hk (Nat.not_lt_zero _)⟩
        · intro j h W W' hS hb'
          exact ⟨hS.1.ahead hb', fun k hk => ⟨(hS.2 k hk).1, (hS.2 k hk).2.later hb'⟩⟩
        · intro j h W a x ha' hS
          exact ⟨hS.1.setnew a x (by rw [hs4]; omega) (by omega), fun k hk => ⟨(hS.2 k hk).1, (hS.2 k hk).2.far x (by have := (hS.2 k hk).1; omega)⟩⟩
        · intro j h W hS
          exact (hA.later hb4).un ha hS.1
        · intro j h W hj hW hS
          obtain ⟨_, _, _, _, _, _, _, _, hx⟩ := id hA
          have hx := (hx j hj).2
          have r := ot_rng f g m j
          have rj : j * m ≤ n * m := Nat.mul_le_mul_right m (by omega)
          refine (out1_un (f j) hx.1 hx.2 (.slice adb m cb) m g hm w.heap.size (w.heap.size + 1) d (c + otN f g m j) (by omega) (by omega) W ((hB.later hb4).un hb hS.1) hb hS.1.c hS.1.f (hS.1.o _ _ (by dsimp only; omega) cu) (hS.1.o _ _ (by dsimp only; omega) cl)).mono ?_
          rintro e w' ⟨rfl, hX, hU⟩
          refine ⟨_, rfl, ⟨?_, ?_⟩, hU.k _ hW (by rw [hs4]; omega), hU.s⟩
          · have e1 : c + otN f g m (j + 1) = c + otN f g m j + cntV (fun i => ovv (rnd (f j * g i) 32)) m := by rw [Int.add_assoc]; rfl
            rw [e1]
            exact hS.1.chain hU
          · intro k hk
            by_cases e : k = j
            · subst e
              rw [upd_at]
              exact ⟨by omega, hX⟩
            · rw [upd_lt h j _ k (by omega)]
              have hk2 := hS.2 k (by omega)
              exact ⟨hk2.1, hk2.2.un (fun a n' cap' e' _ => by cases e'; rw [hs4] at hk2; show h k ≠ d; omega) hU⟩
      rw [hs4] at CE
      rw [hE]
      rw [show c + cE 0 (otN f g m n) = c + otN f g m n by unfold cE; rw [if_pos rfl]]
      clear hA hB ha hb hc hf hc' hf' ERR cu hE hb3
      go_enter Tryd.func38, Tryd.ntmps38
      go_wp2_with fail
      rw [HW4.out]
      refine CK.out.mono ?_
      rintro e w1 ⟨rfl, hz⟩
      subst hz
      clear CK
      go_wp2_with fail
      refine (CF.out _).mono ?_
      rintro e w1 ⟨rfl, hz⟩
      subst hz
      clear CF
      go_wp2_with fail
      refine CE.out.mono ?_
      rintro e w5 ⟨rfl, h, ⟨hU5, hrow⟩, hR5⟩
      skip
      have HU5 : Hid (Un d (c + otN f g m n) w w5) := HU4.out.chain hU5
      have A0 : w5.cell? ⟨w.heap.size + 1, 0, none⟩ = some (.slice adb m cb) := hU5.o _ _ (by dsimp only; omega) cl
      have R5 := R4.block (hU5.k (w.heap.size + 2) (by rw [hs4]; omega) (by omega))
      have hs5 : w.heap.size + 4 ≤ w5.heap.size := by have := hU5.s; rw [hs4] at this; exact this
      have CC : Hid (∀ W : World, Below w5.heap.size w5 W → Calls Tryd.prog 77 #[.slice (some ⟨w.heap.size + 4, 0, none⟩) n n] W fun e w' => ∃ g' cap, e = .returned (.slice (some ⟨g', 0, none⟩) (n * m) cap) ∧ Ar w' (.slice (some ⟨g', 0, none⟩) (n * m) cap) (n * m) (otX f g m) ∧ W.heap.size ≤ g' ∧ Below W.heap.size W w') := fun W hW => concat_any (w.heap.size + 4) n m h (fun k i => clv (rnd (f k * g i) 32)) h1 h2 hnm W (hR5.later hW) (fun k hk => (hrow k hk).2.later hW)
      clear CE hU5 hrow hR5 R4 z0 z1 z2 q0 q1 q2 cl cl3 HU4 hb4 hs4
      go_upto_region 7 with fail
      have hd1 : Below w5.heap.size w5 w5.drew := (Below.refl _ _).drew
      have CO := R5.later hd1
      have A := cell_later hd1 A0
      have CW : Hid (Below w5.heap.size w5 w5.drew) := hd1
      have CC0 := CO.c0
      have CC1 := CO.c1
      have CC2 := CO.c2
      have CF0 := CO.f0
      have CF1 := CO.f1
      have CF2 := CO.f2
      clear hd1 A0 R5
      go_region_held3 (fun w' => w'.cell? ⟨w.heap.size + 1, 0, none⟩ = some (.slice adb m cb))
        (first | exact A | exact cell_set (by dsimp only; omega) (cell_set (by dsimp only; omega) (cell_set (by dsimp only; omega) A)))
        (first
          | (go_at_call 77; refine (CC.out _ CW.out).mono ?_; rintro e wz ⟨g', cap, rfl, hX, hg, hb⟩; have HX : Hid (Ar wz (.slice (some ⟨g', 0, none⟩) (n * m) cap) (n * m) (otX f g m)) := hX; have hg' : w.heap.size + 4 ≤ g' := (by have := CW.out.size; omega); clear hX hg; replace A := cell_later hb A; replace CC0 := cell_later hb CC0; replace CC1 := cell_later hb CC1; replace CC2 := cell_later hb CC2; replace CF0 := frozen_later hb CO.c0 CF0; replace CF1 := frozen_later hb CO.c1 CF1; replace CF2 := frozen_later hb CO.c2 CF2; replace CO := CO.later hb; replace CW := hidD CW hb; clear hb))
      have S0 := ((CO.set0 (.int .i64 (n : Int))).set1 (.int .i64 (m : Int))).set2 (.slice (some ⟨g', 0, none⟩) (n * m) cap)
      have s0 := S0.c0
      have s1 := S0.c1
      have s2 := S0.c2
      have HW6 : Hid (Un d (c + otN f g m n) w wz) := HU5.out.ahead CW.out
      clear A CC0 CC1 CC2 CF0 CF1 CF2 CO CW CC S0 HU5
      go_wp2
      exact bodyPost_ret (v := .tuple #[.agg #[.int .i64 (n : Int), .int .i64 (m : Int), .slice (some ⟨g', 0, none⟩) (n * m) cap], .int .i64 0]) (by simp [results, Tryd.results38, go_sem, s0, s1, s2] <;> rfl) rfl ⟨_, _, _, rfl, rfl, rfl, ⟨fun _ => ((HX.out.far _ (by dsimp only; omega)).far _ (by dsimp only; omega)).far _ (by dsimp only; omega), fun h => absurd rfl h, fun a n' cap' e _ => (by cases e; show w.heap.size ≤ g'; omega)⟩, ((HW6.out.setnew _ _ hd (by dsimp only; omega)).setnew _ _ hd (by dsimp only; omega)).setnew _ _ hd (by dsimp only; omega)⟩
    · rw [decide_eq_false hnm] at CF
      have HERR := ERR 3 (by unfold oE; rw [if_neg (by omega), if_neg (by omega), if_pos (by omega)]) (by decide)
      have S0 := ((R4.set0 (.int .i64 0)).set1 (.int .i64 0)).set2 (.slice none 0 0)
      have s0 := S0.c0
      have s1 := S0.c1
      have s2 := S0.c2
      clear hA hB ha hb hc hf hc' hf' R4 S0 hb3 hb4 hs4 ERR cu HU4
      go_enter Tryd.func38, Tryd.ntmps38
      go_wp2_with fail
      rw [HW4.out]
      refine CK.out.mono ?_
      rintro e w1 ⟨rfl, hz⟩
      subst hz
      clear CK
      go_wp2_with fail
      refine (CF.out _).mono ?_
      rintro e w1 ⟨rfl, hz⟩
      subst hz
      clear CF
      go_wp2
      exact bodyPost_ret (v := .tuple #[.agg #[.int .i64 0, .int .i64 0, .slice none 0 0], .int .i64 3]) (by simp [results, Tryd.results38, go_sem, s0, s1, s2] <;> rfl) rfl (HERR.out _ rfl)

set_option maxRecDepth 100000 in
set_option maxHeartbeats 8000000 in
theorem Outer_nil (va vb : Value) (n m : Nat) (f g : Nat → Int) (w : World) (hn : n ≤ 70000) (hm : m ≤ 70000) (hA : Ar w va n f) (hB : Ar w vb m g) :
    Calls Tryd.prog 38 #[.pointer none, va, vb] w fun e w' => ∃ (r k : Int) (v' : Value), e = .returned (.tuple #[.agg #[.int .i64 r, .int .i64 k, v'], .int .i64 (oE n m)]) ∧ r = cE (oE n m) (n : Int) ∧ k = cE (oE n m) (m : Int) ∧ LL w w' v' (n * m) (otX f g m) (oE n m) ∧ Below w.heap.size w w' := by
  obtain ⟨ada, ca, ba, oa, rfl, x1, x2, -, -⟩ := id hA
  obtain ⟨adb, cb, bb, ob, rfl, y1, y2, -, -⟩ := id hB
  have hmf := hmf_any
  have hb3 := bel3 w (.cells #[.pointer none] 25) (.cells #[.slice adb m cb] 22) (.cells #[.int .i64 0, .int .i64 0, .slice none 0 0] 56)
  have hb4 := bchain hb3 (bel1 _ (.cells #[.slice ada n ca, .slice adb m cb] 22))
  have hs4 : ((((w.alloc (.cells #[.pointer none] 25)).alloc (.cells #[.slice adb m cb] 22)).alloc (.cells #[.int .i64 0, .int .i64 0, .slice none 0 0] 56)).alloc (.cells #[.slice ada n ca, .slice adb m cb] 22)).heap.size = w.heap.size + 4 := by simp
  have cu : ((((w.alloc (.cells #[.pointer none] 25)).alloc (.cells #[.slice adb m cb] 22)).alloc (.cells #[.int .i64 0, .int .i64 0, .slice none 0 0] 56)).alloc (.cells #[.slice ada n ca, .slice adb m cb] 22)).cell? ⟨w.heap.size, 0, none⟩ = some (.pointer none) := cell_later (bel1 _ _) (cell_later (bel1 _ _) (cell_later (bel1 _ _) (cell_new1 w _ _)))
  have cl : ((((w.alloc (.cells #[.pointer none] 25)).alloc (.cells #[.slice adb m cb] 22)).alloc (.cells #[.int .i64 0, .int .i64 0, .slice none 0 0] 56)).alloc (.cells #[.slice ada n ca, .slice adb m cb] 22)).cell? ⟨w.heap.size + 1, 0, none⟩ = some (.slice adb m cb) := by have h := cell_new1 (w.alloc (.cells #[.pointer none] 25)) (.slice adb m cb) 22; rw [World.size_alloc] at h; exact cell_later (bel1 _ _) (cell_later (bel1 _ _) h)
  have cl3 : (((w.alloc (.cells #[.pointer none] 25)).alloc (.cells #[.slice adb m cb] 22)).alloc (.cells #[.int .i64 0, .int .i64 0, .slice none 0 0] 56)).cell? ⟨w.heap.size + 1, 0, none⟩ = some (.slice adb m cb) := by have h := cell_new1 (w.alloc (.cells #[.pointer none] 25)) (.slice adb m cb) 22; rw [World.size_alloc] at h; exact cell_later (bel1 _ _) h
  have R4 : B3 (w.heap.size + 2) (.int .i64 0) (.int .i64 0) (.slice none 0 0) ((((w.alloc (.cells #[.pointer none] 25)).alloc (.cells #[.slice adb m cb] 22)).alloc (.cells #[.int .i64 0, .int .i64 0, .slice none 0 0] 56)).alloc (.cells #[.slice ada n ca, .slice adb m cb] 22)) := by
    have h := (B3.new ((w.alloc (.cells #[.pointer none] 25)).alloc (.cells #[.slice adb m cb] 22)) (.int .i64 0) (.int .i64 0) (.slice none 0 0) 56).later (bel1 _ (.cells #[.slice ada n ca, .slice adb m cb] 22))
    simp only [World.size_alloc] at h
    exact h
  unfold maxLen at *
  have HU4 : Hid (Below w.heap.size w ((((w.alloc (.cells #[.pointer none] 25)).alloc (.cells #[.slice adb m cb] 22)).alloc (.cells #[.int .i64 0, .int .i64 0, .slice none 0 0] 56)).alloc (.cells #[.slice ada n ca, .slice adb m cb] 22))) := hb4
  generalize hW4 : ((((w.alloc (.cells #[.pointer none] 25)).alloc (.cells #[.slice adb m cb] 22)).alloc (.cells #[.int .i64 0, .int .i64 0, .slice none 0 0] 56)).alloc (.cells #[.slice ada n ca, .slice adb m cb] 22)) = W4 at *
  have HW4 : Hid (((((w.alloc (.cells #[.pointer none] 25)).alloc (.cells #[.slice adb m cb] 22)).alloc (.cells #[.int .i64 0, .int .i64 0, .slice none 0 0] 56)).alloc (.cells #[.slice ada n ca, .slice adb m cb] 22)) = W4) := hW4
  clear hW4
  have ERR : ∀ E : Int, oE n m = E → E ≠ 0 → Hid (∀ W : World, W = ((W4.setCell ⟨w.heap.size + 2, 0, none⟩ (.int .i64 0)).setCell ⟨w.heap.size + 2, 1, none⟩ (.int .i64 0)).setCell ⟨w.heap.size + 2, 2, none⟩ (.slice none 0 0) → ∃ (r k : Int) (v' : Value), Ending.returned (.tuple #[.agg #[.int .i64 0, .int .i64 0, .slice none 0 0], .int .i64 E]) = .returned (.tuple #[.agg #[.int .i64 r, .int .i64 k, v'], .int .i64 (oE n m)]) ∧ r = cE (oE n m) (n : Int) ∧ k = cE (oE n m) (m : Int) ∧ LL w W v' (n * m) (otX f g m) (oE n m) ∧ Below w.heap.size w W) := by
    intro E hE hne W hW
    subst hW
    rw [hE]
    refine ⟨0, 0, .slice none 0 0, rfl, by unfold cE; rw [if_neg hne], by unfold cE; rw [if_neg hne], ⟨fun h => absurd h hne, fun _ => ⟨none, 0, rfl⟩, fun a n' cap' e => by cases e⟩, ?_⟩
    exact ((HU4.out.setCell (by dsimp only; omega) _).setCell (by dsimp only; omega) _).setCell (by dsimp only; omega) _
  rcases (show n = 0 ∨ (0 < n ∧ m = 0) ∨ (0 < n ∧ 0 < m ∧ (65536 < n ∨ 65536 < m)) ∨ (0 < n ∧ 0 < m ∧ n ≤ 65536 ∧ m ≤ 65536) by omega) with h0 | ⟨h1, h0⟩ | ⟨h1, h2, h3⟩ | ⟨h1, h2, h3, h4⟩
  · have hp1 : ¬ 0 < n := by omega
    have hp2 : ¬ (0 : Int) < (n : Int) := by omega
    obtain ⟨E, hE⟩ : ∃ E, oE n m = E := ⟨_, rfl⟩
    have hne : ¬ E = 0 := by rw [← hE]; unfold oE; split; decide; rw [if_pos (Or.inl h0)]; decide
    have hck : (if 65536 < n ∨ 65536 < m then (3 : Int) else if false = true then 0 else 40) = E := by rw [← hE]; unfold oE; rw [if_neg (show ¬ false = true by decide), if_pos (Or.inl h0)]
    clear h0
    have CK : Hid (Calls Tryd.prog 46 #[.bool false, .slice (some ⟨(((w.alloc (.cells #[.pointer none] 25)).alloc (.cells #[.slice adb m cb] 22)).alloc (.cells #[.int .i64 0, .int .i64 0, .slice none 0 0] 56)).heap.size, 0, none⟩) 2 2] W4 fun e w' => e = .returned (.int .i64 E) ∧ w' = W4) := by
      have h := check2_any false (((w.alloc (.cells #[.pointer none] 25)).alloc (.cells #[.slice adb m cb] 22)).alloc (.cells #[.int .i64 0, .int .i64 0, .slice none 0 0] 56)) ada adb n ca m cb (by unfold maxLen; omega) (by unfold maxLen; omega)
      rw [hck] at h
      rw [HW4.out] at h
      exact h
    simp only [World.size_alloc] at CK
    have HERR := ERR E hE hne
    have z0 := R4.c0
    have z1 := R4.c1
    have z2 := R4.c2
    have q0 := R4.f0
    have q1 := R4.f1
    have q2 := R4.f2
    have S0 := ((R4.set0 (.int .i64 0)).set1 (.int .i64 0)).set2 (.slice none 0 0)
    have s0 := S0.c0
    have s1 := S0.c1
    have s2 := S0.c2
    clear hA hB R4 S0 hb3 hb4 hs4 ERR cu HU4
    go_enter Tryd.func38, Tryd.ntmps38
    go_wp2_with fail
    rw [HW4.out]
    refine CK.out.mono ?_
    rintro e w1 ⟨rfl, hz⟩
    subst hz
    clear CK
    go_wp2
    exact bodyPost_ret (v := .tuple #[.agg #[.int .i64 0, .int .i64 0, .slice none 0 0], .int .i64 E]) (by simp [results, Tryd.results38, go_sem, s0, s1, s2] <;> rfl) rfl (HERR.out _ rfl)
  · have hp2 : (0 : Int) < (n : Int) := by omega
    have hp3 : ¬ 0 < m := by omega
    have hp4 : ¬ (0 : Int) < (m : Int) := by omega
    obtain ⟨E, hE⟩ : ∃ E, oE n m = E := ⟨_, rfl⟩
    have hne : ¬ E = 0 := by rw [← hE]; unfold oE; split; decide; rw [if_pos (Or.inr h0)]; decide
    have hck : (if 65536 < n ∨ 65536 < m then (3 : Int) else if false = true then 0 else 40) = E := by rw [← hE]; unfold oE; rw [if_neg (show ¬ false = true by decide), if_pos (Or.inr h0)]
    clear h0
    have CK : Hid (Calls Tryd.prog 46 #[.bool false, .slice (some ⟨(((w.alloc (.cells #[.pointer none] 25)).alloc (.cells #[.slice adb m cb] 22)).alloc (.cells #[.int .i64 0, .int .i64 0, .slice none 0 0] 56)).heap.size, 0, none⟩) 2 2] W4 fun e w' => e = .returned (.int .i64 E) ∧ w' = W4) := by
      have h := check2_any false (((w.alloc (.cells #[.pointer none] 25)).alloc (.cells #[.slice adb m cb] 22)).alloc (.cells #[.int .i64 0, .int .i64 0, .slice none 0 0] 56)) ada adb n ca m cb (by unfold maxLen; omega) (by unfold maxLen; omega)
      rw [hck] at h
      rw [HW4.out] at h
      exact h
    simp only [World.size_alloc] at CK
    have HERR := ERR E hE hne
    have z0 := R4.c0
    have z1 := R4.c1
    have z2 := R4.c2
    have q0 := R4.f0
    have q1 := R4.f1
    have q2 := R4.f2
    have S0 := ((R4.set0 (.int .i64 0)).set1 (.int .i64 0)).set2 (.slice none 0 0)
    have s0 := S0.c0
    have s1 := S0.c1
    have s2 := S0.c2
    clear hA hB R4 S0 hb3 hb4 hs4 ERR cu HU4
    go_enter Tryd.func38, Tryd.ntmps38
    go_wp2_with fail
    rw [HW4.out]
    refine CK.out.mono ?_
    rintro e w1 ⟨rfl, hz⟩
    subst hz
    clear CK
    go_wp2
    exact bodyPost_ret (v := .tuple #[.agg #[.int .i64 0, .int .i64 0, .slice none 0 0], .int .i64 E]) (by simp [results, Tryd.results38, go_sem, s0, s1, s2] <;> rfl) rfl (HERR.out _ rfl)
  · have hp2 : (0 : Int) < (n : Int) := by omega
    have hp4 : (0 : Int) < (m : Int) := by omega
    have CK : Hid (Calls Tryd.prog 46 #[.bool true, .slice (some ⟨(((w.alloc (.cells #[.pointer none] 25)).alloc (.cells #[.slice adb m cb] 22)).alloc (.cells #[.int .i64 0, .int .i64 0, .slice none 0 0] 56)).heap.size, 0, none⟩) 2 2] W4 fun e w' => e = .returned (.int .i64 3) ∧ w' = W4) := by
      have h := check2_any true (((w.alloc (.cells #[.pointer none] 25)).alloc (.cells #[.slice adb m cb] 22)).alloc (.cells #[.int .i64 0, .int .i64 0, .slice none 0 0] 56)) ada adb n ca m cb (by unfold maxLen; omega) (by unfold maxLen; omega)
      rw [if_pos h3] at h
      rw [HW4.out] at h
      exact h
    simp only [World.size_alloc] at CK
    have HERR := ERR 3 (by unfold oE; rw [if_pos h3]) (by decide)
    have z0 := R4.c0
    have z1 := R4.c1
    have z2 := R4.c2
    have q0 := R4.f0
    have q1 := R4.f1
    have q2 := R4.f2
    have S0 := ((R4.set0 (.int .i64 0)).set1 (.int .i64 0)).set2 (.slice none 0 0)
    have s0 := S0.c0
    have s1 := S0.c1
    have s2 := S0.c2
    clear hA hB R4 S0 hb3 hb4 hs4 ERR cu HU4
    go_enter Tryd.func38, Tryd.ntmps38
    go_wp2_with fail
    rw [HW4.out]
    refine CK.out.mono ?_
    rintro e w1 ⟨rfl, hz⟩
    subst hz
    clear CK
    go_wp2
    exact bodyPost_ret (v := .tuple #[.agg #[.int .i64 0, .int .i64 0, .slice none 0 0], .int .i64 3]) (by simp [results, Tryd.results38, go_sem, s0, s1, s2] <;> rfl) rfl (HERR.out _ rfl)
  · have hp2 : (0 : Int) < (n : Int) := by omega
    have hp4 : (0 : Int) < (m : Int) := by omega
    have CK : Hid (Calls Tryd.prog 46 #[.bool true, .slice (some ⟨(((w.alloc (.cells #[.pointer none] 25)).alloc (.cells #[.slice adb m cb] 22)).alloc (.cells #[.int .i64 0, .int .i64 0, .slice none 0 0] 56)).heap.size, 0, none⟩) 2 2] W4 fun e w' => e = .returned (.int .i64 0) ∧ w' = W4) := by
      have h := check2_any true (((w.alloc (.cells #[.pointer none] 25)).alloc (.cells #[.slice adb m cb] 22)).alloc (.cells #[.int .i64 0, .int .i64 0, .slice none 0 0] 56)) ada adb n ca m cb (by unfold maxLen; omega) (by unfold maxLen; omega)
      rw [if_neg (by omega), if_pos rfl, HW4.out] at h
      exact h
    simp only [World.size_alloc] at CK
    have CF : Hid (∀ W : World, Calls Tryd.prog 70 #[.int .i64 (n : Int), .int .i64 (m : Int)] W fun e w' => e = .returned (.bool (decide (n * m ≤ 65536))) ∧ w' = W) := fun W => by
      have h := fits_any (n : Int) (m : Int) (by omega) (by omega) (by omega) (by omega) W
      rw [show decide ((n : Int) * (m : Int) ≤ 65536) = decide (n * m ≤ 65536) by rw [← Int.natCast_mul]; exact decide_eq_decide.2 (by omega)] at h
      exact h
    have z0 := R4.c0
    have z1 := R4.c1
    have z2 := R4.c2
    have q0 := R4.f0
    have q1 := R4.f1
    have q2 := R4.f2
    by_cases hnm : n * m ≤ 65536
    · rw [decide_eq_true hnm] at CF
      have hE : oE n m = 0 := by unfold oE; rw [if_neg (by omega), if_neg (by omega), if_neg (by omega)]
      have CE : Hid (Calls Tryd.prog 75 #[.slice ada n ca, .func (.func 76) #[] #[.pointer (some ⟨w.heap.size, 0, none⟩), .pointer (some ⟨w.heap.size + 1, 0, none⟩)]] W4 fun e w' => e = .returned (.slice (some ⟨W4.heap.size, 0, none⟩) n n) ∧ ∃ h : Nat → Nat, (Below W4.heap.size W4 w' ∧ ∀ k, k < n → W4.heap.size < h k ∧ Ar w' (.slice (some ⟨h k, 0, none⟩) m m) m (fun i => clv (rnd (f k * g i) 32))) ∧ Rw W4.heap.size n (fun k => .slice (some ⟨h k, 0, none⟩) m m) w') := by
        refine each_outer (.pointer (some ⟨w.heap.size, 0, none⟩)) (.pointer (some ⟨w.heap.size + 1, 0, none⟩)) (fun (j : Nat) (h : Nat → Nat) (W : World) => Below W4.heap.size W4 W ∧ ∀ k, k < j → W4.heap.size < h k ∧ Ar W (.slice (some ⟨h k, 0, none⟩) m m) m (fun i => clv (rnd (f k * g i) 32))) _ n m f W4 hn (hA.later hb4) ?_ ?_ ?_ ?_ ?_
        · intro h
          exact ⟨Below.refl _ _, fun k hk => absurd hk (Nat.not_lt_zero _)⟩
        · intro j h W W' hS hb'
          exact ⟨bchain hS.1 hb', fun k hk => ⟨(hS.2 k hk).1, (hS.2 k hk).2.later hb'⟩⟩
        · intro j h W a x ha' hS
          exact ⟨hS.1.setCell (by omega) _, fun k hk => ⟨(hS.2 k hk).1, (hS.2 k hk).2.far x (by have := (hS.2 k hk).1; omega)⟩⟩
        · intro j h W hS
          exact (hA.later hb4).later hS.1
        · intro j h W hj hW hS
          obtain ⟨_, _, _, _, _, _, _, _, hx⟩ := id hA
          have hx := (hx j hj).2
          refine (out1_nil (f j) hx.1 hx.2 (.slice adb m cb) m g hm w.heap.size (w.heap.size + 1) W ((hB.later hb4).later hS.1) (cell_later hS.1 cu) (cell_later hS.1 cl)).mono ?_
          rintro e w' ⟨rfl, hX, hU⟩
          refine ⟨_, rfl, ⟨bchain hS.1 hU, ?_⟩, hU.block _ hW, hU.size⟩
          intro k hk
          by_cases e : k = j
          · subst e
            rw [upd_at]
            exact ⟨by omega, hX⟩
          · rw [upd_lt h j _ k (by omega)]
            have hk2 := hS.2 k (by omega)
            exact ⟨hk2.1, hk2.2.later hU⟩
      rw [hs4] at CE
      rw [hE]
      skip
      clear hA hB ERR cu hE hb3
      go_enter Tryd.func38, Tryd.ntmps38
      go_wp2_with fail
      rw [HW4.out]
      refine CK.out.mono ?_
      rintro e w1 ⟨rfl, hz⟩
      subst hz
      clear CK
      go_wp2_with fail
      refine (CF.out _).mono ?_
      rintro e w1 ⟨rfl, hz⟩
      subst hz
      clear CF
      go_wp2_with fail
      refine CE.out.mono ?_
      rintro e w5 ⟨rfl, h, ⟨hU5, hrow⟩, hR5⟩
      rw [← hs4] at hU5
      have HU5 : Hid (Below w.heap.size w w5) := bchain HU4.out hU5
      have A0 : w5.cell? ⟨w.heap.size + 1, 0, none⟩ = some (.slice adb m cb) := cell_later hU5 cl
      have R5 := R4.block (hU5.block (w.heap.size + 2) (by rw [hs4]; omega))
      have hs5 : w.heap.size + 4 ≤ w5.heap.size := by have := hU5.size; rw [hs4] at this; exact this
      have CC : Hid (∀ W : World, Below w5.heap.size w5 W → Calls Tryd.prog 77 #[.slice (some ⟨w.heap.size + 4, 0, none⟩) n n] W fun e w' => ∃ g' cap, e = .returned (.slice (some ⟨g', 0, none⟩) (n * m) cap) ∧ Ar w' (.slice (some ⟨g', 0, none⟩) (n * m) cap) (n * m) (otX f g m) ∧ W.heap.size ≤ g' ∧ Below W.heap.size W w') := fun W hW => concat_any (w.heap.size + 4) n m h (fun k i => clv (rnd (f k * g i) 32)) h1 h2 hnm W (hR5.later hW) (fun k hk => (hrow k hk).2.later hW)
      clear CE hU5 hrow hR5 R4 z0 z1 z2 q0 q1 q2 cl cl3 HU4 hb4 hs4
      go_upto_region 7 with fail
      have hd1 : Below w5.heap.size w5 w5.drew := (Below.refl _ _).drew
      have CO := R5.later hd1
      have A := cell_later hd1 A0
      have CW : Hid (Below w5.heap.size w5 w5.drew) := hd1
      have CC0 := CO.c0
      have CC1 := CO.c1
      have CC2 := CO.c2
      have CF0 := CO.f0
      have CF1 := CO.f1
      have CF2 := CO.f2
      clear hd1 A0 R5
      go_region_held3 (fun w' => w'.cell? ⟨w.heap.size + 1, 0, none⟩ = some (.slice adb m cb))
        (first | exact A | exact cell_set (by dsimp only; omega) (cell_set (by dsimp only; omega) (cell_set (by dsimp only; omega) A)))
        (first
          | (go_at_call 77; refine (CC.out _ CW.out).mono ?_; rintro e wz ⟨g', cap, rfl, hX, hg, hb⟩; have HX : Hid (Ar wz (.slice (some ⟨g', 0, none⟩) (n * m) cap) (n * m) (otX f g m)) := hX; have hg' : w.heap.size + 4 ≤ g' := (by have := CW.out.size; omega); clear hX hg; replace A := cell_later hb A; replace CC0 := cell_later hb CC0; replace CC1 := cell_later hb CC1; replace CC2 := cell_later hb CC2; replace CF0 := frozen_later hb CO.c0 CF0; replace CF1 := frozen_later hb CO.c1 CF1; replace CF2 := frozen_later hb CO.c2 CF2; replace CO := CO.later hb; replace CW := hidD CW hb; clear hb))
      have S0 := ((CO.set0 (.int .i64 (n : Int))).set1 (.int .i64 (m : Int))).set2 (.slice (some ⟨g', 0, none⟩) (n * m) cap)
      have s0 := S0.c0
      have s1 := S0.c1
      have s2 := S0.c2
      have HW6 : Hid (Below w.heap.size w wz) := bchain HU5.out CW.out
      clear A CC0 CC1 CC2 CF0 CF1 CF2 CO CW CC S0 HU5
      go_wp2
      exact bodyPost_ret (v := .tuple #[.agg #[.int .i64 (n : Int), .int .i64 (m : Int), .slice (some ⟨g', 0, none⟩) (n * m) cap], .int .i64 0]) (by simp [results, Tryd.results38, go_sem, s0, s1, s2] <;> rfl) rfl ⟨_, _, _, rfl, rfl, rfl, ⟨fun _ => ((HX.out.far _ (by dsimp only; omega)).far _ (by dsimp only; omega)).far _ (by dsimp only; omega), fun h => absurd rfl h, fun a n' cap' e _ => (by cases e; show w.heap.size ≤ g'; omega)⟩, ((HW6.out.setCell (by dsimp only; omega) _).setCell (by dsimp only; omega) _).setCell (by dsimp only; omega) _⟩
    · rw [decide_eq_false hnm] at CF
      have HERR := ERR 3 (by unfold oE; rw [if_neg (by omega), if_neg (by omega), if_pos (by omega)]) (by decide)
      have S0 := ((R4.set0 (.int .i64 0)).set1 (.int .i64 0)).set2 (.slice none 0 0)
      have s0 := S0.c0
      have s1 := S0.c1
      have s2 := S0.c2
      clear hA hB R4 S0 hb3 hb4 hs4 ERR cu HU4
      go_enter Tryd.func38, Tryd.ntmps38
      go_wp2_with fail
      rw [HW4.out]
      refine CK.out.mono ?_
      rintro e w1 ⟨rfl, hz⟩
      subst hz
      clear CK
      go_wp2_with fail
      refine (CF.out _).mono ?_
      rintro e w1 ⟨rfl, hz⟩
      subst hz
      clear CF
      go_wp2
      exact bodyPost_ret (v := .tuple #[.agg #[.int .i64 0, .int .i64 0, .slice none 0 0], .int .i64 3]) (by simp [results, Tryd.results38, go_sem, s0, s1, s2] <;> rfl) rfl (HERR.out _ rfl)

theorem vec4 : Vec4 where
  outerU := fun va vb n m f g d c w hn hm c0 c1 _ hA hB ha hb hU => Outer_un va vb n m f g d c w hn hm c0 c1 hA hB ha hb hU
end Go.Proofs.YtldnnjcfihjkdaaDoor
