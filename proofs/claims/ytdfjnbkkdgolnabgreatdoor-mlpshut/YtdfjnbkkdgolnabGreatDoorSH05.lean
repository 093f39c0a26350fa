/-
  Texts of this proof, joined: PWalkI MUnit NWalkD NWalkB.
-/
import Derived.Test.YtdfjnbkkdgolnabGreatDoorSH03
import Derived.Test.YtdfjnbkkdgolnabGreatDoorSH04
set_option linter.unusedVariables false
set_option linter.unusedSimpArgs false
namespace Go.Proofs.YtdfjnbkkdgolnabGreatDoor
open Go.RowKit

/-- One more of a row's places. -/
def updN (h : Nat → Nat) (j b : Nat) : Nat → Nat := fun k => if k = j then b else h k
theorem upd_at (h : Nat → Nat) (j b : Nat) : updN h j b j = b := by unfold updN; simp
theorem upd_lt (h : Nat → Nat) (j b k : Nat) (hk : k < j) : updN h j b k = h k := by unfold updN; rw [if_neg (by omega)]
theorem dinfo_fs : (Tryz.prog.info? 23).map (fun i => (i.zero, i.size, i.bytes)) = some (some (.slice none 0 0), 1, 24) := by kernel_rfl
theorem make_fs (n : Nat) (hn : n ≤ 1000000) (w : World) : (Instr.makeSlice 28 (.int .i64 (n : Int)) (.int .i64 (n : Int))).run Tryz.prog w = .ok (.slice (some ⟨w.heap.size, 0, none⟩) n n) (w.alloc (.cells (madeCells #[.slice none 0 0] n) 23)) := by
  obtain ⟨i0, hi, hz0, hz1, hz2⟩ := info_parts dinfo_fs
  have h := run_make (P := Tryz.prog) w 28 23 i0 (.slice none 0 0) Tryz.underlying28 hi hz0 .i64 .i64 (n : Int) (n : Int) (by omega) (by omega) (by rw [hz2]; omega) (by omega)
  rw [hz1, Nat.mul_one] at h
  exact h

set_option maxRecDepth 100000 in
set_option maxHeartbeats 4000000 in
theorem each_outer (p q : Value) (S : Nat → (Nat → Nat) → World → Prop) (va : Value) (n m : Nat) (f : Nat → Int) (w : World) (hn : n ≤ 70000) (hA : Ar w va n f)
    (S0 : ∀ h, S 0 h w) (SL : ∀ j h W W', S j h W → Below W.heap.size W W' → S j h W') (SS : ∀ j h W (a : Addr) u, w.heap.size = a.block → S j h W → S j h (W.setCell a u)) (SA : ∀ j h W, S j h W → Ar W va n f)
    (HS : ∀ j h W, j < n → w.heap.size < W.heap.size → S j h W → Calls Tryz.prog 69 #[.int .i64 (f j), p, q] W fun e w' => ∃ b, e = .returned (.slice (some ⟨b, 0, none⟩) m m) ∧ S (j + 1) (updN h j b) w' ∧ w'.heap[w.heap.size]? = W.heap[w.heap.size]? ∧ W.heap.size ≤ w'.heap.size) :
    Calls Tryz.prog 68 #[va, .func (.func 69) #[] #[p, q]] w fun e w' => e = .returned (.slice (some ⟨w.heap.size, 0, none⟩) n n) ∧ ∃ h, S n h w' ∧ Rw w.heap.size n (fun k => .slice (some ⟨h k, 0, none⟩) m m) w' := by
  obtain ⟨adr, cap, b, o, rfl, k1, k2, -, -⟩ := id hA
  unfold maxLen at *
  have hmk := make_fs n (by omega)
  have hR0 := Rw.made w (.slice none 0 0) n 23
  have hS0 : Hid (∀ h, S 0 h (w.alloc (.cells (madeCells #[.slice none 0 0] n) 23))) := fun h => SL 0 h _ _ (S0 h) (bel1 _ _)
  have hz0 : w.heap.size < (w.alloc (.cells (madeCells #[.slice none 0 0] n) 23)).heap.size := by rw [World.size_alloc]; omega
  have HSA : Hid (∀ j h W, S j h W → Ar W (.slice adr n cap) n f) := SA
  have HHS : Hid (∀ j h W, j < n → w.heap.size < W.heap.size → S j h W → Calls Tryz.prog 69 #[.int .i64 (f j), p, q] W fun e w' => ∃ b, e = .returned (.slice (some ⟨b, 0, none⟩) m m) ∧ S (j + 1) (updN h j b) w' ∧ w'.heap[w.heap.size]? = W.heap[w.heap.size]? ∧ W.heap.size ≤ w'.heap.size) := HS
  have HSS : Hid (∀ j h W (a : Addr) u, w.heap.size = a.block → S j h W → S j h (W.setCell a u)) := SS
  clear SA HS SS SL S0 hA
  go_enter Tryz.func68, Tryz.ntmps68
  go_upto_region 3 with fail
  generalize w.alloc (.cells (madeCells #[.slice none 0 0] n) 23) = w0 at *
  clear hmk
  go_loopw [13] (fun si wr => ∃ (j : Nat) (h : Nat → Nat), j ≤ n ∧ si = .int .i64 (j : Int) ∧ Hid (S j h wr) ∧ Hid (Rw w.heap.size n (fun k => if k < j then .slice (some ⟨h k, 0, none⟩) m m else .slice none 0 0) wr) ∧ w.heap.size < wr.heap.size) (fun si _ => n - (intOf si).toNat)
  case atStart =>
    exact ⟨0, fun _ => 0, by omega, rfl, hS0.out _, hR0.congr (fun k hk => by simp), hz0⟩
  case round =>
    obtain ⟨j, h, hj, rfl, hS, hR, hz⟩ := hrel
    by_cases hlt : j < n
    · have hjI : (j : Int) < (n : Int) := by omega
      obtain ⟨b, o, rfl, cA, -, -⟩ := (HSA.out j h wr hS.out).at j hlt
      have CM : Hid (Calls Tryz.prog 69 #[.int .i64 (f j), p, q] wr fun e w' => ∃ b, e = .returned (.slice (some ⟨b, 0, none⟩) m m) ∧ S (j + 1) (updN h j b) w' ∧ w'.heap[w.heap.size]? = wr.heap[w.heap.size]? ∧ wr.heap.size ≤ w'.heap.size) := HHS.out j h wr hlt hz hS.out
      clear hS
      go_wp2_with (go_at_call 69; refine CM.out.mono ?_; rintro e wz ⟨bz, rfl, hSz, hbz, hsz⟩; have HSz : Hid (S (j + 1) (updN h j bz) wz) := hSz; have HRz := hR.out.block hbz; have cz : wz.cell? ⟨w.heap.size, j, none⟩ = some (.slice none 0 0) := (by have := HRz.c j hlt; rw [if_neg (by omega)] at this; exact this); have fz := HRz.f j hlt; replace HRz : Hid _ := HRz; clear hSz hbz hR cA)
      have hS2 : Hid (S (j + 1) (updN h j bz) (wz.setCell ⟨w.heap.size, j, none⟩ (.slice (some ⟨bz, 0, none⟩) m m))) := HSS.out _ _ _ _ _ rfl HSz.out
      have hR2 : Hid (Rw w.heap.size n (fun k => if k < j + 1 then .slice (some ⟨updN h j bz k, 0, none⟩) m m else .slice none 0 0) (wz.setCell ⟨w.heap.size, j, none⟩ (.slice (some ⟨bz, 0, none⟩) m m))) := (HRz.out.set j (.slice (some ⟨bz, 0, none⟩) m m)).congr (fun k hk => by
        by_cases e : k = j
        · subst e; rw [if_pos rfl, if_pos (by omega), upd_at]
        · rw [if_neg e]
          by_cases e2 : k < j
          · rw [if_pos e2, if_pos (by omega), upd_lt h j bz k e2]
          · rw [if_neg e2, if_neg (by omega)])
      have hz2 : w.heap.size < (wz.setCell ⟨w.heap.size, j, none⟩ (.slice (some ⟨bz, 0, none⟩) m m)).heap.size := by rw [World.size_setCell]; omega
      go_roundw
      case rel => exact ⟨j + 1, updN h j bz, by omega, by go_num, hS2, hR2, hz2⟩
      case measure => simp [intOf]; omega
    · obtain rfl : j = n := by omega
      have hjI : ¬ (j : Int) < (j : Int) := by omega
      have hAr : Hid (Rw w.heap.size j (fun k => .slice (some ⟨h k, 0, none⟩) m m) wr) := hR.out.congr (fun k hk => by rw [if_pos hk])
      clear hR
      go_wp2
      go_ret
      exact ⟨rfl, h, hS.out, hAr.out⟩

set_option maxHeartbeats 1000000 in
theorem out1_un (k : Int) (k0 : -9223372036854775808 ≤ k) (k1 : k ≤ 9223372036854775807) (va : Value) (n : Nat) (f : Nat → Int) (hn : n ≤ 70000) (bu bl : Nat) (d : Nat) (c : Int) (c0 : 0 ≤ c) (c1 : c ≤ 900000000) (w : World) (hA : Ar w va n f) (ha : Nb va d) (hc : w.cell? ⟨d, 0, none⟩ = some (.int .i64 c)) (hf : w.frozen? ⟨d, 0, none⟩ = false) (cu : w.cell? ⟨bu, 0, none⟩ = some (.pointer (some ⟨d, 0, none⟩))) (cl : w.cell? ⟨bl, 0, none⟩ = some va) :
    Calls Tryz.prog 69 #[.int .i64 k, .pointer (some ⟨bu, 0, none⟩), .pointer (some ⟨bl, 0, none⟩)] w fun e w' => e = .returned (.slice (some ⟨w.heap.size + 2, 0, none⟩) n n) ∧ Ar w' (.slice (some ⟨w.heap.size + 2, 0, none⟩) n n) n (fun i => clv (rnd (k * f i) 32)) ∧ Un d (c + cntV (fun i => ovv (rnd (k * f i) 32)) n) w w' := by
  have CS : Hid (Calls Tryz.prog 70 #[.pointer (some ⟨d, 0, none⟩), .int .i64 k, va] w fun e w' => e = .returned (.slice (some ⟨w.heap.size + 2, 0, none⟩) n n) ∧ Ar w' (.slice (some ⟨w.heap.size + 2, 0, none⟩) n n) n (fun i => clv (rnd (k * f i) 32)) ∧ Un d (c + cntV (fun i => ovv (rnd (k * f i) 32)) n) w w') := scaled_un k k0 k1 va n f hn d c c0 c1 w hA ha hc hf
  obtain ⟨adr, cap, b, o, rfl, -, -, -, -⟩ := hA
  clear ha hc hf
  go_enter Tryz.func69, Tryz.ntmps69
  go_wp2_with fail
  refine CS.out.mono ?_
  rintro e w1 ⟨rfl, hX, hU⟩
  have HX : Hid (Ar w1 (.slice (some ⟨w.heap.size + 2, 0, none⟩) n n) n (fun i => clv (rnd (k * f i) 32))) := hX
  clear CS cu cl hX
  go_wp2
  go_ret
  exact ⟨rfl, HX.out, hU⟩

set_option maxHeartbeats 1000000 in
theorem out1_nil (k : Int) (k0 : -9223372036854775808 ≤ k) (k1 : k ≤ 9223372036854775807) (va : Value) (n : Nat) (f : Nat → Int) (hn : n ≤ 70000) (bu bl : Nat) (w : World) (hA : Ar w va n f) (cu : w.cell? ⟨bu, 0, none⟩ = some (.pointer none)) (cl : w.cell? ⟨bl, 0, none⟩ = some va) :
    Calls Tryz.prog 69 #[.int .i64 k, .pointer (some ⟨bu, 0, none⟩), .pointer (some ⟨bl, 0, none⟩)] w fun e w' => e = .returned (.slice (some ⟨w.heap.size + 2, 0, none⟩) n n) ∧ Ar w' (.slice (some ⟨w.heap.size + 2, 0, none⟩) n n) n (fun i => clv (rnd (k * f i) 32)) ∧ Below w.heap.size w w' := by
  have CS : Hid (Calls Tryz.prog 70 #[.pointer none, .int .i64 k, va] w fun e w' => e = .returned (.slice (some ⟨w.heap.size + 2, 0, none⟩) n n) ∧ Ar w' (.slice (some ⟨w.heap.size + 2, 0, none⟩) n n) n (fun i => clv (rnd (k * f i) 32)) ∧ Below w.heap.size w w') := scaled_nil k k0 k1 va n f hn w hA
  obtain ⟨adr, cap, b, o, rfl, -, -, -, -⟩ := hA
  skip
  go_enter Tryz.func69, Tryz.ntmps69
  go_wp2_with fail
  refine CS.out.mono ?_
  rintro e w1 ⟨rfl, hX, hU⟩
  have HX : Hid (Ar w1 (.slice (some ⟨w.heap.size + 2, 0, none⟩) n n) n (fun i => clv (rnd (k * f i) 32))) := hX
  clear CS cu cl hX
  go_wp2
  go_ret
  exact ⟨rfl, HX.out, hU⟩

set_option maxRecDepth 100000 in
set_option maxHeartbeats 8000000 in
theorem Outer_un (va vb : Value) (n m : Nat) (f g : Nat → Int) (d : Nat) (c : Int) (w : World) (hn : n ≤ 70000) (hm : m ≤ 70000) (c0 : 0 ≤ c) (c1 : c ≤ 800000000) (hA : Ar w va n f) (hB : Ar w vb m g) (ha : Nb va d) (hb : Nb vb d) (hU : Uc w d c) :
    Calls Tryz.prog 52 #[.pointer (some ⟨d, 0, none⟩), va, vb] w fun e w' => ∃ (r k : Int) (v' : Value), e = .returned (.tuple #[.agg #[.int .i64 r, .int .i64 k, v'], .int .i64 (oE n m)]) ∧ r = cE (oE n m) (n : Int) ∧ k = cE (oE n m) (m : Int) ∧ LL w w' v' (n * m) (otX f g m) (oE n m) ∧ Un d (c + cE (oE n m) (otN f g m n)) w w' := by
  obtain ⟨ada, ca, ba, oa, rfl, x1, x2, -, -⟩ := id hA
  obtain ⟨adb, cb, bb, ob, rfl, y1, y2, -, -⟩ := id hB
  have hmf := hmf_any
  have hb3 := bel3 w (.cells #[.pointer (some ⟨d, 0, none⟩)] 45) (.cells #[.slice adb m cb] 23) (.cells #[.int .i64 0, .int .i64 0, .slice none 0 0] 64)
  have hb4 := bchain hb3 (bel1 _ (.cells #[.slice ada n ca, .slice adb m cb] 23))
  have hs4 : ((((w.alloc (.cells #[.pointer (some ⟨d, 0, none⟩)] 45)).alloc (.cells #[.slice adb m cb] 23)).alloc (.cells #[.int .i64 0, .int .i64 0, .slice none 0 0] 64)).alloc (.cells #[.slice ada n ca, .slice adb m cb] 23)).heap.size = w.heap.size + 4 := by simp
  have cu : ((((w.alloc (.cells #[.pointer (some ⟨d, 0, none⟩)] 45)).alloc (.cells #[.slice adb m cb] 23)).alloc (.cells #[.int .i64 0, .int .i64 0, .slice none 0 0] 64)).alloc (.cells #[.slice ada n ca, .slice adb m cb] 23)).cell? ⟨w.heap.size, 0, none⟩ = some (.pointer (some ⟨d, 0, none⟩)) := cell_later (bel1 _ _) (cell_later (bel1 _ _) (cell_later (bel1 _ _) (cell_new1 w _ _)))
  have cl : ((((w.alloc (.cells #[.pointer (some ⟨d, 0, none⟩)] 45)).alloc (.cells #[.slice adb m cb] 23)).alloc (.cells #[.int .i64 0, .int .i64 0, .slice none 0 0] 64)).alloc (.cells #[.slice ada n ca, .slice adb m cb] 23)).cell? ⟨w.heap.size + 1, 0, none⟩ = some (.slice adb m cb) := by have h := cell_new1 (w.alloc (.cells #[.pointer (some ⟨d, 0, none⟩)] 45)) (.slice adb m cb) 23; rw [World.size_alloc] at h; exact cell_later (bel1 _ _) (cell_later (bel1 _ _) h)
  have cl3 : (((w.alloc (.cells #[.pointer (some ⟨d, 0, none⟩)] 45)).alloc (.cells #[.slice adb m cb] 23)).alloc (.cells #[.int .i64 0, .int .i64 0, .slice none 0 0] 64)).cell? ⟨w.heap.size + 1, 0, none⟩ = some (.slice adb m cb) := by have h := cell_new1 (w.alloc (.cells #[.pointer (some ⟨d, 0, none⟩)] 45)) (.slice adb m cb) 23; rw [World.size_alloc] at h; exact cell_later (bel1 _ _) h
  have R4 : B3 (w.heap.size + 2) (.int .i64 0) (.int .i64 0) (.slice none 0 0) ((((w.alloc (.cells #[.pointer (some ⟨d, 0, none⟩)] 45)).alloc (.cells #[.slice adb m cb] 23)).alloc (.cells #[.int .i64 0, .int .i64 0, .slice none 0 0] 64)).alloc (.cells #[.slice ada n ca, .slice adb m cb] 23)) := by
    have h := (B3.new ((w.alloc (.cells #[.pointer (some ⟨d, 0, none⟩)] 45)).alloc (.cells #[.slice adb m cb] 23)) (.int .i64 0) (.int .i64 0) (.slice none 0 0) 64).later (bel1 _ (.cells #[.slice ada n ca, .slice adb m cb] 23))
    simp only [World.size_alloc] at h
    exact h
  obtain ⟨hc, hf⟩ := hU
  have hd := World.block_lt_of_cell? _ _ hc
  dsimp only at hd
  have hc' := cell_later hb4 hc
  have hf' := frozen_later hb4 hc hf
  unfold maxLen at *
  have HU4 : Hid (Un d (c) w ((((w.alloc (.cells #[.pointer (some ⟨d, 0, none⟩)] 45)).alloc (.cells #[.slice adb m cb] 23)).alloc (.cells #[.int .i64 0, .int .i64 0, .slice none 0 0] 64)).alloc (.cells #[.slice ada n ca, .slice adb m cb] 23))) := Un.after hb4 (Un.same hc' hf')
  generalize hW4 : ((((w.alloc (.cells #[.pointer (some ⟨d, 0, none⟩)] 45)).alloc (.cells #[.slice adb m cb] 23)).alloc (.cells #[.int .i64 0, .int .i64 0, .slice none 0 0] 64)).alloc (.cells #[.slice ada n ca, .slice adb m cb] 23)) = W4 at *
  have HW4 : Hid (((((w.alloc (.cells #[.pointer (some ⟨d, 0, none⟩)] 45)).alloc (.cells #[.slice adb m cb] 23)).alloc (.cells #[.int .i64 0, .int .i64 0, .slice none 0 0] 64)).alloc (.cells #[.slice ada n ca, .slice adb m cb] 23)) = W4) := hW4
  clear hW4
  have ERR : ∀ E : Int, oE n m = E → E ≠ 0 → Hid (∀ W : World, W = ((W4.setCell ⟨w.heap.size + 2, 0, none⟩ (.int .i64 0)).setCell ⟨w.heap.size + 2, 1, none⟩ (.int .i64 0)).setCell ⟨w.heap.size + 2, 2, none⟩ (.slice none 0 0) → ∃ (r k : Int) (v' : Value), Ending.returned (.tuple #[.agg #[.int .i64 0, .int .i64 0, .slice none 0 0], .int .i64 E]) = .returned (.tuple #[.agg #[.int .i64 r, .int .i64 k, v'], .int .i64 (oE n m)]) ∧ r = cE (oE n m) (n : Int) ∧ k = cE (oE n m) (m : Int) ∧ LL w W v' (n * m) (otX f g m) (oE n m) ∧ Un d (c + cE (oE n m) (otN f g m n)) w W) := by
    intro E hE hne W hW
    subst hW
    rw [hE]
    refine ⟨0, 0, .slice none 0 0, rfl, by unfold cE; rw [if_neg hne], by unfold cE; rw [if_neg hne], ⟨fun h => absurd h hne, fun _ => ⟨none, 0, rfl⟩, fun a n' cap' e => by cases e⟩, ?_⟩
    unfold cE; rw [if_neg hne, Int.add_zero]; exact ((HU4.out.setnew _ _ hd (by dsimp only; omega)).setnew _ _ hd (by dsimp only; omega)).setnew _ _ hd (by dsimp only; omega)
  rcases (show n = 0 ∨ (0 < n ∧ m = 0) ∨ (0 < n ∧ 0 < m ∧ (65536 < n ∨ 65536 < m)) ∨ (0 < n ∧ 0 < m ∧ n ≤ 65536 ∧ m ≤ 65536) by omega) with h0 | ⟨h1, h0⟩ | ⟨h1, h2, h3⟩ | ⟨h1, h2, h3, h4⟩
  · have hp1 : ¬ 0 < n := by omega
    have hp2 : ¬ (0 : Int) < (n : Int) := by omega
    obtain ⟨E, hE⟩ : ∃ E, oE n m = E := ⟨_, rfl⟩
    have hne : ¬ E = 0 := by rw [← hE]; unfold oE; split; decide; rw [if_pos (Or.inl h0)]; decide
    have hck : (if 65536 < n ∨ 65536 < m then (3 : Int) else if false = true then 0 else 40) = E := by rw [← hE]; unfold oE; rw [if_neg (show ¬ false = true by decide), if_pos (Or.inl h0)]
    clear h0
    have CK : Hid (Calls Tryz.prog 32 #[.bool false, .slice (some ⟨(((w.alloc (.cells #[.pointer (some ⟨d, 0, none⟩)] 45)).alloc (.cells #[.slice adb m cb] 23)).alloc (.cells #[.int .i64 0, .int .i64 0, .slice none 0 0] 64)).heap.size, 0, none⟩) 2 2] W4 fun e w' => e = .returned (.int .i64 E) ∧ w' = W4) := by
      have h := check2_any false (((w.alloc (.cells #[.pointer (some ⟨d, 0, none⟩)] 45)).alloc (.cells #[.slice adb m cb] 23)).alloc (.cells #[.int .i64 0, .int .i64 0, .slice none 0 0] 64)) ada adb n ca m cb (by unfold maxLen; omega) (by unfold maxLen; omega)
      rw [hck] at h
      rw [HW4.out] at h
      exact h
    simp only [World.size_alloc] at CK
    have HERR := ERR E hE hne
    have z0 := R4.c0
    have z1 := R4.c1
    have z2 := R4.c2
    have q0 := R4.f0
    have q1 := R4.f1
    have q2 := R4.f2
    have S0 := ((R4.set0 (.int .i64 0)).set1 (.int .i64 0)).set2 (.slice none 0 0)
    have s0 := S0.c0
    have s1 := S0.c1
    have s2 := S0.c2
    clear hA hB ha hb hc hf hc' hf' R4 S0 hb3 hb4 hs4 ERR cu HU4
    go_enter Tryz.func52, Tryz.ntmps52
    go_wp2_with fail
    rw [HW4.out]
    refine CK.out.mono ?_
    rintro e w1 ⟨rfl, hz⟩
    subst hz
    clear CK
    go_wp2
    exact bodyPost_ret (v := .tuple #[.agg #[.int .i64 0, .int .i64 0, .slice none 0 0], .int .i64 E]) (by simp [results, Tryz.results52, go_sem, s0, s1, s2] <;> rfl) rfl (HERR.out _ rfl)
  · have hp2 : (0 : Int) < (n : Int) := by omega
    have hp3 : ¬ 0 < m := by omega
    have hp4 : ¬ (0 : Int) < (m : Int) := by omega
    obtain ⟨E, hE⟩ : ∃ E, oE n m = E := ⟨_, rfl⟩
    have hne : ¬ E = 0 := by rw [← hE]; unfold oE; split; decide; rw [if_pos (Or.inr h0)]; decide
    have hck : (if 65536 < n ∨ 65536 < m then (3 : Int) else if false = true then 0 else 40) = E := by rw [← hE]; unfold oE; rw [if_neg (show ¬ false = true by decide), if_pos (Or.inr h0)]
    clear h0
    have CK : Hid (Calls Tryz.prog 32 #[.bool false, .slice (some ⟨(((w.alloc (.cells #[.pointer (some ⟨d, 0, none⟩)] 45)).alloc (.cells #[.slice adb m cb] 23)).alloc (.cells #[.int .i64 0, .int .i64 0, .slice none 0 0] 64)).heap.size, 0, none⟩) 2 2] W4 fun e w' => e = .returned (.int .i64 E) ∧ w' = W4) := by
      have h := check2_any false (((w.alloc (.cells #[.pointer (some ⟨d, 0, none⟩)] 45)).alloc (.cells #[.slice adb m cb] 23)).alloc (.cells #[.int .i64 0, .int .i64 0, .slice none 0 0] 64)) ada adb n ca m cb (by unfold maxLen; omega) (by unfold maxLen; omega)
      rw [hck] at h
      rw [HW4.out] at h
      exact h
    simp only [World.size_alloc] at CK
    have HERR := ERR E hE hne
    have z0 := R4.c0
    have z1 := R4.c1
    have z2 := R4.c2
    have q0 := R4.f0
    have q1 := R4.f1
    have q2 := R4.f2
    have S0 := ((R4.set0 (.int .i64 0)).set1 (.int .i64 0)).set2 (.slice none 0 0)
    have s0 := S0.c0
    have s1 := S0.c1
    have s2 := S0.c2
    clear hA hB ha hb hc hf hc' hf' R4 S0 hb3 hb4 hs4 ERR cu HU4
    go_enter Tryz.func52, Tryz.ntmps52
    go_wp2_with fail
    rw [HW4.out]
    refine CK.out.mono ?_
    rintro e w1 ⟨rfl, hz⟩
    subst hz
    clear CK
    go_wp2
    exact bodyPost_ret (v := .tuple #[.agg #[.int .i64 0, .int .i64 0, .slice none 0 0], .int .i64 E]) (by simp [results, Tryz.results52, go_sem, s0, s1, s2] <;> rfl) rfl (HERR.out _ rfl)
  · have hp2 : (0 : Int) < (n : Int) := by omega
    have hp4 : (0 : Int) < (m : Int) := by omega
    have CK : Hid (Calls Tryz.prog 32 #[.bool true, .slice (some ⟨(((w.alloc (.cells #[.pointer (some ⟨d, 0, none⟩)] 45)).alloc (.cells #[.slice adb m cb] 23)).alloc (.cells #[.int .i64 0, .int .i64 0, .slice none 0 0] 64)).heap.size, 0, none⟩) 2 2] W4 fun e w' => e = .returned (.int .i64 3) ∧ w' = W4) := by
      have h := check2_any true (((w.alloc (.cells #[.pointer (some ⟨d, 0, none⟩)] 45)).alloc (.cells #[.slice adb m cb] 23)).alloc (.cells #[.int .i64 0, .int .i64 0, .slice none 0 0] 64)) ada adb n ca m cb (by unfold maxLen; omega) (by unfold maxLen; omega)
      rw [if_pos h3] at h
      rw [HW4.out] at h
      exact h
    simp only [World.size_alloc] at CK
    have HERR := ERR 3 (by unfold oE; rw [if_pos h3]) (by decide)
    have z0 := R4.c0
    have z1 := R4.c1
    have z2 := R4.c2
    have q0 := R4.f0
    have q1 := R4.f1
    have q2 := R4.f2
    have S0 := ((R4.set0 (.int .i64 0)).set1 (.int .i64 0)).set2 (.slice none 0 0)
    have s0 := S0.c0
    have s1 := S0.c1
    have s2 := S0.c2
    clear hA hB ha hb hc hf hc' hf' R4 S0 hb3 hb4 hs4 ERR cu HU4
    go_enter Tryz.func52, Tryz.ntmps52
    go_wp2_with fail
    rw [HW4.out]
    refine CK.out.mono ?_
    rintro e w1 ⟨rfl, hz⟩
    subst hz
    clear CK
    go_wp2
    exact bodyPost_ret (v := .tuple #[.agg #[.int .i64 0, .int .i64 0, .slice none 0 0], .int .i64 3]) (by simp [results, Tryz.results52, go_sem, s0, s1, s2] <;> rfl) rfl (HERR.out _ rfl)
  · have hp2 : (0 : Int) < (n : Int) := by omega
    have hp4 : (0 : Int) < (m : Int) := by omega
    have CK : Hid (Calls Tryz.prog 32 #[.bool true, .slice (some ⟨(((w.alloc (.cells #[.pointer (some ⟨d, 0, none⟩)] 45)).alloc (.cells #[.slice adb m cb] 23)).alloc (.cells #[.int .i64 0, .int .i64 0, .slice none 0 0] 64)).heap.size, 0, none⟩) 2 2] W4 fun e w' => e = .returned (.int .i64 0) ∧ w' = W4) := by
      have h := check2_any true (((w.alloc (.cells #[.pointer (some ⟨d, 0, none⟩)] 45)).alloc (.cells #[.slice adb m cb] 23)).alloc (.cells #[.int .i64 0, .int .i64 0, .slice none 0 0] 64)) ada adb n ca m cb (by unfold maxLen; omega) (by unfold maxLen; omega)
      rw [if_neg (by omega), if_pos rfl, HW4.out] at h
      exact h
    simp only [World.size_alloc] at CK
    have CF : Hid (∀ W : World, Calls Tryz.prog 67 #[.int .i64 (n : Int), .int .i64 (m : Int)] W fun e w' => e = .returned (.bool (decide (n * m ≤ 65536))) ∧ w' = W) := fun W => by
      have h := fits_any (n : Int) (m : Int) (by omega) (by omega) (by omega) (by omega) W
      rw [show decide ((n : Int) * (m : Int) ≤ 65536) = decide (n * m ≤ 65536) by rw [← Int.natCast_mul]; exact decide_eq_decide.2 (by omega)] at h
      exact h
    have z0 := R4.c0
    have z1 := R4.c1
    have z2 := R4.c2
    have q0 := R4.f0
    have q1 := R4.f1
    have q2 := R4.f2
    by_cases hnm : n * m ≤ 65536
    · rw [decide_eq_true hnm] at CF
      have hE : oE n m = 0 := by unfold oE; rw [if_neg (by omega), if_neg (by omega), if_neg (by omega)]
      have CE : Hid (Calls Tryz.prog 68 #[.slice ada n ca, .func (.func 69) #[] #[.pointer (some ⟨w.heap.size, 0, none⟩), .pointer (some ⟨w.heap.size + 1, 0, none⟩)]] W4 fun e w' => e = .returned (.slice (some ⟨W4.heap.size, 0, none⟩) n n) ∧ ∃ h : Nat → Nat, (Un d (c + otN f g m n) W4 w' ∧ ∀ k, k < n → W4.heap.size < h k ∧ Ar w' (.slice (some ⟨h k, 0, none⟩) m m) m (fun i => clv (rnd (f k * g i) 32))) ∧ Rw W4.heap.size n (fun k => .slice (some ⟨h k, 0, none⟩) m m) w') := by
        refine each_outer (.pointer (some ⟨w.heap.size, 0, none⟩)) (.pointer (some ⟨w.heap.size + 1, 0, none⟩)) (fun (j : Nat) (h : Nat → Nat) (W : World) => Un d (c + otN f g m j) W4 W ∧ ∀ k, k < j → W4.heap.size < h k ∧ Ar W (.slice (some ⟨h k, 0, none⟩) m m) m (fun i => clv (rnd (f k * g i) 32))) _ n m f W4 hn (hA.later hb4) ?_ ?_ ?_ ?_ ?_
        · intro h
          exact ⟨by simpa [otN] using Un.same hc' hf', fun k hk => absurd hk (Nat.not_lt_zero _)⟩
        · intro j h W W' hS hb'
          exact ⟨hS.1.ahead hb', fun k hk => ⟨(hS.2 k hk).1, (hS.2 k hk).2.later hb'⟩⟩
        · intro j h W a x ha' hS
          exact ⟨hS.1.setnew a x (by rw [hs4]; omega) (by omega), fun k hk => ⟨(hS.2 k hk).1, (hS.2 k hk).2.far x (by have := (hS.2 k hk).1; omega)⟩⟩
        · intro j h W hS
          exact (hA.later hb4).un ha hS.1
        · intro j h W hj hW hS
          obtain ⟨_, _, _, _, _, _, _, _, hx⟩ := id hA
          have hx := (hx j hj).2
          have r := ot_rng f g m j
          have rj : j * m ≤ n * m := Nat.mul_le_mul_right m (by omega)
          refine (out1_un (f j) hx.1 hx.2 (.slice adb m cb) m g hm w.heap.size (w.heap.size + 1) d (c + otN f g m j) (by omega) (by omega) W ((hB.later hb4).un hb hS.1) hb hS.1.c hS.1.f (hS.1.o _ _ (by dsimp only; omega) cu) (hS.1.o _ _ (by dsimp only; omega) cl)).mono ?_
          rintro e w' ⟨rfl, hX, hU⟩
          refine ⟨_, rfl, ⟨?_, ?_⟩, hU.k _ hW (by rw [hs4]; omega), hU.s⟩
          · have e1 : c + otN f g m (j + 1) = c + otN f g m j + cntV (fun i => ovv (rnd (f j * g i) 32)) m := by rw [Int.add_assoc]; rfl
            rw [e1]
            exact hS.1.chain hU
          · intro k hk
            by_cases e : k = j
            · subst e
              rw [upd_at]
              exact ⟨by omega, hX⟩
            · rw [upd_lt h j _ k (by omega)]
              have hk2 := hS.2 k (by omega)
              exact ⟨hk2.1, hk2.2.un (fun a n' cap' e' _ => by cases e'; rw [hs4] at hk2; show h k ≠ d; omega) hU⟩
      rw [hs4] at CE
      rw [hE]
      rw [show c + cE 0 (otN f g m n) = c + otN f g m n by unfold cE; rw [if_pos rfl]]
      clear hA hB ha hb hc hf hc' hf' ERR cu hE hb3
      go_enter Tryz.func52, Tryz.ntmps52
      go_wp2_with fail
      rw [HW4.out]
      refine CK.out.mono ?_
      rintro e w1 ⟨rfl, hz⟩
      subst hz
      clear CK
      go_wp2_with fail
      refine (CF.out _).mono ?_
      rintro e w1 ⟨rfl, hz⟩
      subst hz
      clear CF
      go_wp2_with fail
      refine CE.out.mono ?_
      rintro e w5 ⟨rfl, h, ⟨hU5, hrow⟩, hR5⟩
      skip
      have HU5 : Hid (Un d (c + otN f g m n) w w5) := HU4.out.chain hU5
      have A0 : w5.cell? ⟨w.heap.size + 1, 0, none⟩ = some (.slice adb m cb) := hU5.o _ _ (by dsimp only; omega) cl
      have R5 := R4.block (hU5.k (w.heap.size + 2) (by rw [hs4]; omega) (by omega))
      have hs5 : w.heap.size + 4 ≤ w5.heap.size := by have := hU5.s; rw [hs4] at this; exact this
      have CC : Hid (∀ W : World, Below w5.heap.size w5 W → Calls Tryz.prog 71 #[.slice (some ⟨w.heap.size + 4, 0, none⟩) n n] W fun e w' => ∃ g' cap, e = .returned (.slice (some ⟨g', 0, none⟩) (n * m) cap) ∧ Ar w' (.slice (some ⟨g', 0, none⟩) (n * m) cap) (n * m) (otX f g m) ∧ W.heap.size ≤ g' ∧ Below W.heap.size W w') := fun W hW => concat_any (w.heap.size + 4) n m h (fun k i => clv (rnd (f k * g i) 32)) h1 h2 hnm W (hR5.later hW) (fun k hk => (hrow k hk).2.later hW)
      clear CE hU5 hrow hR5 R4 z0 z1 z2 q0 q1 q2 cl cl3 HU4 hb4 hs4
      go_upto_region 7 with fail
      have hd1 : Below w5.heap.size w5 w5.drew := (Below.refl _ _).drew
      have CO := R5.later hd1
      have A := cell_later hd1 A0
      have CW : Hid (Below w5.heap.size w5 w5.drew) := hd1
      have CC0 := CO.c0
      have CC1 := CO.c1
      have CC2 := CO.c2
      have CF0 := CO.f0
      have CF1 := CO.f1
      have CF2 := CO.f2
      clear hd1 A0 R5
      go_region_held3 (fun w' => w'.cell? ⟨w.heap.size + 1, 0, none⟩ = some (.slice adb m cb))
        (first | exact A | exact cell_set (by dsimp only; omega) (cell_set (by dsimp only; omega) (cell_set (by dsimp only; omega) A)))
        (first
          | (go_at_call 71; refine (CC.out _ CW.out).mono ?_; rintro e wz ⟨g', cap, rfl, hX, hg, hb⟩; have HX : Hid (Ar wz (.slice (some ⟨g', 0, none⟩) (n * m) cap) (n * m) (otX f g m)) := hX; have hg' : w.heap.size + 4 ≤ g' := (by have := CW.out.size; omega); clear hX hg; replace A := cell_later hb A; replace CC0 := cell_later hb CC0; replace CC1 := cell_later hb CC1; replace CC2 := cell_later hb CC2; replace CF0 := frozen_later hb CO.c0 CF0; replace CF1 := frozen_later hb CO.c1 CF1; replace CF2 := frozen_later hb CO.c2 CF2; replace CO := CO.later hb; replace CW := hidD CW hb; clear hb))
      have S0 := ((CO.set0 (.int .i64 (n : Int))).set1 (.int .i64 (m : Int))).set2 (.slice (some ⟨g', 0, none⟩) (n * m) cap)
      have s0 := S0.c0
      have s1 := S0.c1
      have s2 := S0.c2
      have HW6 : Hid (Un d (c + otN f g m n) w wz) := HU5.out.ahead CW.out
      clear A CC0 CC1 CC2 CF0 CF1 CF2 CO CW CC S0 HU5
      go_wp2
      exact bodyPost_ret (v := .tuple #[.agg #[.int .i64 (n : Int), .int .i64 (m : Int), .slice (some ⟨g', 0, none⟩) (n * m) cap], .int .i64 0]) (by simp [results, Tryz.results52, go_sem, s0, s1, s2] <;> rfl) rfl ⟨_, _, _, rfl, rfl, rfl, ⟨fun _ => ((HX.out.far _ (by dsimp only; omega)).far _ (by dsimp only; omega)).far _ (by dsimp only; omega), fun h => absurd rfl h, fun a n' cap' e _ => (by cases e; show w.heap.size ≤ g'; omega)⟩, ((HW6.out.setnew _ _ hd (by dsimp only; omega)).setnew _ _ hd (by dsimp only; omega)).setnew _ _ hd (by dsimp only; omega)⟩
    · rw [decide_eq_false hnm] at CF
      have HERR := ERR 3 (by unfold oE; rw [if_neg (by omega), if_neg (by omega), if_pos (by omega)]) (by decide)
      have S0 := ((R4.set0 (.int .i64 0)).set1 (.int .i64 0)).set2 (.slice none 0 0)
      have s0 := S0.c0
      have s1 := S0.c1
      have s2 := S0.c2
      clear hA hB ha hb hc hf hc' hf' R4 S0 hb3 hb4 hs4 ERR cu HU4
      go_enter Tryz.func52, Tryz.ntmps52
      go_wp2_with fail
      rw [HW4.out]
      refine CK.out.mono ?_
      rintro e w1 ⟨rfl, hz⟩
      subst hz
      clear CK
      go_wp2_with fail
      refine (CF.out _).mono ?_
      rintro e w1 ⟨rfl, hz⟩
      subst hz
      clear CF
      go_wp2
      exact bodyPost_ret (v := .tuple #[.agg #[.int .i64 0, .int .i64 0, .slice none 0 0], .int .i64 3]) (by simp [results, Tryz.results52, go_sem, s0, s1, s2] <;> rfl) rfl (HERR.out _ rfl)

set_option maxRecDepth 100000 in
set_option maxHeartbeats 8000000 in
theorem Outer_nil (va vb : Value) (n m : Nat) (f g : Nat → Int) (w : World) (hn : n ≤ 70000) (hm : m ≤ 70000) (hA : Ar w va n f) (hB : Ar w vb m g) :
    Calls Tryz.prog 52 #[.pointer none, va, vb] w fun e w' => ∃ (r k : Int) (v' : Value), e = .returned (.tuple #[.agg #[.int .i64 r, .int .i64 k, v'], .int .i64 (oE n m)]) ∧ r = cE (oE n m) (n : Int) ∧ k = cE (oE n m) (m : Int) ∧ LL w w' v' (n * m) (otX f g m) (oE n m) ∧ Below w.heap.size w w' := by
  obtain ⟨ada, ca, ba, oa, rfl, x1, x2, -, -⟩ := id hA
  obtain ⟨adb, cb, bb, ob, rfl, y1, y2, -, -⟩ := id hB
  have hmf := hmf_any
  have hb3 := bel3 w (.cells #[.pointer none] 45) (.cells #[.slice adb m cb] 23) (.cells #[.int .i64 0, .int .i64 0, .slice none 0 0] 64)
  have hb4 := bchain hb3 (bel1 _ (.cells #[.slice ada n ca, .slice adb m cb] 23))
  have hs4 : ((((w.alloc (.cells #[.pointer none] 45)).alloc (.cells #[.slice adb m cb] 23)).alloc (.cells #[.int .i64 0, .int .i64 0, .slice none 0 0] 64)).alloc (.cells #[.slice ada n ca, .slice adb m cb] 23)).heap.size = w.heap.size + 4 := by simp
  have cu : ((((w.alloc (.cells #[.pointer none] 45)).alloc (.cells #[.slice adb m cb] 23)).alloc (.cells #[.int .i64 0, .int .i64 0, .slice none 0 0] 64)).alloc (.cells #[.slice ada n ca, .slice adb m cb] 23)).cell? ⟨w.heap.size, 0, none⟩ = some (.pointer none) := cell_later (bel1 _ _) (cell_later (bel1 _ _) (cell_later (bel1 _ _) (cell_new1 w _ _)))
  have cl : ((((w.alloc (.cells #[.pointer none] 45)).alloc (.cells #[.slice adb m cb] 23)).alloc (.cells #[.int .i64 0, .int .i64 0, .slice none 0 0] 64)).alloc (.cells #[.slice ada n ca, .slice adb m cb] 23)).cell? ⟨w.heap.size + 1, 0, none⟩ = some (.slice adb m cb) := by have h := cell_new1 (w.alloc (.cells #[.pointer none] 45)) (.slice adb m cb) 23; rw [World.size_alloc] at h; exact cell_later (bel1 _ _) (cell_later (bel1 _ _) h)
  have cl3 : (((w.alloc (.cells #[.pointer none] 45)).alloc (.cells #[.slice adb m cb] 23)).alloc (.cells #[.int .i64 0, .int .i64 0, .slice none 0 0] 64)).cell? ⟨w.heap.size + 1, 0, none⟩ = some (.slice adb m cb) := by have h := cell_new1 (w.alloc (.cells #[.pointer none] 45)) (.slice adb m cb) 23; rw [World.size_alloc] at h; exact cell_later (bel1 _ _) h
  have R4 : B3 (w.heap.size + 2) (.int .i64 0) (.int .i64 0) (.slice none 0 0) ((((w.alloc (.cells #[.pointer none] 45)).alloc (.cells #[.slice adb m cb] 23)).alloc (.cells #[.int .i64 0, .int .i64 0, .slice none 0 0] 64)).alloc (.cells #[.slice ada n ca, .slice adb m cb] 23)) := by
    have h := (B3.new ((w.alloc (.cells #[.pointer none] 45)).alloc (.cells #[.slice adb m cb] 23)) (.int .i64 0) (.int .i64 0) (.slice none 0 0) 64).later (bel1 _ (.cells #[.slice ada n ca, .slice adb m cb] 23))
    simp only [World.size_alloc] at h
    exact h
  unfold maxLen at *
  have HU4 : Hid (Below w.heap.size w ((((w.alloc (.cells #[.pointer none] 45)).alloc (.cells #[.slice adb m cb] 23)).alloc (.cells #[.int .i64 0, .int .i64 0, .slice none 0 0] 64)).alloc (.cells #[.slice ada n ca, .slice adb m cb] 23))) := hb4
  generalize hW4 : ((((w.alloc (.cells #[.pointer none] 45)).alloc (.cells #[.slice adb m cb] 23)).alloc (.cells #[.int .i64 0, .int .i64 0, .slice none 0 0] 64)).alloc (.cells #[.slice ada n ca, .slice adb m cb] 23)) = W4 at *
  have HW4 : Hid (((((w.alloc (.cells #[.pointer none] 45)).alloc (.cells #[.slice adb m cb] 23)).alloc (.cells #[.int .i64 0, .int .i64 0, .slice none 0 0] 64)).alloc (.cells #[.slice ada n ca, .slice adb m cb] 23)) = W4) := hW4
  clear hW4
  have ERR : ∀ E : Int, oE n m = E → E ≠ 0 → Hid (∀ W : World, W = ((W4.setCell ⟨w.heap.size + 2, 0, none⟩ (.int .i64 0)).setCell ⟨w.heap.size + 2, 1, none⟩ (.int .i64 0)).setCell ⟨w.heap.size + 2, 2, none⟩ (.slice none 0 0) → ∃ (r k : Int) (v' : Value), Ending.returned (.tuple #[.agg #[.int .i64 0, .int .i64 0, .slice none 0 0], .int .i64 E]) = .returned (.tuple #[.agg #[.int .i64 r, .int .i64 k, v'], .int .i64 (oE n m)]) ∧ r = cE (oE n m) (n : Int) ∧ k = cE (oE n m) (m : Int) ∧ LL w W v' (n * m) (otX f g m) (oE n m) ∧ Below w.heap.size w W) := by
    intro E hE hne W hW
    subst hW
    rw [hE]
    refine ⟨0, 0, .slice none 0 0, rfl, by unfold cE; rw [if_neg hne], by unfold cE; rw [if_neg hne], ⟨fun h => absurd h hne, fun _ => ⟨none, 0, rfl⟩, fun a n' cap' e => by cases e⟩, ?_⟩
    exact ((HU4.out.setCell (by dsimp only; omega) _).setCell (by dsimp only; omega) _).setCell (by dsimp only; omega) _
  rcases (show n = 0 ∨ (0 < n ∧ m = 0) ∨ (0 < n ∧ 0 < m ∧ (65536 < n ∨ 65536 < m)) ∨ (0 < n ∧ 0 < m ∧ n ≤ 65536 ∧ m ≤ 65536) by omega) with h0 | ⟨h1, h0⟩ | ⟨h1, h2, h3⟩ | ⟨h1, h2, h3, h4⟩
  · have hp1 : ¬ 0 < n := by omega
    have hp2 : ¬ (0 : Int) < (n : Int) := by omega
    obtain ⟨E, hE⟩ : ∃ E, oE n m = E := ⟨_, rfl⟩
    have hne : ¬ E = 0 := by rw [← hE]; unfold oE; split; decide; rw [if_pos (Or.inl h0)]; decide
    have hck : (if 65536 < n ∨ 65536 < m then (3 : Int) else if false = true then 0 else 40) = E := by rw [← hE]; unfold oE; rw [if_neg (show ¬ false = true by decide), if_pos (Or.inl h0)]
    clear h0
    have CK : Hid (Calls Tryz.prog 32 #[.bool false, .slice (some ⟨(((w.alloc (.cells #[.pointer none] 45)).alloc (.cells #[.slice adb m cb] 23)).alloc (.cells #[.int .i64 0, .int .i64 0, .slice none 0 0] 64)).heap.size, 0, none⟩) 2 2] W4 fun e w' => e = .returned (.int .i64 E) ∧ w' = W4) := by
      have h := check2_any false (((w.alloc (.cells #[.pointer none] 45)).alloc (.cells #[.slice adb m cb] 23)).alloc (.cells #[.int .i64 0, .int .i64 0, .slice none 0 0] 64)) ada adb n ca m cb (by unfold maxLen; omega) (by unfold maxLen; omega)
      rw [hck] at h
      rw [HW4.out] at h
      exact h
    simp only [World.size_alloc] at CK
    have HERR := ERR E hE hne
    have z0 := R4.c0
    have z1 := R4.c1
    have z2 := R4.c2
    have q0 := R4.f0
    have q1 := R4.f1
    have q2 := R4.f2
    have S0 := ((R4.set0 (.int .i64 0)).set1 (.int .i64 0)).set2 (.slice none 0 0)
    have s0 := S0.c0
    have s1 := S0.c1
    have s2 := S0.c2
    clear hA hB R4 S0 hb3 hb4 hs4 ERR cu HU4
    go_enter Tryz.func52, Tryz.ntmps52
    go_wp2_with fail
    rw [HW4.out]
    refine CK.out.mono ?_
    rintro e w1 ⟨rfl, hz⟩
    subst hz
    clear CK
    go_wp2
    exact bodyPost_ret (v := .tuple #[.agg #[.int .i64 0, .int .i64 0, .slice none 0 0], .int .i64 E]) (by simp [results, Tryz.results52, go_sem, s0, s1, s2] <;> rfl) rfl (HERR.out _ rfl)
  · have hp2 : (0 : Int) < (n : Int) := by omega
    have hp3 : ¬ 0 < m := by omega
    have hp4 : ¬ (0 : Int) < (m : Int) := by omega
    obtain ⟨E, hE⟩ : ∃ E, oE n m = E := ⟨_, rfl⟩
    have hne : ¬ E = 0 := by rw [← hE]; unfold oE; split; decide; rw [if_pos (Or.inr h0)]; decide
    have hck : (if 65536 < n ∨ 65536 < m then (3 : Int) else if false = true then 0 else 40) = E := by rw [← hE]; unfold oE; rw [if_neg (show ¬ false = true by decide), if_pos (Or.inr h0)]
    clear h0
    have CK : Hid (Calls Tryz.prog 32 #[.bool false, .slice (some ⟨(((w.alloc (.cells #[.pointer none] 45)).alloc (.cells #[.slice adb m cb] 23)).alloc (.cells #[.int .i64 0, .int .i64 0, .slice none 0 0] 64)).heap.size, 0, none⟩) 2 2] W4 fun e w' => e = .returned (.int .i64 E) ∧ w' = W4) := by
      have h := check2_any false (((w.alloc (.cells #[.pointer none] 45)).alloc (.cells #[.slice adb m cb] 23)).alloc (.cells #[.int .i64 0, .int .i64 0, .slice none 0 0] 64)) ada adb n ca m cb (by unfold maxLen; omega) (by unfold maxLen; omega)
      rw [hck] at h
      rw [HW4.out] at h
      exact h
    simp only [World.size_alloc] at CK
    have HERR := ERR E hE hne
    have z0 := R4.c0
    have z1 := R4.c1
    have z2 := R4.c2
    have q0 := R4.f0
    have q1 := R4.f1
    have q2 := R4.f2
    have S0 := ((R4.set0 (.int .i64 0)).set1 (.int .i64 0)).set2 (.slice none 0 0)
    have s0 := S0.c0
    have s1 := S0.c1
    have s2 := S0.c2
    clear hA hB R4 S0 hb3 hb4 hs4 ERR cu HU4
    go_enter Tryz.func52, Tryz.ntmps52
    go_wp2_with fail
    rw [HW4.out]
    refine CK.out.mono ?_
    rintro e w1 ⟨rfl, hz⟩
    subst hz
    clear CK
    go_wp2
    exact bodyPost_ret (v := .tuple #[.agg #[.int .i64 0, .int .i64 0, .slice none 0 0], .int .i64 E]) (by simp [results, Tryz.results52, go_sem, s0, s1, s2] <;> rfl) rfl (HERR.out _ rfl)
  · have hp2 : (0 : Int) < (n : Int) := by omega
    have hp4 : (0 : Int) < (m : Int) := by omega
    have CK : Hid (Calls Tryz.prog 32 #[.bool true, .slice (some ⟨(((w.alloc (.cells #[.pointer none] 45)).alloc (.cells #[.slice adb m cb] 23)).alloc (.cells #[.int .i64 0, .int .i64 0, .slice none 0 0] 64)).heap.size, 0, none⟩) 2 2] W4 fun e w' => e = .returned (.int .i64 3) ∧ w' = W4) := by
      have h := check2_any true (((w.alloc (.cells #[.pointer none] 45)).alloc (.cells #[.slice adb m cb] 23)).alloc (.cells #[.int .i64 0, .int .i64 0, .slice none 0 0] 64)) ada adb n ca m cb (by unfold maxLen; omega) (by unfold maxLen; omega)
      rw [if_pos h3] at h
      rw [HW4.out] at h
      exact h
    simp only [World.size_alloc] at CK
    have HERR := ERR 3 (by unfold oE; rw [if_pos h3]) (by decide)
    have z0 := R4.c0
    have z1 := R4.c1
    have z2 := R4.c2
    have q0 := R4.f0
    have q1 := R4.f1
    have q2 := R4.f2
    have S0 := ((R4.set0 (.int .i64 0)).set1 (.int .i64 0)).set2 (.slice none 0 0)
    have s0 := S0.c0
    have s1 := S0.c1
    have s2 := S0.c2
    clear hA hB R4 S0 hb3 hb4 hs4 ERR cu HU4
    go_enter Tryz.func52, Tryz.ntmps52
    go_wp2_with fail
    rw [HW4.out]
    refine CK.out.mono ?_
    rintro e w1 ⟨rfl, hz⟩
    subst hz
    clear CK
    go_wp2
    exact bodyPost_ret (v := .tuple #[.agg #[.int .i64 0, .int .i64 0, .slice none 0 0], .int .i64 3]) (by simp [results, Tryz.results52, go_sem, s0, s1, s2] <;> rfl) rfl (HERR.out _ rfl)
  · have hp2 : (0 : Int) < (n : Int) := by omega
    have hp4 : (0 : Int) < (m : Int) := by omega
    have CK : Hid (Calls Tryz.prog 32 #[.bool true, .slice (some ⟨(((w.alloc (.cells #[.pointer none] 45)).alloc (.cells #[.slice adb m cb] 23)).alloc (.cells #[.int .i64 0, .int .i64 0, .slice none 0 0] 64)).heap.size, 0, none⟩) 2 2] W4 fun e w' => e = .returned (.int .i64 0) ∧ w' = W4) := by
      have h := check2_any true (((w.alloc (.cells #[.pointer none] 45)).alloc (.cells #[.slice adb m cb] 23)).alloc (.cells #[.int .i64 0, .int .i64 0, .slice none 0 0] 64)) ada adb n ca m cb (by unfold maxLen; omega) (by unfold maxLen; omega)
      rw [if_neg (by omega), if_pos rfl, HW4.out] at h
      exact h
    simp only [World.size_alloc] at CK
    have CF : Hid (∀ W : World, Calls Tryz.prog 67 #[.int .i64 (n : Int), .int .i64 (m : Int)] W fun e w' => e = .returned (.bool (decide (n * m ≤ 65536))) ∧ w' = W) := fun W => by
      have h := fits_any (n : Int) (m : Int) (by omega) (by omega) (by omega) (by omega) W
      rw [show decide ((n : Int) * (m : Int) ≤ 65536) = decide (n * m ≤ 65536) by rw [← Int.natCast_mul]; exact decide_eq_decide.2 (by omega)] at h
      exact h
    have z0 := R4.c0
    have z1 := R4.c1
    have z2 := R4.c2
    have q0 := R4.f0
    have q1 := R4.f1
    have q2 := R4.f2
    by_cases hnm : n * m ≤ 65536
    · rw [decide_eq_true hnm] at CF
      have hE : oE n m = 0 := by unfold oE; rw [if_neg (by omega), if_neg (by omega), if_neg (by omega)]
      have CE : Hid (Calls Tryz.prog 68 #[.slice ada n ca, .func (.func 69) #[] #[.pointer (some ⟨w.heap.size, 0, none⟩), .pointer (some ⟨w.heap.size + 1, 0, none⟩)]] W4 fun e w' => e = .returned (.slice (some ⟨W4.heap.size, 0, none⟩) n n) ∧ ∃ h : Nat → Nat, (Below W4.heap.size W4 w' ∧ ∀ k, k < n → W4.heap.size < h k ∧ Ar w' (.slice (some ⟨h k, 0, none⟩) m m) m (fun i => clv (rnd (f k * g i) 32))) ∧ Rw W4.heap.size n (fun k => .slice (some ⟨h k, 0, none⟩) m m) w') := by
        refine each_outer (.pointer (some ⟨w.heap.size, 0, none⟩)) (.pointer (some ⟨w.heap.size + 1, 0, none⟩)) (fun (j : Nat) (h : Nat → Nat) (W : World) => Below W4.heap.size W4 W ∧ ∀ k, k < j → W4.heap.size < h k ∧ Ar W (.slice (some ⟨h k, 0, none⟩) m m) m (fun i => clv (rnd (f k * g i) 32))) _ n m f W4 hn (hA.later hb4) ?_ ?_ ?_ ?_ ?_
        · intro h
          exact ⟨Below.refl _ _, fun k hk => absurd hk (Nat.not_lt_zero _)⟩
        · intro j h W W' hS hb'
          exact ⟨bchain hS.1 hb', fun k hk => ⟨(hS.2 k hk).1, (hS.2 k hk).2.later hb'⟩⟩
        · intro j h W a x ha' hS
          exact ⟨hS.1.setCell (by omega) _, fun k hk => ⟨(hS.2 k hk).1, (hS.2 k hk).2.far x (by have := (hS.2 k hk).1; omega)⟩⟩
        · intro j h W hS
          exact (hA.later hb4).later hS.1
        · intro j h W hj hW hS
          obtain ⟨_, _, _, _, _, _, _, _, hx⟩ := id hA
          have hx := (hx j hj).2
          refine (out1_nil (f j) hx.1 hx.2 (.slice adb m cb) m g hm w.heap.size (w.heap.size + 1) W ((hB.later hb4).later hS.1) (cell_later hS.1 cu) (cell_later hS.1 cl)).mono ?_
          rintro e w' ⟨rfl, hX, hU⟩
          refine ⟨_, rfl, ⟨bchain hS.1 hU, ?_⟩, hU.block _ hW, hU.size⟩
          intro k hk
          by_cases e : k = j
          · subst e
            rw [upd_at]
            exact ⟨by omega, hX⟩
          · rw [upd_lt h j _ k (by omega)]
            have hk2 := hS.2 k (by omega)
            exact ⟨hk2.1, hk2.2.later hU⟩
      rw [hs4] at CE
      rw [hE]
      skip
      clear hA hB ERR cu hE hb3
      go_enter Tryz.func52, Tryz.ntmps52
      go_wp2_with fail
      rw [HW4.out]
      refine CK.out.mono ?_
      rintro e w1 ⟨rfl, hz⟩
      subst hz
      clear CK
      go_wp2_with fail
      refine (CF.out _).mono ?_
      rintro e w1 ⟨rfl, hz⟩
      subst hz
      clear CF
      go_wp2_with fail
      refine CE.out.mono ?_
      rintro e w5 ⟨rfl, h, ⟨hU5, hrow⟩, hR5⟩
      rw [← hs4] at hU5
      have HU5 : Hid (Below w.heap.size w w5) := bchain HU4.out hU5
      have A0 : w5.cell? ⟨w.heap.size + 1, 0, none⟩ = some (.slice adb m cb) := cell_later hU5 cl
      have R5 := R4.block (hU5.block (w.heap.size + 2) (by rw [hs4]; omega))
      have hs5 : w.heap.size + 4 ≤ w5.heap.size := by have := hU5.size; rw [hs4] at this; exact this
      have CC : Hid (∀ W : World, Below w5.heap.size w5 W → Calls Tryz.prog 71 #[.slice (some ⟨w.heap.size + 4, 0, none⟩) n n] W fun e w' => ∃ g' cap, e = .returned (.slice (some ⟨g', 0, none⟩) (n * m) cap) ∧ Ar w' (.slice (some ⟨g', 0, none⟩) (n * m) cap) (n * m) (otX f g m) ∧ W.heap.size ≤ g' ∧ Below W.heap.size W w') := fun W hW => concat_any (w.heap.size + 4) n m h (fun k i => clv (rnd (f k * g i) 32)) h1 h2 hnm W (hR5.later hW) (fun k hk => (hrow k hk).2.later hW)
      clear CE hU5 hrow hR5 R4 z0 z1 z2 q0 q1 q2 cl cl3 HU4 hb4 hs4
      go_upto_region 7 with fail
      have hd1 : Below w5.heap.size w5 w5.drew := (Below.refl _ _).drew
      have CO := R5.later hd1
      have A := cell_later hd1 A0
      have CW : Hid (Below w5.heap.size w5 w5.drew) := hd1
      have CC0 := CO.c0
      have CC1 := CO.c1
      have CC2 := CO.c2
      have CF0 := CO.f0
      have CF1 := CO.f1
      have CF2 := CO.f2
      clear hd1 A0 R5
      go_region_held3 (fun w' => w'.cell? ⟨w.heap.size + 1, 0, none⟩ = some (.slice adb m cb))
        (first | exact A | exact cell_set (by dsimp only; omega) (cell_set (by dsimp only; omega) (cell_set (by dsimp only; omega) A)))
        (first
          | (go_at_call 71; refine (CC.out _ CW.out).mono ?_; rintro e wz ⟨g', cap, rfl, hX, hg, hb⟩; have HX : Hid (Ar wz (.slice (some ⟨g', 0, none⟩) (n * m) cap) (n * m) (otX f g m)) := hX; have hg' : w.heap.size + 4 ≤ g' := (by have := CW.out.size; omega); clear hX hg; replace A := cell_later hb A; replace CC0 := cell_later hb CC0; replace CC1 := cell_later hb CC1; replace CC2 := cell_later hb CC2; replace CF0 := frozen_later hb CO.c0 CF0; replace CF1 := frozen_later hb CO.c1 CF1; replace CF2 := frozen_later hb CO.c2 CF2; replace CO := CO.later hb; replace CW := hidD CW hb; clear hb))
      have S0 := ((CO.set0 (.int .i64 (n : Int))).set1 (.int .i64 (m : Int))).set2 (.slice (some ⟨g', 0, none⟩) (n * m) cap)
      have s0 := S0.c0
      have s1 := S0.c1
      have s2 := S0.c2
      have HW6 : Hid (Below w.heap.size w wz) := bchain HU5.out CW.out
      clear A CC0 CC1 CC2 CF0 CF1 CF2 CO CW CC S0 HU5
      go_wp2
      exact bodyPost_ret (v := .tuple #[.agg #[.int .i64 (n : Int), .int .i64 (m : Int), .slice (some ⟨g', 0, none⟩) (n * m) cap], .int .i64 0]) (by simp [results, Tryz.results52, go_sem, s0, s1, s2] <;> rfl) rfl ⟨_, _, _, rfl, rfl, rfl, ⟨fun _ => ((HX.out.far _ (by dsimp only; omega)).far _ (by dsimp only; omega)).far _ (by dsimp only; omega), fun h => absurd rfl h, fun a n' cap' e _ => (by cases e; show w.heap.size ≤ g'; omega)⟩, ((HW6.out.setCell (by dsimp only; omega) _).setCell (by dsimp only; omega) _).setCell (by dsimp only; omega) _⟩
    · rw [decide_eq_false hnm] at CF
      have HERR := ERR 3 (by unfold oE; rw [if_neg (by omega), if_neg (by omega), if_pos (by omega)]) (by decide)
      have S0 := ((R4.set0 (.int .i64 0)).set1 (.int .i64 0)).set2 (.slice none 0 0)
      have s0 := S0.c0
      have s1 := S0.c1
      have s2 := S0.c2
      clear hA hB R4 S0 hb3 hb4 hs4 ERR cu HU4
      go_enter Tryz.func52, Tryz.ntmps52
      go_wp2_with fail
      rw [HW4.out]
      refine CK.out.mono ?_
      rintro e w1 ⟨rfl, hz⟩
      subst hz
      clear CK
      go_wp2_with fail
      refine (CF.out _).mono ?_
      rintro e w1 ⟨rfl, hz⟩
      subst hz
      clear CF
      go_wp2
      exact bodyPost_ret (v := .tuple #[.agg #[.int .i64 0, .int .i64 0, .slice none 0 0], .int .i64 3]) (by simp [results, Tryz.results52, go_sem, s0, s1, s2] <;> rfl) rfl (HERR.out _ rfl)

end Go.Proofs.YtdfjnbkkdgolnabGreatDoor
set_option linter.unusedVariables false
set_option linter.unusedSimpArgs false
namespace Go.Proofs.YtdfjnbkkdgolnabGreatDoor
open Go.RowKit

/-- No unit, or one with that count. -/
def Up (p : Option Addr) (c : Int) (w : World) : Prop := p = none ∨ ∃ d, p = some ⟨d, 0, none⟩ ∧ Uc w d c
/-- What is left behind a call that counts. -/
def Ux (p : Option Addr) (c : Int) (w w' : World) : Prop := (p = none ∧ Below w.heap.size w w') ∨ ∃ d, p = some ⟨d, 0, none⟩ ∧ d < w.heap.size ∧ Un d c w w'
/-- A block is not the unit's. -/
def Nu (b : Nat) (p : Option Addr) : Prop := ∀ d, p = some ⟨d, 0, none⟩ → b ≠ d
/-- A list is apart from the unit. -/
def Nv (v : Value) (p : Option Addr) : Prop := ∀ d, p = some ⟨d, 0, none⟩ → Nb v d
theorem nv_none (v : Value) : Nv v none := fun d e => by cases e
theorem nv_some {v : Value} {d : Nat} (h : Nb v d) : Nv v (some ⟨d, 0, none⟩) := fun d' e => by cases e; exact h
theorem Nv.nu {p : Option Addr} {b o n cap : Nat} (h : Nv (.slice (some ⟨b, o, none⟩) n cap) p) (hn : 0 < n) : Nu b p := fun d e => h d e _ n cap rfl hn
theorem Nu.nv {p : Option Addr} {b : Nat} (h : Nu b p) (o n cap : Nat) : Nv (.slice (some ⟨b, o, none⟩) n cap) p := fun d e a n' cap' e2 hn => by cases e2; exact h d e
theorem Up.lt {p : Option Addr} {c : Int} {w : World} (h : Up p c w) {b : Nat} (hb : w.heap.size ≤ b) : Nu b p := fun d e => by
  rcases h with h | ⟨d', h, hc⟩
  · rw [h] at e; cases e
  · rw [h] at e
    cases e
    have := World.block_lt_of_cell? _ _ hc.1
    intro e2
    subst e2
    dsimp only at this
    omega
theorem Up.ow {p : Option Addr} {c : Int} {w : World} (h : Up p c w) {v : Value} (hv : Ow w.heap.size v) : Nv v p := fun d e a n cap e2 hn => (h.lt (hv a n cap e2 hn)) d e
theorem Ux.up {p : Option Addr} {c : Int} {w w' : World} (h : Ux p c w w') : Up p c w' := by
  rcases h with ⟨h, -⟩ | ⟨d, h, -, hU⟩
  · exact Or.inl h
  · exact Or.inr ⟨d, h, hU.c, hU.f⟩
theorem Up.later {p : Option Addr} {c : Int} {w w' : World} (h : Up p c w) (hb : Below w.heap.size w w') : Up p c w' := by
  rcases h with h | ⟨d, h, hc⟩
  · exact Or.inl h
  · exact Or.inr ⟨d, h, hc.later hb⟩
theorem Up.ux {p : Option Addr} {c : Int} {w w' : World} (h : Up p c w) (hb : Below w.heap.size w w') : Ux p c w w' := by
  rcases h with h | ⟨d, h, hc⟩
  · exact Or.inl ⟨h, hb⟩
  · exact Or.inr ⟨d, h, World.block_lt_of_cell? _ _ hc.1, (Un.same hc.1 hc.2).ahead hb⟩
theorem Up.same {p : Option Addr} {c : Int} {w : World} (h : Up p c w) : Ux p c w w := h.ux (Below.refl _ _)
theorem Ux.size {p : Option Addr} {c : Int} {w w' : World} (h : Ux p c w w') : w.heap.size ≤ w'.heap.size := by
  rcases h with ⟨-, hb⟩ | ⟨d, -, -, hU⟩
  · exact hb.size
  · exact hU.s
theorem Ux.chain {p : Option Addr} {c c' : Int} {w w1 w2 : World} (h : Ux p c w w1) (k : Ux p c' w1 w2) : Ux p c' w w2 := by
  rcases h with ⟨h, hb⟩ | ⟨d, h, hd, hU⟩
  · rcases k with ⟨k, kb⟩ | ⟨d, k, -, -⟩
    · exact Or.inl ⟨h, bchain hb kb⟩
    · rw [h] at k; cases k
  · rcases k with ⟨k, kb⟩ | ⟨d', k, -, kU⟩
    · rw [h] at k; cases k
    · rw [h] at k
      cases k
      exact Or.inr ⟨d, h, hd, hU.chain kU⟩
theorem Ux.later {p : Option Addr} {c : Int} {w w1 w2 : World} (h : Ux p c w w1) (hb : Below w1.heap.size w1 w2) : Ux p c w w2 := by
  rcases h with ⟨h, h1⟩ | ⟨d, h, hd, hU⟩
  · exact Or.inl ⟨h, bchain h1 hb⟩
  · exact Or.inr ⟨d, h, hd, hU.ahead hb⟩
theorem Ux.drew {p : Option Addr} {c : Int} {w w1 : World} (h : Ux p c w w1) : Ux p c w w1.drew := h.later (Below.refl _ _).drew
theorem Ux.far {p : Option Addr} {c : Int} {w w1 : World} (h : Ux p c w w1) {a : Addr} (u : Value) (ha : w.heap.size ≤ a.block) : Ux p c w (w1.setCell a u) := by
  rcases h with ⟨h, h1⟩ | ⟨d, h, hd, hU⟩
  · exact Or.inl ⟨h, h1.setCell ha u⟩
  · exact Or.inr ⟨d, h, hd, hU.setnew a u hd ha⟩
theorem Ux.grow {p : Option Addr} {c : Int} {w wr w1 : World} {o : Obj} {r : Option Nat} (h : Ux p c w wr) (hg : (wr.alloc o).grownBy w1 r) (hr : ∀ k, r = some k → w.heap.size ≤ k) : Ux p c w w1 := by
  rcases h with ⟨h, h1⟩ | ⟨d, h, hd, hU⟩
  · have hs := h1.size
    exact Or.inl ⟨h, (h1.alloc (by omega) o).grown hg (by rw [World.size_alloc]; omega) hr⟩
  · exact Or.inr ⟨d, h, hd, hU.grow hd hg hr⟩
theorem Ux.blk {p : Option Addr} {c : Int} {w w' : World} (h : Ux p c w w') {i : Nat} (hi : i < w.heap.size) (hn : Nu i p) : w'.heap[i]? = w.heap[i]? := by
  rcases h with ⟨h, h1⟩ | ⟨d, h, hd, hU⟩
  · exact h1.block i hi
  · exact hU.k i hi (hn d h)
theorem Ux.cell {p : Option Addr} {c : Int} {w w' : World} (h : Ux p c w w') {a : Addr} {v : Value} (hn : Nu a.block p) (hc : w.cell? a = some v) : w'.cell? a = some v :=
  (World.cell?_of_block (w := w) (h.blk (World.block_lt_of_cell? _ _ hc) hn)).trans hc
theorem Ux.frozen {p : Option Addr} {c : Int} {w w' : World} (h : Ux p c w w') {a : Addr} {v : Value} (hn : Nu a.block p) (hc : w.cell? a = some v) (hf : w.frozen? a = false) : w'.frozen? a = false :=
  (World.frozen?_of_block (w := w) (h.blk (World.block_lt_of_cell? _ _ hc) hn)).trans hf
theorem Ar.ux {w w' : World} {v : Value} {n : Nat} {f : Nat → Int} {p : Option Addr} {c : Int} (h : Ar w v n f) (hn : Nv v p) (hU : Ux p c w w') : Ar w' v n f := by
  obtain ⟨adr, cap, b, o, h1, h2, h3, h4, h5⟩ := h
  refine ⟨adr, cap, b, o, h1, h2, h3, h4, fun k hk => ⟨hU.cell ?_ (h5 k hk).1, (h5 k hk).2⟩⟩
  have e := h4 (by omega)
  subst e
  subst h1
  exact hn.nu (by omega)
theorem Rw.ux {b n : Nat} {h : Nat → Value} {w w' : World} {p : Option Addr} {c : Int} (r : Rw b n h w) (hn : Nu b p) (hU : Ux p c w w') : Rw b n h w' := by
  rcases Nat.eq_zero_or_pos n with h0 | h0
  · subst h0
    exact ⟨fun k hk => absurd hk (Nat.not_lt_zero _), fun k hk => absurd hk (Nat.not_lt_zero _)⟩
  · exact r.block (hU.blk (World.block_lt_of_cell? _ _ (r.c 0 h0)) hn)
theorem TabAt.ux {w w' : World} {p : Option Addr} {c c' : Int} (h : TabAt w) (hp : Up p c w) (hU : Ux p c' w w') : TabAt w' := fun j hj => hU.cell (fun d e => by
  rcases hp with hp | ⟨d', hp, hc⟩
  · rw [hp] at e; cases e
  · have e3 : d = d' := by rw [hp] at e; cases e; rfl
    intro e2
    have h0 := h 0 (by omega)
    dsimp only at e2
    rw [show (⟨2, 0, none⟩ : Addr) = ⟨d', 0, none⟩ by rw [e2, e3]] at h0
    rw [hc.1] at h0
    cases h0) (h j hj)
theorem own_ux {wr w1 : World} {B : Nat} {e : TypeId} {s : Nat} {v : Value} {n : Nat} {xs : List Value} {p : Option Addr} {c : Int} (h : wr.ownsRow B e s v n xs) (hU : Ux p c wr w1) (hn : ∀ g, B ≤ g → Nu g p) : w1.ownsRow B e s v n xs := by
  refine ⟨h.1, ?_⟩
  rcases h.2 with h0 | ⟨g, cap, cur, hv, hg, hh, r⟩
  · exact Or.inl h0
  · exact Or.inr ⟨g, cap, cur, hv, hg, (hU.blk (Array.getElem?_eq_some_iff.1 hh).1 (hn g hg)).trans hh, r⟩
/-- Both at once. -/
theorem ux_calls {f : Nat} {p : Option Addr} {c : Int} {w : World} {ags : Array Value} {P : Ending → World → Prop} {k : Int} (hp : Up p c w)
    (hN : p = none → Calls Tryz.prog f (#[.pointer none] ++ ags) w fun e w' => P e w' ∧ Below w.heap.size w w')
    (hU : ∀ d, p = some ⟨d, 0, none⟩ → Uc w d c → Calls Tryz.prog f (#[.pointer (some ⟨d, 0, none⟩)] ++ ags) w fun e w' => P e w' ∧ Un d (c + k) w w') :
    Calls Tryz.prog f (#[.pointer p] ++ ags) w fun e w' => P e w' ∧ Ux p (c + k) w w' := by
  rcases hp with rfl | ⟨d, rfl, hc⟩
  · exact (hN rfl).mono fun e w' h => ⟨h.1, Or.inl ⟨rfl, h.2⟩⟩
  · exact (hU d rfl hc).mono fun e w' h => ⟨h.1, Or.inr ⟨d, rfl, World.block_lt_of_cell? _ _ hc.1, h.2⟩⟩
theorem sub_ux (a b : Int) (a0 : -9223372036854775808 ≤ a) (a1 : a ≤ 9223372036854775807) (b0 : -9223372036854775808 ≤ b) (b1 : b ≤ 9223372036854775807) (p : Option Addr) (c : Int) (c0 : 0 ≤ c) (c1 : c ≤ 900000000) (w : World) (hp : Up p c w) :
    Calls Tryz.prog 137 #[.pointer p, .int .i64 a, .int .i64 b] w fun e w' => e = .returned (.int .i64 (clv (a - b))) ∧ Ux p (c + bi (ovv (a - b))) w w' :=
  ux_calls (ags := #[.int .i64 a, .int .i64 b]) hp (fun _ => uSub_nil a b a0 a1 b0 b1 w) (fun d _ hc => uSub_un a b a0 a1 b0 b1 d c c0 (by omega) w hc.1 hc.2)
theorem mul_ux (a b : Int) (a0 : -9223372036854775808 ≤ a) (a1 : a ≤ 9223372036854775807) (b0 : -9223372036854775808 ≤ b) (b1 : b ≤ 9223372036854775807) (p : Option Addr) (c : Int) (c0 : 0 ≤ c) (c1 : c ≤ 900000000) (w : World) (hp : Up p c w) :
    Calls Tryz.prog 90 #[.pointer p, .int .i64 a, .int .i64 b] w fun e w' => e = .returned (.int .i64 (clv (rr (a * b) 32))) ∧ Ux p (c + bi (ovv (rr (a * b) 32))) w w' :=
  ux_calls (ags := #[.int .i64 a, .int .i64 b]) hp (fun _ => uMul_nil a b a0 a1 b0 b1 w) (fun d _ hc => uMul_un a b a0 a1 b0 b1 d c c0 (by omega) w hc.1 hc.2)
theorem take_ux (a : Int) (o : Bool) (p : Option Addr) (c : Int) (c0 : 0 ≤ c) (c1 : c ≤ 900000000) (w : World) (hp : Up p c w) :
    Calls Tryz.prog 64 #[.pointer p, .int .i64 a, .bool o] w fun e w' => e = .returned (.int .i64 a) ∧ Ux p (c + bi o) w w' :=
  ux_calls (ags := #[.int .i64 a, .bool o]) hp (fun _ => (take_nil a o w).mono fun e w' h => ⟨h.1, by rw [h.2]; exact Below.refl _ _⟩) (fun d _ hc => take_un d c a o c0 (by omega) w hc.1 hc.2)
theorem near32_ux (v : Int) (h0 : -3138550867693340381917894711603833208051177722232017256448 ≤ v) (h1 : v ≤ 3138550867693340381917894711603833208051177722232017256447) (p : Option Addr) (c : Int) (c0 : 0 ≤ c) (c1 : c ≤ 900000000) (w : World) (hT : TabAt w) (hp : Up p c w) :
    Calls Tryz.prog 47 #[.pointer p, .agg #[.int .i64 (t3 v), .int .u64 (m3 v), .int .u64 (lo v)], .int .i64 32] w fun e w' => e = .returned (.int .i64 (clv (rr v 32))) ∧ Ux p (c + bi (ovv (rr v 32))) w w' :=
  ux_calls (ags := #[.agg #[.int .i64 (t3 v), .int .u64 (m3 v), .int .u64 (lo v)], .int .i64 32]) hp (fun _ => uNear_nil v h0 h1 w hT) (fun d _ hc => uNear_un v h0 h1 d c c0 (by omega) w hT hc.1 hc.2)
set_option maxHeartbeats 1000000 in
theorem uNear33_nil (v : Int) (h0 : -3138550867693340381917894711603833208051177722232017256448 ≤ v) (h1 : v ≤ 3138550867693340381917894711603833208051177722232017256447) (w : World) (hT : TabAt w) :
    Calls Tryz.prog 47 #[.pointer none, .agg #[.int .i64 (t3 v), .int .u64 (m3 v), .int .u64 (lo v)], .int .i64 33] w fun e w' => e = .returned (.int .i64 (clv (rnd v 33))) ∧ Below w.heap.size w w' := by
  have P : Hid (∀ W : World, TabAt W → Calls Tryz.prog 63 #[.agg #[.int .i64 (t3 v), .int .u64 (m3 v), .int .u64 (lo v)], .int .i64 33] W fun e w' => e = .returned (.tuple #[.int .i64 (clv (rnd v 33)), .bool (ovv (rnd v 33))]) ∧ Below W.heap.size W w') := by
    intro W hT
    have h := near_mid v 33 33 rfl (by omega) (by omega) (by omega) W hT
    rw [rl_pos v 33 (by omega)] at h
    exact h
  obtain ⟨k0, k1⟩ := clv_fit (rnd v 33)
  have HT : Hid (TabAt (w.alloc (.cells #[.int .i64 (t3 v), .int .u64 (m3 v), .int .u64 (lo v)] 95))) := hT.later (bel1 w _)
  clear hT
  go_enter Tryz.func47, Tryz.ntmps47
  go_wp2_with fail
  refine (P.out _ HT.out).mono ?_
  rintro e w1 ⟨rfl, hb⟩
  have W1 := bchain (bel1 w _) hb
  clear P HT hb
  go_wp2_with fail
  refine (take_nil _ _ _).mono ?_
  rintro e wz ⟨rfl, hz⟩
  subst hz
  go_wp2
  go_ret
  exact ⟨rfl, W1⟩
set_option maxHeartbeats 1000000 in
theorem uNear33_un (v : Int) (h0 : -3138550867693340381917894711603833208051177722232017256448 ≤ v) (h1 : v ≤ 3138550867693340381917894711603833208051177722232017256447) (d : Nat) (n : Int) (n0 : 0 ≤ n) (n1 : n ≤ 1000000000) (w : World) (hT : TabAt w) (c : w.cell? ⟨d, 0, none⟩ = some (.int .i64 n)) (f : w.frozen? ⟨d, 0, none⟩ = false) :
    Calls Tryz.prog 47 #[.pointer (some ⟨d, 0, none⟩), .agg #[.int .i64 (t3 v), .int .u64 (m3 v), .int .u64 (lo v)], .int .i64 33] w fun e w' => e = .returned (.int .i64 (clv (rnd v 33))) ∧ Un d (n + bi (ovv (rnd v 33))) w w' := by
  have P : Hid (∀ W : World, TabAt W → Calls Tryz.prog 63 #[.agg #[.int .i64 (t3 v), .int .u64 (m3 v), .int .u64 (lo v)], .int .i64 33] W fun e w' => e = .returned (.tuple #[.int .i64 (clv (rnd v 33)), .bool (ovv (rnd v 33))]) ∧ Below W.heap.size W w') := by
    intro W hT
    have h := near_mid v 33 33 rfl (by omega) (by omega) (by omega) W hT
    rw [rl_pos v 33 (by omega)] at h
    exact h
  obtain ⟨k0, k1⟩ := clv_fit (rnd v 33)
  have HT : Hid (TabAt (w.alloc (.cells #[.int .i64 (t3 v), .int .u64 (m3 v), .int .u64 (lo v)] 95))) := hT.later (bel1 w _)
  clear hT
  go_enter Tryz.func47, Tryz.ntmps47
  go_wp2_with fail
  refine (P.out _ HT.out).mono ?_
  rintro e w1 ⟨rfl, hb⟩
  have W1 := bchain (bel1 w _) hb
  clear P HT hb
  have c1 := cell_later W1 c
  have f1 := frozen_later W1 c f
  go_wp2_with fail
  refine (take_un d n _ _ n0 n1 _ c1 f1).mono ?_
  rintro e w2 ⟨rfl, hU⟩
  have hV := Un.after W1 hU
  clear hU W1 c1 f1 c f
  go_wp2
  go_ret
  exact ⟨rfl, hV⟩
theorem near33_ux (v : Int) (h0 : -3138550867693340381917894711603833208051177722232017256448 ≤ v) (h1 : v ≤ 3138550867693340381917894711603833208051177722232017256447) (p : Option Addr) (c : Int) (c0 : 0 ≤ c) (c1 : c ≤ 900000000) (w : World) (hT : TabAt w) (hp : Up p c w) :
    Calls Tryz.prog 47 #[.pointer p, .agg #[.int .i64 (t3 v), .int .u64 (m3 v), .int .u64 (lo v)], .int .i64 33] w fun e w' => e = .returned (.int .i64 (clv (rr v 33))) ∧ Ux p (c + bi (ovv (rr v 33))) w w' :=
  ux_calls (ags := #[.agg #[.int .i64 (t3 v), .int .u64 (m3 v), .int .u64 (lo v)], .int .i64 33]) hp (fun _ => uNear33_nil v h0 h1 w hT) (fun d _ hc => uNear33_un v h0 h1 d c c0 (by omega) w hT hc.1 hc.2)
theorem dot_ux (va vb : Value) (n : Nat) (f g : Nat → Int) (hn : n ≤ 65536) (p : Option Addr) (c : Int) (c0 : 0 ≤ c) (c1 : c ≤ 800000000) (w : World) (hT : TabAt w) (hA : Ar w va n f) (hB : Ar w vb n g) (ha : Nv va p) (hb : Nv vb p) (hp : Up p c w) :
    Calls Tryz.prog 53 #[.pointer p, va, vb] w fun e w' => e = .returned (.tuple #[.int .i64 (clv (rr (dotV f g n) 32)), .int .i64 0]) ∧ Ux p (c + bi (ovv (rr (dotV f g n) 32))) w w' := by
  have e0 : dE n n = 0 := by unfold dE; rw [if_neg (by omega), if_pos rfl]
  have e1 : dX n n f g = clv (rr (dotV f g n) 32) := by unfold dX; rw [if_pos e0]
  have e2 : dO n n f g = ovv (rr (dotV f g n) 32) := by unfold dO; rw [if_pos e0]
  rw [← e1, ← e2, ← e0]
  exact ux_calls (ags := #[va, vb]) hp (fun _ => Dot_nil va vb n n f g w (by omega) (by omega) hT hA hB) (fun d e hc => Dot_un va vb n n f g d c w (by omega) (by omega) c0 (by omega) hT hA hB (ha d e) (hb d e) hc)
theorem sum_ux (va : Value) (n : Nat) (f : Nat → Int) (hn : n ≤ 65536) (p : Option Addr) (c : Int) (c0 : 0 ≤ c) (c1 : c ≤ 800000000) (w : World) (hT : TabAt w) (hA : Ar w va n f) (ha : Nv va p) (hp : Up p c w) :
    Calls Tryz.prog 144 #[.pointer p, va] w fun e w' => e = .returned (.tuple #[.int .i64 (clv (sumV f n)), .int .i64 0]) ∧ Ux p (c + bi (ovv (sumV f n))) w w' := by
  have e0 : sE n = 0 := by unfold sE; rw [if_neg (by omega)]
  have e1 : sX n f = clv (sumV f n) := by unfold sX; rw [if_pos e0]
  have e2 : sO n f = ovv (sumV f n) := by unfold sO; rw [if_pos e0]
  rw [← e1, ← e2, ← e0]
  exact ux_calls (ags := #[va]) hp (fun _ => Sum_nil va n f w (by omega) hT hA) (fun d e hc => Sum_un va n f d c w (by omega) c0 (by omega) hT hA (ha d e) hc)
theorem vsub_ux (va vb : Value) (n : Nat) (f g : Nat → Int) (hn : n ≤ 65536) (p : Option Addr) (c : Int) (c0 : 0 ≤ c) (c1 : c ≤ 800000000) (w : World) (hA : Ar w va n f) (hB : Ar w vb n g) (ha : Nv va p) (hb : Nv vb p) (hp : Up p c w) :
    Calls Tryz.prog 135 #[.pointer p, va, vb] w fun e w' => (∃ v', e = .returned (.tuple #[v', .int .i64 0]) ∧ LL w w' v' n (fun i => clv (f i - g i)) 0) ∧ Ux p (c + cntV (fun i => ovv (f i - g i)) n) w w' := by
  have e0 : dE n n = 0 := by unfold dE; rw [if_neg (by omega), if_pos rfl]
  have e1 : cE (dE n n) (cntV (fun i => ovv (f i - g i)) n) = cntV (fun i => ovv (f i - g i)) n := by rw [e0]; rfl
  rw [← e1, ← e0]
  refine ux_calls (ags := #[va, vb]) hp (fun _ => (Sub_nil va vb n n f g w (by omega) (by omega) hA hB).mono ?_) (fun d e hc => (Sub_un va vb n n f g d c w (by omega) (by omega) c0 c1 hA hB (ha d e) (hb d e) hc).mono ?_)
  · rintro e w' ⟨v', h1, h2, h3⟩; exact ⟨⟨v', h1, h2⟩, h3⟩
  · rintro e w' ⟨v', h1, h2, h3⟩; exact ⟨⟨v', h1, h2⟩, h3⟩
theorem outer_ux (va vb : Value) (n m : Nat) (f g : Nat → Int) (hn : n ≤ 64) (hm : m ≤ 64) (hn1 : 1 ≤ n) (hm1 : 1 ≤ m) (p : Option Addr) (c : Int) (c0 : 0 ≤ c) (c1 : c ≤ 800000000) (w : World) (hA : Ar w va n f) (hB : Ar w vb m g) (ha : Nv va p) (hb : Nv vb p) (hp : Up p c w) :
    Calls Tryz.prog 52 #[.pointer p, va, vb] w fun e w' => (∃ v', e = .returned (.tuple #[.agg #[.int .i64 (n : Int), .int .i64 (m : Int), v'], .int .i64 0]) ∧ LL w w' v' (n * m) (otX f g m) 0) ∧ Ux p (c + otN f g m n) w w' := by
  have hnm : n * m ≤ 64 * 64 := Nat.mul_le_mul hn hm
  have e0 : oE n m = 0 := by unfold oE; rw [if_neg (by omega), if_neg (by omega), if_neg (by omega)]
  have e1 : cE (oE n m) (otN f g m n) = otN f g m n := by rw [e0]; rfl
  rw [← e1]
  refine ux_calls (ags := #[va, vb]) hp (fun _ => (Outer_nil va vb n m f g w (by omega) (by omega) hA hB).mono ?_) (fun d e hc => (Outer_un va vb n m f g d c w (by omega) (by omega) c0 c1 hA hB (ha d e) (hb d e) hc).mono ?_)
  · rintro e w' ⟨r, k, v', h1, hr, hk, h2, h3⟩
    rw [e0] at h1 h2 hr hk
    refine ⟨⟨v', ?_, h2⟩, h3⟩
    rw [h1, hr, hk]
    rfl
  · rintro e w' ⟨r, k, v', h1, hr, hk, h2, h3⟩
    have h1' := h1
    rw [e0] at h1' h2 hr hk
    refine ⟨⟨v', ?_, h2⟩, h3⟩
    rw [h1', hr, hk]
    rfl
end Go.Proofs.YtdfjnbkkdgolnabGreatDoor
set_option linter.unusedVariables false
set_option linter.unusedSimpArgs false
namespace Go.Proofs.YtdfjnbkkdgolnabGreatDoor
open Go.RowKit
/-- Four cells. -/
structure B4 (b : Nat) (x y u v : Value) (w : World) : Prop where
  c0 : w.cell? ⟨b, 0, none⟩ = some x
  c1 : w.cell? ⟨b, 1, none⟩ = some y
  c2 : w.cell? ⟨b, 2, none⟩ = some u
  c3 : w.cell? ⟨b, 3, none⟩ = some v
theorem B4.new (w : World) (x y u v : Value) (t : TypeId) : B4 w.heap.size x y u v (w.alloc (.cells #[x, y, u, v] t)) := ⟨by simp [go_sem], by simp [go_sem], by simp [go_sem], by simp [go_sem]⟩
theorem B4.later {b : Nat} {x y u v : Value} {w w' : World} (h : B4 b x y u v w) (hb : Below w.heap.size w w') : B4 b x y u v w' := ⟨cell_later hb h.c0, cell_later hb h.c1, cell_later hb h.c2, cell_later hb h.c3⟩
theorem B4.ux {b : Nat} {x y u v : Value} {w w' : World} {p : Option Addr} {c : Int} (h : B4 b x y u v w) (hn : Nu b p) (hU : Ux p c w w') : B4 b x y u v w' := ⟨hU.cell hn h.c0, hU.cell hn h.c1, hU.cell hn h.c2, hU.cell hn h.c3⟩
theorem B4.far {b : Nat} {x y u v : Value} {w : World} {a : Addr} (h : B4 b x y u v w) (q : Value) (hp : a.block ≠ b) : B4 b x y u v (w.setCell a q) := ⟨cell_set hp h.c0, cell_set hp h.c1, cell_set hp h.c2, cell_set hp h.c3⟩
set_option maxHeartbeats 2000000 in
theorem row_any (R C b q k1 u : Nat) (adB : Option Addr) (nB cB : Nat) (hR : R ≤ 64) (hC : C ≤ 64) (hC1 : 1 ≤ C) (hu : u < R) (hk : R * C ≤ k1) (hk2 : k1 ≤ maxLen) (w : World) :
    Calls Tryz.prog 49 #[.agg #[.int .i64 (R : Int), .int .i64 (C : Int), .slice (some ⟨b, q, none⟩) (R * C) k1, .slice adB nB cB], .int .i64 (u : Int)] w fun e w' => e = .returned (.slice (some ⟨b, q + u * C, none⟩) C (k1 - u * C)) ∧ Below w.heap.size w w' := by
  unfold maxLen at hk2
  have HB := B4.new w (.int .i64 (R : Int)) (.int .i64 (C : Int)) (.slice (some ⟨b, q, none⟩) (R * C) k1) (.slice adB nB cB) 66
  have HW : Hid (Below w.heap.size w (w.alloc (.cells #[.int .i64 (R : Int), .int .i64 (C : Int), .slice (some ⟨b, q, none⟩) (R * C) k1, .slice adB nB cB] 66))) := bel1 _ _
  have h1 : (u + 1) * C ≤ R * C := Nat.mul_le_mul_right _ hu
  have h2 : (u + 1) * C = u * C + C := Nat.succ_mul _ _
  have h3 : R * C ≤ 64 * 64 := Nat.mul_le_mul hR hC
  have e1 : (u : Int) * (C : Int) = ((u * C : Nat) : Int) := by rw [Int.natCast_mul]
  have e2 : ((u + 1 : Nat) : Int) * (C : Int) = (((u + 1) * C : Nat) : Int) := by rw [Int.natCast_mul]
  have w0 : IntKind.i64.wrap ((u : Int) + 1) = ((u + 1 : Nat) : Int) := by rw [IntKind.wrap_i64]; omega
  generalize R * C = RC at *
  obtain ⟨lo', hlo⟩ : ∃ x, u * C = x := ⟨_, rfl⟩
  obtain ⟨hi', hhi⟩ : ∃ x, (u + 1) * C = x := ⟨_, rfl⟩
  obtain ⟨u', hu'⟩ : ∃ x, u + 1 = x := ⟨_, rfl⟩
  rw [hlo] at e1 h2 ⊢
  rw [hhi] at e2 h1 h2
  rw [hu'] at e2 w0
  have w1 : IntKind.i64.wrap ((lo' : Nat) : Int) = (lo' : Int) := by rw [IntKind.wrap_i64]; omega
  have w2 : IntKind.i64.wrap ((hi' : Nat) : Int) = (hi' : Int) := by rw [IntKind.wrap_i64]; omega
  have v1 : (lo' : Int) ≤ (hi' : Int) := by omega
  have v2 : (hi' : Int) ≤ (k1 : Int) := by omega
  have v3 : ¬ k1 = lo' := by omega
  have HE : Hid (hi' - lo' = C) := by show _ = _; omega
  have x0 := HB.c0
  have x1 := HB.c1
  have x2 := HB.c2
  have x3 := HB.c3
  clear HB hlo hhi hu' h1 h2 h3
  go_enter Tryz.func49, Tryz.ntmps49
  go_wp2
  go_ret
  exact ⟨by show Ending.returned (Value.slice (some ⟨b, q + lo', none⟩) (hi' - lo') (k1 - lo')) = _; rw [HE.out], HW.out⟩
set_option maxRecDepth 100000 in
set_option maxHeartbeats 4000000 in
theorem column_any (R C b q k1 i : Nat) (f : Nat → Int) (adB : Option Addr) (nB cB : Nat) (hR : R ≤ 64) (hC : C ≤ 64) (hi : i < C) (w : World) (hA : Ar w (.slice (some ⟨b, q, none⟩) (R * C) k1) (R * C) f) :
    Calls Tryz.prog 54 #[.agg #[.int .i64 (R : Int), .int .i64 (C : Int), .slice (some ⟨b, q, none⟩) (R * C) k1, .slice adB nB cB], .int .i64 (i : Int)] w fun e w' => ∃ g, e = .returned (.slice (some ⟨g, 0, none⟩) R R) ∧ Ar w' (.slice (some ⟨g, 0, none⟩) R R) R (fun u => f (u * C + i)) ∧ w.heap.size ≤ g ∧ Below w.heap.size w w' := by
  obtain ⟨adr, cap, bb, oo, e, k2, k3, k4, k5⟩ := hA
  cases e
  have HC : Hid (∀ u, u < R → w.cell? ⟨b, q + u * C + i, none⟩ = some (.int .i64 (f (u * C + i)))) := fun u hu => by
    have h1 : (u + 1) * C ≤ R * C := Nat.mul_le_mul_right _ hu
    rw [Nat.succ_mul] at h1
    have e2 := k4 (by omega)
    cases e2
    rw [Nat.add_assoc]
    exact (k5 (u * C + i) (by omega)).1
  have HF : Hid (∀ u, u < R → -9223372036854775808 ≤ f (u * C + i) ∧ f (u * C + i) ≤ 9223372036854775807) := fun u hu => by
    have h1 : (u + 1) * C ≤ R * C := Nat.mul_le_mul_right _ hu
    rw [Nat.succ_mul] at h1
    exact (k5 (u * C + i) (by omega)).2
  have HRow : Hid (∀ (u : Nat) (W : World), u < R → Calls Tryz.prog 49 #[.agg #[.int .i64 (R : Int), .int .i64 (C : Int), .slice (some ⟨b, q, none⟩) (R * C) k1, .slice adB nB cB], .int .i64 (u : Int)] W fun e w' => e = .returned (.slice (some ⟨b, q + u * C, none⟩) C (k1 - u * C)) ∧ Below W.heap.size W w') := fun u W hu => row_any R C b q k1 u adB nB cB hR hC (by omega) hu k2 k3 W
  obtain ⟨w1, hw1⟩ : ∃ w1, w1 = w.alloc (.cells #[.int .i64 (R : Int), .int .i64 (C : Int), .slice (some ⟨b, q, none⟩) (R * C) k1, .slice adB nB cB] 66) := ⟨_, rfl⟩
  have HB1 : Hid (B4 w.heap.size (.int .i64 (R : Int)) (.int .i64 (C : Int)) (.slice (some ⟨b, q, none⟩) (R * C) k1) (.slice adB nB cB) w1) := by rw [hw1]; exact B4.new w _ _ _ _ _
  have HW1 : Hid (Below w.heap.size w w1) := by rw [hw1]; exact bel1 _ _
  have hs1 : w1.heap.size = w.heap.size + 1 := by rw [hw1, World.size_alloc]
  obtain ⟨w2, hw2⟩ : ∃ w2, w2 = w1.alloc (.cells (madeCells #[.int .i64 0] R) 32) := ⟨_, rfl⟩
  have HB2 : Hid (B4 w.heap.size (.int .i64 (R : Int)) (.int .i64 (C : Int)) (.slice (some ⟨b, q, none⟩) (R * C) k1) (.slice adB nB cB) w2) := by rw [hw2]; exact HB1.out.later (bel1 _ _)
  have HW2 : Hid (Below w.heap.size w w2) := by rw [hw2]; exact bchain HW1.out (bel1 _ _)
  have HR2 : Hid (Rw w1.heap.size R (fun _ => .int .i64 0) w2) := by rw [hw2]; exact Rw.made w1 (.int .i64 0) R 32
  have hmk := make_fx R (by omega)
  have x0 : (w.alloc (.cells #[.int .i64 (R : Int), .int .i64 (C : Int), .slice (some ⟨b, q, none⟩) (R * C) k1, .slice adB nB cB] 66)).cell? ⟨w.heap.size, 0, none⟩ = some (.int .i64 (R : Int)) := (B4.new w _ _ _ _ _).c0
  clear k4 k5
  generalize R * C = RC at *
  go_enter Tryz.func54, Tryz.ntmps54
  go_upto_region 3 with fail
  rw [← hw1, ← hw2]
  rw [hs1] at HR2
  clear hw1 hw2 hmk x0 HB1 HW1 hs1
  go_loopw [13] (fun si wr => ∃ j : Nat, j ≤ R ∧ si = .int .i64 (j : Int) ∧ Hid (Rw (w.heap.size + 1) R (fun k => if k < j then .int .i64 (f (k * C + i)) else .int .i64 0) wr) ∧ Hid (B4 w.heap.size (.int .i64 (R : Int)) (.int .i64 (C : Int)) (.slice (some ⟨b, q, none⟩) RC k1) (.slice adB nB cB) wr) ∧ Hid (Below w.heap.size w wr)) (fun si _ => R - (intOf si).toNat)
  case atStart => exact ⟨0, by omega, rfl, HR2.out.congr (fun k hk => by simp), HB2, HW2⟩
  case round =>
    obtain ⟨j, hj, rfl, HR, HB, HW⟩ := hrel
    by_cases hlt : j < R
    · have hjI : (j : Int) < (R : Int) := by omega
      have hiI : (i : Int) < (C : Int) := by omega
      have CR := HRow.out j wr hlt
      have x0 := HB.out.c0
      have x1 := HB.out.c1
      have x2 := HB.out.c2
      have x3 := HB.out.c3
      go_wp2_with (go_at_call 49; refine CR.mono ?_; rintro e wz ⟨rfl, hb⟩; have HRz : Hid (Rw (w.heap.size + 1) R (fun k => if k < j then .int .i64 (f (k * C + i)) else .int .i64 0) wz) := HR.out.later hb; have HBz : Hid (B4 w.heap.size (.int .i64 (R : Int)) (.int .i64 (C : Int)) (.slice (some ⟨b, q, none⟩) RC k1) (.slice adB nB cB) wz) := HB.out.later hb; have HWz : Hid (Below w.heap.size w wz) := bchain HW.out hb; clear x0 x1 x2 x3 CR hb HR HB HW; have cz : wz.cell? ⟨b, q + j * C + i, none⟩ = some (.int .i64 (f (j * C + i))) := cell_later HWz.out (HC.out j hlt); have rz : wz.cell? ⟨w.heap.size + 1, j, none⟩ = some (.int .i64 0) := (by have := HRz.out.c j hlt; rw [if_neg (by omega)] at this; exact this); have fz := HRz.out.f j hlt)
      have HR3 : Hid (Rw (w.heap.size + 1) R (fun k => if k < j + 1 then .int .i64 (f (k * C + i)) else .int .i64 0) (wz.setCell ⟨w.heap.size + 1, j, none⟩ (.int .i64 (f (j * C + i))))) := (HRz.out.set j (.int .i64 (f (j * C + i)))).congr (fun k hk => by
        by_cases e : k = j
        · subst e; simp
        · rw [if_neg e]
          by_cases e2 : k < j
          · rw [if_pos e2, if_pos (by omega)]
          · rw [if_neg e2, if_neg (by omega)])
      have HB3 : Hid (B4 w.heap.size (.int .i64 (R : Int)) (.int .i64 (C : Int)) (.slice (some ⟨b, q, none⟩) RC k1) (.slice adB nB cB) (wz.setCell ⟨w.heap.size + 1, j, none⟩ (.int .i64 (f (j * C + i))))) := HBz.out.far _ (by dsimp only; omega)
      have HW3 : Hid (Below w.heap.size w (wz.setCell ⟨w.heap.size + 1, j, none⟩ (.int .i64 (f (j * C + i))))) := HWz.out.setCell (by dsimp only; omega) _
      go_roundw
      case rel => exact ⟨j + 1, by omega, by go_num, HR3, HB3, HW3⟩
      case measure => simp [intOf]; omega
    · obtain rfl : j = R := by omega
      have hjI : ¬ (j : Int) < (j : Int) := by omega
      have hAr : Hid (Ar wr (.slice (some ⟨w.heap.size + 1, 0, none⟩) j j) j (fun u => f (u * C + i))) := (HR.out.congr (fun k hk => by rw [if_pos hk])).ar (by omega) HF.out
      clear HR
      go_wp2
      go_ret
      exact ⟨_, rfl, hAr.out, by omega, HW.out⟩
/-- What is below 0 becomes 0. -/
def raisV (v : Int) : Int := if v < 0 then 0 else v
set_option maxRecDepth 100000 in
set_option maxHeartbeats 4000000 in
theorem raise_any (g n : Nat) (F : Nat → Int) (hn : n ≤ 64) (w : World) (hR : Rw g n (fun k => .int .i64 (F k)) w) (p : Option Addr) (c : Int) (w0 : World) (hU : Ux p c w0 w) (hg : w0.heap.size ≤ g) :
    Calls Tryz.prog 27 #[.slice (some ⟨g, 0, none⟩) n n] w fun e w' => e = .returned (.tuple #[]) ∧ Rw g n (fun k => .int .i64 (raisV (F k))) w' ∧ Ux p c w0 w' ∧ (∀ i, i ≠ g → w'.heap[i]? = w.heap[i]?) ∧ w'.heap.size = w.heap.size := by
  have HR0 : Hid (Rw g n (fun k => .int .i64 (F k)) w) := hR
  have HU0 : Hid (Ux p c w0 w) := hU
  clear hR hU
  go_enter Tryz.func27, Tryz.ntmps27
  go_upto_region 1 with fail
  go_loopw [6] (fun si wr => ∃ j : Nat, j ≤ n ∧ si = .int .i64 (j : Int) ∧ Hid (Rw g n (fun k => if k < j then .int .i64 (raisV (F k)) else .int .i64 (F k)) wr) ∧ Hid (Ux p c w0 wr) ∧ Hid (∀ i, i ≠ g → wr.heap[i]? = w.heap[i]?) ∧ Hid (wr.heap.size = w.heap.size)) (fun si _ => n - (intOf si).toNat)
  case atStart => exact ⟨0, by omega, rfl, HR0.out.congr (fun k hk => by simp), HU0, fun _ _ => rfl, rfl⟩
  case round =>
    obtain ⟨j, hj, rfl, HR, HU, HK, HS⟩ := hrel
    by_cases hlt : j < n
    · have hjI : (j : Int) < (n : Int) := by omega
      have cz : wr.cell? ⟨g, j, none⟩ = some (.int .i64 (F j)) := by have := HR.out.c j hlt; rw [if_neg (by omega)] at this; exact this
      have fz := HR.out.f j hlt
      have hmx : max (F j) 0 = raisV (F j) := by unfold raisV; split <;> omega
      have HR3 : Hid (Rw g n (fun k => if k < j + 1 then .int .i64 (raisV (F k)) else .int .i64 (F k)) (wr.setCell ⟨g, j, none⟩ (.int .i64 (raisV (F j))))) := (HR.out.set j (.int .i64 (raisV (F j)))).congr (fun k hk => by
        by_cases e : k = j
        · subst e; simp
        · rw [if_neg e]
          by_cases e2 : k < j
          · rw [if_pos e2, if_pos (by omega)]
          · rw [if_neg e2, if_neg (by omega)])
      have HU3 : Hid (Ux p c w0 (wr.setCell ⟨g, j, none⟩ (.int .i64 (raisV (F j))))) := HU.out.far _ hg
      have HK3 : Hid (∀ i, i ≠ g → (wr.setCell ⟨g, j, none⟩ (.int .i64 (raisV (F j)))).heap[i]? = w.heap[i]?) := fun i hi => (Below.heap_setCell _ _ _ _ (fun e => hi e)).trans (HK.out i hi)
      have HS3 : Hid ((wr.setCell ⟨g, j, none⟩ (.int .i64 (raisV (F j)))).heap.size = w.heap.size) := by show _ = _; rw [World.size_setCell]; exact HS.out
      generalize raisV (F j) = rv at *
      clear HR HU HK HS
      by_cases h0 : F j < 0
      · have h0' : rv = 0 := by omega
        subst h0'
        go_wp2
        go_roundw
        case rel => exact ⟨j + 1, by omega, by go_num, HR3, HU3, HK3, HS3⟩
        case measure => simp [intOf]; omega
      · have h0' : rv = F j := by omega
        subst h0'
        go_wp2
        go_roundw
        case rel => exact ⟨j + 1, by omega, by go_num, HR3, HU3, HK3, HS3⟩
        case measure => simp [intOf]; omega
    · obtain rfl : j = n := by omega
      have hjI : ¬ (j : Int) < (j : Int) := by omega
      go_wp2
      go_end0
      exact ⟨rfl, HR.out.congr (fun k hk => by rw [if_pos hk]), HU.out, HK.out, HS.out⟩
end Go.Proofs.YtdfjnbkkdgolnabGreatDoor
set_option linter.unusedVariables false
set_option linter.unusedSimpArgs false
namespace Go.Proofs.YtdfjnbkkdgolnabGreatDoor
open Go.RowKit

set_option maxRecDepth 100000 in
set_option maxHeartbeats 4000000 in
theorem wProd_any (q0 : Int) (va vb : Value) (n : Nat) (f g : Nat → Int) (hn : n ≤ 70000) (w : World) (hA : Ar w va n f) (hB : Ar w vb n g) :
    Calls Tryz.prog 48 #[.agg #[.int .i64 (t3 q0), .int .u64 (m3 q0), .int .u64 (lo q0)], va, vb] w fun e w' => e = .returned (.agg #[.int .i64 (t3 (q0 + dotV f g n)), .int .u64 (m3 (q0 + dotV f g n)), .int .u64 (lo (q0 + dotV f g n))]) ∧ Below w.heap.size w w' := by
  obtain ⟨adr, cap, b, o, rfl, k1, k2, k3, k4⟩ := hA
  obtain ⟨adq, caq, bq, oq, rfl, q1, q2, q3, q4⟩ := hB
  unfold maxLen at *
  have HA : Hid (∀ k, k < n → w.cell? ⟨b, o + k, none⟩ = some (.int .i64 (f k)) ∧ -9223372036854775808 ≤ f k ∧ f k ≤ 9223372036854775807) := k4
  have HK : Hid (0 < n → adr = some ⟨b, o, none⟩) := k3
  have HB : Hid (∀ k, k < n → w.cell? ⟨bq, oq + k, none⟩ = some (.int .i64 (g k)) ∧ -9223372036854775808 ≤ g k ∧ g k ≤ 9223372036854775807) := q4
  have HL : Hid (0 < n → adq = some ⟨bq, oq, none⟩) := q3
  clear k3 k4 q3 q4
  go_enter Tryz.func48, Tryz.ntmps48
  go_wp2
  go_loopw [11] (fun si wr => ∃ j : Nat, j ≤ n ∧ si = .int .i64 (j : Int) ∧ B3 w.heap.size (.int .i64 (t3 (q0 + dotV f g j))) (.int .u64 (m3 (q0 + dotV f g j))) (.int .u64 (lo (q0 + dotV f g j))) wr ∧ B3 (w.heap.size + 1) (.int .i64 0) (.int .u64 0) (.int .u64 0) wr ∧ Below w.heap.size w wr) (fun si _ => n - (intOf si).toNat)
  case atStart =>
    have R0 := B3.new (w.alloc (.cells #[.int .i64 (t3 q0), .int .u64 (m3 q0), .int .u64 (lo q0)] 95)) (.int .i64 0) (.int .u64 0) (.int .u64 0) 95
    simp only [World.size_alloc] at R0
    have e0 : q0 + dotV f g 0 = q0 := Int.add_zero _
    exact ⟨0, by omega, rfl, by rw [e0]; exact (B3.new w (.int .i64 (t3 q0)) (.int .u64 (m3 q0)) (.int .u64 (lo q0)) 95).later (bel1 _ _), R0, bel2 w _ _⟩
  case round =>
    obtain ⟨j, hj, rfl, hS, hR, hW⟩ := hrel
    by_cases hlt : j < n
    · have hjI : (j : Int) < (n : Int) := by omega
      have ea := HK.out (by omega)
      subst ea
      obtain ⟨ca, a0, a1⟩ := HA.out j hlt
      have cA : wr.cell? ⟨b, o + j, none⟩ = some (.int .i64 (f j)) := (hW.cell (World.block_lt_of_cell? _ _ ca)).trans ca
      clear ca
      have eb := HL.out (by omega)
      subst eb
      obtain ⟨cb, b0, b1⟩ := HB.out j hlt
      have cB : wr.cell? ⟨bq, oq + j, none⟩ = some (.int .i64 (g j)) := (hW.cell (World.block_lt_of_cell? _ _ cb)).trans cb
      clear cb
      obtain ⟨p0, p1⟩ := mul_in (f j) (g j) a0 a1 b0 b1
      have CM : Hid (∀ W : World, Calls Tryz.prog 66 #[.int .i64 (f j), .int .i64 (g j)] W fun e w' => e = .returned (.agg #[.int .i64 (hi (f j * g j)), .int .u64 (lo (f j * g j))]) ∧ Below W.heap.size W w') := fun W => mul_any (f j) (g j) a0 a1 b0 b1 W
      have CE : Hid (∀ W : World, Calls Tryz.prog 44 #[.agg #[.int .i64 (hi (f j * g j)), .int .u64 (lo (f j * g j))]] W fun e w' => e = .returned (.agg #[.int .i64 (t3 (f j * g j)), .int .u64 (m3 (f j * g j)), .int .u64 (lo (f j * g j))]) ∧ Below W.heap.size W w') := fun W => extend_any (f j * g j) (by omega) (by omega) W
      have CP : Hid (∀ W : World, Calls Tryz.prog 65 #[.agg #[.int .i64 (t3 (q0 + dotV f g j)), .int .u64 (m3 (q0 + dotV f g j)), .int .u64 (lo (q0 + dotV f g j))], .agg #[.int .i64 (t3 (f j * g j)), .int .u64 (m3 (f j * g j)), .int .u64 (lo (f j * g j))]] W fun e w' => e = .returned (.agg #[.int .i64 (t3 (q0 + dotV f g (j + 1))), .int .u64 (m3 (q0 + dotV f g (j + 1))), .int .u64 (lo (q0 + dotV f g (j + 1)))]) ∧ Below W.heap.size W w') := fun W => by
        rw [show q0 + dotV f g (j + 1) = q0 + dotV f g j + f j * g j from (Int.add_assoc _ _ _).symm]
        exact plus_any (q0 + dotV f g j) (f j * g j) W
      clear p0 p1
      generalize t3 (f j * g j) = tq at *
      generalize m3 (f j * g j) = mq at *
      generalize lo (f j * g j) = lq at *
      generalize hi (f j * g j) = hq at *
      clear a0 a1 b0 b1
      generalize t3 (q0 + dotV f g j) = tj at *
      generalize m3 (q0 + dotV f g j) = mj at *
      generalize lo (q0 + dotV f g j) = lj at *
      obtain ⟨tk, htk⟩ : ∃ x, t3 (q0 + dotV f g (j + 1)) = x := ⟨_, rfl⟩
      obtain ⟨mk, hmk⟩ : ∃ x, m3 (q0 + dotV f g (j + 1)) = x := ⟨_, rfl⟩
      obtain ⟨lk, hlk⟩ : ∃ x, lo (q0 + dotV f g (j + 1)) = x := ⟨_, rfl⟩
      rw [htk, hmk, hlk] at CP
      have HE : Hid (t3 (q0 + dotV f g (j + 1)) = tk ∧ m3 (q0 + dotV f g (j + 1)) = mk ∧ lo (q0 + dotV f g (j + 1)) = lk) := ⟨htk, hmk, hlk⟩
      clear htk hmk hlk
      go_upto_region 4 with fail
      have CD := hS.drew
      have CR := hR.drew
      have CV : Hid (Below w.heap.size w wr.drew) := hW.drew
      have xB : wr.drew.cell? ⟨bq, oq + j, none⟩ = some (.int .i64 (g j)) := cB
      have y0 := CD.c0
      have y1 := CD.c1
      have y2 := CD.c2
      have z0 := CD.f0
      have z1 := CD.f1
      have z2 := CD.f2
      clear cA cB hS hR hW
      go_region_with (first
        | (go_at_call 66; refine (CM.out _).mono ?_; rintro e wz ⟨rfl, hb⟩; clear y0 y1 y2 z0 z1 z2; replace xB := cell_later hb xB; replace CD := CD.later hb; replace CR := CR.later hb; replace CV := hidD' CV hb; clear hb; have y0 := CD.c0; have y1 := CD.c1; have y2 := CD.c2; have z0 := CD.f0; have z1 := CD.f1; have z2 := CD.f2)
        | (go_at_call 44; refine (CE.out _).mono ?_; rintro e wz ⟨rfl, hb⟩; clear y0 y1 y2 z0 z1 z2; replace xB := cell_later hb xB; replace CD := CD.later hb; replace CR := CR.later hb; replace CV := hidD' CV hb; clear hb; have y0 := CD.c0; have y1 := CD.c1; have y2 := CD.c2; have z0 := CD.f0; have z1 := CD.f1; have z2 := CD.f2)
        | (go_at_call 65; refine (CP.out _).mono ?_; rintro e wz ⟨rfl, hb⟩; clear y0 y1 y2 z0 z1 z2; replace xB := cell_later hb xB; replace CD := CD.later hb; replace CR := CR.later hb; replace CV := hidD' CV hb; clear hb; have y0 := CD.c0; have y1 := CD.c1; have y2 := CD.c2; have z0 := CD.f0; have z1 := CD.f1; have z2 := CD.f2))
      all_goals
        have D5 := ((CD.set0 (.int .i64 tk)).set1 (.int .u64 mk)).set2 (.int .u64 lk)
        have R5 := ((CR.far (p := ⟨w.heap.size, 0, none⟩) (.int .i64 tk) (by dsimp only; omega)).far (p := ⟨w.heap.size, 1, none⟩) (.int .u64 mk) (by dsimp only; omega)).far (p := ⟨w.heap.size, 2, none⟩) (.int .u64 lk) (by dsimp only; omega)
        have W5 := ((CV.out.setCell (p := ⟨w.heap.size, 0, none⟩) (Nat.le_refl _) (.int .i64 tk)).setCell (p := ⟨w.heap.size, 1, none⟩) (Nat.le_refl _) (.int .u64 mk)).setCell (p := ⟨w.heap.size, 2, none⟩) (Nat.le_refl _) (.int .u64 lk)
        obtain ⟨rfl, rfl, rfl⟩ := HE.out
        clear CD CR CV CM CE CP xB y0 y1 y2 z0 z1 z2 HE
        go_wp2
        go_roundw
        case rel => exact ⟨j + 1, by omega, by go_num, D5, R5, W5⟩
        case measure => simp [intOf]; omega
    · obtain rfl : j = n := by omega
      have hjI : ¬ (j : Int) < (j : Int) := by omega
      have y0 := hS.c0
      have y1 := hS.c1
      have y2 := hS.c2
      have z0 := hR.c0
      have z1 := hR.c1
      have z2 := hR.c2
      have u0 := hR.f0
      have u1 := hR.f1
      have u2 := hR.f2
      have S0 := ((hR.set0 (.int .i64 (t3 (q0 + dotV f g j)))).set1 (.int .u64 (m3 (q0 + dotV f g j)))).set2 (.int .u64 (lo (q0 + dotV f g j)))
      have s0 := S0.c0
      have s1 := S0.c1
      have s2 := S0.c2
      have W5 := ((hW.setCell (p := ⟨w.heap.size + 1, 0, none⟩) (by dsimp only; omega) (.int .i64 (t3 (q0 + dotV f g j)))).setCell (p := ⟨w.heap.size + 1, 1, none⟩) (by dsimp only; omega) (.int .u64 (m3 (q0 + dotV f g j)))).setCell (p := ⟨w.heap.size + 1, 2, none⟩) (by dsimp only; omega) (.int .u64 (lo (q0 + dotV f g j)))
      clear hS hR hW S0 HA HB HK HL
      go_wp2
      exact bodyPost_ret (v := .agg #[.int .i64 (t3 (q0 + dotV f g j)), .int .u64 (m3 (q0 + dotV f g j)), .int .u64 (lo (q0 + dotV f g j))]) (by simp [results, Tryz.results48, go_sem, s0, s1, s2]) rfl ⟨rfl, W5⟩

end Go.Proofs.YtdfjnbkkdgolnabGreatDoor
